/- What holds between two rounds of the comparison of two global types. -/
import Derived.Test.YtfppglfajbmapaaDoorQc
import Derived.Deep.LoopGhost
import Derived.Deep.AppendLies
import Derived.Deep.RegionHeld3
namespace Go.Proofs.YtfppglfajbmapaaDoor
open Go.RowKit

/-- What holds between two rounds of the comparison. -/
def RelS (W0 : World) (root : Bool) (m n : Nat) (v : Value) (wr : World) : Prop :=
  ∃ (L : List Pr) (S : List En), wsum L ≤ n ∧ n ≤ 1048577 ∧ wr.ownsRow W0.heap.size ( /- t -/ 138) 10 v L.length (L.flatMap Pr.cells) ∧ MapIs wr m (S.map En.ky) ∧ Inv root L S ∧
    (∀ p, p ∈ L → p.Ok W0) ∧ (∀ e, e ∈ S → e.Ok W0) ∧ W0.heap.size ≤ m ∧ Below W0.heap.size W0 wr

theorem rel_start (w : World) (x : Pr) (o1 o2 : Obj) (hok : x.Ok w) (hsz : x.f.sz ≤ 1048576) :
    RelS w x.b (w.heap.size + 1 + 1) (x.f.sz + 1) (.slice (some ⟨w.heap.size + 1 + 1 + 1, 0, none⟩) 1 1) ((((w.alloc o1).alloc o2).alloc (.map #[] 0)).alloc (.cells x.cells.toArray ( /- t -/ 138))) := by
  have hs2 : ((w.alloc o1).alloc o2).heap.size = w.heap.size + 1 + 1 := by simp
  have hs3 : (((w.alloc o1).alloc o2).alloc (.map #[] 0)).heap.size = w.heap.size + 1 + 1 + 1 := by simp
  refine ⟨[x], [], ?_, by omega, ?_, ?_, Inv.start x, fun p hp => by simp at hp; rw [hp]; exact hok, fun e he => by simp at he, by omega, ?_⟩
  · simp [wsum]
  · have h := World.ownsRow_lit (base := w.heap.size) (e := ( /- t -/ 138)) (size := 10) (((w.alloc o1).alloc o2).alloc (.map #[] 0)) x.cells.toArray 1 (by rw [hs3]; omega) (by unfold maxLen; omega) rfl
    rw [hs3] at h
    simpa using h
  · have h := MapIs.made ((w.alloc o1).alloc o2)
    rw [hs2] at h
    exact h.same ((alloc_below (((w.alloc o1).alloc o2).alloc (.map #[] 0)) _).block _ (by rw [hs3]; omega))
  · exact (((((Below.refl _ _).alloc (Nat.le_refl _) _).alloc (by simp) _).alloc (by simp; omega) _).alloc (by simp; omega) _)

theorem row_shape {w : World} {base : Nat} {e : TypeId} {size : Nat} {v : Value} {n : Nat} {xs : List Value} (h : w.ownsRow base e size v n xs) : ∃ a cap, v = .slice a n cap := by
  rcases h.2 with ⟨rfl, rfl⟩ | ⟨g, cap, cur, rfl, _⟩
  · exact ⟨_, _, rfl⟩
  · exact ⟨_, _, rfl⟩
theorem row_cut {w : World} {base : Nat} {e : TypeId} {size : Nat} {g n m cap : Nat} {xs : List Value} (h : w.ownsRow base e size (.slice (some ⟨g, 0, none⟩) n cap) n xs) (hm : m ≤ n) :
    w.ownsRow base e size (.slice (some ⟨g, 0, none⟩) m cap) m (xs.take (m * size)) := by
  have hle : m * size ≤ n * size := Nat.mul_le_mul_right _ hm
  rcases h with ⟨hl, ⟨hv, _⟩ | ⟨g', cap', cur, hv, hb, hh, hc, hc', hs, ht⟩⟩
  · cases hv
  · simp only [Value.slice.injEq, Option.some.injEq, Addr.mk.injEq, and_true] at hv
    obtain ⟨rfl, -, rfl⟩ := hv
    refine ⟨by rw [List.length_take, hl, Nat.min_eq_left hle], Or.inr ⟨g, cap, cur, rfl, hb, hh, Nat.le_trans hm hc, hc', hs, ?_⟩⟩
    rw [← ht, List.take_take, Nat.min_eq_left hle]

theorem row_cap {w : World} {base : Nat} {e : TypeId} {size : Nat} {a : Option Addr} {n cap : Nat} {xs : List Value} (h : w.ownsRow base e size (.slice a n cap) n xs) : n ≤ cap ∧ cap ≤ maxLen := by
  rcases h.2 with ⟨e, rfl⟩ | ⟨g, cap', cur, e, _, _, h1, h2, _⟩
  · simp only [Value.slice.injEq] at e
    obtain ⟨_, _, rfl⟩ := e
    exact ⟨Nat.le_refl _, Nat.zero_le _⟩
  · simp only [Value.slice.injEq] at e
    obtain ⟨_, _, rfl⟩ := e
    exact ⟨h1, h2⟩

theorem two_new (w : World) (v0 v1 v2 v3 v4 u0 u1 u2 u3 u4 : Value) (t : TypeId) :
    Box5 (((w.alloc (.cells #[v0, v1, v2, v3, v4] t)).alloc (.cells #[u0, u1, u2, u3, u4] t)).drew) w.heap.size v0 v1 v2 v3 v4 ∧
    Box5 (((w.alloc (.cells #[v0, v1, v2, v3, v4] t)).alloc (.cells #[u0, u1, u2, u3, u4] t)).drew) (w.heap.size + 1) u0 u1 u2 u3 u4 ∧
    Below w.heap.size w (((w.alloc (.cells #[v0, v1, v2, v3, v4] t)).alloc (.cells #[u0, u1, u2, u3, u4] t)).drew) ∧ w.heap.size ≠ w.heap.size + 1 := by
  have h1 := Box5.now w v0 v1 v2 v3 v4 t
  have h2 := Box5.now (w.alloc (.cells #[v0, v1, v2, v3, v4] t)) u0 u1 u2 u3 u4 t
  rw [show (w.alloc (.cells #[v0, v1, v2, v3, v4] t)).heap.size = w.heap.size + 1 from by simp] at h2
  exact ⟨(h1.below (alloc_below _ _)).drew, h2.drew, ((alloc_below w _).alloc (by simp) _).drew, by omega⟩

theorem row_below {w w' : World} {base : Nat} {e : TypeId} {size : Nat} {v : Value} {n : Nat} {xs : List Value} (h : w.ownsRow base e size v n xs) (hb : Below w.heap.size w w') : w'.ownsRow base e size v n xs := by
  rcases h with ⟨hl, h | ⟨g, cap, cur, hv, hg, hh, hr⟩⟩
  · exact ⟨hl, Or.inl h⟩
  · exact ⟨hl, Or.inr ⟨g, cap, cur, hv, hg, (hb.block g (Array.getElem?_eq_some_iff.1 hh).1).trans hh, hr⟩⟩

theorem rel_next {w wr w8 : World} {root : Bool} {M n0 : Nat} {v : Value} {L0 : List Pr} {S : List En} (hcut : wr.ownsRow w.heap.size ( /- t -/ 138) 10 v n0 (L0.flatMap Pr.cells)) (hn0 : n0 = L0.length) (hmap : MapIs wr M (S.map En.ky))
    (hb : Below wr.heap.size wr w8) (hinv : Inv root L0 S) (hL : ∀ p, p ∈ L0 → p.Ok w) (hS : ∀ e, e ∈ S → e.Ok w) (hM : w.heap.size ≤ M) (hbw : Below w.heap.size w wr) (hn : wsum L0 ≤ 1048577) : RelS w root M (wsum L0) v w8 := by
  subst hn0
  exact ⟨L0, S, Nat.le_refl _, hn, row_below hcut hb, hmap.same (hb.block _ hmap.lt), hinv, hL, hS, hM, hbw.trans (hb.mono hbw.size)⟩

theorem Ow.head {w : World} {a : Option Addr} {n c : Nat} {f : F} {bs : List Nat} (h : Ow w (.slice a n c) f bs) (h0 : f.len ≠ 0) : ∃ b k cs, a = some ⟨b, 0, none⟩ ∧ Free w b k ∧ OwRow w b 0 f cs := by
  obtain ⟨a', cap, e, _, _, h⟩ := h
  simp only [Value.slice.injEq] at e
  obtain ⟨rfl, _, _⟩ := e
  rcases h with ⟨rfl, _⟩ | ⟨b, k, bs', e2, _, hf, _, hr⟩
  · exact absurd rfl h0
  · exact ⟨b, k, bs', e2, hf, hr⟩
theorem Free.good {w : World} {b n : Nat} (h : Free w b n) : Good w b := by
  obtain ⟨cs, t, h, _⟩ := h
  exact ⟨cs, t, h⟩
theorem En.Ok.good {w w' : World} {e : En} (h : e.Ok w) (hb : Below w.heap.size w w') : e.ky.Good w' := by
  obtain ⟨⟨_, _, h1, _⟩, ⟨_, _, h2, _⟩, _⟩ := h
  exact ⟨h1.good.below hb, h2.good.below hb⟩
theorem len_zero {f : F} (h : f.len = 0) : f = .nil := by
  cases f with
  | nil => rfl
  | cons => simp [F.len] at h

theorem below_grown {B M : Nat} {a b c : World} (hB : B ≤ a.heap.size) (h : Below B a b) (hg : b.grownBy c (some M)) (hM : B ≤ M) : Below B a c :=
  ⟨hg.os.trans h.os, hg.tape.trans h.tape, hg.output.trans h.output, Nat.le_trans h.size hg.size, fun k hk => (hg.block k (Nat.lt_of_lt_of_le (Nat.lt_of_lt_of_le hk hB) h.size) (fun e => by cases e; omega)).trans (h.block k hk)⟩
theorem row_grown {b c : World} {base : Nat} {e : TypeId} {size : Nat} {v : Value} {n M : Nat} {xs : List Value} {S : List Ky} (h : b.ownsRow base e size v n xs) (hm : MapIs b M S) (hg : b.grownBy c (some M)) : c.ownsRow base e size v n xs := by
  obtain ⟨es, ck, hm, _⟩ := hm
  rcases h with ⟨hl, h | ⟨g, cap, cur, hv, hb, hh, hr⟩⟩
  · exact ⟨hl, Or.inl h⟩
  · have hne : g ≠ M := fun e => by rw [e, hm] at hh; cases hh
    exact ⟨hl, Or.inr ⟨g, cap, cur, hv, hb, (hg.block g (Array.getElem?_eq_some_iff.1 hh).1 (fun e => hne (by cases e; rfl))).trans hh, hr⟩⟩
theorem map_grown {b c : World} {base : Nat} {e : TypeId} {size : Nat} {v : Value} {n M : Nat} {xs : List Value} {S : List Ky} (h : b.ownsRow base e size v n xs) (hm : MapIs b M S) (hg : b.grownBy c v.ownBlock) : MapIs c M S := by
  refine hm.same (hg.block M hm.lt (fun e => ?_))
  obtain ⟨es, ck, hm, _⟩ := hm
  rcases h.2 with ⟨rfl, _⟩ | ⟨g, cap, cur, rfl, _, hh, _⟩
  · cases e
  · simp only [Value.ownBlock, Option.some.injEq] at e
    subst e
    rw [hm] at hh
    cases hh
theorem below_row {B : Nat} {a b c : World} {e : TypeId} {size : Nat} {v : Value} {n : Nat} {xs : List Value} (hB : B ≤ a.heap.size) (h : Below B a b) (hr : b.ownsRow B e size v n xs) (hg : b.grownBy c v.ownBlock) : Below B a c :=
  ⟨hg.os.trans h.os, hg.tape.trans h.tape, hg.output.trans h.output, Nat.le_trans h.size hg.size, fun k hk => (hg.block k (Nat.lt_of_lt_of_le (Nat.lt_of_lt_of_le hk hB) h.size) (fun e => by have := (hr.lt k e.symm).1; omega)).trans (h.block k hk)⟩
theorem mem_wsum {p : Pr} : ∀ {L : List Pr}, p ∈ L → p.f.sz + 1 ≤ wsum L
  | q :: L, h => by
    rcases List.mem_cons.1 h with rfl | h
    · simp only [wsum]; omega
    · have := mem_wsum h
      simp only [wsum]; omega

/-- What holds between two rounds over the branches of a pair. -/
def RelI (w0 : World) (M b1 b2 : Nat) (f1 f2 : F) (L0 : List Pr) (S : List En) (v iv : Value) (wr : World) : Prop :=
  ∃ (h h' : F) (j : Nat) (P : List Pr), j + h.len = f1.len ∧ iv = .int .i64 j ∧ h.len = h'.len ∧ h.sz + wsum P = f1.sz ∧ (∃ cs, OwRow w0 b1 (j * 6) h cs) ∧ (∃ cs, OwRow w0 b2 (j * 6) h' cs) ∧
    sameF f1 f2 = (P.all Pr.b && sameF h h') ∧ (∀ p, p ∈ P → p.Ok w0) ∧ wr.ownsRow w0.heap.size ( /- t -/ 138) 10 v (L0 ++ P).length ((L0 ++ P).flatMap Pr.cells) ∧ MapIs wr M (S.map En.ky) ∧ Below w0.heap.size w0 wr

theorem OwRow.head {w : World} {b o : Nat} {lab : ByteArray} {k : Int} {fr to : ByteArray} {ix : Int} {kids rest : F} {bs : List Nat} (h : OwRow w b o (.cons lab k fr to ix kids rest) bs) :
    ∃ v, w.cell? ⟨b, o, none⟩ = some (.string lab) ∧ w.cell? ⟨b, o + 1, none⟩ = some (.int .i64 k) ∧ w.cell? ⟨b, o + 2, none⟩ = some (.string fr) ∧ w.cell? ⟨b, o + 3, none⟩ = some (.string to) ∧
      w.cell? ⟨b, o + 4, none⟩ = some (.int .i64 ix) ∧ w.cell? ⟨b, o + 5, none⟩ = some v ∧ (∃ ks, Ow w v kids ks) ∧ ∃ rs, OwRow w b (o + 6) rest rs := by
  obtain ⟨_, _, _, _, _, c0, c1, c2, c3, c4, ks, rs, _, ⟨a, cap, c5, h1, h2, h3⟩, hr⟩ := h
  exact ⟨_, c0, c1, c2, c3, c4, c5, ⟨ks, a, cap, rfl, h1, h2, h3⟩, rs, hr⟩

theorem pairInfo : (Tryd.prog.info? ( /- t -/ 138)).map (fun i => (i.zero.map (fun z => z.cells.size), i.size, i.bytes)) = some (some 10, 10, 144) := by kernel_rfl

theorem pair_info : ∃ i z, Tryd.prog.info? ( /- t -/ 138) = some i ∧ i.zero = some z ∧ i.size = 10 ∧ i.bytes = 144 ∧ z.cells.size = 10 := by
  have h := pairInfo
  cases hi : Tryd.prog.info? ( /- t -/ 138) with
  | none => rw [hi] at h; cases h
  | some i =>
    rw [hi] at h
    simp only [Option.map_some, Option.some.injEq, Prod.mk.injEq] at h
    obtain ⟨h1, h2, h3⟩ := h
    cases hz : i.zero with
    | none => rw [hz] at h1; cases h1
    | some z =>
      rw [hz] at h1
      exact ⟨i, z, rfl, hz, h2, h3, by simpa using h1⟩
theorem len_le : ∀ f : F, f.len ≤ f.sz
  | .nil => Nat.le_refl _
  | .cons _ _ _ _ _ _ rest => by have := len_le rest; simp only [F.len, F.sz]; omega

theorem rel_step {w0 wr w12 w13 : World} {M b1 b2 j gg cp : Nat} {f1 f2 kids rest kids' rest' : F} {L0 P : List Pr} {S : List En} {v s1 s2 : Value} {o1 o2 : Obj}
    {lab fr3 to3 lab' fr4 to4 : ByteArray} {kd ix3 kd' ix4 : Int} (hK : j + 1 + rest.len = f1.len ∧ rest.len = rest'.len) (hlab : (lab.toList == lab'.toList) = true)
    (hX : (F.cons lab kd fr3 to3 ix3 kids rest).sz + wsum P = f1.sz ∧ sameF f1 f2 = (P.all Pr.b && sameF (F.cons lab kd fr3 to3 ix3 kids rest) (F.cons lab' kd' fr4 to4 ix4 kids' rest')) ∧ (∀ p, p ∈ P → p.Ok w0) ∧
      wr.ownsRow w0.heap.size ( /- t -/ 138) 10 v (L0 ++ P).length ((L0 ++ P).flatMap Pr.cells) ∧ MapIs wr M (S.map En.ky) ∧ Below w0.heap.size w0 wr ∧ (∃ ks, Ow w0 s1 kids ks) ∧ (∃ ks, Ow w0 s2 kids' ks) ∧
      (∃ rs, OwRow w0 b1 (j * 6 + 6) rest rs) ∧ ∃ rs, OwRow w0 b2 (j * 6 + 6) rest' rs)
    (hb14 : Below wr.heap.size wr w12)
    (hown13 : w13.ownsRow w0.heap.size ( /- t -/ 138) 10 (.slice (some ⟨gg, 0, none⟩) ((L0 ++ P).length + 1) cp) ((L0 ++ P).length + 1) ((L0 ++ P).flatMap Pr.cells ++ Pr.cells ⟨kd, fr3, to3, ix3, s1, kids, kd', fr4, to4, ix4, s2, kids'⟩))
    (hgrow13 : ((w12.alloc o1).alloc o2).grownBy w13 v.ownBlock) (hbig : f1.sz ≤ 1048577) :
    RelI w0 M b1 b2 f1 f2 L0 S (.slice (some ⟨gg, 0, none⟩) (L0.length + P.length + 1) cp) (.int .i64 (wrap64 (j + 1))) w13 ∧ f1.len - (intOf (.int .i64 (wrap64 (j + 1)))).toNat < f1.len - (intOf (.int .i64 j)).toNat := by
  have hjb := len_le f1
  obtain ⟨hsz, hsame, hP, hown, hmap, hbw, hk1, hk2, ⟨rs1, hrr1⟩, rs2, hrr2⟩ := hX
  have hb15 := (hb14.alloc hb14.size o1).alloc (Nat.le_trans hb14.size (by simp)) o2
  have hown15 := row_below hown hb15
  have hmap15 : MapIs _ M _ := hmap.same (hb15.block _ hmap.lt)
  have hbw15 := hbw.trans (hb15.mono hbw.size)
  have hw : wrap64 ((j : Int) + 1) = ((j + 1 : Nat) : Int) := by
    unfold wrap64
    omega
  rw [hw]
  refine ⟨⟨rest, rest', j + 1, P ++ [⟨kd, fr3, to3, ix3, s1, kids, kd', fr4, to4, ix4, s2, kids'⟩], by omega, rfl, hK.2, ?_, ⟨rs1, by rw [Nat.add_mul]; exact hrr1⟩, ⟨rs2, by rw [Nat.add_mul]; exact hrr2⟩, ?_, fun p hp => ?_, ?_, map_grown hown15 hmap15 hgrow13, below_row (Nat.le_refl _) hbw15 hown15 hgrow13⟩, by simp [intOf]; omega⟩
  · rw [wsum_app]
    simp only [wsum, F.sz] at hsz ⊢
    omega
  · rw [hsame, List.all_append]
    simp only [sameF, hlab, List.all_cons, List.all_nil, Pr.b, sameN, Bool.true_and, Bool.and_true, Bool.and_assoc]
  · rcases List.mem_append.1 hp with hp | hp
    · exact hP p hp
    · simp at hp
      rw [hp]
      exact ⟨hk1, hk2⟩
  · have hlen : (L0 ++ (P ++ [(⟨kd, fr3, to3, ix3, s1, kids, kd', fr4, to4, ix4, s2, kids'⟩ : Pr)])).length = (L0 ++ P).length + 1 := by simp; omega
    rw [hlen, ← List.append_assoc, List.flatMap_append, List.length_append] at *
    simpa using hown13

end Go.Proofs.YtfppglfajbmapaaDoor
