/- Gr, Eva, Td, Sb, Us, Ula, Uq, Dr, Dx -/
import Derived.Test.YtfppglfajbmapaaDoorTree
import Derived.Deep.AppendLies
import Derived.Test.YtfppglfajbmapaaDoorUv
import Derived.Test.YtfppglfajbmapaaDoorRows
import Derived.WalkKit
import Derived.WalkSpells
import Derived.WalkLawsBesides
import Derived.Test.YtfppglfajbmapaaDoorSc
import Derived.RegionTactic
import Derived.Deep.RegionHeld3
import Derived.Test.YtfppglfajbmapaaDoorSp
import Derived.Deep.CutRange
import Derived.Test.YtfppglfajbmapaaDoorCg
import Derived.Deep.LoopGhost
import Derived.Test.YtfppglfajbmapaaDoorDz
/- A slice of branches of the call's own that grows by append: its cells and the tree that it reads as. -/
namespace Go.Proofs.YtfppglfajbmapaaDoor
open Go.RowKit

/-- The row's cells stand at another place. -/
theorem OwRow.moved {w w' : World} : ∀ (f : F) (b o b' o' : Nat) (bs : List Nat), OwRow w b o f bs → (∀ i, i < 6 * f.len → w'.cell? ⟨b', o' + i, none⟩ = w.cell? ⟨b, o + i, none⟩) → Same w w' bs → OwRow w' b' o' f bs := by
  intro f
  induction f with
  | nil => intro b o b' o' bs h _ _; exact h
  | cons lab k fr tq ix kids rest ihk ihr =>
    intro b o b' o' bs hr hc hsame
    obtain ⟨h2, h3, h4, h5, h6, c0, c1, c2, c3, c4, ks, rs, rfl, ⟨a, cap, c5, e1, e2, hs⟩, hrest⟩ := hr
    have q : ∀ i, i < 6 → w'.cell? ⟨b', o' + i, none⟩ = w.cell? ⟨b, o + i, none⟩ := fun i hi => hc i (by simp only [F.len]; omega)
    refine ⟨h2, h3, h4, h5, h6, (q 0 (by omega)).trans c0, (q 1 (by omega)).trans c1, (q 2 (by omega)).trans c2, (q 3 (by omega)).trans c3, (q 4 (by omega)).trans c4, ks, rs, rfl, ⟨a, cap, (q 5 (by omega)).trans c5, e1, e2, ?_⟩,
      ihr _ _ _ _ _ hrest (fun i hi => by rw [Nat.add_assoc, Nat.add_assoc]; exact hc (6 + i) (by simp only [F.len]; omega)) (fun x hx => hsame x (List.mem_append_right _ hx))⟩
    rcases hs with hs | ⟨b2, n, ks', e3, rfl, hf, hne, e4⟩
    · exact Or.inl hs
    · have hb' : w'.heap[b2]? = w.heap[b2]? := hsame b2 (by simp)
      refine Or.inr ⟨b2, n, ks', e3, rfl, ?_, hne, e4.same _ _ _ _ (fun i _ => Same.cell hb') (fun x hx => hsame x (by simp [hx]))⟩
      obtain ⟨cs, t, hh, hn⟩ := hf
      exact ⟨cs, t, hb'.trans hh, hn⟩

/-- The slice that grows: nil, or a row of its own block, from base on, the blocks below it from base on too, each named once. -/
def Gr (w : World) (base : Nat) (v : Value) (f : F) (bs : List Nat) : Prop :=
  (f = .nil ∧ v = .slice none 0 0 ∧ bs = []) ∨
  ∃ g cap cur bs', v = .slice (some ⟨g, 0, none⟩) f.len cap ∧ base ≤ g ∧ w.heap[g]? = some (.cells cur ( /- t -/ 76) (0, 0)) ∧ f.len ≤ cap ∧ cap ≤ maxLen ∧ cur.size = cap * 6 ∧
    f ≠ .nil ∧ bs = g :: bs' ∧ OwRow w g 0 f bs' ∧ (∀ b, b ∈ bs' → base ≤ b) ∧ (g :: bs').Nodup

theorem Gr.nil (w : World) (base : Nat) : Gr w base (.slice none 0 0) .nil [] := Or.inl ⟨rfl, rfl, rfl⟩
theorem Gr.ow {w : World} {base : Nat} {v : Value} {f : F} {bs : List Nat} (h : Gr w base v f bs) : Ow w v f bs := by
  rcases h with ⟨rfl, rfl, rfl⟩ | ⟨g, cap, cur, bs', rfl, h1, h2, h3, h4, h5, h6, rfl, h7, h8, h9⟩
  · exact ⟨none, 0, rfl, Nat.le_refl _, Nat.zero_le _, Or.inl ⟨rfl, rfl⟩⟩
  · exact ⟨_, cap, rfl, h3, h4, Or.inr ⟨g, cap * 6, bs', rfl, rfl, ⟨cur, _, h2, h5⟩, h6, h7⟩⟩
theorem Gr.ge {w : World} {base : Nat} {v : Value} {f : F} {bs : List Nat} (h : Gr w base v f bs) : ∀ b, b ∈ bs → base ≤ b := by
  rcases h with ⟨rfl, rfl, rfl⟩ | ⟨g, cap, cur, bs', rfl, h1, h2, h3, h4, h5, h6, rfl, h7, h8, h9⟩
  · intro b hb; simp at hb
  · intro b hb
    rcases List.mem_cons.1 hb with rfl | hb
    · exact h1
    · exact h8 b hb
theorem Gr.nodup {w : World} {base : Nat} {v : Value} {f : F} {bs : List Nat} (h : Gr w base v f bs) : bs.Nodup := by
  rcases h with ⟨rfl, rfl, rfl⟩ | ⟨g, cap, cur, bs', rfl, h1, h2, h3, h4, h5, h6, rfl, h7, h8, h9⟩
  · exact List.nodup_nil
  · exact h9
theorem Gr.val {w : World} {base : Nat} {v : Value} {f : F} {bs : List Nat} (h : Gr w base v f bs) : ∃ a cap, v = .slice a f.len cap := h.ow.val
theorem Gr.lt {w : World} {base : Nat} {v : Value} {f : F} {bs : List Nat} (h : Gr w base v f bs) : ∀ b, b ∈ bs → b < w.heap.size := h.ow.lt
/-- The block is one of them. -/
theorem Gr.block {w : World} {base : Nat} {v : Value} {f : F} {bs : List Nat} (h : Gr w base v f bs) : ∀ g, v.ownBlock = some g → g ∈ bs := by
  rcases h with ⟨rfl, rfl, rfl⟩ | ⟨g, cap, cur, bs', rfl, h1, h2, h3, h4, h5, h6, rfl, h7, h8, h9⟩
  · intro g hg; simp [Value.ownBlock] at hg
  · intro g' hg
    simp only [Value.ownBlock, Option.some.injEq] at hg
    simp [hg]
theorem Gr.same {w w' : World} {base : Nat} {v : Value} {f : F} {bs : List Nat} (h : Gr w base v f bs) (hs : Same w w' bs) : Gr w' base v f bs := by
  rcases h with h | ⟨g, cap, cur, bs', rfl, h1, h2, h3, h4, h5, h6, rfl, h7, h8, h9⟩
  · exact Or.inl h
  · have hg : w'.heap[g]? = w.heap[g]? := hs g (by simp)
    exact Or.inr ⟨g, cap, cur, bs', rfl, h1, hg.trans h2, h3, h4, h5, h6, rfl, h7.same _ _ _ _ (fun i _ => Same.cell hg) (fun x hx => hs x (by simp [hx])), h8, h9⟩
theorem Gr.below {w w' : World} {base : Nat} {v : Value} {f : F} {bs : List Nat} (h : Gr w base v f bs) (hb : Below w.heap.size w w') : Gr w' base v f bs := h.same (Same.of_below hb h.lt)

/-- The cells of the row. -/
def grXs (w : World) (v : Value) (f : F) : List Value :=
  match v with
  | .slice (some a) _ _ => match w.heap[a.block]? with
    | some (.cells cur _ _) => cur.toList.take (f.len * 6)
    | _ => []
  | _ => []
theorem Gr.owns {w : World} {base : Nat} {v : Value} {f : F} {bs : List Nat} (h : Gr w base v f bs) : w.ownsRow base ( /- t -/ 76) 6 v f.len (grXs w v f) := by
  rcases h with ⟨rfl, rfl, rfl⟩ | ⟨g, cap, cur, bs', rfl, h1, h2, h3, h4, h5, h6, rfl, h7, h8, h9⟩
  · exact ⟨by simp [grXs, F.len], Or.inl ⟨rfl, rfl⟩⟩
  · have hx : grXs w (.slice (some ⟨g, 0, none⟩) f.len cap) f = cur.toList.take (f.len * 6) := by
      unfold grXs
      simp only [h2]
    rw [hx]
    refine ⟨?_, Or.inr ⟨g, cap, cur, rfl, h1, h2, h3, h4, h5, rfl⟩⟩
    rw [List.length_take, Array.length_toList, h5]
    omega

theorem ownsRow_cell {w : World} {base e n : Nat} {g cap : Nat} {xs : List Value} (h : w.ownsRow base e 6 (.slice (some ⟨g, 0, none⟩) n cap) n xs) (hn : 0 < n) (i : Nat) (hi : i < n * 6) :
    ∃ cur, w.heap[g]? = some (.cells cur e (0, 0)) ∧ n ≤ cap ∧ cap ≤ maxLen ∧ cur.size = cap * 6 ∧ base ≤ g ∧ w.cell? ⟨g, i, none⟩ = xs[i]? := by
  obtain ⟨hl, h | ⟨g', cap', cur, hv, h1, h2, h3, h4, h5, h6⟩⟩ := h
  · omega
  · simp only [Value.slice.injEq, Option.some.injEq, Addr.mk.injEq, true_and] at hv
    obtain ⟨⟨rfl, _⟩, rfl⟩ := hv
    refine ⟨cur, h2, h3, h4, h5, h1, ?_⟩
    rw [← h6, List.getElem?_take]
    rw [if_pos hi]
    simp [World.cell?, h2]

/-- One branch more. -/
theorem Gr.push {w w' : World} {base : Nat} {v : Value} {f : F} {bs : List Nat} (h : Gr w base v f bs) {lab fr tq : ByteArray} {k ix : Int} {u : Value} {kids : F} {ks : List Nat} (hu : Ow w u kids ks) (hks : ∀ b, b ∈ ks → base ≤ b) (hnd : ks.Nodup) (hdj : ∀ b, b ∈ bs → b ∉ ks)
    (hl : lab.size ≤ maxLen) (hf : fr.size ≤ maxLen) (ht : tq.size ≤ maxLen) (hk : (Lit.int .i64 k).wf = true) (hi : (Lit.int .i64 ix).wf = true)
    {g cap : Nat} (hw' : w'.ownsRow base ( /- t -/ 76) 6 (.slice (some ⟨g, 0, none⟩) (f.len + 1) cap) (f.len + 1) (grXs w v f ++ [.string lab, .int .i64 k, .string fr, .string tq, .int .i64 ix, u]))
    (hgr : w.grownBy w' v.ownBlock) (hg : v.ownBlock = some g ∨ g = w.heap.size) :
    ∃ bs', Gr w' base (.slice (some ⟨g, 0, none⟩) (f.len + 1) cap) (f.app (.cons lab k fr tq ix kids .nil)) bs' ∧ (∀ b, b ∈ bs' → b ∈ bs ∨ b ∈ ks ∨ b = w.heap.size) := by
  obtain ⟨cur, c1, c2, c3, c4, c5, _⟩ := ownsRow_cell hw' (by omega) 0 (by omega)
  have hcell : ∀ i, i < (f.len + 1) * 6 → w'.cell? ⟨g, i, none⟩ = (grXs w v f ++ [.string lab, .int .i64 k, .string fr, .string tq, .int .i64 ix, u])[i]? := fun i hi => by
    obtain ⟨_, _, _, _, _, _, hh⟩ := ownsRow_cell hw' (by omega) i hi
    exact hh
  have hxl : (grXs w v f).length = f.len * 6 := h.owns.1
  have hn : ∀ j, j < 6 → w'.cell? ⟨g, 0 + f.len * 6 + j, none⟩ = ([.string lab, .int .i64 k, .string fr, .string tq, .int .i64 ix, u] : List Value)[j]? := fun j hj => by
    rw [show 0 + f.len * 6 + j = f.len * 6 + j by omega, hcell _ (by omega), List.getElem?_append_right (by omega)]
    rw [show f.len * 6 + j - (grXs w v f).length = j by omega]
  have hsks : Same w w' ks := fun b hb => hgr.block b (hu.lt b hb) (fun e => hdj b (h.block b e.symm) hb)
  have hul := hu.lt
  obtain ⟨ua, uc, rfl, e1, e2, hkk⟩ := hu.same hsks
  have hnew : OwRow w' g (0 + 6 * f.len) (.cons lab k fr tq ix kids .nil) ks := by
    rw [show 0 + 6 * f.len = 0 + f.len * 6 by omega]
    exact ⟨hl, hf, ht, hk, hi, hn 0 (by omega), hn 1 (by omega), hn 2 (by omega), hn 3 (by omega), hn 4 (by omega), ks, [], by simp, ⟨ua, uc, hn 5 (by omega), e1, e2, hkk⟩, rfl⟩
  have hlen : (f.app (.cons lab k fr tq ix kids .nil)).len = f.len + 1 := by rw [F.len_app]; rfl
  have hne : f.app (.cons lab k fr tq ix kids .nil) ≠ .nil := by
    intro e
    rw [e] at hlen
    simp [F.len] at hlen
  rcases h with ⟨rfl, rfl, rfl⟩ | ⟨g0, cap0, cur0, bs0, rfl, h1, h2, h3, h4, h5, h6, rfl, h7, h8, h9⟩
  · have hgg : g = w.heap.size := by
      rcases hg with hg | hg
      · simp [Value.ownBlock] at hg
      · exact hg
    refine ⟨g :: ks, Or.inr ⟨g, cap, cur, ks, by rw [hlen], c5, c1, by rw [hlen]; exact c2, c3, c4, hne, rfl, ?_, hks, List.nodup_cons.2 ⟨fun hm => ?_, hnd⟩⟩, fun b hb => ?_⟩
    · simpa [F.app, F.len] using hnew
    · have := hul g hm
      omega
    · rcases List.mem_cons.1 hb with rfl | hb
      · exact Or.inr (Or.inr hgg)
      · exact Or.inr (Or.inl hb)
  · have hsame : Same w w' bs0 := fun b hb => hgr.block b (h7.lt _ _ _ _ b hb) (fun e => by
      simp only [Value.ownBlock, Option.some.injEq] at e
      subst e
      exact (List.nodup_cons.1 h9).1 hb)
    have hold : OwRow w' g 0 f bs0 := by
      refine h7.moved _ _ _ _ _ _ (fun i hi => ?_) hsame
      rw [Nat.zero_add, hcell i (by omega), List.getElem?_append_left (by omega)]
      have hx : grXs w (.slice (some ⟨g0, 0, none⟩) f.len cap0) f = cur0.toList.take (f.len * 6) := by
        unfold grXs
        simp only [h2]
      rw [hx, List.getElem?_take, if_pos (by omega)]
      simp [World.cell?, h2]
    have hgn : g ∉ bs0 ∧ g ∉ ks := by
      rcases hg with hg | hg
      · simp only [Value.ownBlock, Option.some.injEq] at hg
        subst hg
        exact ⟨(List.nodup_cons.1 h9).1, hdj _ (by simp)⟩
      · constructor
        · intro hm
          have := h7.lt _ _ _ _ g hm
          omega
        · intro hm
          have := hul g hm
          omega
    refine ⟨g :: (bs0 ++ ks), Or.inr ⟨g, cap, cur, bs0 ++ ks, by rw [hlen], c5, c1, by rw [hlen]; exact c2, c3, c4, hne, rfl, OwRow.app _ _ _ _ _ _ hold hnew, fun b hb => ?_, List.nodup_cons.2 ⟨fun hm => ?_, List.nodup_append.2 ⟨(List.nodup_cons.1 h9).2, hnd, fun x hx y hy => ?_⟩⟩⟩, fun b hb => ?_⟩
    · rcases List.mem_append.1 hb with hb | hb
      · exact h8 b hb
      · exact hks b hb
    · rcases List.mem_append.1 hm with hm | hm
      · exact hgn.1 hm
      · exact hgn.2 hm
    · rintro rfl
      exact hdj x (by simp [hx]) hy
    · rcases List.mem_cons.1 hb with rfl | hb
      · rcases hg with hg | hg
        · simp only [Value.ownBlock, Option.some.injEq] at hg
          exact Or.inl (by simp [hg])
        · exact Or.inr (Or.inr hg)
      · rcases List.mem_append.1 hb with hb | hb
        · exact Or.inl (by simp [hb])
        · exact Or.inr (Or.inl hb)
end Go.Proofs.YtfppglfajbmapaaDoor

/- A node whose fields fit into values; its cells. -/
namespace Go.Proofs.YtfppglfajbmapaaDoor
open Go.RowKit

/-- The fields fit into values. -/
def Fit (g : Nd) : Prop := g.fr.size ≤ maxLen ∧ g.tg.size ≤ maxLen ∧ (Lit.int .i64 g.k).wf = true ∧ (Lit.int .i64 g.ix).wf = true

/-- A node's five cells. -/
def Cell5 (w : World) (b : Nat) (g : Nd) (sv : Value) : Prop :=
  w.cell? ⟨b, 0, none⟩ = some (.int .i64 g.k) ∧ w.cell? ⟨b, 1, none⟩ = some (.string g.fr) ∧ w.cell? ⟨b, 2, none⟩ = some (.string g.tg) ∧ w.cell? ⟨b, 3, none⟩ = some (.int .i64 g.ix) ∧ w.cell? ⟨b, 4, none⟩ = some sv

end Go.Proofs.YtfppglfajbmapaaDoor

/- What is made in new memory: slices, nodes, branches. -/
namespace Go.Proofs.YtfppglfajbmapaaDoor
open Go.RowKit

theorem run_make_rowN {P : Program} (t e : TypeId) (i : TypeInfo) (z : Value) (ht : P.underlying t = some (.slice e)) (hi : P.info? e = some i) (hz : i.zero = some z)
    (kl kc : IntKind) (n c : Nat) (hnc : n ≤ c) (hbytes : i.bytes * c ≤ 281474976710656) (h63 : c ≤ 9223372036854775807) (w : World) :
    (Instr.makeSlice t (.int kl (n : Int)) (.int kc (c : Int))).run P w = .ok (.slice (some ⟨w.heap.size, 0, none⟩) n c) (w.alloc (.cells (madeCells z.cells (c * i.size)) e)) := by
  have hb : (i.bytes : Int) * (c : Int) ≤ 281474976710656 := by
    have h : ((i.bytes * c : Nat) : Int) ≤ 281474976710656 := by omega
    rwa [Int.natCast_mul] at h
  have hr := run_make (P := P) w t e i z ht hi hz kl kc n c (by omega) (by omega) hb (by omega)
  simp only [Int.toNat_natCast] at hr
  exact hr
theorem Tryd.info76 : (Tryd.prog.info? ( /- t -/ 76)).map (fun i => (i.zero, i.size, i.bytes)) = some (some (.agg #[.string ⟨#[]⟩, .int .i64 0, .string ⟨#[]⟩, .string ⟨#[]⟩, .int .i64 0, .slice none 0 0]), 6, 88) := by kernel_rfl
/-- The cells of a new row. -/
def newRow (n : Nat) : Array Value := madeCells #[.string ⟨#[]⟩, .int .i64 0, .string ⟨#[]⟩, .string ⟨#[]⟩, .int .i64 0, .slice none 0 0] (n * 6)
theorem make52 (n : Nat) (hn : n ≤ 1048576) (w : World) : (Instr.makeSlice ( /- t -/ 23) (.int .i64 (n : Int)) (.int .i64 (n : Int))).run Tryd.prog w = .ok (.slice (some ⟨w.heap.size, 0, none⟩) n n) (w.alloc (.cells (newRow n) ( /- t -/ 76))) := by
  obtain ⟨i0, hi, hz0, hz1, hz2⟩ := info_parts Tryd.info76
  have := run_make_rowN (P := Tryd.prog) ( /- t -/ 23) ( /- t -/ 76) i0 _ Tryd.underlying23 hi hz0 .i64 .i64 n n (Nat.le_refl _) (by rw [hz2]; omega) (by omega) w
  rw [hz1] at this
  exact this

/-- A slice of the call's own that reads as f. -/
def MadeS (f : F) (w : World) (e : Ending) (w' : World) : Prop :=
  ∃ u bs, e = .returned u ∧ Ow w' u f bs ∧ (∀ b, b ∈ bs → w.heap.size ≤ b) ∧ bs.Nodup ∧ Below w.heap.size w w'

def MadeN (k : Int) (fr tq : ByteArray) (ix : Int) (f : F) (w : World) (e : Ending) (w' : World) : Prop :=
  ∃ u bs, e = .returned (.agg #[.int .i64 k, .string fr, .string tq, .int .i64 ix, u]) ∧ Ow w' u f bs ∧ (∀ b, b ∈ bs → w.heap.size ≤ b) ∧ bs.Nodup ∧ Below w.heap.size w w'

def MadeB (lab : ByteArray) (k : Int) (fr tq : ByteArray) (ix : Int) (f : F) (w : World) (e : Ending) (w' : World) : Prop :=
  ∃ u bs, e = .returned (.agg #[.string lab, .int .i64 k, .string fr, .string tq, .int .i64 ix, u]) ∧ Ow w' u f bs ∧ (∀ b, b ∈ bs → w.heap.size ≤ b) ∧ bs.Nodup ∧ Below w.heap.size w w'
end Go.Proofs.YtfppglfajbmapaaDoor

/- l1Count and GlobalValid of the model over trees of any size: what is valid has at most (3^40 - 1) / 2 nodes. -/
namespace Go.Proofs.YtfppglfajbmapaaDoor
open Go.RowKit

/-- The nodes of a full tree of so many levels. -/
def pw : Nat → Nat
  | 0 => 0
  | n + 1 => 1 + 3 * pw n
theorem pw_mono : ∀ {a b : Nat}, a ≤ b → pw a ≤ pw b := by
  intro a b h
  induction h with
  | refl => exact Nat.le_refl _
  | step _ ih => simp only [pw]; omega
theorem pw40 : pw 40 = 6078832729528464400 := by decide +kernel
theorem shape_len3 {k : Int} {fr tq : ByteArray} {ix : Int} {kids : F} (h : shapeB k fr tq ix kids = true) : kids.len ≤ 3 := by
  unfold shapeB branchesB at h
  by_cases h1 : k = 1
  · simp [h1] at h
    omega
  · by_cases h2 : k = 2
    · simp [h2] at h
      omega
    · by_cases h3 : k = 3
      · simp [h3] at h
        omega
      · by_cases h4 : k = 4
        · simp [h4] at h
          omega
        · simp [h1, h2, h3, h4] at h
theorem vld_pw : ∀ (f : F) (b u : Int) (d : Nat), 0 ≤ u → vldF f b u (d : Int) = true → f.sz ≤ f.len * pw d := by
  intro f
  induction f with
  | nil => intro b u d _ _; simp [F.sz]
  | cons lab k fr tq ix kids rest ihk ihr =>
    intro b u d hu h
    simp only [vldF, Bool.and_eq_true] at h
    obtain ⟨hn, hr⟩ := h
    rw [nodeB_shape _ _ _ _ _ _ _ _ hu] at hn
    simp only [Bool.and_eq_true, decide_eq_true_eq] at hn
    obtain ⟨⟨h1, h2⟩, h3⟩ := hn
    obtain ⟨e, rfl⟩ : ∃ e, d = e + 1 := ⟨d - 1, by omega⟩
    have hl := shape_len3 h2
    have hk : kids.sz ≤ kids.len * pw e := by
      have hz : kids = .nil → kids.sz ≤ kids.len * pw e := fun e => by subst e; simp [F.sz]
      rw [show (((e + 1 : Nat) : Int) - 1) = (e : Int) by omega] at h3
      by_cases h4 : k = 4
      · subst h4
        refine hz ?_
        simp [shapeB] at h2
        exact nil_of_len h2.2
      · rw [if_neg h4] at h3
        by_cases hk3 : k = 3
        · rw [if_pos hk3] at h3
          exact ihk _ _ _ (by omega) h3
        · rw [if_neg hk3] at h3
          by_cases hk2 : k = 2
          · rw [if_pos hk2] at h3
            exact ihk _ _ _ (by omega) h3
          · refine hz ?_
            by_cases hk1 : k = 1
            · subst hk1
              simp [shapeB] at h2
              exact nil_of_len h2.2
            · simp [shapeB, hk1, hk2, hk3, h4] at h2
    have hrr := ihr _ _ _ hu hr
    simp only [F.sz, F.len, pw] at *
    have : kids.len * pw e ≤ 3 * pw e := Nat.mul_le_mul_right _ hl
    rw [Nat.add_mul, Nat.one_mul]
    omega
theorem vldN_pw {k : Int} {fr tq : ByteArray} {ix : Int} {kids : F} {b u : Int} (hu : 0 ≤ u) (h : vldN k fr tq ix kids b u 40 = true) : kids.sz + 1 ≤ 6078832729528464400 := by
  obtain ⟨d, hd⟩ : ∃ d : Nat, d = 40 := ⟨_, rfl⟩
  have h2 := vld_pw (.cons ⟨#[]⟩ k fr tq ix kids .nil) b u d hu (by rw [hd]; simp only [vldF, Bool.and_true]; exact h)
  obtain ⟨q, hq⟩ : ∃ q, pw d = q := ⟨_, rfl⟩
  have h3 : q = 6078832729528464400 := by rw [← hq, hd]; exact pw40
  rw [hq] at h2
  simp only [F.sz, F.len] at h2
  omega

def CntBigAt (M : Nat) (n : Nat) : Prop := ∀ (w : World) (k ix d : Int) (fr tq : ByteArray) (sv : Value) (kids : F), kids.sz < n → Sl w sv kids → kids.sz ≤ M → 0 ≤ d → d ≤ 40 →
  Calls Tryd.prog 188 #[.agg #[.int .i64 k, .string fr, .string tq, .int .i64 ix, sv], .int .i64 d] w fun e w' => e = .returned (.int .i64 (cntN kids d : Nat)) ∧ Below w.heap.size w w'

set_option maxHeartbeats 800000 in
theorem cntBig_all (M : Nat) (hM : M ≤ 9000000000000000000) : ∀ n, CntBigAt M n := by
  intro n
  induction n with
  | zero => intro w k ix d fr tq sv kids hn; omega
  | succ n ih =>
    intro w k ix d fr tq sv kids hn hs hbig hd0 hd
    obtain ⟨a, cap, rfl, hlen, hat⟩ := hs.at
    have hb0 := alloc_below w (.cells #[.int .i64 k, .string fr, .string tq, .int .i64 ix, .slice a kids.len cap] ( /- t -/ 25))
    obtain ⟨hc4, hsz⟩ := box5_now w (.int .i64 k) (.string fr) (.string tq) (.int .i64 ix) (.slice a kids.len cap) ( /- t -/ 25)
    have HA := hide (hat.still (Still.of_below hb0))
    unfold maxLen at hlen
    have HN := hide hn
    clear hs hat hn
    by_cases hd1 : 0 < d
    · go_enter Tryd.func188, Tryd.ntmps188
      go_wp2_with fail
      generalize (w.alloc (.cells #[.int .i64 k, .string fr, .string tq, .int .i64 ix, .slice a kids.len cap] ( /- t -/ 25))) = W at *
      go_loopw [5, 6] (fun nv iv wr => ∃ (g : F) (k m : Nat), k + g.len = kids.len ∧ nv = .int .i64 m ∧ iv = .int .i64 k ∧ g.sz ≤ kids.sz ∧ At W a k g ∧ m + cntF g (d - 1) = 1 + cntF kids (d - 1) ∧ Below W.heap.size W wr) (fun _ iv _ => kids.len - (intOf iv).toNat)
      case atStart => exact ⟨kids, 0, 1, by omega, rfl, rfl, Nat.le_refl _, HA.out, rfl, Below.refl _ _⟩
      case round =>
        obtain ⟨g, k, m, hk, rfl, rfl, h5, hg, hv, hbw⟩ := hrel
        have e4 := (Still.of_below hbw) _ _ hc4
        have HVV := hide hv
        have HB := hide (hb0.trans (hbw.mono (Nat.le_of_lt hsz)))
        clear hv
        cases g with
        | nil =>
          have H5 : Hid (k = kids.len) := by unfold Hid; simpa [F.len] using hk
          have hge : kids.len ≤ k := Nat.le_of_eq H5.out.symm
          clear hk
          go_wp2_with fail
          go_ret
          refine ⟨ret_int ?_, HB.out⟩
          have := HVV.out
          unfold cntN
          rw [if_pos hd1]
          simp only [cntF] at this
          omega
        | cons lab kd fr' tq' ix' kids' rest =>
          have HK : Hid (k + 1 + rest.len = kids.len) := by unfold Hid; simp only [F.len] at hk; omega
          have hlt : k < kids.len := by have := HK.out; omega
          have HZ : Hid (kids'.sz < n ∧ rest.sz ≤ kids.sz ∧ kids'.sz ≤ M) := by have := HN.out; unfold Hid; simp only [F.sz] at h5; omega
          have hm : m ≤ M + 1 := by have := HVV.out; have := cntF_le kids (d - 1); omega
          obtain ⟨b', o, rfl, _, _, _, _, _, q0, q1, q2, q3, q4, ⟨sv', q5, hsv⟩, _⟩ := (hg.still (Still.of_below hbw)).head
          have HS := hide hsv
          have HG := hide hg
          clear hk h5 hg hsv
          go_wp2_with fail
          refine (ih wr kd ix' (d - 1) fr' tq' sv' kids' HZ.out.1 HS.out HZ.out.2.2 (by omega) (by omega)).mono ?_
          rintro e w3 ⟨rfl, hb5⟩
          have hb7 := hbw.trans (hb5.mono hbw.size)
          clear hb5
          generalize hcn : cntN kids' (d - 1) = c at *
          have HC := hide hcn
          have hc : c ≤ M + 1 := by
            have h1 := HZ.out.2.2
            have h2 := cntF_le kids' (d - 1 - 1)
            rw [← hcn]
            unfold cntN
            split <;> omega
          have hmc : m + c ≤ M + 1 := by
            have h1 := HVV.out
            have h2 := cntF_le kids (d - 1)
            simp only [cntF] at h1
            unfold cntN at hcn
            omega
          clear hcn
          go_wp2_with fail
          refine ⟨⟨rest, k + 1, m + c, by have := HK.out; omega, by go_num, by go_num, HZ.out.2.1, HG.out.tail, ?_, hb7⟩, by simp [intOf]; omega⟩
          have h1 := HVV.out
          have h2 := HC.out
          simp only [cntF] at h1
          unfold cntN at h2
          omega
    · obtain rfl : d = 0 := by omega
      go_enter Tryd.func188, Tryd.ntmps188
      go_wp2_with fail
      generalize (w.alloc (.cells #[.int .i64 k, .string fr, .string tq, .int .i64 ix, .slice a kids.len cap] ( /- t -/ 25))) = W at *
      go_loopw [5, 6] (fun nv iv wr => nv = .int .i64 1 ∧ iv = .int .i64 0 ∧ wr = W) (fun _ iv _ => kids.len - (intOf iv).toNat)
      case atStart => exact ⟨rfl, rfl, rfl⟩
      case round =>
        obtain ⟨rfl, rfl, rfl⟩ := hrel
        go_wp2_with fail
        all_goals go_ret
        all_goals exact ⟨rfl, hb0⟩

/-- l1Count of the model. -/
theorem cntBig_calls (M : Nat) (hM : M ≤ 9000000000000000000) (w : World) (k ix d : Int) (fr tq : ByteArray) (sv : Value) (kids : F) (hs : Sl w sv kids) (hbig : kids.sz ≤ M) (hd0 : 0 ≤ d) (hd : d ≤ 40) :
    Calls Tryd.prog 188 #[.agg #[.int .i64 k, .string fr, .string tq, .int .i64 ix, sv], .int .i64 d] w fun e w' => e = .returned (.int .i64 (cntN kids d : Nat)) ∧ Below w.heap.size w w' :=
  cntBig_all M hM (kids.sz + 1) w k ix d fr tq sv kids (Nat.lt_succ_self _) hs hbig hd0 hd

set_option maxHeartbeats 400000 in
/-- GlobalValid of the model, whatever the size. -/
theorem specValidBig (w : World) (k ix : Int) (fr tq : ByteArray) (sv : Value) (kids : F) (hs : Sl w sv kids) :
    Calls Tryd.prog 169 #[.agg #[.int .i64 k, .string fr, .string tq, .int .i64 ix, sv]] w fun e w' => e = .returned (.bool (okN k fr tq ix kids)) ∧ Below w.heap.size w w' := by
  have HS := hide hs
  clear hs
  go_enter Tryd.func169, Tryd.ntmps169
  go_wp2_with fail
  refine (vld_calls _ k ix 0 0 40 fr tq sv kids (HS.out.still (Still.of_below (alloc_below _ _))) (by omega) (by omega) (by omega) (by omega) (by omega)).mono ?_
  rintro e w1 ⟨rfl, hb⟩
  obtain ⟨c0, c1, c2, c3, c4, hlt, hb2⟩ := box5 hb
  clear hb
  cases hv : vldN k fr tq ix kids 0 0 40 with
  | false =>
    go_wp2_with fail
    go_ret
    exact ⟨ret_bool (by simp [okN, hv]), hb2⟩
  | true =>
    have HV := hide hv
    clear hv
    go_wp2_with fail
    refine (cntBig_calls 6078832729528464400 (by omega) _ k ix 40 fr tq sv kids (HS.out.still (Still.of_below hb2)) (by have := vldN_pw (by omega) HV.out; omega) (by omega) (by omega)).mono ?_
    rintro e w2 ⟨rfl, hb3⟩
    have hb4 := hb2.trans (hb3.mono hb2.size)
    rw [cntN_of_vld HV.out]
    clear hb3
    go_wp2_with fail
    go_ret
    refine ⟨ret_bool ?_, hb4⟩
    unfold okN
    rw [HV.out, Bool.true_and]
    show decide _ = _
    exact decide_eq_decide.2 (by omega)

end Go.Proofs.YtfppglfajbmapaaDoor

/- l1Substitute of the model: a copy in new memory with a closed type in place of the variables with an index. -/
namespace Go.Proofs.YtfppglfajbmapaaDoor
open Go.RowKit

theorem Box5.frozen {w : World} {b : Nat} {v0 v1 v2 v3 v4 : Value} (h : Box5 w b v0 v1 v2 v3 v4) (o : Nat) : w.frozen? ⟨b, o, none⟩ = false := by
  obtain ⟨t, h⟩ := h
  simp [World.frozen?, h]
theorem Box5.same {w w' : World} {b : Nat} {v0 v1 v2 v3 v4 : Value} (h : Box5 w b v0 v1 v2 v3 v4) (e : w'.heap[b]? = w.heap[b]?) : Box5 w' b v0 v1 v2 v3 v4 := by
  obtain ⟨t, h⟩ := h
  exact ⟨t, e.trans h⟩
theorem Box5.setOther {w : World} {b : Nat} {v0 v1 v2 v3 v4 : Value} (h : Box5 w b v0 v1 v2 v3 v4) {p : Addr} (hp : b ≠ p.block) (u : Value) : Box5 (w.setCell p u) b v0 v1 v2 v3 v4 := h.same (Below.heap_setCell _ _ _ _ hp)
theorem Box5.set4 {w : World} {b : Nat} {v0 v1 v2 v3 v4 : Value} (h : Box5 w b v0 v1 v2 v3 v4) (u : Value) : Box5 (w.setCell ⟨b, 4, none⟩ u) b v0 v1 v2 v3 u := by
  obtain ⟨t, h⟩ := h
  exact ⟨t, by simp [World.setCell, Array.getElem?_modify, h]⟩

theorem wF_app (g : F) (b u : Int) : ∀ f : F, wF (f.app g) b u = (wF f b u && wF g b u)
  | .nil => by simp [F.app, wF]
  | .cons lab k fr tg ix kids rest => by simp only [F.app, wF, wF_app g b u rest, Bool.and_assoc]
/-- Below a valid node lie valid nodes, three at most. -/
theorem kids_w {g : Nd} {b u : Int} (h : wN g b u = true) (hu : 0 ≤ u) : g.kids.len ≤ 3 ∧ ∃ b' u', 0 ≤ u' ∧ wF g.kids b' u' = true := by
  unfold wN at h
  simp only [Bool.and_eq_true] at h
  obtain ⟨h1, h2⟩ := h
  refine ⟨shape_len3 h1, ?_⟩
  by_cases h4 : g.k = 4
  · exact ⟨0, 0, by omega, by rw [shape_leaf h1 (by omega) (by omega)]; rfl⟩
  · rw [if_neg h4] at h2
    by_cases h3 : g.k = 3
    · rw [if_pos h3] at h2
      exact ⟨_, _, by omega, h2⟩
    · rw [if_neg h3] at h2
      by_cases hk2 : g.k = 2
      · rw [if_pos hk2] at h2
        exact ⟨_, _, by omega, h2⟩
      · exact ⟨0, 0, by omega, by rw [shape_leaf h1 hk2 h3]; rfl⟩

theorem subN_fit {U g : Nd} {i : Int} (hg : Fit g) (hu : Fit U) : Fit (subN U g i) := by
  unfold subN
  split
  · exact hu
  · exact hg

/-- U's own copy. -/
def CopyOk (U : Nd) : Prop := ∀ (w : World) (su : Value), Sl w su U.kids →
  Calls Tryd.prog 142 #[.agg #[.int .i64 U.k, .string U.fr, .string U.tg, .int .i64 U.ix, su], .agg #[.int .i64 0, .string ⟨#[]⟩, .string ⟨#[]⟩, .int .i64 0, .slice none 0 0], .int .i64 (-1)] w (MadeN U.k U.fr U.tg U.ix U.kids w)

def SubAt (n : Nat) : Prop := ∀ (w : World) (k ix i : Int) (fr tg : ByteArray) (sv : Value) (kids : F) (U : Nd) (su : Value), kids.sz < n → Sl w sv kids → Sl w su U.kids → Fit ⟨k, fr, tg, ix, kids⟩ → Fit U →
  -1 ≤ i → i + 1 + hF kids ≤ 1000000 → (∃ b u, 0 ≤ u ∧ wN ⟨k, fr, tg, ix, kids⟩ b u = true) → (i = -1 ∨ CopyOk U) →
  Calls Tryd.prog 142 #[.agg #[.int .i64 k, .string fr, .string tg, .int .i64 ix, sv], .agg #[.int .i64 U.k, .string U.fr, .string U.tg, .int .i64 U.ix, su], .int .i64 i] w
    (MadeN (subN U ⟨k, fr, tg, ix, kids⟩ i).k (subN U ⟨k, fr, tg, ix, kids⟩ i).fr (subN U ⟨k, fr, tg, ix, kids⟩ i).tg (subN U ⟨k, fr, tg, ix, kids⟩ i).ix (subN U ⟨k, fr, tg, ix, kids⟩ i).kids w)

set_option maxHeartbeats 1000000 in
set_option maxRecDepth 100000 in
/-- The variable itself. -/
theorem sub_var (w : World) (i : Int) (fr tg : ByteArray) (sv : Value) (kids : F) (U : Nd) (su : Value) (hsu : Sl w su U.kids) (hc : CopyOk U) :
    Calls Tryd.prog 142 #[.agg #[.int .i64 4, .string fr, .string tg, .int .i64 i, sv], .agg #[.int .i64 U.k, .string U.fr, .string U.tg, .int .i64 U.ix, su], .int .i64 i] w
    (MadeN (subN U ⟨4, fr, tg, i, kids⟩ i).k (subN U ⟨4, fr, tg, i, kids⟩ i).fr (subN U ⟨4, fr, tg, i, kids⟩ i).tg (subN U ⟨4, fr, tg, i, kids⟩ i).ix (subN U ⟨4, fr, tg, i, kids⟩ i).kids w) := by
  have he : subN U ⟨4, fr, tg, i, kids⟩ i = U := by unfold subN; rw [if_pos (And.intro rfl rfl)]
  rw [he]
  have HC := hide hc
  have HS := hide hsu
  clear hc hsu he
  go_enter Tryd.func142, Tryd.ntmps142
  go_wp2_with fail
  refine (HC.out _ su (HS.out.still (Still.of_below ?_))).mono ?_
  · exact ((alloc_below _ _).alloc (by simp) _).alloc (by simp; omega) _
  rintro e w1 ⟨u, bs, rfl, how, hge, hnd, hb⟩
  obtain ⟨ua, uc, rfl⟩ := how.val
  have HO := hide how
  have HG := hide hge
  clear how hge
  obtain ⟨hc, hf⟩ := bcell hb
  have hz := hb.size
  simp at hz
  go_wp2_with fail
  refine bodyPost_ret (v := .agg #[.int .i64 U.k, .string U.fr, .string U.tg, .int .i64 U.ix, .slice ua U.kids.len uc]) (by simp [results, Tryd.results142, go_sem, hc]) rfl ?_
  have hB : Below w.heap.size w w1 := ((((alloc_below w _).alloc (by simp) _).alloc (by simp; omega) _).trans (hb.mono (by simp; omega)))
  have q : ∀ b, b ∈ bs → w.heap.size + 3 ≤ b := fun b h => by have := HG.out b h; simp at this; omega
  refine ⟨_, bs, rfl, HO.out.same ?_, fun b h => by have := q b h; omega, hnd, ?_⟩
  · repeat (refine Same.setCell ?_ (fun b h => by have := q b h; simp; omega) _)
    exact Same.refl _ _
  · repeat (refine Below.setCell ?_ (by first | (simp; done) | (simp; omega)) _)
    exact hB

/-- What holds at each round's head. -/
def SubRel (w : World) (U : Nd) (k ix : Int) (fr tg : ByteArray) (sv su : Value) (f : F) (i : Int) (a : Option Addr) (iv : Value) (wr : World) : Prop :=
  ∃ p g v bs, f = p.app g ∧ iv = .int .i64 (p.len : Nat) ∧ At w a p.len g ∧ Box5 wr w.heap.size (.int .i64 k) (.string fr) (.string tg) (.int .i64 ix) sv ∧
    Box5 wr (w.heap.size + 1) (.int .i64 U.k) (.string U.fr) (.string U.tg) (.int .i64 U.ix) su ∧
    Box5 wr (w.heap.size + 2) (.int .i64 0) (.string ⟨#[]⟩) (.string ⟨#[]⟩) (.int .i64 0) (.slice none 0 0) ∧
    Box5 wr (w.heap.size + 3) (.int .i64 k) (.string fr) (.string tg) (.int .i64 ix) v ∧ Gr wr (w.heap.size + 4) v (subF U p i) bs ∧ Below w.heap.size w wr

/-- Three boxes of one make, one behind the other. -/
theorem three_new (w : World) (v0 v1 v2 v3 v4 u0 u1 u2 u3 u4 x0 x1 x2 x3 x4 : Value) (t : TypeId) :
    Box5 (((w.alloc (.cells #[v0, v1, v2, v3, v4] t)).alloc (.cells #[u0, u1, u2, u3, u4] t)).alloc (.cells #[x0, x1, x2, x3, x4] t)) w.heap.size v0 v1 v2 v3 v4 ∧
    Box5 (((w.alloc (.cells #[v0, v1, v2, v3, v4] t)).alloc (.cells #[u0, u1, u2, u3, u4] t)).alloc (.cells #[x0, x1, x2, x3, x4] t)) (w.heap.size + 1) u0 u1 u2 u3 u4 ∧
    Box5 (((w.alloc (.cells #[v0, v1, v2, v3, v4] t)).alloc (.cells #[u0, u1, u2, u3, u4] t)).alloc (.cells #[x0, x1, x2, x3, x4] t)) (w.heap.size + 2) x0 x1 x2 x3 x4 ∧
    (((w.alloc (.cells #[v0, v1, v2, v3, v4] t)).alloc (.cells #[u0, u1, u2, u3, u4] t)).alloc (.cells #[x0, x1, x2, x3, x4] t)).heap.size = w.heap.size + 3 ∧
    Below w.heap.size w (((w.alloc (.cells #[v0, v1, v2, v3, v4] t)).alloc (.cells #[u0, u1, u2, u3, u4] t)).alloc (.cells #[x0, x1, x2, x3, x4] t)) := by
  have h1 := Box5.now w v0 v1 v2 v3 v4 t
  have h2 := Box5.now (w.alloc (.cells #[v0, v1, v2, v3, v4] t)) u0 u1 u2 u3 u4 t
  have h3 := Box5.now ((w.alloc (.cells #[v0, v1, v2, v3, v4] t)).alloc (.cells #[u0, u1, u2, u3, u4] t)) x0 x1 x2 x3 x4 t
  rw [show (w.alloc (.cells #[v0, v1, v2, v3, v4] t)).heap.size = w.heap.size + 1 from by simp] at h2
  rw [show ((w.alloc (.cells #[v0, v1, v2, v3, v4] t)).alloc (.cells #[u0, u1, u2, u3, u4] t)).heap.size = w.heap.size + 2 from by simp] at h3
  exact ⟨(h1.below (alloc_below _ _)).below (alloc_below _ _), h2.below (alloc_below _ _), h3, by simp, (((alloc_below w _).alloc (by simp) _).alloc (by simp; omega) _)⟩

set_option maxHeartbeats 2000000 in
set_option maxRecDepth 100000 in
theorem sub_loop (n : Nat) (ih : SubAt n) (w : World) (k ix i : Int) (fr tg : ByteArray) (sv : Value) (kids : F) (U : Nd) (su : Value) (hn : kids.sz < n + 1) (hs : Sl w sv kids) (hsu : Sl w su U.kids) (hfit : Fit ⟨k, fr, tg, ix, kids⟩) (hfu : Fit U)
    (hi1 : -1 ≤ i) (hi2 : i + 1 + hF kids ≤ 1000000) (hw : ∃ b u, 0 ≤ u ∧ wN ⟨k, fr, tg, ix, kids⟩ b u = true) (hc : i = -1 ∨ CopyOk U) (hne : ¬ (k = 4 ∧ ix = i)) (I : Int) (hI : I = bump k i) :
    Calls Tryd.prog 142 #[.agg #[.int .i64 k, .string fr, .string tg, .int .i64 ix, sv], .agg #[.int .i64 U.k, .string U.fr, .string U.tg, .int .i64 U.ix, su], .int .i64 i] w
    (MadeN k fr tg ix (subF U kids I) w) := by
  have HBI := hide hI
  clear hI
  obtain ⟨b0, u0, hu0, hw0⟩ := hw
  obtain ⟨hlen, b1, u1, hu1, hw1⟩ := kids_w hw0 hu0
  simp only at hlen hw1
  obtain ⟨a, cap, rfl, hl, hat⟩ := hs.at
  have HH := hide (And.intro hn (And.intro hi2 (And.intro hw1 (And.intro hc (And.intro hsu (And.intro hat (And.intro hfit hfu)))))))
  clear hs hn hi2 hw0 hw1 hc hsu hat hfit hfu hl
  go_enter Tryd.func142, Tryd.ntmps142
  go_upto_region 1 with fail
  go_cut [2, 17] from 9 to 17 (fun v2 v17 wc => v2 = .int .i64 i ∧ v17 = .bool false ∧ Box5 wc w.heap.size (.int .i64 k) (.string fr) (.string tg) (.int .i64 ix) (.slice a kids.len cap) ∧
    Box5 wc (w.heap.size + 1) (.int .i64 U.k) (.string U.fr) (.string U.tg) (.int .i64 U.ix) su ∧
    Box5 wc (w.heap.size + 2) (.int .i64 0) (.string ⟨#[]⟩) (.string ⟨#[]⟩) (.int .i64 0) (.slice none 0 0) ∧ wc.heap.size = w.heap.size + 3 ∧ Below w.heap.size w wc)
  case first =>
    by_cases h4 : k = 4
    · subst h4
      have hq : (ix == i) = false := beq_eq_false_iff_ne.2 (fun e => hne ⟨rfl, e⟩)
      go_wp2_with fail
      go_meet
      case rel => exact ⟨rfl, rfl, three_new _ _ _ _ _ _ _ _ _ _ _ _ _ _ _ _ _⟩
    · have hq : (k == 4) = false := beq_eq_false_iff_ne.2 h4
      go_wp2_with fail
      go_meet
      case rel => exact ⟨rfl, rfl, three_new _ _ _ _ _ _ _ _ _ _ _ _ _ _ _ _ _⟩
  case rest =>
    obtain ⟨rfl, rfl, hx, hy, hz, hsz, hbw⟩ := hcut
    obtain ⟨x0, x1, x2, x3, x4⟩ := hx.cells
    have hxl := hx.lt
    have HB := hide (And.intro hx (And.intro hy (And.intro hz hbw)))
    clear hx hy hz hbw
    go_upto_region 4 with fail
    go_cut [36] from 30 to 35 (fun v36 wd => ∃ bb : Bool, v36 = .bool bb ∧ Hid (bb = decide (k = 3 ∧ 0 ≤ i)) ∧ wd = wc.alloc (.cells #[.int .i64 k, .string fr, .string tg, .int .i64 ix, .slice none 0 0] ( /- t -/ 25)))
    case first =>
      by_cases h3 : k = 3
      · subst h3
        by_cases h0 : 0 ≤ i
        · have hd : decide ((3 : Int) = 3 ∧ 0 ≤ i) = true := decide_eq_true ⟨rfl, h0⟩
          go_wp2_with fail
          go_meet
          case rel => exact ⟨true, by simp, hide hd.symm, rfl⟩
        · have hd : decide ((3 : Int) = 3 ∧ 0 ≤ i) = false := decide_eq_false (fun h => h0 h.2)
          go_wp2_with fail
          go_meet
          case rel => exact ⟨false, by simp, hide hd.symm, rfl⟩
      · have hq : (k == 3) = false := beq_eq_false_iff_ne.2 h3
        go_wp2_with fail
        go_meet
        case rel => exact ⟨false, by simp, hide (decide_eq_false (fun h => h3 h.1)).symm, rfl⟩
    case rest =>
      obtain ⟨bb, rfl, hbb, rfl⟩ := hcut
      go_upto_if 36 with fail
      go_cut [2] from 37 to 38 (fun v2 wd => v2 = .int .i64 I ∧ wd = wc.alloc (.cells #[.int .i64 k, .string fr, .string tg, .int .i64 ix, .slice none 0 0] ( /- t -/ 25)))
      case first =>
        have hbi : i ≤ 1000000 := by have := HH.out.2.1; omega
        by_cases h3 : k = 3 ∧ 0 ≤ i
        · have hd : bb = true := hbb.out.trans (decide_eq_true h3)
          subst hd
          have e : I = i + 1 := by rw [HBI.out]; unfold bump; rw [if_pos h3]
          have h30 := h3.2
          go_wp2_with fail
          go_meet
          case rel => exact ⟨by rw [e], by rw [h3.1]⟩
        · have hd : bb = false := hbb.out.trans (decide_eq_false h3)
          subst hd
          have e : I = i := by rw [HBI.out]; unfold bump; rw [if_neg h3]
          go_wp2_with fail
          go_meet
          case rel => exact ⟨by rw [e], rfl⟩
      case rest =>
        obtain ⟨rfl, rfl⟩ := hcut
        obtain ⟨hx, hy, hz, hbw⟩ := HB.out
        have hbd := alloc_below wc (.cells #[.int .i64 k, .string fr, .string tg, .int .i64 ix, .slice none 0 0] ( /- t -/ 25))
        have hx := hx.below hbd
        have hy := hy.below hbd
        have hz := hz.below hbd
        have ho := Box5.now wc (.int .i64 k) (.string fr) (.string tg) (.int .i64 ix) (.slice none 0 0) ( /- t -/ 25)
        rw [hsz] at ho
        have hbe := hbw.trans (hbd.mono hbw.size)
        have HST : Hid (SubRel w U k ix fr tg (.slice a kids.len cap) su kids I a (.int .i64 0) (wc.alloc (.cells #[.int .i64 k, .string fr, .string tg, .int .i64 ix, .slice none 0 0] ( /- t -/ 25)))) :=
          hide ⟨.nil, kids, _, [], rfl, rfl, HH.out.2.2.2.2.2.1, hx, hy, hz, ho, Gr.nil _ _, hbe⟩
        clear hx hy hz hbw hbd ho hbe x0 x1 x2 x3 x4 hxl HB
        obtain ⟨i0, hi, hz0, hz1, hz2⟩ := info_parts Tryd.info76
        have HI := hide (And.intro hi (And.intro hz0 (And.intro hz1 hz2)))
        clear hi hz0 hz1 hz2
        go_wp2_with fail
        clear hsz
        go_loopw [8] (fun iv wr => SubRel w U k ix fr tg (.slice a kids.len cap) su kids I a iv wr) (fun iv _ => kids.len - (intOf iv).toNat)
        case atStart => exact HST.out
        case round =>
          obtain ⟨p, g, v, bs, hfe, rfl, hg, hx, hy, hz, ho, hgr, hb⟩ := hrel
          have x4 := hx.cells.2.2.2.2
          have hxl := hx.lt
          cases g with
          | nil =>
            have hge : kids.len ≤ p.len := by rw [hfe, F.app_nil]; exact Nat.le_refl _
            have hple : p.len ≤ kids.len := by rw [hfe, F.app_nil]; exact Nat.le_refl _
            rw [F.app_nil] at hfe
            obtain ⟨va, vc, rfl⟩ := hgr.val
            obtain ⟨o0, o1, o2, o3, o4⟩ := ho.cells
            obtain ⟨z0, z1, z2, z3, z4⟩ := hz.cells
            have fz := hz.frozen
            have hol := ho.lt
            have hzl := hz.lt
            have HG := hide hgr
            have HB := hide hb
            have HE := hide hfe
            clear hgr hb hfe hx hy hz ho hg
            go_wp2_with fail
            refine bodyPost_ret (v := .agg #[.int .i64 k, .string fr, .string tg, .int .i64 ix, .slice va (subF U p I).len vc]) (by simp [results, Tryd.results142, go_sem, *]) rfl ?_
            have hge := HG.out.ge
            rw [HE.out]
            refine ⟨_, bs, rfl, HG.out.ow.same ?_, fun b h => by have := hge b h; omega, HG.out.nodup, ?_⟩
            · repeat (refine Same.setCell ?_ (fun b h => by have := hge b h; simp; omega) _)
              exact Same.refl _ _
            · repeat (refine Below.setCell ?_ (by first | (simp; done) | (simp; omega)) _)
              exact HB.out
          | cons lab kd fr' tg' ix' kids' rest =>
            have hlt : p.len < kids.len := by rw [hfe, F.len_app]; simp only [F.len]; omega
            obtain ⟨b', o, rfl, l1, l2, l3, l4, l5, c0, c1, c2, c3, c4, ⟨sv', c5, hsv⟩, -⟩ := (hg.still (Still.of_below hb)).head
            obtain ⟨y0, y1, y2, y3, y4⟩ := hy.cells
            obtain ⟨hn, hi2, hw1, hc, hsu, hat, hfit, hfu⟩ := HH.out
            obtain ⟨N, hN⟩ : ∃ N, N = subN U ⟨kd, fr', tg', ix', kids'⟩ I := ⟨_, rfl⟩
            have hbs : -1 ≤ I ∧ I ≤ i + 1 ∧ (i = -1 → I = -1) := by
              rw [HBI.out]
              unfold bump
              split <;> omega
            have hsz2 : kids'.sz < n ∧ 1 + hF kids' ≤ hF kids ∧ wN ⟨kd, fr', tg', ix', kids'⟩ b1 u1 = true := by
              rw [hfe, F.sz_app] at hn
              rw [hfe, hF_app]
              rw [hfe, wF_app] at hw1
              simp only [F.sz, hF, wF, Bool.and_eq_true] at hn hw1 ⊢
              exact ⟨by omega, by omega, by unfold wN; simp only [Bool.and_eq_true]; exact hw1.2.1⟩
            have HCALL : Hid (∀ w', Sl w' sv' kids' → Sl w' su U.kids → Calls Tryd.prog 142 #[.agg #[.int .i64 kd, .string fr', .string tg', .int .i64 ix', sv'], .agg #[.int .i64 U.k, .string U.fr, .string U.tg, .int .i64 U.ix, su], .int .i64 I] w' (MadeN N.k N.fr N.tg N.ix N.kids w')) := hide (fun w' h1 h2 => by
              rw [hN]
              refine ih w' kd ix' I fr' tg' sv' kids' U su hsz2.1 h1 h2 ⟨l2, l3, l4, l5⟩ hfu hbs.1 (by omega) ⟨b1, u1, hu1, hsz2.2.2⟩ ?_
              rcases hc with hc | hc
              · exact Or.inl (hbs.2.2 hc)
              · exact Or.inr hc)
            have HFN : Hid (Fit N) := hide (by rw [hN]; exact subN_fit ⟨l2, l3, l4, l5⟩ hfu)
            have hdr : Still wr wr.drew := fun _ _ h => h
            have HSV := hide (hsv.still hdr)
            have HSU := hide ((hsu.still (Still.of_below hb)).still hdr)
            have hpl : p.len ≤ 3 := by omega
            have HSL : Hid ((subF U p I).len ≤ 3) := hide (by rw [subF_len]; exact hpl)
            have HL := hide l1
            have hyl := hy.lt
            have hol := ho.lt
            have hbl := World.block_lt_of_cell? _ _ c0
            have hbw : b' < w.heap.size := by
              obtain ⟨b2, o2, e2, _, _, _, _, _, q0, _⟩ := hg.head
              simp only [Option.some.injEq, Addr.mk.injEq, and_true] at e2
              rw [e2.1]
              exact World.block_lt_of_cell? _ _ q0
            have o4 := ho.cells.2.2.2.2
            have HO := hide ho
            have HGR := hide (hgr.below (w' := wr.drew) (Below.refl _ _).drew)
            have HB := hide hb
            have HE := hide hfe
            have HNN := hide hN
            have HR := hide (And.intro hx (And.intro hy (And.intro hz hg)))
            clear hx hy hz ho hgr hb hfe hN hg hsu hsv l1 l2 l3 l4 l5 hn hi2 hw1 hc hat hfit hfu hsz2 hdr
            go_wp2_with fail
            refine wp_region_T (fun w' => w'.cell? ⟨w.heap.size, 4, none⟩ = some (.slice (some ⟨b', o, none⟩) kids.len cap) ∧ w'.cell? ⟨w.heap.size + 3, 4, none⟩ = some v ∧
                            w'.cell? ⟨b', o + p.len * 6, none⟩ = some (.string lab) ∧ w'.cell? ⟨b', o + p.len * 6 + 1, none⟩ = some (.int .i64 kd) ∧ w'.cell? ⟨b', o + p.len * 6 + 2, none⟩ = some (.string fr') ∧ w'.cell? ⟨b', o + p.len * 6 + 3, none⟩ = some (.string tg') ∧ w'.cell? ⟨b', o + p.len * 6 + 4, none⟩ = some (.int .i64 ix') ∧ w'.cell? ⟨b', o + p.len * 6 + 5, none⟩ = some sv' ∧
                            w'.cell? ⟨w.heap.size + 1, 0, none⟩ = some (.int .i64 U.k) ∧ w'.cell? ⟨w.heap.size + 1, 1, none⟩ = some (.string U.fr) ∧ w'.cell? ⟨w.heap.size + 1, 2, none⟩ = some (.string U.tg) ∧ w'.cell? ⟨w.heap.size + 1, 3, none⟩ = some (.int .i64 U.ix) ∧ w'.cell? ⟨w.heap.size + 1, 4, none⟩ = some su) 21 (by kernel_rfl) ⟨x4, o4, c0, c1, c2, c3, c4, c5, y0, y1, y2, y3, y4⟩ (fun hHeld => ?_)
            refine wpAnyT_take (L := 21) (i := 0) (v := ?v0) rfl (by kernel_rfl) (by kernel_rfl) (by kernel_rfl) (by kernel_rfl) (fun _ _ _ h => h) hHeld (Or.inl ⟨by rfl, ?hy0⟩) ?rest0
            case hy0 => ((intro w' hw'); (try dsimp only at hw'); (go_simp); (try with_reducible rfl))
            (try simp only [Act.put]); (try simp only [List.setIfInBounds_toArray]); (try simp only [List.set_cons_zero]); (try simp only [List.set_cons_succ])
            refine wpAnyT_take (L := 21) (i := 1) (v := ?v1) rfl (by kernel_rfl) (by kernel_rfl) (by kernel_rfl) (by kernel_rfl) (fun _ _ _ h => h) hHeld (Or.inl ⟨by rfl, ?hy1⟩) ?rest1
            case hy1 => ((intro w' hw'); (try dsimp only at hw'); (go_simp); (try with_reducible rfl))
            (try simp only [Act.put]); (try simp only [List.setIfInBounds_toArray]); (try simp only [List.set_cons_zero]); (try simp only [List.set_cons_succ])
            refine wpAnyT_take (L := 21) (i := 2) (v := ?v2) rfl (by kernel_rfl) (by kernel_rfl) (by kernel_rfl) (by kernel_rfl) (fun _ _ _ h => h) hHeld (Or.inl ⟨by rfl, ?hy2⟩) ?rest2
            case hy2 => ((intro w' hw'); (try dsimp only at hw'); (go_simp); (try with_reducible rfl))
            (try simp only [Act.put]); (try simp only [List.setIfInBounds_toArray]); (try simp only [List.set_cons_zero]); (try simp only [List.set_cons_succ])
            refine wpAnyT_take (L := 21) (i := 3) (v := ?v3) rfl (by kernel_rfl) (by kernel_rfl) (by kernel_rfl) (by kernel_rfl) (fun _ _ _ h => h) hHeld (Or.inl ⟨by rfl, ?hy3⟩) ?rest3
            case hy3 => ((intro w' hw'); (try dsimp only at hw'); (go_simp); (try with_reducible rfl))
            (try simp only [Act.put]); (try simp only [List.setIfInBounds_toArray]); (try simp only [List.set_cons_zero]); (try simp only [List.set_cons_succ])
            refine wpAnyT_take (L := 21) (i := 4) (v := ?v4) rfl (by kernel_rfl) (by kernel_rfl) (by kernel_rfl) (by kernel_rfl) (fun _ _ _ h => h) hHeld (Or.inl ⟨by rfl, ?hy4⟩) ?rest4
            case hy4 => ((intro w' hw'); (try dsimp only at hw'); (go_simp); (try with_reducible rfl))
            (try simp only [Act.put]); (try simp only [List.setIfInBounds_toArray]); (try simp only [List.set_cons_zero]); (try simp only [List.set_cons_succ])
            refine wpAnyT_take (L := 21) (i := 5) (v := ?v5) rfl (by kernel_rfl) (by kernel_rfl) (by kernel_rfl) (by kernel_rfl) (fun _ _ _ h => h) hHeld (Or.inl ⟨by rfl, ?hy5⟩) ?rest5
            case hy5 => ((intro w' hw'); (try dsimp only at hw'); (go_simp); (try with_reducible rfl))
            (try simp only [Act.put]); (try simp only [List.setIfInBounds_toArray]); (try simp only [List.set_cons_zero]); (try simp only [List.set_cons_succ])
            refine wpAnyT_take (L := 21) (i := 6) (v := ?v6) rfl (by kernel_rfl) (by kernel_rfl) (by kernel_rfl) (by kernel_rfl) (fun _ _ _ h => h) hHeld (Or.inl ⟨by rfl, ?hy6⟩) ?rest6
            case hy6 => ((intro w' hw'); (try dsimp only at hw'); (go_simp); (try with_reducible rfl))
            (try simp only [Act.put]); (try simp only [List.setIfInBounds_toArray]); (try simp only [List.set_cons_zero]); (try simp only [List.set_cons_succ])
            refine wpAnyT_take (L := 21) (i := 7) (v := ?v7) rfl (by kernel_rfl) (by kernel_rfl) (by kernel_rfl) (by kernel_rfl) (fun _ _ _ h => h) hHeld (Or.inl ⟨by rfl, ?hy7⟩) ?rest7
            case hy7 => ((intro w' hw'); (try dsimp only at hw'); (go_simp); (try with_reducible rfl))
            (try simp only [Act.put]); (try simp only [List.setIfInBounds_toArray]); (try simp only [List.set_cons_zero]); (try simp only [List.set_cons_succ])
            refine wpAnyT_take (L := 21) (i := 8) (v := ?v8) rfl (by kernel_rfl) (by kernel_rfl) (by kernel_rfl) (by kernel_rfl) (fun _ _ _ h => h) hHeld (Or.inl ⟨by rfl, ?hy8⟩) ?rest8
            case hy8 => ((intro w' hw'); (try dsimp only at hw'); (go_simp); (try with_reducible rfl))
            (try simp only [Act.put]); (try simp only [List.setIfInBounds_toArray]); (try simp only [List.set_cons_zero]); (try simp only [List.set_cons_succ])
            refine wpAnyT_take (L := 21) (i := 9) (v := ?v9) rfl (by kernel_rfl) (by kernel_rfl) (by kernel_rfl) (by kernel_rfl) (fun _ _ _ h => h) hHeld (Or.inl ⟨by rfl, ?hy9⟩) ?rest9
            case hy9 => ((intro w' hw'); (try dsimp only at hw'); (go_simp); (try with_reducible rfl))
            (try simp only [Act.put]); (try simp only [List.setIfInBounds_toArray]); (try simp only [List.set_cons_zero]); (try simp only [List.set_cons_succ])
            refine wpAnyT_take (L := 21) (i := 10) (v := ?v10) rfl (by kernel_rfl) (by kernel_rfl) (by kernel_rfl) (by kernel_rfl) (fun _ _ _ h => h) hHeld (Or.inl ⟨by rfl, ?hy10⟩) ?rest10
            case hy10 => ((intro w' hw'); (try dsimp only at hw'); (go_simp); (try with_reducible rfl))
            (try simp only [Act.put]); (try simp only [List.setIfInBounds_toArray]); (try simp only [List.set_cons_zero]); (try simp only [List.set_cons_succ])
            refine wpAnyT_take (L := 21) (i := 11) (v := ?v11) rfl (by kernel_rfl) (by kernel_rfl) (by kernel_rfl) (by kernel_rfl) (fun _ _ _ h => h) hHeld (Or.inl ⟨by rfl, ?hy11⟩) ?rest11
            case hy11 => ((intro w' hw'); (try dsimp only at hw'); (go_simp); (try with_reducible rfl))
            (try simp only [Act.put]); (try simp only [List.setIfInBounds_toArray]); (try simp only [List.set_cons_zero]); (try simp only [List.set_cons_succ])
            refine wpAnyT_take (L := 21) (i := 12) (v := ?v12) rfl (by kernel_rfl) (by kernel_rfl) (by kernel_rfl) (by kernel_rfl) (fun _ _ _ h => h) hHeld (Or.inl ⟨by rfl, ?hy12⟩) ?rest12
            case hy12 => ((intro w' hw'); (try dsimp only at hw'); (go_simp); (try with_reducible rfl))
            (try simp only [Act.put]); (try simp only [List.setIfInBounds_toArray]); (try simp only [List.set_cons_zero]); (try simp only [List.set_cons_succ])
            refine wpAnyT_take (L := 21) (i := 13) (v := ?v13) rfl (by kernel_rfl) (by kernel_rfl) (by kernel_rfl) (by kernel_rfl) (fun _ _ _ h => h) hHeld (Or.inl ⟨by rfl, ?hy13⟩) ?rest13
            case hy13 => ((intro w' hw'); (try dsimp only at hw'); (go_simp); (try with_reducible rfl))
            (try simp only [Act.put]); (try simp only [List.setIfInBounds_toArray]); (try simp only [List.set_cons_zero]); (try simp only [List.set_cons_succ])
            refine wpAnyT_take (L := 21) (i := 14) (v := ?v14) rfl (by kernel_rfl) (by kernel_rfl) (by kernel_rfl) (by kernel_rfl) (fun _ _ _ h => h) hHeld (Or.inl ⟨by rfl, ?hy14⟩) ?rest14
            case hy14 => ((intro w' hw'); (try dsimp only at hw'); (go_simp); (try with_reducible rfl))
            (try simp only [Act.put]); (try simp only [List.setIfInBounds_toArray]); (try simp only [List.set_cons_zero]); (try simp only [List.set_cons_succ])
            refine wpAnyT_take (L := 21) (i := 15) (v := ?v15) rfl (by kernel_rfl) (by kernel_rfl) (by kernel_rfl) (by kernel_rfl) (fun _ _ _ h => h) hHeld (Or.inl ⟨by rfl, ?hy15⟩) ?rest15
            case hy15 => ((intro w' hw'); (try dsimp only at hw'); (go_simp); (try with_reducible rfl))
            (try simp only [Act.put]); (try simp only [List.setIfInBounds_toArray]); (try simp only [List.set_cons_zero]); (try simp only [List.set_cons_succ])
            refine wpAnyT_one (L := 21) (i := 16) (by kernel_rfl) rfl (fun K hK => ?_)
            go_simp
            go_at_call 142
            (with_reducible refine (HCALL.out _ ?_ ?_).mono ?_)
            · exact HSV.out
            · exact HSU.out
            rintro e w5 ⟨u, ks, rfl, how, hks, hknd, hb5⟩
            obtain ⟨ua, uc, rfl⟩ := how.val
            have hst := Still.of_below hb5
            have HD5 := hide (And.intro (hst _ _ x4) (And.intro (hst _ _ o4) (And.intro (hst _ _ c0) (And.intro (hst _ _ c1) (And.intro (hst _ _ c2) (And.intro (hst _ _ c3) (And.intro (hst _ _ c4) (And.intro (hst _ _ c5) (And.intro (hst _ _ y0) (And.intro (hst _ _ y1) (And.intro (hst _ _ y2) (And.intro (hst _ _ y3) (hst _ _ y4)))))))))))))
            refine hK.out _ _ (fun _ => HD5.out) ?_
            clear hK K
            refine wpAnyT_take (L := 21) (i := 17) (v := ?v17) rfl (by kernel_rfl) (by kernel_rfl) (by kernel_rfl) (by kernel_rfl) (fun _ _ _ h => h) HD5.out (Or.inl ⟨by rfl, ?hy17⟩) ?rest17
            case hy17 => ((intro w' hw'); (try dsimp only at hw'); (go_simp); (try with_reducible rfl))
            (try simp only [Act.put]); (try simp only [List.setIfInBounds_toArray]); (try simp only [List.set_cons_zero]); (try simp only [List.set_cons_succ])
            refine wpAnyT_one (L := 21) (i := 18) (by kernel_rfl) rfl (fun K hK => ?_)
            go_simp
            have hst2 := Still.of_below (alloc_below w5 (.cells #[.string lab, .int .i64 N.k, .string N.fr, .string N.tg, .int .i64 N.ix, .slice ua N.kids.len uc] ( /- t -/ 76)))
            obtain ⟨s0, s1, s2, s3, s4, s5, s6, s7, s8, s9, s10, s11, s12⟩ := HD5.out
            have HD6 := hide (And.intro (hst2 _ _ s0) (And.intro (hst2 _ _ s1) (And.intro (hst2 _ _ s2) (And.intro (hst2 _ _ s3) (And.intro (hst2 _ _ s4) (And.intro (hst2 _ _ s5) (And.intro (hst2 _ _ s6) (And.intro (hst2 _ _ s7) (And.intro (hst2 _ _ s8) (And.intro (hst2 _ _ s9) (And.intro (hst2 _ _ s10) (And.intro (hst2 _ _ s11) (hst2 _ _ s12)))))))))))))
            refine hK.out _ _ (fun _ => HD6.out) ?_
            clear hK K
            (try simp only [Act.put]); (try simp only [List.setIfInBounds_toArray]); (try simp only [List.set_cons_zero]); (try simp only [List.set_cons_succ])
            refine wpAnyT_one (L := 21) (i := 19) (by kernel_rfl) rfl (fun K hK => ?_)
            have hgr5 := (HGR.out.below hb5).below (alloc_below w5 (.cells #[.string lab, .int .i64 N.k, .string N.fr, .string N.tg, .int .i64 N.ix, .slice ua N.kids.len uc] ( /- t -/ 76)))
            refine step_append_lies _ (by rfl) _ _ _ (by rfl) (w.heap.size + 4) ( /- t -/ 76) i0 _ 6 88 Tryd.underlying23 HI.out.1 HI.out.2.1 HI.out.2.2.1 HI.out.2.2.2 rfl (by omega) v (subF U p I).len (grXs (w5.alloc (.cells #[.string lab, .int .i64 N.k, .string N.fr, .string N.tg, .int .i64 N.ix, .slice ua N.kids.len uc] ( /- t -/ 76))) v (subF U p I)) (by rfl) hgr5.owns
              ⟨w5.heap.size, 0, none⟩ 1 1 [.string lab, .int .i64 N.k, .string N.fr, .string N.tg, .int .i64 N.ix, .slice ua N.kids.len uc] (by rfl) (by rfl) (World.news_of_block (cs := #[.string lab, .int .i64 N.k, .string N.fr, .string N.tg, .int .i64 N.ix, .slice ua N.kids.len uc]) (t := ( /- t -/ 76)) (fr := (0, 0)) (heap_alloc_new w5 _)) (by simp [Value.oneCell'])
              (by omega) (by have := HSL.out; unfold maxLen; omega) (by have := HSL.out; omega) (by have := hb5.size; simp at this ⊢; omega) _ rfl ?_
            intro gg cp w6 hown6 hgrow6 hat6 hlt6
            have hfar : ∀ (b o : Nat) (x : Value), b < w.heap.size + 4 → (w5.alloc (.cells #[.string lab, .int .i64 N.k, .string N.fr, .string N.tg, .int .i64 N.ix, .slice ua N.kids.len uc] ( /- t -/ 76))).cell? ⟨b, o, none⟩ = some x → w6.cell? ⟨b, o, none⟩ = some x := fun b o x hb he => by
              rw [hgrow6.cell_far ⟨b, o, none⟩ (World.block_lt_of_cell? _ _ he) (fun e => by have := hgr5.ge b (hgr5.block b e.symm); omega)]
              exact he
            obtain ⟨s0, s1, s2, s3, s4, s5, s6, s7, s8, s9, s10, s11, s12⟩ := HD6.out
            have HD7 := hide (And.intro (hfar _ _ _ (by omega) s0) (And.intro (hfar _ _ _ (by omega) s1) (And.intro (hfar _ _ _ (by omega) s2) (And.intro (hfar _ _ _ (by omega) s3) (And.intro (hfar _ _ _ (by omega) s4) (And.intro (hfar _ _ _ (by omega) s5) (And.intro (hfar _ _ _ (by omega) s6) (And.intro (hfar _ _ _ (by omega) s7) (And.intro (hfar _ _ _ (by omega) s8) (And.intro (hfar _ _ _ (by omega) s9) (And.intro (hfar _ _ _ (by omega) s10) (And.intro (hfar _ _ _ (by omega) s11) (hfar _ _ _ (by omega) s12)))))))))))))
            refine hK.out _ _ (fun _ => HD7.out) ?_
            clear hK K
            (try simp only [Act.put]); (try simp only [List.setIfInBounds_toArray]); (try simp only [List.set_cons_zero]); (try simp only [List.set_cons_succ])
            refine wpAnyT_take (L := 21) (i := 20) (v := ?v20) rfl (by kernel_rfl) (by kernel_rfl) (by kernel_rfl) (by kernel_rfl) (fun _ _ _ h => h) HD7.out (Or.inl ⟨by rfl, ?hy20⟩) ?rest20
            case hy20 => ((intro w' hw'); (try dsimp only at hw'); (go_simp); (try with_reducible rfl))
            (try simp only [Act.put]); (try simp only [List.setIfInBounds_toArray]); (try simp only [List.set_cons_zero]); (try simp only [List.set_cons_succ])
            have ho6 : Box5 w6 (w.heap.size + 3) (.int .i64 k) (.string fr) (.string tg) (.int .i64 ix) v := (((HO.out.same (w' := wr.drew) rfl).below hb5).below (alloc_below w5 (.cells #[.string lab, .int .i64 N.k, .string N.fr, .string N.tg, .int .i64 N.ix, .slice ua N.kids.len uc] ( /- t -/ 76)))).same (hgrow6.block _ (by have := hb5.size; simp at this ⊢; omega) (fun e => by have := hgr5.ge _ (hgr5.block _ e.symm); omega))
            have o4 := ho6.cells.2.2.2.2
            have fo := ho6.frozen
            refine wpAnyT_one (L := 21) (i := 21) (by kernel_rfl) rfl (fun K hK => ?_)
            go_simp
            refine hK.out _ _ (fun h => absurd rfl h) ?_
            refine wpAnyT_done (by kernel_rfl) ?_ _
            clear hK K
            have hD : Below w.heap.size w w6 := by
              have h1 := HB.out.drew
              have h2 := h1.trans (hb5.mono h1.size)
              have h3 := h2.alloc h2.size (.cells #[.string lab, .int .i64 N.k, .string N.fr, .string N.tg, .int .i64 N.ix, .slice ua N.kids.len uc] ( /- t -/ 76))
              exact ⟨hgrow6.os.trans h3.os, hgrow6.tape.trans h3.tape, hgrow6.output.trans h3.output, Nat.le_trans h3.size hgrow6.size, fun b hb => (hgrow6.block b (Nat.lt_of_lt_of_le hb h3.size) (fun e => by have := hgr5.ge b (hgr5.block b e.symm); omega)).trans (h3.block b hb)⟩
            have hou := how.same (Same.of_below (alloc_below w5 (.cells #[.string lab, .int .i64 N.k, .string N.fr, .string N.tg, .int .i64 N.ix, .slice ua N.kids.len uc] ( /- t -/ 76))) how.lt)
            obtain ⟨q1, q2, q3, q4⟩ := HFN.out
            have hwr : w.heap.size + 4 ≤ wr.heap.size := by have := hol; omega
            obtain ⟨bs', hpush, -⟩ := Gr.push hgr5 (k := N.k) (ix := N.ix) hou (fun b hb => by have := hks b hb; simp at this; omega) hknd
              (fun b hb hb2 => by have h1 := HGR.out.lt b hb; have h2 := hks b hb2; omega) HL.out q1 q2 q3 q4 hown6 hgrow6 (by rcases hat6 with h | h; exact Or.inl h; exact Or.inr h)
            obtain ⟨hx, hy, hz, hg⟩ := HR.out
            have far : ∀ b, b < w.heap.size + 3 → (w6.setCell ⟨w.heap.size + 3, 4, none⟩ (.slice (some ⟨gg, 0, none⟩) ((subF U p I).len + 1) cp)).heap[b]? = wr.heap[b]? := fun b hb => by
              have h5 := hb5.size
              simp at h5
              rw [Below.heap_setCell _ _ _ _ (by simp; omega), hgrow6.block b (by simp; omega) (fun e => by have := hgr5.ge b (hgr5.block b e.symm); omega), Below.heap_alloc _ _ _ (by omega), hb5.block b (by simp; omega)]
              rfl
            have hEQ : (subF U p I).app (.cons lab N.k N.fr N.tg N.ix N.kids .nil) = subF U (p.app (.cons lab kd fr' tg' ix' kids' .nil)) I := by
              rw [subF_app, subF_cons, HNN.out]
              rfl
            rw [hEQ] at hpush
            have HREL : Hid (SubRel w U k ix fr tg (.slice (some ⟨b', o, none⟩) kids.len cap) su kids I (some ⟨b', o, none⟩) (.int .i64 ((p.len + 1 : Nat) : Int)) (w6.setCell ⟨w.heap.size + 3, 4, none⟩ (.slice (some ⟨gg, 0, none⟩) ((subF U p I).len + 1) cp))) := hide
              ⟨p.app (.cons lab kd fr' tg' ix' kids' .nil), rest, _, bs', by rw [HE.out, F.app_assoc]; rfl, by rw [F.len_app]; rfl, by rw [F.len_app]; exact hg.tail, hx.same (far _ (by omega)), hy.same (far _ (by omega)), hz.same (far _ (by omega)), ho6.set4 _,
                hpush.same (fun b hb => Below.heap_setCell _ _ _ _ (by have := hpush.ge b hb; simp; omega)), hD.setCell (by simp) _⟩
            clear hpush hx hy hz hg far hEQ hou hD hown6 hgrow6 hat6 hgr5 how hks hknd
            go_wp2_with fail
            go_roundw
            case rel => exact HREL.out
            case measure => simp [intOf]; omega

theorem sub_all : ∀ n, SubAt n := by
  intro n
  induction n with
  | zero => intro w k ix i fr tg sv kids U su hn; omega
  | succ n ih =>
    intro w k ix i fr tg sv kids U su hn hs hsu hfit hfu hi1 hi2 hw hc
    by_cases hv : k = 4 ∧ ix = i
    · obtain ⟨rfl, rfl⟩ := hv
      refine sub_var w ix fr tg sv kids U su hsu ?_
      rcases hc with hc | hc
      · obtain ⟨b, u, hu, h⟩ := hw
        have := scN_of_w _ b u hu h
        simp only [scN, if_true, Bool.and_eq_true, decide_eq_true_eq] at this
        omega
      · exact hc
    · have e : subN U ⟨k, fr, tg, ix, kids⟩ i = ⟨k, fr, tg, ix, subF U kids (bump k i)⟩ := by unfold subN; rw [if_neg hv]
      rw [e]
      exact sub_loop n ih w k ix i fr tg sv kids U su hn hs hsu hfit hfu hi1 hi2 hw hc hv _ rfl

/-- A copy. -/
theorem copy_ok (U : Nd) (b u : Int) (hu0 : 0 ≤ u) (hb0 : 0 ≤ b) (hw : wN U b u = true) (hf : Fit U) (hh : hN U ≤ 1000000) : CopyOk U := by
  intro w su hs
  have := sub_all (U.kids.sz + 1) w U.k U.ix (-1) U.fr U.tg su U.kids ⟨0, ⟨#[]⟩, ⟨#[]⟩, 0, .nil⟩ (.slice none 0 0) (Nat.lt_succ_self _) hs Sl.nil hf ⟨by decide, by decide, by decide, by decide⟩ (by omega) (by unfold hN at hh; omega) ⟨b, u, hu0, hw⟩ (Or.inl rfl)
  have e := subN_far ⟨0, ⟨#[]⟩, ⟨#[]⟩, 0, .nil⟩ U b (-1) (scN_of_w U b u hu0 hw) (Or.inr (by omega)) hb0
  rw [show (⟨U.k, U.fr, U.tg, U.ix, U.kids⟩ : Nd) = U from rfl, e] at this
  exact this

end Go.Proofs.YtfppglfajbmapaaDoor

/- l1Copy, l1Unfold and UnfoldGlobal of the model. -/
namespace Go.Proofs.YtfppglfajbmapaaDoor
open Go.RowKit

theorem Box5.setAll {w : World} {b : Nat} {v0 v1 v2 v3 v4 : Value} (h : Box5 w b v0 v1 v2 v3 v4) (u0 u1 u2 u3 u4 : Value) :
    Box5 (((((w.setCell ⟨b, 0, none⟩ u0).setCell ⟨b, 1, none⟩ u1).setCell ⟨b, 2, none⟩ u2).setCell ⟨b, 3, none⟩ u3).setCell ⟨b, 4, none⟩ u4) b u0 u1 u2 u3 u4 := by
  obtain ⟨t, h⟩ := h
  exact ⟨t, by simp [World.setCell, Array.getElem?_modify, h]⟩

theorem kept_none (j m : Nat) : ((kept j)[m]?).join = none := by
  unfold kept
  rw [List.getElem?_replicate]
  split <;> rfl
theorem cp_kept : ∀ (f : F) (j : Nat), cpF (kept j) f = f := by
  intro f
  induction f with
  | nil => intro j; rw [cpF]
  | cons lab k fr tg ix kids rest ihk ihr =>
    intro j
    unfold cpF
    by_cases h4 : k = 4
    · simp only [if_pos h4, kept_none, ihk j, ihr j]
    · simp only [if_neg h4, ihr j]
      by_cases h3 : k = 3
      · rw [if_pos h3, show none :: kept j = kept (j + 1) from rfl, ihk]
      · rw [if_neg h3, ihk]
theorem cpN_nil (g : Nd) : cpN [] g = g := by
  obtain ⟨k, fr, tg, ix, kids⟩ := g
  have := cp_kept (.cons ⟨#[]⟩ k fr tg ix kids .nil) 0
  rw [show kept 0 = ([] : List (Option Nd)) from rfl, cpF_cons] at this
  simp only [F.cons.injEq] at this
  obtain ⟨_, h1, h2, h3, h4, h5, _⟩ := this
  cases hc : cpN [] ⟨k, fr, tg, ix, kids⟩
  rw [hc] at h1 h2 h3 h4 h5
  simp only at h1 h2 h3 h4 h5
  rw [h1, h2, h3, h4, h5]

theorem cpN_fit {s : List (Option Nd)} {g : Nd} (hs : ∀ U, some U ∈ s → Fit U) (hg : Fit g) : Fit (cpN s g) := by
  unfold cpN
  split
  · split
    · rename_i U hU
      exact hs U (mem_of_join hU)
    · exact hg
  · exact hg

/-- A valid node in a place without a guarded recursion is no variable. -/
theorem not_var {g : Nd} {b : Int} (h : wN g b b = true) : g.k ≠ 4 := by
  intro h4
  unfold wN at h
  simp only [Bool.and_eq_true] at h
  have := h.2
  rw [if_pos h4] at this
  simp only [Bool.and_eq_true, decide_eq_true_eq] at this
  omega
theorem cpN_k {s : List (Option Nd)} {g : Nd} (h : g.k ≠ 4) : cpN s g = ⟨g.k, g.fr, g.tg, g.ix, cpF (if g.k = 3 then none :: s else s) g.kids⟩ := by
  unfold cpN
  rw [if_neg h]

/-- A recursion: its one branch. -/
theorem rec_kid {g : Nd} {b u : Int} (h : wN g b u = true) (h3 : g.k = 3) : ∃ lab k fr tg ix kids, g.kids = .cons lab k fr tg ix kids .nil ∧ wN ⟨k, fr, tg, ix, kids⟩ (b + 1) (u + 1) = true := by
  unfold wN at h
  simp only [Bool.and_eq_true] at h
  obtain ⟨h1, h2⟩ := h
  rw [h3] at h1
  obtain ⟨_, _, _, lab, k', fr', tg', ix', kids', e, _⟩ := shape_rec h1
  rw [if_neg (by omega), if_pos h3, e] at h2
  simp only [wF, Bool.and_true] at h2
  exact ⟨lab, k', fr', tg', ix', kids', e, h2⟩

/-- What holds at each head of the unfolding loop. -/
structure UlIs (T : Nd) (n : Nat) (s : List (Option Nd)) (N : Nd) : Prop where
  eq : unfN n s N = T
  sz : N.kids.sz < n
  va : VaS s
  w : wN N (s.length : Int) (s.length : Int) = true
  hs : ∀ U, some U ∈ s → hN U ≤ 41 * s.length
  h : s.length + hN N ≤ 41
  fit : ∀ U, some U ∈ s → Fit U

theorem UlIs.start {g : Nd} (hw : wN g 0 0 = true) (hh : hN g ≤ 40) : UlIs (unf g) (g.kids.sz + 1) [] g :=
  ⟨rfl, Nat.lt_succ_self _, fun x hx => by simp at hx, hw, fun U hU => by simp at hU, by simp; omega, fun U hU => by simp at hU⟩
/-- One recursion more. -/
theorem UlIs.step {T : Nd} {n : Nat} {s : List (Option Nd)} {N : Nd} (h : UlIs T (n + 1) s N) (h3 : N.k = 3) (hf : Fit (cpN s N)) {lab : ByteArray} {k : Int} {fr tg : ByteArray} {ix : Int} {kids : F} (hk : N.kids = .cons lab k fr tg ix kids .nil)
    (hw : wN ⟨k, fr, tg, ix, kids⟩ ((s.length : Int) + 1) ((s.length : Int) + 1) = true) : UlIs T n (some (cpN s N) :: s) ⟨k, fr, tg, ix, kids⟩ := by
  have hc := cpN_w s h.va N (wN_u _ _ _ _ h.w (by omega))
  have hh := cpN_h (41 * s.length) N s h.hs
  have h2 := h.h
  have hkh : hN N = 1 + (1 + hF kids) := by unfold hN; rw [hk]; simp [hF]
  have hsz := h.sz
  rw [hk] at hsz
  simp only [F.sz] at hsz
  refine ⟨?_, by simp only; omega, ?_, ?_, ?_, ?_, ?_⟩
  · have := h.eq
    unfold unfN at this
    rw [if_pos h3, hk] at this
    exact this
  · intro x hx
    rcases List.mem_cons.1 hx with rfl | hx
    · exact ⟨_, rfl, hc⟩
    · exact h.va x hx
  · rw [show (((some (cpN s N) :: s).length : Nat) : Int) = (s.length : Int) + 1 by simp]
    exact hw
  · intro U hU
    simp only [List.length_cons]
    rcases List.mem_cons.1 hU with hU | hU
    · cases hU
      omega
    · have := h.hs U hU
      omega
  · simp only [List.length_cons]
    unfold hN at hkh h2 ⊢
    simp only
    omega
  · intro U hU
    rcases List.mem_cons.1 hU with hU | hU
    · cases hU
      exact hf
    · exact h.fit U hU
theorem UlIs.stop {T : Nd} {n : Nat} {s : List (Option Nd)} {N : Nd} (h : UlIs T n s N) (h3 : N.k ≠ 3) : cpN s N = T := by
  have h1 := h.eq
  have h2 := h.sz
  cases n with
  | zero => omega
  | succ n =>
    unfold unfN at h1
    rw [if_neg h3] at h1
    exact h1

set_option maxHeartbeats 1000000 in
set_option maxRecDepth 100000 in
theorem copy_calls (w : World) (U : Nd) (su : Value) (hsu : Sl w su U.kids) (hc : CopyOk U) :
    Calls Tryd.prog 90 #[.agg #[.int .i64 U.k, .string U.fr, .string U.tg, .int .i64 U.ix, su]] w (MadeN U.k U.fr U.tg U.ix U.kids w) := by
  have HC := hide hc
  have HS := hide hsu
  clear hc hsu
  go_enter Tryd.func90, Tryd.ntmps90
  go_wp2_with fail
  refine (HC.out _ su (HS.out.still (Still.of_below ?_))).mono ?_
  · exact (alloc_below _ _).alloc (by simp) _
  rintro e w1 ⟨u, bs, rfl, how, hge, hnd, hb⟩
  obtain ⟨ua, uc, rfl⟩ := how.val
  have HO := hide how
  have HG := hide hge
  clear how hge
  obtain ⟨hc, hf⟩ := bcell hb
  have hz := hb.size
  simp at hz
  go_wp2_with fail
  refine bodyPost_ret (v := .agg #[.int .i64 U.k, .string U.fr, .string U.tg, .int .i64 U.ix, .slice ua U.kids.len uc]) (by simp [results, Tryd.results90, go_sem, hc]) rfl ?_
  have hB : Below w.heap.size w w1 := (((alloc_below w _).alloc (by simp) _).trans (hb.mono (by simp; omega)))
  have q : ∀ b, b ∈ bs → w.heap.size + 2 ≤ b := fun b h => by have := HG.out b h; simp at this; omega
  refine ⟨_, bs, rfl, HO.out.same ?_, fun b h => by have := q b h; omega, hnd, ?_⟩
  · repeat (refine Same.setCell ?_ (fun b h => by have := q b h; simp; omega) _)
    exact Same.refl _ _
  · repeat (refine Below.setCell ?_ (by first | (simp; done) | (simp; omega)) _)
    exact hB

end Go.Proofs.YtfppglfajbmapaaDoor

/- l1Substitute and l1Copy of the model at any tree of moderate width. -/
namespace Go.Proofs.YtfppglfajbmapaaDoor
open Go.RowKit

/-- A node in new memory whose slice may grow. -/
def MadeH (k : Int) (fr tg : ByteArray) (ix : Int) (f : F) (w : World) (e : Ending) (w' : World) : Prop :=
  ∃ u bs, e = .returned (.agg #[.int .i64 k, .string fr, .string tg, .int .i64 ix, u]) ∧ Gr w' w.heap.size u f bs ∧ Below w.heap.size w w'
theorem MadeH.made {k : Int} {fr tg : ByteArray} {ix : Int} {f : F} {w : World} {e : Ending} {w' : World} (h : MadeH k fr tg ix f w e w') : MadeN k fr tg ix f w e w' := by
  obtain ⟨u, bs, h1, h2, h3⟩ := h
  exact ⟨u, bs, h1, h2.ow, h2.ge, h2.nodup, h3⟩
theorem Gr.mono {w : World} {base base' : Nat} {v : Value} {f : F} {bs : List Nat} (h : Gr w base v f bs) (hb : base' ≤ base) : Gr w base' v f bs := by
  rcases h with h | ⟨g, cap, cur, bs', h0, h1, h2, h3, h4, h5, h6, h7, h8, h9, h10⟩
  · exact Or.inl h
  · exact Or.inr ⟨g, cap, cur, bs', h0, Nat.le_trans hb h1, h2, h3, h4, h5, h6, h7, h8, fun b hm => Nat.le_trans hb (h9 b hm), h10⟩

/-- No row is longer than a thousand. -/
def lnF : F → Prop
  | .nil => True
  | .cons _ _ _ _ _ kids rest => kids.len ≤ 1000 ∧ lnF kids ∧ lnF rest
theorem lnF_app (g : F) : ∀ f : F, lnF (f.app g) ↔ lnF f ∧ lnF g
  | .nil => by simp [F.app, lnF]
  | .cons lab k fr tg ix kids rest => by simp only [F.app, lnF, lnF_app g rest, and_assoc]
theorem len_sz : ∀ f : F, f.len ≤ f.sz
  | .nil => Nat.le_refl _
  | .cons _ _ _ _ _ kids rest => by have := len_sz rest; simp only [F.len, F.sz]; omega
theorem lnF_sz : ∀ f : F, f.sz ≤ 1000 → lnF f
  | .nil, _ => trivial
  | .cons _ _ _ _ _ kids rest, h => by
    simp only [F.sz] at h
    exact ⟨by have := len_sz kids; omega, lnF_sz kids (by omega), lnF_sz rest (by omega)⟩

def SubGt (n : Nat) : Prop := ∀ (w : World) (k ix i : Int) (fr tg : ByteArray) (sv : Value) (kids : F) (U : Nd) (su : Value), kids.sz < n → Sl w sv kids → Sl w su U.kids → Fit ⟨k, fr, tg, ix, kids⟩ → Fit U →
  -1 ≤ i → i + 1 + hF kids ≤ 1000000 → kids.len ≤ 1000 ∧ lnF kids → ((kids = .nil ∧ ¬ (k = 4 ∧ ix = i)) ∨ CopyOk U) →
  Calls Tryd.prog 142 #[.agg #[.int .i64 k, .string fr, .string tg, .int .i64 ix, sv], .agg #[.int .i64 U.k, .string U.fr, .string U.tg, .int .i64 U.ix, su], .int .i64 i] w
    (MadeN (subN U ⟨k, fr, tg, ix, kids⟩ i).k (subN U ⟨k, fr, tg, ix, kids⟩ i).fr (subN U ⟨k, fr, tg, ix, kids⟩ i).tg (subN U ⟨k, fr, tg, ix, kids⟩ i).ix (subN U ⟨k, fr, tg, ix, kids⟩ i).kids w)

set_option maxHeartbeats 2000000 in
set_option maxRecDepth 100000 in
theorem subg_loop (n : Nat) (ih : SubGt n) (w : World) (k ix i : Int) (fr tg : ByteArray) (sv : Value) (kids : F) (U : Nd) (su : Value) (hn : kids.sz < n + 1) (hs : Sl w sv kids) (hsu : Sl w su U.kids) (hfit : Fit ⟨k, fr, tg, ix, kids⟩) (hfu : Fit U)
    (hi1 : -1 ≤ i) (hi2 : i + 1 + hF kids ≤ 1000000) (hw : kids.len ≤ 1000 ∧ lnF kids) (hc : (kids = .nil ∧ ¬ (k = 4 ∧ ix = i)) ∨ CopyOk U) (hne : ¬ (k = 4 ∧ ix = i)) (I : Int) (hI : I = bump k i) :
    Calls Tryd.prog 142 #[.agg #[.int .i64 k, .string fr, .string tg, .int .i64 ix, sv], .agg #[.int .i64 U.k, .string U.fr, .string U.tg, .int .i64 U.ix, su], .int .i64 i] w
    (MadeH k fr tg ix (subF U kids I) w) := by
  have HBI := hide hI
  clear hI
  obtain ⟨hlen, hw1⟩ := hw
  obtain ⟨a, cap, rfl, hl, hat⟩ := hs.at
  have HH := hide (And.intro hn (And.intro hi2 (And.intro hw1 (And.intro hc (And.intro hsu (And.intro hat (And.intro hfit hfu)))))))
  clear hs hn hi2 hw1 hc hsu hat hfit hfu hl
  go_enter Tryd.func142, Tryd.ntmps142
  go_upto_region 1 with fail
  go_cut [2, 17] from 9 to 17 (fun v2 v17 wc => v2 = .int .i64 i ∧ v17 = .bool false ∧ Box5 wc w.heap.size (.int .i64 k) (.string fr) (.string tg) (.int .i64 ix) (.slice a kids.len cap) ∧
    Box5 wc (w.heap.size + 1) (.int .i64 U.k) (.string U.fr) (.string U.tg) (.int .i64 U.ix) su ∧
    Box5 wc (w.heap.size + 2) (.int .i64 0) (.string ⟨#[]⟩) (.string ⟨#[]⟩) (.int .i64 0) (.slice none 0 0) ∧ wc.heap.size = w.heap.size + 3 ∧ Below w.heap.size w wc)
  case first =>
    by_cases h4 : k = 4
    · subst h4
      have hq : (ix == i) = false := beq_eq_false_iff_ne.2 (fun e => hne ⟨rfl, e⟩)
      go_wp2_with fail
      go_meet
      case rel => exact ⟨rfl, rfl, three_new _ _ _ _ _ _ _ _ _ _ _ _ _ _ _ _ _⟩
    · have hq : (k == 4) = false := beq_eq_false_iff_ne.2 h4
      go_wp2_with fail
      go_meet
      case rel => exact ⟨rfl, rfl, three_new _ _ _ _ _ _ _ _ _ _ _ _ _ _ _ _ _⟩
  case rest =>
    obtain ⟨rfl, rfl, hx, hy, hz, hsz, hbw⟩ := hcut
    obtain ⟨x0, x1, x2, x3, x4⟩ := hx.cells
    have hxl := hx.lt
    have HB := hide (And.intro hx (And.intro hy (And.intro hz hbw)))
    clear hx hy hz hbw
    go_upto_region 4 with fail
    go_cut [36] from 30 to 35 (fun v36 wd => ∃ bb : Bool, v36 = .bool bb ∧ Hid (bb = decide (k = 3 ∧ 0 ≤ i)) ∧ wd = wc.alloc (.cells #[.int .i64 k, .string fr, .string tg, .int .i64 ix, .slice none 0 0] ( /- t -/ 25)))
    case first =>
      by_cases h3 : k = 3
      · subst h3
        by_cases h0 : 0 ≤ i
        · have hd : decide ((3 : Int) = 3 ∧ 0 ≤ i) = true := decide_eq_true ⟨rfl, h0⟩
          go_wp2_with fail
          go_meet
          case rel => exact ⟨true, by simp, hide hd.symm, rfl⟩
        · have hd : decide ((3 : Int) = 3 ∧ 0 ≤ i) = false := decide_eq_false (fun h => h0 h.2)
          go_wp2_with fail
          go_meet
          case rel => exact ⟨false, by simp, hide hd.symm, rfl⟩
      · have hq : (k == 3) = false := beq_eq_false_iff_ne.2 h3
        go_wp2_with fail
        go_meet
        case rel => exact ⟨false, by simp, hide (decide_eq_false (fun h => h3 h.1)).symm, rfl⟩
    case rest =>
      obtain ⟨bb, rfl, hbb, rfl⟩ := hcut
      go_upto_if 36 with fail
      go_cut [2] from 37 to 38 (fun v2 wd => v2 = .int .i64 I ∧ wd = wc.alloc (.cells #[.int .i64 k, .string fr, .string tg, .int .i64 ix, .slice none 0 0] ( /- t -/ 25)))
      case first =>
        have hbi : i ≤ 1000000 := by have := HH.out.2.1; omega
        by_cases h3 : k = 3 ∧ 0 ≤ i
        · have hd : bb = true := hbb.out.trans (decide_eq_true h3)
          subst hd
          have e : I = i + 1 := by rw [HBI.out]; unfold bump; rw [if_pos h3]
          have h30 := h3.2
          go_wp2_with fail
          go_meet
          case rel => exact ⟨by rw [e], by rw [h3.1]⟩
        · have hd : bb = false := hbb.out.trans (decide_eq_false h3)
          subst hd
          have e : I = i := by rw [HBI.out]; unfold bump; rw [if_neg h3]
          go_wp2_with fail
          go_meet
          case rel => exact ⟨by rw [e], rfl⟩
      case rest =>
        obtain ⟨rfl, rfl⟩ := hcut
        obtain ⟨hx, hy, hz, hbw⟩ := HB.out
        have hbd := alloc_below wc (.cells #[.int .i64 k, .string fr, .string tg, .int .i64 ix, .slice none 0 0] ( /- t -/ 25))
        have hx := hx.below hbd
        have hy := hy.below hbd
        have hz := hz.below hbd
        have ho := Box5.now wc (.int .i64 k) (.string fr) (.string tg) (.int .i64 ix) (.slice none 0 0) ( /- t -/ 25)
        rw [hsz] at ho
        have hbe := hbw.trans (hbd.mono hbw.size)
        have HST : Hid (SubRel w U k ix fr tg (.slice a kids.len cap) su kids I a (.int .i64 0) (wc.alloc (.cells #[.int .i64 k, .string fr, .string tg, .int .i64 ix, .slice none 0 0] ( /- t -/ 25)))) :=
          hide ⟨.nil, kids, _, [], rfl, rfl, HH.out.2.2.2.2.2.1, hx, hy, hz, ho, Gr.nil _ _, hbe⟩
        clear hx hy hz hbw hbd ho hbe x0 x1 x2 x3 x4 hxl HB
        obtain ⟨i0, hi, hz0, hz1, hz2⟩ := info_parts Tryd.info76
        have HI := hide (And.intro hi (And.intro hz0 (And.intro hz1 hz2)))
        clear hi hz0 hz1 hz2
        go_wp2_with fail
        clear hsz
        go_loopw [8] (fun iv wr => SubRel w U k ix fr tg (.slice a kids.len cap) su kids I a iv wr) (fun iv _ => kids.len - (intOf iv).toNat)
        case atStart => exact HST.out
        case round =>
          obtain ⟨p, g, v, bs, hfe, rfl, hg, hx, hy, hz, ho, hgr, hb⟩ := hrel
          have x4 := hx.cells.2.2.2.2
          have hxl := hx.lt
          cases g with
          | nil =>
            have hge : kids.len ≤ p.len := by rw [hfe, F.app_nil]; exact Nat.le_refl _
            have hple : p.len ≤ kids.len := by rw [hfe, F.app_nil]; exact Nat.le_refl _
            rw [F.app_nil] at hfe
            obtain ⟨va, vc, rfl⟩ := hgr.val
            obtain ⟨o0, o1, o2, o3, o4⟩ := ho.cells
            obtain ⟨z0, z1, z2, z3, z4⟩ := hz.cells
            have fz := hz.frozen
            have hol := ho.lt
            have hzl := hz.lt
            have HG := hide hgr
            have HB := hide hb
            have HE := hide hfe
            clear hgr hb hfe hx hy hz ho hg
            go_wp2_with fail
            refine bodyPost_ret (v := .agg #[.int .i64 k, .string fr, .string tg, .int .i64 ix, .slice va (subF U p I).len vc]) (by simp [results, Tryd.results142, go_sem, *]) rfl ?_
            have hge := HG.out.ge
            rw [HE.out]
            refine ⟨_, bs, rfl, (HG.out.same ?_).mono (by omega), ?_⟩
            · repeat (refine Same.setCell ?_ (fun b h => by have := hge b h; simp; omega) _)
              exact Same.refl _ _
            · repeat (refine Below.setCell ?_ (by first | (simp; done) | (simp; omega)) _)
              exact HB.out
          | cons lab kd fr' tg' ix' kids' rest =>
            have hlt : p.len < kids.len := by rw [hfe, F.len_app]; simp only [F.len]; omega
            obtain ⟨b', o, rfl, l1, l2, l3, l4, l5, c0, c1, c2, c3, c4, ⟨sv', c5, hsv⟩, -⟩ := (hg.still (Still.of_below hb)).head
            obtain ⟨y0, y1, y2, y3, y4⟩ := hy.cells
            obtain ⟨hn, hi2, hw1, hc, hsu, hat, hfit, hfu⟩ := HH.out
            obtain ⟨N, hN⟩ : ∃ N, N = subN U ⟨kd, fr', tg', ix', kids'⟩ I := ⟨_, rfl⟩
            have hbs : -1 ≤ I ∧ I ≤ i + 1 ∧ (i = -1 → I = -1) := by
              rw [HBI.out]
              unfold bump
              split <;> omega
            have hsz2 : kids'.sz < n ∧ 1 + hF kids' ≤ hF kids ∧ (kids'.len ≤ 1000 ∧ lnF kids') := by
              rw [hfe, F.sz_app] at hn
              rw [hfe, hF_app]
              rw [hfe, lnF_app] at hw1
              simp only [F.sz, hF, lnF] at hn hw1 ⊢
              exact ⟨by omega, by omega, hw1.2.1, hw1.2.2.1⟩
            have HCALL : Hid (∀ w', Sl w' sv' kids' → Sl w' su U.kids → Calls Tryd.prog 142 #[.agg #[.int .i64 kd, .string fr', .string tg', .int .i64 ix', sv'], .agg #[.int .i64 U.k, .string U.fr, .string U.tg, .int .i64 U.ix, su], .int .i64 I] w' (MadeN N.k N.fr N.tg N.ix N.kids w')) := hide (fun w' h1 h2 => by
              rw [hN]
              refine ih w' kd ix' I fr' tg' sv' kids' U su hsz2.1 h1 h2 ⟨l2, l3, l4, l5⟩ hfu hbs.1 (by omega) hsz2.2.2 ?_
              rcases hc with hc | hc
              · exact absurd (congrArg F.len (hfe.symm.trans hc.1)) (by rw [F.len_app]; simp [F.len])
              · exact Or.inr hc)
            have HFN : Hid (Fit N) := hide (by rw [hN]; exact subN_fit ⟨l2, l3, l4, l5⟩ hfu)
            have hdr : Still wr wr.drew := fun _ _ h => h
            have HSV := hide (hsv.still hdr)
            have HSU := hide ((hsu.still (Still.of_below hb)).still hdr)
            have hpl : p.len ≤ 1000 := by omega
            have HSL : Hid ((subF U p I).len ≤ 1000) := hide (by rw [subF_len]; exact hpl)
            have HL := hide l1
            have hyl := hy.lt
            have hol := ho.lt
            have hbl := World.block_lt_of_cell? _ _ c0
            have hbw : b' < w.heap.size := by
              obtain ⟨b2, o2, e2, _, _, _, _, _, q0, _⟩ := hg.head
              simp only [Option.some.injEq, Addr.mk.injEq, and_true] at e2
              rw [e2.1]
              exact World.block_lt_of_cell? _ _ q0
            have o4 := ho.cells.2.2.2.2
            have HO := hide ho
            have HGR := hide (hgr.below (w' := wr.drew) (Below.refl _ _).drew)
            have HB := hide hb
            have HE := hide hfe
            have HNN := hide hN
            have HR := hide (And.intro hx (And.intro hy (And.intro hz hg)))
            clear hx hy hz ho hgr hb hfe hN hg hsu hsv l1 l2 l3 l4 l5 hn hi2 hw1 hc hat hfit hfu hsz2 hdr
            go_wp2_with fail
            refine wp_region_T (fun w' => w'.cell? ⟨w.heap.size, 4, none⟩ = some (.slice (some ⟨b', o, none⟩) kids.len cap) ∧ w'.cell? ⟨w.heap.size + 3, 4, none⟩ = some v ∧
                            w'.cell? ⟨b', o + p.len * 6, none⟩ = some (.string lab) ∧ w'.cell? ⟨b', o + p.len * 6 + 1, none⟩ = some (.int .i64 kd) ∧ w'.cell? ⟨b', o + p.len * 6 + 2, none⟩ = some (.string fr') ∧ w'.cell? ⟨b', o + p.len * 6 + 3, none⟩ = some (.string tg') ∧ w'.cell? ⟨b', o + p.len * 6 + 4, none⟩ = some (.int .i64 ix') ∧ w'.cell? ⟨b', o + p.len * 6 + 5, none⟩ = some sv' ∧
                            w'.cell? ⟨w.heap.size + 1, 0, none⟩ = some (.int .i64 U.k) ∧ w'.cell? ⟨w.heap.size + 1, 1, none⟩ = some (.string U.fr) ∧ w'.cell? ⟨w.heap.size + 1, 2, none⟩ = some (.string U.tg) ∧ w'.cell? ⟨w.heap.size + 1, 3, none⟩ = some (.int .i64 U.ix) ∧ w'.cell? ⟨w.heap.size + 1, 4, none⟩ = some su) 21 (by kernel_rfl) ⟨x4, o4, c0, c1, c2, c3, c4, c5, y0, y1, y2, y3, y4⟩ (fun hHeld => ?_)
            refine wpAnyT_take (L := 21) (i := 0) (v := ?v0) rfl (by kernel_rfl) (by kernel_rfl) (by kernel_rfl) (by kernel_rfl) (fun _ _ _ h => h) hHeld (Or.inl ⟨by rfl, ?hy0⟩) ?rest0
            case hy0 => ((intro w' hw'); (try dsimp only at hw'); (go_simp); (try with_reducible rfl))
            (try simp only [Act.put]); (try simp only [List.setIfInBounds_toArray]); (try simp only [List.set_cons_zero]); (try simp only [List.set_cons_succ])
            refine wpAnyT_take (L := 21) (i := 1) (v := ?v1) rfl (by kernel_rfl) (by kernel_rfl) (by kernel_rfl) (by kernel_rfl) (fun _ _ _ h => h) hHeld (Or.inl ⟨by rfl, ?hy1⟩) ?rest1
            case hy1 => ((intro w' hw'); (try dsimp only at hw'); (go_simp); (try with_reducible rfl))
            (try simp only [Act.put]); (try simp only [List.setIfInBounds_toArray]); (try simp only [List.set_cons_zero]); (try simp only [List.set_cons_succ])
            refine wpAnyT_take (L := 21) (i := 2) (v := ?v2) rfl (by kernel_rfl) (by kernel_rfl) (by kernel_rfl) (by kernel_rfl) (fun _ _ _ h => h) hHeld (Or.inl ⟨by rfl, ?hy2⟩) ?rest2
            case hy2 => ((intro w' hw'); (try dsimp only at hw'); (go_simp); (try with_reducible rfl))
            (try simp only [Act.put]); (try simp only [List.setIfInBounds_toArray]); (try simp only [List.set_cons_zero]); (try simp only [List.set_cons_succ])
            refine wpAnyT_take (L := 21) (i := 3) (v := ?v3) rfl (by kernel_rfl) (by kernel_rfl) (by kernel_rfl) (by kernel_rfl) (fun _ _ _ h => h) hHeld (Or.inl ⟨by rfl, ?hy3⟩) ?rest3
            case hy3 => ((intro w' hw'); (try dsimp only at hw'); (go_simp); (try with_reducible rfl))
            (try simp only [Act.put]); (try simp only [List.setIfInBounds_toArray]); (try simp only [List.set_cons_zero]); (try simp only [List.set_cons_succ])
            refine wpAnyT_take (L := 21) (i := 4) (v := ?v4) rfl (by kernel_rfl) (by kernel_rfl) (by kernel_rfl) (by kernel_rfl) (fun _ _ _ h => h) hHeld (Or.inl ⟨by rfl, ?hy4⟩) ?rest4
            case hy4 => ((intro w' hw'); (try dsimp only at hw'); (go_simp); (try with_reducible rfl))
            (try simp only [Act.put]); (try simp only [List.setIfInBounds_toArray]); (try simp only [List.set_cons_zero]); (try simp only [List.set_cons_succ])
            refine wpAnyT_take (L := 21) (i := 5) (v := ?v5) rfl (by kernel_rfl) (by kernel_rfl) (by kernel_rfl) (by kernel_rfl) (fun _ _ _ h => h) hHeld (Or.inl ⟨by rfl, ?hy5⟩) ?rest5
            case hy5 => ((intro w' hw'); (try dsimp only at hw'); (go_simp); (try with_reducible rfl))
            (try simp only [Act.put]); (try simp only [List.setIfInBounds_toArray]); (try simp only [List.set_cons_zero]); (try simp only [List.set_cons_succ])
            refine wpAnyT_take (L := 21) (i := 6) (v := ?v6) rfl (by kernel_rfl) (by kernel_rfl) (by kernel_rfl) (by kernel_rfl) (fun _ _ _ h => h) hHeld (Or.inl ⟨by rfl, ?hy6⟩) ?rest6
            case hy6 => ((intro w' hw'); (try dsimp only at hw'); (go_simp); (try with_reducible rfl))
            (try simp only [Act.put]); (try simp only [List.setIfInBounds_toArray]); (try simp only [List.set_cons_zero]); (try simp only [List.set_cons_succ])
            refine wpAnyT_take (L := 21) (i := 7) (v := ?v7) rfl (by kernel_rfl) (by kernel_rfl) (by kernel_rfl) (by kernel_rfl) (fun _ _ _ h => h) hHeld (Or.inl ⟨by rfl, ?hy7⟩) ?rest7
            case hy7 => ((intro w' hw'); (try dsimp only at hw'); (go_simp); (try with_reducible rfl))
            (try simp only [Act.put]); (try simp only [List.setIfInBounds_toArray]); (try simp only [List.set_cons_zero]); (try simp only [List.set_cons_succ])
            refine wpAnyT_take (L := 21) (i := 8) (v := ?v8) rfl (by kernel_rfl) (by kernel_rfl) (by kernel_rfl) (by kernel_rfl) (fun _ _ _ h => h) hHeld (Or.inl ⟨by rfl, ?hy8⟩) ?rest8
            case hy8 => ((intro w' hw'); (try dsimp only at hw'); (go_simp); (try with_reducible rfl))
            (try simp only [Act.put]); (try simp only [List.setIfInBounds_toArray]); (try simp only [List.set_cons_zero]); (try simp only [List.set_cons_succ])
            refine wpAnyT_take (L := 21) (i := 9) (v := ?v9) rfl (by kernel_rfl) (by kernel_rfl) (by kernel_rfl) (by kernel_rfl) (fun _ _ _ h => h) hHeld (Or.inl ⟨by rfl, ?hy9⟩) ?rest9
            case hy9 => ((intro w' hw'); (try dsimp only at hw'); (go_simp); (try with_reducible rfl))
            (try simp only [Act.put]); (try simp only [List.setIfInBounds_toArray]); (try simp only [List.set_cons_zero]); (try simp only [List.set_cons_succ])
            refine wpAnyT_take (L := 21) (i := 10) (v := ?v10) rfl (by kernel_rfl) (by kernel_rfl) (by kernel_rfl) (by kernel_rfl) (fun _ _ _ h => h) hHeld (Or.inl ⟨by rfl, ?hy10⟩) ?rest10
            case hy10 => ((intro w' hw'); (try dsimp only at hw'); (go_simp); (try with_reducible rfl))
            (try simp only [Act.put]); (try simp only [List.setIfInBounds_toArray]); (try simp only [List.set_cons_zero]); (try simp only [List.set_cons_succ])
            refine wpAnyT_take (L := 21) (i := 11) (v := ?v11) rfl (by kernel_rfl) (by kernel_rfl) (by kernel_rfl) (by kernel_rfl) (fun _ _ _ h => h) hHeld (Or.inl ⟨by rfl, ?hy11⟩) ?rest11
            case hy11 => ((intro w' hw'); (try dsimp only at hw'); (go_simp); (try with_reducible rfl))
            (try simp only [Act.put]); (try simp only [List.setIfInBounds_toArray]); (try simp only [List.set_cons_zero]); (try simp only [List.set_cons_succ])
            refine wpAnyT_take (L := 21) (i := 12) (v := ?v12) rfl (by kernel_rfl) (by kernel_rfl) (by kernel_rfl) (by kernel_rfl) (fun _ _ _ h => h) hHeld (Or.inl ⟨by rfl, ?hy12⟩) ?rest12
            case hy12 => ((intro w' hw'); (try dsimp only at hw'); (go_simp); (try with_reducible rfl))
            (try simp only [Act.put]); (try simp only [List.setIfInBounds_toArray]); (try simp only [List.set_cons_zero]); (try simp only [List.set_cons_succ])
            refine wpAnyT_take (L := 21) (i := 13) (v := ?v13) rfl (by kernel_rfl) (by kernel_rfl) (by kernel_rfl) (by kernel_rfl) (fun _ _ _ h => h) hHeld (Or.inl ⟨by rfl, ?hy13⟩) ?rest13
            case hy13 => ((intro w' hw'); (try dsimp only at hw'); (go_simp); (try with_reducible rfl))
            (try simp only [Act.put]); (try simp only [List.setIfInBounds_toArray]); (try simp only [List.set_cons_zero]); (try simp only [List.set_cons_succ])
            refine wpAnyT_take (L := 21) (i := 14) (v := ?v14) rfl (by kernel_rfl) (by kernel_rfl) (by kernel_rfl) (by kernel_rfl) (fun _ _ _ h => h) hHeld (Or.inl ⟨by rfl, ?hy14⟩) ?rest14
            case hy14 => ((intro w' hw'); (try dsimp only at hw'); (go_simp); (try with_reducible rfl))
            (try simp only [Act.put]); (try simp only [List.setIfInBounds_toArray]); (try simp only [List.set_cons_zero]); (try simp only [List.set_cons_succ])
            refine wpAnyT_take (L := 21) (i := 15) (v := ?v15) rfl (by kernel_rfl) (by kernel_rfl) (by kernel_rfl) (by kernel_rfl) (fun _ _ _ h => h) hHeld (Or.inl ⟨by rfl, ?hy15⟩) ?rest15
            case hy15 => ((intro w' hw'); (try dsimp only at hw'); (go_simp); (try with_reducible rfl))
            (try simp only [Act.put]); (try simp only [List.setIfInBounds_toArray]); (try simp only [List.set_cons_zero]); (try simp only [List.set_cons_succ])
            refine wpAnyT_one (L := 21) (i := 16) (by kernel_rfl) rfl (fun K hK => ?_)
            go_simp
            go_at_call 142
            (with_reducible refine (HCALL.out _ ?_ ?_).mono ?_)
            · exact HSV.out
            · exact HSU.out
            rintro e w5 ⟨u, ks, rfl, how, hks, hknd, hb5⟩
            obtain ⟨ua, uc, rfl⟩ := how.val
            have hst := Still.of_below hb5
            have HD5 := hide (And.intro (hst _ _ x4) (And.intro (hst _ _ o4) (And.intro (hst _ _ c0) (And.intro (hst _ _ c1) (And.intro (hst _ _ c2) (And.intro (hst _ _ c3) (And.intro (hst _ _ c4) (And.intro (hst _ _ c5) (And.intro (hst _ _ y0) (And.intro (hst _ _ y1) (And.intro (hst _ _ y2) (And.intro (hst _ _ y3) (hst _ _ y4)))))))))))))
            refine hK.out _ _ (fun _ => HD5.out) ?_
            clear hK K
            refine wpAnyT_take (L := 21) (i := 17) (v := ?v17) rfl (by kernel_rfl) (by kernel_rfl) (by kernel_rfl) (by kernel_rfl) (fun _ _ _ h => h) HD5.out (Or.inl ⟨by rfl, ?hy17⟩) ?rest17
            case hy17 => ((intro w' hw'); (try dsimp only at hw'); (go_simp); (try with_reducible rfl))
            (try simp only [Act.put]); (try simp only [List.setIfInBounds_toArray]); (try simp only [List.set_cons_zero]); (try simp only [List.set_cons_succ])
            refine wpAnyT_one (L := 21) (i := 18) (by kernel_rfl) rfl (fun K hK => ?_)
            go_simp
            have hst2 := Still.of_below (alloc_below w5 (.cells #[.string lab, .int .i64 N.k, .string N.fr, .string N.tg, .int .i64 N.ix, .slice ua N.kids.len uc] ( /- t -/ 76)))
            obtain ⟨s0, s1, s2, s3, s4, s5, s6, s7, s8, s9, s10, s11, s12⟩ := HD5.out
            have HD6 := hide (And.intro (hst2 _ _ s0) (And.intro (hst2 _ _ s1) (And.intro (hst2 _ _ s2) (And.intro (hst2 _ _ s3) (And.intro (hst2 _ _ s4) (And.intro (hst2 _ _ s5) (And.intro (hst2 _ _ s6) (And.intro (hst2 _ _ s7) (And.intro (hst2 _ _ s8) (And.intro (hst2 _ _ s9) (And.intro (hst2 _ _ s10) (And.intro (hst2 _ _ s11) (hst2 _ _ s12)))))))))))))
            refine hK.out _ _ (fun _ => HD6.out) ?_
            clear hK K
            (try simp only [Act.put]); (try simp only [List.setIfInBounds_toArray]); (try simp only [List.set_cons_zero]); (try simp only [List.set_cons_succ])
            refine wpAnyT_one (L := 21) (i := 19) (by kernel_rfl) rfl (fun K hK => ?_)
            have hgr5 := (HGR.out.below hb5).below (alloc_below w5 (.cells #[.string lab, .int .i64 N.k, .string N.fr, .string N.tg, .int .i64 N.ix, .slice ua N.kids.len uc] ( /- t -/ 76)))
            refine step_append_lies _ (by rfl) _ _ _ (by rfl) (w.heap.size + 4) ( /- t -/ 76) i0 _ 6 88 Tryd.underlying23 HI.out.1 HI.out.2.1 HI.out.2.2.1 HI.out.2.2.2 rfl (by omega) v (subF U p I).len (grXs (w5.alloc (.cells #[.string lab, .int .i64 N.k, .string N.fr, .string N.tg, .int .i64 N.ix, .slice ua N.kids.len uc] ( /- t -/ 76))) v (subF U p I)) (by rfl) hgr5.owns
              ⟨w5.heap.size, 0, none⟩ 1 1 [.string lab, .int .i64 N.k, .string N.fr, .string N.tg, .int .i64 N.ix, .slice ua N.kids.len uc] (by rfl) (by rfl) (World.news_of_block (cs := #[.string lab, .int .i64 N.k, .string N.fr, .string N.tg, .int .i64 N.ix, .slice ua N.kids.len uc]) (t := ( /- t -/ 76)) (fr := (0, 0)) (heap_alloc_new w5 _)) (by simp [Value.oneCell'])
              (by omega) (by have := HSL.out; unfold maxLen; omega) (by have := HSL.out; omega) (by have := hb5.size; simp at this ⊢; omega) _ rfl ?_
            intro gg cp w6 hown6 hgrow6 hat6 hlt6
            have hfar : ∀ (b o : Nat) (x : Value), b < w.heap.size + 4 → (w5.alloc (.cells #[.string lab, .int .i64 N.k, .string N.fr, .string N.tg, .int .i64 N.ix, .slice ua N.kids.len uc] ( /- t -/ 76))).cell? ⟨b, o, none⟩ = some x → w6.cell? ⟨b, o, none⟩ = some x := fun b o x hb he => by
              rw [hgrow6.cell_far ⟨b, o, none⟩ (World.block_lt_of_cell? _ _ he) (fun e => by have := hgr5.ge b (hgr5.block b e.symm); omega)]
              exact he
            obtain ⟨s0, s1, s2, s3, s4, s5, s6, s7, s8, s9, s10, s11, s12⟩ := HD6.out
            have HD7 := hide (And.intro (hfar _ _ _ (by omega) s0) (And.intro (hfar _ _ _ (by omega) s1) (And.intro (hfar _ _ _ (by omega) s2) (And.intro (hfar _ _ _ (by omega) s3) (And.intro (hfar _ _ _ (by omega) s4) (And.intro (hfar _ _ _ (by omega) s5) (And.intro (hfar _ _ _ (by omega) s6) (And.intro (hfar _ _ _ (by omega) s7) (And.intro (hfar _ _ _ (by omega) s8) (And.intro (hfar _ _ _ (by omega) s9) (And.intro (hfar _ _ _ (by omega) s10) (And.intro (hfar _ _ _ (by omega) s11) (hfar _ _ _ (by omega) s12)))))))))))))
            refine hK.out _ _ (fun _ => HD7.out) ?_
            clear hK K
            (try simp only [Act.put]); (try simp only [List.setIfInBounds_toArray]); (try simp only [List.set_cons_zero]); (try simp only [List.set_cons_succ])
            refine wpAnyT_take (L := 21) (i := 20) (v := ?v20) rfl (by kernel_rfl) (by kernel_rfl) (by kernel_rfl) (by kernel_rfl) (fun _ _ _ h => h) HD7.out (Or.inl ⟨by rfl, ?hy20⟩) ?rest20
            case hy20 => ((intro w' hw'); (try dsimp only at hw'); (go_simp); (try with_reducible rfl))
            (try simp only [Act.put]); (try simp only [List.setIfInBounds_toArray]); (try simp only [List.set_cons_zero]); (try simp only [List.set_cons_succ])
            have ho6 : Box5 w6 (w.heap.size + 3) (.int .i64 k) (.string fr) (.string tg) (.int .i64 ix) v := (((HO.out.same (w' := wr.drew) rfl).below hb5).below (alloc_below w5 (.cells #[.string lab, .int .i64 N.k, .string N.fr, .string N.tg, .int .i64 N.ix, .slice ua N.kids.len uc] ( /- t -/ 76)))).same (hgrow6.block _ (by have := hb5.size; simp at this ⊢; omega) (fun e => by have := hgr5.ge _ (hgr5.block _ e.symm); omega))
            have o4 := ho6.cells.2.2.2.2
            have fo := ho6.frozen
            refine wpAnyT_one (L := 21) (i := 21) (by kernel_rfl) rfl (fun K hK => ?_)
            go_simp
            refine hK.out _ _ (fun h => absurd rfl h) ?_
            refine wpAnyT_done (by kernel_rfl) ?_ _
            clear hK K
            have hD : Below w.heap.size w w6 := by
              have h1 := HB.out.drew
              have h2 := h1.trans (hb5.mono h1.size)
              have h3 := h2.alloc h2.size (.cells #[.string lab, .int .i64 N.k, .string N.fr, .string N.tg, .int .i64 N.ix, .slice ua N.kids.len uc] ( /- t -/ 76))
              exact ⟨hgrow6.os.trans h3.os, hgrow6.tape.trans h3.tape, hgrow6.output.trans h3.output, Nat.le_trans h3.size hgrow6.size, fun b hb => (hgrow6.block b (Nat.lt_of_lt_of_le hb h3.size) (fun e => by have := hgr5.ge b (hgr5.block b e.symm); omega)).trans (h3.block b hb)⟩
            have hou := how.same (Same.of_below (alloc_below w5 (.cells #[.string lab, .int .i64 N.k, .string N.fr, .string N.tg, .int .i64 N.ix, .slice ua N.kids.len uc] ( /- t -/ 76))) how.lt)
            obtain ⟨q1, q2, q3, q4⟩ := HFN.out
            have hwr : w.heap.size + 4 ≤ wr.heap.size := by have := hol; omega
            obtain ⟨bs', hpush, -⟩ := Gr.push hgr5 (k := N.k) (ix := N.ix) hou (fun b hb => by have := hks b hb; simp at this; omega) hknd
              (fun b hb hb2 => by have h1 := HGR.out.lt b hb; have h2 := hks b hb2; omega) HL.out q1 q2 q3 q4 hown6 hgrow6 (by rcases hat6 with h | h; exact Or.inl h; exact Or.inr h)
            obtain ⟨hx, hy, hz, hg⟩ := HR.out
            have far : ∀ b, b < w.heap.size + 3 → (w6.setCell ⟨w.heap.size + 3, 4, none⟩ (.slice (some ⟨gg, 0, none⟩) ((subF U p I).len + 1) cp)).heap[b]? = wr.heap[b]? := fun b hb => by
              have h5 := hb5.size
              simp at h5
              rw [Below.heap_setCell _ _ _ _ (by simp; omega), hgrow6.block b (by simp; omega) (fun e => by have := hgr5.ge b (hgr5.block b e.symm); omega), Below.heap_alloc _ _ _ (by omega), hb5.block b (by simp; omega)]
              rfl
            have hEQ : (subF U p I).app (.cons lab N.k N.fr N.tg N.ix N.kids .nil) = subF U (p.app (.cons lab kd fr' tg' ix' kids' .nil)) I := by
              rw [subF_app, subF_cons, HNN.out]
              rfl
            rw [hEQ] at hpush
            have HREL : Hid (SubRel w U k ix fr tg (.slice (some ⟨b', o, none⟩) kids.len cap) su kids I (some ⟨b', o, none⟩) (.int .i64 ((p.len + 1 : Nat) : Int)) (w6.setCell ⟨w.heap.size + 3, 4, none⟩ (.slice (some ⟨gg, 0, none⟩) ((subF U p I).len + 1) cp))) := hide
              ⟨p.app (.cons lab kd fr' tg' ix' kids' .nil), rest, _, bs', by rw [HE.out, F.app_assoc]; rfl, by rw [F.len_app]; rfl, by rw [F.len_app]; exact hg.tail, hx.same (far _ (by omega)), hy.same (far _ (by omega)), hz.same (far _ (by omega)), ho6.set4 _,
                hpush.same (fun b hb => Below.heap_setCell _ _ _ _ (by have := hpush.ge b hb; simp; omega)), hD.setCell (by simp) _⟩
            clear hpush hx hy hz hg far hEQ hou hD hown6 hgrow6 hat6 hgr5 how hks hknd
            go_wp2_with fail
            go_roundw
            case rel => exact HREL.out
            case measure => simp [intOf]; omega

theorem subg_all : ∀ n, SubGt n := by
  intro n
  induction n with
  | zero => intro w k ix i fr tg sv kids U su hn; omega
  | succ n ih =>
    intro w k ix i fr tg sv kids U su hn hs hsu hfit hfu hi1 hi2 hw hc
    by_cases hv : k = 4 ∧ ix = i
    · obtain ⟨rfl, rfl⟩ := hv
      refine sub_var w ix fr tg sv kids U su hsu ?_
      rcases hc with hc | hc
      · exact absurd ⟨rfl, rfl⟩ hc.2
      · exact hc
    · have e : subN U ⟨k, fr, tg, ix, kids⟩ i = ⟨k, fr, tg, ix, subF U kids (bump k i)⟩ := by unfold subN; rw [if_neg hv]
      rw [e]
      exact (subg_loop n ih w k ix i fr tg sv kids U su hn hs hsu hfit hfu hi1 hi2 hw hc hv _ rfl).mono (fun _ _ h => h.made)

theorem zero_ok : CopyOk ⟨0, ⟨#[]⟩, ⟨#[]⟩, 0, .nil⟩ := by
  intro w su hs
  have := subg_all 1 w 0 0 (-1) ⟨#[]⟩ ⟨#[]⟩ su .nil ⟨0, ⟨#[]⟩, ⟨#[]⟩, 0, .nil⟩ (.slice none 0 0) (by simp [F.sz]) hs Sl.nil ⟨by decide, by decide, by decide, by decide⟩ ⟨by decide, by decide, by decide, by decide⟩ (by omega) (by simp [hF]) ⟨by simp [F.len], trivial⟩ (Or.inl ⟨rfl, by omega⟩)
  exact this

/-- What a copy is of any tree: a variable with the index -1 is replaced by the zero value. -/
def cpz (U : Nd) : Nd := subN ⟨0, ⟨#[]⟩, ⟨#[]⟩, 0, .nil⟩ U (-1)
theorem zero_okH (w : World) (su : Value) (hs : Sl w su .nil) :
    Calls Tryd.prog 142 #[.agg #[.int .i64 0, .string ⟨#[]⟩, .string ⟨#[]⟩, .int .i64 0, su], .agg #[.int .i64 0, .string ⟨#[]⟩, .string ⟨#[]⟩, .int .i64 0, .slice none 0 0], .int .i64 (-1)] w (MadeH 0 ⟨#[]⟩ ⟨#[]⟩ 0 .nil w) :=
  subg_loop 0 (subg_all 0) w 0 0 (-1) ⟨#[]⟩ ⟨#[]⟩ su .nil ⟨0, ⟨#[]⟩, ⟨#[]⟩, 0, .nil⟩ (.slice none 0 0) (by simp [F.sz]) hs Sl.nil ⟨by decide, by decide, by decide, by decide⟩ ⟨by decide, by decide, by decide, by decide⟩ (by omega) (by simp [hF]) ⟨by simp [F.len], trivial⟩ (Or.inl ⟨rfl, by omega⟩) (by omega) _ rfl
set_option maxHeartbeats 1000000 in
set_option maxRecDepth 100000 in
theorem subv_H (w : World) (fr tg : ByteArray) (sv : Value) :
    Calls Tryd.prog 142 #[.agg #[.int .i64 4, .string fr, .string tg, .int .i64 (-1), sv], .agg #[.int .i64 0, .string ⟨#[]⟩, .string ⟨#[]⟩, .int .i64 0, .slice none 0 0], .int .i64 (-1)] w
    (MadeH 0 ⟨#[]⟩ ⟨#[]⟩ 0 .nil w) := by
  go_enter Tryd.func142, Tryd.ntmps142
  go_wp2_with fail
  refine (zero_okH _ _ Sl.nil).mono ?_
  rintro e w1 ⟨u, bs, rfl, how, hb⟩
  obtain ⟨ua, uc, rfl⟩ := how.val
  have HO := hide how
  have HG := hide how.ge
  clear how
  obtain ⟨hc, hf⟩ := bcell hb
  have hz := hb.size
  simp at hz
  go_wp2_with fail
  refine bodyPost_ret (v := .agg #[.int .i64 0, .string ⟨#[]⟩, .string ⟨#[]⟩, .int .i64 0, .slice ua F.nil.len uc]) (by simp [results, Tryd.results142, go_sem, hc]) rfl ?_
  have hB : Below w.heap.size w w1 := ((((alloc_below w _).alloc (by simp) _).alloc (by simp; omega) _).trans (hb.mono (by simp; omega)))
  have q : ∀ b, b ∈ bs → w.heap.size + 3 ≤ b := fun b h => by have := HG.out b h; simp at this; omega
  refine ⟨_, bs, rfl, (HO.out.same ?_).mono (by simp; omega), ?_⟩
  · repeat (refine Same.setCell ?_ (fun b h => by have := q b h; simp; omega) _)
    exact Same.refl _ _
  · repeat (refine Below.setCell ?_ (by first | (simp; done) | (simp; omega)) _)
    exact hB
theorem copyg_sub (w : World) (U : Nd) (su : Value) (hs : Sl w su U.kids) (hf : Fit U) (hh : hF U.kids ≤ 900000) (hl : U.kids.len ≤ 1000 ∧ lnF U.kids) :
    Calls Tryd.prog 142 #[.agg #[.int .i64 U.k, .string U.fr, .string U.tg, .int .i64 U.ix, su], .agg #[.int .i64 0, .string ⟨#[]⟩, .string ⟨#[]⟩, .int .i64 0, .slice none 0 0], .int .i64 (-1)] w (MadeH (cpz U).k (cpz U).fr (cpz U).tg (cpz U).ix (cpz U).kids w) := by
  by_cases hv : U.k = 4 ∧ U.ix = -1
  · have h := subv_H w U.fr U.tg su
    have e : cpz U = ⟨0, ⟨#[]⟩, ⟨#[]⟩, 0, .nil⟩ := by unfold cpz subN; rw [if_pos hv]
    rw [e, hv.1, hv.2]
    exact h
  · have e : cpz U = ⟨U.k, U.fr, U.tg, U.ix, subF ⟨0, ⟨#[]⟩, ⟨#[]⟩, 0, .nil⟩ U.kids (bump U.k (-1))⟩ := by unfold cpz subN; rw [if_neg hv]
    rw [e]
    exact subg_loop U.kids.sz (subg_all _) w U.k U.ix (-1) U.fr U.tg su U.kids ⟨0, ⟨#[]⟩, ⟨#[]⟩, 0, .nil⟩ (.slice none 0 0) (Nat.lt_succ_self _) hs Sl.nil hf ⟨by decide, by decide, by decide, by decide⟩ (by omega) (by omega) hl (Or.inr zero_ok) hv _ rfl

set_option maxHeartbeats 1000000 in
set_option maxRecDepth 100000 in
theorem copyg_calls (w : World) (U : Nd) (su : Value) (hsu : Sl w su U.kids) (hf : Fit U) (hh : hF U.kids ≤ 900000) (hl : U.kids.len ≤ 1000 ∧ lnF U.kids) :
    Calls Tryd.prog 90 #[.agg #[.int .i64 U.k, .string U.fr, .string U.tg, .int .i64 U.ix, su]] w (MadeH (cpz U).k (cpz U).fr (cpz U).tg (cpz U).ix (cpz U).kids w) := by
  have HC := hide (fun (w' : World) (su : Value) (hs : Sl w' su U.kids) => copyg_sub w' U su hs hf hh hl)
  have HS := hide hsu
  clear hf hh hl hsu
  go_enter Tryd.func90, Tryd.ntmps90
  go_wp2_with fail
  refine (HC.out _ su (HS.out.still (Still.of_below ?_))).mono ?_
  · exact (alloc_below _ _).alloc (by simp) _
  rintro e w1 ⟨u, bs, rfl, how, hb⟩
  obtain ⟨ua, uc, rfl⟩ := how.val
  have HO := hide how
  have HG := hide how.ge
  clear how
  obtain ⟨hc, hf⟩ := bcell hb
  have hz := hb.size
  simp at hz
  go_wp2_with fail
  refine bodyPost_ret (v := .agg #[.int .i64 (cpz U).k, .string (cpz U).fr, .string (cpz U).tg, .int .i64 (cpz U).ix, .slice ua (cpz U).kids.len uc]) (by simp [results, Tryd.results90, go_sem, hc]) rfl ?_
  have hB : Below w.heap.size w w1 := (((alloc_below w _).alloc (by simp) _).trans (hb.mono (by simp; omega)))
  have q : ∀ b, b ∈ bs → w.heap.size + 2 ≤ b := fun b h => by have := HG.out b h; simp at this; omega
  refine ⟨_, bs, rfl, (HO.out.same ?_).mono (by simp; omega), ?_⟩
  · repeat (refine Same.setCell ?_ (fun b h => by have := q b h; simp; omega) _)
    exact Same.refl _ _
  · repeat (refine Below.setCell ?_ (by first | (simp; done) | (simp; omega)) _)
    exact hB
end Go.Proofs.YtfppglfajbmapaaDoor

/- What a drawing leaves: a tree in memory of its own, the source asked some more. -/
namespace Go.Proofs.YtfppglfajbmapaaDoor
open Go.RowKit

/-- All indices are one digit. -/
def smF : F → Prop
  | .nil => True
  | .cons _ _ _ _ ix kids rest => (0 ≤ ix ∧ ix ≤ 9) ∧ smF kids ∧ smF rest
def smN (N : Nd) : Prop := (0 ≤ N.ix ∧ N.ix ≤ 9) ∧ smF N.kids
theorem smF_app (g : F) : ∀ f : F, smF (f.app g) ↔ smF f ∧ smF g
  | .nil => by simp [F.app, smF]
  | .cons lab k fr tg ix kids rest => by simp only [F.app, smF, smF_app g rest, and_assoc]

/-- The result of a drawing. -/
structure DrN (w : World) (rb : Nat) (cv : Value) (l : List Nat) (p K S : Nat) (N : Nd) (u : Value) (bs : List Nat) (w' : World) : Prop where
  own : Ow w' u N.kids bs
  ge : ∀ b, b ∈ bs → w.heap.size ≤ b
  nd : bs.Nodup
  only : Only rb w w'
  rd : ∃ p', p' ≤ p + K ∧ Rd w' rb cv l p'
  fit : Fit N
  sz : N.kids.sz ≤ S
def DrP (Q : Nd → Prop) (w : World) (rb : Nat) (cv : Value) (l : List Nat) (p K S : Nat) (e : Ending) (w' : World) : Prop :=
  ∃ N u bs, e = .returned (.agg #[.int .i64 N.k, .string N.fr, .string N.tg, .int .i64 N.ix, u]) ∧ Q N ∧ DrN w rb cv l p K S N u bs w'

/-- The result is put into its box and read out of it. -/
theorem dr_fin {w w2 : World} {rb : Nat} {cv : Value} {l : List Nat} {p p' K S : Nat} (h : Rd w rb cv l p) (ho : Only rb w w2) (h2 : Rd w2 rb cv l p') (hp : p' ≤ p + K) {N : Nd} {u : Value} {bs : List Nat}
    (how : Ow w2 u N.kids bs) (b : Nat) (hbw : w.heap.size ≤ b) (hge : ∀ x, x ∈ bs → b < x) (hnd : bs.Nodup) (hf : Fit N) (hs : N.kids.sz ≤ S) (v0 v1 v2 v3 v4 : Value) :
    DrN w rb cv l p K S N u bs (((((w2.setCell ⟨b, 0, none⟩ v0).setCell ⟨b, 1, none⟩ v1).setCell ⟨b, 2, none⟩ v2).setCell ⟨b, 3, none⟩ v3).setCell ⟨b, 4, none⟩ v4) := by
  have hlt := h.lt
  have hne : ∀ x, x ≠ b → (((((w2.setCell ⟨b, 0, none⟩ v0).setCell ⟨b, 1, none⟩ v1).setCell ⟨b, 2, none⟩ v2).setCell ⟨b, 3, none⟩ v3).setCell ⟨b, 4, none⟩ v4).heap[x]? = w2.heap[x]? := fun x hx =>
    (Below.heap_setCell _ _ _ _ hx).trans ((Below.heap_setCell _ _ _ _ hx).trans ((Below.heap_setCell _ _ _ _ hx).trans ((Below.heap_setCell _ _ _ _ hx).trans (Below.heap_setCell _ _ _ _ hx))))
  have hO : Only rb w (((((w2.setCell ⟨b, 0, none⟩ v0).setCell ⟨b, 1, none⟩ v1).setCell ⟨b, 2, none⟩ v2).setCell ⟨b, 3, none⟩ v3).setCell ⟨b, 4, none⟩ v4) :=
    ((((ho.setCell (Or.inr hbw) _).setCell (Or.inr hbw) _).setCell (Or.inr hbw) _).setCell (Or.inr hbw) _).setCell (Or.inr hbw) _
  refine ⟨how.same (fun x hx => hne x (by have := hge x hx; omega)), fun x hx => by have := hge x hx; omega, hnd, hO, ⟨p', hp, h.fin h2 hO (hne rb (by omega))⟩, hf, hs⟩

/-- Where a drawing stands: its result's box is empty yet. -/
structure St (w : World) (rb : Nat) (cv : Value) (l : List Nat) (p : Nat) (W : World) (q : Nat) : Prop where
  start : Rd w rb cv l p
  only : Only rb w W
  rd : Rd W rb cv l q
  box : Box5 W w.heap.size (.int .i64 0) (.string ⟨#[]⟩) (.string ⟨#[]⟩) (.int .i64 0) (.slice none 0 0)
theorem St.new {w : World} {rb : Nat} {cv : Value} {l : List Nat} {p : Nat} (h : Rd w rb cv l p) (t : TypeId) :
    St w rb cv l p (w.alloc (.cells #[.int .i64 0, .string ⟨#[]⟩, .string ⟨#[]⟩, .int .i64 0, .slice none 0 0] t)) p :=
  ⟨h, (Only.refl _ _).alloc _, h.below (alloc_below w _), Box5.now w _ _ _ _ _ t⟩
theorem St.on {w : World} {rb : Nat} {cv : Value} {l : List Nat} {p : Nat} {W W' : World} {q q' : Nat} (h : St w rb cv l p W q) (ho : Only rb W W') (hr : Rd W' rb cv l q') : St w rb cv l p W' q' := by
  have hl := h.start.lt
  have hb := h.box.lt
  exact ⟨h.start, h.only.trans ho, hr, h.box.same (ho.block _ hb (by omega))⟩
theorem St.ask {w : World} {rb : Nat} {cv : Value} {l : List Nat} {p : Nat} {W W' : World} {q : Nat} (h : St w rb cv l p W q) (ha : Ask W rb cv l q W') : St w rb cv l p W' (q + 1) := h.on ha.only ha.rd
/-- It ends with a leaf. -/
theorem St.leaf {w : World} {rb : Nat} {cv : Value} {l : List Nat} {p : Nat} {W : World} {q K S : Nat} (h : St w rb cv l p W q) (hq : q ≤ p + K) (k ix : Int) (hk : (Lit.int .i64 k).wf = true) (h0 : 0 ≤ ix) (h9 : ix ≤ 9) (v0 v1 v2 v3 v4 : Value) :
    DrP smN w rb cv l p K S (.returned (.agg #[.int .i64 k, .string ⟨#[]⟩, .string ⟨#[]⟩, .int .i64 ix, .slice none 0 0]))
      (((((W.setCell ⟨w.heap.size, 0, none⟩ v0).setCell ⟨w.heap.size, 1, none⟩ v1).setCell ⟨w.heap.size, 2, none⟩ v2).setCell ⟨w.heap.size, 3, none⟩ v3).setCell ⟨w.heap.size, 4, none⟩ v4) := by
  have hi : (Lit.int .i64 ix).wf = true := by simp [Lit.wf, IntKind.min, IntKind.max, IntKind.bits, IntKind.signed]; omega
  exact ⟨⟨k, ⟨#[]⟩, ⟨#[]⟩, ix, .nil⟩, .slice none 0 0, [], rfl, ⟨⟨h0, h9⟩, trivial⟩,
    dr_fin (N := ⟨k, ⟨#[]⟩, ⟨#[]⟩, ix, .nil⟩) h.start h.only h.rd hq ⟨none, 0, rfl, Nat.le_refl _, Nat.zero_le _, Or.inl ⟨rfl, rfl⟩⟩ w.heap.size (Nat.le_refl _) (fun x hx => absurd hx List.not_mem_nil) List.nodup_nil ⟨show (0 : Nat) ≤ maxLen from Nat.zero_le _, show (0 : Nat) ≤ maxLen from Nat.zero_le _, hk, hi⟩ (Nat.zero_le _) v0 v1 v2 v3 v4⟩
end Go.Proofs.YtfppglfajbmapaaDoor

/- l1Random of the model: its leaves. -/
namespace Go.Proofs.YtfppglfajbmapaaDoor
open Go.RowKit

set_option maxHeartbeats 1000000 in
set_option maxRecDepth 100000 in
/-- No level is left. -/
theorem rand_zero (w : World) (rb : Nat) (cv : Value) (l : List Nat) (p S : Nat) (h : Rd w rb cv l p) (hp : p + 9 ≤ 1000000) (b u d : Int) (hd : d < 1) (hu : 0 ≤ u) (hb : b ≤ 3) :
    Calls Tryd.prog 88 #[.pointer (some ⟨rb, 0, none⟩), .int .i64 b, .int .i64 u, .int .i64 d] w (DrP smN w rb cv l p 9 S) := by
  have HS := hide (St.new h ( /- t -/ 25))
  clear h
  go_enter Tryd.func88, Tryd.ntmps88
  go_upto_region 1 with fail
  generalize w.alloc (.cells #[.int .i64 0, .string ⟨#[]⟩, .string ⟨#[]⟩, .int .i64 0, .slice none 0 0] ( /- t -/ 25)) = W at *
  by_cases hbu : u < b
  case neg =>
    obtain ⟨x0, x1, x2, x3, x4⟩ := HS.out.box.cells
    have fx := HS.out.box.frozen
    have lx := HS.out.box.lt
    go_wp2_with fail
    refine bodyPost_ret (v := .agg #[.int .i64 1, .string ⟨#[]⟩, .string ⟨#[]⟩, .int .i64 (0), .slice none 0 0]) (by simp [results, Tryd.results88, go_sem, *]) rfl ?_
    exact HS.out.leaf (by omega) 1 0 (by decide) (by omega) (by omega) _ _ _ _ _
  case pos =>
    go_wp2_with fail
    refine (pick_calls _ rb cv l _ HS.out.rd (by omega) 2 (by omega)).mono ?_
    rintro e wA ⟨va, rfl, hva, hask⟩
    have HA := hide (HS.out.ask hask)
    clear hask
    by_cases hv0 : va = 0
    case neg =>
      have hv1 : ((va : Int) == 0) = false := beq_eq_false_iff_ne.2 (by omega)
      have hv2 : ¬ (va : Int) = 0 := by omega
      obtain ⟨x0, x1, x2, x3, x4⟩ := HA.out.box.cells
      have fx := HA.out.box.frozen
      have lx := HA.out.box.lt
      go_wp2_with fail
      refine bodyPost_ret (v := .agg #[.int .i64 1, .string ⟨#[]⟩, .string ⟨#[]⟩, .int .i64 (0), .slice none 0 0]) (by simp [results, Tryd.results88, go_sem, *]) rfl ?_
      exact HA.out.leaf (by omega) 1 0 (by decide) (by omega) (by omega) _ _ _ _ _
    case pos =>
      subst hv0
      go_wp2_with fail
      refine (pick_calls _ rb cv l _ HA.out.rd (by omega) (b - u) (by omega)).mono ?_
      rintro e wB ⟨vb, rfl, hvb, hask⟩
      have HB := hide (HA.out.ask hask)
      clear hask
      have hix : u + (vb : Int) ≤ 9 := by omega
      obtain ⟨x0, x1, x2, x3, x4⟩ := HB.out.box.cells
      have fx := HB.out.box.frozen
      have lx := HB.out.box.lt
      go_wp2_with fail
      refine bodyPost_ret (v := .agg #[.int .i64 4, .string ⟨#[]⟩, .string ⟨#[]⟩, .int .i64 (u + (vb : Int)), .slice none 0 0]) (by simp [results, Tryd.results88, go_sem, *]) rfl ?_
      exact HB.out.leaf (by omega) 4 (u + (vb : Int)) (by decide) (by omega) (by omega) _ _ _ _ _
end Go.Proofs.YtfppglfajbmapaaDoor
