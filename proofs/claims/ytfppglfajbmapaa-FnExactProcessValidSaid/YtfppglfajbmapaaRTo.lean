/- toProcess: a copy in new memory. -/
import Derived.Test.YtfppglfajbmapaaRTd
import Derived.Test.YtfppglfajbmapaaRows
import Derived.Test.YtfppglfajbmapaaRTree
import Derived.WalkKit
import Derived.WalkSpells
import Derived.WalkLawsBesides
namespace Go.Proofs.Ytfppglfajbmapaa.Pc
open Go.RowKit

def ToS (f : F) : Prop := ∀ (w : World) (v : Value), Sl w v f → f.len + f.wt ≤ 1048576 → Calls Try.prog 45 #[v] w (MadeS f w)

set_option maxHeartbeats 400000 in
theorem to_node (kids : F) (hk : ToS kids) (w : World) (k ix : Int) (fr to : ByteArray) (sv : Value) (hs : Sl w sv kids) (hw : kids.len + kids.wt ≤ 1048576) :
    Calls Try.prog 20 #[.agg #[.int .i64 k, .string fr, .string to, .int .i64 ix, sv]] w (MadeN k fr to ix kids w) := by
  have HS := hide hs
  clear hs
  go_enter Try.func20, Try.ntmps20
  go_wp2_with fail
  refine (hk _ _ (HS.out.still (Still.of_below ?_)) hw).mono ?_
  · exact ((alloc_below _ _).alloc (by simp) _).alloc (by simp; omega) _
  rintro e w1 ⟨u, bs, rfl, how, hge, hnd, hb⟩
  obtain ⟨ua, uc, rfl⟩ := how.val
  have HO := hide how
  have HG := hide hge
  clear how hge
  obtain ⟨hc, hf⟩ := bcell hb
  go_wp2_with fail
  refine bodyPost_ret (v := .agg #[.int .i64 k, .string fr, .string to, .int .i64 ix, .slice ua kids.len uc]) (by simp [results, Try.results20, go_sem, hc]) rfl ?_
  have hz := hb.size
  simp at hz
  have hB : Below w.heap.size w w1 := ((((alloc_below w _).alloc (by simp) _).alloc (by simp; omega) _).trans (hb.mono (by simp; omega)))
  refine ⟨_, bs, rfl, HO.out.same ?_, fun b h => by have := HG.out b h; simp at this; omega, hnd, ?_⟩
  · have q : ∀ b, b ∈ bs → w.heap.size + 3 ≤ b := fun b h => by have := HG.out b h; simp at this; omega
    exact ((((((Same.refl _ _).setCell (fun b h => by have := q b h; simp; omega) _).setCell (fun b h => by have := q b h; simp; omega) _).setCell (fun b h => by have := q b h; simp; omega) _).setCell (fun b h => by have := q b h; simp; omega) _).setCell (fun b h => by have := q b h; simp; omega) _).setCell (fun b h => by have := q b h; simp; omega) _
  · exact (((((hB.setCell (by simp; omega) _).setCell (by simp) _).setCell (by simp) _).setCell (by simp) _).setCell (by simp) _).setCell (by simp) _

set_option maxHeartbeats 400000 in
theorem to_branch (kids : F) (hk : ToS kids) (w : World) (lab : ByteArray) (k ix : Int) (fr to : ByteArray) (sv : Value) (hs : Sl w sv kids) (hw : kids.len + kids.wt ≤ 1048576) :
    Calls Try.prog 74 #[.agg #[.string lab, .int .i64 k, .string fr, .string to, .int .i64 ix, sv]] w (MadeB lab k fr to ix kids w) := by
  have HS := hide hs
  clear hs
  go_enter Try.func74, Try.ntmps74
  go_wp2_with fail
  refine (to_node kids hk _ k ix fr to sv (HS.out.still (Still.of_below ?_)) hw).mono ?_
  · exact ((alloc_below _ _).alloc (by simp) _).alloc (by simp; omega) _
  rintro e w1 ⟨u, bs, rfl, how, hge, hnd, hb⟩
  obtain ⟨ua, uc, rfl⟩ := how.val
  have HO := hide how
  have HG := hide hge
  clear how hge
  obtain ⟨hc, hf⟩ := bcell hb
  go_wp2_with fail
  refine bodyPost_ret (v := .agg #[.string lab, .int .i64 k, .string fr, .string to, .int .i64 ix, .slice ua kids.len uc]) (by simp [results, Try.results74, go_sem, hc]) rfl ?_
  have hz := hb.size
  simp at hz
  have hB : Below w.heap.size w w1 := ((((alloc_below w _).alloc (by simp) _).alloc (by simp; omega) _).trans (hb.mono (by simp; omega)))
  have q : ∀ b, b ∈ bs → w.heap.size + 3 ≤ b := fun b h => by have := HG.out b h; simp at this; omega
  refine ⟨_, bs, rfl, HO.out.same ?_, fun b h => by have := q b h; omega, hnd, ?_⟩
  · repeat (refine Same.setCell ?_ (fun b h => by have := q b h; simp; omega) _)
    exact Same.refl _ _
  · repeat (refine Below.setCell ?_ (by first | (simp; done) | (simp; omega)) _)
    exact hB

/-- What holds at each round's head: the branches up to the place are copied. -/
def ToRel (w : World) (a : Option Addr) (f : F) (iv : Value) (wr : World) : Prop :=
  ∃ p g bs, f = p.app g ∧ iv = .int .i64 (p.len : Nat) ∧ At w a p.len g ∧ Free wr w.heap.size (f.len * 6) ∧ OwRow wr w.heap.size 0 p bs ∧ (∀ b, b ∈ bs → w.heap.size < b) ∧ bs.Nodup ∧ Below w.heap.size w wr

theorem to_start (w : World) (a : Option Addr) (f : F) (h : At w a 0 f) : ToRel w a f (.int .i64 0) (w.alloc (.cells (newRow f.len) ( /- t -/ 92))) :=
  ⟨.nil, f, [], rfl, rfl, h, ⟨newRow f.len, ( /- t -/ 92), by show (w.heap.push _)[w.heap.size]? = _; simp, size_madeCells _ _⟩, rfl, fun _ h => absurd h (List.not_mem_nil), List.nodup_nil, alloc_below _ _⟩

/-- One round more. -/
theorem to_step {w wr w1 : World} {a : Option Addr} {p kids rest : F} {bs ks : List Nat} {lab fr to : ByteArray} {k ix : Int} {u : Value}
    (hat : At w a p.len (.cons lab k fr to ix kids rest)) (hfree : Free wr w.heap.size ((p.app (.cons lab k fr to ix kids rest)).len * 6)) (hown : OwRow wr w.heap.size 0 p bs) (hgt : ∀ b, b ∈ bs → w.heap.size < b) (hnd : bs.Nodup) (hb : Below w.heap.size w wr)
    (hu : Ow w1 u kids ks) (hks : ∀ b, b ∈ ks → wr.heap.size ≤ b) (hknd : ks.Nodup) (hb1 : Below wr.heap.size wr w1) :
    ToRel w a (p.app (.cons lab k fr to ix kids rest)) (.int .i64 ((p.len + 1 : Nat) : Int)) (set6 w1 w.heap.size (p.len * 6) (.string lab) (.int .i64 k) (.string fr) (.string to) (.int .i64 ix) u) := by
  have hsz := hb.size
  have hlt : w.heap.size < wr.heap.size := hfree.lt
  have hf1 : Free w1 w.heap.size ((p.app (.cons lab k fr to ix kids rest)).len * 6) := hfree.below hb1
  obtain ⟨s0, c0, c1, c2, c3, c4, c5, hfree2⟩ := set6_heap hf1 (p.len * 6) (by rw [F.len_app]; simp only [F.len]; omega) (.string lab) (.int .i64 k) (.string fr) (.string to) (.int .i64 ix) u
  have hbs : ∀ b, b ∈ bs → b < wr.heap.size := hown.lt _ _ _ _
  have hsame : Same wr (set6 w1 w.heap.size (p.len * 6) (.string lab) (.int .i64 k) (.string fr) (.string to) (.int .i64 ix) u) bs := fun x hx => by
    rw [set6_other _ _ _ _ _ _ _ _ _ _ (by have := hgt x hx; omega)]
    exact hb1.block x (hbs x hx)
  have hsame1 : Same w1 (set6 w1 w.heap.size (p.len * 6) (.string lab) (.int .i64 k) (.string fr) (.string to) (.int .i64 ix) u) ks := fun x hx =>
    set6_other _ _ _ _ _ _ _ _ _ _ (by have := hks x hx; omega)
  obtain ⟨_, _, _, z1, z2, z3, z4, z5, _⟩ := hat.head
  obtain ⟨ua, uc, rfl, e1, e2, hk⟩ := hu.same hsame1
  refine ⟨p.app (.cons lab k fr to ix kids .nil), rest, bs ++ ks, by rw [F.app_assoc]; rfl, by rw [F.len_app]; rfl, ?_, hfree2, ?_, ?_, ?_, ?_⟩
  · rw [F.len_app]
    exact hat.tail
  · refine OwRow.app _ _ _ _ _ _ (hown.same _ _ _ _ (fun i hi => ?_) hsame) ?_
    · rw [s0 _ (by omega)]
      exact hb1.cell (p := ⟨w.heap.size, 0 + i, none⟩) hlt
    · rw [show 0 + 6 * p.len = p.len * 6 by omega]
      exact ⟨z1, z2, z3, z4, z5, c0, c1, c2, c3, c4, ks, [], by simp, ⟨ua, uc, c5, e1, e2, hk⟩, rfl⟩
  · intro b hm
    rcases List.mem_append.1 hm with hm | hm
    · exact hgt b hm
    · have := hks b hm
      omega
  · refine List.nodup_append.2 ⟨hnd, hknd, fun x hx y hy => ?_⟩
    have := hbs x hx
    have := hks y hy
    omega
  · exact set6_below (hb.trans (hb1.mono hsz)) _ _ (Nat.le_refl _) _ _ _ _ _ _

theorem to_end {w wr : World} {a : Option Addr} {f : F} {iv : Value} (h : ToRel w a f iv wr) (hlen : f.len ≤ maxLen) (hge : ∀ k : Nat, iv = .int .i64 k → f.len ≤ k) : MadeS f w (.returned (.slice (some ⟨w.heap.size, 0, none⟩) f.len f.len)) wr := by
  obtain ⟨p, g, bs, rfl, rfl, hat, hfree, hown, hgt, hnd, hb⟩ := h
  have hl := hge _ rfl
  rw [F.len_app] at hl
  have hg : g = .nil := by cases g with | nil => rfl | cons => simp only [F.len] at hl; omega
  subst hg
  rw [F.app_nil] at *
  cases p with
  | nil => exact ⟨_, [], rfl, ⟨_, _, rfl, Nat.le_refl _, hlen, Or.inl ⟨rfl, rfl⟩⟩, fun _ h => absurd h (List.not_mem_nil), List.nodup_nil, hb⟩
  | cons lab k fr to ix kids rest =>
    refine ⟨_, w.heap.size :: bs, rfl, ⟨_, _, rfl, Nat.le_refl _, hlen, Or.inr ⟨_, _, bs, rfl, rfl, hfree, by simp, hown⟩⟩, fun b h => ?_, List.nodup_cons.2 ⟨fun h => ?_, hnd⟩, hb⟩
    · rcases List.mem_cons.1 h with rfl | h
      · exact Nat.le_refl _
      · exact Nat.le_of_lt (hgt b h)
    · exact absurd (hgt _ h) (Nat.lt_irrefl _)

set_option maxHeartbeats 800000 in
theorem to_slice_lt : ∀ (n : Nat) (f : F), f.sz < n → ToS f := by
  intro n
  induction n with
  | zero => intro f hf; omega
  | succ n ih => 
    intro f hf w v hs hw
    obtain ⟨a, cap, rfl, hlen, hat⟩ := hs.at
    have HA := hide hat
    have hfl : f.len ≤ 1048576 := by omega
    have HF := hide hf
    clear hs hat hf
    have hmk := make52 f.len hfl
    go_enter Try.func45, Try.ntmps45
    go_wp2_with fail
    clear hmk
    go_loopw [4] (fun iv wr => ToRel w a f iv wr) (fun iv _ => f.len - (intOf iv).toNat)
    case atStart => exact to_start w a f HA.out
    case round =>
      obtain ⟨p, g, bs, hfe, rfl, hg, hfree, hown, hgt, hnd, hb⟩ := hrel
      have HE := hide hfe
      have HO := hide hown
      have HG := hide hgt
      clear hfe hown hgt
      cases g with
      | nil =>
        have hge : f.len ≤ p.len := by rw [HE.out, F.app_nil]; exact Nat.le_refl _
        go_wp2_with fail
        go_ret
        exact to_end ⟨p, .nil, bs, HE.out, rfl, hg, hfree, HO.out, HG.out, hnd, hb⟩ hlen (fun k e => by injection e with _ e; omega)
      | cons lab kd fr to ix kids rest =>
        have hlt : p.len < f.len := by rw [HE.out, F.len_app]; simp only [F.len]; omega
        have hz : kids.sz < n ∧ kids.len + kids.wt ≤ 1048576 := by
          have h1 := HF.out
          rw [HE.out, F.sz_app] at h1
          rw [HE.out, F.len_app, F.wt_app] at hw
          simp only [F.sz, F.len, F.wt] at h1 hw
          omega
        have HZ := hide hz
        obtain ⟨b, o, rfl, l1, l2, l3, _, _, c0, c1, c2, c3, c4, ⟨sv, c5, hsv⟩, _⟩ := (hg.still (Still.of_below hb)).head
        have HSV := hide hsv
        have HT := hide hg
        clear hz hsv hg
        go_wp2_with fail
        refine (to_branch kids (ih kids HZ.out.1) _ lab kd ix fr to sv HSV.out HZ.out.2).mono ?_
        rintro e w1 ⟨u, ks, rfl, how, hks, hknd, hb1⟩
        obtain ⟨ua, uc, rfl⟩ := how.val
        have hf1 := hfree.below hb1
        have fz : ∀ o, w1.frozen? ⟨w.heap.size, o, none⟩ = false := fun o => hf1.frozen
        obtain ⟨x0, d0⟩ := hf1.cell (o := p.len * 6) (by omega)
        obtain ⟨x1, d1⟩ := hf1.cell (o := p.len * 6 + 1) (by omega)
        obtain ⟨x2, d2⟩ := hf1.cell (o := p.len * 6 + 2) (by omega)
        obtain ⟨x3, d3⟩ := hf1.cell (o := p.len * 6 + 3) (by omega)
        obtain ⟨x4, d4⟩ := hf1.cell (o := p.len * 6 + 4) (by omega)
        obtain ⟨x5, d5⟩ := hf1.cell (o := p.len * 6 + 5) (by omega)
        have HU := hide how
        have HK := hide hks
        clear how hks
        go_wp2_with fail
        refine ⟨?_, by simp [intOf]; omega⟩
        rw [HE.out] at hfree ⊢
        exact to_step HT.out hfree HO.out HG.out hnd hb HU.out HK.out hknd hb1

/-- toProcess. -/
theorem to_calls (kids : F) (w : World) (k ix : Int) (fr to : ByteArray) (sv : Value) (hs : Sl w sv kids) (hw : kids.len + kids.wt ≤ 1048576) :
    Calls Try.prog 20 #[.agg #[.int .i64 k, .string fr, .string to, .int .i64 ix, sv]] w (MadeN k fr to ix kids w) :=
  to_node kids (to_slice_lt _ kids (Nat.lt_succ_self _)) w k ix fr to sv hs hw

end Go.Proofs.Ytfppglfajbmapaa.Pc
