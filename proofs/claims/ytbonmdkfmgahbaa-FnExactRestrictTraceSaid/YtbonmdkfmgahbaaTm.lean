/- markActionS and heldActionS. -/
import Derived.Test.YtbonmdkfmgahbaaAc
import Derived.Test.YtbonmdkfmgahbaaMt
import Derived.Deep.RegionHeld3
namespace Go.Proofs.Ytbonmdkfmgahbaa.Lo.Ne
open Go.RowKit

def mk1 (k : Nat) : Act := ⟨MT k, (((k : Int) + 1) % 3 == 0), MT (k + 2), MT (k + 3)⟩
/-- The trace with a mark at every place, from k on. -/
def mkAs : List Act → Nat → List Act
  | [], _ => []
  | _ :: r, k => mk1 k :: mkAs r (k + 4)
theorem mkAs_len : ∀ (l : List Act) (k : Nat), (mkAs l k).length = l.length
  | [], _ => rfl
  | _ :: r, k => by simp only [mkAs, List.length_cons, mkAs_len r]
theorem mkAs_app (g : List Act) : ∀ (l : List Act) (k : Nat), mkAs (l ++ g) k = mkAs l k ++ mkAs g (k + 4 * l.length)
  | [], k => by simp [mkAs]
  | _ :: r, k => by
    simp only [List.cons_append, mkAs, mkAs_app g r, List.length_cons]
    rw [show k + 4 + 4 * r.length = k + 4 * (r.length + 1) by omega]

theorem act_mid {wr w1 w2 w3 : World} {b n o : Nat} {s0 s1 s2 s3 : Value} (hf : Free wr b n) (ho : o + 4 ≤ n)
    (hb1 : Below wr.heap.size wr w1) (hb2 : Below ((w1.setCell ⟨b, o, none⟩ s0).setCell ⟨b, o + 1, none⟩ s1).heap.size ((w1.setCell ⟨b, o, none⟩ s0).setCell ⟨b, o + 1, none⟩ s1) w2)
    (hb3 : Below (w2.setCell ⟨b, o + 2, none⟩ s2).heap.size (w2.setCell ⟨b, o + 2, none⟩ s2) w3) :
    Only b wr (w3.setCell ⟨b, o + 3, none⟩ s3) ∧ Free (w3.setCell ⟨b, o + 3, none⟩ s3) b n ∧
    (∀ off, off < o ∨ o + 4 ≤ off → (w3.setCell ⟨b, o + 3, none⟩ s3).cell? ⟨b, off, none⟩ = wr.cell? ⟨b, off, none⟩) ∧
    (w3.setCell ⟨b, o + 3, none⟩ s3).cell? ⟨b, o, none⟩ = some s0 ∧ (w3.setCell ⟨b, o + 3, none⟩ s3).cell? ⟨b, o + 1, none⟩ = some s1 ∧
    (w3.setCell ⟨b, o + 3, none⟩ s3).cell? ⟨b, o + 2, none⟩ = some s2 ∧ (w3.setCell ⟨b, o + 3, none⟩ s3).cell? ⟨b, o + 3, none⟩ = some s3 := by
  have hlt := hf.lt
  obtain ⟨cs, t, hh, hn⟩ := hf
  have e1 : w1.heap[b]? = some (.cells cs t (0, 0)) := (hb1.block b hlt).trans hh
  have hlt1 : b < w1.heap.size := Nat.lt_of_lt_of_le hlt hb1.size
  have e2 := heap_setCell_same (o := o + 1) (heap_setCell_same (o := o) e1 s0) s1
  have e3 : w2.heap[b]? = _ := (hb2.block b (by simpa using hlt1)).trans e2
  have hlt2 : b < w2.heap.size := by have := hb2.size; simp at this; omega
  have e4 := heap_setCell_same (o := o + 2) e3 s2
  have e5 : w3.heap[b]? = _ := (hb3.block b (by simpa using hlt2)).trans e4
  have key := heap_setCell_same (o := o + 3) e5 s3
  have r1 : Only b wr w1 := (Only.refl b wr).below hb1
  have r2 : Only b wr w2 := ((r1.setCell (p := ⟨b, o, none⟩) (Or.inl rfl) s0).setCell (p := ⟨b, o + 1, none⟩) (Or.inl rfl) s1).below hb2
  have r3 : Only b wr w3 := (r2.setCell (p := ⟨b, o + 2, none⟩) (Or.inl rfl) s2).below hb3
  refine ⟨r3.setCell (p := ⟨b, o + 3, none⟩) (Or.inl rfl) s3, ⟨_, t, key, by simp [hn]⟩, fun off hoff => ?_, ?_, ?_, ?_, ?_⟩
  · rw [cell_of_heap key, cell_of_heap hh]
    simp only [Array.getElem?_setIfInBounds]
    repeat rw [if_neg (by omega)]
  all_goals
    rw [cell_of_heap key]
    simp [Array.getElem?_setIfInBounds]
    omega

theorem mt_int (z : Int) (h1 : 1 ≤ z) (h2 : z ≤ 16777216) (w : World) : Calls Try.prog 34 #[.int .i64 z] w fun e w' => e = .returned (.string (MT z.toNat)) ∧ Below w.heap.size w w' := by
  obtain ⟨k, rfl⟩ := Int.eq_ofNat_of_zero_le (show 0 ≤ z by omega)
  exact mt_calls k (by omega) (by omega) w

/-- But for the blocks named, what was there is as it was. -/
structure Wa (bs : List Nat) (w w' : World) : Prop where
  os : w'.os = w.os
  tape : w'.tape = w.tape
  output : w'.output = w.output
  size : w.heap.size ≤ w'.heap.size
  block : ∀ k, k < w.heap.size → k ∉ bs → w'.heap[k]? = w.heap[k]?
theorem Wa.to_below {bs : List Nat} {B : Nat} {a b : World} (h : Wa bs a b) (hB : ∀ x, x ∈ bs → B ≤ x) (hs : B ≤ a.heap.size) : Below B a b :=
  ⟨h.os, h.tape, h.output, h.size, fun k hk => h.block k (by omega) (fun hm => by have := hB k hm; omega)⟩

def MaPost (l : List Act) (v : Value) (bs : List Nat) (k : Nat) (w : World) (e : Ending) (w' : World) : Prop :=
  e = .returned (.int .i64 ((k + 4 * l.length : Nat) : Int)) ∧ OwG elA w' v (mkAs l k) bs ∧ Wa bs w w'

def MaRel (w : World) (b n : Nat) (l : List Act) (k : Nat) (kv iv : Value) (wr : World) : Prop :=
  ∃ p g, l = p ++ g ∧ kv = .int .i64 ((k + 4 * p.length : Nat) : Int) ∧ iv = .int .i64 (p.length : Nat) ∧ RowG elA wr b 0 (mkAs p k) ∧ RowG elA wr b (p.length * 4) g ∧ Free wr b n ∧ Only b w wr

theorem ma_step {w wr C : World} {b n k : Nat} {p rest : List Act} {a : Act} (hk : k + 4 * (p ++ a :: rest).length ≤ 16777216) (hp : RowG elA wr b 0 (mkAs p k)) (hrest : RowG elA wr b (p.length * 4 + 4) rest) (hw : Only b w wr)
    (hC : Only b wr C) (hCf : Free C b n) (hCo : ∀ off, off < p.length * 4 ∨ p.length * 4 + 4 ≤ off → C.cell? ⟨b, off, none⟩ = wr.cell? ⟨b, off, none⟩)
    (m0 : C.cell? ⟨b, p.length * 4, none⟩ = some (.string (MT (k + 4 * p.length)))) (m1 : C.cell? ⟨b, p.length * 4 + 1, none⟩ = some (.bool ((((k + 4 * p.length : Nat) : Int) + 1) % 3 == 0))) (m2 : C.cell? ⟨b, p.length * 4 + 2, none⟩ = some (.string (MT (k + 4 * p.length + 2))))
    (m3 : C.cell? ⟨b, p.length * 4 + 3, none⟩ = some (.string (MT (k + 4 * p.length + 3)))) :
    MaRel w b n (p ++ a :: rest) k (.int .i64 ((k + 4 * p.length + 4 : Nat) : Int)) (.int .i64 ((p.length + 1 : Nat) : Int)) C := by
  have hs0 : k + 4 * p.length + 4 ≤ 16777216 := by simp only [List.length_append, List.length_cons] at hk; omega
  refine ⟨p ++ [a], rest, by simp, by simp only [List.length_append, List.length_cons, List.length_nil]; rw [show k + 4 * (p.length + (0 + 1)) = k + 4 * p.length + 4 by omega], by simp, ?_, ?_, hCf, hw.trans hC⟩
  · rw [mkAs_app]
    refine RowG.app (hp.flat elA_flat (fun i hi => ?_)) ?_
    · rw [mkAs_len] at hi
      have hi' : i < p.length * 4 := hi
      rw [hCo _ (by omega)]
    · rw [mkAs_len, show 0 + p.length * elA.st = p.length * 4 from Nat.zero_add _]
      exact ⟨⟨MT_size _ (by omega), MT_size _ (by omega), MT_size _ (by omega), m0, m1, m2, m3⟩, trivial⟩
  · rw [show (p ++ [a]).length * 4 = p.length * 4 + 4 by simp; omega]
    exact hrest.flat elA_flat (fun i hi => hCo _ (by omega))

set_option maxHeartbeats 1000000 in
set_option maxRecDepth 100000 in
/-- markActionS. -/
theorem markA (l : List Act) (w : World) (v : Value) (bs : List Nat) (k : Nat) (how : OwG elA w v l bs) (hk1 : 1 ≤ k) (hk2 : k + 4 * l.length ≤ 16777216) :
    Calls Try.prog 16 #[v, .int .i64 (k : Int)] w (MaPost l v bs k w) := by
  obtain ⟨a, cap, rfl, hlc, hcm, hs⟩ := how
  have hfl : l.length ≤ maxLen := Nat.le_trans hlc hcm
  unfold maxLen at hfl
  rcases hs with ⟨rfl, rfl⟩ | ⟨b, N, rfl, rfl, hfree, hne, hrow⟩
  · change Calls Try.prog 16 #[.slice a 0 cap, .int .i64 (k : Int)] w _
    have HLC := hide hlc
    have HCM := hide hcm
    clear hlc hcm hfl
    go_enter Try.func16, Try.ntmps16
    go_wp2_with fail
    go_loopw [1, 5] (fun kv iv wr => kv = .int .i64 (k : Int) ∧ iv = .int .i64 0 ∧ wr = w) (fun _ _ _ => 0)
    case atStart => exact ⟨rfl, rfl, rfl⟩
    case round =>
      obtain ⟨rfl, rfl, rfl⟩ := hrel
      go_wp2_with fail
      go_ret
      exact ⟨rfl, ⟨a, cap, rfl, HLC.out, HCM.out, Or.inl ⟨rfl, rfl⟩⟩, ⟨rfl, rfl, rfl, Nat.le_refl _, fun _ _ _ => rfl⟩⟩
  · have HROW := hide hrow
    have HFR := hide hfree
    have HNE := hide hne
    have HK2 := hide hk2
    have HLC := hide hlc
    have HCM := hide hcm
    clear hrow hfree hne hk2 hlc hcm
    go_enter Try.func16, Try.ntmps16
    go_wp2_with fail
    go_loopw [1, 5] (fun kv iv wr => MaRel w b N l k kv iv wr) (fun _ iv _ => l.length - (intOf iv).toNat)
    case atStart => exact ⟨[], l, rfl, rfl, rfl, trivial, HROW.out, HFR.out, Only.refl _ _⟩
    case round =>
      obtain ⟨p, g, hfe, rfl, rfl, hp, hg, hfree, hw⟩ := hrel
      have HE := hide hfe
      have HP := hide hp
      have HW := hide hw
      have HG := hide hg
      have hbr := hfree.lt
      clear hfe hp hw hg
      cases g with
      | nil =>
        have hge : l.length ≤ p.length := by rw [HE.out, List.append_nil]; exact Nat.le_refl _
        go_wp2_with fail
        go_ret
        have h1 := HE.out
        rw [List.append_nil] at h1
        refine ⟨ret_int (by rw [h1]), ⟨some ⟨b, 0, none⟩, cap, by rw [mkAs_len], by rw [mkAs_len]; exact HLC.out, HCM.out, Or.inr ⟨b, N, rfl, rfl, hfree, fun h => HNE.out ?_, ?_⟩⟩, ⟨HW.out.os, HW.out.tape, HW.out.output, HW.out.size, fun k hk hm => HW.out.block k hk (by simpa using hm)⟩⟩
        · have := mkAs_len l k
          rw [h] at this
          exact List.length_eq_zero_iff.1 this.symm
        · rw [h1]
          exact HP.out
      | cons x rest =>
        have hlt : p.length < l.length := by rw [HE.out, List.length_append]; simp only [List.length_cons]; omega
        have hkk : 1 ≤ k + 4 * p.length ∧ k + 4 * p.length + 4 ≤ 16777216 := by
          have := HK2.out
          rw [HE.out] at this
          simp only [List.length_append, List.length_cons] at this
          omega
        obtain ⟨hka, hkb⟩ := hkk
        obtain ⟨⟨-, -, -, c0, c1, c2, c3⟩, hrest⟩ := HG.out
        have HR := hide hrest
        have hN : p.length * 4 + 4 ≤ N := by
          obtain ⟨cs, t, hh, hn⟩ := hfree
          rw [cell_of_heap hh] at c3
          have := (Array.getElem?_eq_some_iff.1 c3).1
          omega
        generalize hK : k + 4 * p.length = K at *
        have HK := hide hK
        clear hK hrest c0 c1 c2 c3
        go_wp2_with fail
        refine (mt_int K (by omega) (by omega) _).mono ?_
        rintro e w1 ⟨rfl, hb1⟩
        rw [show ((K : Int)).toNat = K from by omega]
        have f1 := hfree.below hb1
        have z1 : ∀ o, w1.frozen? ⟨b, o, none⟩ = false := fun o => f1.frozen
        obtain ⟨x0, d0⟩ := f1.cell (o := p.length * 4) (by omega)
        obtain ⟨x1, d1⟩ := f1.cell (o := p.length * 4 + 1) (by omega)
        have l1 := f1.lt
        go_wp2_with fail
        refine (mt_int _ (by omega) (by omega) _).mono ?_
        rintro e w2 ⟨rfl, hb2⟩
        rw [show ((K : Int) + 1 + 1).toNat = K + 2 from by omega]
        have f2 := ((f1.setCell ⟨b, p.length * 4, none⟩ (.string (MT K))).setCell ⟨b, p.length * 4 + 1, none⟩ (.bool (((K : Int) + 1) % 3 == 0))).below hb2
        have z2 : ∀ o, w2.frozen? ⟨b, o, none⟩ = false := fun o => f2.frozen
        obtain ⟨x2, d2⟩ := f2.cell (o := p.length * 4 + 2) (by omega)
        have l2 := f2.lt
        clear d0 d1 z1
        go_wp2_with fail
        refine (mt_int _ (by omega) (by omega) _).mono ?_
        rintro e w3 ⟨rfl, hb3⟩
        rw [show ((K : Int) + 1 + 1 + 1).toNat = K + 3 from by omega]
        have f3 := (f2.setCell ⟨b, p.length * 4 + 2, none⟩ (.string (MT (K + 2)))).below hb3
        have z3 : ∀ o, w3.frozen? ⟨b, o, none⟩ = false := fun o => f3.frozen
        obtain ⟨x3, d3⟩ := f3.cell (o := p.length * 4 + 3) (by omega)
        have l3 := f3.lt
        have HM := hide (act_mid (s3 := .string (MT (K + 3))) hfree hN hb1 hb2 hb3)
        clear d2 z2
        go_wp2_with fail
        refine ⟨?_, by simp [intOf]; omega⟩
        obtain ⟨M1, M2, M3, M4, M5, M6, M7⟩ := HM.out
        have hK := HK.out
        subst hK
        rw [HE.out]
        have h := ma_step (a := x) (by have := HK2.out; rw [HE.out] at this; exact this) HP.out HR.out HW.out M1 M2 M3 M4 M5 M6 M7
        rw [show ((k + 4 * p.length + 4 : Nat) : Int) = ((k + 4 * p.length : Nat) : Int) + 1 + 1 + 1 + 1 from by omega, show ((p.length + 1 : Nat) : Int) = (p.length : Int) + 1 from by omega] at h
        exact h

set_option maxHeartbeats 1000000 in
set_option maxRecDepth 100000 in
/-- heldActionS. -/
theorem heldA (l : List Act) (w : World) (v : Value) (k : Nat) (hs : SlG elA w v (mkAs l k)) (hk1 : 1 ≤ k) (hk2 : k + 4 * l.length ≤ 16777216) :
    Calls Try.prog 17 #[v, .int .i64 (k : Int)] w fun e w' => e = .returned (.int .i64 ((k + 4 * l.length : Nat) : Int)) ∧ Below w.heap.size w w' := by
  obtain ⟨a, cap, rfl, hlen, hat⟩ := hs.at
  rw [mkAs_len] at hlen ⊢
  unfold maxLen at hlen
  have HA := hide hat
  have HK2 := hide hk2
  clear hs hat hk2
  go_enter Try.func17, Try.ntmps17
  go_wp2_with fail
  go_loopw [1, 5] (fun kv iv wr => ∃ (g : List Act) (j kc : Nat), j + g.length = l.length ∧ kv = .int .i64 (kc : Int) ∧ iv = .int .i64 (j : Int) ∧ kc + 4 * g.length = k + 4 * l.length ∧ 1 ≤ kc ∧ AtG elA w a j (mkAs g kc) ∧ Below w.heap.size w wr) (fun _ iv _ => l.length - (intOf iv).toNat)
  case atStart => exact ⟨l, 0, k, by omega, rfl, rfl, rfl, hk1, HA.out, Below.refl _ _⟩
  case round =>
    obtain ⟨g, j, kc, hj, rfl, rfl, hsum, hkc, hg, hb⟩ := hrel
    have HS := hide hsum
    cases g with
    | nil =>
      have H5 : Hid (j = l.length) := by unfold Hid; simpa using hj
      have hge : l.length ≤ j := Nat.le_of_eq H5.out.symm
      clear hj hsum
      go_wp2_with fail
      go_ret
      refine ⟨ret_int ?_, hb⟩
      have := HS.out
      simp only [List.length_nil] at this
      omega
    | cons x rest =>
      have HJ : Hid (j + 1 + rest.length = l.length) := by unfold Hid; simp only [List.length_cons] at hj; omega
      have hlt : j < l.length := by have := HJ.out; omega
      have hz : kc + 4 + 4 * rest.length = k + 4 * l.length := by simp only [List.length_cons] at hsum; omega
      have HZ := hide hz
      have hkb5 : kc + 4 ≤ 16777216 := by have := HK2.out; omega
      have hg2 : AtG elA w a j (⟨MT kc, (((kc : Int) + 1) % 3 == 0), MT (kc + 2), MT (kc + 3)⟩ :: mkAs rest (kc + 4)) := hg
      obtain ⟨b, o, rfl, -, -, -, c0, c1, c2, c3⟩ := AtA.head (hg2.still (Still.of_below hb))
      have HRE := hide hg2.tail
      clear hj hsum hz hg hg2
      go_wp2_with fail
      go_region_held3 (fun w' => w'.cell? ⟨b, o + j * 4, none⟩ = some (.string (MT kc)))
        (first | exact c0 | exact d0)
        ((first | (go_at_call 34; refine (mt_int _ (by omega) (by omega) _).mono ?_; (rintro e w1 ⟨rfl, hb1⟩); (rw [show ((kc : Int)).toNat = kc from by omega]); (have d0 := (Still.of_below hb1) _ _ c0))))
      have hbb1 : Below w.heap.size w w1 := hb.drew.trans (hb1.mono hb.size)
      have st1 : Still wr w1 := fun p v h => Still.of_below hb1 p v h
      have e1 := st1 _ _ c1
      have e2 := st1 _ _ c2
      have e3 := st1 _ _ c3
      clear c0 c1 c2 c3 d0 st1 hb1 hb
      go_wp2_with fail
      go_region_held3 (fun w' => w'.cell? ⟨b, o + j * 4 + 2, none⟩ = some (.string (MT (kc + 2))))
        (first | exact e2 | exact d2)
        ((first | (go_at_call 34; refine (mt_int _ (by omega) (by omega) _).mono ?_; (rintro e w2 ⟨rfl, hb2⟩); (rw [show ((kc : Int) + 1 + 1).toNat = kc + 2 from by omega]); (have d2 := (Still.of_below hb2) _ _ e2))))
      have hbb3 : Below w.heap.size w w2 := hbb1.drew.trans (hb2.mono hbb1.size)
      have g3 : w2.cell? ⟨b, o + j * 4 + 3, none⟩ = some (.string (MT (kc + 3))) := (fun p v h => Still.of_below hb2 p v h : Still w1 w2) _ _ e3
      clear e1 e2 e3 d2 hb2 hbb1
      go_wp2_with fail
      go_region_held3 (fun w' => w'.cell? ⟨b, o + j * 4 + 3, none⟩ = some (.string (MT (kc + 3))))
        (first | exact g3 | exact d3)
        ((first | (go_at_call 34; refine (mt_int _ (by omega) (by omega) _).mono ?_; (rintro e w3 ⟨rfl, hb3⟩); (rw [show ((kc : Int) + 1 + 1 + 1).toNat = kc + 3 from by omega]); (have d3 := (Still.of_below hb3) _ _ g3))))
      have hbb4 : Below w.heap.size w w3 := hbb3.drew.trans (hb3.mono hbb3.size)
      clear g3 d3 hb3 hbb3
      go_wp2_with fail
      exact ⟨⟨rest, j + 1, kc + 4, HJ.out, by go_num, by go_num, HZ.out, by omega, HRE.out, hbb4⟩, by simp [intOf]; omega⟩
end Go.Proofs.Ytbonmdkfmgahbaa.Lo.Ne
