/- Links: their box, what the law reckons of them, copies, equality; an argument that is a link, opened. -/
import Derived.Test.YtmkjipnemapdeaaDoorKa
import Derived.Test.YtmkjipnemapdeaaDoorOr
import Derived.Deep.QuietTactic
import Derived.BigQuiet
namespace Go.Proofs.YtmkjipnemapdeaaDoor.Tk
open Go.ChangeShapes Go.WideShapes Go.RowKit

/-- A struct of six cells in a box of its own. -/
def Box6 (w : World) (b : Nat) (v0 v1 v2 v3 v4 v5 : Value) : Prop := ∃ t, w.heap[b]? = some (.cells #[v0, v1, v2, v3, v4, v5] t (0, 0))
section
variable {w w' : World} {b : Nat} {v0 v1 v2 v3 v4 v5 : Value}
theorem Box6.same (h : Box6 w b v0 v1 v2 v3 v4 v5) (e : w'.heap[b]? = w.heap[b]?) : Box6 w' b v0 v1 v2 v3 v4 v5 := by
  obtain ⟨t, h⟩ := h
  exact ⟨t, e.trans h⟩
theorem Box6.lt (h : Box6 w b v0 v1 v2 v3 v4 v5) : b < w.heap.size := by
  obtain ⟨t, h⟩ := h
  exact (Array.getElem?_eq_some_iff.1 h).1
theorem Box6.below (h : Box6 w b v0 v1 v2 v3 v4 v5) (hb : Below w.heap.size w w') : Box6 w' b v0 v1 v2 v3 v4 v5 := h.same (hb.block _ h.lt)
theorem Box6.now (w : World) (v0 v1 v2 v3 v4 v5 : Value) (t : TypeId) : Box6 (w.alloc (.cells #[v0, v1, v2, v3, v4, v5] t)) w.heap.size v0 v1 v2 v3 v4 v5 :=
  ⟨t, by show (w.heap.push _)[w.heap.size]? = _; simp⟩
theorem Box6.cells (h : Box6 w b v0 v1 v2 v3 v4 v5) :
    w.cell? ⟨b, 0, none⟩ = some v0 ∧ w.cell? ⟨b, 1, none⟩ = some v1 ∧ w.cell? ⟨b, 2, none⟩ = some v2 ∧ w.cell? ⟨b, 3, none⟩ = some v3 ∧ w.cell? ⟨b, 4, none⟩ = some v4 ∧ w.cell? ⟨b, 5, none⟩ = some v5 := by
  obtain ⟨t, h⟩ := h
  refine ⟨?_, ?_, ?_, ?_, ?_, ?_⟩ <;> simp [World.cell?, h]
theorem Box6.frozen (h : Box6 w b v0 v1 v2 v3 v4 v5) (o : Nat) : w.frozen? ⟨b, o, none⟩ = false := by
  obtain ⟨t, h⟩ := h
  simp [World.frozen?, h]
theorem Box6.drew (h : Box6 w b v0 v1 v2 v3 v4 v5) : Box6 w.drew b v0 v1 v2 v3 v4 v5 := h
theorem Box6.set0 (h : Box6 w b v0 v1 v2 v3 v4 v5) (u : Value) : Box6 (w.setCell ⟨b, 0, none⟩ u) b u v1 v2 v3 v4 v5 := by
  obtain ⟨t, h⟩ := h
  exact ⟨t, heap_setCell_same h u⟩
theorem Box6.set1 (h : Box6 w b v0 v1 v2 v3 v4 v5) (u : Value) : Box6 (w.setCell ⟨b, 1, none⟩ u) b v0 u v2 v3 v4 v5 := by
  obtain ⟨t, h⟩ := h
  exact ⟨t, heap_setCell_same h u⟩
theorem Box6.set2 (h : Box6 w b v0 v1 v2 v3 v4 v5) (u : Value) : Box6 (w.setCell ⟨b, 2, none⟩ u) b v0 v1 u v3 v4 v5 := by
  obtain ⟨t, h⟩ := h
  exact ⟨t, heap_setCell_same h u⟩
theorem Box6.set3 (h : Box6 w b v0 v1 v2 v3 v4 v5) (u : Value) : Box6 (w.setCell ⟨b, 3, none⟩ u) b v0 v1 v2 u v4 v5 := by
  obtain ⟨t, h⟩ := h
  exact ⟨t, heap_setCell_same h u⟩
theorem Box6.set4 (h : Box6 w b v0 v1 v2 v3 v4 v5) (u : Value) : Box6 (w.setCell ⟨b, 4, none⟩ u) b v0 v1 v2 v3 u v5 := by
  obtain ⟨t, h⟩ := h
  exact ⟨t, heap_setCell_same h u⟩
theorem Box6.set5 (h : Box6 w b v0 v1 v2 v3 v4 v5) (u : Value) : Box6 (w.setCell ⟨b, 5, none⟩ u) b v0 v1 v2 v3 v4 u := by
  obtain ⟨t, h⟩ := h
  exact ⟨t, heap_setCell_same h u⟩
theorem Box6.setOther (h : Box6 w b v0 v1 v2 v3 v4 v5) {p : Addr} (hp : b ≠ p.block) (u : Value) : Box6 (w.setCell p u) b v0 v1 v2 v3 v4 v5 := h.same (Below.heap_setCell _ _ _ _ hp)
end

/-- A link's values. -/
structure Lnk where
  ba : Int
  wi : ByteArray
  ex : Int
  de : ByteArray
  ps : List Pkt
  ac : List Int
/-- How much of its budget the law spends on a link. -/
def Lnk.wt (m : Lnk) : Nat := m.wi.size + (m.de.size + (m.ps.length + wtP m.ps + m.ac.length))
structure Lnk.Fit (m : Lnk) : Prop where
  wi : m.wi.size ≤ maxLen
  de : m.de.size ≤ maxLen
  ba : (Lit.int .i64 m.ba).wf = true
  ex : (Lit.int .i64 m.ex).wf = true
theorem Lnk.wt_k {m : Lnk} {n : Nat} (h : m.wt ≤ n) : m.ps.length ≤ n ∧ m.ac.length ≤ n ∧ m.wi.size ≤ n ∧ m.de.size ≤ n := by unfold Lnk.wt at h; omega

set_option maxHeartbeats 800000 in
/-- szLink. -/
theorem sz_link (w : World) (ba ex : Int) (wi de : ByteArray) (ps : List Pkt) (ac : List Int) (pv av : Value) (left : Int) (hp : SlG elP w pv ps) (ha : SlG elI w av ac) (hl0 : 0 ≤ left) (hl1 : left ≤ 1048576) (hwi : wi.size ≤ maxLen) (hde : de.size ≤ maxLen) :
    Calls Tryd.prog 6 #[.agg #[.int .i64 ba, .string wi, .int .i64 ex, .string de, pv, av], .int .i64 left] w fun e w' => e = .returned (.int .i64 (leftK left (wi.size + (de.size + (ps.length + wtP ps + ac.length))))) ∧ Below w.heap.size w w' := by
  obtain ⟨pa, pc, rfl, -, -⟩ := hp.at
  obtain ⟨aa, ac', rfl, -, -⟩ := ha.at
  have hb0 := alloc_below w (.cells #[.int .i64 ba, .string wi, .int .i64 ex, .string de, .slice pa ps.length pc, .slice aa ac.length ac'] ( /- t -/ 25))
  have HP := hide (hp.still (Still.of_below hb0))
  have HA := hide (ha.still (Still.of_below hb0))
  clear hp ha
  unfold maxLen at hwi hde
  go_enter Tryd.func6, Tryd.ntmps6
  go_wp2_with fail
  · go_ret
    exact ⟨ret_int (by unfold leftK; rw [if_pos (by omega)]), hb0⟩
  · go_ret
    exact ⟨ret_int (by unfold leftK; rw [if_pos (by omega)]), hb0⟩
  · have h1 : 0 ≤ left - wi.size - de.size := by assumption
    refine (szPs ps _ _ _ HP.out h1 (by omega)).mono ?_
    rintro e w1 ⟨rfl, hb⟩
    have hx1 := (Box6.now w (.int .i64 ba) (.string wi) (.int .i64 ex) (.string de) (.slice pa ps.length pc) (.slice aa ac.length ac') ( /- t -/ 25)).below hb
    obtain ⟨-, -, -, -, -, x5⟩ := hx1.cells
    have hlt := hx1.lt
    have HA1 := hide (HA.out.still (Still.of_below hb))
    have hb2 := alloc_then hb
    obtain ⟨r, hr⟩ : ∃ r, r = leftK (left - wi.size - de.size) (ps.length + wtP ps) := ⟨_, rfl⟩
    have HR := hide hr
    rw [← hr]
    clear hr hb hb0 hx1
    go_wp2_with fail
    · go_ret
      refine ⟨ret_int ?_, hb2⟩
      have := HR.out
      unfold leftK at *
      split at this <;> (try split) <;> omega
    · have h7 : 0 ≤ r := by assumption
      refine (szIs ac _ _ r HA1.out h7 (by have := HR.out; unfold leftK at this; split at this <;> omega)).mono ?_
      rintro e w2 ⟨rfl, rfl⟩
      obtain ⟨r2, hr2⟩ : ∃ r2, r2 = leftK r ac.length := ⟨_, rfl⟩
      have HR2 := hide hr2
      rw [← hr2]
      clear hr2
      go_wp2_with fail
      all_goals
        go_ret
        refine ⟨ret_int ?_, hb2⟩
        have h1 := HR.out
        have h2 := HR2.out
        unfold leftK at *
        split at h1 <;> split at h2 <;> (try split) <;> omega

/-- A link of the call's own. -/
def MadeK (ba : Int) (wi : ByteArray) (ex : Int) (de : ByteArray) (ps : List Pkt) (ac : List Int) (w : World) (e : Ending) (w' : World) : Prop :=
  ∃ u v bs cs, e = .returned (.agg #[.int .i64 ba, .string wi, .int .i64 ex, .string de, u, v]) ∧ OwG elP w' u ps bs ∧ OwG elI w' v ac cs ∧ (∀ b, b ∈ bs ++ cs → w.heap.size ≤ b) ∧ (bs ++ cs).Nodup ∧ Below w.heap.size w w'

set_option maxHeartbeats 1600000 in
set_option maxRecDepth 100000 in
/-- toLink. -/
theorem to_link (w : World) (ba ex : Int) (wi de : ByteArray) (ps : List Pkt) (ac : List Int) (pv av : Value) (hp : SlG elP w pv ps) (ha : SlG elI w av ac) (hw : ps.length ≤ 1048576) (hw2 : ac.length ≤ 1048576) :
    Calls Tryd.prog 8 #[.agg #[.int .i64 ba, .string wi, .int .i64 ex, .string de, pv, av]] w (MadeK ba wi ex de ps ac w) := by
  obtain ⟨pa, pc, rfl, -, -⟩ := hp.at
  obtain ⟨aa, ac', rfl, -, -⟩ := ha.at
  have HP := hide hp
  have HA := hide ha
  clear hp ha
  go_enter Tryd.func8, Tryd.ntmps8
  go_wp2_with fail
  refine (toPs ps _ _ (HP.out.still (Still.of_below ?_)) hw).mono ?_
  · exact ((alloc_below _ _).alloc (by simp) _).alloc (by simp; omega) _
  rintro e w1 ⟨u, bs, rfl, how, hge, hnd, hb⟩
  obtain ⟨ua, uc, rfl⟩ := how.val
  have HO := hide how
  have HG := hide hge
  clear how hge
  obtain ⟨hc, hf⟩ := bcell hb
  go_wp2_with fail
  have hz := hb.size
  simp at hz
  have hB : Below w.heap.size w w1 := ((((alloc_below w _).alloc (by simp) _).alloc (by simp; omega) _).trans (hb.mono (by simp; omega)))
  refine (toIs ac _ _ (HA.out.still (Still.of_below ?_)) hw2).mono ?_
  · repeat (refine Below.setCell ?_ (by first | (simp; done) | (simp; omega)) _)
    exact hB
  rintro e w2 ⟨v, cs, rfl, how2, hge2, hnd2, hb2⟩
  obtain ⟨va, vc, rfl⟩ := how2.val
  have HO2 := hide how2
  have HG2 := hide hge2
  clear how2 hge2
  have X0 : Box6 w1 (w.heap.size + 1) (.int .i64 0) (.string ⟨#[]⟩) (.int .i64 0) (.string ⟨#[]⟩) (.slice none 0 0) (.slice none 0 0) := by
    have := ((Box6.now (w.alloc (.cells #[.int .i64 ba, .string wi, .int .i64 ex, .string de, .slice pa ps.length pc, .slice aa ac.length ac'] ( /- t -/ 25))) (.int .i64 0) (.string ⟨#[]⟩) (.int .i64 0) (.string ⟨#[]⟩) (.slice none 0 0) (.slice none 0 0) ( /- t -/ 30)).below (alloc_below _ _)).below hb
    simpa using this
  have Y0 : Box6 w1 (w.heap.size + 1 + 1) (.int .i64 ba) (.string wi) (.int .i64 ex) (.string de) (.slice none 0 0) (.slice none 0 0) := by
    have := (Box6.now ((w.alloc (.cells #[.int .i64 ba, .string wi, .int .i64 ex, .string de, .slice pa ps.length pc, .slice aa ac.length ac'] ( /- t -/ 25))).alloc (.cells #[.int .i64 0, .string ⟨#[]⟩, .int .i64 0, .string ⟨#[]⟩, .slice none 0 0, .slice none 0 0] ( /- t -/ 30))) (.int .i64 ba) (.string wi) (.int .i64 ex) (.string de) (.slice none 0 0) (.slice none 0 0) ( /- t -/ 30)).below hb
    simpa using this
  have X2 := (X0.setOther (p := ⟨w.heap.size + 1 + 1, 4, none⟩) (by simp) (.slice ua ps.length uc)).below hb2
  have Y2 := (Y0.set4 (.slice ua ps.length uc)).below hb2
  have hz2 := hb2.size
  simp at hz2
  have hB2 : Below w.heap.size w w2 := (hB.setCell (p := ⟨w.heap.size + 1 + 1, 4, none⟩) (by simp; omega) (.slice ua ps.length uc)).trans (hb2.mono (by simp; omega))
  have HO3 := hide ((HO.out.same elP_flat (Same.refl _ _ |>.setCell (p := ⟨w.heap.size + 1 + 1, 4, none⟩) (fun b h => by have := HG.out b h; simp at this; simp; omega) (.slice ua ps.length uc))).same elP_flat (Same.of_below hb2 (fun b h => by have := HO.out.lt b h; simpa using this)))
  have HG3 : Hid (∀ b, b ∈ bs → w.heap.size + 3 ≤ b ∧ b < w1.heap.size) := fun b h => ⟨by have := HG.out b h; simp at this; omega, HO.out.lt b h⟩
  have HG4 : Hid (∀ b, b ∈ cs → w1.heap.size ≤ b) := fun b h => by have := HG2.out b h; simpa using this
  obtain ⟨x0, x1, x2, x3, x4, x5⟩ := X2.cells
  obtain ⟨y0, y1, y2, y3, y4, y5⟩ := Y2.cells
  have fx := X2.frozen
  have fy := Y2.frozen
  have HX2 := hide X2
  have HY2 := hide Y2
  have xl := X2.lt
  have yl := Y2.lt
  clear hc hf hb hb2 HO HG HG2 X0 Y0 X2 Y2
  go_wp2_with fail
  have b0 := (HX2.out.setOther (p := ⟨w.heap.size + 1 + 1, 5, none⟩) (by simp) (.slice va ac.length vc)).set0 (.int .i64 ba)
  have b1 := b0.set1 (.string wi)
  have b2 := b1.set2 (.int .i64 ex)
  have b3 := b2.set3 (.string de)
  have b4 := b3.set4 (.slice ua ps.length uc)
  have b5 := b4.set5 (.slice va ac.length vc)
  obtain ⟨e0, e1, e2, e3, e4, e5⟩ := b5.cells
  refine bodyPost_ret (v := .agg #[.int .i64 ba, .string wi, .int .i64 ex, .string de, .slice ua ps.length uc, .slice va ac.length vc]) (by simp only [results, Tryd.results8]; first | (simp [go_sem, e0, e1, e2, e3, e4, e5]; done) | (simp [results, Tryd.results8, go_sem, b0.cells.1, b1.cells.2.1, b2.cells.2.2.1, b3.cells.2.2.2.1, b4.cells.2.2.2.2.1, b5.cells.2.2.2.2.2])) rfl ?_
  refine ⟨_, _, bs, cs, rfl, HO3.out.same elP_flat ?_, HO2.out.same elI_flat ?_, ?_, ?_, ?_⟩
  · repeat (refine Same.setCell ?_ (fun b h => by have := HG3.out b h; simp; omega) _)
    exact Same.refl _ _
  · repeat (refine Same.setCell ?_ (fun b h => by have := HG4.out b h; simp; omega) _)
    exact Same.refl _ _
  · intro b h
    rcases List.mem_append.1 h with h | h
    · have := HG3.out b h; omega
    · have := HG4.out b h; omega
  · refine List.nodup_append.2 ⟨hnd, hnd2, fun x hx y hy => ?_⟩
    have := HG3.out x hx
    have := HG4.out y hy
    omega
  · repeat (refine Below.setCell ?_ (by first | (simp; done) | (simp; omega)) _)
    exact hB2

set_option maxHeartbeats 800000 in
/-- eqIntS at two rows that read alike. -/
theorem eqIs (l : List Int) (w : World) (u v : Value) (hu : SlG elI w u l) (hv : SlG elI w v l) :
    Calls Tryd.prog 29 #[u, v] w fun e w' => e = .returned (.bool true) ∧ Below w.heap.size w w' := by
  obtain ⟨a, cap, rfl, hlen, hat⟩ := hu.at
  obtain ⟨a', cap', rfl, _, hat'⟩ := hv.at
  have HA := hide hat
  have HA' := hide hat'
  clear hu hv hat hat'
  unfold maxLen at hlen
  go_enter Tryd.func29, Tryd.ntmps29
  go_wp2_with fail
  go_loopw [5] (fun iv wr => ∃ (g : List Int) (k : Nat), k + g.length = l.length ∧ iv = .int .i64 k ∧ AtG elI w a k g ∧ AtG elI w a' k g ∧ Below w.heap.size w wr) (fun iv _ => l.length - (intOf iv).toNat)
  case atStart => exact ⟨l, 0, by omega, rfl, HA.out, HA'.out, Below.refl _ _⟩
  case round =>
    obtain ⟨g, k, hk, rfl, h6, h7, hb⟩ := hrel
    cases g with
    | nil =>
      have H5 : Hid (k = l.length) := by unfold Hid; simpa using hk
      have hge : l.length ≤ k := Nat.le_of_eq H5.out.symm
      clear hk
      go_wp2_with fail
      go_ret
      exact ⟨rfl, hb⟩
    | cons s rest =>
      have HK : Hid (k + 1 + rest.length = l.length) := by unfold Hid; simp only [List.length_cons] at hk; omega
      have hlt : k < l.length := by have := HK.out; omega
      obtain ⟨b, o, rfl, l1, c0⟩ := AtI.head (h6.still (Still.of_below hb))
      obtain ⟨b', o', rfl, -, d0⟩ := AtI.head (h7.still (Still.of_below hb))
      have HRE := hide h6.tail
      have HRE' := hide h7.tail
      clear hk h6 h7
      go_wp2_with fail
      go_quiet (fail)
      go_wp2_with fail
      go_roundw
      case rel => exact ⟨rest, k + 1, by have := HK.out; omega, by go_num, HRE.out, HRE'.out, ⟨hb.os, hb.tape, hb.output, hb.size, hb.block⟩⟩
      case measure => simp [intOf]; omega

set_option maxHeartbeats 800000 in
/-- eqLink at two links that read alike. -/
theorem eq_link (w : World) (ba ex : Int) (wi de : ByteArray) (ps : List Pkt) (ac : List Int) (pu au pv av : Value) (hpu : SlG elP w pu ps) (hau : SlG elI w au ac) (hpv : SlG elP w pv ps) (hav : SlG elI w av ac) :
    Calls Tryd.prog 10 #[.agg #[.int .i64 ba, .string wi, .int .i64 ex, .string de, pu, au], .agg #[.int .i64 ba, .string wi, .int .i64 ex, .string de, pv, av]] w fun e w' => e = .returned (.bool true) ∧ Below w.heap.size w w' := by
  obtain ⟨pa, pc, rfl, -, -⟩ := hpu.at
  obtain ⟨pa', pc', rfl, -, -⟩ := hpv.at
  obtain ⟨qa, qc, rfl, -, -⟩ := hau.at
  obtain ⟨qa', qc', rfl, -, -⟩ := hav.at
  have hB := (alloc_below w (.cells #[.int .i64 ba, .string wi, .int .i64 ex, .string de, .slice pa ps.length pc, .slice qa ac.length qc] ( /- t -/ 30))).alloc (by simp) (.cells #[.int .i64 ba, .string wi, .int .i64 ex, .string de, .slice pa' ps.length pc', .slice qa' ac.length qc'] ( /- t -/ 30))
  have HU := hide (hpu.still (Still.of_below hB))
  have HV := hide (hpv.still (Still.of_below hB))
  have HUq := hide (hau.still (Still.of_below hB))
  have HVq := hide (hav.still (Still.of_below hB))
  clear hpu hau hpv hav
  go_enter Tryd.func10, Tryd.ntmps10
  go_wp2_with fail
  refine (eqPs ps _ _ _ HU.out HV.out).mono ?_
  rintro e w1 ⟨rfl, hb⟩
  have hb2 := hB.trans (hb.mono (by simp; omega))
  have hx1 := (((Box6.now w (.int .i64 ba) (.string wi) (.int .i64 ex) (.string de) (.slice pa ps.length pc) (.slice qa ac.length qc) ( /- t -/ 30)).below (alloc_below _ (.cells #[.int .i64 ba, .string wi, .int .i64 ex, .string de, .slice pa' ps.length pc', .slice qa' ac.length qc'] ( /- t -/ 30)))).below hb)
  have hx2 := ((Box6.now (w.alloc (.cells #[.int .i64 ba, .string wi, .int .i64 ex, .string de, .slice pa ps.length pc, .slice qa ac.length qc] ( /- t -/ 30))) (.int .i64 ba) (.string wi) (.int .i64 ex) (.string de) (.slice pa' ps.length pc') (.slice qa' ac.length qc') ( /- t -/ 30)).below hb)
  rw [show (w.alloc (.cells #[.int .i64 ba, .string wi, .int .i64 ex, .string de, .slice pa ps.length pc, .slice qa ac.length qc] ( /- t -/ 30))).heap.size = w.heap.size + 1 from by simp] at hx2
  have hl1 := hx1.lt
  have hl2 := hx2.lt
  obtain ⟨-, -, -, -, -, d1⟩ := hx1.cells
  obtain ⟨-, -, -, -, -, d2⟩ := hx2.cells
  have HUq1 := hide (HUq.out.still (Still.of_below hb))
  have HVq1 := hide (HVq.out.still (Still.of_below hb))
  clear hb hB hx1 hx2
  go_wp2_with fail
  refine (eqIs ac _ _ _ HUq1.out HVq1.out).mono ?_
  rintro e w2 ⟨rfl, hb⟩
  have hb3 := hb2.trans (hb.mono hb2.size)
  clear hb
  go_wp2_with fail
  go_ret
  exact ⟨rfl, hb3⟩

/-- A link in box b: what its slices read as. -/
structure LA (b : Nat) (m : Lnk) (pv av : Value) (W : World) : Prop where
  box : Box6 W b (.int .i64 m.ba) (.string m.wi) (.int .i64 m.ex) (.string m.de) pv av
  sp : SlG elP W pv m.ps
  sa : SlG elI W av m.ac
theorem LA.go {b : Nat} {m : Lnk} {pv av : Value} {W W' : World} (h : LA b m pv av W) (hb : Below W.heap.size W W') : LA b m pv av W' :=
  ⟨h.box.below hb, h.sp.still (Still.of_below hb), h.sa.still (Still.of_below hb)⟩
theorem LA.drew {b : Nat} {m : Lnk} {pv av : Value} {W : World} (h : LA b m pv av W) : LA b m pv av W.drew :=
  ⟨h.box.drew, h.sp.still (still_drew W), h.sa.still (still_drew W)⟩
/-- A link whose memory is the call's own. -/
structure LO (m : Lnk) (u v : Value) (bs cs : List Nat) (W : World) : Prop where
  op : OwG elP W u m.ps bs
  oa : OwG elI W v m.ac cs
theorem LO.go {m : Lnk} {u v : Value} {bs cs : List Nat} {W W' : World} (h : LO m u v bs cs W) (hb : Below W.heap.size W W') : LO m u v bs cs W' :=
  ⟨h.op.same elP_flat (Same.of_below hb h.op.lt), h.oa.same elI_flat (Same.of_below hb h.oa.lt)⟩
theorem LO.vals {m : Lnk} {u v : Value} {bs cs : List Nat} {W : World} (h : LO m u v bs cs W) : ∃ a c a' c', u = .slice a m.ps.length c ∧ v = .slice a' m.ac.length c' := by
  obtain ⟨a, c, e⟩ := h.op.val
  obtain ⟨a', c', e'⟩ := h.oa.val
  exact ⟨a, c, a', c', e, e'⟩

section
variable {H : Type} {enc : TypeId × Value → H} {W : World} {sp : Nat → Bool}
theorem Tryd.cells_int : Tryd.prog.cellsOf ( /- t -/ 3) = 1 := by kernel_rfl
theorem Tryd.cells_strK : Tryd.prog.cellsOf ( /- t -/ 9) = 1 := by kernel_rfl
theorem Tryd.cells_pkt : Tryd.prog.cellsOf ( /- t -/ 67) = 2 := by kernel_rfl
theorem Tryd.cells_pkts : Tryd.prog.cellsOf ( /- t -/ 22) = 1 := by kernel_rfl
theorem Tryd.cells_ints : Tryd.prog.cellsOf ( /- t -/ 23) = 1 := by kernel_rfl
theorem Tryd.cells_link : Tryd.prog.cellsOf ( /- t -/ 25) = 6 := by kernel_rfl

set_option maxRecDepth 100000 in
theorem open_packet {fuel : Nat} {cs : List Value} {x : DataW H × List MemPlace} (h : DataW.trod enc Tryd.prog W 0 sp true fuel ( /- t -/ 67) cs = some x) :
    ∃ (q : Int) (l : ByteArray), cs = [.int .i64 q, .string l] ∧ (Lit.int .i64 q).wf = true ∧ l.size ≤ maxLen := by
  obtain ⟨xs, n, rfl, -, hlen, hxl, hf⟩ := DataW.trod_struct Tryd.underlying67 h
  rw [Tryd.cells_pkt] at hlen
  match cs, hlen, xs, hxl with
  | [c0, c1], _, [x0, x1], _ =>
    have g0 : DataW.trod enc Tryd.prog W 0 sp true n ( /- t -/ 3) (([c0, c1].drop 0).take (Tryd.prog.cellsOf ( /- t -/ 3))) = some x0 := hf 0 _ rfl
    have g1 : DataW.trod enc Tryd.prog W 0 sp true n ( /- t -/ 9) (([c0, c1].drop 1).take (Tryd.prog.cellsOf ( /- t -/ 9))) = some x1 := hf 1 _ rfl
    simp only [Tryd.cells_int, Tryd.cells_strK] at g0 g1
    obtain ⟨q, e0, -, w0⟩ := DataW.trod_int Tryd.underlying3 g0
    obtain ⟨l, e1, -, w1⟩ := DataW.trod_string Tryd.underlying9 g1
    simp at e0 e1
    subst e0 e1
    exact ⟨q, l, rfl, w0, w1⟩
theorem open_packets {fuel : Nat} {sv : Value} {x : DataW H × List MemPlace} (h : DataW.trod enc Tryd.prog W 0 sp true fuel ( /- t -/ 22) [sv] = some x) : ∃ l, SlG elP W sv l := by
  refine open_rows (E := elP) (by decide) Tryd.underlying22 (by exact Tryd.cells_pkt) (fun fuel cs x hx hl b o hc => ?_) h
  obtain ⟨q, l, rfl, w0, w1⟩ := open_packet hx
  exact ⟨⟨q, l⟩, w0, w1, hc 0 (by decide), hc 1 (by decide)⟩
theorem open_numbers {fuel : Nat} {sv : Value} {x : DataW H × List MemPlace} (h : DataW.trod enc Tryd.prog W 0 sp true fuel ( /- t -/ 23) [sv] = some x) : ∃ l, SlG elI W sv l := by
  refine open_rows (E := elI) (by decide) Tryd.underlying23 (by exact Tryd.cells_int) (fun fuel cs x hx hl b o hc => ?_) h
  obtain ⟨q, rfl, -, w0⟩ := DataW.trod_int Tryd.underlying3 hx
  exact ⟨q, w0, hc 0 (by decide)⟩

set_option maxRecDepth 100000 in
/-- An argument of the type laws.Link. -/
theorem open_link {b0 : Nat} {v : Value} {d : DataW H} {p : List MemPlace} (hv : Value.okWide Tryd.prog W .any b0 ( /- t -/ 25) v) (h : DataW.Trod enc Tryd.prog W 0 sp true ( /- t -/ 25) v d p) :
    ∃ (m : Lnk) (pv av : Value), v = .agg #[.int .i64 m.ba, .string m.wi, .int .i64 m.ex, .string m.de, pv, av] ∧ SlG elP W pv m.ps ∧ SlG elI W av m.ac ∧ m.Fit := by
  obtain ⟨cs, rfl, hsz⟩ := okWide_struct Tryd.underlying25 hv
  obtain ⟨fuel, hf⟩ := h
  obtain ⟨xs, n, rfl, -, hlen, hxl, hf⟩ := DataW.trod_struct Tryd.underlying25 hf
  rw [Tryd.cells_link] at hlen
  obtain ⟨l⟩ := cs
  simp only [Value.cells] at hlen hf
  match l, hlen, xs, hxl with
  | [c0, c1, c2, c3, c4, c5], _, [x0, x1, x2, x3, x4, x5], _ =>
    have g0 : DataW.trod enc Tryd.prog W 0 sp true n ( /- t -/ 3) (([c0, c1, c2, c3, c4, c5].drop 0).take (Tryd.prog.cellsOf ( /- t -/ 3))) = some x0 := hf 0 _ rfl
    have g1 : DataW.trod enc Tryd.prog W 0 sp true n ( /- t -/ 9) (([c0, c1, c2, c3, c4, c5].drop 1).take (Tryd.prog.cellsOf ( /- t -/ 9))) = some x1 := hf 1 _ rfl
    have g2 : DataW.trod enc Tryd.prog W 0 sp true n ( /- t -/ 3) (([c0, c1, c2, c3, c4, c5].drop 2).take (Tryd.prog.cellsOf ( /- t -/ 3))) = some x2 := hf 2 _ rfl
    have g3 : DataW.trod enc Tryd.prog W 0 sp true n ( /- t -/ 9) (([c0, c1, c2, c3, c4, c5].drop 3).take (Tryd.prog.cellsOf ( /- t -/ 9))) = some x3 := hf 3 _ rfl
    have g4 : DataW.trod enc Tryd.prog W 0 sp true n ( /- t -/ 22) (([c0, c1, c2, c3, c4, c5].drop 4).take (Tryd.prog.cellsOf ( /- t -/ 22))) = some x4 := hf 4 _ rfl
    have g5 : DataW.trod enc Tryd.prog W 0 sp true n ( /- t -/ 23) (([c0, c1, c2, c3, c4, c5].drop 5).take (Tryd.prog.cellsOf ( /- t -/ 23))) = some x5 := hf 5 _ rfl
    simp only [Tryd.cells_int, Tryd.cells_strK, Tryd.cells_pkts, Tryd.cells_ints] at g0 g1 g2 g3 g4 g5
    obtain ⟨ba, e0, -, w0⟩ := DataW.trod_int Tryd.underlying3 g0
    obtain ⟨wi, e1, -, w1⟩ := DataW.trod_string Tryd.underlying9 g1
    obtain ⟨ex, e2, -, w2⟩ := DataW.trod_int Tryd.underlying3 g2
    obtain ⟨de, e3, -, w3⟩ := DataW.trod_string Tryd.underlying9 g3
    obtain ⟨ps, hp⟩ := open_packets (show DataW.trod enc Tryd.prog W 0 sp true n ( /- t -/ 22) [c4] = some x4 from g4)
    obtain ⟨ac, ha⟩ := open_numbers (show DataW.trod enc Tryd.prog W 0 sp true n ( /- t -/ 23) [c5] = some x5 from g5)
    simp at e0 e1 e2 e3
    subst e0 e1 e2 e3
    exact ⟨⟨ba, wi, ex, de, ps, ac⟩, c4, c5, rfl, hp, ha, w1, w3, w0, w2⟩
end
end Go.Proofs.YtmkjipnemapdeaaDoor.Tk
