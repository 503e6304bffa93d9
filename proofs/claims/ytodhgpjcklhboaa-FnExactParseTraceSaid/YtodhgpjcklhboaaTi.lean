/- ParseTrace of the program. -/
import Derived.Test.YtodhgpjcklhboaaTr
import Derived.Test.YtodhgpjcklhboaaAi
import Derived.Deep.RegionHeld3
namespace Go.Proofs.Ytodhgpjcklhboaa.Lo.Ne
open Go.RowKit

theorem role_nil : roleB (bs []) = false := by
  unfold roleB
  rw [ByteArray.toList_eq]
  rfl
theorem letR_ok {c : UInt8} (h : roleB (letR c) = true) : letR c = bs [c] ∧ roleB (bs [c]) = true := by
  unfold letR at h ⊢
  split at h
  · rename_i h1
    exact ⟨if_pos h1, h1⟩
  · rw [role_nil] at h
    cases h
theorem letL_ok {c : UInt8} (h : labB (letL c) = true) : letL c = bs [c] ∧ labB (bs [c]) = true := by
  unfold letL at h ⊢
  split at h
  · rename_i h1
    exact ⟨if_pos h1, h1⟩
  · exact absurd h (by decide)
theorem letR_zero : roleB (letR 0) = false := by
  have : roleB (bs [0]) = false := by
    unfold roleB
    rw [ByteArray.toList_eq]
    rfl
  unfold letR
  rw [this]
  exact role_nil
theorem letL_zero : labB (letL 0) = false := rfl
theorem let_actOf {c0 c1 c2 c3 : UInt8} (h : okA ⟨letR c0, c1 == 63, letR c2, letL c3⟩ = true) : (⟨letR c0, c1 == 63, letR c2, letL c3⟩ : Act) = actOf c0 c1 c2 c3 := by
  unfold okA at h
  simp only [Bool.and_eq_true] at h
  unfold actOf
  rw [(letR_ok h.1).1, (letR_ok h.2.1).1, (letL_ok h.2.2.2).1]
theorem actOf_let {c0 c1 c2 c3 : UInt8} (h : okA (actOf c0 c1 c2 c3) = true) : (⟨letR c0, c1 == 63, letR c2, letL c3⟩ : Act) = actOf c0 c1 c2 c3 := by
  unfold okA actOf at h
  simp only [Bool.and_eq_true] at h
  unfold actOf letR letL
  rw [if_pos h.1, if_pos h.2.1, if_pos h.2.2.2]

/-- What readAction reads: the action, whether it is one. -/
def raA (s : List UInt8) : Act := ⟨letR (hdB s), hdB s.tail == 63, letR (hdB s.tail.tail), letL (hdB s.tail.tail.tail)⟩
def raM (s : List UInt8) : Bool := hdB s.tail == 63 || hdB s.tail == 33
def raOk (s : List UInt8) : Bool := raM s && (okA (raA s) && nxt s.tail.tail.tail.tail 32)
theorem raA_small (s : List UInt8) : (raA s).small := by
  have hR : ∀ c, (letR c).size ≤ 1 := fun c => by unfold letR; split <;> simp [bs_size]
  have hL : ∀ c, (letL c).size ≤ 1 := fun c => by unfold letL; split <;> simp [bs_size]
  unfold raA Act.small maxLen
  exact ⟨Nat.le_trans (hR _) (by omega), Nat.le_trans (hR _) (by omega), Nat.le_trans (hL _) (by omega)⟩
theorem pT_five (c0 c1 c2 c3 c4 : UInt8) (rest : List UInt8) : pT (c0 :: c1 :: c2 :: c3 :: c4 :: rest) = if okC c0 c1 c2 c3 c4 then (pT rest).map (actOf c0 c1 c2 c3 :: ·) else none := rfl
theorem ra_yes {s : List UInt8} (h : raOk s = true) : pT s = (pT s.tail.tail.tail.tail.tail).map (raA s :: ·) ∧ s.tail.tail.tail.tail.tail.length < s.length := by
  unfold raOk raM at h
  simp only [Bool.and_eq_true] at h
  obtain ⟨h1, h2, h3⟩ := h
  match s with
  | [] =>
    unfold raA okA at h2
    simp [hdB, letR_zero] at h2
  | [c0] => simp [hdB] at h1
  | [c0, c1] =>
    unfold raA okA at h2
    simp [hdB, letR_zero] at h2
  | [c0, c1, c2] =>
    unfold raA okA at h2
    simp [hdB, letL_zero] at h2
  | [c0, c1, c2, c3] => simp [nxt] at h3
  | c0 :: c1 :: c2 :: c3 :: c4 :: rest =>
    have e : (⟨letR c0, c1 == 63, letR c2, letL c3⟩ : Act) = actOf c0 c1 c2 c3 := let_actOf h2
    have e2 : raA (c0 :: c1 :: c2 :: c3 :: c4 :: rest) = actOf c0 c1 c2 c3 := e
    have hok : okC c0 c1 c2 c3 c4 = true := by
      unfold okC
      rw [← e2]
      simp only [Bool.and_eq_true]
      exact ⟨h1, h2, h3⟩
    refine ⟨?_, by simp; omega⟩
    rw [pT_five, if_pos hok, e2]
    rfl
theorem ra_no {s : List UInt8} (hs : s ≠ []) (h : raOk s = false) : pT s = none := by
  match s, hs with
  | [c0], _ => rfl
  | [c0, c1], _ => rfl
  | [c0, c1, c2], _ => rfl
  | [c0, c1, c2, c3], _ => rfl
  | c0 :: c1 :: c2 :: c3 :: c4 :: rest, _ =>
    rw [pT_five, if_neg]
    intro hok
    unfold okC at hok
    simp only [Bool.and_eq_true] at hok
    have e := actOf_let hok.2.1
    have : raOk (c0 :: c1 :: c2 :: c3 :: c4 :: rest) = true := by
      unfold raOk raM
      simp only [Bool.and_eq_true]
      refine ⟨hok.1, ?_, hok.2.2⟩
      unfold raA
      show okA ⟨letR c0, c1 == 63, letR c2, letL c3⟩ = true
      rw [e]
      exact hok.2.1
    rw [this] at h
    cases h

def raPost (c : Nat) (s : List UInt8) (w : World) (e : Ending) (w' : World) : Prop :=
  e = .returned (.tuple #[.agg (raA s).cells.toArray, .bool (raOk s)]) ∧ Only c w w' ∧ (raOk s = true → Rd w' c s.tail.tail.tail.tail.tail)

theorem box4_only {w w' : World} {c b : Nat} {v0 v1 v2 v3 : Value} (h : Box4 w b v0 v1 v2 v3) (ho : Only c w w') (hne : b ≠ c) : Box4 w' b v0 v1 v2 v3 := h.same (ho.block b h.lt hne)
theorem tail_le (s : List UInt8) : s.tail.length ≤ s.length := by cases s <;> simp

theorem rd_skip32 (w : World) (c : Nat) (s : List UInt8) (hs : s.length ≤ 1048576) (h : Rd w c s) :
    Calls Try.prog 71 #[.pointer (some ⟨c, 0, none⟩), .int .u8 32] w fun e w' => e = .returned (.bool (nxt s 32)) ∧ Rd w' c (if nxt s 32 then s.tail else s) ∧ Only c w w' :=
  rd_skip w c s 32 hs h
theorem only_set4 {c : Nat} {w w' : World} (h : Only c w w') (u0 u1 u2 u3 : Value) : Only c w ((((w'.setCell ⟨w.heap.size, 0, none⟩ u0).setCell ⟨w.heap.size, 1, none⟩ u1).setCell ⟨w.heap.size, 2, none⟩ u2).setCell ⟨w.heap.size, 3, none⟩ u3) :=
  (((h.setCell (Or.inr (Nat.le_refl _)) u0).setCell (Or.inr (Nat.le_refl _)) u1).setCell (Or.inr (Nat.le_refl _)) u2).setCell (Or.inr (Nat.le_refl _)) u3
theorem rd_set4 {w' : World} {b c : Nat} {s : List UInt8} (h : Rd w' c s) (hne : b ≠ c) (u0 u1 u2 u3 : Value) : Rd ((((w'.setCell ⟨b, 0, none⟩ u0).setCell ⟨b, 1, none⟩ u1).setCell ⟨b, 2, none⟩ u2).setCell ⟨b, 3, none⟩ u3) c s := by
  refine h.same ?_
  repeat rw [Below.heap_setCell _ _ _ _ (by exact hne.symm)]

set_option maxHeartbeats 1600000 in
set_option maxRecDepth 100000 in
/-- readAction. -/
theorem rd_action (w : World) (c : Nat) (s : List UInt8) (hs : s.length ≤ 1048576) (h : Rd w c s) :
    Calls Try.prog 66 #[.pointer (some ⟨c, 0, none⟩)] w (raPost c s w) := by
  have hb := alloc_below w (.cells #[.string ⟨#[]⟩, .bool false, .string ⟨#[]⟩, .string ⟨#[]⟩] ( /- t -/ 91))
  have H := hide (h.below hb)
  have HX := hide (Box4.now w (.string ⟨#[]⟩) (.bool false) (.string ⟨#[]⟩) (.string ⟨#[]⟩) ( /- t -/ 91))
  have HO := hide ((Only.refl c w).below hb)
  have hcw : w.heap.size ≠ c := by have := h.lt; omega
  have t1 := tail_le s
  have t2 := tail_le s.tail
  have t3 := tail_le s.tail.tail
  have t4 := tail_le s.tail.tail.tail
  have HT := hide (And.intro (show s.tail.length ≤ 1048576 by omega) (And.intro (show s.tail.tail.length ≤ 1048576 by omega) (And.intro (show s.tail.tail.tail.length ≤ 1048576 by omega) (show s.tail.tail.tail.tail.length ≤ 1048576 by omega))))
  clear h hb t1 t2 t3 t4
  go_enter Try.func66, Try.ntmps66
  go_wp2_with fail
  generalize w.alloc (.cells #[.string ⟨#[]⟩, .bool false, .string ⟨#[]⟩, .string ⟨#[]⟩] ( /- t -/ 91)) = W at *
  refine (rd_role W c s hs H.out).mono ?_
  rintro e w1 ⟨rfl, hr, ho⟩
  have HX1 := hide (box4_only HX.out ho hcw)
  have HO1 := hide (HO.out.trans ho)
  have H1 := hide hr
  clear hr ho
  go_wp2_with fail
  refine (rd_mark w1 c _ HT.out.1 H1.out).mono ?_
  rintro e w2 ⟨rfl, hr, ho⟩
  have HX2 := hide (box4_only HX1.out ho hcw)
  have HO2 := hide (HO1.out.trans ho)
  have H2 := hide hr
  clear hr ho
  go_wp2_with fail
  refine (rd_role w2 c _ HT.out.2.1 H2.out).mono ?_
  rintro e w3 ⟨rfl, hr, ho⟩
  have HX3 := hide (box4_only HX2.out ho hcw)
  have HO3 := hide (HO2.out.trans ho)
  have H3 := hide hr
  clear hr ho
  go_wp2_with fail
  refine (rd_lab w3 c _ HT.out.2.2.1 H3.out).mono ?_
  rintro e w4 ⟨rfl, hr, ho⟩
  have HX4 := hide (box4_only HX3.out ho hcw)
  have HO4 := hide (HO3.out.trans ho)
  have H4 := hide hr
  have hb5 := alloc_below w4 (.cells #[.string (letR (hdB s)), .bool (hdB s.tail == 63), .string (letR (hdB s.tail.tail)), .string (letL (hdB s.tail.tail.tail))] ( /- t -/ 91))
  have HA := hide (Box4.now w4 (.string (letR (hdB s))) (.bool (hdB s.tail == 63)) (.string (letR (hdB s.tail.tail))) (.string (letL (hdB s.tail.tail.tail))) ( /- t -/ 91))
  have HX5 := hide (HX4.out.below hb5)
  have HO5 := hide (HO4.out.below hb5)
  have H5 := hide (H4.out.below hb5)
  have hca : w4.heap.size ≠ c := by have := H4.out.lt; omega
  have hwa : w.heap.size ≠ w4.heap.size := by have := HX4.out.lt; omega
  clear hr ho hb5
  go_wp2_with fail
  generalize w4.alloc (.cells #[.string (letR (hdB s)), .bool (hdB s.tail == 63), .string (letR (hdB s.tail.tail)), .string (letL (hdB s.tail.tail.tail))] ( /- t -/ 91)) = W5 at *
  rw [show (hdB s.tail == 63 || hdB s.tail == 33) = raM s from rfl]
  have hP : ∀ (b : Bool) (w' : World), raOk s = b → Only c w w' → (b = true → Rd w' c s.tail.tail.tail.tail.tail) → raPost c s w (.returned (.tuple #[.agg #[.string (letR (hdB s)), .bool (hdB s.tail == 63), .string (letR (hdB s.tail.tail)), .string (letL (hdB s.tail.tail.tail))], .bool b])) w' := by
    rintro b w' rfl h1 h2
    exact ⟨rfl, h1, h2⟩
  have HP := hide hP
  have hOKA : okA (raA s) = okA ⟨letR (hdB s), hdB s.tail == 63, letR (hdB s.tail.tail), letL (hdB s.tail.tail.tail)⟩ := rfl
  have HOKA := hide hOKA
  clear hP hOKA
  generalize hv1 : letR (hdB s) = v1 at *
  generalize hv2 : (hdB s.tail == 63) = v2 at *
  generalize hv3 : letR (hdB s.tail.tail) = v3 at *
  generalize hv4 : letL (hdB s.tail.tail.tail) = v4 at *
  clear hv1 hv2 hv3 hv4
  obtain ⟨y0, y1, y2, y3⟩ := HX5.out.cells
  have hfr := box4_frozen HX5.out
  have hyl := HX5.out.lt
  obtain ⟨a0, a1, a2, a3⟩ := HA.out.cells
  have HC := hide (And.intro hcw (And.intro hca hwa))
  cases hm : raM s with
  | false =>
    have HM := hide hm
    clear hm
    go_region
    go_wp2_with fail
    refine bodyPost_ret (v := .tuple #[.agg #[.string v1, .bool v2, .string v3, .string v4], .bool false]) (by simp [results, Try.results66, go_sem, *]) rfl ?_
    exact HP.out false _ (by unfold raOk; rw [HM.out]; rfl) (only_set4 (by first | exact HO5.out.drew | exact HO5.out | exact ⟨HO5.out.os, HO5.out.tape, HO5.out.output, HO5.out.size, HO5.out.block⟩) _ _ _ _) (fun h => by cases h)
  | true =>
    have HM := hide hm
    clear hm
    cases hw : okA ⟨v1, v2, v3, v4⟩ with
    | false =>
      have HWF := hide hw
      clear hw
      first
      | go_loud (go_region_with (first
          | (go_at_call 60; refine (implAct _ v1 v3 v4 v2).mono ?_; rintro e w6 ⟨rfl, hb6⟩; rw [HWF.out]; (have HX6 := hide (HX5.out.drew.below hb6)); (have HA6 := hide (HA.out.drew.below hb6)); (obtain ⟨z0, z1, z2, z3⟩ := HX6.out.cells); (have hf6 := box4_frozen HX6.out); (have hy6 := HX6.out.lt); (obtain ⟨d0, d1, d2, d3⟩ := HA6.out.cells))))
      | skip
      all_goals
        go_wp2_with fail
        refine bodyPost_ret (v := .tuple #[.agg #[.string v1, .bool v2, .string v3, .string v4], .bool false]) (by simp [results, Try.results66, go_sem, *]) rfl ?_
        exact HP.out false _ (by unfold raOk; rw [HM.out, HOKA.out, HWF.out]; rfl) (only_set4 (HO5.out.drew.below hb6) _ _ _ _) (fun h => by cases h)
    | true =>
      have HWF := hide hw
      clear hw
      first
      | go_loud (go_region_with (first
          | (go_at_call 60; refine (implAct _ v1 v3 v4 v2).mono ?_; rintro e w6 ⟨rfl, hb6⟩; rw [HWF.out]; (have HX6 := hide (HX5.out.drew.below hb6)); (have HA6 := hide (HA.out.drew.below hb6)); (obtain ⟨z0, z1, z2, z3⟩ := HX6.out.cells); (have hf6 := box4_frozen HX6.out); (have hy6 := HX6.out.lt); (obtain ⟨d0, d1, d2, d3⟩ := HA6.out.cells))
          | (go_at_call 71; refine (rd_skip32 w6 c _ HT.out.2.2.2 (H5.out.drew.below hb6)).mono ?_; rintro e w7 ⟨rfl, hr7, ho7⟩; (have HX7 := hide (box4_only HX6.out ho7 HC.out.1)); (have HA7 := hide (box4_only HA6.out ho7 HC.out.2.1)); (obtain ⟨z0, z1, z2, z3⟩ := HX7.out.cells); (have hf7 := box4_frozen HX7.out); (have hy7 := HX7.out.lt); (obtain ⟨d0, d1, d2, d3⟩ := HA7.out.cells); (have HR7 := hide hr7); (clear hr7))))
      | skip
      all_goals
        go_wp2_with fail
        refine bodyPost_ret (v := .tuple #[.agg #[.string v1, .bool v2, .string v3, .string v4], .bool (nxt s.tail.tail.tail.tail 32)]) (by simp [results, Try.results66, go_sem, *]) rfl ?_
        refine HP.out _ _ (by unfold raOk; rw [HM.out, HOKA.out, HWF.out]; rfl) (only_set4 ((HO5.out.drew.below hb6).trans ho7) _ _ _ _) (fun h => ?_)
        have h8 := HR7.out
        rw [if_pos h] at h8
        exact rd_set4 h8 HC.out.1 _ _ _ _
end Go.Proofs.Ytodhgpjcklhboaa.Lo.Ne
