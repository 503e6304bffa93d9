/- The text of a trace; well-formed actions; FormatTrace of the model. -/
import Derived.Test.YtodhgpjcklhboaaAc
import Derived.Test.YtodhgpjcklhboaaIs
import Derived.Deep.QuietTactic
import Derived.BigQuiet
import Derived.RegionTactic
namespace Go.Proofs.Ytodhgpjcklhboaa.Lo.Ne
open Go.RowKit

def okA (a : Act) : Bool := roleB a.r && (roleB a.p && ((a.r.toList != a.p.toList) && labB a.l))
def markB (rc : Bool) : ByteArray := if rc then ⟨#[63]⟩ else ⟨#[33]⟩
def bsp : ByteArray := ⟨#[32]⟩
def txA (a : Act) : ByteArray := a.r ++ markB a.rc ++ a.p ++ a.l ++ bsp
def txT : List Act → ByteArray
  | [] => ⟨#[]⟩
  | a :: r => txA a ++ txT r
def okT (l : List Act) : Bool := l.all okA && decide (l.length ≤ 24)
def textT (l : List Act) : ByteArray := if okT l then txT l else ⟨#[]⟩

theorem role_q (s : ByteArray) (v : Bool) (h : roleB s = v) (w : World) : Calls Try.prog 103 #[.string s] w fun e w' => e = .returned (.bool v) ∧ w' = w :=
  (specRole s w).mono fun _ _ ⟨h1, h2⟩ => ⟨by rw [h1, h], h2.symm⟩
theorem lab_q (s : ByteArray) (v : Bool) (h : labB s = v) (w : World) : Calls Try.prog 104 #[.string s] w fun e w' => e = .returned (.bool v) ∧ w' = w :=
  (specLab s w).mono fun _ _ ⟨h1, h2⟩ => ⟨by rw [h1, h], h2.symm⟩

set_option maxHeartbeats 800000 in
/-- l5Action of the model. -/
theorem specAct (w : World) (r p l : ByteArray) (rc : Bool) :
    Calls Try.prog 88 #[.agg #[.string r, .bool rc, .string p, .string l]] w fun e w' => e = .returned (.bool (okA ⟨r, rc, p, l⟩)) ∧ Below w.heap.size w w' := by
  generalize hok : okA ⟨r, rc, p, l⟩ = ok
  unfold okA at hok
  have HO := hide hok
  clear hok
  cases hr : roleB r with
  | false =>
    have H1 := hide hr
    go_enter Try.func88, Try.ntmps88
    go_wp2_with (first | (go_at_call 103; refine (specRole _ _).mono ?_; rintro e w' ⟨rfl, rfl⟩) | (go_at_call 104; refine (specLab _ _).mono ?_; rintro e w' ⟨rfl, rfl⟩))
    go_ret
    exact ⟨ret_bool (by rw [← HO.out, H1.out, Bool.false_and]), alloc_below _ _⟩
  | true =>
  have H1 := hide hr
  cases hp : roleB p with
  | false =>
    have H2 := hide hp
    go_enter Try.func88, Try.ntmps88
    go_wp2_with (first | (go_at_call 103; refine (specRole _ _).mono ?_; rintro e w' ⟨rfl, rfl⟩) | (go_at_call 104; refine (specLab _ _).mono ?_; rintro e w' ⟨rfl, rfl⟩))
    go_ret
    exact ⟨ret_bool (by rw [← HO.out, H1.out, H2.out]; rfl), alloc_below _ _⟩
  | true =>
  have H2 := hide hp
  by_cases he : r.toList = p.toList
  · have H3 := hide he
    have he2 : (r.toList != p.toList) = false := by rw [he]; simp
    have H4 := hide he2
    go_enter Try.func88, Try.ntmps88
    go_wp2_with (first | (go_at_call 103; refine (specRole _ _).mono ?_; rintro e w' ⟨rfl, rfl⟩) | (go_at_call 104; refine (specLab _ _).mono ?_; rintro e w' ⟨rfl, rfl⟩))
    go_ret
    exact ⟨ret_bool (by rw [← HO.out, H1.out, H2.out, H4.out]; rfl), alloc_below _ _⟩
  · have he2 : (r.toList != p.toList) = true := bne_iff_ne.2 he
    have H4 := hide he2
    go_enter Try.func88, Try.ntmps88
    go_wp2_with (first | (go_at_call 103; refine (specRole _ _).mono ?_; rintro e w' ⟨rfl, rfl⟩) | (go_at_call 104; refine (specLab _ _).mono ?_; rintro e w' ⟨rfl, rfl⟩))
    go_ret
    exact ⟨ret_bool (by rw [← HO.out, H1.out, H2.out]; show ((r.toList != p.toList) && labB l) = (true && (true && ((r.toList != p.toList) && labB l))); rw [H4.out]; rfl), alloc_below _ _⟩

set_option maxHeartbeats 800000 in
/-- wellFormed of the program. -/
theorem implAct (w : World) (r p l : ByteArray) (rc : Bool) :
    Calls Try.prog 60 #[.agg #[.string r, .bool rc, .string p, .string l]] w fun e w' => e = .returned (.bool (okA ⟨r, rc, p, l⟩)) ∧ Below w.heap.size w w' := by
  generalize hok : okA ⟨r, rc, p, l⟩ = ok
  unfold okA at hok
  have HO := hide hok
  clear hok
  cases hr : roleB r with
  | false =>
    have H1 := hide hr
    go_enter Try.func60, Try.ntmps60
    go_wp2_with (first | (go_at_call 89; refine (implRole _ _).mono ?_; rintro e w' ⟨rfl, rfl⟩) | (go_at_call 90; refine (implLab _ _).mono ?_; rintro e w' ⟨rfl, rfl⟩))
    go_ret
    exact ⟨ret_bool (by rw [← HO.out, H1.out, Bool.false_and]), alloc_below _ _⟩
  | true =>
  have H1 := hide hr
  cases hp : roleB p with
  | false =>
    have H2 := hide hp
    go_enter Try.func60, Try.ntmps60
    go_wp2_with (first | (go_at_call 89; refine (implRole _ _).mono ?_; rintro e w' ⟨rfl, rfl⟩) | (go_at_call 90; refine (implLab _ _).mono ?_; rintro e w' ⟨rfl, rfl⟩))
    go_ret
    exact ⟨ret_bool (by rw [← HO.out, H1.out, H2.out]; rfl), alloc_below _ _⟩
  | true =>
  have H2 := hide hp
  by_cases he : r.toList = p.toList
  · have H3 := hide he
    have he2 : (r.toList != p.toList) = false := by rw [he]; simp
    have H4 := hide he2
    go_enter Try.func60, Try.ntmps60
    go_wp2_with (first | (go_at_call 89; refine (implRole _ _).mono ?_; rintro e w' ⟨rfl, rfl⟩) | (go_at_call 90; refine (implLab _ _).mono ?_; rintro e w' ⟨rfl, rfl⟩))
    go_ret
    exact ⟨ret_bool (by rw [← HO.out, H1.out, H2.out, H4.out]; rfl), alloc_below _ _⟩
  · have he2 : (r.toList != p.toList) = true := bne_iff_ne.2 he
    have H4 := hide he2
    go_enter Try.func60, Try.ntmps60
    go_wp2_with (first | (go_at_call 89; refine (implRole _ _).mono ?_; rintro e w' ⟨rfl, rfl⟩) | (go_at_call 90; refine (implLab _ _).mono ?_; rintro e w' ⟨rfl, rfl⟩))
    go_ret
    exact ⟨ret_bool (by rw [← HO.out, H1.out, H2.out]; show ((r.toList != p.toList) && labB l) = (true && (true && ((r.toList != p.toList) && labB l))); rw [H4.out]; rfl), alloc_below _ _⟩

theorem okA_sizes {r p l : ByteArray} {rc : Bool} (h : okA ⟨r, rc, p, l⟩ = true) : r.size = 1 ∧ p.size = 1 ∧ l.size = 1 := by
  unfold okA at h
  simp only [Bool.and_eq_true] at h
  refine ⟨?_, ?_, ?_⟩
  · by_cases e : r.size = 1
    · exact e
    · have := roleB_not r e; simp [this] at h
  · by_cases e : p.size = 1
    · exact e
    · have := roleB_not p e; simp [this] at h
  · by_cases e : l.size = 1
    · exact e
    · have := labB_not l e; simp [this] at h
theorem markB_size (rc : Bool) : (markB rc).size = 1 := by cases rc <;> rfl
theorem txA_size {a : Act} (h : okA a = true) : (txA a).size = 5 := by
  obtain ⟨r, rc, p, l⟩ := a
  obtain ⟨h1, h2, h3⟩ := okA_sizes h
  unfold txA bsp
  simp only [ByteArray.size_append, h1, h2, h3, markB_size]
  rfl
theorem txT_size : ∀ {l : List Act}, l.all okA = true → (txT l).size = 5 * l.length
  | [], _ => rfl
  | a :: r, h => by
    simp only [List.all_cons, Bool.and_eq_true] at h
    simp only [txT, ByteArray.size_append, txA_size h.1, txT_size h.2, List.length_cons]
    omega
theorem txT_app (g : List Act) : ∀ l : List Act, txT (l ++ g) = txT l ++ txT g
  | [] => by simp only [List.nil_append, txT]; exact (ByteArray.empty_append).symm
  | a :: r => by simp only [List.cons_append, txT, txT_app g r, ByteArray.append_assoc]

theorem tx_one (s : ByteArray) (a : Act) : s ++ a.r ++ markB a.rc ++ a.p ++ a.l ++ bsp = s ++ txT [a] := by
  simp only [txT, txA, ByteArray.append_assoc]
  rw [show bsp ++ (⟨#[]⟩ : ByteArray) = bsp from ByteArray.append_empty]

set_option maxHeartbeats 800000 in
/-- l5Trace of the model. -/
theorem specTrace (w : World) (v : Value) (l : List Act) (hs : SlG elA w v l) :
    Calls Try.prog 58 #[v] w fun e w' => e = .returned (.bool (okT l)) ∧ Below w.heap.size w w' := by
  obtain ⟨a, cap, rfl, hlen, hat⟩ := hs.at
  have HA := hide hat
  clear hs hat
  unfold maxLen at hlen
  go_enter Try.func58, Try.ntmps58
  go_wp2_with fail
  go_loopw [3] (fun iv wr => ∃ (g : List Act) (k : Nat), k + g.length = l.length ∧ iv = .int .i64 k ∧ AtG elA w a k g ∧ l.all okA = g.all okA ∧ Below w.heap.size w wr) (fun iv _ => l.length - (intOf iv).toNat)
  case atStart => exact ⟨l, 0, by omega, rfl, HA.out, rfl, Below.refl _ _⟩
  case round =>
    obtain ⟨g, k, hk, rfl, hg, hv, hb⟩ := hrel
    have HV := hide hv
    have HB := hide hb
    cases g with
    | nil =>
      have H5 : Hid (k = l.length) := by unfold Hid; simpa using hk
      have hge : l.length ≤ k := Nat.le_of_eq H5.out.symm
      clear hk hg hv hb
      go_wp2_with fail
      go_ret
      refine ⟨ret_bool ?_, HB.out⟩
      unfold okT
      rw [HV.out]
      simp only [List.all_nil, Bool.true_and]
      exact decide_eq_decide.2 (by omega)
    | cons n rest =>
      obtain ⟨r, rc, p, lb⟩ := n
      have HK : Hid (k + 1 + rest.length = l.length) := by unfold Hid; simp only [List.length_cons] at hk; omega
      have hlt : k < l.length := by have := HK.out; omega
      obtain ⟨b, o, rfl, l1, -, -, c0, c1, c2, c3⟩ := AtA.head (hg.still (Still.of_below hb))
      have HG := hide hg.tail
      clear hk hg hv hb
      go_wp2_with fail
      refine (specAct wr r p lb rc).mono ?_
      rintro e w1 ⟨rfl, hb1⟩
      have HB1 := hide (HB.out.trans (hb1.mono HB.out.size))
      clear hb1
      cases ha : okA ⟨r, rc, p, lb⟩ with
      | false =>
        have H1 := hide ha
        go_wp2_with fail
        go_ret
        refine ⟨ret_bool ?_, HB1.out⟩
        unfold okT
        rw [HV.out]
        simp only [List.all_cons, H1.out, Bool.false_and]
      | true =>
        have H1 := hide ha
        go_wp2_with fail
        go_roundw
        case rel => exact ⟨rest, k + 1, HK.out, by go_num, HG.out, by rw [HV.out]; simp only [List.all_cons, H1.out, Bool.true_and], HB1.out⟩
        case measure => simp [intOf]; omega

set_option maxHeartbeats 800000 in
theorem specFmt_no (w : World) (v : Value) (l : List Act) (hs : SlG elA w v l) (hok : okT l = false) :
    Calls Try.prog 24 #[v] w fun e w' => e = .returned (.string ⟨#[]⟩) ∧ Below w.heap.size w w' := by
  have HS := hide hs
  obtain ⟨a, cap, rfl, hlen, hat⟩ := hs.at
  have HO := hide hok
  have hne : 0 < l.length := by cases l with | nil => simp [okT] at hok | cons => simp
  clear hs hat hok
  unfold maxLen at hlen
  go_enter Try.func24, Try.ntmps24
  go_wp2_with fail
  go_loopw [3, 4] (fun ov iv wr => ov = .string ⟨#[]⟩ ∧ iv = .int .i64 0 ∧ wr = w) (fun _ _ _ => 0)
  case atStart => exact ⟨rfl, rfl, rfl⟩
  case round =>
    obtain ⟨rfl, rfl, rfl⟩ := hrel
    go_wp2_with fail
    refine (specTrace _ _ l HS.out).mono ?_
    rintro e w1 ⟨rfl, hb1⟩
    rw [HO.out]
    go_wp2_with fail
    go_ret
    exact ⟨rfl, hb1⟩

set_option maxHeartbeats 1600000 in
set_option maxRecDepth 100000 in
theorem specFmt_ok (w : World) (v : Value) (l : List Act) (hs : SlG elA w v l) (hok : okT l = true) :
    Calls Try.prog 24 #[v] w fun e w' => e = .returned (.string (txT l)) ∧ Below w.heap.size w w' := by
  have HS := hide hs
  obtain ⟨a, cap, rfl, hlen, hat⟩ := hs.at
  have HO := hide hok
  have HA := hide hat
  have hok2 := hok
  unfold okT at hok2
  simp only [Bool.and_eq_true, decide_eq_true_eq] at hok2
  have HO2 := hide hok2
  clear hs hat hok hok2
  unfold maxLen at hlen
  go_enter Try.func24, Try.ntmps24
  go_wp2_with fail
  go_loopw [3, 4] (fun ov iv wr => ∃ pre g, l = pre ++ g ∧ ov = .string (txT pre) ∧ iv = .int .i64 (pre.length : Nat) ∧ AtG elA w a pre.length g ∧ Below w.heap.size w wr) (fun _ iv _ => l.length - (intOf iv).toNat)
  case atStart => exact ⟨[], l, rfl, rfl, rfl, HA.out, Below.refl _ _⟩
  case round =>
    obtain ⟨pre, g, hle, rfl, rfl, hg, hb⟩ := hrel
    have HE := hide hle
    have HB := hide hb
    have hplen : pre.length ≤ l.length := by rw [hle]; simp
    clear hle
    cases g with
    | nil =>
      have hge : l.length ≤ pre.length := by rw [HE.out, List.append_nil]; exact Nat.le_refl _
      clear hg hb
      go_wp2_with fail
      go_ret
      refine ⟨?_, HB.out⟩
      rw [HE.out, List.append_nil]
      rfl
    | cons n rest =>
      obtain ⟨r, rc, p, lb⟩ := n
      have hlt : pre.length < l.length := by rw [HE.out, List.length_append]; simp only [List.length_cons]; omega
      have hoks : pre.all okA = true ∧ okA ⟨r, rc, p, lb⟩ = true := by
        have h1 := HO2.out.1
        rw [HE.out] at h1
        simp only [List.all_append, List.all_cons, Bool.and_eq_true] at h1
        exact ⟨h1.1, h1.2.1⟩
      obtain ⟨z1, z2, z3⟩ := okA_sizes hoks.2
      have z0 : (txT pre).size = 5 * pre.length := txT_size hoks.1
      have zl : l.length ≤ 24 := HO2.out.2
      have HSr := hide (HS.out.still (Still.of_below hb))
      have HG := hide hg
      have HZ := hide (And.intro z0 (And.intro z1 (And.intro z2 (And.intro z3 zl))))
      generalize hs0 : txT pre = s0
      have HS0 := hide hs0
      clear hg hb hoks z0 z1 z2 z3 zl hs0
      go_wp2_with fail
      refine (specTrace _ _ l HSr.out).mono ?_
      rintro e w1 ⟨rfl, hb1⟩
      rw [HO.out]
      have HB1 := hide (HB.out.trans (hb1.mono HB.out.size))
      obtain ⟨b, o, rfl, l1, -, -, c0, c1, c2, c3⟩ := AtA.head (HG.out.still (Still.of_below HB1.out))
      have zz : s0.size ≤ 200 ∧ r.size = 1 ∧ p.size = 1 ∧ lb.size = 1 := by
        have := HZ.out
        rw [HS0.out] at this
        omega
      have n1 : ∀ W : World, (Op.stringOp .add s0 r).run Try.prog W = .ok (.string (s0 ++ r)) W := fun W => run_string_add_sum W _ _ (by omega)
      have n2 : ∀ (c : UInt8) (W : World), (Op.stringOp .add (s0 ++ r) ⟨#[c]⟩).run Try.prog W = .ok (.string (s0 ++ r ++ ⟨#[c]⟩)) W := fun c W => run_string_add_sum W _ _ (by rw [ByteArray.size_append]; have : (ByteArray.mk #[c]).size = 1 := rfl; omega)
      have n3 : ∀ (c : UInt8) (W : World), (Op.stringOp .add (s0 ++ r ++ ⟨#[c]⟩) p).run Try.prog W = .ok (.string (s0 ++ r ++ ⟨#[c]⟩ ++ p)) W := fun c W => run_string_add_sum W _ _ (by rw [ByteArray.size_append, ByteArray.size_append]; have : (ByteArray.mk #[c]).size = 1 := rfl; omega)
      have n4 : ∀ (c : UInt8) (W : World), (Op.stringOp .add (s0 ++ r ++ ⟨#[c]⟩ ++ p) lb).run Try.prog W = .ok (.string (s0 ++ r ++ ⟨#[c]⟩ ++ p ++ lb)) W := fun c W => run_string_add_sum W _ _ (by rw [ByteArray.size_append, ByteArray.size_append, ByteArray.size_append]; have : (ByteArray.mk #[c]).size = 1 := rfl; omega)
      have n5 : ∀ (c d : UInt8) (W : World), (Op.stringOp .add (s0 ++ r ++ ⟨#[c]⟩ ++ p ++ lb) ⟨#[d]⟩).run Try.prog W = .ok (.string (s0 ++ r ++ ⟨#[c]⟩ ++ p ++ lb ++ ⟨#[d]⟩)) W := fun c d W => run_string_add_sum W _ _ (by rw [ByteArray.size_append, ByteArray.size_append, ByteArray.size_append, ByteArray.size_append]; have : (ByteArray.mk #[c]).size = 1 := rfl; have : (ByteArray.mk #[d]).size = 1 := rfl; omega)
      clear hb1 zz
      cases rc
      all_goals
        go_wp2_with fail
        go_quiet (fail)
        go_wp2_with fail
      · refine ⟨⟨pre ++ [⟨r, false, p, lb⟩], rest, by rw [HE.out]; simp, ?_, by simp, by simpa using HG.out.tail, ⟨HB1.out.os, HB1.out.tape, HB1.out.output, HB1.out.size, HB1.out.block⟩⟩, by simp [intOf]; omega⟩
        rw [txT_app, HS0.out]
        exact congrArg Value.string (tx_one s0 ⟨r, false, p, lb⟩)
      · refine ⟨⟨pre ++ [⟨r, true, p, lb⟩], rest, by rw [HE.out]; simp, ?_, by simp, by simpa using HG.out.tail, ⟨HB1.out.os, HB1.out.tape, HB1.out.output, HB1.out.size, HB1.out.block⟩⟩, by simp [intOf]; omega⟩
        rw [txT_app, HS0.out]
        exact congrArg Value.string (tx_one s0 ⟨r, true, p, lb⟩)

/-- FormatTrace of the model. -/
theorem specFmt (w : World) (v : Value) (l : List Act) (hs : SlG elA w v l) :
    Calls Try.prog 24 #[v] w fun e w' => e = .returned (.string (textT l)) ∧ Below w.heap.size w w' := by
  unfold textT
  cases h : okT l with
  | false => exact specFmt_no w v l hs h
  | true => exact specFmt_ok w v l hs h
end Go.Proofs.Ytodhgpjcklhboaa.Lo.Ne
