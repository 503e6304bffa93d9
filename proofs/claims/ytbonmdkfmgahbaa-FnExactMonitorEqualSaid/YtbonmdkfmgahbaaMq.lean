/- MonitorEqual of the model and of the program. -/
import Derived.Test.YtbonmdkfmgahbaaMn
import Derived.Test.YtbonmdkfmgahbaaLQs
import Derived.Test.YtbonmdkfmgahbaaLQe
namespace Go.Proofs.Ytbonmdkfmgahbaa.Lo.Ne
open Go.RowKit

def sameM (m m' : Mon) : Bool := decide (m.ro = m'.ro) && sameN m.k m.fr m.ix m.kids m'.k m'.fr m'.ix m'.kids

set_option maxHeartbeats 800000 in
theorem specMonEq (w : World) (m m' : Mon) (u u' : Value) (h : Sl w u m.kids) (h' : Sl w u' m'.kids) :
    Calls Try.prog 19 #[.agg #[.string m.ro, .int .i64 m.k, .string m.fr, .int .i64 m.ix, u], .agg #[.string m'.ro, .int .i64 m'.k, .string m'.fr, .int .i64 m'.ix, u']] w
      fun e w' => e = .returned (.bool (sameM m m')) ∧ Below w.heap.size w w' := by
  obtain ⟨a, c, rfl⟩ : ∃ a c, u = .slice a m.kids.len c := by obtain ⟨a, c, e, -⟩ := h; exact ⟨a, c, e⟩
  obtain ⟨a', c', rfl⟩ : ∃ a' c', u' = .slice a' m'.kids.len c' := by obtain ⟨a, c, e, -⟩ := h'; exact ⟨a, c, e⟩
  have hb0 := (alloc_below w (.cells #[.string m.ro, .int .i64 m.k, .string m.fr, .int .i64 m.ix, .slice a m.kids.len c] ( /- t -/ 46))).alloc (by simp) (.cells #[.string m'.ro, .int .i64 m'.k, .string m'.fr, .int .i64 m'.ix, .slice a' m'.kids.len c'] ( /- t -/ 46))
  have HU := hide (h.still (Still.of_below hb0))
  have HU' := hide (h'.still (Still.of_below hb0))
  by_cases hro : m.ro = m'.ro
  · have HE : Hid (sameM m m' = sameN m.k m.fr m.ix m.kids m'.k m'.fr m'.ix m'.kids) := by
      unfold Hid sameM
      rw [decide_eq_true hro, Bool.true_and]
    rw [hro] at hb0 HU HU' ⊢
    clear h h' hro
    go_enter Try.func19, Try.ntmps19
    go_wp2_with fail
    refine (ge_calls _ m.k m.ix m'.k m'.ix m.fr m'.fr _ _ m.kids m'.kids HU.out HU'.out).mono ?_
    rintro e w1 ⟨rfl, hb⟩
    have hb2 := hb0.trans (hb.mono hb0.size)
    rw [← HE.out]
    clear hb0 hb
    go_wp2_with fail
    go_ret
    exact ⟨rfl, hb2⟩
  · have HE : Hid (sameM m m' = false) := by
      unfold Hid sameM
      rw [decide_eq_false hro, Bool.false_and]
    rw [HE.out]
    have hnb : (m.ro.toList == m'.ro.toList) = false := beq_eq_false_iff_ne.2 (fun h => hro (by
      rw [ByteArray.toList_eq, ByteArray.toList_eq] at h
      exact ByteArray.ext (Array.toList_inj.1 h)))
    clear h h' hro
    go_enter Try.func19, Try.ntmps19
    go_wp2_with fail
    go_ret
    exact ⟨rfl, hb0⟩

set_option maxHeartbeats 800000 in
theorem implMonEq (w : World) (m m' : Mon) (u u' : Value) (bs bs' : List Nat) (h : Ow w u m.kids bs) (h' : Ow w u' m'.kids bs') (hsz : m.kids.sz ≤ 1048576) :
    Calls Try.prog 21 #[.agg #[.string m.ro, .int .i64 m.k, .string m.fr, .int .i64 m.ix, u], .agg #[.string m'.ro, .int .i64 m'.k, .string m'.fr, .int .i64 m'.ix, u']] w
      fun e w' => e = .returned (.bool (sameM m m')) ∧ Below w.heap.size w w' := by
  obtain ⟨a, c, rfl⟩ : ∃ a c, u = .slice a m.kids.len c := h.val
  obtain ⟨a', c', rfl⟩ : ∃ a' c', u' = .slice a' m'.kids.len c' := h'.val
  have hb0 := (alloc_below w (.cells #[.string m.ro, .int .i64 m.k, .string m.fr, .int .i64 m.ix, .slice a m.kids.len c] ( /- t -/ 46))).alloc (by simp) (.cells #[.string m'.ro, .int .i64 m'.k, .string m'.fr, .int .i64 m'.ix, .slice a' m'.kids.len c'] ( /- t -/ 46))
  have HU := hide (h.same (Same.of_below hb0 (fun b hb => h.lt b hb)))
  have HU' := hide (h'.same (Same.of_below hb0 (fun b hb => h'.lt b hb)))
  by_cases hro : m.ro = m'.ro
  · have HE : Hid (sameM m m' = sameN m.k m.fr m.ix m.kids m'.k m'.fr m'.ix m'.kids) := by
      unfold Hid sameM
      rw [decide_eq_true hro, Bool.true_and]
    rw [hro] at hb0 HU HU' ⊢
    clear h h' hro
    go_enter Try.func21, Try.ntmps21
    go_wp2_with fail
    refine (implSame _ m.k m.ix m'.k m'.ix m.fr m'.fr _ _ m.kids m'.kids bs bs' HU.out HU'.out hsz).mono ?_
    rintro e w1 ⟨rfl, hb⟩
    have hb2 := hb0.trans (hb.mono hb0.size)
    rw [← HE.out]
    clear hb0 hb
    go_wp2_with fail
    go_ret
    exact ⟨rfl, hb2⟩
  · have HE : Hid (sameM m m' = false) := by
      unfold Hid sameM
      rw [decide_eq_false hro, Bool.false_and]
    rw [HE.out]
    have hnb : (m.ro.toList == m'.ro.toList) = false := beq_eq_false_iff_ne.2 (fun h => hro (by
      rw [ByteArray.toList_eq, ByteArray.toList_eq] at h
      exact ByteArray.ext (Array.toList_inj.1 h)))
    clear h h' hro
    go_enter Try.func21, Try.ntmps21
    go_wp2_with fail
    go_ret
    exact ⟨rfl, hb0⟩
end Go.Proofs.Ytbonmdkfmgahbaa.Lo.Ne
