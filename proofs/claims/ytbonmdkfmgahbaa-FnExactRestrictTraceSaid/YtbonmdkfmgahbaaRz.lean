/- RestrictTrace of the model. -/
import Derived.Test.YtbonmdkfmgahbaaAo
import Derived.Test.YtbonmdkfmgahbaaIs
namespace Go.Proofs.Ytbonmdkfmgahbaa.Lo.Ne
open Go.RowKit

/-- The actions of one role. -/
def isOf (r : ByteArray) (a : Act) : Bool := decide (a.r = r)
def ofR (r : ByteArray) (l : List Act) : List Act := l.filter (isOf r)
theorem ofR_yes {r : ByteArray} {a : Act} (h : isOf r a = true) (p : List Act) : ofR r (p ++ [a]) = ofR r p ++ [a] := by simp [ofR, h]
theorem ofR_no {r : ByteArray} {a : Act} (h : isOf r a = false) (p : List Act) : ofR r (p ++ [a]) = ofR r p := by simp [ofR, h]
theorem ofR_le (r : ByteArray) (l : List Act) : (ofR r l).length ≤ l.length := List.length_filter_le _ _
/-- A slice of the call's own that reads as the list. -/
def MadeT (L : List Act) (w : World) (e : Ending) (w' : World) : Prop :=
  ∃ v bs, e = .returned v ∧ OwG elA w' v L bs ∧ (∀ x, x ∈ bs → w.heap.size ≤ x) ∧ bs.Nodup ∧ Below w.heap.size w w'
theorem SlG.small {w : World} {v : Value} {l : List Act} (h : SlG elA w v l) : ∀ a ∈ l, a.small := by
  obtain ⟨a, cap, rfl, -, -, hr⟩ := h
  rcases hr with rfl | ⟨b, o, -, hr⟩
  · exact fun a h => absurd h (List.not_mem_nil)
  · revert o
    induction l with
    | nil => exact fun _ _ a h => absurd h (List.not_mem_nil)
    | cons x r ih =>
      intro o hr a ha
      rcases List.mem_cons.1 ha with rfl | ha
      · exact ⟨hr.1.1, hr.1.2.1, hr.1.2.2.1⟩
      · exact ih _ hr.2 a ha

set_option maxHeartbeats 1600000 in
set_option maxRecDepth 100000 in
theorem specRestrict (w : World) (tv : Value) (l : List Act) (r : ByteArray) (hs : SlG elA w tv l) (hl : l.length ≤ 1048576) :
    Calls Try.prog 12 #[tv, .string r] w (MadeT (ofR r l) w) := by
  have HSM := hide (SlG.small hs)
  obtain ⟨a, cap, rfl, hlen, hat⟩ := hs.at
  have HA := hide hat
  obtain ⟨i0, hi, hz0, hz11, hz2⟩ := info_parts Try.info_act
  have HI := hide (And.intro hi (And.intro hz0 (And.intro hz11 hz2)))
  clear hs hat hi hz0 hz11 hz2
  unfold maxLen at hlen
  go_enter Try.func12, Try.ntmps12
  go_wp2_with fail
  go_loopw [5, 6] (fun ov iv wr => ∃ (p g : List Act), l = p ++ g ∧ iv = .int .i64 (p.length : Nat) ∧ AtG elA w a p.length g ∧ wr.ownsRow w.heap.size ( /- t -/ 62) 4 ov (ofR r p).length ((ofR r p).flatMap Act.cells) ∧
    Below w.heap.size w wr) (fun _ iv _ => l.length - (intOf iv).toNat)
  case atStart =>
    refine ⟨[], l, rfl, rfl, HA.out, ?_, alloc_below _ _⟩
    exact ⟨rfl, Or.inr ⟨w.heap.size, 0, #[], rfl, Nat.le_refl _, by show (w.heap.push _)[w.heap.size]? = _; simp, Nat.le_refl _, Nat.zero_le _, rfl, rfl⟩⟩
  case round =>
    obtain ⟨p, g, hl2, rfl, hat, hown, hb⟩ := hrel
    have HL := hide hl2
    have HO := hide hown
    have HB := hide hb
    have hz := hb.size
    obtain ⟨oa, oc, rfl⟩ := row_shape hown
    cases g with
    | nil =>
      have hpl : (l.length : Int) = (p.length : Int) := by rw [hl2]; simp
      have hge : ¬ (p.length : Int) < (l.length : Int) := by omega
      have HP := hide (show p = l by rw [hl2]; simp)
      clear hl2 hown hb hat
      go_wp2_with fail
      have hsm : ∀ x ∈ ofR r p, x.small := fun x hx => HSM.out x (by rw [← HP.out]; exact (List.mem_filter.1 hx).1)
      obtain ⟨bs, how, hge2, hnd⟩ := own_acts HO.out hsm
      go_ret
      exact ⟨_, bs, rfl, by rw [← HP.out]; exact how, hge2, hnd, HB.out⟩
    | cons x rest =>
      obtain ⟨xr, xrc, xp, xl⟩ := x
      have hlt : (p.length : Int) < (l.length : Int) := by rw [hl2]; simp; omega
      obtain ⟨b, o, rfl, s1, s2, s3, c0, c1, c2, c3⟩ := AtA.head (hat.still (Still.of_below hb))
      have hpl : p.length + 1 ≤ 1048576 := by have := congrArg List.length hl2; simp at this; omega
      have HT := hide hat.tail
      have HL2 := hide (show l = (p ++ [⟨xr, xrc, xp, xl⟩]) ++ rest by rw [hl2]; simp)
      have hof := ofR_le r p
      clear hl2 hown hb hat
      by_cases hr : xr = r
      · subst hr
        have hin : isOf xr ⟨xr, xrc, xp, xl⟩ = true := by unfold isOf; simp
        have HY := hide (ofR_yes hin p)
        clear hin
        have HWA := hide (alloc_below wr (.cells #[.string xr, .bool xrc, .string xp, .string xl] ( /- t -/ 62)))
        have HNW := hide (heap_alloc_new wr (.cells #[.string xr, .bool xrc, .string xp, .string xl] ( /- t -/ 62)))
        go_wp2_with (first | (at_builtin; go_loud (refine wpList_append_lies _ rfl _ _ ( /- t -/ 32) rfl w.heap.size ( /- t -/ 62) i0 _ 4 56 Try.underlying32 HI.out.1 HI.out.2.1 HI.out.2.2.1 HI.out.2.2.2 rfl (by omega) (.slice oa (ofR xr p).length oc) (ofR xr p).length ((ofR xr p).flatMap Act.cells) (by rfl) (row_below HO.out HWA.out) ⟨wr.heap.size, 0, none⟩ 1 1 [.string xr, .bool xrc, .string xp, .string xl] (by rfl) (by rfl) (World.news_of_block (cs := #[.string xr, .bool xrc, .string xp, .string xl]) (t := ( /- t -/ 62)) (fr := (0, 0)) HNW.out) (by simp [Value.oneCell']) (by omega) (by unfold maxLen; omega) (by omega) (by simp; omega) _ rfl ?_; intro gg cp w6 hown6 hgrow6 hat6 hlt6)) | fail)
        have HB6 := hide (grown_below (row_below HO.out HWA.out) (HB.out.trans (HWA.out.mono hz)) (Nat.le_trans hz HWA.out.size) hgrow6)
        refine ⟨⟨p ++ [⟨xr, xrc, xp, xl⟩], rest, HL2.out, by simp, by simpa using HT.out, ?_, HB6.out⟩, by simp [intOf]; omega⟩
        rw [HY.out]
        simpa [Act.cells] using hown6
      · have hin : isOf r ⟨xr, xrc, xp, xl⟩ = false := by unfold isOf; simp [hr]
        have HY := hide (ofR_no hin p)
        have hnb : (xr.toList == r.toList) = false := beq_eq_false_iff_ne.2 (fun h => hr (by
          rw [ByteArray.toList_eq, ByteArray.toList_eq] at h
          exact ByteArray.ext (Array.toList_inj.1 h)))
        clear hin hr
        go_wp2_with fail
        refine ⟨⟨p ++ [⟨xr, xrc, xp, xl⟩], rest, HL2.out, by simp, by simpa using HT.out, ?_, HB.out⟩, by simp [intOf]; omega⟩
        rw [HY.out]
        exact HO.out
end Go.Proofs.Ytbonmdkfmgahbaa.Lo.Ne
