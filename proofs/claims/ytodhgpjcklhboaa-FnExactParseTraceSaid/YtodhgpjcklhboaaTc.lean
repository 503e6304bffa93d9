/- l10Cut of the model: a text cut at its spaces. -/
import Derived.Test.YtodhgpjcklhboaaTv
import Derived.Deep.AppendLies
import Derived.Deep.RegionLawGrows
namespace Go.Proofs.Ytodhgpjcklhboaa.Lo.Ne
open Go.RowKit

theorem Try.info_str : (Try.prog.info? ( /- t -/ 9)).map (fun i => (i.zero, i.size, i.bytes)) = some (some (.string ⟨#[]⟩), 1, 16) := by kernel_rfl
theorem row_below {w w' : World} {base : Nat} {e : TypeId} {size : Nat} {v : Value} {n : Nat} {xs : List Value} (h : w.ownsRow base e size v n xs) (hb : Below w.heap.size w w') : w'.ownsRow base e size v n xs := by
  rcases h with ⟨hl, h | ⟨g, cap, cur, hv, hg, hh, hr⟩⟩
  · exact ⟨hl, Or.inl h⟩
  · exact ⟨hl, Or.inr ⟨g, cap, cur, hv, hg, (hb.block g (Array.getElem?_eq_some_iff.1 hh).1).trans hh, hr⟩⟩
theorem row_shape {w : World} {base : Nat} {e : TypeId} {size : Nat} {v : Value} {n : Nat} {xs : List Value} (h : w.ownsRow base e size v n xs) : ∃ a cap, v = .slice a n cap := by
  rcases h.2 with ⟨rfl, rfl⟩ | ⟨g, cap, cur, rfl, _⟩
  · exact ⟨_, _, rfl⟩
  · exact ⟨_, _, rfl⟩
theorem grown_below {B : Nat} {a w w' : World} {e : TypeId} {size : Nat} {v : Value} {n : Nat} {xs : List Value} (h : w.ownsRow B e size v n xs) (hb : Below B a w) (hB : B ≤ w.heap.size) (hg : w.grownBy w' v.ownBlock) : Below B a w' := by
  refine hb.trans ⟨hg.os, hg.tape, hg.output, hg.size, fun k hk => hg.block k (by omega) (fun e => ?_)⟩
  rcases h.2 with ⟨rfl, _⟩ | ⟨g, cap, cur, rfl, h1, _⟩
  · simp [Value.ownBlock] at e
  · simp only [Value.ownBlock, Option.some.injEq] at e
    omega

theorem row_cells {w : World} {base e size n : Nat} {v : Value} {xs : List Value} (h : w.ownsRow base e size v n xs) (hn : 0 < n) :
    ∃ g cap, v = .slice (some ⟨g, 0, none⟩) n cap ∧ base ≤ g ∧ g < w.heap.size ∧ ∀ i, i < n * size → w.cell? ⟨g, i, none⟩ = xs[i]? := by
  obtain ⟨hl, h | ⟨g, cap, cur, hv, h1, h2, h3, h4, h5, h6⟩⟩ := h
  · omega
  · refine ⟨g, cap, hv, h1, (Array.getElem?_eq_some_iff.1 h2).1, fun i hi => ?_⟩
    rw [← h6, List.getElem?_take, if_pos hi]
    simp [World.cell?, h2]

set_option maxHeartbeats 1600000 in
set_option maxRecDepth 100000 in
/-- l10Cut at spaces. -/
theorem specCut (w : World) (s : List UInt8) (hs : s.length ≤ 1048576) :
    Calls Try.prog 65 #[.string (bs s), .int .u8 32] w fun e w' => ∃ v, e = .returned v ∧ w'.ownsRow w.heap.size ( /- t -/ 9) 1 v (cut s).length ((cut s).map fun f => .string (bs f)) ∧ Below w.heap.size w w' ∧ w.heap.size ≤ w'.heap.size := by
  have hsz : (bs s).size = s.length := bs_size s
  go_enter Try.func65, Try.ntmps65
  go_wp2_with fail
  go_loopw [5, 6, 7] (fun ov fv iv wr => ∃ (o : List (List UInt8)) (fr i : Nat), fv = .int .i64 fr ∧ iv = .int .i64 i ∧ (i ≤ s.length → fr ≤ i ∧ cut s = o ++ glue ((s.take i).drop fr) (cut (s.drop i))) ∧ i ≤ s.length + 1 ∧ (s.length < i → cut s = o) ∧ o.length ≤ i ∧
    wr.ownsRow w.heap.size ( /- t -/ 9) 1 ov o.length (o.map fun f => .string (bs f)) ∧ Below w.heap.size w wr ∧ w.heap.size ≤ wr.heap.size) (fun _ _ iv _ => s.length + 1 - (intOf iv).toNat)
  case atStart =>
    refine ⟨[], 0, 0, rfl, rfl, fun _ => ⟨Nat.le_refl _, ?_⟩, by omega, by omega, by simp, ?_, alloc_below _ _, by simp⟩
    · simp only [List.take_zero, List.drop_zero, List.nil_append, List.drop_nil]
      exact (glue_nil (cut_ne s)).symm
    · exact ⟨rfl, Or.inr ⟨w.heap.size, 0, #[], rfl, Nat.le_refl _, by show (w.heap.push _)[w.heap.size]? = _; simp, Nat.le_refl _, Nat.zero_le _, rfl, rfl⟩⟩
  case round =>
    obtain ⟨o, fr, i, rfl, rfl, h1, h2, h3, h4, hown, hb, hz⟩ := hrel
    have H1 := hide h1
    have H3 := hide h3
    have HO := hide hown
    have HB := hide hb
    obtain ⟨oa, oc, rfl⟩ := row_shape hown
    clear h1 h3 hown hb
    obtain ⟨i0, hi, hz0, hz1, hz2⟩ := info_parts Try.info_str
    have HI := hide (And.intro hi (And.intro hz0 (And.intro hz1 hz2)))
    clear hi hz0 hz1 hz2
    have hex : ∀ j, (bs s).extract fr j = bs ((s.take j).drop fr) := fun j => by
      apply ByteArray.ext
      simp only [bs, ByteArray.data_extract, List.extract_toArray]
      rw [List.extract_eq_take_drop, List.drop_take]
    by_cases hlt : i < s.length
    · have hle : (i : Int) ≤ s.length := by omega
      have hne : ((i : Int) == (s.length : Int)) = false := beq_eq_false_iff_ne.2 (by omega)
      have hfi := (H1.out (by omega)).1
      have hin : i < (bs s).size := by omega
      obtain ⟨c, hc0⟩ : ∃ c, s[i] = c := ⟨_, rfl⟩
      have hd : s.drop i = c :: s.drop (i + 1) := by rw [← hc0]; exact List.drop_eq_getElem_cons hlt
      have htk : s.take (i + 1) = s.take i ++ [c] := by rw [← hc0]; exact List.take_succ_eq_append_getElem hlt
      have hget : (bs s)[i]'hin = c := by rw [← hc0]; rfl
      have HD := hide (And.intro hd htk)
      clear hd htk hc0
      by_cases hc : c = 32
      · have hcb : (((bs s)[i]'hin).toNat : Int) = 32 := by rw [hget, hc]; rfl
        obtain ⟨p, hp, hp2⟩ : ∃ p, (bs s).extract fr i = bs p ∧ p = (s.take i).drop fr := ⟨_, hex i, rfl⟩
        have HP := hide hp2
        have HC := hide hc
        clear hc hget hex hp2
        go_wp2_with (first | (at_builtin; go_loud (refine wpList_append_lies _ rfl _ _ ( /- t -/ 38) rfl w.heap.size ( /- t -/ 9) i0 _ 1 16 Try.underlying38 HI.out.1 HI.out.2.1 HI.out.2.2.1 HI.out.2.2.2 rfl (by omega) (.slice oa o.length oc) o.length (o.map fun f => .string (bs f)) (by rfl) (row_below HO.out (alloc_below wr _)) ⟨wr.heap.size, 0, none⟩ 1 1 [.string (bs p)] (by rfl) (by rfl) (World.news_of_block (cs := #[.string (bs p)]) (t := ( /- t -/ 9)) (fr := (0, 0)) (heap_alloc_new wr (.cells #[.string (bs p)] ( /- t -/ 9)))) (by simp [Value.oneCell']) (by omega) (by unfold maxLen; omega) (by omega) (by simp; omega) _ rfl ?_; intro gg cp w6 hown6 hgrow6 hat6 hlt6)) | fail)
        have HB6 := hide (grown_below (row_below HO.out (alloc_below wr _)) (HB.out.alloc hz _) (by simp; omega) hgrow6)
        have hz6 := hgrow6.size
        simp at hz6
        refine ⟨⟨o ++ [p], i + 1, i + 1, by go_num, by go_num, fun h => ⟨Nat.le_refl _, ?_⟩, by omega, fun h => ?_, by simp; omega, ?_, HB6.out, by omega⟩, by simp [intOf]; omega⟩
        · have h := (H1.out (by omega)).2
          rw [HD.out.1, HC.out, glue_space] at h
          rw [h, show (s.take (i + 1)).drop (i + 1) = [] by simp, glue_nil (cut_ne _), HP.out]
          simp
        · omega
        · simpa using hown6
      · have hcb : ¬ (((bs s)[i]'hin).toNat : Int) = 32 := by
          rw [hget]
          intro h
          exact hc (UInt8.toNat_inj.1 (by have : (32 : UInt8).toNat = 32 := rfl; omega))
        have HC := hide hc
        clear hc hget hex
        go_wp2_with fail
        refine ⟨⟨o, fr, i + 1, rfl, by go_num, fun h => ⟨by omega, ?_⟩, by omega, fun h => ?_, by omega, HO.out, HB.out, hz⟩, by simp [intOf]; omega⟩
        · have h := (H1.out (by omega)).2
          rw [HD.out.1, glue_other HC.out] at h
          rw [h, HD.out.2, List.drop_append_of_le_length (by rw [List.length_take]; omega)]
        · omega
    · by_cases heq : i = s.length
      · subst heq
        have hle : ((s.length : Nat) : Int) ≤ s.length := by omega
        have hne : (((s.length : Nat) : Int) == (s.length : Int)) = true := by simp
        have hfi := (H1.out (by omega)).1
        obtain ⟨p, hp, hp2⟩ : ∃ p, (bs s).extract fr s.length = bs p ∧ p = (s.take s.length).drop fr := ⟨_, hex s.length, rfl⟩
        have HP := hide hp2
        clear hex hp2
        go_wp2_with (first | (at_builtin; go_loud (refine wpList_append_lies _ rfl _ _ ( /- t -/ 38) rfl w.heap.size ( /- t -/ 9) i0 _ 1 16 Try.underlying38 HI.out.1 HI.out.2.1 HI.out.2.2.1 HI.out.2.2.2 rfl (by omega) (.slice oa o.length oc) o.length (o.map fun f => .string (bs f)) (by rfl) (row_below HO.out (alloc_below wr _)) ⟨wr.heap.size, 0, none⟩ 1 1 [.string (bs p)] (by rfl) (by rfl) (World.news_of_block (cs := #[.string (bs p)]) (t := ( /- t -/ 9)) (fr := (0, 0)) (heap_alloc_new wr (.cells #[.string (bs p)] ( /- t -/ 9)))) (by simp [Value.oneCell']) (by omega) (by unfold maxLen; omega) (by omega) (by simp; omega) _ rfl ?_; intro gg cp w6 hown6 hgrow6 hat6 hlt6)) | fail)
        have HB6 := hide (grown_below (row_below HO.out (alloc_below wr _)) (HB.out.alloc hz _) (by simp; omega) hgrow6)
        have hz6 := hgrow6.size
        simp at hz6
        refine ⟨⟨o ++ [p], s.length + 1, s.length + 1, by go_num, by go_num, fun h => by omega, by omega, fun _ => ?_, by simp; omega, ?_, HB6.out, by omega⟩, by first | (simp [intOf]; done) | (simp [intOf]; omega)⟩
        · have h := (H1.out (by omega)).2
          rw [h, List.drop_length, show cut [] = [[]] from rfl, HP.out]
          simp [glue]
        · simpa using hown6
      · have hgt : ¬ (i : Int) ≤ s.length := by omega
        clear hex
        go_wp2_with fail
        go_ret
        refine ⟨_, rfl, ?_, HB.out, hz⟩
        rw [H3.out (by omega)]
        exact HO.out
end Go.Proofs.Ytodhgpjcklhboaa.Lo.Ne
