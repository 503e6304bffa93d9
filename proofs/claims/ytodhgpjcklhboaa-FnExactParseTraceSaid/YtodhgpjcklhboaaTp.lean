/- ParseTrace of the program. -/
import Derived.Test.YtodhgpjcklhboaaTi
namespace Go.Proofs.Ytodhgpjcklhboaa.Lo.Ne
open Go.RowKit

theorem row_only {w w' : World} {base e size n c : Nat} {v : Value} {xs : List Value} (h : w.ownsRow base e size v n xs) (ho : Only c w w') (hc : c < base) : w'.ownsRow base e size v n xs := by
  rcases h with ⟨hl, h | ⟨g, cap, cur, hv, hg, hh, hr⟩⟩
  · exact ⟨hl, Or.inl h⟩
  · exact ⟨hl, Or.inr ⟨g, cap, cur, hv, hg, (ho.block g (Array.getElem?_eq_some_iff.1 hh).1 (by omega)).trans hh, hr⟩⟩

/-- How much of the text is left. -/
def rdLen (w : World) (c : Nat) : Nat :=
  match w.cell? ⟨c, 0, none⟩ with
  | some (.string b) => b.size
  | _ => 0
theorem Rd.len {w : World} {c : Nat} {s : List UInt8} (h : Rd w c s) : rdLen w c = s.length := by
  unfold rdLen
  rw [h.cell]
  exact bs_size s
theorem pt_no {s : List UInt8} (h : resT s = none) {w w' : World} (hb : Below w.heap.size w w') : PtPost s w (.returned (.tuple #[.slice none 0 0, .bool false])) w' := by
  refine ⟨_, [], by rw [h]; rfl, ?_, fun _ h => absurd h (List.not_mem_nil), List.nodup_nil, hb, hb.size⟩
  rw [h]
  exact ⟨none, 0, rfl, Nat.le_refl _, Nat.zero_le _, Or.inl ⟨rfl, rfl⟩⟩
theorem pt_yes {s : List UInt8} {l : List Act} (h : resT s = some l) {w w' : World} {v : Value} {bs : List Nat} (how : OwG elA w' v l bs) (hge : ∀ x, x ∈ bs → w.heap.size ≤ x) (hnd : bs.Nodup) (hb : Below w.heap.size w w') : PtPost s w (.returned (.tuple #[v, .bool true])) w' := by
  refine ⟨v, bs, by rw [h]; rfl, ?_, hge, hnd, hb, hb.size⟩
  rw [h]
  exact how
theorem res_none {s : List UInt8} (h : pT s = none) : resT s = none := by unfold resT; rw [h]
theorem res_long {s : List UInt8} {t : List Act} (h : pT s = some t) (hl : 24 < t.length) : resT s = none := by
  unfold resT
  rw [h]
  simp only
  rw [if_neg (by omega)]
theorem res_some {s : List UInt8} {t : List Act} (h : pT s = some t) (hl : t.length ≤ 24) : resT s = some t := by
  unfold resT
  rw [h]
  simp only
  rw [if_pos hl]

set_option maxHeartbeats 1600000 in
set_option maxRecDepth 100000 in
/-- ParseTrace of the program. -/
theorem implParse (w : World) (s : List UInt8) (hs : s.length ≤ 1048576) :
    Calls Try.prog 29 #[.string (bs s)] w (PtPost s w) := by
  go_enter Try.func29, Try.ntmps29
  go_wp2_with fail
  go_loopw [4] (fun ov wr => ∃ (pre : List Act) (rest : List UInt8), Rd wr w.heap.size rest ∧ pT s = (pT rest).map (pre ++ ·) ∧ pre.length ≤ 24 ∧ (∀ a ∈ pre, a.small) ∧ rest.length ≤ s.length ∧
    wr.ownsRow (w.heap.size + 1) ( /- t -/ 91) 4 ov pre.length (pre.flatMap Act.cells) ∧ Below w.heap.size w wr ∧ w.heap.size < wr.heap.size) (fun _ wr => rdLen wr w.heap.size)
  case atStart =>
    refine ⟨[], s, ⟨_, by show (w.heap.push _)[w.heap.size]? = _; simp; rfl⟩, ?_, by simp, by simp, Nat.le_refl _, ⟨rfl, Or.inl ⟨rfl, rfl⟩⟩, alloc_below _ _, by simp⟩
    cases pT s <;> rfl
  case round =>
    obtain ⟨pre, rest, hrd, hpt, hpl, hsm, hrl, hown, hb, hz⟩ := hrel
    have HR := hide hrd
    have HP := hide hpt
    have HS := hide hsm
    have HO := hide hown
    have HB := hide hb
    have HRL := hide hrl
    obtain ⟨oa, oc, rfl⟩ := row_shape hown
    have hc := hrd.cell
    have hlen := hrd.len
    have HL := hide hlen
    clear hrd hpt hsm hown hb hrl hlen
    cases rest with
    | nil =>
      have he := bs_empty
      obtain ⟨ob, how, hge, hnd⟩ := own_acts HO.out HS.out
      have HW := hide how
      have HG := hide hge
      clear how hge
      go_wp2_with fail
      go_ret2
      refine pt_yes (l := pre) (res_some ?_ hpl) HW.out (fun x hx => by have := HG.out x hx; omega) hnd HB.out
      rw [HP.out]
      simp [pT]
    | cons b0 rest0 =>
      have he := bs_full b0 rest0
      have hlr : (b0 :: rest0).length ≤ 1048576 := Nat.le_trans HRL.out hs
      generalize hrr : b0 :: rest0 = rr at *
      have hne : rr ≠ [] := by rw [← hrr]; simp
      have HNE := hide hne
      clear hrr hne
      go_wp2_with fail
      refine (rd_action wr w.heap.size rr hlr HR.out).mono ?_
      rintro e w1 ⟨rfl, ho, hok⟩
      have HOK := hide hok
      have HON := hide ho
      have HYES := hide (fun h => ra_yes (s := rr) h)
      have hsmall := raA_small rr
      have HSM := hide hsmall
      have HB1 := hide (show Below w.heap.size w w1 from HB.out.trans (ho.to_below (Nat.le_refl _) (Nat.le_of_lt hz)))
      have hz1 := ho.size
      clear ho hok hsmall
      generalize haa : raA rr = aa at *
      obtain ⟨r, rc, p, l⟩ := aa
      rw [show (Act.cells ⟨r, rc, p, l⟩).toArray = #[.string r, .bool rc, .string p, .string l] from rfl]
      obtain ⟨i0, hi, hi0, hi1, hi2⟩ := info_parts Try.info_act
      have HI := hide (And.intro hi (And.intro hi0 (And.intro hi1 hi2)))
      clear hi hi0 hi1 hi2
      cases hra : raOk rr with
      | false =>
        have HN := hide (show resT s = none from res_none (by rw [HP.out, ra_no HNE.out hra]; rfl))
        clear hra HYES HOK haa
        go_wp2_with fail
        go_ret2
        exact pt_no HN.out (HB1.out.alloc (by omega) _)
      | true =>
        obtain ⟨hy1, hy2⟩ := HYES.out hra
        have HY := hide (And.intro hy1 hy2)
        have HR5 := hide (HOK.out hra)
        clear hra HYES HOK hy1 hy2 haa
        by_cases h24 : pre.length = 24
        · have h24' : ((pre.length : Int) == 24) = true := by simp; omega
          have HN : Hid (resT s = none) := by
            unfold Hid
            have h := HP.out
            rw [HY.out.1] at h
            cases hq : pT rr.tail.tail.tail.tail.tail with
            | none => exact res_none (by rw [h, hq]; rfl)
            | some t => exact res_long (t := pre ++ ⟨r, rc, p, l⟩ :: t) (by rw [h, hq]; rfl) (by simp; omega)
          clear h24
          go_wp2_with fail
          go_ret2
          exact pt_no HN.out (HB1.out.alloc (by omega) _)
        · have h24' : ((pre.length : Int) == 24) = false := beq_eq_false_iff_ne.2 (by omega)
          have HWA : Hid (Below w1.heap.size w1 ((w1.alloc (.cells #[.string r, .bool rc, .string p, .string l] ( /- t -/ 91))).alloc (.cells #[.string r, .bool rc, .string p, .string l] ( /- t -/ 91)))) := hide ((alloc_below w1 _).alloc (by simp) _)
          have HNW : Hid (((w1.alloc (.cells #[.string r, .bool rc, .string p, .string l] ( /- t -/ 91))).alloc (.cells #[.string r, .bool rc, .string p, .string l] ( /- t -/ 91))).heap[(⟨w1.heap.size + 1, 0, none⟩ : Addr).block]? = some (.cells #[.string r, .bool rc, .string p, .string l] ( /- t -/ 91) (0, 0))) := by
            have h := heap_alloc_new (w1.alloc (.cells #[.string r, .bool rc, .string p, .string l] ( /- t -/ 91))) (.cells #[.string r, .bool rc, .string p, .string l] ( /- t -/ 91))
            unfold Hid
            simpa using h
          have HRW := hide (row_below (row_only HO.out HON.out (Nat.lt_succ_self _)) HWA.out)
          go_wp2_with (first | (at_builtin; go_loud (refine wpList_append_lies _ rfl _ _ ( /- t -/ 51) rfl (w.heap.size + 1) ( /- t -/ 91) i0 _ 4 56 Try.underlying51 HI.out.1 HI.out.2.1 HI.out.2.2.1 HI.out.2.2.2 rfl (by omega) (.slice oa pre.length oc) pre.length (pre.flatMap Act.cells) (by rfl) HRW.out ⟨w1.heap.size + 1, 0, none⟩ 1 1 [.string r, .bool rc, .string p, .string l] (by rfl) (by rfl) (World.news_of_block (cs := #[.string r, .bool rc, .string p, .string l]) (t := ( /- t -/ 91)) (fr := (0, 0)) HNW.out) (by simp [Value.oneCell']) (by omega) (by unfold maxLen; omega) (by omega) (by simp; omega) _ rfl ?_; intro gg cp w6 hown6 hgrow6 hat6 hlt6)) | fail)
          have hz6 := hgrow6.size
          simp at hz6
          have hB2 : Below w.heap.size w ((w1.alloc (.cells #[.string r, .bool rc, .string p, .string l] ( /- t -/ 91))).alloc (.cells #[.string r, .bool rc, .string p, .string l] ( /- t -/ 91))) := HB1.out.trans (HWA.out.mono (by omega))
          have hcb : w6.heap[w.heap.size]? = ((w1.alloc (.cells #[.string r, .bool rc, .string p, .string l] ( /- t -/ 91))).alloc (.cells #[.string r, .bool rc, .string p, .string l] ( /- t -/ 91))).heap[w.heap.size]? := hgrow6.block _ (by simp; omega) (fun e => by
            rcases HRW.out.2 with ⟨h, _⟩ | ⟨g, cap, cur, h, hg, _⟩
            · rw [h] at e; simp [Value.ownBlock] at e
            · rw [h] at e; simp only [Value.ownBlock, Option.some.injEq] at e; omega)
          have HR6 := hide ((HR5.out.below HWA.out).same hcb)
          have HB6 : Hid (Below w.heap.size w w6) := hide (hB2.trans ⟨hgrow6.os, hgrow6.tape, hgrow6.output, hgrow6.size, fun k hk => hgrow6.block k (by simp; omega) (fun e => by
            rcases HRW.out.2 with ⟨h, _⟩ | ⟨g, cap, cur, h, hg, _⟩
            · rw [h] at e; simp [Value.ownBlock] at e
            · rw [h] at e; simp only [Value.ownBlock, Option.some.injEq] at e; omega)⟩)
          clear hB2 hcb
          refine ⟨⟨pre ++ [⟨r, rc, p, l⟩], rr.tail.tail.tail.tail.tail, HR6.out, ?_, by simp; omega, ?_, by have := HY.out.2; have := HRL.out; omega, ?_, HB6.out, by omega⟩, ?_⟩
          · rw [HP.out, HY.out.1]
            cases pT rr.tail.tail.tail.tail.tail <;> simp
          · intro a ha
            rcases List.mem_append.1 ha with ha | ha
            · exact HS.out a ha
            · obtain rfl : a = ⟨r, rc, p, l⟩ := by simpa using ha
              exact HSM.out
          · rw [List.length_append, List.flatMap_append]
            simpa [Act.cells] using hown6
          · rw [HR6.out.len, HL.out]
            exact HY.out.2
end Go.Proofs.Ytodhgpjcklhboaa.Lo.Ne
