/- LEt1, LEt2 -/
import Derived.Test.YtgcefippeokmcaaDoorJ16
import Derived.Test.YtgcefippeokmcaaDoorJ05
import Derived.Test.YtgcefippeokmcaaDoorJ15
import Derived.Deep.RegionHeld
import Derived.RegionTactic
/- A drawn text; what a type's text is read as. -/
namespace Go.Proofs.YtgcefippeokmcaaDoor.Lo
open Go.RowKit

theorem sl10 (w : World) (s0 s1 s2 s3 s4 s5 s6 s7 s8 s9 : ByteArray) (t : TypeId) (h0 : s0.size ≤ maxLen) (h1 : s1.size ≤ maxLen) (h2 : s2.size ≤ maxLen) (h3 : s3.size ≤ maxLen) (h4 : s4.size ≤ maxLen) (h5 : s5.size ≤ maxLen) (h6 : s6.size ≤ maxLen) (h7 : s7.size ≤ maxLen) (h8 : s8.size ≤ maxLen) (h9 : s9.size ≤ maxLen) :
    SlG elS (w.alloc (.cells #[.string s0, .string s1, .string s2, .string s3, .string s4, .string s5, .string s6, .string s7, .string s8, .string s9] t)) (.slice (some ⟨w.heap.size, 0, none⟩) 10 10) [s0, s1, s2, s3, s4, s5, s6, s7, s8, s9] := by
  have hh := heap_new w (.cells #[.string s0, .string s1, .string s2, .string s3, .string s4, .string s5, .string s6, .string s7, .string s8, .string s9] t)
  refine ⟨_, 10, rfl, Nat.le_refl _, by unfold maxLen; omega, Or.inr ⟨w.heap.size, 0, rfl, ⟨h0, ?_⟩, ⟨h1, ?_⟩, ⟨h2, ?_⟩, ⟨h3, ?_⟩, ⟨h4, ?_⟩, ⟨h5, ?_⟩, ⟨h6, ?_⟩, ⟨h7, ?_⟩, ⟨h8, ?_⟩, ⟨h9, ?_⟩, trivial⟩⟩
  all_goals (rw [cell_of_heap hh]; rfl)
theorem textN_size (k : Int) (fr : ByteArray) (ix : Int) (kids : F) : (textN k fr ix kids).size ≤ 2000 := by
  unfold textN
  split
  · rename_i h
    unfold okN at h
    simp only [Bool.and_eq_true, decide_eq_true_eq] at h
    have := txN_size (b := 0) (u := 0) (d := 40) (by omega) (by omega) (by omega) h.1
    omega
  · exact Nat.zero_le _
namespace Ne
theorem dig_of_sm : ∀ f : F, smF f → digF f = true
  | .nil, _ => rfl
  | .cons _ k _ ix kids rest, h => by
    simp only [digF, Bool.and_eq_true, Bool.or_eq_true, decide_eq_true_eq]
    exact ⟨Or.inr h.1.2, dig_of_sm kids h.2.1, dig_of_sm rest h.2.2⟩
theorem txN_pos (k : Int) (fr : ByteArray) (ix : Int) (kids : F) : 0 < (txN k fr ix kids).size := by
  have e1 : bdot.size = 1 := rfl
  have e2 : bhash.size = 1 := rfl
  have e3 : bat.size = 1 := rfl
  have e4 : bclose.size = 1 := rfl
  unfold txN nodeT
  split
  · omega
  split
  · rw [ByteArray.size_append]; omega
  split
  · rw [ByteArray.size_append]; omega
  · rw [ByteArray.size_append]; omega
/-- The text of a valid drawn type is read back; the empty text isn't read. -/
theorem res_text (g : Lo.Nd) (hm : smF g.kids) : resL (textN g.k g.fr g.ix g.kids).data.toList = if okN g.k g.fr g.ix g.kids = true then some ⟨g.k, g.fr, g.ix, g.kids⟩ else none := by
  cases hok : okN g.k g.fr g.ix g.kids with
  | true =>
    rw [if_pos rfl]
    refine (resL_iff _ ⟨g.k, g.fr, g.ix, g.kids⟩).2 ⟨hok, ?_, ?_⟩
    · unfold digN
      simp only [Bool.and_eq_true, Bool.or_eq_true, bne_iff_ne, decide_eq_true_eq]
      refine ⟨Or.inl ?_, dig_of_sm _ hm⟩
      intro h5
      have hw := (okG_w (g := g) hok).1
      exact not_var hw h5
    · unfold textN
      rw [if_pos hok]
      rfl
  | false =>
    rw [if_neg (by decide)]
    unfold textN
    rw [hok]
    cases h : resL ((if false = true then txN g.k g.fr g.ix g.kids else ⟨#[]⟩) : ByteArray).data.toList with
    | none => rfl
    | some N =>
      obtain ⟨h1, -, h3⟩ := (resL_iff _ N).1 h
      have h4 : (txN N.k N.fr N.ix N.kids).size = 0 := by
        have h5 := congrArg List.length h3
        have h6 : ((if false = true then txN g.k g.fr g.ix g.kids else ⟨#[]⟩) : ByteArray).data.toList.length = 0 := rfl
        rw [h6] at h5
        have h7 : (bl (txN N.k N.fr N.ix N.kids)).length = (txN N.k N.fr N.ix N.kids).size := Array.length_toList
        omega
      exfalso
      have hne := txN_pos N.k N.fr N.ix N.kids
      omega
theorem res_back {s : List UInt8} {N : Nd} (h : resL s = some N) : textN N.k N.fr N.ix N.kids = bs s ∧ N.kids.sz ≤ 399 := by
  obtain ⟨h1, -, h3⟩ := (resL_iff s N).1 h
  refine ⟨?_, ?_⟩
  · unfold textN
    rw [if_pos h1, h3]
    simp [bs, bl]
  · unfold okN at h1
    simp only [Bool.and_eq_true, decide_eq_true_eq] at h1
    omega
end Ne

set_option maxHeartbeats 1000000 in
set_option maxRecDepth 100000 in
theorem drawF_calls (w : World) (sv : Value) (l : List Nat) (hs : SlG elY w sv l) : Calls Tryd.prog 21 #[sv] w (Drawn w) := by
  have HSV := hide hs
  have hx0 := Box4.now w (.int .i64 0) (.string ⟨#[]⟩) (.int .i64 0) (.slice none 0 0) ( /- t -/ 25)
  have hb0 := alloc_below w (.cells #[.int .i64 0, .string ⟨#[]⟩, .int .i64 0, .slice none 0 0] ( /- t -/ 25))
  have hz0 : (w.alloc (.cells #[.int .i64 0, .string ⟨#[]⟩, .int .i64 0, .slice none 0 0] ( /- t -/ 25))).heap.size = w.heap.size + 1 := by simp
  have HX0 := hide hx0
  have HB0 := hide hb0
  have HZ0 := hide hz0
  clear hx0 hb0 hz0 hs
  go_enter Tryd.func21, Tryd.ntmps21
  go_upto_region 1 with fail
  generalize w.alloc (.cells #[.int .i64 0, .string ⟨#[]⟩, .int .i64 0, .slice none 0 0] ( /- t -/ 25)) = W at *
  go_wp2_with fail
  refine (draw_calls W sv l (HSV.out.still (Still.of_below HB0.out))).mono ?_
  rintro e w2 ⟨N, u, bs, rfl, how, hge, hnd, hb, hf, hsz, hsm⟩
  obtain ⟨ua, uc, rfl⟩ := how.val
  have HX2 := hide (HX0.out.below hb)
  have HB2 := hide (HB0.out.trans (hb.mono (by have := HZ0.out; omega)))
  have HG : Hid (∀ x, x ∈ bs → w.heap.size < x) := hide (fun x hx => by have := hge x hx; have := HZ0.out; omega)
  have HOW := hide how
  have HF := hide hf
  have HSM := hide hsm
  have HND := hide hnd
  obtain ⟨x0, x1, x2, x3⟩ := HX2.out.cells
  have fx := HX2.out.frozen
  have lx := HX2.out.lt
  clear hge how hf hsm hnd hb HB0 HX0
  go_wp2_with fail
  refine bodyPost_ret (v := .agg #[.int .i64 N.k, .string N.fr, .int .i64 N.ix, .slice ua N.kids.len uc]) (by simp [results, Tryd.results21, go_sem, *]) rfl ?_
  exact drawn_set HOW.out HG.out HND.out HB2.out HF.out hsz HSM.out _ _ _ _

/-- A drawn text. -/
def DrawnT (w : World) (e : Ending) (w' : World) : Prop := ∃ t : ByteArray, e = .returned (.string t) ∧ t.size ≤ 10000 ∧ Below w.heap.size w w'

set_option maxHeartbeats 2000000 in
set_option maxRecDepth 100000 in
theorem drawT_calls (w : World) (sv : Value) (l : List Nat) (hs : SlG elY w sv l) : Calls Tryd.prog 27 #[sv] w (DrawnT w) := by
  have HSV := hide hs
  clear hs
  go_enter Tryd.func27, Tryd.ntmps27
  go_wp2_with fail
  refine (open_rd w sv l HSV.out).mono ?_
  rintro e w1 ⟨cv, l', rfl, hrd, hb, hz⟩
  have HB1 := hide hb
  have HRD := hide hrd
  have hz1 : w.heap.size < w1.heap.size := by omega
  obtain ⟨rb, hrb⟩ : ∃ rb, rb = w.heap.size := ⟨_, rfl⟩
  rw [← hrb] at HRD ⊢
  have hrb2 : w.heap.size ≤ rb := by omega
  have hrb3 : rb ≤ w.heap.size := by omega
  clear hrd hb hz hrb
  go_wp2_with fail
  refine (local_calls w1 rb cv l' 0 HRD.out (by omega)).mono ?_
  rintro e w2 ⟨N, u, bs, rfl, hq, hdr⟩
  obtain ⟨ua, uc, rfl⟩ := hdr.own.val
  obtain ⟨p2, hp2, hrd2⟩ := hdr.rd
  have HB2 := hide (HB1.out.trans (hdr.only.to_below (B := w.heap.size) (by omega) (by omega)))
  have HDR := hide hdr
  have HRD2 := hide hrd2
  have hw2 : w.heap.size < w2.heap.size := by have := hdr.only.size; omega
  clear hdr hrd2 HRD HB1
  go_wp2_with fail
  refine (specFormat w2 N.k N.ix N.fr _ N.kids HDR.out.own.sl (by have := HDR.out.sz; omega)).mono ?_
  rintro e w3 ⟨rfl, hb⟩
  have hts := textN_size N.k N.fr N.ix N.kids
  generalize textN N.k N.fr N.ix N.kids = s at *
  have HB3 := hide (HB2.out.trans (hb.mono HB2.out.size))
  have HRD3 := hide (HRD2.out.below hb)
  have hw3 : w.heap.size < w3.heap.size := by have := hb.size; omega
  clear hb HB2 HRD2 HDR
  by_cases hs0 : s.size = 0
  case pos =>
    go_wp2_with fail
    go_ret
    exact ⟨s, rfl, by omega, HB3.out⟩
  case neg =>
    have hs0i : ¬ (s.size : Int) = 0 := by omega
    have hs0b : ((s.size : Int) == 0) = false := beq_eq_false_iff_ne.2 hs0i
    go_wp2_with fail
    refine (pick_calls _ rb cv l' _ HRD3.out (by omega) 2 (by omega)).mono ?_
    rintro e w4 ⟨v, rfl, hv, hask⟩
    have HB4 := hide (HB3.out.trans (hask.only.to_below (B := w.heap.size) (by omega) (by omega)))
    have HRD4 := hide hask.rd
    have hw4 : w.heap.size < w4.heap.size := by have := hask.size; omega
    clear hask HB3 HRD3
    by_cases hv0 : v = 0
    case pos =>
      subst hv0
      go_wp2_with fail
      go_ret
      exact ⟨s, rfl, by omega, HB4.out⟩
    case neg =>
      have hv1 : ((v : Int) == 0) = false := beq_eq_false_iff_ne.2 (by omega)
      have hv2 : ¬ (v : Int) = 0 := by omega
      go_wp2_with fail
      refine (pick_calls _ rb cv l' _ HRD4.out (by omega) (s.size : Int) (by omega)).mono ?_
      rintro e w5 ⟨q, rfl, hq5, hask⟩
      have HB5 := hide (HB4.out.trans (hask.only.to_below (B := w.heap.size) (by omega) (by omega)))
      have HRD5 := hide hask.rd
      have hw5 : w.heap.size < w5.heap.size := by have := hask.size; omega
      clear hask HB4 HRD4
      have hqs : q < s.size := by omega
      go_upto_region 6 with fail
      have q1 : (q : Int) ≤ (s.size : Int) := by omega
      have q2 : (0 : Int) ≤ (q : Int) := by omega
      have q3 : IntKind.i64.wrap (q : Int) = (q : Int) := by rw [IntKind.wrap_i64]; omega
      refine wp_region_T (fun _ => True) 14 (by kernel_rfl) trivial (fun hHeld => ?_)
      refine wpAnyT_take (L := 14) (i := 0) (v := ?v0) rfl (by kernel_rfl) (by kernel_rfl) (by kernel_rfl) (by kernel_rfl) (fun _ _ _ h => h) hHeld (Or.inl ⟨by rfl, ?hy0⟩) ?rest0
      case hy0 => ((intro w' hw'); (try dsimp only at hw'); (go_simp); (try with_reducible rfl))
      (try simp only [Act.put]); (try simp only [List.setIfInBounds_toArray]); (try simp only [List.set_cons_zero]); (try simp only [List.set_cons_succ])
      refine wpAnyT_take (L := 14) (i := 1) (v := ?v1) rfl (by kernel_rfl) (by kernel_rfl) (by kernel_rfl) (by kernel_rfl) (fun _ _ _ h => h) hHeld (Or.inl ⟨by rfl, ?hy1⟩) ?rest1
      case hy1 => ((intro w' hw'); (try dsimp only at hw'); (go_simp); (try with_reducible rfl))
      (try simp only [Act.put]); (try simp only [List.setIfInBounds_toArray]); (try simp only [List.set_cons_zero]); (try simp only [List.set_cons_succ])
      refine wpAnyT_take (L := 14) (i := 2) (v := ?v2) rfl (by kernel_rfl) (by kernel_rfl) (by kernel_rfl) (by kernel_rfl) (fun _ _ _ h => h) hHeld (Or.inl ⟨by rfl, ?hy2⟩) ?rest2
      case hy2 => ((intro w' hw'); (try dsimp only at hw'); (go_simp); (try with_reducible rfl))
      (try simp only [Act.put]); (try simp only [List.setIfInBounds_toArray]); (try simp only [List.set_cons_zero]); (try simp only [List.set_cons_succ])
      refine wpAnyT_take (L := 14) (i := 3) (v := ?v3) rfl (by kernel_rfl) (by kernel_rfl) (by kernel_rfl) (by kernel_rfl) (fun _ _ _ h => h) hHeld (Or.inl ⟨by rfl, ?hy3⟩) ?rest3
      case hy3 => ((intro w' hw'); (try dsimp only at hw'); (go_simp); (try with_reducible rfl))
      (try simp only [Act.put]); (try simp only [List.setIfInBounds_toArray]); (try simp only [List.set_cons_zero]); (try simp only [List.set_cons_succ])
      refine wpAnyT_take (L := 14) (i := 7) (v := ?v7) rfl (by kernel_rfl) (by kernel_rfl) (by kernel_rfl) (by kernel_rfl) (fun _ _ _ h => h) hHeld (Or.inl ⟨by rfl, ?hy7⟩) ?rest7
      case hy7 => ((intro w' hw'); (try dsimp only at hw'); (go_simp); (try with_reducible rfl))
      (try simp only [Act.put]); (try simp only [List.setIfInBounds_toArray]); (try simp only [List.set_cons_zero]); (try simp only [List.set_cons_succ])
      refine wpAnyT_take (L := 14) (i := 8) (v := ?v8) rfl (by kernel_rfl) (by kernel_rfl) (by kernel_rfl) (by kernel_rfl) (fun _ _ _ h => h) hHeld (Or.inl ⟨by rfl, ?hy8⟩) ?rest8
      case hy8 => ((intro w' hw'); (try dsimp only at hw'); (go_simp); (try with_reducible rfl))
      (try simp only [Act.put]); (try simp only [List.setIfInBounds_toArray]); (try simp only [List.set_cons_zero]); (try simp only [List.set_cons_succ])
      refine wpAnyT_take (L := 14) (i := 9) (v := ?v9) rfl (by kernel_rfl) (by kernel_rfl) (by kernel_rfl) (by kernel_rfl) (fun _ _ _ h => h) hHeld (Or.inl ⟨by rfl, ?hy9⟩) ?rest9
      case hy9 => ((intro w' hw'); (try dsimp only at hw'); (go_simp); (try with_reducible rfl))
      (try simp only [Act.put]); (try simp only [List.setIfInBounds_toArray]); (try simp only [List.set_cons_zero]); (try simp only [List.set_cons_succ])
      refine wpAnyT_one (L := 14) (i := 4) (by kernel_rfl) rfl (fun K hK => ?_)
      go_simp
      have hbl := alloc_below w5.drew (.cells #[.string ⟨#[]⟩, .string ⟨#[46]⟩, .string ⟨#[123]⟩, .string ⟨#[125]⟩, .string ⟨#[124]⟩, .string ⟨#[97]⟩, .string ⟨#[65]⟩, .string ⟨#[64]⟩, .string ⟨#[33]⟩, .string ⟨#[63]⟩] ( /- t -/ 9))
      refine hK.out _ _ (fun _ => trivial) ?_
      clear hK K
      (try simp only [Act.put]); (try simp only [List.setIfInBounds_toArray]); (try simp only [List.set_cons_zero]); (try simp only [List.set_cons_succ])
      refine wpAnyT_one (L := 14) (i := 5) (by kernel_rfl) rfl (fun K hK => ?_)
      go_simp
      go_at_call 79
      refine (of_calls _ rb cv l' _ (HRD5.out.drew.below hbl) (by omega) [⟨#[]⟩, ⟨#[46]⟩, ⟨#[123]⟩, ⟨#[125]⟩, ⟨#[124]⟩, ⟨#[97]⟩, ⟨#[65]⟩, ⟨#[64]⟩, ⟨#[33]⟩, ⟨#[63]⟩] _ (sl10 w5.drew _ _ _ _ _ _ _ _ _ _ ( /- t -/ 9) (show (0 : Nat) ≤ maxLen by unfold maxLen; omega) (show (1 : Nat) ≤ maxLen by unfold maxLen; omega) (show (1 : Nat) ≤ maxLen by unfold maxLen; omega) (show (1 : Nat) ≤ maxLen by unfold maxLen; omega) (show (1 : Nat) ≤ maxLen by unfold maxLen; omega) (show (1 : Nat) ≤ maxLen by unfold maxLen; omega) (show (1 : Nat) ≤ maxLen by unfold maxLen; omega) (show (1 : Nat) ≤ maxLen by unfold maxLen; omega) (show (1 : Nat) ≤ maxLen by unfold maxLen; omega) (show (1 : Nat) ≤ maxLen by unfold maxLen; omega)) (by decide) (by decide) (new_far (w := w5.drew) HRD5.out.lt)).mono ?_
      rintro e w6 ⟨m, hm, rfl, hask⟩
      have hms := size_all 1 hm (by decide)
      have hwl : w5.heap.size < (w5.drew.alloc (.cells #[.string ⟨#[]⟩, .string ⟨#[46]⟩, .string ⟨#[123]⟩, .string ⟨#[125]⟩, .string ⟨#[124]⟩, .string ⟨#[97]⟩, .string ⟨#[65]⟩, .string ⟨#[64]⟩, .string ⟨#[33]⟩, .string ⟨#[63]⟩] ( /- t -/ 9))).heap.size := by simp
      have HB6 := hide ((HB5.out.drew.trans (hbl.mono HB5.out.size)).trans (hask.only.to_below (B := w.heap.size) (by omega) (by omega)))
      have HRD6 := hide hask.rd
      have hw6 : w.heap.size < w6.heap.size := by have := hask.size; omega
      refine hK.out _ _ (fun _ => trivial) ?_
      clear hK K hask hbl hwl hm
      obtain ⟨a, ha⟩ : ∃ a, a = s.extract 0 q := ⟨_, rfl⟩
      have has : a.size ≤ 2000 := by rw [ha, ByteArray.size_extract]; omega
      have n1 : ¬ 9223372036854775807 < min q s.size + m.size := by omega
      have ham : (s.extract 0 q ++ m).size ≤ 2001 := by rw [← ha, ByteArray.size_append]; omega
      (try simp only [Act.put]); (try simp only [List.setIfInBounds_toArray]); (try simp only [List.set_cons_zero]); (try simp only [List.set_cons_succ])
      refine wpAnyT_take (L := 14) (i := 6) (v := ?v6) rfl (by kernel_rfl) (by kernel_rfl) (by kernel_rfl) (by kernel_rfl) (fun _ _ _ h => h) hHeld (Or.inl ⟨by rfl, ?hy6⟩) ?rest6
      case hy6 => ((intro w' hw'); (try dsimp only at hw'); (go_simp); (try with_reducible rfl))
      (try simp only [Act.put]); (try simp only [List.setIfInBounds_toArray]); (try simp only [List.set_cons_zero]); (try simp only [List.set_cons_succ])
      generalize s.extract 0 q ++ m = am at *
      refine wpAnyT_one (L := 14) (i := 10) (by kernel_rfl) rfl (fun K hK => ?_)
      go_simp
      go_at_call 78
      refine (pick_calls _ rb cv l' _ HRD6.out (by omega) 2 (by omega)).mono ?_
      rintro e w7 ⟨x, rfl, hx, hask⟩
      have HB7 := hide (HB6.out.trans (hask.only.to_below (B := w.heap.size) (by omega) (by omega)))
      refine hK.out _ _ (fun _ => trivial) ?_
      clear hK K hask
      have x1 : (q : Int) + (x : Int) ≤ (s.size : Int) := by omega
      have x2 : (0 : Int) ≤ (q : Int) + (x : Int) := by omega
      have x3 : IntKind.i64.wrap ((q : Int) + (x : Int)) = (q : Int) + (x : Int) := by rw [IntKind.wrap_i64]; omega
      have x4 : ((q : Int) + (x : Int)).toNat = q + x := by omega
      obtain ⟨b, hb⟩ : ∃ b, b = s.extract (q + x) s.size := ⟨_, rfl⟩
      have hbs : b.size ≤ 2000 := by rw [hb, ByteArray.size_extract]; omega
      have n2 : ∀ W : World, (Op.stringOp .add am (s.extract (q + x) s.size)).run Tryd.prog W = .ok (.string (am ++ s.extract (q + x) s.size)) W := fun W => run_string_add_sum W _ _ (by rw [← hb]; omega)
      (try simp only [Act.put]); (try simp only [List.setIfInBounds_toArray]); (try simp only [List.set_cons_zero]); (try simp only [List.set_cons_succ])
      refine wpAnyT_take (L := 14) (i := 11) (v := ?v11) rfl (by kernel_rfl) (by kernel_rfl) (by kernel_rfl) (by kernel_rfl) (fun _ _ _ h => h) hHeld (Or.inl ⟨by rfl, ?hy11⟩) ?rest11
      case hy11 => ((intro w' hw'); (try dsimp only at hw'); (go_simp); (try with_reducible rfl))
      (try simp only [Act.put]); (try simp only [List.setIfInBounds_toArray]); (try simp only [List.set_cons_zero]); (try simp only [List.set_cons_succ])
      refine wpAnyT_take (L := 14) (i := 12) (v := ?v12) rfl (by kernel_rfl) (by kernel_rfl) (by kernel_rfl) (by kernel_rfl) (fun _ _ _ h => h) hHeld (Or.inl ⟨by rfl, ?hy12⟩) ?rest12
      case hy12 => ((intro w' hw'); (try dsimp only at hw'); (go_simp); (try with_reducible rfl))
      (try simp only [Act.put]); (try simp only [List.setIfInBounds_toArray]); (try simp only [List.set_cons_zero]); (try simp only [List.set_cons_succ])
      refine wpAnyT_take (L := 14) (i := 13) (v := ?v13) rfl (by kernel_rfl) (by kernel_rfl) (by kernel_rfl) (by kernel_rfl) (fun _ _ _ h => h) hHeld (Or.inl ⟨by rfl, ?hy13⟩) ?rest13
      case hy13 => ((intro w' hw'); (try dsimp only at hw'); (go_simp); (try with_reducible rfl))
      (try simp only [Act.put]); (try simp only [List.setIfInBounds_toArray]); (try simp only [List.set_cons_zero]); (try simp only [List.set_cons_succ])
      refine wpAnyT_one (L := 14) (i := 14) (by kernel_rfl) rfl (fun K hK => ?_)
      go_simp
      refine hK.out _ _ (fun h => absurd rfl h) ?_
      refine wpAnyT_done (by kernel_rfl) ?_ _
      clear hK K
      go_wp2_with fail
      go_ret
      exact ⟨_, rfl, by rw [← hb, ByteArray.size_append]; omega, HB7.out⟩
end Go.Proofs.YtgcefippeokmcaaDoor.Lo

/- The law FnLocalText: its walk. -/
namespace Go.Proofs.YtgcefippeokmcaaDoor.Lo
open Go.RowKit

/-- Any text: both parsers give the same. -/
theorem parse_any (t : ByteArray) (ht : t.size ≤ 1048576) : ∃ (P : Nd) (ok : Bool), (∀ W, Calls Tryd.prog 23 #[.string t] W (MadeR P ok W)) ∧ (∀ W, Calls Tryd.prog 28 #[.string t] W (MadeR P ok W)) ∧ P.kids.sz ≤ 399 ∧ (ok = true → textN P.k P.fr P.ix P.kids = t) := by
  have hsz : t.data.toList.length ≤ 1048576 := by have : t.data.toList.length = t.size := Array.length_toList; omega
  have e1 : ∀ W, Calls Tryd.prog 23 #[.string t] W (Ne.PlPost t.data.toList W) := fun W => by
    have := Ne.implParseL W t.data.toList hsz
    rwa [Ne.bs_list] at this
  have e2 : ∀ W, Calls Tryd.prog 28 #[.string t] W (Ne.PlPost t.data.toList W) := fun W => by
    have := Ne.specParseL W t.data.toList hsz
    rwa [Ne.bs_list] at this
  refine ⟨⟨(Ne.outL t.data.toList).k, (Ne.outL t.data.toList).fr, (Ne.outL t.data.toList).ix, (Ne.outL t.data.toList).kids⟩, (Ne.resL t.data.toList).isSome, e1, e2, (Ne.out_facts t.data.toList).2.2.2.1, fun h => ?_⟩
  cases hr : Ne.resL t.data.toList with
  | none => rw [hr] at h; cases h
  | some M =>
    have := (Ne.res_back hr).1
    show textN (Ne.outL t.data.toList).k (Ne.outL t.data.toList).fr (Ne.outL t.data.toList).ix (Ne.outL t.data.toList).kids = t
    unfold Ne.outL
    rw [hr]
    show textN M.k M.fr M.ix M.kids = t
    rw [this, Ne.bs_list]
/-- The text of a drawn type is read back exactly if it is valid. -/
theorem parse_text (g : Nd) (hm : smF g.kids) (W : World) : Calls Tryd.prog 23 #[.string (textN g.k g.fr g.ix g.kids)] W (MadeR (if okN g.k g.fr g.ix g.kids = true then g else zeroNd) (okN g.k g.fr g.ix g.kids) W) := by
  have ht := textN_size g.k g.fr g.ix g.kids
  have hsz : (textN g.k g.fr g.ix g.kids).data.toList.length ≤ 1048576 := by have : (textN g.k g.fr g.ix g.kids).data.toList.length = (textN g.k g.fr g.ix g.kids).size := Array.length_toList; omega
  have h := Ne.implParseL W _ hsz
  rw [Ne.bs_list] at h
  refine h.mono fun e w' hp => ?_
  obtain ⟨u, bs, h1, h2, h3, h4, h5⟩ := hp
  have hr := Ne.res_text g hm
  cases hok : okN g.k g.fr g.ix g.kids with
  | true =>
    rw [hok, if_pos rfl] at hr
    unfold Ne.outL at h1 h2
    rw [hr] at h1 h2
    exact ⟨u, bs, h1, h2, h3, h4, h5⟩
  | false =>
    rw [hok, if_neg (by decide)] at hr
    unfold Ne.outL at h1 h2
    rw [hr] at h1 h2
    exact ⟨u, bs, h1, h2, h3, h4, h5⟩

set_option maxHeartbeats 400000 in
theorem ltx_big (w : World) (a a2 : Option Addr) (n c n2 c2 : Nat) (hn : (1048576 : Int) < (n : Int) ∨ (1048576 : Int) < (n2 : Int)) :
    Calls Tryd.prog 5 #[.slice a n c, .slice a2 n2 c2] w fun e w' => e = .returned (.bool true) ∧ Below w.heap.size w w' := by
  by_cases h1 : (1048576 : Int) < (n : Int)
  · clear hn
    go_enter Tryd.func5, Tryd.ntmps5
    go_wp2_with fail
    go_ret
    exact ⟨rfl, Below.refl _ _⟩
  · have h2 : (1048576 : Int) < (n2 : Int) := by rcases hn with h | h; exact absurd h h1; exact h
    clear hn
    go_enter Tryd.func5, Tryd.ntmps5
    go_wp2_with fail
    go_ret
    exact ⟨rfl, Below.refl _ _⟩

set_option maxHeartbeats 4000000 in
set_option maxRecDepth 100000 in
theorem ltx_small (w : World) (a : Option Addr) (c : Nat) (l : List Nat) (hs : SlG elY w (.slice a l.length c) l) (hl : l.length ≤ 1048576) (a2 : Option Addr) (c2 : Nat) (l2 : List Nat) (hs2 : SlG elY w (.slice a2 l2.length c2) l2) (hl2 : l2.length ≤ 1048576) :
    Calls Tryd.prog 5 #[.slice a l.length c, .slice a2 l2.length c2] w fun e w' => e = .returned (.bool true) ∧ Below w.heap.size w w' := by
  have hli : ¬ (1048576 : Int) < (l.length : Int) := by omega
  have hli2 : ¬ (1048576 : Int) < (l2.length : Int) := by omega
  have HSV := hide hs
  have HS2 := hide hs2
  clear hs hs2
  go_enter Tryd.func5, Tryd.ntmps5
  go_wp2_with fail
  refine (drawF_calls w _ l HSV.out).mono ?_
  rintro e w1 ⟨g, u, bs, rfl, how, -, -, hb1, hf, hsz, hsm⟩
  obtain ⟨ga, gc, rfl⟩ := how.val
  have HN1 := hide (Nv.now how ( /- t -/ 25))
  have HB1 := hide (hb1.alloc hb1.size (.cells #[.int .i64 g.k, .string g.fr, .int .i64 g.ix, .slice ga g.kids.len gc] ( /- t -/ 25)))
  have HSZ := hide hsz
  have HIF := hide (fun (W : World) (sv : Value) (hs : Sl W sv g.kids) => implFormat W g.k g.ix g.fr sv g.kids hs)
  have HSF := hide (fun (W : World) (sv : Value) (hs : Sl W sv g.kids) => specFormat W g.k g.ix g.fr sv g.kids hs (by omega))
  have HIV := hide (fun (W : World) (sv : Value) (hs : Sl W sv g.kids) => implValid W g.k g.ix g.fr sv g.kids hs)
  have HSVL := hide (fun (W : World) (sv : Value) (hs : Sl W sv g.kids) => specValidBig W g.k g.ix g.fr sv g.kids hs (fun _ => by omega))
  have HPT := hide (fun W => parse_text g hsm W)
  have HEQ : Hid (okN g.k g.fr g.ix g.kids = true → ∀ (W : World) (u u' : Value), (∃ bs, Ow W u g.kids bs) → (∃ bs, Ow W u' g.kids bs) → Calls Tryd.prog 16 #[.agg #[.int .i64 g.k, .string g.fr, .int .i64 g.ix, u], .agg #[.int .i64 g.k, .string g.fr, .int .i64 g.ix, u']] W fun e w' => e = .returned (.bool true) ∧ Below W.heap.size W w') := hide (fun _ W u u' h h' => same_self W g u u' h h' (by omega))
  clear how hb1 hf hsz hsm HSV
  generalize textN g.k g.fr g.ix g.kids = s at *
  go_upto_region 4 with fail
  generalize w1.alloc (.cells #[.int .i64 g.k, .string g.fr, .int .i64 g.ix, .slice ga g.kids.len gc] ( /- t -/ 25)) = W1 at *
  generalize w1.heap.size = b5 at *
  obtain ⟨x0, x1, x2, x3⟩ := HN1.out.box.cells
  have lx := HN1.out.lt
  go_wp2_with fail
  refine (HIF.out W1 _ HN1.out.sl).mono ?_
  rintro e w2 ⟨rfl, hb⟩
  have HN2 := hide (HN1.out.below hb)
  have HB2 := hide (HB1.out.trans (hb.mono HB1.out.size))
  clear hb HN1 HB1 x0 x1 x2 x3 lx
  go_wp2_with fail
  refine (HPT.out w2).mono ?_
  generalize hRR : (if okN g.k g.fr g.ix g.kids = true then g else zeroNd) = R at *
  rintro e w3 ⟨v, vbs, rfl, how, -, -, hb⟩
  obtain ⟨va, vc, rfl⟩ := how.val
  have HN3 := hide ((HN2.out.below hb).below (alloc_below w3 (.cells #[.int .i64 R.k, .string R.fr, .int .i64 R.ix, .slice va R.kids.len vc] ( /- t -/ 25))))
  have HNv := hide (Nv.now how ( /- t -/ 25))
  have HB3 := hide ((HB2.out.trans (hb.mono HB2.out.size)).alloc (Nat.le_trans HB2.out.size hb.size) (.cells #[.int .i64 R.k, .string R.fr, .int .i64 R.ix, .slice va R.kids.len vc] ( /- t -/ 25)))
  clear how hb HN2 HB2 HPT
  go_upto_region 6 with fail
  generalize w3.alloc (.cells #[.int .i64 R.k, .string R.fr, .int .i64 R.ix, .slice va R.kids.len vc] ( /- t -/ 25)) = W3 at *
  generalize w3.heap.size = b7 at *
  have HKEEP := hide (And.intro HN3.out (And.intro HNv.out HB3.out))
  clear HN3 HNv HB3
  have hss : (s.toList != s.toList) = false := by simp
  cases hok : okN g.k g.fr g.ix g.kids with
  | true =>
    rw [hok] at HIV HSVL HEQ hRR
    rw [if_pos rfl] at hRR
    subst hRR
    have HEQ2 := hide (HEQ.out rfl)
    clear HEQ
    have HEQ := HEQ2
    clear HEQ2
    refine wp_region_held_drew (S := (fun w' => Nv w' b5 g (.slice ga g.kids.len gc) ∧ Nv w' b7 g (.slice va g.kids.len vc) ∧ Below w.heap.size w w')) (by kernel_rfl) ?_ (fun hHeld => ?_)
    · exact ⟨HKEEP.out.1.drew, HKEEP.out.2.1.drew, HKEEP.out.2.2.drew⟩
    have HKEEP := hide hHeld
    refine wpAnyH_take (i := 0) (v := ?v0a) rfl (by kernel_rfl) (by kernel_rfl) (by kernel_rfl) (fun _ _ _ h => h) (Or.inl ⟨by kernel_rfl, ?hy0a⟩) (by assumption) ?rest0a
    case hy0a => ((intro wS hSw); (obtain ⟨hSa, hSb, -⟩ := hSw); (obtain ⟨p0, p1, p2, p3⟩ := hSa.box.cells); (obtain ⟨q0, q1, q2, q3⟩ := hSb.box.cells); (go_simp); (try with_reducible rfl))
    change wpAnyH _ _ _ _ _ _ _ (Act.put _ (some 31) _) _
    (try simp only [Act.put]); (try simp only [List.setIfInBounds_toArray]); (try simp only [List.set_cons_zero]); (try simp only [List.set_cons_succ])
    refine wpAnyH_take (i := 1) (v := ?v1a) rfl (by kernel_rfl) (by kernel_rfl) (by kernel_rfl) (fun _ _ _ h => h) (Or.inl ⟨by kernel_rfl, ?hy1a⟩) (by assumption) ?rest1a
    case hy1a => ((intro wS hSw); (obtain ⟨hSa, hSb, -⟩ := hSw); (obtain ⟨p0, p1, p2, p3⟩ := hSa.box.cells); (obtain ⟨q0, q1, q2, q3⟩ := hSb.box.cells); (go_simp); (try with_reducible rfl))
    change wpAnyH _ _ _ _ _ _ _ (Act.put _ (some 32) _) _
    (try simp only [Act.put]); (try simp only [List.setIfInBounds_toArray]); (try simp only [List.set_cons_zero]); (try simp only [List.set_cons_succ])
    refine wpAnyH_ready (rs := [2]) (by kernel_rfl) (by simp) (AllReadyH.cons rfl (fun K hK => ?_) AllReadyH.nil)
    rw [if_pos (by kernel_rfl)]
    go_simp
    (obtain ⟨hA, hB, hC⟩ := HKEEP.out); go_at_call 24; refine (HSF.out _ _ hA.sl).mono ?_; (rintro e w_x ⟨rfl, hbx⟩); (have HK2 := hide (And.intro (hA.below hbx) (And.intro (hB.below hbx) (hC.trans (hbx.mono hC.size))))); (clear hA hB hC hbx HKEEP); (have HKEEP := HK2); clear HK2
    refine hK.out _ _ ?_ (fun hHeld => ?_)
    · exact HKEEP.out
    clear hK K
    (try simp only [Act.put]); (try simp only [List.setIfInBounds_toArray]); (try simp only [List.set_cons_zero]); (try simp only [List.set_cons_succ])
    refine wpAnyH_take (i := 3) (v := ?v3a) rfl (by kernel_rfl) (by kernel_rfl) (by kernel_rfl) (fun _ _ _ h => h) (Or.inl ⟨by kernel_rfl, ?hy3a⟩) (by assumption) ?rest3a
    case hy3a => ((intro wS hSw); (obtain ⟨hSa, hSb, -⟩ := hSw); (obtain ⟨p0, p1, p2, p3⟩ := hSa.box.cells); (obtain ⟨q0, q1, q2, q3⟩ := hSb.box.cells); (go_simp); (try with_reducible rfl))
    change wpAnyH _ _ _ _ _ _ _ (Act.put _ (some 34) _) _
    (try simp only [Act.put]); (try simp only [List.setIfInBounds_toArray]); (try simp only [List.set_cons_zero]); (try simp only [List.set_cons_succ])
    refine wpAnyH_take (i := 4) (v := ?v4a) rfl (by kernel_rfl) (by kernel_rfl) (by kernel_rfl) (fun _ _ _ h => h) (Or.inl ⟨by kernel_rfl, ?hy4a⟩) (by assumption) ?rest4a
    case hy4a => ((intro wS hSw); (obtain ⟨hSa, hSb, -⟩ := hSw); (obtain ⟨p0, p1, p2, p3⟩ := hSa.box.cells); (obtain ⟨q0, q1, q2, q3⟩ := hSb.box.cells); (go_simp); (try with_reducible rfl))
    change wpAnyH _ _ _ _ _ _ _ (Act.put _ (some 35) _) _
    (try simp only [Act.put]); (try simp only [List.setIfInBounds_toArray]); (try simp only [List.set_cons_zero]); (try simp only [List.set_cons_succ])
    refine wpAnyH_take (i := 5) (v := ?v5a) rfl (by kernel_rfl) (by kernel_rfl) (by kernel_rfl) (fun _ _ _ h => h) (Or.inl ⟨by kernel_rfl, ?hy5a⟩) (by assumption) ?rest5a
    case hy5a => ((intro wS hSw); (obtain ⟨hSa, hSb, -⟩ := hSw); (obtain ⟨p0, p1, p2, p3⟩ := hSa.box.cells); (obtain ⟨q0, q1, q2, q3⟩ := hSb.box.cells); (go_simp); (try with_reducible rfl))
    change wpAnyH _ _ _ _ _ _ _ (Act.put _ (some 36) _) _
    (try simp only [Act.put]); (try simp only [List.setIfInBounds_toArray]); (try simp only [List.set_cons_zero]); (try simp only [List.set_cons_succ])
    refine wpAnyH_take (i := 7) (v := ?v7a) rfl (by kernel_rfl) (by kernel_rfl) (by kernel_rfl) (fun _ _ _ h => h) (Or.inl ⟨by kernel_rfl, ?hy7a⟩) (by assumption) ?rest7a
    case hy7a => ((intro wS hSw); (obtain ⟨hSa, hSb, -⟩ := hSw); (obtain ⟨p0, p1, p2, p3⟩ := hSa.box.cells); (obtain ⟨q0, q1, q2, q3⟩ := hSb.box.cells); (go_simp); (try with_reducible rfl))
    change wpAnyH _ _ _ _ _ _ _ (Act.put _ (some 38) _) _
    (try simp only [Act.put]); (try simp only [List.setIfInBounds_toArray]); (try simp only [List.set_cons_zero]); (try simp only [List.set_cons_succ])
    refine wpAnyH_ready (rs := [6]) (by kernel_rfl) (by simp) (AllReadyH.cons rfl (fun K hK => ?_) AllReadyH.nil)
    rw [if_pos (by kernel_rfl)]
    go_simp
    (obtain ⟨hA, hB, hC⟩ := HKEEP.out); go_at_call 25; refine (HIV.out _ _ hA.sl).mono ?_; (rintro e w_x ⟨rfl, hbx⟩); (have HK2 := hide (And.intro (hA.below hbx) (And.intro (hB.below hbx) (hC.trans (hbx.mono hC.size))))); (clear hA hB hC hbx HKEEP); (have HKEEP := HK2); clear HK2
    refine hK.out _ _ ?_ (fun hHeld => ?_)
    · exact HKEEP.out
    clear hK K
    (try simp only [Act.put]); (try simp only [List.setIfInBounds_toArray]); (try simp only [List.set_cons_zero]); (try simp only [List.set_cons_succ])
    refine wpAnyH_ready (rs := [8]) (by kernel_rfl) (by simp) (AllReadyH.cons rfl (fun K hK => ?_) AllReadyH.nil)
    rw [if_pos (by kernel_rfl)]
    go_simp
    (obtain ⟨hA, hB, hC⟩ := HKEEP.out); go_at_call 26; refine (HSVL.out _ _ hA.sl).mono ?_; (rintro e w_x ⟨rfl, hbx⟩); (have HK2 := hide (And.intro (hA.below hbx) (And.intro (hB.below hbx) (hC.trans (hbx.mono hC.size))))); (clear hA hB hC hbx HKEEP); (have HKEEP := HK2); clear HK2
    refine hK.out _ _ ?_ (fun hHeld => ?_)
    · exact HKEEP.out
    clear hK K
    (try simp only [Act.put]); (try simp only [List.setIfInBounds_toArray]); (try simp only [List.set_cons_zero]); (try simp only [List.set_cons_succ])
    refine wpAnyH_take (i := 9) (v := ?v9a) rfl (by kernel_rfl) (by kernel_rfl) (by kernel_rfl) (fun _ _ _ h => h) (Or.inl ⟨by kernel_rfl, ?hy9a⟩) (by assumption) ?rest9a
    case hy9a => ((intro wS hSw); (obtain ⟨hSa, hSb, -⟩ := hSw); (obtain ⟨p0, p1, p2, p3⟩ := hSa.box.cells); (obtain ⟨q0, q1, q2, q3⟩ := hSb.box.cells); (go_simp); (try with_reducible rfl))
    change wpAnyH _ _ _ _ _ _ _ (Act.put _ (some 40) _) _
    (try simp only [Act.put]); (try simp only [List.setIfInBounds_toArray]); (try simp only [List.set_cons_zero]); (try simp only [List.set_cons_succ])
    refine wpAnyH_take (i := 10) (v := ?v10a) rfl (by kernel_rfl) (by kernel_rfl) (by kernel_rfl) (fun _ _ _ h => h) (Or.inl ⟨by kernel_rfl, ?hy10a⟩) (by assumption) ?rest10a
    case hy10a => ((intro wS hSw); (obtain ⟨hSa, hSb, -⟩ := hSw); (obtain ⟨p0, p1, p2, p3⟩ := hSa.box.cells); (obtain ⟨q0, q1, q2, q3⟩ := hSb.box.cells); (go_simp); (try with_reducible rfl))
    change wpAnyH _ _ _ _ _ _ _ (Act.put _ (some 41) _) _
    (try simp only [Act.put]); (try simp only [List.setIfInBounds_toArray]); (try simp only [List.set_cons_zero]); (try simp only [List.set_cons_succ])
    refine wpAnyH_take (i := 11) (v := ?v11a) rfl (by kernel_rfl) (by kernel_rfl) (by kernel_rfl) (fun _ _ _ h => h) (Or.inl ⟨by kernel_rfl, ?hy11a⟩) (by assumption) ?rest11a
    case hy11a => ((intro wS hSw); (obtain ⟨hSa, hSb, -⟩ := hSw); (obtain ⟨p0, p1, p2, p3⟩ := hSa.box.cells); (obtain ⟨q0, q1, q2, q3⟩ := hSb.box.cells); (go_simp); (try with_reducible rfl))
    change wpAnyH _ _ _ _ _ _ _ (Act.put _ (some 42) _) _
    (try simp only [Act.put]); (try simp only [List.setIfInBounds_toArray]); (try simp only [List.set_cons_zero]); (try simp only [List.set_cons_succ])
    refine wpAnyH_take (i := 12) (v := ?v12a) rfl (by kernel_rfl) (by kernel_rfl) (by kernel_rfl) (fun _ _ _ h => h) (Or.inl ⟨by kernel_rfl, ?hy12a⟩) (by assumption) ?rest12a
    case hy12a => ((intro wS hSw); (obtain ⟨hSa, hSb, -⟩ := hSw); (obtain ⟨p0, p1, p2, p3⟩ := hSa.box.cells); (obtain ⟨q0, q1, q2, q3⟩ := hSb.box.cells); (go_simp); (try with_reducible rfl))
    change wpAnyH _ _ _ _ _ _ _ (Act.put _ (some 43) _) _
    (try simp only [Act.put]); (try simp only [List.setIfInBounds_toArray]); (try simp only [List.set_cons_zero]); (try simp only [List.set_cons_succ])
    refine wpAnyH_take (i := 13) (v := ?v13a) rfl (by kernel_rfl) (by kernel_rfl) (by kernel_rfl) (fun _ _ _ h => h) (Or.inl ⟨by kernel_rfl, ?hy13a⟩) (by assumption) ?rest13a
    case hy13a => ((intro wS hSw); (obtain ⟨hSa, hSb, -⟩ := hSw); (obtain ⟨p0, p1, p2, p3⟩ := hSa.box.cells); (obtain ⟨q0, q1, q2, q3⟩ := hSb.box.cells); (go_simp); (try with_reducible rfl))
    change wpAnyH _ _ _ _ _ _ _ (Act.put _ (some 44) _) _
    (try simp only [Act.put]); (try simp only [List.setIfInBounds_toArray]); (try simp only [List.set_cons_zero]); (try simp only [List.set_cons_succ])
    refine wpAnyH_ready (rs := [14]) (by kernel_rfl) (by simp) (AllReadyH.cons rfl (fun K hK => ?_) AllReadyH.nil)
    rw [if_pos (by kernel_rfl)]
    go_simp
    (obtain ⟨hA, hB, hC⟩ := HKEEP.out); go_at_call 26; refine (HSVL.out _ _ hA.sl).mono ?_; (rintro e w_x ⟨rfl, hbx⟩); (have HK2 := hide (And.intro (hA.below hbx) (And.intro (hB.below hbx) (hC.trans (hbx.mono hC.size))))); (clear hA hB hC hbx HKEEP); (have HKEEP := HK2); clear HK2
    refine hK.out _ _ ?_ (fun hHeld => ?_)
    · exact HKEEP.out
    clear hK K
    (try simp only [Act.put]); (try simp only [List.setIfInBounds_toArray]); (try simp only [List.set_cons_zero]); (try simp only [List.set_cons_succ])
    refine wpAnyH_take (i := 15) (v := ?v15a) rfl (by kernel_rfl) (by kernel_rfl) (by kernel_rfl) (fun _ _ _ h => h) (Or.inl ⟨by kernel_rfl, ?hy15a⟩) (by assumption) ?rest15a
    case hy15a => ((intro wS hSw); (obtain ⟨hSa, hSb, -⟩ := hSw); (obtain ⟨p0, p1, p2, p3⟩ := hSa.box.cells); (obtain ⟨q0, q1, q2, q3⟩ := hSb.box.cells); (go_simp); (try with_reducible rfl))
    change wpAnyH _ _ _ _ _ _ _ (Act.put _ (some 46) _) _
    (try simp only [Act.put]); (try simp only [List.setIfInBounds_toArray]); (try simp only [List.set_cons_zero]); (try simp only [List.set_cons_succ])
    refine wpAnyH_take (i := 16) (v := ?v16a) rfl (by kernel_rfl) (by kernel_rfl) (by kernel_rfl) (fun _ _ _ h => h) (Or.inl ⟨by kernel_rfl, ?hy16a⟩) (by assumption) ?rest16a
    case hy16a => ((intro wS hSw); (obtain ⟨hSa, hSb, -⟩ := hSw); (obtain ⟨p0, p1, p2, p3⟩ := hSa.box.cells); (obtain ⟨q0, q1, q2, q3⟩ := hSb.box.cells); (go_simp); (try with_reducible rfl))
    change wpAnyH _ _ _ _ _ _ _ (Act.put _ (some 47) _) _
    (try simp only [Act.put]); (try simp only [List.setIfInBounds_toArray]); (try simp only [List.set_cons_zero]); (try simp only [List.set_cons_succ])
    refine wpAnyH_take (i := 17) (v := ?v17a) rfl (by kernel_rfl) (by kernel_rfl) (by kernel_rfl) (fun _ _ _ h => h) (Or.inl ⟨by kernel_rfl, ?hy17a⟩) (by assumption) ?rest17a
    case hy17a => ((intro wS hSw); (obtain ⟨hSa, hSb, -⟩ := hSw); (obtain ⟨p0, p1, p2, p3⟩ := hSa.box.cells); (obtain ⟨q0, q1, q2, q3⟩ := hSb.box.cells); (go_simp); (try with_reducible rfl))
    change wpAnyH _ _ _ _ _ _ _ (Act.put _ (some 48) _) _
    (try simp only [Act.put]); (try simp only [List.setIfInBounds_toArray]); (try simp only [List.set_cons_zero]); (try simp only [List.set_cons_succ])
    refine wpAnyH_take (i := 18) (v := ?v18a) rfl (by kernel_rfl) (by kernel_rfl) (by kernel_rfl) (fun _ _ _ h => h) (Or.inl ⟨by kernel_rfl, ?hy18a⟩) (by assumption) ?rest18a
    case hy18a => ((intro wS hSw); (obtain ⟨hSa, hSb, -⟩ := hSw); (obtain ⟨p0, p1, p2, p3⟩ := hSa.box.cells); (obtain ⟨q0, q1, q2, q3⟩ := hSb.box.cells); (go_simp); (try with_reducible rfl))
    change wpAnyH _ _ _ _ _ _ _ (Act.put _ (some 49) _) _
    (try simp only [Act.put]); (try simp only [List.setIfInBounds_toArray]); (try simp only [List.set_cons_zero]); (try simp only [List.set_cons_succ])
    refine wpAnyH_take (i := 19) (v := ?v19a) rfl (by kernel_rfl) (by kernel_rfl) (by kernel_rfl) (fun _ _ _ h => h) (Or.inl ⟨by kernel_rfl, ?hy19a⟩) (by assumption) ?rest19a
    case hy19a => ((intro wS hSw); (obtain ⟨hSa, hSb, -⟩ := hSw); (obtain ⟨p0, p1, p2, p3⟩ := hSa.box.cells); (obtain ⟨q0, q1, q2, q3⟩ := hSb.box.cells); (go_simp); (try with_reducible rfl))
    change wpAnyH _ _ _ _ _ _ _ (Act.put _ (some 50) _) _
    (try simp only [Act.put]); (try simp only [List.setIfInBounds_toArray]); (try simp only [List.set_cons_zero]); (try simp only [List.set_cons_succ])
    refine wpAnyH_take (i := 20) (v := ?v20a) rfl (by kernel_rfl) (by kernel_rfl) (by kernel_rfl) (fun _ _ _ h => h) (Or.inl ⟨by kernel_rfl, ?hy20a⟩) (by assumption) ?rest20a
    case hy20a => ((intro wS hSw); (obtain ⟨hSa, hSb, -⟩ := hSw); (obtain ⟨p0, p1, p2, p3⟩ := hSa.box.cells); (obtain ⟨q0, q1, q2, q3⟩ := hSb.box.cells); (go_simp); (try with_reducible rfl))
    change wpAnyH _ _ _ _ _ _ _ (Act.put _ (some 51) _) _
    (try simp only [Act.put]); (try simp only [List.setIfInBounds_toArray]); (try simp only [List.set_cons_zero]); (try simp only [List.set_cons_succ])
    refine wpAnyH_take (i := 21) (v := ?v21a) rfl (by kernel_rfl) (by kernel_rfl) (by kernel_rfl) (fun _ _ _ h => h) (Or.inl ⟨by kernel_rfl, ?hy21a⟩) (by assumption) ?rest21a
    case hy21a => ((intro wS hSw); (obtain ⟨hSa, hSb, -⟩ := hSw); (obtain ⟨p0, p1, p2, p3⟩ := hSa.box.cells); (obtain ⟨q0, q1, q2, q3⟩ := hSb.box.cells); (go_simp); (try with_reducible rfl))
    change wpAnyH _ _ _ _ _ _ _ (Act.put _ (some 52) _) _
    (try simp only [Act.put]); (try simp only [List.setIfInBounds_toArray]); (try simp only [List.set_cons_zero]); (try simp only [List.set_cons_succ])
    refine wpAnyH_ready (rs := [22]) (by kernel_rfl) (by simp) (AllReadyH.cons rfl (fun K hK => ?_) AllReadyH.nil)
    rw [if_pos (by kernel_rfl)]
    go_simp
    (obtain ⟨hA, hB, hC⟩ := HKEEP.out); go_at_call 16; refine (HEQ.out _ _ _ hB.own hA.own).mono ?_; (rintro e w_x ⟨rfl, hbx⟩); (have HK2 := hide (And.intro (hA.below hbx) (And.intro (hB.below hbx) (hC.trans (hbx.mono hC.size))))); (clear hA hB hC hbx HKEEP); (have HKEEP := HK2); clear HK2
    refine hK.out _ _ ?_ (fun hHeld => ?_)
    · exact HKEEP.out
    clear hK K
    (try simp only [Act.put]); (try simp only [List.setIfInBounds_toArray]); (try simp only [List.set_cons_zero]); (try simp only [List.set_cons_succ])
    refine wpAnyH_take (i := 23) (v := ?v23a) rfl (by kernel_rfl) (by kernel_rfl) (by kernel_rfl) (fun _ _ _ h => h) (Or.inl ⟨by kernel_rfl, ?hy23a⟩) (by assumption) ?rest23a
    case hy23a => ((intro wS hSw); (obtain ⟨hSa, hSb, -⟩ := hSw); (obtain ⟨p0, p1, p2, p3⟩ := hSa.box.cells); (obtain ⟨q0, q1, q2, q3⟩ := hSb.box.cells); (go_simp); (try with_reducible rfl))
    change wpAnyH _ _ _ _ _ _ _ (Act.put _ (some 54) _) _
    (try simp only [Act.put]); (try simp only [List.setIfInBounds_toArray]); (try simp only [List.set_cons_zero]); (try simp only [List.set_cons_succ])
    refine wpAnyH_take (i := 24) (v := ?v24a) rfl (by kernel_rfl) (by kernel_rfl) (by kernel_rfl) (fun _ _ _ h => h) (Or.inl ⟨by kernel_rfl, ?hy24a⟩) (by assumption) ?rest24a
    case hy24a => ((intro wS hSw); (obtain ⟨hSa, hSb, -⟩ := hSw); (obtain ⟨p0, p1, p2, p3⟩ := hSa.box.cells); (obtain ⟨q0, q1, q2, q3⟩ := hSb.box.cells); (go_simp); (try with_reducible rfl))
    change wpAnyH _ _ _ _ _ _ _ (Act.put _ (some 55) _) _
    (try simp only [Act.put]); (try simp only [List.setIfInBounds_toArray]); (try simp only [List.set_cons_zero]); (try simp only [List.set_cons_succ])
    refine wpAnyH_take (i := 25) (v := ?v25a) rfl (by kernel_rfl) (by kernel_rfl) (by kernel_rfl) (fun _ _ _ h => h) (Or.inl ⟨by kernel_rfl, ?hy25a⟩) (by assumption) ?rest25a
    case hy25a => ((intro wS hSw); (obtain ⟨hSa, hSb, -⟩ := hSw); (obtain ⟨p0, p1, p2, p3⟩ := hSa.box.cells); (obtain ⟨q0, q1, q2, q3⟩ := hSb.box.cells); (go_simp); (try with_reducible rfl))
    change wpAnyH _ _ _ _ _ _ _ (Act.put _ (some 56) _) _
    (try simp only [Act.put]); (try simp only [List.setIfInBounds_toArray]); (try simp only [List.set_cons_zero]); (try simp only [List.set_cons_succ])
    refine wpAnyH_done (by kernel_rfl) ?_ _
    have HN := hide HKEEP.out.1
    have HB6 := hide HKEEP.out.2.2
    clear HKEEP
    go_wp2_with fail
    refine (drawT_calls _ _ l2 (HS2.out.still (Still.of_below HB6.out))).mono ?_
    rintro e w8 ⟨t, rfl, ht, hb⟩
    obtain ⟨P, okP, hp1, hp2, hp3, hp4⟩ := parse_any t (by omega)
    have HIP := hide hp1
    have HSP := hide hp2
    have HPS : Hid (P.kids.sz ≤ 1048576) := hide (by omega)
    have HPT := hide hp4
    have HB8 := hide (HB6.out.trans (hb.mono HB6.out.size))
    clear hb hp1 hp2 hp3 hp4 HB6
    go_wp2_with fail
    refine (HIP.out w8).mono ?_
    rintro e w9 ⟨y, ybs, rfl, how, -, -, hb⟩
    obtain ⟨ya, yc, rfl⟩ := how.val
    have HNy := hide (Nv.now how ( /- t -/ 25))
    have HB9 := hide ((HB8.out.trans (hb.mono HB8.out.size)).alloc (Nat.le_trans HB8.out.size hb.size) (.cells #[.int .i64 P.k, .string P.fr, .int .i64 P.ix, .slice ya P.kids.len yc] ( /- t -/ 25)))
    clear how hb HB8
    go_upto_region 10 with fail
    generalize w9.alloc (.cells #[.int .i64 P.k, .string P.fr, .int .i64 P.ix, .slice ya P.kids.len yc] ( /- t -/ 25)) = W9 at *
    generalize w9.heap.size = b10 at *
    go_wp2_with fail
    refine (HSP.out W9).mono ?_
    rintro e w10 ⟨z, zbs, rfl, how, -, -, hb⟩
    obtain ⟨za, zc, rfl⟩ := how.val
    have HNz := hide (Nv.now how ( /- t -/ 25))
    have HB10 := hide ((HB9.out.trans (hb.mono HB9.out.size)).alloc (Nat.le_trans HB9.out.size hb.size) (.cells #[.int .i64 P.k, .string P.fr, .int .i64 P.ix, .slice za P.kids.len zc] ( /- t -/ 25)))
    have HNy2 := hide ((HNy.out.below hb).below (alloc_below w10 (.cells #[.int .i64 P.k, .string P.fr, .int .i64 P.ix, .slice za P.kids.len zc] ( /- t -/ 25))))
    clear how hb HB9 HNy
    go_upto_region 11 with fail
    generalize w10.alloc (.cells #[.int .i64 P.k, .string P.fr, .int .i64 P.ix, .slice za P.kids.len zc] ( /- t -/ 25)) = W10 at *
    generalize w10.heap.size = b12 at *
    obtain ⟨y0, y1, y2, y3⟩ := HNy2.out.box.cells
    have ly := HNy2.out.lt
    obtain ⟨z0, z1, z2, z3⟩ := HNz.out.box.cells
    have lz := HNz.out.lt
    cases okP with
    | false =>
      go_wp2_with fail
      refine (same_self W10 P _ _ HNy2.out.own HNz.out.own HPS.out).mono ?_
      rintro e w11 ⟨rfl, hb⟩
      have HB11 := hide (HB10.out.trans (hb.mono HB10.out.size))
      clear hb
      go_wp2_with fail
      go_ret
      exact ⟨rfl, HB11.out⟩
    | true =>
      have HIFP := hide (fun (W : World) (sv : Value) (hs : Sl W sv P.kids) => implFormat W P.k P.ix P.fr sv P.kids hs)
      rw [HPT.out rfl] at HIFP
      go_wp2_with fail
      refine (same_self W10 P _ _ HNy2.out.own HNz.out.own HPS.out).mono ?_
      rintro e w11 ⟨rfl, hb⟩
      have HNy3 := hide (HNy2.out.below hb)
      have HB11 := hide (HB10.out.trans (hb.mono HB10.out.size))
      clear hb y0 y1 y2 y3 ly z0 z1 z2 z3 lz HNy2 HNz HB10
      obtain ⟨y0, y1, y2, y3⟩ := HNy3.out.box.cells
      have ly := HNy3.out.lt
      go_wp2_with fail
      refine (HIFP.out w11 _ HNy3.out.sl).mono ?_
      rintro e w12 ⟨rfl, hb⟩
      have HB12 := hide (HB11.out.trans (hb.mono HB11.out.size))
      clear hb
      go_wp2_with fail
      go_ret
      exact ⟨by simp, HB12.out⟩
  | false =>
    rw [hok] at HIV HSVL
    clear hRR HEQ
    refine wp_region_held_drew (S := (fun w' => Nv w' b5 g (.slice ga g.kids.len gc) ∧ Nv w' b7 R (.slice va R.kids.len vc) ∧ Below w.heap.size w w')) (by kernel_rfl) ?_ (fun hHeld => ?_)
    · exact ⟨HKEEP.out.1.drew, HKEEP.out.2.1.drew, HKEEP.out.2.2.drew⟩
    have HKEEP := hide hHeld
    refine wpAnyH_take (i := 0) (v := ?v0b) rfl (by kernel_rfl) (by kernel_rfl) (by kernel_rfl) (fun _ _ _ h => h) (Or.inl ⟨by kernel_rfl, ?hy0b⟩) (by assumption) ?rest0b
    case hy0b => ((intro wS hSw); (obtain ⟨hSa, hSb, -⟩ := hSw); (obtain ⟨p0, p1, p2, p3⟩ := hSa.box.cells); (obtain ⟨q0, q1, q2, q3⟩ := hSb.box.cells); (go_simp); (try with_reducible rfl))
    change wpAnyH _ _ _ _ _ _ _ (Act.put _ (some 31) _) _
    (try simp only [Act.put]); (try simp only [List.setIfInBounds_toArray]); (try simp only [List.set_cons_zero]); (try simp only [List.set_cons_succ])
    refine wpAnyH_take (i := 1) (v := ?v1b) rfl (by kernel_rfl) (by kernel_rfl) (by kernel_rfl) (fun _ _ _ h => h) (Or.inl ⟨by kernel_rfl, ?hy1b⟩) (by assumption) ?rest1b
    case hy1b => ((intro wS hSw); (obtain ⟨hSa, hSb, -⟩ := hSw); (obtain ⟨p0, p1, p2, p3⟩ := hSa.box.cells); (obtain ⟨q0, q1, q2, q3⟩ := hSb.box.cells); (go_simp); (try with_reducible rfl))
    change wpAnyH _ _ _ _ _ _ _ (Act.put _ (some 32) _) _
    (try simp only [Act.put]); (try simp only [List.setIfInBounds_toArray]); (try simp only [List.set_cons_zero]); (try simp only [List.set_cons_succ])
    refine wpAnyH_ready (rs := [2]) (by kernel_rfl) (by simp) (AllReadyH.cons rfl (fun K hK => ?_) AllReadyH.nil)
    rw [if_pos (by kernel_rfl)]
    go_simp
    (obtain ⟨hA, hB, hC⟩ := HKEEP.out); go_at_call 24; refine (HSF.out _ _ hA.sl).mono ?_; (rintro e w_x ⟨rfl, hbx⟩); (have HK2 := hide (And.intro (hA.below hbx) (And.intro (hB.below hbx) (hC.trans (hbx.mono hC.size))))); (clear hA hB hC hbx HKEEP); (have HKEEP := HK2); clear HK2
    refine hK.out _ _ ?_ (fun hHeld => ?_)
    · exact HKEEP.out
    clear hK K
    (try simp only [Act.put]); (try simp only [List.setIfInBounds_toArray]); (try simp only [List.set_cons_zero]); (try simp only [List.set_cons_succ])
    refine wpAnyH_take (i := 3) (v := ?v3b) rfl (by kernel_rfl) (by kernel_rfl) (by kernel_rfl) (fun _ _ _ h => h) (Or.inl ⟨by kernel_rfl, ?hy3b⟩) (by assumption) ?rest3b
    case hy3b => ((intro wS hSw); (obtain ⟨hSa, hSb, -⟩ := hSw); (obtain ⟨p0, p1, p2, p3⟩ := hSa.box.cells); (obtain ⟨q0, q1, q2, q3⟩ := hSb.box.cells); (go_simp); (try with_reducible rfl))
    change wpAnyH _ _ _ _ _ _ _ (Act.put _ (some 34) _) _
    (try simp only [Act.put]); (try simp only [List.setIfInBounds_toArray]); (try simp only [List.set_cons_zero]); (try simp only [List.set_cons_succ])
    refine wpAnyH_take (i := 4) (v := ?v4b) rfl (by kernel_rfl) (by kernel_rfl) (by kernel_rfl) (fun _ _ _ h => h) (Or.inl ⟨by kernel_rfl, ?hy4b⟩) (by assumption) ?rest4b
    case hy4b => ((intro wS hSw); (obtain ⟨hSa, hSb, -⟩ := hSw); (obtain ⟨p0, p1, p2, p3⟩ := hSa.box.cells); (obtain ⟨q0, q1, q2, q3⟩ := hSb.box.cells); (go_simp); (try with_reducible rfl))
    change wpAnyH _ _ _ _ _ _ _ (Act.put _ (some 35) _) _
    (try simp only [Act.put]); (try simp only [List.setIfInBounds_toArray]); (try simp only [List.set_cons_zero]); (try simp only [List.set_cons_succ])
    refine wpAnyH_take (i := 5) (v := ?v5b) rfl (by kernel_rfl) (by kernel_rfl) (by kernel_rfl) (fun _ _ _ h => h) (Or.inl ⟨by kernel_rfl, ?hy5b⟩) (by assumption) ?rest5b
    case hy5b => ((intro wS hSw); (obtain ⟨hSa, hSb, -⟩ := hSw); (obtain ⟨p0, p1, p2, p3⟩ := hSa.box.cells); (obtain ⟨q0, q1, q2, q3⟩ := hSb.box.cells); (go_simp); (try with_reducible rfl))
    change wpAnyH _ _ _ _ _ _ _ (Act.put _ (some 36) _) _
    (try simp only [Act.put]); (try simp only [List.setIfInBounds_toArray]); (try simp only [List.set_cons_zero]); (try simp only [List.set_cons_succ])
    refine wpAnyH_take (i := 7) (v := ?v7b) rfl (by kernel_rfl) (by kernel_rfl) (by kernel_rfl) (fun _ _ _ h => h) (Or.inl ⟨by kernel_rfl, ?hy7b⟩) (by assumption) ?rest7b
    case hy7b => ((intro wS hSw); (obtain ⟨hSa, hSb, -⟩ := hSw); (obtain ⟨p0, p1, p2, p3⟩ := hSa.box.cells); (obtain ⟨q0, q1, q2, q3⟩ := hSb.box.cells); (go_simp); (try with_reducible rfl))
    change wpAnyH _ _ _ _ _ _ _ (Act.put _ (some 38) _) _
    (try simp only [Act.put]); (try simp only [List.setIfInBounds_toArray]); (try simp only [List.set_cons_zero]); (try simp only [List.set_cons_succ])
    refine wpAnyH_ready (rs := [6]) (by kernel_rfl) (by simp) (AllReadyH.cons rfl (fun K hK => ?_) AllReadyH.nil)
    rw [if_pos (by kernel_rfl)]
    go_simp
    (obtain ⟨hA, hB, hC⟩ := HKEEP.out); go_at_call 25; refine (HIV.out _ _ hA.sl).mono ?_; (rintro e w_x ⟨rfl, hbx⟩); (have HK2 := hide (And.intro (hA.below hbx) (And.intro (hB.below hbx) (hC.trans (hbx.mono hC.size))))); (clear hA hB hC hbx HKEEP); (have HKEEP := HK2); clear HK2
    refine hK.out _ _ ?_ (fun hHeld => ?_)
    · exact HKEEP.out
    clear hK K
    (try simp only [Act.put]); (try simp only [List.setIfInBounds_toArray]); (try simp only [List.set_cons_zero]); (try simp only [List.set_cons_succ])
    refine wpAnyH_ready (rs := [8]) (by kernel_rfl) (by simp) (AllReadyH.cons rfl (fun K hK => ?_) AllReadyH.nil)
    rw [if_pos (by kernel_rfl)]
    go_simp
    (obtain ⟨hA, hB, hC⟩ := HKEEP.out); go_at_call 26; refine (HSVL.out _ _ hA.sl).mono ?_; (rintro e w_x ⟨rfl, hbx⟩); (have HK2 := hide (And.intro (hA.below hbx) (And.intro (hB.below hbx) (hC.trans (hbx.mono hC.size))))); (clear hA hB hC hbx HKEEP); (have HKEEP := HK2); clear HK2
    refine hK.out _ _ ?_ (fun hHeld => ?_)
    · exact HKEEP.out
    clear hK K
    (try simp only [Act.put]); (try simp only [List.setIfInBounds_toArray]); (try simp only [List.set_cons_zero]); (try simp only [List.set_cons_succ])
    refine wpAnyH_take (i := 9) (v := ?v9b) rfl (by kernel_rfl) (by kernel_rfl) (by kernel_rfl) (fun _ _ _ h => h) (Or.inl ⟨by kernel_rfl, ?hy9b⟩) (by assumption) ?rest9b
    case hy9b => ((intro wS hSw); (obtain ⟨hSa, hSb, -⟩ := hSw); (obtain ⟨p0, p1, p2, p3⟩ := hSa.box.cells); (obtain ⟨q0, q1, q2, q3⟩ := hSb.box.cells); (go_simp); (try with_reducible rfl))
    change wpAnyH _ _ _ _ _ _ _ (Act.put _ (some 40) _) _
    (try simp only [Act.put]); (try simp only [List.setIfInBounds_toArray]); (try simp only [List.set_cons_zero]); (try simp only [List.set_cons_succ])
    refine wpAnyH_take (i := 10) (v := ?v10b) rfl (by kernel_rfl) (by kernel_rfl) (by kernel_rfl) (fun _ _ _ h => h) (Or.inl ⟨by kernel_rfl, ?hy10b⟩) (by assumption) ?rest10b
    case hy10b => ((intro wS hSw); (obtain ⟨hSa, hSb, -⟩ := hSw); (obtain ⟨p0, p1, p2, p3⟩ := hSa.box.cells); (obtain ⟨q0, q1, q2, q3⟩ := hSb.box.cells); (go_simp); (try with_reducible rfl))
    change wpAnyH _ _ _ _ _ _ _ (Act.put _ (some 41) _) _
    (try simp only [Act.put]); (try simp only [List.setIfInBounds_toArray]); (try simp only [List.set_cons_zero]); (try simp only [List.set_cons_succ])
    refine wpAnyH_take (i := 11) (v := ?v11b) rfl (by kernel_rfl) (by kernel_rfl) (by kernel_rfl) (fun _ _ _ h => h) (Or.inl ⟨by kernel_rfl, ?hy11b⟩) (by assumption) ?rest11b
    case hy11b => ((intro wS hSw); (obtain ⟨hSa, hSb, -⟩ := hSw); (obtain ⟨p0, p1, p2, p3⟩ := hSa.box.cells); (obtain ⟨q0, q1, q2, q3⟩ := hSb.box.cells); (go_simp); (try with_reducible rfl))
    change wpAnyH _ _ _ _ _ _ _ (Act.put _ (some 42) _) _
    (try simp only [Act.put]); (try simp only [List.setIfInBounds_toArray]); (try simp only [List.set_cons_zero]); (try simp only [List.set_cons_succ])
    refine wpAnyH_take (i := 12) (v := ?v12b) rfl (by kernel_rfl) (by kernel_rfl) (by kernel_rfl) (fun _ _ _ h => h) (Or.inl ⟨by kernel_rfl, ?hy12b⟩) (by assumption) ?rest12b
    case hy12b => ((intro wS hSw); (obtain ⟨hSa, hSb, -⟩ := hSw); (obtain ⟨p0, p1, p2, p3⟩ := hSa.box.cells); (obtain ⟨q0, q1, q2, q3⟩ := hSb.box.cells); (go_simp); (try with_reducible rfl))
    change wpAnyH _ _ _ _ _ _ _ (Act.put _ (some 43) _) _
    (try simp only [Act.put]); (try simp only [List.setIfInBounds_toArray]); (try simp only [List.set_cons_zero]); (try simp only [List.set_cons_succ])
    refine wpAnyH_take (i := 13) (v := ?v13b) rfl (by kernel_rfl) (by kernel_rfl) (by kernel_rfl) (fun _ _ _ h => h) (Or.inl ⟨by kernel_rfl, ?hy13b⟩) (by assumption) ?rest13b
    case hy13b => ((intro wS hSw); (obtain ⟨hSa, hSb, -⟩ := hSw); (obtain ⟨p0, p1, p2, p3⟩ := hSa.box.cells); (obtain ⟨q0, q1, q2, q3⟩ := hSb.box.cells); (go_simp); (try with_reducible rfl))
    change wpAnyH _ _ _ _ _ _ _ (Act.put _ (some 44) _) _
    (try simp only [Act.put]); (try simp only [List.setIfInBounds_toArray]); (try simp only [List.set_cons_zero]); (try simp only [List.set_cons_succ])
    refine wpAnyH_ready (rs := [14]) (by kernel_rfl) (by simp) (AllReadyH.cons rfl (fun K hK => ?_) AllReadyH.nil)
    rw [if_pos (by kernel_rfl)]
    go_simp
    (obtain ⟨hA, hB, hC⟩ := HKEEP.out); go_at_call 26; refine (HSVL.out _ _ hA.sl).mono ?_; (rintro e w_x ⟨rfl, hbx⟩); (have HK2 := hide (And.intro (hA.below hbx) (And.intro (hB.below hbx) (hC.trans (hbx.mono hC.size))))); (clear hA hB hC hbx HKEEP); (have HKEEP := HK2); clear HK2
    refine hK.out _ _ ?_ (fun hHeld => ?_)
    · exact HKEEP.out
    clear hK K
    (try simp only [Act.put]); (try simp only [List.setIfInBounds_toArray]); (try simp only [List.set_cons_zero]); (try simp only [List.set_cons_succ])
    refine wpAnyH_take (i := 15) (v := ?v15b) rfl (by kernel_rfl) (by kernel_rfl) (by kernel_rfl) (fun _ _ _ h => h) (Or.inl ⟨by kernel_rfl, ?hy15b⟩) (by assumption) ?rest15b
    case hy15b => ((intro wS hSw); (obtain ⟨hSa, hSb, -⟩ := hSw); (obtain ⟨p0, p1, p2, p3⟩ := hSa.box.cells); (obtain ⟨q0, q1, q2, q3⟩ := hSb.box.cells); (go_simp); (try with_reducible rfl))
    change wpAnyH _ _ _ _ _ _ _ (Act.put _ (some 46) _) _
    (try simp only [Act.put]); (try simp only [List.setIfInBounds_toArray]); (try simp only [List.set_cons_zero]); (try simp only [List.set_cons_succ])
    refine wpAnyH_take (i := 16) (v := ?v16b) rfl (by kernel_rfl) (by kernel_rfl) (by kernel_rfl) (fun _ _ _ h => h) (Or.inl ⟨by kernel_rfl, ?hy16b⟩) (by assumption) ?rest16b
    case hy16b => ((intro wS hSw); (obtain ⟨hSa, hSb, -⟩ := hSw); (obtain ⟨p0, p1, p2, p3⟩ := hSa.box.cells); (obtain ⟨q0, q1, q2, q3⟩ := hSb.box.cells); (go_simp); (try with_reducible rfl))
    change wpAnyH _ _ _ _ _ _ _ (Act.put _ (some 47) _) _
    (try simp only [Act.put]); (try simp only [List.setIfInBounds_toArray]); (try simp only [List.set_cons_zero]); (try simp only [List.set_cons_succ])
    refine wpAnyH_take (i := 17) (v := ?v17b) rfl (by kernel_rfl) (by kernel_rfl) (by kernel_rfl) (fun _ _ _ h => h) (Or.inl ⟨by kernel_rfl, ?hy17b⟩) (by assumption) ?rest17b
    case hy17b => ((intro wS hSw); (obtain ⟨hSa, hSb, -⟩ := hSw); (obtain ⟨p0, p1, p2, p3⟩ := hSa.box.cells); (obtain ⟨q0, q1, q2, q3⟩ := hSb.box.cells); (go_simp); (try with_reducible rfl))
    change wpAnyH _ _ _ _ _ _ _ (Act.put _ (some 48) _) _
    (try simp only [Act.put]); (try simp only [List.setIfInBounds_toArray]); (try simp only [List.set_cons_zero]); (try simp only [List.set_cons_succ])
    refine wpAnyH_take (i := 18) (v := ?v18b) rfl (by kernel_rfl) (by kernel_rfl) (by kernel_rfl) (fun _ _ _ h => h) (Or.inl ⟨by kernel_rfl, ?hy18b⟩) (by assumption) ?rest18b
    case hy18b => ((intro wS hSw); (obtain ⟨hSa, hSb, -⟩ := hSw); (obtain ⟨p0, p1, p2, p3⟩ := hSa.box.cells); (obtain ⟨q0, q1, q2, q3⟩ := hSb.box.cells); (go_simp); (try with_reducible rfl))
    change wpAnyH _ _ _ _ _ _ _ (Act.put _ (some 49) _) _
    (try simp only [Act.put]); (try simp only [List.setIfInBounds_toArray]); (try simp only [List.set_cons_zero]); (try simp only [List.set_cons_succ])
    refine wpAnyH_take (i := 19) (v := ?v19b) rfl (by kernel_rfl) (by kernel_rfl) (by kernel_rfl) (fun _ _ _ h => h) (Or.inl ⟨by kernel_rfl, ?hy19b⟩) (by assumption) ?rest19b
    case hy19b => ((intro wS hSw); (obtain ⟨hSa, hSb, -⟩ := hSw); (obtain ⟨p0, p1, p2, p3⟩ := hSa.box.cells); (obtain ⟨q0, q1, q2, q3⟩ := hSb.box.cells); (go_simp); (try with_reducible rfl))
    change wpAnyH _ _ _ _ _ _ _ (Act.put _ (some 50) _) _
    (try simp only [Act.put]); (try simp only [List.setIfInBounds_toArray]); (try simp only [List.set_cons_zero]); (try simp only [List.set_cons_succ])
    refine wpAnyH_take (i := 20) (v := undef) rfl (by kernel_rfl) (by kernel_rfl) (by kernel_rfl) (fun _ _ _ h => h) (Or.inr ⟨by kernel_rfl, rfl⟩) (by assumption) ?_
    change wpAnyH _ _ _ _ _ _ _ (Act.put _ (some 51) _) _
    (try simp only [Act.put]); (try simp only [List.setIfInBounds_toArray]); (try simp only [List.set_cons_zero]); (try simp only [List.set_cons_succ])
    refine wpAnyH_take (i := 21) (v := undef) rfl (by kernel_rfl) (by kernel_rfl) (by kernel_rfl) (fun _ _ _ h => h) (Or.inr ⟨by kernel_rfl, rfl⟩) (by assumption) ?_
    change wpAnyH _ _ _ _ _ _ _ (Act.put _ (some 52) _) _
    (try simp only [Act.put]); (try simp only [List.setIfInBounds_toArray]); (try simp only [List.set_cons_zero]); (try simp only [List.set_cons_succ])
    refine wpAnyH_take (i := 22) (v := undef) rfl (by kernel_rfl) (by kernel_rfl) (by kernel_rfl) (fun _ _ _ h => h) (Or.inr ⟨by kernel_rfl, rfl⟩) (by assumption) ?_
    change wpAnyH _ _ _ _ _ _ _ (Act.put _ (some 53) _) _
    (try simp only [Act.put]); (try simp only [List.setIfInBounds_toArray]); (try simp only [List.set_cons_zero]); (try simp only [List.set_cons_succ])
    refine wpAnyH_take (i := 23) (v := undef) rfl (by kernel_rfl) (by kernel_rfl) (by kernel_rfl) (fun _ _ _ h => h) (Or.inr ⟨by kernel_rfl, rfl⟩) (by assumption) ?_
    change wpAnyH _ _ _ _ _ _ _ (Act.put _ (some 54) _) _
    (try simp only [Act.put]); (try simp only [List.setIfInBounds_toArray]); (try simp only [List.set_cons_zero]); (try simp only [List.set_cons_succ])
    refine wpAnyH_take (i := 24) (v := ?v24b) rfl (by kernel_rfl) (by kernel_rfl) (by kernel_rfl) (fun _ _ _ h => h) (Or.inl ⟨by kernel_rfl, ?hy24b⟩) (by assumption) ?rest24b
    case hy24b => ((intro wS hSw); (obtain ⟨hSa, hSb, -⟩ := hSw); (obtain ⟨p0, p1, p2, p3⟩ := hSa.box.cells); (obtain ⟨q0, q1, q2, q3⟩ := hSb.box.cells); (go_simp); (try with_reducible rfl))
    change wpAnyH _ _ _ _ _ _ _ (Act.put _ (some 55) _) _
    (try simp only [Act.put]); (try simp only [List.setIfInBounds_toArray]); (try simp only [List.set_cons_zero]); (try simp only [List.set_cons_succ])
    refine wpAnyH_take (i := 25) (v := ?v25b) rfl (by kernel_rfl) (by kernel_rfl) (by kernel_rfl) (fun _ _ _ h => h) (Or.inl ⟨by kernel_rfl, ?hy25b⟩) (by assumption) ?rest25b
    case hy25b => ((intro wS hSw); (obtain ⟨hSa, hSb, -⟩ := hSw); (obtain ⟨p0, p1, p2, p3⟩ := hSa.box.cells); (obtain ⟨q0, q1, q2, q3⟩ := hSb.box.cells); (go_simp); (try with_reducible rfl))
    change wpAnyH _ _ _ _ _ _ _ (Act.put _ (some 56) _) _
    (try simp only [Act.put]); (try simp only [List.setIfInBounds_toArray]); (try simp only [List.set_cons_zero]); (try simp only [List.set_cons_succ])
    refine wpAnyH_done (by kernel_rfl) ?_ _
    have HN := hide HKEEP.out.1
    have HB6 := hide HKEEP.out.2.2
    clear HKEEP
    go_wp2_with fail
    refine (drawT_calls _ _ l2 (HS2.out.still (Still.of_below HB6.out))).mono ?_
    rintro e w8 ⟨t, rfl, ht, hb⟩
    obtain ⟨P, okP, hp1, hp2, hp3, hp4⟩ := parse_any t (by omega)
    have HIP := hide hp1
    have HSP := hide hp2
    have HPS : Hid (P.kids.sz ≤ 1048576) := hide (by omega)
    have HPT := hide hp4
    have HB8 := hide (HB6.out.trans (hb.mono HB6.out.size))
    clear hb hp1 hp2 hp3 hp4 HB6
    go_wp2_with fail
    refine (HIP.out w8).mono ?_
    rintro e w9 ⟨y, ybs, rfl, how, -, -, hb⟩
    obtain ⟨ya, yc, rfl⟩ := how.val
    have HNy := hide (Nv.now how ( /- t -/ 25))
    have HB9 := hide ((HB8.out.trans (hb.mono HB8.out.size)).alloc (Nat.le_trans HB8.out.size hb.size) (.cells #[.int .i64 P.k, .string P.fr, .int .i64 P.ix, .slice ya P.kids.len yc] ( /- t -/ 25)))
    clear how hb HB8
    go_upto_region 10 with fail
    generalize w9.alloc (.cells #[.int .i64 P.k, .string P.fr, .int .i64 P.ix, .slice ya P.kids.len yc] ( /- t -/ 25)) = W9 at *
    generalize w9.heap.size = b10 at *
    go_wp2_with fail
    refine (HSP.out W9).mono ?_
    rintro e w10 ⟨z, zbs, rfl, how, -, -, hb⟩
    obtain ⟨za, zc, rfl⟩ := how.val
    have HNz := hide (Nv.now how ( /- t -/ 25))
    have HB10 := hide ((HB9.out.trans (hb.mono HB9.out.size)).alloc (Nat.le_trans HB9.out.size hb.size) (.cells #[.int .i64 P.k, .string P.fr, .int .i64 P.ix, .slice za P.kids.len zc] ( /- t -/ 25)))
    have HNy2 := hide ((HNy.out.below hb).below (alloc_below w10 (.cells #[.int .i64 P.k, .string P.fr, .int .i64 P.ix, .slice za P.kids.len zc] ( /- t -/ 25))))
    clear how hb HB9 HNy
    go_upto_region 11 with fail
    generalize w10.alloc (.cells #[.int .i64 P.k, .string P.fr, .int .i64 P.ix, .slice za P.kids.len zc] ( /- t -/ 25)) = W10 at *
    generalize w10.heap.size = b12 at *
    obtain ⟨y0, y1, y2, y3⟩ := HNy2.out.box.cells
    have ly := HNy2.out.lt
    obtain ⟨z0, z1, z2, z3⟩ := HNz.out.box.cells
    have lz := HNz.out.lt
    cases okP with
    | false =>
      go_wp2_with fail
      refine (same_self W10 P _ _ HNy2.out.own HNz.out.own HPS.out).mono ?_
      rintro e w11 ⟨rfl, hb⟩
      have HB11 := hide (HB10.out.trans (hb.mono HB10.out.size))
      clear hb
      go_wp2_with fail
      go_ret
      exact ⟨rfl, HB11.out⟩
    | true =>
      have HIFP := hide (fun (W : World) (sv : Value) (hs : Sl W sv P.kids) => implFormat W P.k P.ix P.fr sv P.kids hs)
      rw [HPT.out rfl] at HIFP
      go_wp2_with fail
      refine (same_self W10 P _ _ HNy2.out.own HNz.out.own HPS.out).mono ?_
      rintro e w11 ⟨rfl, hb⟩
      have HNy3 := hide (HNy2.out.below hb)
      have HB11 := hide (HB10.out.trans (hb.mono HB10.out.size))
      clear hb y0 y1 y2 y3 ly z0 z1 z2 z3 lz HNy2 HNz HB10
      obtain ⟨y0, y1, y2, y3⟩ := HNy3.out.box.cells
      have ly := HNy3.out.lt
      go_wp2_with fail
      refine (HIFP.out w11 _ HNy3.out.sl).mono ?_
      rintro e w12 ⟨rfl, hb⟩
      have HB12 := hide (HB11.out.trans (hb.mono HB11.out.size))
      clear hb
      go_wp2_with fail
      go_ret
      exact ⟨by simp, HB12.out⟩

theorem ltx_walk (w : World) (sv sv2 : Value) (l l2 : List Nat) (hs : SlG elY w sv l) (hs2 : SlG elY w sv2 l2) : Calls Tryd.prog 5 #[sv, sv2] w fun e w' => e = .returned (.bool true) ∧ Below w.heap.size w w' := by
  obtain ⟨a, c, rfl, h1, h2, h3⟩ := hs
  obtain ⟨a2, c2, rfl, k1, k2, k3⟩ := hs2
  by_cases h : l.length ≤ 1048576 ∧ l2.length ≤ 1048576
  · exact ltx_small w a c l ⟨a, c, rfl, h1, h2, h3⟩ h.1 a2 c2 l2 ⟨a2, c2, rfl, k1, k2, k3⟩ h.2
  · exact ltx_big w a a2 l.length c l2.length c2 (by omega)
end Go.Proofs.YtgcefippeokmcaaDoor.Lo
