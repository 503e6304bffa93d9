/- LEp -/
import Derived.Test.YtgcefippeokmcaaDoorJ16
import Derived.Deep.QuietTactic
import Derived.BigQuiet
/- The law FnLocalPeers: its walk. -/
namespace Go.Proofs.YtgcefippeokmcaaDoor.Lo
open Go.RowKit

/-- Ascending letters of roles. -/
def seenB (L : List UInt8) : Bool := (List.range L.length).all fun k => (L.getD k 0 == 65 || L.getD k 0 == 66 || L.getD k 0 == 67) && (k == 0 || decide (L.getD (k - 1) 0 < L.getD k 0))
theorem seenB_setL (p : UInt8 → Bool) : seenB (setL p) = true := by
  unfold setL
  simp only [List.filter_cons, List.filter_nil]
  cases p 65 <;> cases p 66 <;> cases p 67 <;> decide
theorem seenB_peers (k : Int) (fr : ByteArray) (ix : Int) (kids : F) : ∃ L : List UInt8, peersN k fr ix kids = Ne.bs L ∧ seenB L = true ∧ L.length ≤ 3 := by
  unfold peersN
  split
  · exact ⟨_, rfl, seenB_setL _, by unfold setL; exact List.length_filter_le _ _⟩
  · exact ⟨[], rfl, rfl, by decide⟩
theorem seen_at {L : List UInt8} (h : seenB L = true) {k : Nat} (hk : k < L.length) : roleB ⟨#[Ne.hdC (L.drop k)]⟩ = true ∧ (0 < k → (Ne.hdC (L.drop (k - 1))).toNat < (Ne.hdC (L.drop k)).toNat) := by
  have h1 := List.all_eq_true.1 h k (List.mem_range.2 hk)
  simp only [Bool.and_eq_true] at h1
  have hd : ∀ j, j < L.length → Ne.hdC (L.drop j) = L.getD j 0 := by
    intro j hj
    rw [List.drop_eq_getElem_cons hj, List.getD_eq_getElem?_getD, List.getElem?_eq_getElem hj]
    rfl
  rw [hd k hk]
  refine ⟨?_, fun h0 => ?_⟩
  · have h2 := h1.1
    generalize L.getD k 0 = c at *
    simp only [Bool.or_eq_true, beq_iff_eq] at h2
    rcases h2 with (rfl | rfl) | rfl <;> (unfold roleB; simp [ByteArray.toList_eq])
  · rw [hd (k - 1) (by omega)]
    have h2 := h1.2
    have hk0 : (k == 0) = false := beq_eq_false_iff_ne.2 (by omega)
    rw [hk0, Bool.false_or] at h2
    exact UInt8.lt_iff_toNat_lt.1 (of_decide_eq_true h2)

namespace Ne
/-- There are no peers exactly if the unfolded type is finished. -/
theorem peers_end {g : Lo.Nd} (h : unfOk g = true) : ((peersN g.k g.fr g.ix g.kids).toList == []) = ((unfR g).k == 1) := by
  have hR : unfR g = unf g := by unfold unfR; rw [if_pos h]
  obtain ⟨r1, r2, r3, r4⟩ := unf_unf h
  rw [← unf_peers h, hR]
  have hok : okG (unf g) = true := by unfold unfOk at h; simp only [Bool.and_eq_true] at h; exact h.2
  generalize unf g = R at *
  obtain ⟨k, fr, ix, kids⟩ := R
  unfold okG at hok
  simp only at hok r3 r4 ⊢
  have hn := hok
  unfold okN at hn
  simp only [Bool.and_eq_true, decide_eq_true_eq] at hn
  have hv := hn.1
  unfold vldN at hv
  obtain ⟨hd1, hsh, hk⟩ := node_kinds (by omega) hv
  unfold peersN
  rw [if_pos hok]
  rcases hk with rfl | ⟨hk, -⟩ | ⟨hk, -⟩ | ⟨hkk, ha⟩
  · obtain ⟨e1, rfl, rfl⟩ := shape_end hsh
    have he : (setS fun c => namNb c 1 fr .nil) = ⟨#[]⟩ := by unfold setS setL namNb namFb; rfl
    rw [he, ByteArray.toList_eq]
    rfl
  · exact absurd hk r4
  · exact absurd hk r3
  · obtain ⟨e1, e2, e3⟩ := shape_act hkk hsh
    obtain ⟨c, rfl⟩ := one_byte (role_size e1)
    have hc := role_letter e1
    have hnam : namNb c k ⟨#[c]⟩ kids = true := by
      unfold namNb
      have h23 : (k == 2 || k == 3) = true := by rcases hkk with rfl | rfl <;> rfl
      rw [h23]
      simp [hasB]
    have hk1 : (k == 1) = false := by rcases hkk with rfl | rfl <;> rfl
    rw [hk1]
    refine beq_eq_false_iff_ne.2 (fun he => ?_)
    have hm : c ∈ (setS fun c => namNb c k ⟨#[c]⟩ kids).data.toList := by
      unfold setS setL
      simp only [List.mem_filter]
      exact ⟨by rcases hc with rfl | rfl | rfl <;> simp, hnam⟩
    have hsame : (setS fun c' => namNb c' k ⟨#[c]⟩ kids).data.toList = [] := by rw [← ByteArray.toList_eq]; exact he
    have hm2 : c ∈ (setS fun c' => namNb c' k ⟨#[c]⟩ kids).data.toList := by
      unfold setS setL
      simp only [List.mem_filter]
      exact ⟨by rcases hc with rfl | rfl | rfl <;> simp, hnam⟩
    rw [hsame] at hm2
    cases hm2
end Ne

set_option maxHeartbeats 400000 in
theorem lpe_big (w : World) (a : Option Addr) (n c : Nat) (hn : (1048576 : Int) < (n : Int)) :
    Calls Tryd.prog 4 #[.slice a n c] w fun e w' => e = .returned (.bool true) ∧ Below w.heap.size w w' := by
  go_enter Tryd.func4, Tryd.ntmps4
  go_wp2_with fail
  go_ret
  exact ⟨rfl, Below.refl _ _⟩

set_option maxHeartbeats 1000000 in
set_option maxRecDepth 100000 in
theorem drawP_calls (w : World) (sv : Value) (l : List Nat) (hs : SlG elY w sv l) : Calls Tryd.prog 18 #[sv] w (Drawn w) := by
  have HSV := hide hs
  have hx0 := Box4.now w (.int .i64 0) (.string ⟨#[]⟩) (.int .i64 0) (.slice none 0 0) ( /- t -/ 25)
  have hb0 := alloc_below w (.cells #[.int .i64 0, .string ⟨#[]⟩, .int .i64 0, .slice none 0 0] ( /- t -/ 25))
  have hz0 : (w.alloc (.cells #[.int .i64 0, .string ⟨#[]⟩, .int .i64 0, .slice none 0 0] ( /- t -/ 25))).heap.size = w.heap.size + 1 := by simp
  have HX0 := hide hx0
  have HB0 := hide hb0
  have HZ0 := hide hz0
  clear hx0 hb0 hz0 hs
  go_enter Tryd.func18, Tryd.ntmps18
  go_upto_region 1 with fail
  generalize w.alloc (.cells #[.int .i64 0, .string ⟨#[]⟩, .int .i64 0, .slice none 0 0] ( /- t -/ 25)) = W at *
  go_wp2_with fail
  refine (draw_calls W sv l (HSV.out.still (Still.of_below HB0.out))).mono ?_
  rintro e w2 ⟨N, u, bs, rfl, how, hge, hnd, hb, hf, hsz, hsm⟩
  obtain ⟨ua, uc, rfl⟩ := how.val
  have HX2 := hide (HX0.out.below hb)
  have HB2 := hide (HB0.out.trans (hb.mono (by have := HZ0.out; omega)))
  have HG : Hid (∀ x, x ∈ bs → w.heap.size < x) := hide (fun x hx => by have := hge x hx; have := HZ0.out; omega)
  have HOW := hide how
  have HF := hide hf
  have HSM := hide hsm
  have HND := hide hnd
  obtain ⟨x0, x1, x2, x3⟩ := HX2.out.cells
  have fx := HX2.out.frozen
  have lx := HX2.out.lt
  clear hge how hf hsm hnd hb HB0 HX0
  go_wp2_with fail
  refine bodyPost_ret (v := .agg #[.int .i64 N.k, .string N.fr, .int .i64 N.ix, .slice ua N.kids.len uc]) (by simp [results, Tryd.results18, go_sem, *]) rfl ?_
  exact drawn_set HOW.out HG.out HND.out HB2.out HF.out hsz HSM.out _ _ _ _

/-- What holds at each head of the loop over the letters. -/
def PeRel (w : World) (b1 : Nat) (g : Nd) (u : Value) (L : List UInt8) (iv : Value) (wr : World) : Prop :=
  ∃ k : Nat, iv = .int .i64 (k : Int) ∧ k ≤ L.length ∧ Nv wr b1 g u ∧ Below w.heap.size w wr

set_option maxHeartbeats 4000000 in
set_option maxRecDepth 100000 in
theorem lpe_small (w : World) (a : Option Addr) (c : Nat) (l : List Nat) (hs : SlG elY w (.slice a l.length c) l) (hl : l.length ≤ 1048576) :
    Calls Tryd.prog 4 #[.slice a l.length c] w fun e w' => e = .returned (.bool true) ∧ Below w.heap.size w w' := by
  have hl2 : ¬ (1048576 : Int) < (l.length : Int) := by omega
  have HSV := hide hs
  clear hs
  go_enter Tryd.func4, Tryd.ntmps4
  go_wp2_with fail
  refine (drawP_calls w _ l HSV.out).mono ?_
  rintro e w1 ⟨g, u, bs, rfl, how, -, -, hb1, hf, hsz, -⟩
  obtain ⟨ga, gc, rfl⟩ := how.val
  have HN1 := hide (Nv.now how ( /- t -/ 25))
  have HB1 := hide (hb1.alloc hb1.size (.cells #[.int .i64 g.k, .string g.fr, .int .i64 g.ix, .slice ga g.kids.len gc] ( /- t -/ 25)))
  have HF := hide hf
  have HSZ := hide hsz
  clear how hb1 hf hsz HSV
  go_upto_region 4 with fail
  generalize w1.alloc (.cells #[.int .i64 g.k, .string g.fr, .int .i64 g.ix, .slice ga g.kids.len gc] ( /- t -/ 25)) = W1 at *
  generalize w1.heap.size = b1 at *
  obtain ⟨x0, x1, x2, x3⟩ := HN1.out.box.cells
  have lx := HN1.out.lt
  go_wp2_with fail
  refine (implPeers W1 g.k g.ix g.fr _ g.kids HN1.out.sl).mono ?_
  rintro e w2 ⟨rfl, hb⟩
  have HPE := hide (fun h => Ne.peers_end (g := g) h)
  obtain ⟨L, hL, hseen, hL3⟩ := seenB_peers g.k g.fr g.ix g.kids
  rw [hL] at HPE
  have HLS := hide hseen
  have HSP := hide (fun (W : World) (sv : Value) (hs : Sl W sv g.kids) => specPeers W g.k g.ix g.fr sv g.kids hs (by have := HSZ.out; omega))
  rw [hL] at HSP ⊢
  have hLz : (Ne.bs L).size = L.length := Ne.bs_size L
  have HN2 := hide (HN1.out.below hb)
  have HB2 := hide (HB1.out.trans (hb.mono HB1.out.size))
  clear hb HN1 HB1 x0 x1 x2 x3 lx hL hseen
  obtain ⟨x0, x1, x2, x3⟩ := HN2.out.box.cells
  have lx := HN2.out.lt
  go_wp2_with fail
  refine (HSP.out w2 _ HN2.out.sl).mono ?_
  rintro e w3 ⟨rfl, hb⟩
  have HN3 := hide (HN2.out.below hb)
  have HB3 := hide (HB2.out.trans (hb.mono HB2.out.size))
  have hself : ((Ne.bs L).toList != (Ne.bs L).toList) = false := by simp
  clear hb HN2 HB2 x0 x1 x2 x3 lx
  go_wp2_with fail
  go_loopw [5] (fun iv wr => PeRel w b1 g (.slice ga g.kids.len gc) L iv wr) (fun iv _ => L.length - (intOf iv).toNat)
  case atStart => exact ⟨0, rfl, Nat.zero_le _, HN3.out, HB3.out⟩
  case round =>
    obtain ⟨k, rfl, hk, hn, hb⟩ := hrel
    have HN := hide hn
    have HB := hide hb
    clear hn hb HN3 HB3
    by_cases hkl : k < L.length
    case neg =>
      have hki : ¬ (k : Int) < (L.length : Int) := by omega
      obtain ⟨x0, x1, x2, x3⟩ := HN.out.box.cells
      have lx := HN.out.lt
      go_wp2_with fail
      refine (implUnf wr g _ HN.out.sl).mono ?_
      rintro e w5 ⟨v, vbs, rfl, how, -, -, hb⟩
      obtain ⟨va, vc, rfl⟩ := how.val
      have HNv := hide (Nv.now how ( /- t -/ 25))
      have HB5 := hide ((HB.out.trans (hb.mono HB.out.size)).alloc (Nat.le_trans HB.out.size hb.size) (.cells #[.int .i64 (unfR g).k, .string (unfR g).fr, .int .i64 (unfR g).ix, .slice va (unfR g).kids.len vc] ( /- t -/ 25)))
      clear how hb x0 x1 x2 x3 lx
      go_upto_region 13 with fail
      generalize w5.alloc (.cells #[.int .i64 (unfR g).k, .string (unfR g).fr, .int .i64 (unfR g).ix, .slice va (unfR g).kids.len vc] ( /- t -/ 25)) = W5 at *
      generalize w5.heap.size = b5 at *
      obtain ⟨y0, y1, y2, y3⟩ := HNv.out.box.cells
      have ly := HNv.out.lt
      cases hok : unfOk g with
      | false =>
        go_wp2_with fail
        go_ret
        exact ⟨rfl, HB5.out⟩
      | true =>
        have HQ := hide (HPE.out hok)
        go_wp2_with fail
        go_ret
        refine ⟨?_, HB5.out⟩
        have hq : (Ne.bs L).toList.isEmpty = ((unfR g).k == 1) := by
          rw [← HQ.out]
          cases (Ne.bs L).toList <;> rfl
        simp [hq]
    case pos =>
      have hki : (k : Int) < (L.length : Int) := by omega
      obtain ⟨hrole, hlt⟩ := seen_at HLS.out hkl
      obtain ⟨hin, hget, hdr⟩ := Ne.head_at hkl
      have hex : (Ne.bs L).extract k (k + 1) = ⟨#[Ne.hdC (L.drop k)]⟩ := by
        apply ByteArray.ext
        simp only [Ne.bs, ByteArray.data_extract, List.extract_toArray]
        rw [List.extract_eq_take_drop, show k + 1 - k = 1 by omega, hdr]
        rfl
      have hrq : ∀ W : World, Calls Tryd.prog 20 #[.string ⟨#[Ne.hdC (L.drop k)]⟩] W fun e w' => e = .returned (.bool true) ∧ w' = W := fun W => by
        have h9 := implRole ⟨#[Ne.hdC (L.drop k)]⟩ W
        rw [hrole] at h9
        exact h9.mono fun e w' h => ⟨h.1, h.2.symm⟩
      have HRQ := hide hrq
      by_cases hk0 : k = 0
      case pos =>
        subst hk0
        clear hrq hdr
        go_wp2_with fail
        go_quiet (first | (go_at_call 20; refine Calls.quiet_of_same (HRQ.out _)))
        go_wp2_with fail
        go_roundw
        case rel => exact ⟨1, rfl, by omega, HN.out.below (below_drewN (Below.refl _ _) _), below_drewN HB.out _⟩
        case measure => simp [intOf]; omega
      case neg =>
        obtain ⟨j, hjk⟩ : ∃ j, k = j + 1 := ⟨k - 1, by omega⟩
        obtain ⟨hinj, hgetj, -⟩ := Ne.head_at (show j < L.length by omega)
        have hlt2 := hlt (by omega)
        rw [show k - 1 = j by omega] at hlt2
        have hge : ¬ (((Ne.bs L)[k]'hin).toNat : Int) ≤ (((Ne.bs L)[j]'hinj).toNat : Int) := by rw [hget, hgetj]; omega
        have hj : (k : Int) - 1 = (j : Int) := by omega
        have hk1 : (0 : Int) < (k : Int) := by omega
        have hwk : IntKind.i64.wrap ((k : Int) + 1) = (k : Int) + 1 := by simp [IntKind.wrap, IntKind.bits, IntKind.signed]; omega
        have hkn : ((k : Int) + 1).toNat = k + 1 := by omega
        have hjl : j < L.length := by omega
        have q1 : (k : Int) + 1 ≤ ((Ne.bs L).size : Int) := by omega
        have q2 : (k : Int) + 1 ≤ (L.length : Int) := by omega
        have q3 : k + 1 ≤ L.length := by omega
        have d1 : decide (0 < k) = true := decide_eq_true (by omega)
        have d2 : decide ((0 : Int) < (k : Int)) = true := decide_eq_true (by omega)
        have q4 : (k : Int) ≤ (k : Int) + 1 := by omega
        have q5 : (0 : Int) ≤ (k : Int) := by omega
        have q6 : (0 : Int) ≤ (k : Int) + 1 := by omega
        have HJK := hide hjk
        clear hrq hdr hget hgetj hlt hlt2 hk0 hjk
        go_wp2_with fail
        go_quiet (first | (go_at_call 20; refine Calls.quiet_of_same (HRQ.out _)))
        go_wp2_with fail
        go_roundw
        case rel => exact ⟨k + 1, congrArg (Value.int .i64) (by omega), by omega, HN.out.below (below_drewN (Below.refl _ _) _), below_drewN HB.out _⟩
        case measure => simp [intOf]; omega

theorem lpe_walk (w : World) (sv : Value) (l : List Nat) (hs : SlG elY w sv l) : Calls Tryd.prog 4 #[sv] w fun e w' => e = .returned (.bool true) ∧ Below w.heap.size w w' := by
  obtain ⟨a, c, rfl, h1, h2, h3⟩ := hs
  by_cases h : l.length ≤ 1048576
  · exact lpe_small w a c l ⟨a, c, rfl, h1, h2, h3⟩ h
  · exact lpe_big w a l.length c (by omega)
end Go.Proofs.YtgcefippeokmcaaDoor.Lo
