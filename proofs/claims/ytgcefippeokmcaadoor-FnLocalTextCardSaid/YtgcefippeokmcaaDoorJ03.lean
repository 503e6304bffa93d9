/- Pk, LSv -/
import Derived.Test.YtgcefippeokmcaaDoorJ02
import Derived.Deep.AppendLies
import Derived.Deep.Cut
import Derived.Deep.RegionWith
import Derived.Deep.RegionHeld3
import Derived.Test.YtgcefippeokmcaaDoorJ00
import Derived.BigQuiet
import Derived.Deep.QuietTactic
/- readLocal of the program: an action. -/
namespace Go.Proofs.YtgcefippeokmcaaDoor.Lo.Ne
open Go.RowKit

theorem inf_lb : (Tryd.prog.info? ( /- t -/ 65)).map (fun i => (i.zero, i.size, i.bytes)) = some (some (.agg #[.string ⟨#[]⟩, .int .i64 0, .string ⟨#[]⟩, .int .i64 0, .slice none 0 0]), 5, 72) := by kernel_rfl
theorem gr_only {w w' : World} {base c : Nat} {v : Value} {f : F} {bs : List Nat} (h : Gr w base v f bs) (ho : Only c w w') (hc : c < base) : Gr w' base v f bs :=
  h.same (fun b hb => ho.block b (h.lt b hb) (by have := h.ge b hb; omega))
theorem box4_set3 {w : World} {b : Nat} {v0 v1 v2 v3 : Value} (h : Box4 w b v0 v1 v2 v3) (u : Value) : Box4 (w.setCell ⟨b, 3, none⟩ u) b v0 v1 v2 u := by
  obtain ⟨t, h⟩ := h
  exact ⟨t, heap_setCell_same h _⟩
theorem box4_set0 {w : World} {b : Nat} {v0 v1 v2 v3 : Value} (h : Box4 w b v0 v1 v2 v3) (u : Value) : Box4 (w.setCell ⟨b, 0, none⟩ u) b u v1 v2 v3 := by
  obtain ⟨t, h⟩ := h
  exact ⟨t, heap_setCell_same h _⟩
theorem box4_setOther {w : World} {b : Nat} {v0 v1 v2 v3 : Value} (h : Box4 w b v0 v1 v2 v3) {p : Addr} (hp : b ≠ p.block) (u : Value) : Box4 (w.setCell p u) b v0 v1 v2 v3 := h.same (Below.heap_setCell _ _ _ _ hp)
theorem rd_setOther {w : World} {c : Nat} {s : List UInt8} (h : Rd w c s) {p : Addr} (hp : c ≠ p.block) (u : Value) : Rd (w.setCell p u) c s := h.same (Below.heap_setCell _ _ _ _ hp)
theorem role2 (w : World) (c : Nat) (s : List UInt8) (hs : s.length ≤ 1048576) (h : Rd w c s) :
    Calls Tryd.prog 119 #[.pointer (some ⟨c, 0, none⟩), .string ⟨#[65, 66, 67]⟩] w fun e w' => e = .returned (.string (rlet (hdC s))) ∧ Rd w' c s.tail ∧ Only c w w' := by
  have := rd_role w c s hs h
  rw [hdB_eq] at this
  exact this
theorem lab2 (w : World) (c : Nat) (s : List UInt8) (hs : s.length ≤ 1048576) (h : Rd w c s) :
    Calls Tryd.prog 119 #[.pointer (some ⟨c, 0, none⟩), .string ⟨#[97, 98, 99, 100]⟩] w fun e w' => e = .returned (.string (llet (hdC s))) ∧ Rd w' c s.tail ∧ Only c w w' := by
  have := rd_lab w c s hs h
  rw [hdB_eq] at this
  exact this
theorem mark2 (w : World) (c : Nat) (s : List UInt8) (hs : s.length ≤ 1048576) (h : Rd w c s) :
    Calls Tryd.prog 120 #[.pointer (some ⟨c, 0, none⟩)] w fun e w' => e = .returned (.tuple #[.bool (hdC s == 63), .bool (hdC s == 63 || hdC s == 33)]) ∧ Rd w' c s.tail ∧ Only c w w' := by
  have := rd_mark w c s hs h
  rw [hdB_eq] at this
  exact this
theorem skip2 (w : World) (c : Nat) (s : List UInt8) (d : UInt8) (hs : s.length ≤ 1048576) (h : Rd w c s) :
    Calls Tryd.prog 117 #[.pointer (some ⟨c, 0, none⟩), .int .u8 d.toNat] w fun e w' => e = .returned (.bool (nxC s d)) ∧ Rd w' c (if nxC s d then s.tail else s) ∧ Only c w w' := by
  rw [← nxt_eq]
  exact rd_skip w c s d hs h

/-- What holds at each round's head of the loop over the branches. -/
def RlRel (n c A : Nat) (s s2 : List UInt8) (kk : Int) (pr : ByteArray) (w : World) (sv : Value) (wr : World) : Prop :=
  ∃ (m : Nat) (sep : UInt8) (s' : List UInt8) (acc : F) (v : Value) (bs : List Nat), sv = .int .u8 sep.toNat ∧ Rd wr c s' ∧ Box4 wr A (.int .i64 kk) (.string pr) (.int .i64 0) v ∧ Gr wr (A + 1) v acc bs ∧ s'.length < m ∧ m ≤ n ∧
    rlB m sep s' acc = rlB n 123 s2 .nil ∧ acc.len + s'.length ≤ s.length ∧ Only c w wr ∧ Box4 wr w.heap.size (.int .i64 0) (.string ⟨#[]⟩) (.int .i64 0) (.slice none 0 0)

theorem rl_act_map {n : Nat} {s : List UInt8} (h1 : nxC s 46 = false) (h2 : nxC s 35 = false) (h3 : nxC s 64 = false) (h4 : hdC s.tail = 33 ∨ hdC s.tail = 63) {kk : Int} (hk : kk = if hdC s.tail = 63 then 3 else 2) :
    rl (n + 1) s = (rlB n 123 s.tail.tail .nil).map (fun q => (⟨kk, rlet (hdC s), 0, q.1⟩, q.2)) := by
  rw [rl_act h1 h2 h3 h4, hk]
  cases rlB n 123 s.tail.tail .nil <;> rfl
theorem rl_fin {n m c : Nat} {s s2 s' : List UInt8} {sep : UInt8} {acc : F} {kk : Int} {pr : ByteArray} {w w' : World} {va : Option Addr} {vl vc : Nat} {bs : List Nat} (hm : s'.length < m)
    (hk : rl (n + 1) s = (rlB n 123 s2 .nil).map (fun q => (⟨kk, pr, 0, q.1⟩, q.2))) (hb : rlB m sep s' acc = rlB n 123 s2 .nil) (hsep : nxC s' sep = false)
    (ho : Only c w w') (how : Ow w' (.slice va vl vc) acc bs) (hge : ∀ b, b ∈ bs → w.heap.size ≤ b) (hnd : bs.Nodup) (hr : Rd w' c (if nxC s' 125 then s'.tail else s')) :
    RlPost (n + 1) c s w (.returned (.tuple #[.agg #[.int .i64 kk, .string pr, .int .i64 0, .slice va vl vc], .bool (nxC s' 125)])) w' := by
  obtain ⟨m, rfl⟩ : ∃ q, m = q + 1 := ⟨m - 1, by omega⟩
  cases h125 : nxC s' 125 with
  | true =>
    rw [h125] at hr
    rw [rlB_end hsep h125] at hb
    rw [← hb] at hk
    exact rl_yes (N := ⟨kk, pr, 0, acc⟩) hk ho how hge hnd hr
  | false =>
    rw [rlB_no hsep h125] at hb
    rw [← hb] at hk
    exact rl_not hk ho

set_option maxHeartbeats 6000000 in
set_option maxRecDepth 100000 in
theorem rl_action (n : Nat) (ih : ∀ k, k ≤ n → RlAt k) (w : World) (c : Nat) (s : List UInt8) (hn : s.length < n + 1) (hs : s.length ≤ 1048576) (hr : Rd w c s) (h46 : nxC s 46 = false) (h35 : nxC s 35 = false) (h64 : nxC s 64 = false) :
    Calls Tryd.prog 72 #[.pointer (some ⟨c, 0, none⟩)] w (RlPost (n + 1) c s w) := by
  obtain ⟨hx, hr0, ho, hne⟩ := rl_start hr ( /- t -/ 25)
  have hcw := hr.lt
  have HX := hide hx
  have HR := hide hr0
  have HO := hide ho
  have H46 := hide h46
  have H35 := hide h35
  have H64 := hide h64
  have hst : s.tail.length ≤ 1048576 := by have := tail_le s; omega
  have hst2 : s.tail.tail.length ≤ 1048576 := by have := tail_le s; have := tail_le s.tail; omega
  clear hr hx hr0 ho h46 h35 h64
  go_enter Tryd.func72, Tryd.ntmps72
  go_wp2_with fail
  generalize w.alloc (.cells #[.int .i64 0, .string ⟨#[]⟩, .int .i64 0, .slice none 0 0] ( /- t -/ 25)) = W at *
  refine (sk46 W c s hs HR.out).mono ?_
  rintro e w1 ⟨rfl, hr1, ho1⟩
  rw [H46.out] at hr1 ⊢
  have HR1 : Hid (Rd w1 c s) := hide hr1
  have HX1 := hide (box4_only HX.out ho1 hne)
  have HO1 := hide (HO.out.trans ho1)
  clear hr1 ho1
  go_wp2_with fail
  refine (sk35 w1 c s hs HR1.out).mono ?_
  rintro e w2 ⟨rfl, hr2, ho2⟩
  rw [H35.out] at hr2 ⊢
  have HR2 : Hid (Rd w2 c s) := hide hr2
  have HX2 := hide (box4_only HX1.out ho2 hne)
  have HO2 := hide (HO1.out.trans ho2)
  clear hr2 ho2
  go_wp2_with fail
  refine (sk64 w2 c s hs HR2.out).mono ?_
  rintro e w3 ⟨rfl, hr3, ho3⟩
  rw [H64.out] at hr3 ⊢
  have HR3 : Hid (Rd w3 c s) := hide hr3
  have HX3 := hide (box4_only HX2.out ho3 hne)
  have HO3 := hide (HO2.out.trans ho3)
  clear hr3 ho3
  go_wp2_with fail
  refine (role2 w3 c s hs HR3.out).mono ?_
  rintro e w4 ⟨rfl, hr4, ho4⟩
  have hx4 := box4_only HX3.out ho4 hne
  have hb4 := alloc_below w4 (.cells #[.int .i64 2, .string (rlet (hdC s)), .int .i64 0, .slice none 0 0] ( /- t -/ 25))
  have HA := hide (Box4.now w4 (.int .i64 2) (.string (rlet (hdC s))) (.int .i64 0) (.slice none 0 0) ( /- t -/ 25))
  have HX4 := hide (hx4.below hb4)
  have HO4 := hide ((HO3.out.trans ho4).below hb4)
  have HR4 := hide (hr4.below hb4)
  have hwa : w.heap.size < w4.heap.size := hx4.lt
  clear hr4 ho4 hx4 hb4
  go_wp2_with fail
  generalize hAA : w4.heap.size = A at *
  generalize w4.alloc (.cells #[.int .i64 2, .string (rlet (hdC s)), .int .i64 0, .slice none 0 0] ( /- t -/ 25)) = W4 at *
  have hca : A ≠ c := by omega
  refine (mark2 W4 c s.tail hst HR4.out).mono ?_
  rintro e w5 ⟨rfl, hr5, ho5⟩
  have HX5 := hide (box4_only HX4.out ho5 hne)
  have HA5 := hide (box4_only HA.out ho5 hca)
  have HO5 := hide (HO4.out.trans ho5)
  have HR5 := hide hr5
  clear hr5 ho5
  by_cases hm : hdC s.tail = 33 ∨ hdC s.tail = 63
  case neg =>
    have HN := hide (rl_act_no (n := n) H46.out H35.out H64.out hm)
    have q1 : (hdC s.tail == 63) = false := beq_eq_false_iff_ne.2 (fun h => hm (Or.inr h))
    have q2 : (hdC s.tail == 33) = false := beq_eq_false_iff_ne.2 (fun h => hm (Or.inl h))
    rw [q1, q2]
    obtain ⟨y0, y1, y2, y3⟩ := HX5.out.cells
    have hf := box4_frozen HX5.out
    have hl := HX5.out.lt
    clear hm q1 q2
    go_wp2_with fail
    refine bodyPost_ret (v := .tuple #[.agg #[.int .i64 0, .string ⟨#[]⟩, .int .i64 0, .slice none 0 0], .bool false]) (by simp [results, Tryd.results72, go_sem, *]) rfl ?_
    exact rl_not HN.out (only_set4 HO5.out _ _ _ _)
  obtain ⟨kk, hkk⟩ : ∃ kk : Int, kk = if hdC s.tail = 63 then 3 else 2 := ⟨_, rfl⟩
  have HRL := hide (rl_act_map (n := n) H46.out H35.out H64.out hm hkk)
  have hn2 : s.tail.tail.length < n := by
    have h1 : s.tail.tail.length < s.tail.length := by
      cases h : s.tail with
      | nil => rw [h] at hm; rcases hm with h | h <;> (revert h; decide)
      | cons a b => simp
    have := tail_le s
    omega
  have hst1 : s.tail.tail.length ≤ s.length := by have := tail_le s; have := tail_le s.tail; omega
  generalize hpr : rlet (hdC s) = pr at *
  have e23 : (hdC s.tail = 63 → kk = 3) ∧ (¬ hdC s.tail = 63 → kk = 2) := ⟨fun h => by rw [hkk, if_pos h], fun h => by rw [hkk, if_neg h]⟩
  obtain ⟨i0, hi, hz0, hz1, hz2⟩ := info_parts inf_lb
  have HI := hide (And.intro hi (And.intro hz0 (And.intro hz1 hz2)))
  have HIH := hide ih
  have HS2 := hide hs
  clear hi hz0 hz1 hz2 hkk hpr ih
  clear HX HX1 HX2 HX3 HX4 HR HR1 HR2 HR3 HR4 HO HO1 HO2 HO3 HO4 HA
  rcases Decidable.em (hdC s.tail = 63) with h63 | h63
  all_goals
    (first
     | ((have h2k := e23.1 h63); (have q1 : (hdC s.tail == 63) = true := beq_iff_eq.2 h63);
        (have q2 : (hdC s.tail == 63 || hdC s.tail == 33) = true := by rw [q1]; rfl);
        rw [q2, q1];
        obtain ⟨a0, a1, a2, a3⟩ := HA5.out.cells;
        (have fa := box4_frozen HA5.out);
        (have al := HA5.out.lt);
        clear h63 q1 q2 e23 hm;
        go_upto_region 15 with fail;
        (have HA6 := hide (box4_set0 HA5.out (.int .i64 3)));
        (have HX6 := hide (box4_setOther HX5.out (p := ⟨A, 0, none⟩) (by simp; omega) (.int .i64 3)));
        (have HR6 := hide (rd_setOther HR5.out (p := ⟨A, 0, none⟩) (by simp; omega) (.int .i64 3)));
        (have HO6 := hide (HO5.out.setCell (p := ⟨A, 0, none⟩) (Or.inr (by simp; omega)) (.int .i64 3)));
        clear a0 a1 a2 a3 fa al HA5 HX5 HR5 HO5;
        generalize w5.setCell ⟨A, 0, none⟩ (.int .i64 3) = W6 at *;
        rw [← h2k] at HA6)
     | ((have h2k := e23.2 h63); (have q1 : (hdC s.tail == 63) = false := beq_eq_false_iff_ne.2 h63);
        (have q3 : hdC s.tail = 33 := by rcases hm with h | h; exact h; exact absurd h h63);
        (have q2 : (hdC s.tail == 63 || hdC s.tail == 33) = true := by rw [q1, q3]; rfl);
        rw [q2, q1];
        clear h63 q1 q2 q3 e23 hm;
        go_upto_region 15 with fail;
        (have HA6 := hide HA5.out);
        (have HX6 := hide HX5.out);
        (have HR6 := hide HR5.out);
        (have HO6 := hide HO5.out);
        clear HA5 HX5 HR5 HO5;
        generalize w5 = W6 at *;
        rw [← h2k] at HA6))
  all_goals
    (clear h2k
     go_wp2_with fail
     go_loopw [11] (fun sv wr => RlRel n c A s s.tail.tail kk pr w sv wr) (fun _ wr => rdLen wr c)
     case atStart =>
       exact ⟨n, 123, s.tail.tail, .nil, _, [], rfl, HR6.out, HA6.out, Gr.nil _ _, hn2, Nat.le_refl _, rfl, by simp only [F.len]; omega, HO6.out, HX6.out⟩
     case round =>
       obtain ⟨m, sep, s', acc, v, bs, rfl, hrd, hbx, hgr, hlm, hmn, hbq, hal, ho, hz⟩ := hrel
       obtain ⟨va, vc, rfl⟩ := hgr.val
       have hs' : s'.length ≤ 1048576 := by have := HS2.out; omega
       have HR := hide hrd
       have HX := hide hz
       have HA := hide hbx
       have HG := hide hgr
       have HO := hide ho
       have HB := hide hbq
       have HL := hide hlm
       clear HR6 HA6 HO6 HX6 hrd hbx hgr hbq ho hz hlm
       go_wp2_with fail
       refine (skip2 wr c s' sep hs' HR.out).mono ?_
       rintro e w6 ⟨rfl, hr6, ho6⟩
       have HX6 := hide (box4_only HX.out ho6 hne)
       have HA6 := hide (box4_only HA.out ho6 hca)
       have HG6 := hide (gr_only HG.out ho6 (by omega))
       have HO6 := hide (HO.out.trans ho6)
       clear HX HA HG HO ho6
       cases hsep : nxC s' sep with
       | false =>
         rw [hsep] at hr6
         have HR6 := hide hr6
         have HSP := hide hsep
         clear HR hr6 hsep
         go_upto_region 23 with fail
         have HX7 := hide (HX6.out.drew)
         have HA7 := hide (HA6.out.drew)
         have HR7 := hide (HR6.out.drew)
         have HO7 := hide (HO6.out.drew)
         have HG7 := hide (HG6.out.below ((Below.refl _ w6).drew))
         clear HX6 HA6 HR6 HO6 HG6
         obtain ⟨x0, x1, x2, x3⟩ := HX7.out.cells
         have fx := box4_frozen HX7.out
         have lx := HX7.out.lt
         obtain ⟨b0, b1, b2, b3⟩ := HA7.out.cells
         have al := HA7.out.lt
         go_region_with (first
           | (go_at_call 117; refine (sk125 _ c s' hs' HR7.out).mono ?_; rintro e w7 ⟨rfl, hr7, ho7⟩;
              (have hx7 := box4_only HX7.out ho7 hne); (have ha7 := box4_only HA7.out ho7 hca); obtain ⟨y0, y1, y2, y3⟩ := hx7.cells; (have fy := box4_frozen hx7); (have ly := hx7.lt); obtain ⟨c0, c1, c2, c3⟩ := ha7.cells; (have bl := ha7.lt))
           | fail)
         all_goals
           (go_wp2_with fail
            refine bodyPost_ret (v := .tuple #[.agg #[.int .i64 kk, .string pr, .int .i64 0, .slice va acc.len vc], .bool (nxC s' 125)]) (by simp [results, Tryd.results72, go_sem, *]) rfl ?_
            refine rl_fin HL.out HRL.out HB.out HSP.out (only_set4 (HO7.out.trans ho7) _ _ _ _) (bs := bs) ?_ ?_ ?_ (rd_set4 hr7 hne _ _ _ _)
            · exact ow_set4 (gr_only HG7.out ho7 (by omega)).ow (fun b hb => by have := HG7.out.ge b hb; omega) _ _ _ _
            · exact fun b hb => by have := HG7.out.ge b hb; omega
            · exact HG7.out.nodup)
       | true =>
         rw [hsep] at hr6
         have HR6 := hide (show Rd w6 c s'.tail from hr6)
         have HME := hide HR.out.len
         have HSP := hide hsep
         have ht1 : s'.tail.length < s'.length := nxC_len hsep
         have hs2 : s'.tail.length ≤ 1048576 := by omega
         have ht2 : s'.tail.tail.length ≤ s'.tail.length := tail_le _
         clear HR hr6 hsep
         go_wp2_with fail
         refine (lab2 w6 c s'.tail hs2 HR6.out).mono ?_
         rintro e w7 ⟨rfl, hr7, ho7⟩
         have HR7 := hide hr7
         have HX7 := hide (box4_only HX6.out ho7 hne)
         have HA7 := hide (box4_only HA6.out ho7 hca)
         have HG7 := hide (gr_only HG6.out ho7 (by omega))
         have HO7 := hide (HO6.out.trans ho7)
         clear HX6 HA6 HG6 HO6 HR6 hr7 ho7
         have hlm := HL.out
         obtain ⟨m, rfl⟩ : ∃ q, m = q + 1 := ⟨m - 1, by omega⟩
         go_wp2_with fail
         refine (HIH.out m (by omega) w7 c s'.tail.tail (by omega) (by omega) HR7.out).mono ?_
         intro e w8 hp
         have HX8 := hide (box4_only HX7.out hp.1 hne)
         have HA8 := hide (box4_only HA7.out hp.1 hca)
         have HG8 := hide (gr_only HG7.out hp.1 (by omega))
         have HBL := hide HG7.out.lt
         have HO8 := hide (HO7.out.trans hp.1)
         have hsz := hp.1.size
         have hAw : A < w7.heap.size := HA7.out.lt
         clear HX7 HA7 HG7 HO7
         cases hq : rl m s'.tail.tail with
         | none =>
           obtain ⟨k, fr, ix, a, mm, cp, rfl⟩ := hp.2.2 hq
           have HQ := hide (show rl (n + 1) s = none by
             have h1 := HB.out
             rw [rlB_more HSP.out, hq] at h1
             rw [HRL.out, ← h1]
             rfl)
           obtain ⟨x0, x1, x2, x3⟩ := HX8.out.cells
           have fx := box4_frozen HX8.out
           have lx := HX8.out.lt
           clear hp hq
           go_wp2_with fail
           refine bodyPost_ret (v := .tuple #[.agg #[.int .i64 0, .string ⟨#[]⟩, .int .i64 0, .slice none 0 0], .bool false]) (by simp [results, Tryd.results72, go_sem, *]) rfl ?_
           exact rl_not HQ.out ((only_set4 HO8.out _ _ _ _).alloc _)
         | some q =>
           obtain ⟨N, t⟩ := q
           obtain ⟨u, bs2, rfl, how, hge, hnd, hr8⟩ := hp.2.1 N t hq
           obtain ⟨ua, uc, rfl⟩ := how.val
           have hrlt := ((rl_fit m).1 _ _ _ hq)
           have HF := hide hrlt.1
           have hrl2 := hrlt.2
           have HQ := hide (show rlB m 124 t (acc.app (brn (llet (hdC s'.tail)) N)) = rlB n 123 s.tail.tail .nil by
             have h1 := HB.out
             rw [rlB_more HSP.out, hq] at h1
             exact h1)
           have HLS := hide (llet_size (hdC s'.tail))
           generalize llet (hdC s'.tail) = lab at *
           have HOW := hide how
           have HGE := hide hge
           have HR8 := hide hr8
           have HND := hide hnd
           obtain ⟨o0, o1, o2, o3⟩ := HA8.out.cells
           have fo := box4_frozen HA8.out
           have hol := HA8.out.lt
           have hal2 : acc.len ≤ 1048576 := by have := HS2.out; omega
           clear hp hq how hge hr8 hnd HR7 hrlt HB
           go_wp2_with (first | (at_builtin; go_loud (refine wpList_append_lies _ rfl _ _ ( /- t -/ 23) rfl (A + 1) ( /- t -/ 65) i0 _ 5 72 Tryd.underlying23 HI.out.1 HI.out.2.1 HI.out.2.2.1 HI.out.2.2.2 rfl (by omega) (.slice va acc.len vc) acc.len (grXs ((w8.alloc (.cells #[.int .i64 N.k, .string N.fr, .int .i64 N.ix, .slice ua N.kids.len uc] ( /- t -/ 25))).alloc (.cells #[.string lab, .int .i64 N.k, .string N.fr, .int .i64 N.ix, .slice ua N.kids.len uc] ( /- t -/ 65))) (.slice va acc.len vc) acc) (by rfl) (HG8.out.below ((alloc_below w8 _).alloc (by simp) _)).owns ⟨w8.heap.size + 1, 0, none⟩ 1 1 [.string lab, .int .i64 N.k, .string N.fr, .int .i64 N.ix, .slice ua N.kids.len uc] (by rfl) (by rfl) (World.news_of_block (cs := #[.string lab, .int .i64 N.k, .string N.fr, .int .i64 N.ix, .slice ua N.kids.len uc]) (t := ( /- t -/ 65)) (fr := (0, 0)) (by have := heap_alloc_new (w8.alloc (.cells #[.int .i64 N.k, .string N.fr, .int .i64 N.ix, .slice ua N.kids.len uc] ( /- t -/ 25))) (.cells #[.string lab, .int .i64 N.k, .string N.fr, .int .i64 N.ix, .slice ua N.kids.len uc] ( /- t -/ 65)); simpa using this)) (by simp [Value.oneCell']) (by omega) (by unfold maxLen; omega) (by omega) (by simp; omega) _ rfl ?_; intro gg cp w11 hown6 hgrow6 hat6 hlt6; (have hgr6 := HG8.out.below ((alloc_below w8 (.cells #[.int .i64 N.k, .string N.fr, .int .i64 N.ix, .slice ua N.kids.len uc] ( /- t -/ 25))).alloc (by simp) (.cells #[.string lab, .int .i64 N.k, .string N.fr, .int .i64 N.ix, .slice ua N.kids.len uc] ( /- t -/ 65)))); (have hb6 := (HA8.out.below ((alloc_below w8 (.cells #[.int .i64 N.k, .string N.fr, .int .i64 N.ix, .slice ua N.kids.len uc] ( /- t -/ 25))).alloc (by simp) (.cells #[.string lab, .int .i64 N.k, .string N.fr, .int .i64 N.ix, .slice ua N.kids.len uc] ( /- t -/ 65)))).same (hgrow6.block A (by simp; omega) (fun e => by have := hgr6.ge _ (hgr6.block _ e.symm); omega))); (have e4 := hb6.cells.2.2.2); (have ef := box4_frozen hb6); (have el := hb6.lt))) | fail)
           have hb10 := (alloc_below w8 (.cells #[.int .i64 N.k, .string N.fr, .int .i64 N.ix, .slice ua N.kids.len uc] ( /- t -/ 25))).alloc (by simp) (.cells #[.string lab, .int .i64 N.k, .string N.fr, .int .i64 N.ix, .slice ua N.kids.len uc] ( /- t -/ 65))
           obtain ⟨f1, f2, f3⟩ := HF.out
           have hou := HOW.out.same (Same.of_below hb10 HOW.out.lt)
           obtain ⟨bs', hpush, -⟩ := Gr.push hgr6 (lab := lab) (fr := N.fr) (k := N.k) (ix := N.ix) hou (fun b hb => by have := HGE.out b hb; omega) HND.out
             (fun b hb hb2 => by have h8 := HBL.out b hb; have h9 := HGE.out b hb2; omega) (Nat.le_trans HLS.out (by decide)) (Nat.le_trans f1 (by decide)) f2 f3 hown6 hgrow6 (by rcases hat6 with h | h; exact Or.inl h; exact Or.inr h)
           have far : ∀ b, b < A → (w11.setCell ⟨A, 3, none⟩ (.slice (some ⟨gg, 0, none⟩) (acc.len + 1) cp)).heap[b]? = w8.heap[b]? := fun b hb => by
             rw [Below.heap_setCell _ _ _ _ (by simp; omega), hgrow6.block b (by simp; omega) (fun e => by have := hgr6.ge b (hgr6.block b e.symm); omega), hb10.block b (by omega)]
           have hss : w8.heap.size ≤ (w11.setCell ⟨A, 3, none⟩ (.slice (some ⟨gg, 0, none⟩) (acc.len + 1) cp)).heap.size := by have := hgrow6.size; simp at this ⊢; omega
           have hws := HO8.out.size
           refine ⟨⟨m, 124, t, acc.app (brn lab N), _, bs', rfl, HR8.out.same (far c (by omega)), box4_set3 hb6 _,
             hpush.same (fun b hb => Below.heap_setCell _ _ _ _ (by have := hpush.ge b hb; simp; omega)), by omega, by omega, HQ.out, by rw [F.len_app]; simp only [brn, F.len]; omega, ?_, HX8.out.same (far _ hwa)⟩, ?_⟩
           · exact ⟨hgrow6.os.trans HO8.out.os, hgrow6.tape.trans HO8.out.tape, hgrow6.output.trans HO8.out.output, Nat.le_trans hws hss, fun b hb hbc => (far b (by omega)).trans (HO8.out.block b hb hbc)⟩
           · have e1 := (HR8.out.same (far c (by omega))).len
             have e2 := HME.out
             omega)
end Go.Proofs.YtgcefippeokmcaaDoor.Lo.Ne

/- l2Branches of the model. -/
namespace Go.Proofs.YtgcefippeokmcaaDoor.Lo
open Go.RowKit

theorem below_drewN {B : Nat} {a w : World} (h : Below B a w) (n : Nat) : Below B a (w.drewN n) := ⟨h.os, h.tape, h.output, h.size, h.block⟩

theorem specLab_q (s : ByteArray) (v : Bool) (h : labB s = v) (w : World) : Calls Tryd.prog 47 #[.string s] w fun e w' => e = .returned (.bool v) ∧ w' = w :=
  (specLab s w).mono fun _ _ ⟨h1, h2⟩ => ⟨by rw [h1, h], h2.symm⟩

/-- What a round of l1Branches knows. -/
def BrRel (W : World) (a : Option Addr) (f : F) (iv : Value) (wr : World) : Prop :=
  ∃ g k p, k + g.len = f.len ∧ iv = .int .i64 (k : Nat) ∧ ascB none f = ascB p g ∧ At W a k g ∧
    ((k = 0 ∧ p = none) ∨ ∃ q k' b o, k = k' + 1 ∧ p = some q ∧ a = some ⟨b, o, none⟩ ∧ W.cell? ⟨b, o + k' * 5, none⟩ = some (.string q)) ∧ Below W.heap.size W wr

set_option maxHeartbeats 800000 in
set_option maxRecDepth 100000 in
theorem sv_branches (w : World) (f : F) (k ix : Int) (fr : ByteArray) (sv : Value) (hs : Sl w sv f) :
    Calls Tryd.prog 122 #[.agg #[.int .i64 k, .string fr, .int .i64 ix, sv]] w fun e w' => e = .returned (.bool (branchesB f)) ∧ Below w.heap.size w w' := by
  obtain ⟨a, cap, rfl, hlen, hat⟩ := hs.at
  have hb0 := alloc_below w (.cells #[.int .i64 k, .string fr, .int .i64 ix, .slice a f.len cap] ( /- t -/ 25))
  have HA := hide (hat.still (Still.of_below hb0))
  clear hs hat
  unfold maxLen at hlen
  go_enter Tryd.func122, Tryd.ntmps122
  go_wp2_with fail
  have hc4 : (w.alloc (.cells #[.int .i64 k, .string fr, .int .i64 ix, .slice a f.len cap] ( /- t -/ 25))).cell? ⟨w.heap.size, 3, none⟩ = some (.slice a f.len cap) := by go_simp
  have hsz : w.heap.size < (w.alloc (.cells #[.int .i64 k, .string fr, .int .i64 ix, .slice a f.len cap] ( /- t -/ 25))).heap.size := by simp
  generalize (w.alloc (.cells #[.int .i64 k, .string fr, .int .i64 ix, .slice a f.len cap] ( /- t -/ 25))) = W at *
  go_loopw [3] (fun iv wr => BrRel W a f iv wr) (fun iv _ => f.len - (intOf iv).toNat)
  case atStart => exact ⟨f, 0, none, by omega, rfl, rfl, HA.out, Or.inl ⟨rfl, rfl⟩, Below.refl _ _⟩
  case round =>
    obtain ⟨g, k, p, hk, rfl, hasc, hg, hp, hb⟩ := hrel
    have hd4 := (hb.cell (p := ⟨w.heap.size, 3, none⟩) hsz).trans hc4
    have HB := hide (hb0.trans (hb.mono (Nat.le_of_lt hsz)))
    have HP := hide hp
    have HS := hide hasc
    clear hp hasc hb0 hc4
    cases g with
    | nil =>
      have H5 : Hid (k = f.len) := by unfold Hid; simpa [F.len] using hk
      have hge : f.len ≤ k := Nat.le_of_eq H5.out.symm
      clear hk
      go_wp2_with fail
      all_goals go_ret
      · have h1 : (1 : Int) ≤ f.len := by assumption
        refine ⟨ret_bool ?_, HB.out⟩
        show decide ((f.len : Int) ≤ 4) = _
        unfold branchesB
        rw [HS.out, ascB, Bool.true_and]
        exact decide_eq_decide.2 (by omega)
      · have h1 : (f.len : Int) < 1 := by assumption
        refine ⟨ret_bool ?_, HB.out⟩
        unfold branchesB
        rw [HS.out, ascB, Bool.true_and]
        exact (decide_eq_false (by omega)).symm
    | cons lab kd fr' ix' kids rest =>
      have HK : Hid (k + 1 + rest.len = f.len) := by unfold Hid; simp only [F.len] at hk; omega
      have hlt : k < f.len := by have := HK.out; omega
      obtain ⟨b, o, rfl, l1, _, _, _, c0, _, _, _, _, _⟩ := (hg.still (Still.of_below hb)).head
      have HW : Hid (W.cell? ⟨b, o + k * 5, none⟩ = some (.string lab)) := by
        obtain ⟨b2, o2, e, _, _, _, _, c0', _⟩ := hg.head
        simp only [Option.some.injEq, Addr.mk.injEq, and_true] at e
        obtain ⟨rfl, rfl⟩ := e
        exact c0'
      have HG := hide hg
      clear hk hg
      cases hl : labB lab with
      | false =>
        have HL := hide hl
        clear hl
        go_wp2_with fail
        go_quiet ((go_at_call 47; exact Calls.quiet_of_same (specLab_q _ _ HL.out _)))
        go_wp2_with fail
        go_ret
        refine ⟨ret_bool ?_, below_drewN HB.out _⟩
        unfold branchesB
        rw [HS.out]
        cases p <;> simp [ascB, HL.out]
      | true =>
        have HL := hide hl
        clear hl
        rcases HP.out with ⟨hk0, rfl⟩ | ⟨q, k', b', o', rfl, rfl, e1, e2⟩
        · have hd0 : decide (0 < k) = false := by rw [hk0]; rfl
          have HK0 := hide hk0
          clear hk0
          go_wp2_with fail
          go_quiet ((go_at_call 47; exact Calls.quiet_of_same (specLab_q _ _ HL.out _)))
          go_wp2_with fail
          refine ⟨⟨rest, k + 1, some lab, by have := HK.out; omega, by go_num, ?_, HG.out.tail, Or.inr ⟨lab, k, b, o, rfl, rfl, rfl, HW.out⟩, below_drewN hb _⟩, by simp [intOf]; omega⟩
          rw [HS.out]
          simp [ascB, HL.out]
        · simp only [Option.some.injEq, Addr.mk.injEq, and_true] at e1
          obtain ⟨rfl, rfl⟩ := e1
          have d0 := (Still.of_below hb) _ _ e2
          clear e2
          cases hbl : Op.bytesLess q.toList lab.toList with
          | false =>
            go_wp2_with fail
            go_quiet ((go_at_call 47; exact Calls.quiet_of_same (specLab_q _ _ HL.out _)))
            go_wp2_with fail
            go_ret
            refine ⟨ret_bool ?_, below_drewN HB.out _⟩
            unfold branchesB
            rw [HS.out]
            simp [ascB, HL.out, hbl]
          | true =>
            go_wp2_with fail
            go_quiet ((go_at_call 47; exact Calls.quiet_of_same (specLab_q _ _ HL.out _)))
            go_wp2_with fail
            refine ⟨⟨rest, k' + 1 + 1, some lab, by have := HK.out; omega, by go_num, ?_, HG.out.tail, Or.inr ⟨lab, k' + 1, b, o, rfl, rfl, rfl, HW.out⟩, below_drewN hb _⟩, by simp [intOf]; omega⟩
            rw [HS.out]
            simp [ascB, HL.out, hbl]
end Go.Proofs.YtgcefippeokmcaaDoor.Lo
