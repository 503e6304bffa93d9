/- Ct, LKb, LKu, Cy, Cz -/
import Derived.Test.YtbonmdkfmgahbaaGreatDoorIs
import Derived.Test.YtbonmdkfmgahbaaGreatDoorRi
import Derived.Test.YtbonmdkfmgahbaaGreatDoorLKl
import Derived.Test.YtbonmdkfmgahbaaGreatDoorLKa
import Derived.Deep.LoopGhost
import Derived.Test.YtbonmdkfmgahbaaGreatDoorMn
import Derived.Test.YtbonmdkfmgahbaaGreatDoorGa
import Derived.Deep.RegionHeld3
/- Whether a string contains a letter: strings.Contains, l4Contains of the model. -/
namespace Go.Proofs.YtbonmdkfmgahbaaGreatDoor
open Go.RowKit

set_option maxHeartbeats 400000 in
theorem contains_one (s : ByteArray) (c : UInt8) (w : World) : Calls Tryz.prog 54 #[.string s, .string ⟨#[c]⟩] w fun e w' => e = .returned (.bool (hasB s c)) ∧ w = w' := by
  have h72 := run_bytes
  by_cases hsc : s = ⟨#[c]⟩
  · subst hsc
    go_enter Tryz.func54, Tryz.ntmps54
    go_wp2
    go_ret
    exact ⟨ret_bool (by unfold hasB; simp), rfl⟩
  · have hnb : ([c] == s.toList) = false := beq_eq_false_iff_ne.2 (fun h => hsc (by
      rw [ByteArray.toList_eq] at h
      exact ByteArray.ext (Array.toList_inj.1 h.symm)))
    clear hsc
    go_enter Tryz.func54, Tryz.ntmps54
    go_wp2
    go_ret
    refine ⟨ret_bool ?_, rfl⟩
    unfold hasB
    rw [one_head, Lib.contains_iff_indexByte]

theorem drop_byte {s : ByteArray} {k : Nat} (h : k < s.size) : s.data.toList.drop k = s[k]'h :: s.data.toList.drop (k + 1) := by
  rw [List.drop_eq_getElem_cons (by rw [Array.length_toList]; exact h)]
  rfl
theorem extract_byte {s : ByteArray} {k : Nat} (h : k < s.size) : s.extract k (k + 1) = ⟨#[s[k]'h]⟩ := by
  apply ByteArray.ext
  apply Array.toList_inj.1
  rw [ByteArray.data_extract, Array.toList_extract, List.extract_eq_take_drop, show k + 1 - k = 1 by omega, drop_byte h]
  rfl

set_option maxHeartbeats 800000 in
/-- l4Contains of the model. -/
theorem specContains (s : ByteArray) (c : UInt8) (w : World) (hs : s.size ≤ 1048576) : Calls Tryz.prog 37 #[.string s, .string ⟨#[c]⟩] w fun e w' => e = .returned (.bool (hasB s c)) ∧ w = w' := by
  go_enter Tryz.func37, Tryz.ntmps37
  go_wp2_with fail
  go_loopw [5] (fun iv wr => ∃ k : Nat, iv = .int .i64 k ∧ k ≤ s.size ∧ (s.data.toList.drop k).contains c = hasB s c ∧ wr = w) (fun iv _ => s.size - (intOf iv).toNat)
  case atStart => exact ⟨0, rfl, Nat.zero_le _, rfl, rfl⟩
  case round =>
    obtain ⟨k, rfl, hk, hc, rfl⟩ := hrel
    have HC := hide hc
    clear hc
    by_cases hlt : k < s.size
    · have hl : (k : Int) < (s.size : Int) := by omega
      have he := extract_byte hlt
      have hd := drop_byte hlt
      generalize s[k]'hlt = x at *
      by_cases hx : x = c
      · subst hx
        have hxx : (x == x) = true := beq_self_eq_true x
        have HR := hide (show hasB s x = true by rw [← HC.out, hd]; simp)
        clear hd
        go_wp2_with fail
        go_ret
        exact ⟨by rw [HR.out]; rfl, rfl⟩
      · have hxc : (x == c) = false := beq_eq_false_iff_ne.2 hx
        have HR := hide (show (s.data.toList.drop (k + 1)).contains c = hasB s c by
          rw [← HC.out, hd, List.contains_cons]
          have : (c == x) = false := beq_eq_false_iff_ne.2 (fun h => hx h.symm)
          rw [this, Bool.false_or])
        clear hd hx
        go_wp2_with fail
        exact ⟨⟨k + 1, by go_num, by omega, HR.out, trivial⟩, by simp [intOf]; omega⟩
    · have hl : ¬ (k : Int) < (s.size : Int) := by omega
      have HR := hide (show hasB s c = false by
        rw [← HC.out, List.drop_eq_nil_of_le (by rw [Array.length_toList]; show s.size ≤ k; omega)]
        rfl)
      go_wp2_with fail
      go_ret
      exact ⟨by rw [HR.out]; rfl, rfl⟩
end Go.Proofs.YtbonmdkfmgahbaaGreatDoor

/- unlinkNode of the program, whole. -/
namespace Go.Proofs.YtbonmdkfmgahbaaGreatDoor.Lo
open Go.RowKit

theorem un_all : ∀ q n, UnAt q n := by
  intro q
  induction q using Nat.strongRecOn with
  | _ q ihq =>
  intro n
  induction n with
  | zero => intro w0 w c a dp un k ix fr v lv kids es m ks hn; omega
  | succ n ihn =>
    intro w0 w c a dp un k ix fr v lv kids es m ks hn hq hk he hw hB hc0 hc ha hd1 hd2 hmd hu1 hu2 hq2 hp
    have hw2 := hw
    unfold wN at hw2
    simp only [Bool.and_eq_true] at hw2
    obtain ⟨hsh, hsc⟩ := hw2
    have hps := hp.ps.val
    have hpl : (blks (es.take m)).length = m := scope_len es m (by omega)
    by_cases h1 : k = 1
    · subst h1
      obtain ⟨hf, rfl, rfl⟩ := shape_end hsh
      have hf1 := empty_of hf
      subst hf1
      have hv : v = .iface ( /- t -/ 106) (.agg #[]) := by
        rcases hk with ⟨-, h, -⟩ | ⟨h, -⟩ | ⟨h, -⟩ | ⟨h, -⟩
        · exact h
        · omega
        · omega
        · omega
      subst hv
      have e : cpN (lenv m es) ⟨1, ⟨#[]⟩, 0, .nil⟩ = ⟨1, ⟨#[]⟩, 0, .nil⟩ := by
        rw [cpN_k (show (1 : Int) ≠ 5 by decide)]
        rfl
      rw [e]
      exact un_end w c a dp un lv (blks (es.take m)) hc ha hd1 hd2 hp
    by_cases h2 : k = 2 ∨ k = 3
    · exact un_act q n ihn w0 w c a dp un k ix fr v lv kids es m ks h2 hn hq hk he hw hB hc0 hc ha hd1 hd2 hmd hq2 hp
    by_cases h4 : k = 4
    · subst h4
      obtain ⟨hf, rfl, lab, k', fr', ix', kids', rfl, hl0⟩ := shape_rec hsh
      obtain ⟨L, T, x, ks', rfl, hbL, hLp, hln⟩ := linked_rec hk
      exact un_loop q n ihn w0 w c a dp un un fr 0 _ lv lv _ es m L ks none false hn hq hk he hw hB hc0 hc ha hd1 hd2 hmd hu1 hu2 hq2 hp (by obtain ⟨a1, c1, e, -⟩ := hps; exact ⟨a1, _, c1, e⟩) (Or.inl ⟨rfl, rfl, rfl, rfl, rfl⟩)
    by_cases h5 : k = 5
    · subst h5
      obtain ⟨hf, rfl⟩ := shape_var hsh
      have hf1 := empty_of hf
      subst hf1
      obtain ⟨p, b, g, t, rfl, rfl, rfl⟩ := linked_var hk
      have hlen : (p ++ (b, g) :: t).length = p.length + 1 + t.length := by simp; omega
      by_cases hin : p.length < m
      · have e : cpN (lenv m (p ++ (b, g) :: t)) ⟨5, ⟨#[]⟩, (p.length : Int), .nil⟩ = ⟨5, ⟨#[]⟩, (p.length : Int), .nil⟩ := by
          unfold cpN
          simp only [if_true, Int.toNat_natCast]
          rw [lenv_in m p.length _ hin (by omega)]
          rfl
        rw [e]
        obtain ⟨s1, s2⟩ := scope_in p b g t m hin (by omega)
        refine un_var w0 w c a dp un p.length (m - 1 - p.length) b lv _ hB hc0 hc ha hd1 hd2 hp (scope_nodup _ _ he) (fun x hx => he.blk _ x (scope_mem hx)) s1 s2 ?_
        rw [hpl]
        omega
      · have e : cpN (lenv m (p ++ (b, g) :: t)) ⟨5, ⟨#[]⟩, (p.length : Int), .nil⟩ = cpN (lvals t) g := by
          conv => lhs; unfold cpN
          simp only [if_true, Int.toNat_natCast]
          rw [lenv_out m p b g t (by omega)]
        rw [e]
        obtain ⟨g4, gw, ⟨kg, gl⟩, gb, ge⟩ := EnvL.suffix p _ he
        obtain ⟨gk, gf, gi, gq⟩ := g
        simp only at g4
        subst g4
        have hq' : t.length < q := by omega
        exact un_loop t.length (gq.sz + 1) (ihq _ hq' _) w0 w c a dp un 0 gf gi _ lv (.slice none 0 0) gq t 0 b kg (some ⟨b, 0, none⟩) true (by omega) rfl gl ge gw hB hc0 hc ha hd1 hd2 (by omega) (by omega) (by omega) (by omega) (by rw [List.take_zero]; exact Pt.nil w)
          (by obtain ⟨a1, c1, e, -⟩ := hps; exact ⟨a1, _, c1, e⟩) (Or.inr ⟨rfl, rfl, rfl, rfl, rfl, rfl, _, hp, scope_out p b _ t m (by omega) he, by rw [hpl]; omega, fun x hx => he.blk _ x (scope_mem hx)⟩)
    · simp [shapeB, h1, h2, h4, h5] at hsh

/-- unlinkNode, at a place without recursions around. -/
theorem unlink_calls (w0 w : World) (c : Nat) (k ix : Int) (fr : ByteArray) (v : Value) (kids : F) (es : List (Nat × Nd)) (ks : List Nat) (hl : es.length ≤ 1000) (hk : LkN w0 k fr ix kids (blks es) v ks) (he : EnvL w0 es) (hw : wN ⟨k, fr, ix, kids⟩ (es.length : Int) 0 = true)
    (hB : Below w0.heap.size w0 w) (hc0 : w0.heap.size ≤ c) (hc : Ctr w c 0) :
    Calls Tryz.prog 53 #[v, .agg #[.int .i64 1, .slice none 0 0, .int .i64 0], .pointer (some ⟨c, 0, none⟩)] w (CpPost c (cpN (lvals es) ⟨k, fr, ix, kids⟩) 1 0 w) :=
  un_all es.length (kids.sz + 1) w0 w c 0 1 0 k ix fr v (.slice none 0 0) kids es 0 ks (Nat.lt_succ_self _) rfl hk he hw hB hc0 hc (by omega) (by omega) (by omega) (by omega) (by omega) (by omega) hl (by rw [List.take_zero]; exact Pt.nil w)
end Go.Proofs.YtbonmdkfmgahbaaGreatDoor.Lo

/- UnfoldLocal of the program. -/
namespace Go.Proofs.YtbonmdkfmgahbaaGreatDoor.Lo
open Go.RowKit

set_option maxHeartbeats 2000000 in
set_option maxRecDepth 100000 in
/-- unfoldLinked of the program. -/
theorem unfL_calls (w0 w : World) (g : Nd) (v : Value) (ks : List Nat) (hk : LkN w0 g.k g.fr g.ix g.kids [] v ks) (hw : wN g 0 0 = true) (hh : hN g ≤ 40) (hB : Below w0.heap.size w0 w) :
    Calls Tryz.prog 67 #[v] w fun e w' => ∃ (es : List (Nat × Nd)) (N : Nd) (v' : Value) (ks' : List Nat), e = .returned v' ∧ LkN w0 N.k N.fr N.ix N.kids (blks es) v' ks' ∧ EnvL w0 es ∧ cpN (lvals es) N = unf g ∧ wN N (es.length : Int) 0 = true ∧ es.length ≤ 41 ∧ (∃ T x, v' = .iface T x) ∧ Below w.heap.size w w' := by
  obtain ⟨T, hT⟩ : ∃ T, T = unf g := ⟨_, rfl⟩
  have HST : Hid (∃ (es : List (Nat × Nd)) (N : Nd) (ks' : List Nat), UlIs T (g.kids.sz + 1) (lvals es) N ∧ LkN w0 N.k N.fr N.ix N.kids (blks es) v ks' ∧ EnvL w0 es ∧ Below w.heap.size w w) :=
    hide ⟨[], g, ks, by rw [hT]; exact UlIs.start hw hh, hk, trivial, Below.refl _ _⟩
  have HB := hide hB
  rw [← hT]
  clear hk hw hh hB hT
  go_enter Tryz.func67, Tryz.ntmps67
  go_wp2_with fail
  go_loopg [0] (g.kids.sz + 1) (fun n vv wr => ∃ (es : List (Nat × Nd)) (N : Nd) (ks' : List Nat), UlIs T n (lvals es) N ∧ LkN w0 N.k N.fr N.ix N.kids (blks es) vv ks' ∧ EnvL w0 es ∧ Below w.heap.size w wr)
  case atStart => exact HST.out
  case round =>
    obtain ⟨es, N, ks', hul, hln, he, hb⟩ := hrel
    clear HST
    have hlw := hul.w
    have hlh := hul.h
    rw [lvals_len] at hlw hlh
    have h41 : es.length ≤ 41 := by omega
    have hw0 := wN_u _ _ _ 0 hlw (by omega)
    have hnv := not_var hlw
    rcases id hln with ⟨h1, rfl, -⟩ | ⟨h5, -⟩ | ⟨h4, L, s, u, k2, rfl, -⟩ | ⟨h2, A, r, cp, cs, xs, k2, rfl, -⟩
    · have HE := hide (And.intro (hul.stop (by omega)) (And.intro hw0 (And.intro hln he)))
      have n1 := taEndLoop
      have n2 := taEndVar
      clear hul hln he hlw hlh hw0 hnv
      go_wp2_with fail
      go_ret
      exact ⟨es, N, _, ks', rfl, HE.out.2.2.1, HE.out.2.2.2, HE.out.1, HE.out.2.1, h41, ⟨_, _, rfl⟩, hb⟩
    · exact absurd h5 hnv
    · obtain ⟨lab, k', fr', ix', kids', hkid, hw'⟩ := rec_kid hlw h4
      cases gk with
      | zero => exact absurd hul.sz (by omega)
      | succ n =>
      have hfit : Fit (cpN (lvals es) N) := cpN_fit (EnvL.fits es he (by omega)) (fit_of_w hw0 (by omega) (by omega))
      have hstep := hul.step h4 hfit hkid (by rw [lvals_len]; exact hw')
      have hln2 := hln
      rw [h4, hkid] at hln2
      obtain ⟨L2, T2, x, ks2, hv2, hbL, hLp, hln3⟩ := linked_rec hln2
      have hLL : L = L2 := by
        injection hv2 with _ hv2
        injection hv2 with hv2
        injection hv2 with hv2
        injection hv2 with hv2
      subst hLL
      have henv : EnvL w0 ((L, N) :: es) := ⟨h4, hw0, ⟨ks', hln⟩, hLp, he⟩
      have HR : Hid (∃ (es : List (Nat × Nd)) (N : Nd) (ks' : List Nat), UlIs T n (lvals es) N ∧ LkN w0 N.k N.fr N.ix N.kids (blks es) (.iface T2 x) ks' ∧ EnvL w0 es ∧ Below w.heap.size w wr) :=
        hide ⟨(L, N) :: es, ⟨k', fr', ix', kids'⟩, ks2, hstep, by rw [blks_cons]; exact hln3, henv, hb⟩
      have y0 : wr.cell? ⟨L, 0, none⟩ = some (.iface T2 x) := ((hbL.below HB.out).below hb).cell 0
      have yl := World.block_lt_of_cell? _ _ y0
      have n1 := taLoopLoop
      clear hul hln he hlw hlh hw0 hnv hln2 hln3 hbL hLp henv hstep hfit hkid hw' hv2 h4
      go_wp2_with fail
      go_roundg n
      case measure => omega
      case rel => exact HR.out
    · have HE := hide (And.intro (hul.stop (by omega)) (And.intro hw0 (And.intro hln he)))
      have n1 := taActLoop
      have n2 := taActVar
      clear hul hln he hlw hlh hw0 hnv
      go_wp2_with fail
      go_ret
      exact ⟨es, N, _, ks', rfl, HE.out.2.2.1, HE.out.2.2.2, HE.out.1, HE.out.2.1, h41, ⟨_, _, rfl⟩, hb⟩

/-- Whether a tree keeps the limits. -/
def smallN (N : Nd) : Bool := decide (hN N ≤ 40) && decide (N.kids.sz + 1 ≤ 400)
theorem smallN_iff (N : Nd) : smallN N = true ↔ (0 + (N.kids.sz + 1) ≤ 400 ∧ (1 : Int) + (hF N.kids : Int) ≤ 40) := by
  unfold smallN hN
  simp only [Bool.and_eq_true, decide_eq_true_eq]
  omega

set_option maxHeartbeats 2000000 in
set_option maxRecDepth 100000 in
/-- unlinkLocal of the program. -/
theorem unlinkL_calls (w0 w : World) (N R : Nd) (v : Value) (es : List (Nat × Nd)) (ks : List Nat) (hl : es.length ≤ 1000) (hk : LkN w0 N.k N.fr N.ix N.kids (blks es) v ks) (he : EnvL w0 es) (hw : wN N (es.length : Int) 0 = true) (hB : Below w0.heap.size w0 w) (hv : ∃ T x, v = .iface T x) (hR : cpN (lvals es) N = R) :
    Calls Tryz.prog 42 #[v] w (MadeR (if smallN R = true then R else zeroNd) (smallN R) w) := by
  obtain ⟨T, x, rfl⟩ := hv
  have hA := alloc_below w (.cells #[.int .i64 0, .string ⟨#[]⟩, .int .i64 0, .slice none 0 0] ( /- t -/ 28))
  have hA2 := hA.alloc (by simp) (.cells #[.int .i64 0] ( /- t -/ 3))
  have hz0 := (Box4.now w (.int .i64 0) (.string ⟨#[]⟩) (.int .i64 0) (.slice none 0 0) ( /- t -/ 28)).below (alloc_below _ (.cells #[.int .i64 0] ( /- t -/ 3)))
  have hc : Ctr ((w.alloc (.cells #[.int .i64 0, .string ⟨#[]⟩, .int .i64 0, .slice none 0 0] ( /- t -/ 28))).alloc (.cells #[.int .i64 0] ( /- t -/ 3))) (w.heap.size + 1) 0 :=
    ⟨_, by have := alloc_last (w.alloc (.cells #[.int .i64 0, .string ⟨#[]⟩, .int .i64 0, .slice none 0 0] ( /- t -/ 28))) #[.int .i64 0] ( /- t -/ 3); simpa using this⟩
  have hs := hB.size
  have HC : Hid (Calls Tryz.prog 53 #[.iface T x, .agg #[.int .i64 1, .slice none 0 0, .int .i64 0], .pointer (some ⟨w.heap.size + 1, 0, none⟩)] ((w.alloc (.cells #[.int .i64 0, .string ⟨#[]⟩, .int .i64 0, .slice none 0 0] ( /- t -/ 28))).alloc (.cells #[.int .i64 0] ( /- t -/ 3))) (CpPost (w.heap.size + 1) R 1 0 ((w.alloc (.cells #[.int .i64 0, .string ⟨#[]⟩, .int .i64 0, .slice none 0 0] ( /- t -/ 28))).alloc (.cells #[.int .i64 0] ( /- t -/ 3))))) :=
    hide (by rw [← hR]; exact unlink_calls w0 _ (w.heap.size + 1) N.k N.ix N.fr (.iface T x) N.kids es ks hl hk he hw (hB.trans (hA2.mono hs)) (by omega) hc)
  have HZ := hide hz0
  have HA := hide hA2
  obtain ⟨ok, hok⟩ : ∃ ok, ok = smallN R := ⟨_, rfl⟩
  obtain ⟨Q, hQ⟩ : ∃ Q, Q = (if smallN R = true then R else zeroNd) := ⟨_, rfl⟩
  rw [← hQ, ← hok]
  have HQ := hide (And.intro hok hQ)
  clear hA hA2 hz0 hc hk he hw hB hR hl hok hQ
  go_enter Tryz.func42, Tryz.ntmps42
  go_wp2_with fail
  refine HC.out.mono ?_
  clear HC
  have hW0 : ((w.alloc (.cells #[.int .i64 0, .string ⟨#[]⟩, .int .i64 0, .slice none 0 0] ( /- t -/ 28))).alloc (.cells #[.int .i64 0] ( /- t -/ 3))).heap.size = w.heap.size + 2 := by simp
  generalize (w.alloc (.cells #[.int .i64 0, .string ⟨#[]⟩, .int .i64 0, .slice none 0 0] ( /- t -/ 28))).alloc (.cells #[.int .i64 0] ( /- t -/ 3)) = W at *
  rintro e w1 ⟨a', ho, hc, hcase⟩
  have hz1 := HZ.out.only ho (by omega)
  have hb1 : Below w.heap.size w w1 := HA.out.trans (ho.to_below (by omega) (by omega))
  obtain ⟨z0, z1, z2, z3⟩ := hz1.cells
  have fz := hz1.frozen
  have hzl := hz1.lt
  have HB1 := hide hb1
  clear hz1 hb1 ho hc
  rcases hcase with ⟨h1, h2, h3, u, bs, rfl, how, hge, hnd⟩ | ⟨hno, rfl⟩
  · obtain ⟨ua, uc, rfl⟩ := how.val
    have hsm : ok = true ∧ Q = R := by
      have h9 := (smallN_iff R).2 ⟨h1, h2⟩
      exact ⟨HQ.out.1.trans h9, HQ.out.2.trans (if_pos h9)⟩
    have HSM := hide hsm
    have HOW := hide how
    have HGE := hide hge
    clear how hge h1 h2 h3 hsm
    go_wp2_with fail
    refine bodyPost_ret (v := .tuple #[.agg #[.int .i64 R.k, .string R.fr, .int .i64 R.ix, .slice ua R.kids.len uc], .bool true]) (by simp [results, Tryz.results42, go_sem, *]) rfl ?_
    have q : ∀ b, b ∈ bs → w.heap.size < b := fun b h => by have := HGE.out b h; omega
    rw [HSM.out.1, HSM.out.2]
    refine ⟨_, bs, rfl, HOW.out.same (same_setAll (fun b hb => Nat.ne_of_gt (q b hb)) _ _ _ _), fun b hb => Nat.le_of_lt (q b hb), hnd, ?_⟩
    exact (((HB1.out.setCell (Nat.le_refl _) _).setCell (Nat.le_refl _) _).setCell (Nat.le_refl _) _).setCell (Nat.le_refl _) _
  · have hsm : smallN R = false := by
      cases h : smallN R with
      | false => rfl
      | true => exact absurd ((smallN_iff R).1 h) hno
    have HSM : Hid (ok = false ∧ Q = zeroNd) := hide ⟨HQ.out.1.trans hsm, HQ.out.2.trans (if_neg (by rw [hsm]; decide))⟩
    clear hno hsm
    go_wp2_with fail
    refine bodyPost_ret (v := .tuple #[.agg #[.int .i64 0, .string ⟨#[]⟩, .int .i64 0, .slice none 0 0], .bool false]) (by simp [results, Tryz.results42, go_sem, *]) rfl ?_
    rw [HSM.out.1, HSM.out.2]
    refine MadeR.zero ?_
    exact (((HB1.out.setCell (Nat.le_refl _) _).setCell (Nat.le_refl _) _).setCell (Nat.le_refl _) _).setCell (Nat.le_refl _) _

set_option maxHeartbeats 2000000 in
set_option maxRecDepth 100000 in
/-- UnfoldLocal of the program. -/
theorem implUnf (w : World) (g : Nd) (sv : Value) (hs : Sl w sv g.kids) :
    Calls Tryz.prog 56 #[.agg #[.int .i64 g.k, .string g.fr, .int .i64 g.ix, sv]] w (MadeR (unfR g) (unfOk g) w) := by
  have HS := hide hs
  have hb0 := (alloc_below w (.cells #[.int .i64 g.k, .string g.fr, .int .i64 g.ix, sv] ( /- t -/ 28))).alloc (by simp) (.cells #[.int .i64 0, .string ⟨#[]⟩, .int .i64 0, .slice none 0 0] ( /- t -/ 28))
  have hz0 := Box4.now (w.alloc (.cells #[.int .i64 g.k, .string g.fr, .int .i64 g.ix, sv] ( /- t -/ 28))) (.int .i64 0) (.string ⟨#[]⟩) (.int .i64 0) (.slice none 0 0) ( /- t -/ 28)
  rw [show (w.alloc (.cells #[.int .i64 g.k, .string g.fr, .int .i64 g.ix, sv] ( /- t -/ 28))).heap.size = w.heap.size + 1 from by simp] at hz0
  have HB0 := hide hb0
  have HZ0 := hide hz0
  obtain ⟨ok, hok⟩ : ∃ ok, ok = unfOk g := ⟨_, rfl⟩
  obtain ⟨R, hR⟩ : ∃ R, R = unfR g := ⟨_, rfl⟩
  rw [← hR, ← hok]
  have HRK := hide (And.intro hok hR)
  clear hs hb0 hz0 hok hR
  go_enter Tryz.func56, Tryz.ntmps56
  go_wp2_with fail
  generalize (w.alloc (.cells #[.int .i64 g.k, .string g.fr, .int .i64 g.ix, sv] ( /- t -/ 28))).alloc (.cells #[.int .i64 0, .string ⟨#[]⟩, .int .i64 0, .slice none 0 0] ( /- t -/ 28)) = W at *
  refine (implLink W g.k g.ix g.fr sv g.kids (HS.out.still (Still.of_below HB0.out))).mono ?_
  rintro e w1 ⟨u, bs, rfl, hu, hb, hok⟩
  have HZ1 := hide (HZ0.out.below hb)
  have HB1 := hide (HB0.out.trans (hb.mono HB0.out.size))
  have HOK := hide hok
  clear hb HZ0 HB0 hok
  cases hok : okN g.k g.fr g.ix g.kids with
  | false =>
    have hr : unfOk g = false := by unfold unfOk okG; rw [hok]; rfl
    have HR := hide hr
    obtain ⟨z0, z1, z2, z3⟩ := HZ1.out.cells
    have fz := HZ1.out.frozen
    have hzl := HZ1.out.lt
    clear hok hr HOK
    rcases hu with rfl | ⟨T, x, rfl⟩
    all_goals
      go_wp2_with fail
      refine bodyPost_ret (v := .tuple #[.agg #[.int .i64 0, .string ⟨#[]⟩, .int .i64 0, .slice none 0 0], .bool false]) (by simp [results, Tryz.results56, go_sem, *]) rfl ?_
      have e1 : unfR g = zeroNd := by unfold unfR; rw [HR.out]; rfl
      rw [HRK.out.1, HRK.out.2, HR.out, e1]
      refine MadeR.zero ?_
      repeat (refine Below.setCell ?_ (by first | (simp; done) | (simp; omega)) _)
      exact HB1.out
  | true =>
    have hg : okG g = true := hok
    obtain ⟨hw, hh, hsz⟩ := okG_w hg
    have hln := (HOK.out hok).1
    obtain ⟨T, x, rfl⟩ := hln.val
    have hwT : wN (unf g) 0 0 = true := unfN_w _ _ _ (fun x hx => by simp at hx) hw
    have hOK : unfOk g = smallN (unf g) := by unfold unfOk smallN; rw [hg, okG_of_w hwT, Bool.true_and]
    have hRR : unfR g = if smallN (unf g) = true then unf g else zeroNd := by unfold unfR; rw [hOK]
    have HH := hide (And.intro hln (And.intro hw hh))
    have HRR := hide (And.intro (HRK.out.1.trans hOK) (HRK.out.2.trans hRR))
    clear hok hg hw hh hsz hln hwT hOK hRR HOK hu
    go_wp2_with fail
    refine (unfL_calls w1 w1 g _ bs HH.out.1 HH.out.2.1 HH.out.2.2 (Below.refl _ _)).mono ?_
    rintro e w2 ⟨es, N, v', ks', rfl, hln, he, hcp, hwN, h41, ⟨T2, x2, rfl⟩, hb2⟩
    have HZ2 := hide (HZ1.out.below hb2)
    have HB2 := hide (HB1.out.trans (hb2.mono HB1.out.size))
    have HL := hide (And.intro hln (And.intro he (And.intro hcp (And.intro hwN hb2))))
    clear hln he hcp hwN hb2 HZ1 HH
    go_wp2_with fail
    refine (unlinkL_calls w1 w2 N (unf g) _ es ks' (by omega) HL.out.1 HL.out.2.1 HL.out.2.2.2.1 HL.out.2.2.2.2 ⟨_, _, rfl⟩ HL.out.2.2.1).mono ?_
    rw [← HRR.out.2, ← HRR.out.1]
    rintro e w3 ⟨u3, bs3, rfl, how, hge, hnd, hb3⟩
    obtain ⟨ua, uc, rfl⟩ := how.val
    have hz3 := HZ2.out.below hb3
    have hw2l := HZ2.out.lt
    have HB3 := hide (HB2.out.trans (hb3.mono HB2.out.size))
    obtain ⟨z0, z1, z2, z3⟩ := hz3.cells
    have fz := hz3.frozen
    have hzl := hz3.lt
    have HOW := hide how
    have HGE := hide hge
    clear how hge hb3 hz3 HL HB1 HB2
    go_wp2_with fail
    refine bodyPost_ret (v := .tuple #[.agg #[.int .i64 R.k, .string R.fr, .int .i64 R.ix, .slice ua R.kids.len uc], .bool ok]) (by simp [results, Tryz.results56, go_sem, *]) rfl ?_
    have q : ∀ b, b ∈ bs3 → w.heap.size + 1 < b := fun b h => by have := HGE.out b h; omega
    refine ⟨_, bs3, rfl, HOW.out.same (same_setAll (fun b hb => Nat.ne_of_gt (q b hb)) _ _ _ _), fun b hb => by have := q b hb; omega, hnd, ?_⟩
    repeat (refine Below.setCell ?_ (by first | (simp; done) | (simp; omega)) _)
    exact HB3.out
end Go.Proofs.YtbonmdkfmgahbaaGreatDoor.Lo

/- currentType, watcherOf and MonitorValid of the program. -/
namespace Go.Proofs.YtbonmdkfmgahbaaGreatDoor.Lo
open Go.RowKit

def curOk (g : Nd) (c : UInt8) : Bool := !(hasB (peersN g.k g.fr g.ix g.kids) c) && unfOk g
def curR (g : Nd) (c : UInt8) : Nd := if curOk g c then unf g else zeroNd
theorem cur_yes {g : Nd} {c : UInt8} (h : hasB (peersN g.k g.fr g.ix g.kids) c = true) : curOk g c = false ∧ curR g c = zeroNd := by
  have e : curOk g c = false := by unfold curOk; rw [h]; rfl
  exact ⟨e, by unfold curR; rw [e]; rfl⟩
theorem cur_no {g : Nd} {c : UInt8} (h : hasB (peersN g.k g.fr g.ix g.kids) c = false) : curOk g c = unfOk g ∧ curR g c = unfR g := by
  have e : curOk g c = unfOk g := by unfold curOk; rw [h]; rfl
  exact ⟨e, by unfold curR unfR; rw [e]⟩
theorem ow_cells4 {w : World} {u : Value} {f : F} {bs : List Nat} (h : Ow w u f bs) {b : Nat} (hb : ∀ x, x ∈ bs → x ≠ b) (u0 u1 u2 u3 : Value) : Ow ((((w.setCell ⟨b, 0, none⟩ u0).setCell ⟨b, 1, none⟩ u1).setCell ⟨b, 2, none⟩ u2).setCell ⟨b, 3, none⟩ u3) u f bs := by
  refine h.same ?_
  repeat (refine Same.setCell ?_ (fun x hx => by have := hb x hx; simpa using this) _)
  exact Same.refl _ _

set_option maxHeartbeats 1600000 in
set_option maxRecDepth 100000 in
/-- currentType of the program. -/
theorem implCur (w : World) (g : Nd) (sv : Value) (c : UInt8) (hs : Sl w sv g.kids) :
    Calls Tryz.prog 47 #[.agg #[.int .i64 g.k, .string g.fr, .int .i64 g.ix, sv], .string ⟨#[c]⟩] w (MadeR (curR g c) (curOk g c) w) := by
  have HS := hide hs
  have hb0 := (alloc_below w (.cells #[.int .i64 g.k, .string g.fr, .int .i64 g.ix, sv] ( /- t -/ 28))).alloc (by simp) (.cells #[.int .i64 0, .string ⟨#[]⟩, .int .i64 0, .slice none 0 0] ( /- t -/ 28))
  have hx0 := (Box4.now w (.int .i64 g.k) (.string g.fr) (.int .i64 g.ix) sv ( /- t -/ 28)).below (alloc_below _ (.cells #[.int .i64 0, .string ⟨#[]⟩, .int .i64 0, .slice none 0 0] ( /- t -/ 28)))
  have hz0 := Box4.now (w.alloc (.cells #[.int .i64 g.k, .string g.fr, .int .i64 g.ix, sv] ( /- t -/ 28))) (.int .i64 0) (.string ⟨#[]⟩) (.int .i64 0) (.slice none 0 0) ( /- t -/ 28)
  rw [show (w.alloc (.cells #[.int .i64 g.k, .string g.fr, .int .i64 g.ix, sv] ( /- t -/ 28))).heap.size = w.heap.size + 1 from by simp] at hz0
  have HB0 := hide hb0
  have HX0 := hide hx0
  have HZ0 := hide hz0
  obtain ⟨ok, hok⟩ : ∃ ok, ok = curOk g c := ⟨_, rfl⟩
  obtain ⟨R, hR⟩ : ∃ R, R = curR g c := ⟨_, rfl⟩
  rw [← hR, ← hok]
  have HRK := hide (And.intro hok hR)
  clear hs hb0 hx0 hz0 hok hR
  go_enter Tryz.func47, Tryz.ntmps47
  go_wp2_with fail
  generalize (w.alloc (.cells #[.int .i64 g.k, .string g.fr, .int .i64 g.ix, sv] ( /- t -/ 28))).alloc (.cells #[.int .i64 0, .string ⟨#[]⟩, .int .i64 0, .slice none 0 0] ( /- t -/ 28)) = W at *
  refine (implPeers W g.k g.ix g.fr sv g.kids (HS.out.still (Still.of_below HB0.out))).mono ?_
  rintro e w1 ⟨rfl, hb⟩
  have HX1 := hide (HX0.out.below hb)
  have HZ1 := hide (HZ0.out.below hb)
  have HB1 := hide (HB0.out.trans (hb.mono HB0.out.size))
  obtain ⟨x0, x1, x2, x3⟩ := HX1.out.cells
  have hxl := HX1.out.lt
  clear hb HX0 HZ0 HB0
  go_wp2_with fail
  refine (contains_one _ c _).mono ?_
  rintro e w2 ⟨rfl, rfl⟩
  cases hh : hasB (peersN g.k g.fr g.ix g.kids) c with
  | true =>
    have HC := hide (cur_yes hh)
    obtain ⟨z0, z1, z2, z3⟩ := HZ1.out.cells
    have fz := HZ1.out.frozen
    have hzl := HZ1.out.lt
    clear hh
    go_wp2_with fail
    refine bodyPost_ret (v := .tuple #[.agg #[.int .i64 0, .string ⟨#[]⟩, .int .i64 0, .slice none 0 0], .bool false]) (by simp [results, Tryz.results47, go_sem, *]) rfl ?_
    rw [HRK.out.1, HRK.out.2, HC.out.1, HC.out.2]
    refine MadeR.zero ?_
    repeat (refine Below.setCell ?_ (by first | (simp; done) | (simp; omega)) _)
    exact HB1.out
  | false =>
    have HC := hide (cur_no hh)
    clear hh
    go_wp2_with fail
    refine (implUnf w1 g sv (HS.out.still (Still.of_below HB1.out))).mono ?_
    rw [← HC.out.1, ← HC.out.2, ← HRK.out.1, ← HRK.out.2]
    rintro e w3 ⟨u, bs, rfl, how, hge, hnd, hb3⟩
    obtain ⟨ua, uc, rfl⟩ := how.val
    have HZ3 := hide (HZ1.out.below hb3)
    have HB3 := hide (HB1.out.trans (hb3.mono HB1.out.size))
    have h13 := HB1.out.size
    have hz1l := HZ1.out.lt
    have HOW := hide how
    have HGE := hide hge
    obtain ⟨z0, z1, z2, z3⟩ := HZ3.out.cells
    have fz := HZ3.out.frozen
    have hzl := HZ3.out.lt
    clear hb3 how hge
    go_wp2_with fail
    refine bodyPost_ret (v := .tuple #[.agg #[.int .i64 R.k, .string R.fr, .int .i64 R.ix, .slice ua R.kids.len uc], .bool ok]) (by simp [results, Tryz.results47, go_sem, *]) rfl ?_
    refine ⟨_, bs, rfl, ow_cells4 HOW.out (fun x hx => by have := HGE.out x hx; omega) _ _ _ _, fun x hx => by have := HGE.out x hx; omega, hnd, ?_⟩
    repeat (refine Below.setCell ?_ (by first | (simp; done) | (simp; omega)) _)
    exact HB3.out
end Go.Proofs.YtbonmdkfmgahbaaGreatDoor.Lo

/- MonitorValid of the model. -/
namespace Go.Proofs.YtbonmdkfmgahbaaGreatDoor.Lo
open Go.RowKit

/-- The role's letter. -/
def letter (s : ByteArray) : UInt8 := s.data.toList.headD 0
def monOk (m : Ne.Mon) : Bool := roleB m.ro && curOk ⟨m.k, m.fr, m.ix, m.kids⟩ (letter m.ro)
theorem mon_fit {m : Ne.Mon} (h : m.Fit) : Fit (⟨m.k, m.fr, m.ix, m.kids⟩ : Nd) := ⟨h.fr, h.k, h.ix⟩

set_option maxHeartbeats 3000000 in
set_option maxRecDepth 100000 in
theorem mv_role (w : World) (m : Ne.Mon) (sv : Value) (hs : Sl w sv m.kids)  (hr : roleB m.ro = false) :
    Calls Tryz.prog 21 #[.agg #[.string m.ro, .int .i64 m.k, .string m.fr, .int .i64 m.ix, sv]] w fun e w' => e = .returned (.bool (monOk m)) ∧ Below w.heap.size w w' := by
  have hb := alloc_below w (.cells #[.string m.ro, .int .i64 m.k, .string m.fr, .int .i64 m.ix, sv] ( /- t -/ 30))
  have HX := hide (Ne.Box5.now w (.string m.ro) (.int .i64 m.k) (.string m.fr) (.int .i64 m.ix) sv ( /- t -/ 30))
  have HSL := hide (hs.still (Still.of_below hb))
  have HB := hide hb
  have HR := hide (fun (W : World) => (show Calls Tryz.prog 35 #[.string m.ro] W (fun e w' => e = .returned (.bool false) ∧ W = w') by have := specRole m.ro W; rw [hr] at this; exact this))
  have HM := hide (show monOk m = false by unfold monOk; rw [hr]; rfl)
  clear hr
  clear hs hb
  go_enter Tryz.func21, Tryz.ntmps21
  go_wp2_with fail
  generalize w.alloc (.cells #[.string m.ro, .int .i64 m.k, .string m.fr, .int .i64 m.ix, sv] ( /- t -/ 30)) = W at *
  have HX := hide HX.out.drew
  have hsd : Still W W.drew := fun _ _ h => h
  have HSL : Hid (Sl W.drew sv m.kids) := hide (HSL.out.still hsd)
  have HB := hide HB.out.drew
  obtain ⟨x0, x1, x2, x3, x4⟩ := HX.out.cells
  have hxl := HX.out.lt
  first
    | (go_region_with (first
        | (go_at_call 35; refine (HR.out _).mono ?_; rintro e wA ⟨rfl, rfl⟩)
        | fail))
    | skip
  all_goals
    (go_wp2_with fail
     go_ret
     exact ⟨by rw [HM.out]; rfl, HB.out⟩)

set_option maxHeartbeats 3000000 in
set_option maxRecDepth 100000 in
theorem mv_bad (w : World) (m : Ne.Mon) (sv : Value) (hs : Sl w sv m.kids) (hsz : m.kids.sz ≤ 1048576) (hr : roleB m.ro = true) (hv : okN m.k m.fr m.ix m.kids = false) :
    Calls Tryz.prog 21 #[.agg #[.string m.ro, .int .i64 m.k, .string m.fr, .int .i64 m.ix, sv]] w fun e w' => e = .returned (.bool (monOk m)) ∧ Below w.heap.size w w' := by
  have hb := alloc_below w (.cells #[.string m.ro, .int .i64 m.k, .string m.fr, .int .i64 m.ix, sv] ( /- t -/ 30))
  have HX := hide (Ne.Box5.now w (.string m.ro) (.int .i64 m.k) (.string m.fr) (.int .i64 m.ix) sv ( /- t -/ 30))
  have HSL := hide (hs.still (Still.of_below hb))
  have HB := hide hb
  have HR := hide (fun (W : World) => (show Calls Tryz.prog 35 #[.string m.ro] W (fun e w' => e = .returned (.bool true) ∧ W = w') by have := specRole m.ro W; rw [hr] at this; exact this))
  have HV := hide (fun (W : World) (hs : Sl W sv m.kids) => (show Calls Tryz.prog 36 #[.agg #[.int .i64 m.k, .string m.fr, .int .i64 m.ix, sv]] W (fun e w' => e = .returned (.bool false) ∧ Below W.heap.size W w') by have := specValidBig W m.k m.ix m.fr sv m.kids hs (fun _ => by omega); rw [hv] at this; exact this))
  have HM := hide (show monOk m = false by unfold monOk curOk unfOk okG; rw [hv]; simp)
  clear hr hv
  clear hs hsz hb
  go_enter Tryz.func21, Tryz.ntmps21
  go_wp2_with fail
  generalize w.alloc (.cells #[.string m.ro, .int .i64 m.k, .string m.fr, .int .i64 m.ix, sv] ( /- t -/ 30)) = W at *
  have HX := hide HX.out.drew
  have hsd : Still W W.drew := fun _ _ h => h
  have HSL : Hid (Sl W.drew sv m.kids) := hide (HSL.out.still hsd)
  have HB := hide HB.out.drew
  obtain ⟨x0, x1, x2, x3, x4⟩ := HX.out.cells
  have hxl := HX.out.lt
  first
    | (go_region_with (first
        | (go_at_call 35; refine (HR.out _).mono ?_; rintro e wA ⟨rfl, rfl⟩)
        | (go_at_call 36; (with_reducible refine (HV.out _ ?_).mono ?_); (exact HSL.out); rintro e wB ⟨rfl, hbB⟩; (have hs := HX.out.lt); (have HX := hide (HX.out.below hbB)); (have HSL := hide (HSL.out.still (Still.of_below hbB))); (have HB := hide (HB.out.trans (hbB.mono HB.out.size))); (obtain ⟨x0, x1, x2, x3, x4⟩ := HX.out.cells); (have hxl := HX.out.lt))
        | fail))
    | skip
  all_goals
    (go_wp2_with fail
     go_ret
     exact ⟨by rw [HM.out]; rfl, HB.out⟩)

set_option maxHeartbeats 3000000 in
set_option maxRecDepth 100000 in
theorem mv_deep (w : World) (m : Ne.Mon) (sv : Value) (hs : Sl w sv m.kids) (hf : m.Fit) (hsz : m.kids.sz ≤ 1048576) (hr : roleB m.ro = true) (hv : okN m.k m.fr m.ix m.kids = true) (hv2 : okG (unf ⟨m.k, m.fr, m.ix, m.kids⟩) = false) :
    Calls Tryz.prog 21 #[.agg #[.string m.ro, .int .i64 m.k, .string m.fr, .int .i64 m.ix, sv]] w fun e w' => e = .returned (.bool (monOk m)) ∧ Below w.heap.size w w' := by
  have hb := alloc_below w (.cells #[.string m.ro, .int .i64 m.k, .string m.fr, .int .i64 m.ix, sv] ( /- t -/ 30))
  have HX := hide (Ne.Box5.now w (.string m.ro) (.int .i64 m.k) (.string m.fr) (.int .i64 m.ix) sv ( /- t -/ 30))
  have HSL := hide (hs.still (Still.of_below hb))
  have HB := hide hb
  obtain ⟨hw, hh, hz⟩ := okG_w (g := ⟨m.k, m.fr, m.ix, m.kids⟩) hv
  have HR := hide (fun (W : World) => (show Calls Tryz.prog 35 #[.string m.ro] W (fun e w' => e = .returned (.bool true) ∧ W = w') by have := specRole m.ro W; rw [hr] at this; exact this))
  have HV := hide (fun (W : World) (hs : Sl W sv m.kids) => (show Calls Tryz.prog 36 #[.agg #[.int .i64 m.k, .string m.fr, .int .i64 m.ix, sv]] W (fun e w' => e = .returned (.bool true) ∧ Below W.heap.size W w') by have := specValidBig W m.k m.ix m.fr sv m.kids hs (fun _ => by omega); rw [hv] at this; exact this))
  have HU := hide (fun (W : World) (hs : Sl W sv m.kids) => unf_calls W ⟨m.k, m.fr, m.ix, m.kids⟩ sv hs hw hh (mon_fit hf))
  have HV2 := hide (fun (W : World) (u : Value) (hs : Sl W u (unf ⟨m.k, m.fr, m.ix, m.kids⟩).kids) => (show Calls Tryz.prog 36 #[.agg #[.int .i64 (unf ⟨m.k, m.fr, m.ix, m.kids⟩).k, .string (unf ⟨m.k, m.fr, m.ix, m.kids⟩).fr, .int .i64 (unf ⟨m.k, m.fr, m.ix, m.kids⟩).ix, u]] W (fun e w' => e = .returned (.bool false) ∧ Below W.heap.size W w') by have := specValidBig W (unf ⟨m.k, m.fr, m.ix, m.kids⟩).k (unf ⟨m.k, m.fr, m.ix, m.kids⟩).ix (unf ⟨m.k, m.fr, m.ix, m.kids⟩).fr u (unf ⟨m.k, m.fr, m.ix, m.kids⟩).kids hs (fun hv => unf_bound hw hz hv); rw [show okN _ _ _ _ = false from hv2] at this; exact this))
  have HM := hide (show monOk m = false by unfold monOk curOk unfOk; rw [hv2]; simp)
  clear hr hv hv2 hw hh hz
  clear hs hf hsz hb
  go_enter Tryz.func21, Tryz.ntmps21
  go_wp2_with fail
  generalize w.alloc (.cells #[.string m.ro, .int .i64 m.k, .string m.fr, .int .i64 m.ix, sv] ( /- t -/ 30)) = W at *
  have HX := hide HX.out.drew
  have hsd : Still W W.drew := fun _ _ h => h
  have HSL : Hid (Sl W.drew sv m.kids) := hide (HSL.out.still hsd)
  have HB := hide HB.out.drew
  obtain ⟨x0, x1, x2, x3, x4⟩ := HX.out.cells
  have hxl := HX.out.lt
  first
    | (go_region_with (first
        | (go_at_call 35; refine (HR.out _).mono ?_; rintro e wA ⟨rfl, rfl⟩)
        | (go_at_call 36; (with_reducible refine (HV2.out _ _ ?_).mono ?_); (exact HO.out); rintro e wD ⟨rfl, hbD⟩; (have hs := HX.out.lt); (have HX := hide (HX.out.below hbD)); (have HSL := hide (HSL.out.still (Still.of_below hbD))); (have HB := hide (HB.out.trans (hbD.mono HB.out.size))); (obtain ⟨x0, x1, x2, x3, x4⟩ := HX.out.cells); (have hxl := HX.out.lt))
        | (go_at_call 36; (with_reducible refine (HV.out _ ?_).mono ?_); (exact HSL.out); rintro e wB ⟨rfl, hbB⟩; (have hs := HX.out.lt); (have HX := hide (HX.out.below hbB)); (have HSL := hide (HSL.out.still (Still.of_below hbB))); (have HB := hide (HB.out.trans (hbB.mono HB.out.size))); (obtain ⟨x0, x1, x2, x3, x4⟩ := HX.out.cells); (have hxl := HX.out.lt))
        | (go_at_call 31; refine (HU.out _ HSL.out).mono ?_; rintro e wC ⟨u, ks, rfl, how, -, -, hbC⟩; obtain ⟨ua, uc, rfl⟩ := how.val; (have hs := HX.out.lt); (have HX := hide (HX.out.below hbC)); (have HSL := hide (HSL.out.still (Still.of_below hbC))); (have HB := hide (HB.out.trans (hbC.mono HB.out.size))); (obtain ⟨x0, x1, x2, x3, x4⟩ := HX.out.cells); (have hxl := HX.out.lt); (have HO := hide how.sl))
        | fail))
    | skip
  all_goals
    (go_wp2_with fail
     go_ret
     exact ⟨by rw [HM.out]; rfl, HB.out⟩)

set_option maxHeartbeats 3000000 in
set_option maxRecDepth 100000 in
theorem mv_good (w : World) (m : Ne.Mon) (sv : Value) (hs : Sl w sv m.kids) (hf : m.Fit) (hsz : m.kids.sz ≤ 1048576) (hr : roleB m.ro = true) (hv : okN m.k m.fr m.ix m.kids = true) (hv2 : okG (unf ⟨m.k, m.fr, m.ix, m.kids⟩) = true) (hlet : m.ro = ⟨#[letter m.ro]⟩) (hps : (peersN m.k m.fr m.ix m.kids).size ≤ 1048576) (b : Bool) (hb2 : hasB (peersN m.k m.fr m.ix m.kids) (letter m.ro) = b) :
    Calls Tryz.prog 21 #[.agg #[.string m.ro, .int .i64 m.k, .string m.fr, .int .i64 m.ix, sv]] w fun e w' => e = .returned (.bool (monOk m)) ∧ Below w.heap.size w w' := by
  have hb := alloc_below w (.cells #[.string m.ro, .int .i64 m.k, .string m.fr, .int .i64 m.ix, sv] ( /- t -/ 30))
  have HX := hide (Ne.Box5.now w (.string m.ro) (.int .i64 m.k) (.string m.fr) (.int .i64 m.ix) sv ( /- t -/ 30))
  have HSL := hide (hs.still (Still.of_below hb))
  have HB := hide hb
  obtain ⟨hw, hh, hz⟩ := okG_w (g := ⟨m.k, m.fr, m.ix, m.kids⟩) hv
  have HR := hide (fun (W : World) => (show Calls Tryz.prog 35 #[.string m.ro] W (fun e w' => e = .returned (.bool true) ∧ W = w') by have := specRole m.ro W; rw [hr] at this; exact this))
  have HV := hide (fun (W : World) (hs : Sl W sv m.kids) => (show Calls Tryz.prog 36 #[.agg #[.int .i64 m.k, .string m.fr, .int .i64 m.ix, sv]] W (fun e w' => e = .returned (.bool true) ∧ Below W.heap.size W w') by have := specValidBig W m.k m.ix m.fr sv m.kids hs (fun _ => by omega); rw [hv] at this; exact this))
  have HU := hide (fun (W : World) (hs : Sl W sv m.kids) => unf_calls W ⟨m.k, m.fr, m.ix, m.kids⟩ sv hs hw hh (mon_fit hf))
  have HV2 := hide (fun (W : World) (u : Value) (hs : Sl W u (unf ⟨m.k, m.fr, m.ix, m.kids⟩).kids) => (show Calls Tryz.prog 36 #[.agg #[.int .i64 (unf ⟨m.k, m.fr, m.ix, m.kids⟩).k, .string (unf ⟨m.k, m.fr, m.ix, m.kids⟩).fr, .int .i64 (unf ⟨m.k, m.fr, m.ix, m.kids⟩).ix, u]] W (fun e w' => e = .returned (.bool true) ∧ Below W.heap.size W w') by have := specValidBig W (unf ⟨m.k, m.fr, m.ix, m.kids⟩).k (unf ⟨m.k, m.fr, m.ix, m.kids⟩).ix (unf ⟨m.k, m.fr, m.ix, m.kids⟩).fr u (unf ⟨m.k, m.fr, m.ix, m.kids⟩).kids hs (fun hv => unf_bound hw hz hv); rw [show okN _ _ _ _ = true from hv2] at this; exact this))
  have HP := hide (fun (W : World) (hs : Sl W sv m.kids) => specPeers W m.k m.ix m.fr sv m.kids hs hsz)
  have HC := hide (fun (W : World) => (show Calls Tryz.prog 37 #[.string (peersN m.k m.fr m.ix m.kids), .string m.ro] W (fun e w' => e = .returned (.bool b) ∧ W = w') by have := specContains (peersN m.k m.fr m.ix m.kids) (letter m.ro) W hps; rw [hb2] at this; rw [hlet]; exact this))
  have HM := hide (show monOk m = !b by unfold monOk curOk unfOk; rw [hv2, hr, show okG ⟨m.k, m.fr, m.ix, m.kids⟩ = true from hv, show hasB (peersN m.k m.fr m.ix m.kids) (letter m.ro) = b from hb2]; simp)
  clear hr hv hv2 hw hh hz hlet hps hb2
  generalize peersN m.k m.fr m.ix m.kids = ps at *
  clear hs hf hsz hb
  go_enter Tryz.func21, Tryz.ntmps21
  go_wp2_with fail
  generalize w.alloc (.cells #[.string m.ro, .int .i64 m.k, .string m.fr, .int .i64 m.ix, sv] ( /- t -/ 30)) = W at *
  have HX := hide HX.out.drew
  have hsd : Still W W.drew := fun _ _ h => h
  have HSL : Hid (Sl W.drew sv m.kids) := hide (HSL.out.still hsd)
  have HB := hide HB.out.drew
  obtain ⟨x0, x1, x2, x3, x4⟩ := HX.out.cells
  have hxl := HX.out.lt
  first
    | (go_region_with (first
        | (go_at_call 35; refine (HR.out _).mono ?_; rintro e wA ⟨rfl, rfl⟩)
        | (go_at_call 36; (with_reducible refine (HV2.out _ _ ?_).mono ?_); (exact HO.out); rintro e wD ⟨rfl, hbD⟩; (have hs := HX.out.lt); (have HX := hide (HX.out.below hbD)); (have HSL := hide (HSL.out.still (Still.of_below hbD))); (have HB := hide (HB.out.trans (hbD.mono HB.out.size))); (obtain ⟨x0, x1, x2, x3, x4⟩ := HX.out.cells); (have hxl := HX.out.lt))
        | (go_at_call 36; (with_reducible refine (HV.out _ ?_).mono ?_); (exact HSL.out); rintro e wB ⟨rfl, hbB⟩; (have hs := HX.out.lt); (have HX := hide (HX.out.below hbB)); (have HSL := hide (HSL.out.still (Still.of_below hbB))); (have HB := hide (HB.out.trans (hbB.mono HB.out.size))); (obtain ⟨x0, x1, x2, x3, x4⟩ := HX.out.cells); (have hxl := HX.out.lt))
        | (go_at_call 31; refine (HU.out _ HSL.out).mono ?_; rintro e wC ⟨u, ks, rfl, how, -, -, hbC⟩; obtain ⟨ua, uc, rfl⟩ := how.val; (have hs := HX.out.lt); (have HX := hide (HX.out.below hbC)); (have HSL := hide (HSL.out.still (Still.of_below hbC))); (have HB := hide (HB.out.trans (hbC.mono HB.out.size))); (obtain ⟨x0, x1, x2, x3, x4⟩ := HX.out.cells); (have hxl := HX.out.lt); (have HO := hide how.sl))
        | (go_at_call 38; refine (HP.out _ HSL.out).mono ?_; rintro e wE ⟨rfl, hbE⟩; (have hs := HX.out.lt); (have HX := hide (HX.out.below hbE)); (have HSL := hide (HSL.out.still (Still.of_below hbE))); (have HB := hide (HB.out.trans (hbE.mono HB.out.size))); (obtain ⟨x0, x1, x2, x3, x4⟩ := HX.out.cells); (have hxl := HX.out.lt))
        | (go_at_call 37; refine (HC.out _).mono ?_; rintro e wF ⟨rfl, rfl⟩)
        | fail))
    | skip
  all_goals
    (go_wp2_with fail
     go_ret
     exact ⟨by rw [HM.out]; rfl, HB.out⟩)

theorem peers_small (k : Int) (fr : ByteArray) (ix : Int) (kids : F) : (peersN k fr ix kids).size ≤ 1048576 := by
  unfold peersN
  split
  · have : (setL fun c => namNb c k fr kids).length ≤ 3 := setK_len _ 3
    show (setL fun c => namNb c k fr kids).length ≤ 1048576
    omega
  · exact Nat.zero_le _
theorem role_letter1 {s : ByteArray} (h : roleB s = true) : s = ⟨#[letter s]⟩ := by
  by_cases hs : s.size = 1
  · obtain ⟨c, rfl⟩ := one_of_size s hs
    rfl
  · rw [roleB_not s hs] at h
    cases h

/-- MonitorValid of the model. -/
theorem specMonValid (w : World) (m : Ne.Mon) (sv : Value) (hs : Sl w sv m.kids) (hf : m.Fit) (hsz : m.kids.sz ≤ 1048576) :
    Calls Tryz.prog 21 #[.agg #[.string m.ro, .int .i64 m.k, .string m.fr, .int .i64 m.ix, sv]] w fun e w' => e = .returned (.bool (monOk m)) ∧ Below w.heap.size w w' := by
  cases hr : roleB m.ro with
  | false => exact mv_role w m sv hs hr
  | true =>
    cases hv : okN m.k m.fr m.ix m.kids with
    | false => exact mv_bad w m sv hs hsz hr hv
    | true =>
      cases hv2 : okG (unf ⟨m.k, m.fr, m.ix, m.kids⟩) with
      | false => exact mv_deep w m sv hs hf hsz hr hv hv2
      | true => exact mv_good w m sv hs hf hsz hr hv hv2 (role_letter1 hr) (peers_small _ _ _ _) _ rfl
end Go.Proofs.YtbonmdkfmgahbaaGreatDoor.Lo
