/- Ct, LKb, LKu, Cy, Czp, Kla, Bk -/
import Derived.Test.YtnlihdcjpeabfaaGreatDoorIs
import Derived.Test.YtnlihdcjpeabfaaGreatDoorRi
import Derived.Test.YtnlihdcjpeabfaaGreatDoorBt
import Derived.Test.YtnlihdcjpeabfaaGreatDoorLKl
import Derived.Test.YtnlihdcjpeabfaaGreatDoorLKa
import Derived.Deep.LoopGhost
import Derived.Test.YtnlihdcjpeabfaaGreatDoorMna
import Derived.Test.YtnlihdcjpeabfaaGreatDoorGa
import Derived.Test.YtnlihdcjpeabfaaGreatDoorIla
import Derived.Test.YtnlihdcjpeabfaaGreatDoorShelf
import Derived.Shelf.Strings.SlTrimAscii
import Derived.Test.YtnlihdcjpeabfaaGreatDoorLLk
import Derived.Laws.Tables
import Derived.Laws.Rows
import Derived.Laws.CopyOwn
import Derived.WalkKit
/- Whether a string contains a letter: strings.Contains, l4Contains of the model. -/
namespace Go.Proofs.YtnlihdcjpeabfaaGreatDoor
open Go.RowKit

set_option maxHeartbeats 400000 in
theorem contains_one (s : ByteArray) (c : UInt8) (w : World) : Calls Tryz.prog 40 #[.string s, .string ⟨#[c]⟩] w fun e w' => e = .returned (.bool (hasB s c)) ∧ w = w' := by
  have h72 := run_bytes
  by_cases hsc : s = ⟨#[c]⟩
  · subst hsc
    go_enter Tryz.func40, Tryz.ntmps40
    go_wp2
    go_ret
    exact ⟨ret_bool (by unfold hasB; simp), rfl⟩
  · have hnb : ([c] == s.toList) = false := beq_eq_false_iff_ne.2 (fun h => hsc (by
      rw [ByteArray.toList_eq] at h
      exact ByteArray.ext (Array.toList_inj.1 h.symm)))
    clear hsc
    go_enter Tryz.func40, Tryz.ntmps40
    go_wp2
    go_ret
    refine ⟨ret_bool ?_, rfl⟩
    unfold hasB
    rw [one_head, Lib.contains_iff_indexByte]

set_option maxHeartbeats 800000 in
/-- l4Contains of the model. -/
theorem specContains (s : ByteArray) (c : UInt8) (w : World) (hs : s.size ≤ 1048576) : Calls Tryz.prog 22 #[.string s, .string ⟨#[c]⟩] w fun e w' => e = .returned (.bool (hasB s c)) ∧ w = w' := by
  go_enter Tryz.func22, Tryz.ntmps22
  go_wp2_with fail
  go_loopw [5] (fun iv wr => ∃ k : Nat, iv = .int .i64 k ∧ k ≤ s.size ∧ (s.data.toList.drop k).contains c = hasB s c ∧ wr = w) (fun iv _ => s.size - (intOf iv).toNat)
  case atStart => exact ⟨0, rfl, Nat.zero_le _, rfl, rfl⟩
  case round =>
    obtain ⟨k, rfl, hk, hc, rfl⟩ := hrel
    have HC := hide hc
    clear hc
    by_cases hlt : k < s.size
    · have hl : (k : Int) < (s.size : Int) := by omega
      have he := extract_byte hlt
      have hd := drop_byte hlt
      generalize s[k]'hlt = x at *
      by_cases hx : x = c
      · subst hx
        have hxx : (x == x) = true := beq_self_eq_true x
        have HR := hide (show hasB s x = true by rw [← HC.out, hd]; simp)
        clear hd
        go_wp2_with fail
        go_ret
        exact ⟨by rw [HR.out]; rfl, rfl⟩
      · have hxc : (x == c) = false := beq_eq_false_iff_ne.2 hx
        have HR := hide (show (s.data.toList.drop (k + 1)).contains c = hasB s c by
          rw [← HC.out, hd, List.contains_cons]
          have : (c == x) = false := beq_eq_false_iff_ne.2 (fun h => hx h.symm)
          rw [this, Bool.false_or])
        clear hd hx
        go_wp2_with fail
        exact ⟨⟨k + 1, by go_num, by omega, HR.out, trivial⟩, by simp [intOf]; omega⟩
    · have hl : ¬ (k : Int) < (s.size : Int) := by omega
      have HR := hide (show hasB s c = false by
        rw [← HC.out, List.drop_eq_nil_of_le (by rw [Array.length_toList]; show s.size ≤ k; omega)]
        rfl)
      go_wp2_with fail
      go_ret
      exact ⟨by rw [HR.out]; rfl, rfl⟩
end Go.Proofs.YtnlihdcjpeabfaaGreatDoor

/- unlinkNode of the program, whole. -/
namespace Go.Proofs.YtnlihdcjpeabfaaGreatDoor.Lo
open Go.RowKit

theorem un_all : ∀ q n, UnAt q n := by
  intro q
  induction q using Nat.strongRecOn with
  | _ q ihq =>
  intro n
  induction n with
  | zero => intro w0 w c a dp un k ix fr v lv kids es m ks hn; omega
  | succ n ihn =>
    intro w0 w c a dp un k ix fr v lv kids es m ks hn hq hk he hw hB hc0 hc ha hd1 hd2 hmd hu1 hu2 hq2 hp
    have hw2 := hw
    unfold wN at hw2
    simp only [Bool.and_eq_true] at hw2
    obtain ⟨hsh, hsc⟩ := hw2
    have hps := hp.ps.val
    have hpl : (blks (es.take m)).length = m := scope_len es m (by omega)
    by_cases h1 : k = 1
    · subst h1
      obtain ⟨hf, rfl, rfl⟩ := shape_end hsh
      have hf1 := empty_of hf
      subst hf1
      have hv : v = .iface ( /- t -/ 128) (.agg #[]) := by
        rcases hk with ⟨-, h, -⟩ | ⟨h, -⟩ | ⟨h, -⟩ | ⟨h, -⟩
        · exact h
        · omega
        · omega
        · omega
      subst hv
      have e : cpN (lenv m es) ⟨1, ⟨#[]⟩, 0, .nil⟩ = ⟨1, ⟨#[]⟩, 0, .nil⟩ := by
        rw [cpN_k (show (1 : Int) ≠ 5 by decide)]
        rfl
      rw [e]
      exact un_end w c a dp un lv (blks (es.take m)) hc ha hd1 hd2 hp
    by_cases h2 : k = 2 ∨ k = 3
    · exact un_act q n ihn w0 w c a dp un k ix fr v lv kids es m ks h2 hn hq hk he hw hB hc0 hc ha hd1 hd2 hmd hq2 hp
    by_cases h4 : k = 4
    · subst h4
      obtain ⟨hf, rfl, lab, k', fr', ix', kids', rfl, hl0⟩ := shape_rec hsh
      obtain ⟨L, T, x, ks', rfl, hbL, hLp, hln⟩ := linked_rec hk
      exact un_loop q n ihn w0 w c a dp un un fr 0 _ lv lv _ es m L ks none false hn hq hk he hw hB hc0 hc ha hd1 hd2 hmd hu1 hu2 hq2 hp (by obtain ⟨a1, c1, e, -⟩ := hps; exact ⟨a1, _, c1, e⟩) (Or.inl ⟨rfl, rfl, rfl, rfl, rfl⟩)
    by_cases h5 : k = 5
    · subst h5
      obtain ⟨hf, rfl⟩ := shape_var hsh
      have hf1 := empty_of hf
      subst hf1
      obtain ⟨p, b, g, t, rfl, rfl, rfl⟩ := linked_var hk
      have hlen : (p ++ (b, g) :: t).length = p.length + 1 + t.length := by simp; omega
      by_cases hin : p.length < m
      · have e : cpN (lenv m (p ++ (b, g) :: t)) ⟨5, ⟨#[]⟩, (p.length : Int), .nil⟩ = ⟨5, ⟨#[]⟩, (p.length : Int), .nil⟩ := by
          unfold cpN
          simp only [if_true, Int.toNat_natCast]
          rw [lenv_in m p.length _ hin (by omega)]
          rfl
        rw [e]
        obtain ⟨s1, s2⟩ := scope_in p b g t m hin (by omega)
        refine un_var w0 w c a dp un p.length (m - 1 - p.length) b lv _ hB hc0 hc ha hd1 hd2 hp (scope_nodup _ _ he) (fun x hx => he.blk _ x (scope_mem hx)) s1 s2 ?_
        rw [hpl]
        omega
      · have e : cpN (lenv m (p ++ (b, g) :: t)) ⟨5, ⟨#[]⟩, (p.length : Int), .nil⟩ = cpN (lvals t) g := by
          conv => lhs; unfold cpN
          simp only [if_true, Int.toNat_natCast]
          rw [lenv_out m p b g t (by omega)]
        rw [e]
        obtain ⟨g4, gw, ⟨kg, gl⟩, gb, ge⟩ := EnvL.suffix p _ he
        obtain ⟨gk, gf, gi, gq⟩ := g
        simp only at g4
        subst g4
        have hq' : t.length < q := by omega
        exact un_loop t.length (gq.sz + 1) (ihq _ hq' _) w0 w c a dp un 0 gf gi _ lv (.slice none 0 0) gq t 0 b kg (some ⟨b, 0, none⟩) true (by omega) rfl gl ge gw hB hc0 hc ha hd1 hd2 (by omega) (by omega) (by omega) (by omega) (by rw [List.take_zero]; exact Pt.nil w)
          (by obtain ⟨a1, c1, e, -⟩ := hps; exact ⟨a1, _, c1, e⟩) (Or.inr ⟨rfl, rfl, rfl, rfl, rfl, rfl, _, hp, scope_out p b _ t m (by omega) he, by rw [hpl]; omega, fun x hx => he.blk _ x (scope_mem hx)⟩)
    · simp [shapeB, h1, h2, h4, h5] at hsh

/-- unlinkNode, at a place without recursions around. -/
theorem unlink_calls (w0 w : World) (c : Nat) (k ix : Int) (fr : ByteArray) (v : Value) (kids : F) (es : List (Nat × Nd)) (ks : List Nat) (hl : es.length ≤ 1000) (hk : LkN w0 k fr ix kids (blks es) v ks) (he : EnvL w0 es) (hw : wN ⟨k, fr, ix, kids⟩ (es.length : Int) 0 = true)
    (hB : Below w0.heap.size w0 w) (hc0 : w0.heap.size ≤ c) (hc : Ctr w c 0) :
    Calls Tryz.prog 73 #[v, .agg #[.int .i64 1, .slice none 0 0, .int .i64 0], .pointer (some ⟨c, 0, none⟩)] w (CpPost c (cpN (lvals es) ⟨k, fr, ix, kids⟩) 1 0 w) :=
  un_all es.length (kids.sz + 1) w0 w c 0 1 0 k ix fr v (.slice none 0 0) kids es 0 ks (Nat.lt_succ_self _) rfl hk he hw hB hc0 hc (by omega) (by omega) (by omega) (by omega) (by omega) (by omega) hl (by rw [List.take_zero]; exact Pt.nil w)
end Go.Proofs.YtnlihdcjpeabfaaGreatDoor.Lo

/- UnfoldLocal of the program. -/
namespace Go.Proofs.YtnlihdcjpeabfaaGreatDoor.Lo
open Go.RowKit

set_option maxHeartbeats 2000000 in
set_option maxRecDepth 100000 in
/-- unfoldLinked of the program. -/
theorem unfL_calls (w0 w : World) (g : Nd) (v : Value) (ks : List Nat) (hk : LkN w0 g.k g.fr g.ix g.kids [] v ks) (hw : wN g 0 0 = true) (hh : hN g ≤ 40) (hB : Below w0.heap.size w0 w) :
    Calls Tryz.prog 62 #[v] w fun e w' => ∃ (es : List (Nat × Nd)) (N : Nd) (v' : Value) (ks' : List Nat), e = .returned v' ∧ LkN w0 N.k N.fr N.ix N.kids (blks es) v' ks' ∧ EnvL w0 es ∧ cpN (lvals es) N = unf g ∧ wN N (es.length : Int) 0 = true ∧ es.length ≤ 41 ∧ (∃ T x, v' = .iface T x) ∧ Below w.heap.size w w' := by
  obtain ⟨T, hT⟩ : ∃ T, T = unf g := ⟨_, rfl⟩
  have HST : Hid (∃ (es : List (Nat × Nd)) (N : Nd) (ks' : List Nat), UlIs T (g.kids.sz + 1) (lvals es) N ∧ LkN w0 N.k N.fr N.ix N.kids (blks es) v ks' ∧ EnvL w0 es ∧ Below w.heap.size w w) :=
    hide ⟨[], g, ks, by rw [hT]; exact UlIs.start hw hh, hk, trivial, Below.refl _ _⟩
  have HB := hide hB
  rw [← hT]
  clear hk hw hh hB hT
  go_enter Tryz.func62, Tryz.ntmps62
  go_wp2_with fail
  go_loopg [0] (g.kids.sz + 1) (fun n vv wr => ∃ (es : List (Nat × Nd)) (N : Nd) (ks' : List Nat), UlIs T n (lvals es) N ∧ LkN w0 N.k N.fr N.ix N.kids (blks es) vv ks' ∧ EnvL w0 es ∧ Below w.heap.size w wr)
  case atStart => exact HST.out
  case round =>
    obtain ⟨es, N, ks', hul, hln, he, hb⟩ := hrel
    clear HST
    have hlw := hul.w
    have hlh := hul.h
    rw [lvals_len] at hlw hlh
    have h41 : es.length ≤ 41 := by omega
    have hw0 := wN_u _ _ _ 0 hlw (by omega)
    have hnv := not_var hlw
    rcases id hln with ⟨h1, rfl, -⟩ | ⟨h5, -⟩ | ⟨h4, L, s, u, k2, rfl, -⟩ | ⟨h2, A, r, cp, cs, xs, k2, rfl, -⟩
    · have HE := hide (And.intro (hul.stop (by omega)) (And.intro hw0 (And.intro hln he)))
      have n1 := taEndLoop
      have n2 := taEndVar
      clear hul hln he hlw hlh hw0 hnv
      go_wp2_with fail
      go_ret
      exact ⟨es, N, _, ks', rfl, HE.out.2.2.1, HE.out.2.2.2, HE.out.1, HE.out.2.1, h41, ⟨_, _, rfl⟩, hb⟩
    · exact absurd h5 hnv
    · obtain ⟨lab, k', fr', ix', kids', hkid, hw'⟩ := rec_kid hlw h4
      cases gk with
      | zero => exact absurd hul.sz (by omega)
      | succ n =>
      have hfit : Fit (cpN (lvals es) N) := cpN_fit (EnvL.fits es he (by omega)) (fit_of_w hw0 (by omega) (by omega))
      have hstep := hul.step h4 hfit hkid (by rw [lvals_len]; exact hw')
      have hln2 := hln
      rw [h4, hkid] at hln2
      obtain ⟨L2, T2, x, ks2, hv2, hbL, hLp, hln3⟩ := linked_rec hln2
      have hLL : L = L2 := by
        injection hv2 with _ hv2
        injection hv2 with hv2
        injection hv2 with hv2
        injection hv2 with hv2
      subst hLL
      have henv : EnvL w0 ((L, N) :: es) := ⟨h4, hw0, ⟨ks', hln⟩, hLp, he⟩
      have HR : Hid (∃ (es : List (Nat × Nd)) (N : Nd) (ks' : List Nat), UlIs T n (lvals es) N ∧ LkN w0 N.k N.fr N.ix N.kids (blks es) (.iface T2 x) ks' ∧ EnvL w0 es ∧ Below w.heap.size w wr) :=
        hide ⟨(L, N) :: es, ⟨k', fr', ix', kids'⟩, ks2, hstep, by rw [blks_cons]; exact hln3, henv, hb⟩
      have y0 : wr.cell? ⟨L, 0, none⟩ = some (.iface T2 x) := ((hbL.below HB.out).below hb).cell 0
      have yl := World.block_lt_of_cell? _ _ y0
      have n1 := taLoopLoop
      clear hul hln he hlw hlh hw0 hnv hln2 hln3 hbL hLp henv hstep hfit hkid hw' hv2 h4
      go_wp2_with fail
      go_roundg n
      case measure => omega
      case rel => exact HR.out
    · have HE := hide (And.intro (hul.stop (by omega)) (And.intro hw0 (And.intro hln he)))
      have n1 := taActLoop
      have n2 := taActVar
      clear hul hln he hlw hlh hw0 hnv
      go_wp2_with fail
      go_ret
      exact ⟨es, N, _, ks', rfl, HE.out.2.2.1, HE.out.2.2.2, HE.out.1, HE.out.2.1, h41, ⟨_, _, rfl⟩, hb⟩

/-- Whether a tree keeps the limits. -/
def smallN (N : Nd) : Bool := decide (hN N ≤ 40) && decide (N.kids.sz + 1 ≤ 400)
theorem smallN_iff (N : Nd) : smallN N = true ↔ (0 + (N.kids.sz + 1) ≤ 400 ∧ (1 : Int) + (hF N.kids : Int) ≤ 40) := by
  unfold smallN hN
  simp only [Bool.and_eq_true, decide_eq_true_eq]
  omega

set_option maxHeartbeats 2000000 in
set_option maxRecDepth 100000 in
/-- unlinkLocal of the program. -/
theorem unlinkL_calls (w0 w : World) (N R : Nd) (v : Value) (es : List (Nat × Nd)) (ks : List Nat) (hl : es.length ≤ 1000) (hk : LkN w0 N.k N.fr N.ix N.kids (blks es) v ks) (he : EnvL w0 es) (hw : wN N (es.length : Int) 0 = true) (hB : Below w0.heap.size w0 w) (hv : ∃ T x, v = .iface T x) (hR : cpN (lvals es) N = R) :
    Calls Tryz.prog 61 #[v] w (MadeR (if smallN R = true then R else zeroNd) (smallN R) w) := by
  obtain ⟨T, x, rfl⟩ := hv
  have hA := alloc_below w (.cells #[.int .i64 0, .string ⟨#[]⟩, .int .i64 0, .slice none 0 0] ( /- t -/ 40))
  have hA2 := hA.alloc (by simp) (.cells #[.int .i64 0] ( /- t -/ 3))
  have hz0 := (Box4.now w (.int .i64 0) (.string ⟨#[]⟩) (.int .i64 0) (.slice none 0 0) ( /- t -/ 40)).below (alloc_below _ (.cells #[.int .i64 0] ( /- t -/ 3)))
  have hc : Ctr ((w.alloc (.cells #[.int .i64 0, .string ⟨#[]⟩, .int .i64 0, .slice none 0 0] ( /- t -/ 40))).alloc (.cells #[.int .i64 0] ( /- t -/ 3))) (w.heap.size + 1) 0 :=
    ⟨_, by have := alloc_last (w.alloc (.cells #[.int .i64 0, .string ⟨#[]⟩, .int .i64 0, .slice none 0 0] ( /- t -/ 40))) #[.int .i64 0] ( /- t -/ 3); simpa using this⟩
  have hs := hB.size
  have HC : Hid (Calls Tryz.prog 73 #[.iface T x, .agg #[.int .i64 1, .slice none 0 0, .int .i64 0], .pointer (some ⟨w.heap.size + 1, 0, none⟩)] ((w.alloc (.cells #[.int .i64 0, .string ⟨#[]⟩, .int .i64 0, .slice none 0 0] ( /- t -/ 40))).alloc (.cells #[.int .i64 0] ( /- t -/ 3))) (CpPost (w.heap.size + 1) R 1 0 ((w.alloc (.cells #[.int .i64 0, .string ⟨#[]⟩, .int .i64 0, .slice none 0 0] ( /- t -/ 40))).alloc (.cells #[.int .i64 0] ( /- t -/ 3))))) :=
    hide (by rw [← hR]; exact unlink_calls w0 _ (w.heap.size + 1) N.k N.ix N.fr (.iface T x) N.kids es ks hl hk he hw (hB.trans (hA2.mono hs)) (by omega) hc)
  have HZ := hide hz0
  have HA := hide hA2
  obtain ⟨ok, hok⟩ : ∃ ok, ok = smallN R := ⟨_, rfl⟩
  obtain ⟨Q, hQ⟩ : ∃ Q, Q = (if smallN R = true then R else zeroNd) := ⟨_, rfl⟩
  rw [← hQ, ← hok]
  have HQ := hide (And.intro hok hQ)
  clear hA hA2 hz0 hc hk he hw hB hR hl hok hQ
  go_enter Tryz.func61, Tryz.ntmps61
  go_wp2_with fail
  refine HC.out.mono ?_
  clear HC
  have hW0 : ((w.alloc (.cells #[.int .i64 0, .string ⟨#[]⟩, .int .i64 0, .slice none 0 0] ( /- t -/ 40))).alloc (.cells #[.int .i64 0] ( /- t -/ 3))).heap.size = w.heap.size + 2 := by simp
  generalize (w.alloc (.cells #[.int .i64 0, .string ⟨#[]⟩, .int .i64 0, .slice none 0 0] ( /- t -/ 40))).alloc (.cells #[.int .i64 0] ( /- t -/ 3)) = W at *
  rintro e w1 ⟨a', ho, hc, hcase⟩
  have hz1 := HZ.out.only ho (by omega)
  have hb1 : Below w.heap.size w w1 := HA.out.trans (ho.to_below (by omega) (by omega))
  obtain ⟨z0, z1, z2, z3⟩ := hz1.cells
  have fz := hz1.frozen
  have hzl := hz1.lt
  have HB1 := hide hb1
  clear hz1 hb1 ho hc
  rcases hcase with ⟨h1, h2, h3, u, bs, rfl, how, hge, hnd⟩ | ⟨hno, rfl⟩
  · obtain ⟨ua, uc, rfl⟩ := how.val
    have hsm : ok = true ∧ Q = R := by
      have h9 := (smallN_iff R).2 ⟨h1, h2⟩
      exact ⟨HQ.out.1.trans h9, HQ.out.2.trans (if_pos h9)⟩
    have HSM := hide hsm
    have HOW := hide how
    have HGE := hide hge
    clear how hge h1 h2 h3 hsm
    go_wp2_with fail
    refine bodyPost_ret (v := .tuple #[.agg #[.int .i64 R.k, .string R.fr, .int .i64 R.ix, .slice ua R.kids.len uc], .bool true]) (by simp [results, Tryz.results61, go_sem, *]) rfl ?_
    have q : ∀ b, b ∈ bs → w.heap.size < b := fun b h => by have := HGE.out b h; omega
    rw [HSM.out.1, HSM.out.2]
    refine ⟨_, bs, rfl, HOW.out.same (same_setAll (fun b hb => Nat.ne_of_gt (q b hb)) _ _ _ _), fun b hb => Nat.le_of_lt (q b hb), hnd, ?_⟩
    exact (((HB1.out.setCell (Nat.le_refl _) _).setCell (Nat.le_refl _) _).setCell (Nat.le_refl _) _).setCell (Nat.le_refl _) _
  · have hsm : smallN R = false := by
      cases h : smallN R with
      | false => rfl
      | true => exact absurd ((smallN_iff R).1 h) hno
    have HSM : Hid (ok = false ∧ Q = zeroNd) := hide ⟨HQ.out.1.trans hsm, HQ.out.2.trans (if_neg (by rw [hsm]; decide))⟩
    clear hno hsm
    go_wp2_with fail
    refine bodyPost_ret (v := .tuple #[.agg #[.int .i64 0, .string ⟨#[]⟩, .int .i64 0, .slice none 0 0], .bool false]) (by simp [results, Tryz.results61, go_sem, *]) rfl ?_
    rw [HSM.out.1, HSM.out.2]
    refine MadeR.zero ?_
    exact (((HB1.out.setCell (Nat.le_refl _) _).setCell (Nat.le_refl _) _).setCell (Nat.le_refl _) _).setCell (Nat.le_refl _) _

set_option maxHeartbeats 2000000 in
set_option maxRecDepth 100000 in
/-- UnfoldLocal of the program. -/
theorem implUnf (w : World) (g : Nd) (sv : Value) (hs : Sl w sv g.kids) :
    Calls Tryz.prog 42 #[.agg #[.int .i64 g.k, .string g.fr, .int .i64 g.ix, sv]] w (MadeR (unfR g) (unfOk g) w) := by
  have HS := hide hs
  have hb0 := (alloc_below w (.cells #[.int .i64 g.k, .string g.fr, .int .i64 g.ix, sv] ( /- t -/ 40))).alloc (by simp) (.cells #[.int .i64 0, .string ⟨#[]⟩, .int .i64 0, .slice none 0 0] ( /- t -/ 40))
  have hz0 := Box4.now (w.alloc (.cells #[.int .i64 g.k, .string g.fr, .int .i64 g.ix, sv] ( /- t -/ 40))) (.int .i64 0) (.string ⟨#[]⟩) (.int .i64 0) (.slice none 0 0) ( /- t -/ 40)
  rw [show (w.alloc (.cells #[.int .i64 g.k, .string g.fr, .int .i64 g.ix, sv] ( /- t -/ 40))).heap.size = w.heap.size + 1 from by simp] at hz0
  have HB0 := hide hb0
  have HZ0 := hide hz0
  obtain ⟨ok, hok⟩ : ∃ ok, ok = unfOk g := ⟨_, rfl⟩
  obtain ⟨R, hR⟩ : ∃ R, R = unfR g := ⟨_, rfl⟩
  rw [← hR, ← hok]
  have HRK := hide (And.intro hok hR)
  clear hs hb0 hz0 hok hR
  go_enter Tryz.func42, Tryz.ntmps42
  go_wp2_with fail
  generalize (w.alloc (.cells #[.int .i64 g.k, .string g.fr, .int .i64 g.ix, sv] ( /- t -/ 40))).alloc (.cells #[.int .i64 0, .string ⟨#[]⟩, .int .i64 0, .slice none 0 0] ( /- t -/ 40)) = W at *
  refine (implLink W g.k g.ix g.fr sv g.kids (HS.out.still (Still.of_below HB0.out))).mono ?_
  rintro e w1 ⟨u, bs, rfl, hu, hb, hok⟩
  have HZ1 := hide (HZ0.out.below hb)
  have HB1 := hide (HB0.out.trans (hb.mono HB0.out.size))
  have HOK := hide hok
  clear hb HZ0 HB0 hok
  cases hok : okN g.k g.fr g.ix g.kids with
  | false =>
    have hr : unfOk g = false := by unfold unfOk okG; rw [hok]; rfl
    have HR := hide hr
    obtain ⟨z0, z1, z2, z3⟩ := HZ1.out.cells
    have fz := HZ1.out.frozen
    have hzl := HZ1.out.lt
    clear hok hr HOK
    rcases hu with rfl | ⟨T, x, rfl⟩
    all_goals
      go_wp2_with fail
      refine bodyPost_ret (v := .tuple #[.agg #[.int .i64 0, .string ⟨#[]⟩, .int .i64 0, .slice none 0 0], .bool false]) (by simp [results, Tryz.results42, go_sem, *]) rfl ?_
      have e1 : unfR g = zeroNd := by unfold unfR; rw [HR.out]; rfl
      rw [HRK.out.1, HRK.out.2, HR.out, e1]
      refine MadeR.zero ?_
      repeat (refine Below.setCell ?_ (by first | (simp; done) | (simp; omega)) _)
      exact HB1.out
  | true =>
    have hg : okG g = true := hok
    obtain ⟨hw, hh, hsz⟩ := okG_w hg
    have hln := (HOK.out hok).1
    obtain ⟨T, x, rfl⟩ := hln.val
    have hwT : wN (unf g) 0 0 = true := unfN_w _ _ _ (fun x hx => by simp at hx) hw
    have hOK : unfOk g = smallN (unf g) := by unfold unfOk smallN; rw [hg, okG_of_w hwT, Bool.true_and]
    have hRR : unfR g = if smallN (unf g) = true then unf g else zeroNd := by unfold unfR; rw [hOK]
    have HH := hide (And.intro hln (And.intro hw hh))
    have HRR := hide (And.intro (HRK.out.1.trans hOK) (HRK.out.2.trans hRR))
    clear hok hg hw hh hsz hln hwT hOK hRR HOK hu
    go_wp2_with fail
    refine (unfL_calls w1 w1 g _ bs HH.out.1 HH.out.2.1 HH.out.2.2 (Below.refl _ _)).mono ?_
    rintro e w2 ⟨es, N, v', ks', rfl, hln, he, hcp, hwN, h41, ⟨T2, x2, rfl⟩, hb2⟩
    have HZ2 := hide (HZ1.out.below hb2)
    have HB2 := hide (HB1.out.trans (hb2.mono HB1.out.size))
    have HL := hide (And.intro hln (And.intro he (And.intro hcp (And.intro hwN hb2))))
    clear hln he hcp hwN hb2 HZ1 HH
    go_wp2_with fail
    refine (unlinkL_calls w1 w2 N (unf g) _ es ks' (by omega) HL.out.1 HL.out.2.1 HL.out.2.2.2.1 HL.out.2.2.2.2 ⟨_, _, rfl⟩ HL.out.2.2.1).mono ?_
    rw [← HRR.out.2, ← HRR.out.1]
    rintro e w3 ⟨u3, bs3, rfl, how, hge, hnd, hb3⟩
    obtain ⟨ua, uc, rfl⟩ := how.val
    have hz3 := HZ2.out.below hb3
    have hw2l := HZ2.out.lt
    have HB3 := hide (HB2.out.trans (hb3.mono HB2.out.size))
    obtain ⟨z0, z1, z2, z3⟩ := hz3.cells
    have fz := hz3.frozen
    have hzl := hz3.lt
    have HOW := hide how
    have HGE := hide hge
    clear how hge hb3 hz3 HL HB1 HB2
    go_wp2_with fail
    refine bodyPost_ret (v := .tuple #[.agg #[.int .i64 R.k, .string R.fr, .int .i64 R.ix, .slice ua R.kids.len uc], .bool ok]) (by simp [results, Tryz.results42, go_sem, *]) rfl ?_
    have q : ∀ b, b ∈ bs3 → w.heap.size + 1 < b := fun b h => by have := HGE.out b h; omega
    refine ⟨_, bs3, rfl, HOW.out.same (same_setAll (fun b hb => Nat.ne_of_gt (q b hb)) _ _ _ _), fun b hb => by have := q b hb; omega, hnd, ?_⟩
    repeat (refine Below.setCell ?_ (by first | (simp; done) | (simp; omega)) _)
    exact HB3.out
end Go.Proofs.YtnlihdcjpeabfaaGreatDoor.Lo

/- currentType, watcherOf and MonitorValid of the program. -/
namespace Go.Proofs.YtnlihdcjpeabfaaGreatDoor.Lo
open Go.RowKit

def curOk (g : Nd) (c : UInt8) : Bool := !(hasB (peersN g.k g.fr g.ix g.kids) c) && unfOk g
def curR (g : Nd) (c : UInt8) : Nd := if curOk g c then unf g else zeroNd
theorem cur_yes {g : Nd} {c : UInt8} (h : hasB (peersN g.k g.fr g.ix g.kids) c = true) : curOk g c = false ∧ curR g c = zeroNd := by
  have e : curOk g c = false := by unfold curOk; rw [h]; rfl
  exact ⟨e, by unfold curR; rw [e]; rfl⟩
theorem cur_no {g : Nd} {c : UInt8} (h : hasB (peersN g.k g.fr g.ix g.kids) c = false) : curOk g c = unfOk g ∧ curR g c = unfR g := by
  have e : curOk g c = unfOk g := by unfold curOk; rw [h]; rfl
  exact ⟨e, by unfold curR unfR; rw [e]⟩
theorem ow_cells4 {w : World} {u : Value} {f : F} {bs : List Nat} (h : Ow w u f bs) {b : Nat} (hb : ∀ x, x ∈ bs → x ≠ b) (u0 u1 u2 u3 : Value) : Ow ((((w.setCell ⟨b, 0, none⟩ u0).setCell ⟨b, 1, none⟩ u1).setCell ⟨b, 2, none⟩ u2).setCell ⟨b, 3, none⟩ u3) u f bs := by
  refine h.same ?_
  repeat (refine Same.setCell ?_ (fun x hx => by have := hb x hx; simpa using this) _)
  exact Same.refl _ _

set_option maxHeartbeats 1600000 in
set_option maxRecDepth 100000 in
/-- currentType of the program. -/
theorem implCur (w : World) (g : Nd) (sv : Value) (c : UInt8) (hs : Sl w sv g.kids) :
    Calls Tryz.prog 28 #[.agg #[.int .i64 g.k, .string g.fr, .int .i64 g.ix, sv], .string ⟨#[c]⟩] w (MadeR (curR g c) (curOk g c) w) := by
  have HS := hide hs
  have hb0 := (alloc_below w (.cells #[.int .i64 g.k, .string g.fr, .int .i64 g.ix, sv] ( /- t -/ 40))).alloc (by simp) (.cells #[.int .i64 0, .string ⟨#[]⟩, .int .i64 0, .slice none 0 0] ( /- t -/ 40))
  have hx0 := (Box4.now w (.int .i64 g.k) (.string g.fr) (.int .i64 g.ix) sv ( /- t -/ 40)).below (alloc_below _ (.cells #[.int .i64 0, .string ⟨#[]⟩, .int .i64 0, .slice none 0 0] ( /- t -/ 40)))
  have hz0 := Box4.now (w.alloc (.cells #[.int .i64 g.k, .string g.fr, .int .i64 g.ix, sv] ( /- t -/ 40))) (.int .i64 0) (.string ⟨#[]⟩) (.int .i64 0) (.slice none 0 0) ( /- t -/ 40)
  rw [show (w.alloc (.cells #[.int .i64 g.k, .string g.fr, .int .i64 g.ix, sv] ( /- t -/ 40))).heap.size = w.heap.size + 1 from by simp] at hz0
  have HB0 := hide hb0
  have HX0 := hide hx0
  have HZ0 := hide hz0
  obtain ⟨ok, hok⟩ : ∃ ok, ok = curOk g c := ⟨_, rfl⟩
  obtain ⟨R, hR⟩ : ∃ R, R = curR g c := ⟨_, rfl⟩
  rw [← hR, ← hok]
  have HRK := hide (And.intro hok hR)
  clear hs hb0 hx0 hz0 hok hR
  go_enter Tryz.func28, Tryz.ntmps28
  go_wp2_with fail
  generalize (w.alloc (.cells #[.int .i64 g.k, .string g.fr, .int .i64 g.ix, sv] ( /- t -/ 40))).alloc (.cells #[.int .i64 0, .string ⟨#[]⟩, .int .i64 0, .slice none 0 0] ( /- t -/ 40)) = W at *
  refine (implPeers W g.k g.ix g.fr sv g.kids (HS.out.still (Still.of_below HB0.out))).mono ?_
  rintro e w1 ⟨rfl, hb⟩
  have HX1 := hide (HX0.out.below hb)
  have HZ1 := hide (HZ0.out.below hb)
  have HB1 := hide (HB0.out.trans (hb.mono HB0.out.size))
  obtain ⟨x0, x1, x2, x3⟩ := HX1.out.cells
  have hxl := HX1.out.lt
  clear hb HX0 HZ0 HB0
  go_wp2_with fail
  refine (contains_one _ c _).mono ?_
  rintro e w2 ⟨rfl, rfl⟩
  cases hh : hasB (peersN g.k g.fr g.ix g.kids) c with
  | true =>
    have HC := hide (cur_yes hh)
    obtain ⟨z0, z1, z2, z3⟩ := HZ1.out.cells
    have fz := HZ1.out.frozen
    have hzl := HZ1.out.lt
    clear hh
    go_wp2_with fail
    refine bodyPost_ret (v := .tuple #[.agg #[.int .i64 0, .string ⟨#[]⟩, .int .i64 0, .slice none 0 0], .bool false]) (by simp [results, Tryz.results28, go_sem, *]) rfl ?_
    rw [HRK.out.1, HRK.out.2, HC.out.1, HC.out.2]
    refine MadeR.zero ?_
    repeat (refine Below.setCell ?_ (by first | (simp; done) | (simp; omega)) _)
    exact HB1.out
  | false =>
    have HC := hide (cur_no hh)
    clear hh
    go_wp2_with fail
    refine (implUnf w1 g sv (HS.out.still (Still.of_below HB1.out))).mono ?_
    rw [← HC.out.1, ← HC.out.2, ← HRK.out.1, ← HRK.out.2]
    rintro e w3 ⟨u, bs, rfl, how, hge, hnd, hb3⟩
    obtain ⟨ua, uc, rfl⟩ := how.val
    have HZ3 := hide (HZ1.out.below hb3)
    have HB3 := hide (HB1.out.trans (hb3.mono HB1.out.size))
    have h13 := HB1.out.size
    have hz1l := HZ1.out.lt
    have HOW := hide how
    have HGE := hide hge
    obtain ⟨z0, z1, z2, z3⟩ := HZ3.out.cells
    have fz := HZ3.out.frozen
    have hzl := HZ3.out.lt
    clear hb3 how hge
    go_wp2_with fail
    refine bodyPost_ret (v := .tuple #[.agg #[.int .i64 R.k, .string R.fr, .int .i64 R.ix, .slice ua R.kids.len uc], .bool ok]) (by simp [results, Tryz.results28, go_sem, *]) rfl ?_
    refine ⟨_, bs, rfl, ow_cells4 HOW.out (fun x hx => by have := HGE.out x hx; omega) _ _ _ _, fun x hx => by have := HGE.out x hx; omega, hnd, ?_⟩
    repeat (refine Below.setCell ?_ (by first | (simp; done) | (simp; omega)) _)
    exact HB3.out
end Go.Proofs.YtnlihdcjpeabfaaGreatDoor.Lo

/- The peers of a local type are three letters at most. -/
namespace Go.Proofs.YtnlihdcjpeabfaaGreatDoor.Lo
open Go.RowKit

theorem peers_small (k : Int) (fr : ByteArray) (ix : Int) (kids : F) : (peersN k fr ix kids).size ≤ 1048576 := by
  unfold peersN
  split
  · have : (setL fun c => namNb c k fr kids).length ≤ 3 := setK_len _ 3
    show (setL fun c => namNb c k fr kids).length ≤ 1048576
    omega
  · exact Nat.zero_le _
end Go.Proofs.YtnlihdcjpeabfaaGreatDoor.Lo

/- Whether a string consists of labels: areLabels of the program. -/
namespace Go.Proofs.YtnlihdcjpeabfaaGreatDoor.Tk
open Go.RowKit Go.Shelf

def labC (c : UInt8) : Bool := decide (97 ≤ c.toNat ∧ c.toNat ≤ 100)
/-- All bytes are labels. -/
def labsB (s : ByteArray) : Bool := s.data.toList.all labC
theorem labB_one (c : UInt8) : labB ⟨#[c]⟩ = labC c := rfl
theorem set_lab (c : UInt8) : [(97 : UInt8), 98, 99, 100].contains c = labC c := by
  unfold labC
  by_cases h1 : c = 97
  · subst h1; decide
  by_cases h2 : c = 98
  · subst h2; decide
  by_cases h3 : c = 99
  · subst h3; decide
  by_cases h4 : c = 100
  · subst h4; decide
  have n1 : ¬ (97 ≤ c.toNat ∧ c.toNat ≤ 100) := by
    intro h
    have hh : c.toNat = 97 ∨ c.toNat = 98 ∨ c.toNat = 99 ∨ c.toNat = 100 := by omega
    rcases hh with hh | hh | hh | hh
    · exact h1 (UInt8.toNat_inj.1 hh)
    · exact h2 (UInt8.toNat_inj.1 hh)
    · exact h3 (UInt8.toNat_inj.1 hh)
    · exact h4 (UInt8.toNat_inj.1 hh)
  rw [decide_eq_false n1]
  simp [h1, h2, h3, h4]

theorem dropWhile_nil {p : UInt8 → Bool} : ∀ l : List UInt8, (l.dropWhile p).isEmpty = l.all p
  | [] => rfl
  | x :: l => by
    cases h : p x with
    | true => simp [List.dropWhile, h, dropWhile_nil l]
    | false => simp [List.dropWhile, h]
theorem dropWhile_head {p : UInt8 → Bool} : ∀ (l : List UInt8) {x : UInt8} {r : List UInt8}, l.dropWhile p = x :: r → p x = false
  | [], _, _, h => by simp at h
  | y :: l, x, r, h => by
    cases hy : p y with
    | true => rw [List.dropWhile_cons, if_pos hy] at h; exact dropWhile_head l h
    | false =>
      rw [List.dropWhile_cons, if_neg (by simp [hy])] at h
      obtain ⟨rfl, -⟩ := List.cons.inj h
      exact hy
/-- What is left behind Trim is empty just if all bytes lie in the set. -/
theorem trim_nil (l cs : List UInt8) : (Lib.trimS l cs).isEmpty = l.all (cs.contains ·) := by
  show ((l.reverse.dropWhile (fun c => cs.contains c)).reverse.dropWhile (fun c => cs.contains c)).isEmpty = l.all (fun c => cs.contains c)
  rw [dropWhile_nil, List.all_reverse, show l.all (fun c => cs.contains c) = (l.reverse.dropWhile (fun c => cs.contains c)).isEmpty from by rw [dropWhile_nil, List.all_reverse]]
  generalize hr : l.reverse.dropWhile (fun c => cs.contains c) = r
  cases r with
  | nil => rfl
  | cons x r =>
    have h := dropWhile_head _ hr
    simp only [List.all_cons, h, Bool.false_and]
    rfl
theorem trim_labs (s : ByteArray) : (Lib.trimS s.data.toList [97, 98, 99, 100]).isEmpty = labsB s := by
  rw [trim_nil]
  unfold labsB
  congr 1
  funext c
  exact set_lab c

set_option maxHeartbeats 1000000 in
/-- areLabels of the program. -/
theorem implLabs (s : ByteArray) (w : World) (hs : s.size ≤ 9223372036854775807) :
    Calls Tryz.prog 27 #[.string s] w fun e w' => e = .returned (.bool (labsB s)) ∧ Below w.heap.size w w' := by
  have hcon := Any.strings_Trim_laid Tryz.lays160 (by kernel_rfl) s ⟨#[97, 98, 99, 100]⟩ w hs (by decide) (ascii_of_all (by decide))
  have hl := trim_labs s
  change Calls Tryz.prog 39 _ _ (fun e w' => e = .returned (.string ⟨(Lib.trimS s.data.toList [97, 98, 99, 100]).toArray⟩) ∧ Below w.heap.size w w') at hcon
  generalize Lib.trimS s.data.toList [97, 98, 99, 100] = r at hcon hl
  have hq2 : (ByteArray.mk r.toArray).toList.isEmpty = labsB s := by
    rw [← hl, ByteArray.toList_eq]
  generalize ByteArray.mk r.toArray = t at *
  have HL := hide hq2
  clear hl hq2
  go_enter Tryz.func27, Tryz.ntmps27
  go_wp2_with (go_at_call 39; refine hcon.mono ?_; rintro e w' ⟨rfl, hB⟩)
  go_ret
  exact ⟨ret_bool HL.out, hB⟩

end Go.Proofs.YtnlihdcjpeabfaaGreatDoor.Tk

/- A block read and written whole, as the walk meets it. -/
namespace Go.Proofs.YtnlihdcjpeabfaaGreatDoor.Lo
open Go.RowKit

section
variable {P : Program} {o : Oper} {a : Act} {next : Act → World → Prop} {Q : Exit → Act → World → Prop} {w : World} {b : Nat} {c c' : Array Value} {t : TypeId} {p x : Operand}

theorem Blk.setRow (h : Blk w b c) (c' : Array Value) : Blk (w.setRow b c') b c' := by
  obtain ⟨t, h⟩ := h
  exact ⟨t, setRow_heap w b c c' t (0, 0) h⟩
theorem Blk.setOther {g : Nat} (h : Blk w b c) (hne : b ≠ g) (c' : Array Value) : Blk (w.setRow g c') b c := h.same (setRow_other w g b c' hne)
theorem Blk.setOtherCell (h : Blk w b c) {q : Addr} (hq : b ≠ q.block) (v : Value) : Blk (w.setCell q v) b c := h.same (Below.heap_setCell _ _ _ _ hq)
theorem run_store_blk (hb : Blk w b c) (hi : (P.info? t).map (·.size) = some c'.size) (hsz : c.size = c'.size) (h1 : c'.all (·.oneCell') = true) :
    (Instr.storeAt t (.pointer (some ⟨b, 0, none⟩)) (.agg c')).run P w = .ok () (w.setRow b c') := by
  obtain ⟨te, hb⟩ := hb
  simp only [Instr.storeAt, Instr.sureAddr, Sem.run_bind, Sem.run_pure, Result.andThen]
  exact run_storeVar_row w b te t c c' hb hi hsz h1
theorem wp_store_blk (hop : o.op = .store t p x) (hb : Blk w b c) (hp : a.eval p = .pointer (some ⟨b, 0, none⟩)) (hx : a.eval x = .agg c') (hi : (P.info? t).map (·.size) = some c'.size) (hsz : c.size = c'.size)
    (h1 : c'.all (·.oneCell') = true) (h : next (a.put o.dst undef) (w.setRow b c')) : Oper.wp P o a w next Q := by
  unfold Oper.wp
  simp only [execOp, hop, hp, hx, run_store_blk hb hi hsz h1, Sem.run_bind, Sem.run_pure, Result.andThen]
  exact h
theorem wpList_store_blk {ops : Array Oper} {rest : List Oper} (hg : o.guard = none) (hop : o.op = .store t p x) (hb : Blk w b c) (hp : a.eval p = .pointer (some ⟨b, 0, none⟩)) (hx : a.eval x = .agg c')
    (hi : (P.info? t).map (·.size) = some c'.size) (hsz : c.size = c'.size) (h1 : c'.all (·.oneCell') = true) (h : wpList P ops Q rest (a.put o.dst undef) (w.setRow b c')) : wpList P ops Q (o :: rest) a w := by
  refine wpList_plain hg fun K' hK' => ?_
  unfold Oper.wp
  simp only [execOp, hop, hp, hx, run_store_blk hb hi hsz h1, Sem.run_bind, Sem.run_pure, Result.andThen]
  exact hK' _ _ h
theorem run_load_blk {d : TypeDesc} (hb : Blk w b c) (hu : P.underlying t = some d) (hd : (match d with | .struct _ | .array _ _ => true | _ => false) = true) (hi : (P.info? t).map (·.size) = some c.size) :
    (Instr.loadAt t (.pointer (some ⟨b, 0, none⟩))).run P w = .ok (.agg c) w := by
  obtain ⟨te, hb⟩ := hb
  simp only [Instr.loadAt, Instr.sureAddr, Sem.run_bind, Sem.run_pure, Result.andThen]
  exact run_loadVar_row w b te t c (0, 0) d hb hu hd hi
theorem wpList_load_blk {ops : Array Oper} {rest : List Oper} {d : TypeDesc} (hg : o.guard = none) (hop : o.op = .load t p) (hb : Blk w b c) (hp : a.eval p = .pointer (some ⟨b, 0, none⟩))
    (hu : P.underlying t = some d) (hd : (match d with | .struct _ | .array _ _ => true | _ => false) = true) (hi : (P.info? t).map (·.size) = some c.size) (h : wpList P ops Q rest (a.put o.dst (.agg c)) w) : wpList P ops Q (o :: rest) a w := by
  refine wpList_plain hg fun K' hK' => ?_
  unfold Oper.wp
  simp only [execOp, hop, hp, run_load_blk hb hu hd hi, Sem.run_bind, Sem.run_pure, Result.andThen]
  exact hK' _ _ h
/-- A struct that lies in a block, and a number beside it: what a function hands back. -/
theorem results_blk {fn : Func} {r u : Tmp} {d : TypeDesc} (hf : fn.results = #[.cell r t, .tmp u]) {tmps : Array Value} (hr : tmps.getD r undef = .pointer (some ⟨b, 0, none⟩)) (hb : Blk w b c)
    (hu : P.underlying t = some d) (hd : (match d with | .struct _ | .array _ _ => true | _ => false) = true) (hi : (P.info? t).map (·.size) = some c.size) :
    (results fn tmps).run P w = .ok (.tuple #[.agg c, tmps.getD u undef]) w := by
  have h := run_load_blk hb hu hd hi
  simp only [Instr.loadAt, Instr.sureAddr, Sem.run_bind, Sem.run_pure, Result.andThen] at h
  have hr' : tmps[r]?.getD undef = .pointer (some ⟨b, 0, none⟩) := by simpa using hr
  simp [results, hf, hr', h, asAddr]
end
end Go.Proofs.YtnlihdcjpeabfaaGreatDoor.Lo
