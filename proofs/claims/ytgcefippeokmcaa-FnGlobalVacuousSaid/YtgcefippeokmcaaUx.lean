/- copyGlobal of the program: a node that stays. -/
import Derived.Test.YtgcefippeokmcaaUc
import Derived.Deep.CutRange
import Derived.Test.YtgcefippeokmcaaEg
namespace Go.Proofs.Ytgcefippeokmcaa
open Go.RowKit

theorem Box5.only {w w' : World} {b c : Nat} {v0 v1 v2 v3 v4 : Value} (h : Box5 w b v0 v1 v2 v3 v4) (ho : Only c w w') (hb : b ≠ c) : Box5 w' b v0 v1 v2 v3 v4 := h.same (ho.block _ h.lt hb)

set_option maxHeartbeats 1000000 in
set_option maxRecDepth 100000 in
/-- slices.Clip. -/
theorem clip_calls (w : World) (a : Option Addr) (n cap : Nat) (hn : n ≤ cap) :
    Calls Try.prog 38 #[.slice a n cap] w fun e w' => e = .returned (.slice a n n) ∧ w' = w := by
  go_enter Try.func38, Try.ntmps38
  go_wp2_with fail
  go_ret
  exact ⟨rfl, rfl⟩

/-- What stands in memory while a node is copied. -/
structure CpSt (W0 w wd : World) (c m : Nat) (k ix : Int) (fr tg : ByteArray) (sv : Value) (s : List (Option Nd)) (ev : Value) : Prop where
  hx : Box5 wd w.heap.size (.int .i64 k) (.string fr) (.string tg) (.int .i64 ix) sv
  hz : Box5 wd (w.heap.size + 1) (.int .i64 0) (.string ⟨#[]⟩) (.string ⟨#[]⟩) (.int .i64 0) (.slice none 0 0)
  hc : Ctr wd c m
  ho : Only c w wd
  he : EnvIs W0 wd c s ev

theorem CpSt.lt {W0 w wd : World} {c m : Nat} {k ix : Int} {fr tg : ByteArray} {sv ev : Value} {s : List (Option Nd)} (h : CpSt W0 w wd c m k ix fr tg sv s ev) : w.heap.size + 1 < wd.heap.size := h.hz.lt
theorem CpSt.below {W0 w wd we : World} {c m : Nat} {k ix : Int} {fr tg : ByteArray} {sv ev : Value} {s : List (Option Nd)} (h : CpSt W0 w wd c m k ix fr tg sv s ev) (hb : Below wd.heap.size wd we) : CpSt W0 w we c m k ix fr tg sv s ev :=
  ⟨h.hx.below hb, h.hz.below hb, h.hc.below hb, h.ho.below hb, h.he.still (Still.of_below hb)⟩
theorem CpSt.only {W0 w wd we : World} {c m m' : Nat} {k ix : Int} {fr tg : ByteArray} {sv ev : Value} {s : List (Option Nd)} (h : CpSt W0 w wd c m k ix fr tg sv s ev) (hc : c < w.heap.size) (ho : Only c wd we) (hc' : Ctr we c m') : CpSt W0 w we c m' k ix fr tg sv s ev :=
  ⟨h.hx.only ho (by omega), h.hz.only ho (by omega), hc', h.ho.trans ho, h.he.only h.hc ho⟩
/-- A cell outside is written. -/
theorem CpSt.set {W0 w wd : World} {c m : Nat} {k ix : Int} {fr tg : ByteArray} {sv ev : Value} {s : List (Option Nd)} (h : CpSt W0 w wd c m k ix fr tg sv s ev) (hc : c < w.heap.size) (b o : Nat) (hb : w.heap.size + 2 ≤ b) (v : Value)
    (he : EnvIs W0 (wd.setCell ⟨b, o, none⟩ v) c s ev) : CpSt W0 w (wd.setCell ⟨b, o, none⟩ v) c m k ix fr tg sv s ev :=
  ⟨h.hx.setOther (by simp; omega) _, h.hz.setOther (by simp; omega) _, h.hc.setOther (by simp; omega) _, h.ho.setCell (Or.inr (by simp; omega)) _, he⟩

theorem grown_below {w w' : World} (h : w.grownBy w' none) : Below w.heap.size w w' := ⟨h.os, h.tape, h.output, h.size, fun k hk => h.block k hk (by simp)⟩
theorem Gr.only {w w' : World} {base c : Nat} {v : Value} {f : F} {bs : List Nat} (h : Gr w base v f bs) (ho : Only c w w') (hc : c < base) : Gr w' base v f bs :=
  h.same (fun b hb => ho.block b (h.lt b hb) (by have := h.ge b hb; omega))

theorem CpPost.no0 {c : Nat} {N : Nd} {d : Int} {m m' : Nat} {w w' : World} (ho : Only c w w') (hc : Ctr w' c m') (h : ¬ (m + (N.kids.sz + 1) ≤ 400 ∧ d + (hF N.kids : Int) ≤ 40)) :
    CpPost c N d m w (.returned (.tuple #[.agg #[.int .i64 0, .string ⟨#[]⟩, .string ⟨#[]⟩, .int .i64 0, .slice none 0 0], .bool false])) w' := ⟨m', ho, hc, Or.inr ⟨h, rfl⟩⟩

/-- What holds at each round's head. -/
def CpRel (W0 wc : World) (c m : Nat) (d k ix : Int) (fr tg : ByteArray) (kids : F) (Q : List (Option Nd)) (a : Option Addr) (X : Nat) (iv : Value) (wr : World) : Prop :=
  ∃ (p g : F) (v : Value) (bs : List Nat) (m' : Nat), kids = p.app g ∧ iv = .int .i64 (p.len : Nat) ∧ At W0 a p.len g ∧ Ctr wr c m' ∧ Only c wc wr ∧ Box5 wr X (.int .i64 k) (.string fr) (.string tg) (.int .i64 ix) v ∧ Gr wr (X + 1) v (cpF (vals Q) p) bs ∧
    m' = m + 1 + (cpF (vals Q) p).sz ∧ m' ≤ 400 ∧ d + (hF (cpF (vals Q) p) : Int) ≤ 40

/-- What the environment stands for fits into values. -/
theorem EnvIs.fits {W0 w : World} {c : Nat} : ∀ (s : List (Option Nd)) (ev : Value), EnvIs W0 w c s ev → ∀ U, some U ∈ vals s → Fit U := by
  intro s
  induction s with
  | nil => intro ev _ U hU; simp [vals] at hU
  | cons x t ih =>
    intro ev h U hU
    obtain ⟨b, cap, rfl, _, _, ht, hx⟩ := h
    cases x with
    | none =>
      rcases List.mem_cons.1 (show some U ∈ none :: vals t from hU) with h | h
      · cases h
      · exact ih _ ht U h
    | some R =>
      obtain ⟨_, _, _, _, _, _, _, hf, _⟩ := hx
      rcases List.mem_cons.1 (show some U ∈ some (cpN (vals t) R) :: vals t from hU) with h | h
      · cases h
        exact cpN_fit (ih _ ht) hf
      · exact ih _ ht U h

/-- A child in its place. -/
theorem kid_w {k ix : Int} {fr tg : ByteArray} {kids : F} {s Q : List (Option Nd)} (hw : wN ⟨k, fr, tg, ix, kids⟩ (s.length : Int) 0 = true) (hQ : Q = if k = 3 then none :: s else s) {p rest : F} {lab : ByteArray} {kd ix' : Int} {fr' tg' : ByteArray} {kids' : F}
    (he : kids = p.app (.cons lab kd fr' tg' ix' kids' rest)) : wN ⟨kd, fr', tg', ix', kids'⟩ (Q.length : Int) 0 = true := by
  unfold wN at hw
  simp only [Bool.and_eq_true] at hw
  obtain ⟨h1, h2⟩ := hw
  have hne : kids ≠ .nil := by
    rw [he]
    intro e
    have := congrArg F.len e
    rw [F.len_app] at this
    simp only [F.len] at this
    omega
  by_cases h3 : k = 3
  · rw [if_neg (by omega), if_pos h3, he, wF_app] at h2
    rw [hQ, if_pos h3]
    simp only [wF, Bool.and_eq_true] at h2
    refine wN_u _ _ 1 0 ?_ (by omega)
    unfold wN
    simp only [Bool.and_eq_true, List.length_cons]
    exact h2.2.1
  · by_cases h2' : k = 2
    · rw [if_neg (by omega), if_neg h3, if_pos h2', he, wF_app] at h2
      rw [hQ, if_neg h3]
      simp only [wF, Bool.and_eq_true] at h2
      unfold wN
      simp only [Bool.and_eq_true]
      exact h2.2.1
    · exact absurd (shape_leaf h1 h2' h3) hne

set_option maxHeartbeats 2000000 in
set_option maxRecDepth 100000 in
theorem cp_node (q n : Nat) (hq : CpAt q n) (W0 w : World) (c m : Nat) (d k ix : Int) (fr tg : ByteArray) (sv ev : Value) (kids : F) (s : List (Option Nd)) (hn : kids.sz < n + 1) (hp : puts s = q) (hb : Below W0.heap.size W0 w) (hc0 : W0.heap.size ≤ c) (hc : Ctr w c m) (hm : m ≤ 400) (hd1 : 1 ≤ d) (hd2 : d ≤ 41)
    (he : EnvIs W0 w c s ev) (hg : GoodS s) (hh : s.length + hF kids ≤ 500) (hw : wN ⟨k, fr, tg, ix, kids⟩ (s.length : Int) 0 = true) (hf : Fit ⟨k, fr, tg, ix, kids⟩) (hs : Sl W0 sv kids)
    (hkeep : k ≠ 4 ∨ ∃ (i T b cap nn : Nat), k = 4 ∧ ix = (i : Int) ∧ ev = .slice (some ⟨b, 0, none⟩) nn cap ∧ nn = i + 1 + T ∧ w.cell? ⟨b, T, none⟩ = some .nilFunc) (S' : List (Option Nd)) (hS : S' = if k = 3 then none :: vals s else vals s) :
    Calls Try.prog 18 #[.agg #[.int .i64 k, .string fr, .string tg, .int .i64 ix, sv], ev, .int .i64 d, .pointer (some ⟨c, 0, none⟩)] w (CpPost c ⟨k, fr, tg, ix, cpF S' kids⟩ d m w) := by
  have HS' := hide hS
  clear hS
  have hsh : shapeB k fr tg ix kids = true := by unfold wN at hw; simp only [Bool.and_eq_true] at hw; exact hw.1
  obtain ⟨ea, ecap, rfl, en1, en2, en3⟩ := he.form
  have hcl := hc.lt
  have hslen : s.length ≤ 500 := by omega
  have hst : Hid (∀ w1, Below ((w.alloc (.cells #[.int .i64 k, .string fr, .string tg, .int .i64 ix, sv] ( /- t -/ 25))).alloc (.cells #[.int .i64 0, .string ⟨#[]⟩, .string ⟨#[]⟩, .int .i64 0, .slice none 0 0] ( /- t -/ 25))).heap.size ((w.alloc (.cells #[.int .i64 k, .string fr, .string tg, .int .i64 ix, sv] ( /- t -/ 25))).alloc (.cells #[.int .i64 0, .string ⟨#[]⟩, .string ⟨#[]⟩, .int .i64 0, .slice none 0 0] ( /- t -/ 25))) w1 → CpSt W0 w w1 c m k ix fr tg sv s (.slice ea s.length ecap) ∧ Below w.heap.size w w1) := hide (fun w1 hb1 => by
    have h1 := Box5.now w (.int .i64 k) (.string fr) (.string tg) (.int .i64 ix) sv ( /- t -/ 25)
    have h2 := Box5.now (w.alloc (.cells #[.int .i64 k, .string fr, .string tg, .int .i64 ix, sv] ( /- t -/ 25))) (.int .i64 0) (.string ⟨#[]⟩) (.string ⟨#[]⟩) (.int .i64 0) (.slice none 0 0) ( /- t -/ 25)
    rw [show (w.alloc (.cells #[.int .i64 k, .string fr, .string tg, .int .i64 ix, sv] ( /- t -/ 25))).heap.size = w.heap.size + 1 from by simp] at h2
    have hA := alloc_below w (.cells #[.int .i64 k, .string fr, .string tg, .int .i64 ix, sv] ( /- t -/ 25))
    have hB := hA.alloc (by simp) (.cells #[.int .i64 0, .string ⟨#[]⟩, .string ⟨#[]⟩, .int .i64 0, .slice none 0 0] ( /- t -/ 25))
    have hC := hB.trans (hb1.mono hB.size)
    exact ⟨⟨(h1.below (alloc_below _ _)).below hb1, h2.below hb1, hc.below hC, (Only.refl c w).below hC, he.still (Still.of_below hC)⟩, hC⟩)
  have hBB0 := (alloc_below w (.cells #[.int .i64 k, .string fr, .string tg, .int .i64 ix, sv] ( /- t -/ 25))).alloc (by simp) (.cells #[.int .i64 0, .string ⟨#[]⟩, .string ⟨#[]⟩, .int .i64 0, .slice none 0 0] ( /- t -/ 25))
  have HSW : Hid (Sl ((w.alloc (.cells #[.int .i64 k, .string fr, .string tg, .int .i64 ix, sv] ( /- t -/ 25))).alloc (.cells #[.int .i64 0, .string ⟨#[]⟩, .string ⟨#[]⟩, .int .i64 0, .slice none 0 0] ( /- t -/ 25))) sv kids) :=
    hide ((hs.still (Still.of_below hb)).still (Still.of_below hBB0))
  have HH := hide (And.intro hn (And.intro hp (And.intro hb (And.intro hc0 (And.intro hg (And.intro hh (And.intro hw (And.intro hf (And.intro hs (And.intro hc he))))))))))
  have HK := hide hkeep
  have HSH := hide hsh
  clear hn hp hb hc0 hg hh hw hf hs hc he hkeep hsh hBB0
  go_enter Try.func18, Try.ntmps18
  go_upto_region 1 with fail
  generalize (w.alloc (.cells #[.int .i64 k, .string fr, .string tg, .int .i64 ix, sv] ( /- t -/ 25))).alloc (.cells #[.int .i64 0, .string ⟨#[]⟩, .string ⟨#[]⟩, .int .i64 0, .slice none 0 0] ( /- t -/ 25)) = W at *
  have hW := (hst.out W (Below.refl _ _)).1
  obtain ⟨x0, x1, x2, x3, x4⟩ := hW.hx.cells
  have hxl := hW.hx.lt
  clear hW
  go_wp2_with fail
  refine (node_test W k ix fr tg sv kids HSW.out HSH.out).mono ?_
  rintro e w1 ⟨v, rfl, hv, hb1⟩
  have HB1 := hide hb1
  obtain ⟨bb, hbb⟩ : ∃ bb : Bool, bb = decide (k = 4) := ⟨_, rfl⟩
  obtain ⟨X, hX⟩ : ∃ X : Int, X = if k = 4 then ix else 0 := ⟨_, rfl⟩
  have hta : ∀ w, (Instr.typeAssert v ( /- t -/ 68) ( /- t -/ 65) true).run Try.prog w = .ok (.tuple #[.agg #[.int .i64 X], .bool bb]) w := fun w => by rw [hX, hbb]; exact hv w
  have HX := hide hX
  have HBB := hide hbb
  clear hv hb1 hbb hX x0 x1 x2 x3 x4 hxl
  go_upto_if 24 with fail
  go_cut [12] from 25 to 40 (fun _ wc => wc = w1.alloc (.cells #[.int .i64 X] ( /- t -/ 65)))
  case first =>
    by_cases h4 : k = 4
    · have hb : bb = true := HBB.out.trans (decide_eq_true h4)
      subst hb
      rcases HK.out with h | ⟨i, T, b, cap, nn, -, hi, hev, hnn, hcell⟩
      · exact absurd h4 h
      · simp only [Value.slice.injEq] at hev
        obtain ⟨rfl, rfl, rfl⟩ := hev
        have hXi : X = (i : Int) := by rw [HX.out, if_pos h4, hi]
        subst hXi
        have hcell1 : w1.cell? ⟨b, T, none⟩ = some .nilFunc := Still.of_below (hst.out w1 HB1.out).2 _ _ hcell
        have hbl1 := World.block_lt_of_cell? _ _ hcell1
        have hix : (s.length : Int) - 1 - (i : Int) = (T : Int) := by omega
        have hTn : T < s.length := by omega
        have hTn2 : (T : Int) < (s.length : Int) := by omega
        have hcn := clo_none
        clear hnn hi hcell h4
        go_wp2_with fail
        go_meet
        case rel => rfl
    · have hb : bb = false := HBB.out.trans (decide_eq_false h4)
      subst hb
      clear h4
      go_wp2_with fail
      go_meet
      case rel => rfl
  case rest =>
    subst hcut
    have hst2 := (hst.out w1 HB1.out).1.below (alloc_below w1 (.cells #[.int .i64 X] ( /- t -/ 65)))
    generalize w1.alloc (.cells #[.int .i64 X] ( /- t -/ 65)) = W2 at *
    have HST := hide hst2
    have hcc := hst2.hc.cell
    have hcf := hst2.hc.frozen
    have hc2 := hst2.hc.lt
    clear hst hst2 HB1 HBB HX hta HSW HK
    obtain ⟨z0, z1, z2, z3, z4⟩ := HST.out.hz.cells
    have fz := HST.out.hz.frozen
    have hzl := HST.out.hz.lt
    by_cases hm4 : 400 ≤ m
    · go_wp2_with fail
      refine bodyPost_ret (v := .tuple #[.agg #[.int .i64 0, .string ⟨#[]⟩, .string ⟨#[]⟩, .int .i64 0, .slice none 0 0], .bool false]) (by simp [results, Try.results18, go_sem, *]) rfl ?_
      have hC : Ctr (W2.setCell ⟨c, 0, none⟩ (.int .i64 ((m : Int) + 1))) c ((m + 1 : Nat) : Int) := by
        have := HST.out.hc.set ((m : Int) + 1)
        rwa [show ((m + 1 : Nat) : Int) = (m : Int) + 1 by omega]
      exact CpPost.no (HST.out.ho.setCell (Or.inl rfl) _) hC (Nat.le_succ _) (by omega) (fun h => by have := h.1; omega) _ _ _ _ _
    by_cases hd4 : 40 < d
    · go_wp2_with fail
      refine bodyPost_ret (v := .tuple #[.agg #[.int .i64 0, .string ⟨#[]⟩, .string ⟨#[]⟩, .int .i64 0, .slice none 0 0], .bool false]) (by simp [results, Try.results18, go_sem, *]) rfl ?_
      have hC : Ctr (W2.setCell ⟨c, 0, none⟩ (.int .i64 ((m : Int) + 1))) c ((m + 1 : Nat) : Int) := by
        have := HST.out.hc.set ((m : Int) + 1)
        rwa [show ((m + 1 : Nat) : Int) = (m : Int) + 1 by omega]
      exact CpPost.no (HST.out.ho.setCell (Or.inl rfl) _) hC (Nat.le_succ _) (by omega) (fun h => by have := h.2; omega) _ _ _ _ _
    clear z0 z1 z2 z3 z4 fz hzl
    go_upto_if 53 with fail
    have hst3 : CpSt W0 w (W2.setCell ⟨c, 0, none⟩ (.int .i64 ((m : Int) + 1))) c (m + 1) k ix fr tg sv s (.slice ea s.length ecap) := by
      have := HST.out.hc.set ((m : Int) + 1)
      exact HST.out.only hcl ((Only.refl c W2).setCell (Or.inl rfl) _) (by rwa [show ((m + 1 : Nat) : Int) = (m : Int) + 1 by omega])
    generalize W2.setCell ⟨c, 0, none⟩ (.int .i64 ((m : Int) + 1)) = W3 at *
    obtain ⟨x0, x1, x2, x3, x4⟩ := hst3.hx.cells
    have hxl := hst3.hx.lt
    have HST := hide hst3
    clear hst3 hcc hcf hc2
    go_upto_if 57 with fail
    obtain ⟨kk, hkk⟩ : ∃ kk : Bool, kk = (k == 3) := ⟨_, rfl⟩
    rw [← hkk]
    have HKK := hide hkk
    clear hkk
    obtain ⟨Q, hQ⟩ : ∃ Q : List (Option Nd), Q = if k = 3 then none :: s else s := ⟨_, rfl⟩
    have HQ := hide hQ
    clear hQ
    go_cut [1] from 58 to 61 (fun v1 wd => CpSt W0 w wd c (m + 1) k ix fr tg sv Q v1)
    case first =>
      by_cases h3 : k = 3
      · have hb : kk = true := HKK.out.trans (beq_iff_eq.2 h3)
        have hQ : Q = none :: s := by rw [HQ.out, if_pos h3]
        subst hb hQ
        clear h3
        obtain ⟨olds, hol1, hol2⟩ := HST.out.he.olds
        obtain ⟨i0, hi, hz0, hz1, hz2⟩ := info_parts copierInfo
        have HI := hide (And.intro hi (And.intro hz0 (And.intro hz1 hz2)))
        clear hi hz0 hz1 hz2
        go_wp2_with fail
        refine (clip_calls _ ea s.length ecap en1).mono ?_
        rintro e w' ⟨rfl, rfl⟩
        go_wp2_with (first | (at_builtin; go_loud (refine wpList_append_grows _ rfl _ _ ( /- t -/ 37) rfl ( /- t -/ 70) i0 .nilFunc 1 8 Try.underlying37 HI.out.1 HI.out.2.1 HI.out.2.2.1 HI.out.2.2.2 rfl (by omega) ea s.length s.length olds rfl (fun e => ⟨(en3 e).1, (en3 e).1⟩) (by omega) (fun b hb j u hu => Still.of_below (alloc_below _ _) _ _ (hol2 b hb j u hu)) ⟨w'.heap.size, 0, none⟩ 1 1 [.nilFunc] rfl rfl (World.news_of_block (cs := #[.nilFunc]) (t := ( /- t -/ 70)) (fr := (0, 0)) (heap_alloc_new w' _)) (by simp [Value.oneCell']) (by omega) (by unfold maxLen; omega) (by omega) ?_; intro v' w5 hown5 hgr5)) | fail)
        go_meet
        case rel =>
          have hbA := alloc_below w' (.cells #[.nilFunc] ( /- t -/ 70))
          obtain ⟨g, cap', rfl, e1, e2, e3, e4, e5, -⟩ := (HST.out.he.still (Still.of_below hbA)).grow hol1 (fun b hb j u hu => Still.of_below hbA _ _ (hol2 b hb j u hu)) hown5 hgr5
          have h5 := HST.out.below (hbA.trans ((grown_below hgr5).mono hbA.size))
          exact ⟨h5.hx, h5.hz, h5.hc, h5.ho, e4.kept e1 e2 e5⟩
      · have hb : kk = false := HKK.out.trans (beq_eq_false_iff_ne.2 h3)
        have hQ : Q = s := by rw [HQ.out, if_neg h3]
        subst hb hQ
        clear h3
        go_wp2_with fail
        go_meet
        case rel => exact HST.out
    case rest =>
      have hst := hcut
      clear hcut
      obtain ⟨x0, x1, x2, x3, x4⟩ := hst.hx.cells
      have hxl := hst.hx.lt
      obtain ⟨hn, hp, hb, hc0, hg, hh, hw, hf, hs, -, -⟩ := HH.out
      have hlen3 : kids.len ≤ 3 := (kids_w hw (by omega)).1
      obtain ⟨ka, kcap, rfl, klen, kat⟩ := hs.at
      have hlt2 := hst.lt
      obtain ⟨XX, hXX⟩ : ∃ XX, XX = wc.heap.size := ⟨_, rfl⟩
      have hVQ : vals Q = S' := by
        rw [HS'.out, HQ.out]
        split <;> rfl
      have HREL : Hid (CpRel W0 wc c m d k ix fr tg kids Q ka XX (.int .i64 0) (wc.alloc (.cells #[.int .i64 k, .string fr, .string tg, .int .i64 ix, .slice none 0 0] ( /- t -/ 25)))) := by
        have hbA := alloc_below wc (.cells #[.int .i64 k, .string fr, .string tg, .int .i64 ix, .slice none 0 0] ( /- t -/ 25))
        have hbox := Box5.now wc (.int .i64 k) (.string fr) (.string tg) (.int .i64 ix) (.slice none 0 0) ( /- t -/ 25)
        rw [← hXX] at hbox
        exact hide ⟨.nil, kids, _, [], m + 1, rfl, rfl, kat, hst.hc.below hbA, (Only.refl c wc).below hbA, hbox, by rw [cpF]; exact Gr.nil _ _, by rw [cpF]; rfl, by omega, by rw [cpF]; simp only [hF]; omega⟩
      obtain ⟨i0, hi, hz0, hz1, hz2⟩ := info_parts Try.info28
      have HI := hide (And.intro hi (And.intro hz0 (And.intro hz1 hz2)))
      have HWC := hide hst
      clear hst
      have HHH := hide (And.intro hn (And.intro hp (And.intro hb (And.intro hc0 (And.intro hg (And.intro hh (And.intro hw (And.intro hf hVQ))))))))
      clear hi hz0 hz1 hz2 hn hp hb hc0 hg hh hw hf hs HST HH HSH klen kat hVQ en3
      go_wp2_with fail
      rw [← hXX]
      have hXw : w.heap.size + 2 ≤ XX := by omega
      have HXX := hide hXX
      clear hXX hlt2 x0 x1 x2 x3 x4 hxl
      go_loopw [74] (fun iv wr => CpRel W0 wc c m d k ix fr tg kids Q ka XX iv wr) (fun iv _ => kids.len - (intOf iv).toNat)
      case atStart => exact HREL.out
      case round =>
        obtain ⟨p, g, v, bs, m', hfe, rfl, hat, hcw, hoc, hbx, hgr, hm', hm4', hd'⟩ := hrel
        have hst := HWC.out.only hcl hoc hcw
        have HOC := hide hoc
        clear hcw hoc
        cases g with
        | nil =>
          have hge : kids.len ≤ p.len := by rw [hfe, F.app_nil]; exact Nat.le_refl _
          rw [F.app_nil] at hfe
          obtain ⟨va, vc, rfl⟩ := hgr.val
          obtain ⟨o0, o1, o2, o3, o4⟩ := hbx.cells
          have hol := hbx.lt
          obtain ⟨z0, z1, z2, z3, z4⟩ := hst.hz.cells
          have fz := hst.hz.frozen
          have hzl := hst.hz.lt
          have HS2 := hide hst
          have HG := hide hgr
          have HE := hide (And.intro hfe (And.intro hm' hd'))
          clear hst hbx hgr hfe hat hm' hd' HREL
          go_wp2_with fail
          refine bodyPost_ret (v := .tuple #[.agg #[.int .i64 k, .string fr, .string tg, .int .i64 ix, .slice va (cpF (vals Q) p).len vc], .bool true]) (by simp [results, Try.results18, go_sem, *]) rfl ?_
          have hVQ := HHH.out.2.2.2.2.2.2.2.2
          rw [HE.out.1, ← hVQ]
          exact CpPost.put (N := ⟨k, fr, tg, ix, cpF (vals Q) p⟩) HS2.out.ho HS2.out.hc (Nat.le_succ _) (by omega) (by have := HE.out.2.1; simp only; omega) HE.out.2.2 (by have := HE.out.2.1; simp only; omega) HG.out.ow (fun b hb => by have := HG.out.ge b hb; omega) HG.out.nodup _ _ _ _ _
        | cons lab kd fr' tg' ix' kids' rest =>
          have hlt : p.len < kids.len := by rw [hfe, F.len_app]; simp only [F.len]; omega
          obtain ⟨hn, hp, hb, hc0, hg, hh, hw, hf, hVQ⟩ := HHH.out
          have hbW : Below W0.heap.size W0 wr := hb.trans (hst.ho.to_below hc0 hb.size)
          obtain ⟨b', o, rfl, l1, l2, l3, l4, l5, c0, c1, c2, c3, c4, ⟨sv0, c5, hsv⟩, -⟩ := hat.head
          obtain ⟨sa, scap, rfl, -⟩ := id hsv
          have hlift : ∀ (o : Nat) (y : Value), W0.cell? ⟨b', o, none⟩ = some y → wr.cell? ⟨b', o, none⟩ = some y := fun o y h => Still.of_below hbW _ _ h
          have c0 := hlift _ _ c0
          have c1 := hlift _ _ c1
          have c2 := hlift _ _ c2
          have c3 := hlift _ _ c3
          have c4 := hlift _ _ c4
          have c5 := hlift _ _ c5
          have hbl := World.block_lt_of_cell? _ _ c0
          have hQQ := HQ.out
          have hpQ : puts Q = q := by rw [hQQ]; split <;> exact hp
          have hgQ : GoodS Q := by rw [hQQ]; split <;> exact hg
          have hQl : Q.length ≤ s.length + 1 := by rw [hQQ]; split <;> simp
          have hkw := kid_w hw hQQ hfe
          have hks : kids'.sz < n ∧ 1 + hF kids' ≤ hF kids := by
            rw [hfe, F.sz_app] at hn
            rw [hfe, hF_app]
            simp only [F.sz, hF] at hn ⊢
            omega
          obtain ⟨N, hN⟩ : ∃ N, N = cpN (vals Q) ⟨kd, fr', tg', ix', kids'⟩ := ⟨_, rfl⟩
          have hst2 := hst.below (alloc_below wr (.cells #[.string lab, .int .i64 kd, .string fr', .string tg', .int .i64 ix', .slice sa kids'.len scap] ( /- t -/ 28)))
          have hcall := hq W0 _ c m' (d + 1) kd ix' fr' tg' _ u1 kids' Q hks.1 hpQ (hbW.trans ((alloc_below wr (.cells #[.string lab, .int .i64 kd, .string fr', .string tg', .int .i64 ix', .slice sa kids'.len scap] ( /- t -/ 28))).mono hbW.size)) hc0 hst2.hc hm4' (by omega) (by omega) hst2.he hgQ (by omega) hkw ⟨l2, l3, l4, l5⟩ hsv
          have HFN : Hid (Fit N) := hide (by rw [hN]; exact cpN_fit (EnvIs.fits Q u1 hst.he) ⟨l2, l3, l4, l5⟩)
          rw [← hN] at hcall
          have HCALL := hide hcall
          have hbx2 : w.heap.size + 2 ≤ XX ∧ XX < wr.heap.size := ⟨hXw, hbx.lt⟩
          have HS := hide hst
          have HBX := hide hbx
          have HGR := hide hgr
          have HNN := hide hN
          have HE := hide (And.intro hfe (And.intro hm' (And.intro hd' (And.intro hat l1))))
          have hdd : (d : Int) + 1 ≤ 41 := by omega
          clear hn hp hb hc0 hg hh hw hf hVQ hbW hlift hQQ hpQ hgQ hQl hkw hks hst2 hcall hst hbx hgr hN hfe hm' hd' hat l1 l2 l3 l4 l5 hsv HREL
          go_wp2_with fail
          refine HCALL.out.mono ?_
          rintro e w3 ⟨m3, ho3, hc3, hcase⟩
          have hst3 := (HS.out.below (alloc_below wr (.cells #[.string lab, .int .i64 kd, .string fr', .string tg', .int .i64 ix', .slice sa kids'.len scap] ( /- t -/ 28)))).only hcl ho3 hc3
          have hbx3 := (HBX.out.below (alloc_below wr (.cells #[.string lab, .int .i64 kd, .string fr', .string tg', .int .i64 ix', .slice sa kids'.len scap] ( /- t -/ 28)))).only ho3 (by omega)
          have hgr3 := (HGR.out.below (alloc_below wr (.cells #[.string lab, .int .i64 kd, .string fr', .string tg', .int .i64 ix', .slice sa kids'.len scap] ( /- t -/ 28)))).only ho3 (by omega)
          have hlab : w3.cell? ⟨wr.heap.size, 0, none⟩ = some (.string lab) := by
            have h1 : (wr.alloc (.cells #[.string lab, .int .i64 kd, .string fr', .string tg', .int .i64 ix', .slice sa kids'.len scap] ( /- t -/ 28))).cell? ⟨wr.heap.size, 0, none⟩ = some (.string lab) := cell_of_heap (alloc_last wr _ _)
            rw [World.cell?_of_block (ho3.block _ (by simp) (by show wr.heap.size ≠ c; omega))]
            exact h1
          have HO3 := hide ((HOC.out.below (alloc_below wr (.cells #[.string lab, .int .i64 kd, .string fr', .string tg', .int .i64 ix', .slice sa kids'.len scap] ( /- t -/ 28)))).trans ho3)
          have hs3 := ho3.size
          simp only [World.size_alloc] at hs3
          have HS3 := hide hst3
          have HB3 := hide hbx3
          have HG3 := hide hgr3
          have hlab3 := World.block_lt_of_cell? _ _ hlab
          clear hst3 hbx3 hgr3 c0 c1 c2 c3 c4 c5 hbl ho3 hc3
          rcases hcase with ⟨h1, h2, h3, u, ks, rfl, how, hks, hknd⟩ | ⟨h1, rfl⟩
          · obtain ⟨ua, uc, rfl⟩ := how.val
            simp only [World.size_alloc] at hks
            have HW := hide how
            have HK := hide hks
            have HLIM := hide (And.intro h1 (And.intro h2 h3))
            clear how hks h1 h2 h3
            have o4 := HB3.out.cells.2.2.2.2
            have fo := HB3.out.frozen
            have hol := HB3.out.lt
            have hpl3 : (cpF (vals Q) p).len ≤ 3 := by rw [cpF_len]; omega
            have HPL := hide hpl3
            clear hpl3
            go_wp2_with (first | (at_builtin; go_loud (refine wpList_append_lies _ rfl _ _ ( /- t -/ 23) rfl (XX + 1) ( /- t -/ 28) i0 _ 6 88 Try.underlying23 HI.out.1 HI.out.2.1 HI.out.2.2.1 HI.out.2.2.2 rfl (by omega) v (cpF (vals Q) p).len (grXs ((w3.alloc (.cells #[.int .i64 N.k, .string N.fr, .string N.tg, .int .i64 N.ix, .slice ua N.kids.len uc] ( /- t -/ 25))).alloc (.cells #[.string lab, .int .i64 N.k, .string N.fr, .string N.tg, .int .i64 N.ix, .slice ua N.kids.len uc] ( /- t -/ 28))) v (cpF (vals Q) p)) (by rfl) ((HG3.out.below (alloc_below _ _)).below (alloc_below _ _)).owns ⟨w3.heap.size + 1, 0, none⟩ 1 1 [.string lab, .int .i64 N.k, .string N.fr, .string N.tg, .int .i64 N.ix, .slice ua N.kids.len uc] (by rfl) (by rfl) (World.news_of_block (cs := #[.string lab, .int .i64 N.k, .string N.fr, .string N.tg, .int .i64 N.ix, .slice ua N.kids.len uc]) (t := ( /- t -/ 28)) (fr := (0, 0)) (by have h := heap_alloc_new (w3.alloc (.cells #[.int .i64 N.k, .string N.fr, .string N.tg, .int .i64 N.ix, .slice ua N.kids.len uc] ( /- t -/ 25))) (.cells #[.string lab, .int .i64 N.k, .string N.fr, .string N.tg, .int .i64 N.ix, .slice ua N.kids.len uc] ( /- t -/ 28)); simpa using h)) (by simp [Value.oneCell']) (by omega) (by have := HPL.out; unfold maxLen; omega) (by have := HPL.out; omega) (by simp; omega) _ rfl ?_; intro gg cp w6 hown6 hgrow6 hat6 hlt6; (have hgr6 := (HG3.out.below (alloc_below w3 (.cells #[.int .i64 N.k, .string N.fr, .string N.tg, .int .i64 N.ix, .slice ua N.kids.len uc] ( /- t -/ 25)))).below (alloc_below (w3.alloc (.cells #[.int .i64 N.k, .string N.fr, .string N.tg, .int .i64 N.ix, .slice ua N.kids.len uc] ( /- t -/ 25))) (.cells #[.string lab, .int .i64 N.k, .string N.fr, .string N.tg, .int .i64 N.ix, .slice ua N.kids.len uc] ( /- t -/ 28)))); (have hb6 := ((HB3.out.below (alloc_below w3 (.cells #[.int .i64 N.k, .string N.fr, .string N.tg, .int .i64 N.ix, .slice ua N.kids.len uc] ( /- t -/ 25)))).below (alloc_below (w3.alloc (.cells #[.int .i64 N.k, .string N.fr, .string N.tg, .int .i64 N.ix, .slice ua N.kids.len uc] ( /- t -/ 25))) (.cells #[.string lab, .int .i64 N.k, .string N.fr, .string N.tg, .int .i64 N.ix, .slice ua N.kids.len uc] ( /- t -/ 28)))).same (hgrow6.block XX (by simp; omega) (fun e => by have := hgr6.ge _ (hgr6.block _ e.symm); omega))); (have e4 := hb6.cells.2.2.2.2); (have ef := hb6.frozen); (have el := hb6.lt))) | fail)
            refine ⟨?_, by simp [intOf]; omega⟩
            obtain ⟨hfe, hm', hd', hat, l1⟩ := HE.out
            obtain ⟨h1, h2, h3⟩ := HLIM.out
            obtain ⟨q1, q2, q3, q4⟩ := HFN.out
            have hou := (HW.out.same (Same.of_below (alloc_below w3 (.cells #[.int .i64 N.k, .string N.fr, .string N.tg, .int .i64 N.ix, .slice ua N.kids.len uc] ( /- t -/ 25))) HW.out.lt))
            have hou2 := hou.same (Same.of_below (alloc_below (w3.alloc (.cells #[.int .i64 N.k, .string N.fr, .string N.tg, .int .i64 N.ix, .slice ua N.kids.len uc] ( /- t -/ 25))) (.cells #[.string lab, .int .i64 N.k, .string N.fr, .string N.tg, .int .i64 N.ix, .slice ua N.kids.len uc] ( /- t -/ 28))) hou.lt)
            obtain ⟨bs', hpush, -⟩ := Gr.push hgr6 (k := N.k) (ix := N.ix) hou2 (fun b hb => by have := HK.out b hb; omega) hknd
              (fun b hb hb2 => by have h8 := HGR.out.lt b hb; have h9 := HK.out b hb2; omega) l1 q1 q2 q3 q4 hown6 hgrow6 (by rcases hat6 with h | h; exact Or.inl h; exact Or.inr h)
            have hEQ : (cpF (vals Q) p).app (.cons lab N.k N.fr N.tg N.ix N.kids .nil) = cpF (vals Q) (p.app (.cons lab kd fr' tg' ix' kids' .nil)) := by
              rw [cpF_app, cpF_cons, ← HNN.out, cpF]
            rw [hEQ] at hpush
            have hz6 := (HS3.out.below (alloc_below w3 (.cells #[.int .i64 N.k, .string N.fr, .string N.tg, .int .i64 N.ix, .slice ua N.kids.len uc] ( /- t -/ 25)))).below (alloc_below (w3.alloc (.cells #[.int .i64 N.k, .string N.fr, .string N.tg, .int .i64 N.ix, .slice ua N.kids.len uc] ( /- t -/ 25))) (.cells #[.string lab, .int .i64 N.k, .string N.fr, .string N.tg, .int .i64 N.ix, .slice ua N.kids.len uc] ( /- t -/ 28)))
            have far : ∀ b, b < XX → (w6.setCell ⟨XX, 4, none⟩ (.slice (some ⟨gg, 0, none⟩) ((cpF (vals Q) p).len + 1) cp)).heap[b]? = ((w3.alloc (.cells #[.int .i64 N.k, .string N.fr, .string N.tg, .int .i64 N.ix, .slice ua N.kids.len uc] ( /- t -/ 25))).alloc (.cells #[.string lab, .int .i64 N.k, .string N.fr, .string N.tg, .int .i64 N.ix, .slice ua N.kids.len uc] ( /- t -/ 28))).heap[b]? := fun b hb => by
              rw [Below.heap_setCell _ _ _ _ (by simp; omega), hgrow6.block b (by simp; omega) (fun e => by have := hgr6.ge b (hgr6.block b e.symm); omega)]
            have h9 := (HO3.out.below (alloc_below w3 (.cells #[.int .i64 N.k, .string N.fr, .string N.tg, .int .i64 N.ix, .slice ua N.kids.len uc] ( /- t -/ 25)))).below (alloc_below (w3.alloc (.cells #[.int .i64 N.k, .string N.fr, .string N.tg, .int .i64 N.ix, .slice ua N.kids.len uc] ( /- t -/ 25))) (.cells #[.string lab, .int .i64 N.k, .string N.fr, .string N.tg, .int .i64 N.ix, .slice ua N.kids.len uc] ( /- t -/ 28)))
            have hxe := HXX.out
            refine ⟨p.app (.cons lab kd fr' tg' ix' kids' .nil), rest, _, bs', m3, by rw [hfe, F.app_assoc]; rfl, by rw [F.len_app]; rfl, by rw [F.len_app]; exact hat.tail, hz6.hc.same (far c (by omega)), ?_, hb6.set4 _,
              hpush.same (fun b hb => Below.heap_setCell _ _ _ _ (by have := hpush.ge b hb; simp; omega)), ?_, by omega, ?_⟩
            · exact ⟨hgrow6.os.trans h9.os, hgrow6.tape.trans h9.tape, hgrow6.output.trans h9.output, by have h1 := h9.size; have h2 := hgrow6.size; simp at h1 h2 ⊢; omega, fun b hb hne => (far b (by omega)).trans (h9.block b hb hne)⟩
            · rw [← hEQ, F.sz_app]
              simp only [F.sz]
              omega
            · rw [← hEQ, hF_app]
              simp only [hF]
              omega
          · obtain ⟨z0, z1, z2, z3, z4⟩ := HS3.out.hz.cells
            have fz := HS3.out.hz.frozen
            have hzl := HS3.out.hz.lt
            have H1 := hide h1
            clear h1
            go_wp2_with fail
            refine bodyPost_ret (v := .tuple #[.agg #[.int .i64 0, .string ⟨#[]⟩, .string ⟨#[]⟩, .int .i64 0, .slice none 0 0], .bool false]) (by simp [results, Try.results18, go_sem, *]) rfl ?_
            have hVQ := HHH.out.2.2.2.2.2.2.2.2
            have hcb : c ≠ w.heap.size + 1 := by omega
            refine CpPost.no0 (m' := m3) ?_ ?_ ?_
            · exact (((((HS3.out.ho.setCell (Or.inr (by simp)) _).setCell (Or.inr (by simp)) _).setCell (Or.inr (by simp)) _).setCell (Or.inr (by simp)) _).setCell (Or.inr (by simp)) _).alloc _
            · exact (((((HS3.out.hc.setOther hcb _).setOther hcb _).setOther hcb _).setOther hcb _).setOther hcb _).alloc _
            · intro hc
              refine H1.out ?_
              obtain ⟨a1, a2⟩ := hc
              have e1 := HE.out.2.1
              rw [HE.out.1, ← hVQ, cpF_app, cpF_cons, ← HNN.out] at a1 a2
              simp only [F.sz_app, F.sz, hF_app, hF] at a1 a2
              exact ⟨by omega, by omega⟩

end Go.Proofs.Ytgcefippeokmcaa
