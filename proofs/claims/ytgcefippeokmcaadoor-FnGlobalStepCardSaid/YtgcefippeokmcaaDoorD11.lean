/- Vt, Eg1, Eg2 -/
import Derived.Test.YtgcefippeokmcaaDoorH09
import Derived.Test.YtgcefippeokmcaaDoorH10
import Derived.Test.YtgcefippeokmcaaDoorH07
import Derived.Test.YtgcefippeokmcaaDoorH00
import Derived.Deep.RegionHeld
import Derived.RegionTactic
/- StepGlobal of the model. -/
namespace Go.Proofs.YtgcefippeokmcaaDoor
open Go.RowKit

set_option maxHeartbeats 4000000 in
set_option maxRecDepth 100000 in
theorem specStep (w : World) (g : Nd) (sv : Value) (s : ByteArray) (hs : Sl w sv g.kids) (hf : Fit g) :
    Calls Tryd.prog 36 #[.agg #[.int .i64 g.k, .string g.fr, .string g.tg, .int .i64 g.ix, sv], .string s] w (MadeR (stepR g s) (stepOk g s) w) := by
  have HS := hide hs
  have HF := hide hf
  have hb0 := (alloc_below w (.cells #[.int .i64 g.k, .string g.fr, .string g.tg, .int .i64 g.ix, sv] ( /- t -/ 39))).alloc (by simp) (.cells #[.int .i64 0, .string ⟨#[]⟩, .string ⟨#[]⟩, .int .i64 0, .slice none 0 0] ( /- t -/ 39))
  have hz0 := Box5.now (w.alloc (.cells #[.int .i64 g.k, .string g.fr, .string g.tg, .int .i64 g.ix, sv] ( /- t -/ 39))) (.int .i64 0) (.string ⟨#[]⟩) (.string ⟨#[]⟩) (.int .i64 0) (.slice none 0 0) ( /- t -/ 39)
  rw [show (w.alloc (.cells #[.int .i64 g.k, .string g.fr, .string g.tg, .int .i64 g.ix, sv] ( /- t -/ 39))).heap.size = w.heap.size + 1 from by simp] at hz0
  have HB0 := hide hb0
  have HZ0 := hide hz0
  clear hs hf hb0 hz0
  obtain ⟨R, hR⟩ : ∃ R, R = unfR g := ⟨_, rfl⟩
  obtain ⟨ok, hok⟩ : ∃ ok, ok = unfOk g := ⟨_, rfl⟩
  have HR := hide hR
  have HOK := hide hok
  clear hR hok
  go_enter Tryd.func36, Tryd.ntmps36
  go_wp2_with fail
  generalize (w.alloc (.cells #[.int .i64 g.k, .string g.fr, .string g.tg, .int .i64 g.ix, sv] ( /- t -/ 39))).alloc (.cells #[.int .i64 0, .string ⟨#[]⟩, .string ⟨#[]⟩, .int .i64 0, .slice none 0 0] ( /- t -/ 39)) = W at *
  refine (specUnf W g sv (HS.out.still (Still.of_below HB0.out)) HF.out).mono ?_
  rw [← HR.out, ← HOK.out]
  rintro e w1 ⟨u, bs, rfl, how, hge, hnd, hb⟩
  obtain ⟨ua, uc, rfl⟩ := how.val
  have hWl := HZ0.out.lt
  have hRl : R.kids.len ≤ 9223372036854775807 := by
    obtain ⟨_, _, _, e1, e2, _⟩ := id how
    unfold maxLen at e2
    omega
  have hbA := alloc_below w1 (.cells #[.int .i64 R.k, .string R.fr, .string R.tg, .int .i64 R.ix, .slice ua R.kids.len uc] ( /- t -/ 39))
  have h1 := HB0.out.trans (hb.mono HB0.out.size)
  have HST : Hid (StS w (w1.alloc (.cells #[.int .i64 R.k, .string R.fr, .string R.tg, .int .i64 R.ix, .slice ua R.kids.len uc] ( /- t -/ 39))) R (.slice ua R.kids.len uc) bs w1.heap.size) :=
    hide ⟨h1.trans (hbA.mono h1.size), (HZ0.out.below hb).below hbA, Box5.now w1 _ _ _ _ _ _, how.same (Same.of_below hbA how.lt), fun x hx => by have := hge x hx; omega, hnd⟩
  clear how hge hnd hb hbA h1 HZ0 HB0 HS HF
  obtain ⟨X, hX⟩ : ∃ X, X = w1.heap.size := ⟨_, rfl⟩
  rw [← hX] at HST
  go_wp2_with fail
  rw [← hX]
  clear hX
  have HST2 : Hid (StRel w R s (.slice ua R.kids.len uc) bs X (.int .i64 0) (w1.alloc (.cells #[.int .i64 R.k, .string R.fr, .string R.tg, .int .i64 R.ix, .slice ua R.kids.len uc] ( /- t -/ 39)))) := hide ⟨.nil, R.kids, rfl, rfl, rfl, HST.out⟩
  clear HST
  go_loopw [8] (fun iv wr => StRel w R s (.slice ua R.kids.len uc) bs X iv wr) (fun iv _ => R.kids.len - (intOf iv).toNat)
  case atStart => exact HST2.out
  case round =>
    obtain ⟨p, q, he, rfl, hfind, hst⟩ := hrel
    obtain ⟨y0, y1, y2, y3, y4⟩ := hst.hx.cells
    have yl := hst.hx.lt
    cases q with
    | nil =>
      rw [F.app_nil] at he
      have hge : R.kids.len ≤ p.len := by rw [he]; exact Nat.le_refl _
      have hno : stepO g s = none := by rw [stepO_of, ← HR.out, hfind]; rfl
      have HNO := hide hno
      obtain ⟨z0, z1, z2, z3, z4⟩ := hst.hz.cells
      have fz := hst.hz.frozen
      have zl := hst.hz.lt
      have HSS := hide hst
      clear hno he hfind hst HST2
      go_wp2_with fail
      refine bodyPost_ret (v := .tuple #[.agg #[.int .i64 0, .string ⟨#[]⟩, .string ⟨#[]⟩, .int .i64 0, .slice none 0 0], .bool false]) (by simp [results, Tryd.results36, go_sem, *]) rfl ?_
      rw [show stepOk g s = false by unfold stepOk; rw [HNO.out]; rfl, show stepR g s = zeroNd by unfold stepR; rw [HNO.out]; rfl]
      refine MadeR.zero ?_
      repeat (refine Below.setCell ?_ (by first | (simp; done) | (simp; omega)) _)
      exact HSS.out.hb
    | cons lab kd fr' tg' ix' kids' rest =>
      have hlt : p.len < R.kids.len := by rw [he, F.len_app]; simp only [F.len]; omega
      have hokt : ok = true := by
        cases hh : ok with
        | true => rfl
        | false =>
          have h1 := HR.out
          unfold unfR at h1
          rw [← HOK.out, hh] at h1
          rw [h1] at hlt
          exact absurd hlt (Nat.not_lt_zero _)
      subst hokt
      have hRu : R = unf g := by rw [HR.out]; unfold unfR; rw [← HOK.out]; rfl
      have hval : okN kd fr' tg' ix' kids' = true := step_valid HOK.out.symm (by rw [← hRu]; exact he)
      obtain ⟨b, cap, a5, c5, ks, hu, c0, c1, c2, c3, c4, cc5, hko, hks, hkn⟩ := hst.ho.sub hst.hn he
      simp only [Value.slice.injEq, true_and] at hu
      obtain ⟨rfl, rfl⟩ := hu
      have hbl := World.block_lt_of_cell? _ _ c0
      have HE := hide (And.intro he (And.intro hfind hval))
      have HSS := hide hst
      have HKO := hide (And.intro hko (And.intro hks hkn))
      clear he hfind hval hst hko hks hkn hRu HST2
      cases hl : (lab.toList == s.toList) with
      | true =>
        have hl3 : lab.toList = s.toList := by simpa using hl
        have hno : stepO g s = some ⟨kd, fr', tg', ix', kids'⟩ := by
          rw [stepO_of, ← HR.out, HE.out.2.1]
          unfold findF
          rw [hl]
          rfl
        have HNO := hide hno
        clear hno
        go_wp2_with fail
        have hbB := alloc_below wr (.cells #[.int .i64 kd, .string fr', .string tg', .int .i64 ix', .slice a5 kids'.len c5] ( /- t -/ 39))
        refine (specValidBig _ kd ix' fr' tg' _ kids' (HKO.out.1.sl.still (Still.of_below hbB))).mono ?_
        rw [HE.out.2.2]
        rintro e w5 ⟨rfl, hb5⟩
        have hbn := (Box5.now wr (.int .i64 kd) (.string fr') (.string tg') (.int .i64 ix') (.slice a5 kids'.len c5) ( /- t -/ 39)).below hb5
        have hss := (HSS.out.below hbB).below hb5
        have hk5 := (HKO.out.1.same (Same.of_below hbB HKO.out.1.lt))
        have hk6 := hk5.same (Same.of_below hb5 hk5.lt)
        have HK := hide (And.intro hk6 (And.intro HKO.out.2.1 HKO.out.2.2))
        obtain ⟨n0, n1, n2, n3, n4⟩ := hbn.cells
        have nl := hbn.lt
        obtain ⟨z0, z1, z2, z3, z4⟩ := hss.hz.cells
        have fz := hss.hz.frozen
        have zl := hss.hz.lt
        have HS5 := hide hss
        clear hss hk5 hk6 hbB hb5 hbn
        go_wp2_with fail
        refine bodyPost_ret (v := .tuple #[.agg #[.int .i64 kd, .string fr', .string tg', .int .i64 ix', .slice a5 kids'.len c5], .bool true]) (by simp [results, Tryd.results36, go_sem, *]) rfl ?_
        rw [show stepOk g s = true by unfold stepOk; rw [HNO.out]; rfl, show stepR g s = ⟨kd, fr', tg', ix', kids'⟩ by unfold stepR; rw [HNO.out]; rfl]
        exact MadeR.sub (N := ⟨kd, fr', tg', ix', kids'⟩) HS5.out HK.out.1 HK.out.2.1 HK.out.2.2 _ _ _ _ _
      | false =>
        have hl3 : ¬ lab.toList = s.toList := by simpa using hl
        have hnx : findF R.kids s = findF rest s := by
          rw [HE.out.2.1]
          conv => lhs; unfold findF
          rw [hl]
          rfl
        have HNX := hide hnx
        clear hnx
        have hbB := alloc_below wr (.cells #[.int .i64 kd, .string fr', .string tg', .int .i64 ix', .slice a5 kids'.len c5] ( /- t -/ 39))
        have HREL : Hid (StRel w R s (.slice (some ⟨b, 0, none⟩) R.kids.len uc) bs X (.int .i64 ((p.len + 1 : Nat) : Int)) (wr.alloc (.cells #[.int .i64 kd, .string fr', .string tg', .int .i64 ix', .slice a5 kids'.len c5] ( /- t -/ 39)))) :=
          hide ⟨p.app (.cons lab kd fr' tg' ix' kids' .nil), rest, by rw [HE.out.1, F.app_assoc]; rfl, by rw [F.len_app]; rfl, HNX.out, HSS.out.below hbB⟩
        clear hbB
        go_wp2_with fail
        exact ⟨HREL.out, by simp [intOf]; omega⟩

end Go.Proofs.YtgcefippeokmcaaDoor

/- wpContains of the laws; what follows a message. -/
namespace Go.Proofs.YtgcefippeokmcaaDoor
open Go.RowKit

theorem find_split : ∀ (f : F) (s : ByteArray) (N : Nd), findF f s = some N → ∃ (p : F) (lab : ByteArray) (rest : F), f = p.app (.cons lab N.k N.fr N.tg N.ix N.kids rest) ∧ lab.toList = s.toList := by
  intro f
  induction f with
  | nil => intro s N h; cases h
  | cons lab k fr tg ix kids rest ihk ihr =>
    intro s N h
    unfold findF at h
    split at h
    · rename_i hl
      injection h with h
      subst h
      exact ⟨.nil, lab, rest, rfl, eq_of_beq hl⟩
    · obtain ⟨p, lab', rest', e1, e2⟩ := ihr s N h
      exact ⟨.cons lab k fr tg ix kids p, lab', rest', by rw [e1]; rfl, e2⟩
theorem namFb_app (c : UInt8) (g : F) : ∀ f : F, namFb c (f.app g) = (namFb c f || namFb c g)
  | .nil => by simp [F.app, namFb]
  | .cons lab k fr tg ix kids rest => by simp only [F.app, namFb, namFb_app c g rest, Bool.or_assoc]
theorem labF_app (g : F) : ∀ f : F, labF (f.app g) → labF g
  | .nil, h => h
  | .cons _ _ _ _ _ _ rest, h => labF_app g rest h.2

/-- What follows a message of a protocol. -/
structure StepIs (g N : Nd) (s : ByteArray) : Prop where
  uok : unfOk g = true
  ok : okN N.k N.fr N.tg N.ix N.kids = true
  lab : labB s = true
  nam : ∀ c, namNb c N.k N.fr N.tg N.kids = true → namNb c g.k g.fr g.tg g.kids = true
  again : stepO (unfR g) s = some N
theorem step_is {g N : Nd} {s : ByteArray} (h : stepO g s = some N) : StepIs g N s := by
  have hU : unfOk g = true := by
    unfold stepO at h
    cases hu : unfOk g with
    | true => rfl
    | false => rw [hu] at h; cases h
  have hf : findF (unf g).kids s = some N := by unfold stepO at h; rwa [if_pos hU] at h
  obtain ⟨p, lab, rest, e1, e2⟩ := find_split _ _ _ hf
  have hR : unfR g = unf g := by unfold unfR; rw [if_pos hU]
  obtain ⟨r1, r2, r3, r4⟩ := unf_unf hU
  have hls : lab = s := ByteArray.ext (Array.toList_inj.1 (by rw [ByteArray.toList_eq, ByteArray.toList_eq] at e2; exact e2))
  subst hls
  have hG : okG (unf g) = true := by have h2 := hU; unfold unfOk at h2; simp only [Bool.and_eq_true] at h2; exact h2.2
  have hw := (okG_w hG).1
  unfold wN at hw
  simp only [Bool.and_eq_true] at hw
  have hne : (unf g).kids ≠ .nil := by
    rw [e1]
    intro e
    have := congrArg F.len e
    rw [F.len_app] at this
    simp only [F.len] at this
    omega
  have k2 : (unf g).k = 2 := by
    by_cases h2 : (unf g).k = 2
    · exact h2
    · exact absurd (shape_leaf hw.1 h2 r3) hne
  refine ⟨hU, step_valid hU e1, ?_, fun c hc => ?_, ?_⟩
  · have hsh := hw.1
    rw [k2] at hsh
    obtain ⟨-, -, -, -, hb⟩ := shape_msg hsh
    unfold branchesB at hb
    simp only [Bool.and_eq_true] at hb
    have hl := labF_of_asc _ _ hb.1
    rw [e1] at hl
    exact (labF_app _ p hl).1
  · have h1 : namNb c (unf g).k (unf g).fr (unf g).tg (unf g).kids = true := by
      unfold namNb
      rw [e1, namFb_app]
      simp only [namFb]
      unfold namNb at hc
      rw [hc]
      simp
    have hg := hU
    unfold unfOk okG at hg
    simp only [Bool.and_eq_true] at hg
    exact unfN_nam_le c _ (g.kids.sz + 1) [] g (fun U hU => absurd hU List.not_mem_nil) id h1
  · rw [hR]
    unfold stepO
    rw [if_pos r1, r2]
    exact hf
theorem roles_sub {g N : Nd} {s : ByteArray} (h : StepIs g N s) : ∃ L M : List UInt8, rolesN N.k N.fr N.tg N.ix N.kids = bsl L ∧ rolesN g.k g.fr g.tg g.ix g.kids = bsl M ∧ L.length ≤ 3 ∧ ∀ j, j < L.length → hasB (bsl M) (hd0 (L.drop j)) = true := by
  have hg : okN g.k g.fr g.tg g.ix g.kids = true := by have h2 := h.uok; unfold unfOk okG at h2; simp only [Bool.and_eq_true] at h2; exact h2.1
  refine ⟨setL fun c => namNb c N.k N.fr N.tg N.kids, setL fun c => namNb c g.k g.fr g.tg g.kids, by unfold rolesN; rw [if_pos h.ok]; rfl, by unfold rolesN; rw [if_pos hg]; rfl, by unfold setL; exact List.length_filter_le _ _, fun j hj => ?_⟩
  have hm : hd0 ((setL fun c => namNb c N.k N.fr N.tg N.kids).drop j) ∈ setL fun c => namNb c N.k N.fr N.tg N.kids := by
    rw [List.drop_eq_getElem_cons hj]
    exact List.getElem_mem hj
  generalize hd0 ((setL fun c => namNb c N.k N.fr N.tg N.kids).drop j) = c at *
  unfold setL at hm
  rw [List.mem_filter] at hm
  unfold hasB bsl setL
  simp only [List.contains_iff_mem, List.mem_filter]
  exact ⟨hm.1, h.nam c hm.2⟩

set_option maxHeartbeats 800000 in
set_option maxRecDepth 100000 in
theorem wpc_calls (M : List UInt8) (hM : M.length ≤ 1000) (c : UInt8) (w : World) : Calls Tryd.prog 37 #[.string (bsl M), .int .u8 (c.toNat : Int)] w fun e w' => e = .returned (.bool (hasB (bsl M) c)) ∧ w' = w := by
  have hsz : (bsl M).size = M.length := bsl_size M
  go_enter Tryd.func37, Tryd.ntmps37
  go_wp2_with fail
  go_loopw [5] (fun iv wr => ∃ q : Nat, iv = .int .i64 (q : Int) ∧ q ≤ M.length ∧ wr = w ∧ Hid (∀ x, x ∈ M.take q → x ≠ c)) (fun iv _ => M.length - (intOf iv).toNat)
  case atStart => exact ⟨0, rfl, Nat.zero_le _, rfl, hide (fun x hx => by simp at hx)⟩
  case round =>
    obtain ⟨q, rfl, hq, rfl, HT⟩ := hrel
    by_cases hqm : q < M.length
    case neg =>
      have hqi : ¬ (q : Int) < (M.length : Int) := by omega
      have hres : hasB (bsl M) c = false := by
        unfold hasB bsl
        rw [Bool.eq_false_iff]
        intro h
        simp only [List.contains_iff_mem] at h
        have h2 := HT.out c (by rw [List.take_of_length_le (by omega)]; exact h)
        exact h2 rfl
      go_wp2_with fail
      go_ret
      first
        | exact ⟨rfl, rfl⟩
        | exact ⟨congrArg (fun b => Ending.returned (.bool b)) hres.symm, rfl⟩
    case pos =>
      have hqi : (q : Int) < (M.length : Int) := by omega
      obtain ⟨hin, hget, hdr⟩ := hd0_at hqm
      by_cases hc : hd0 (M.drop q) = c
      · have hres : hasB (bsl M) c = true := by
          unfold hasB bsl
          simp only [List.contains_iff_mem]
          rw [← hc]
          have : hd0 (M.drop q) ∈ M.drop q := by rw [List.drop_eq_getElem_cons hqm]; exact List.mem_cons_self ..
          exact List.mem_of_mem_drop this
        have hcq : (((bsl M)[q]'hin).toNat : Int) = (c.toNat : Int) := by rw [hget, hc]
        clear hget hdr hc
        go_wp2_with fail
        go_ret
        exact ⟨congrArg (fun b => Ending.returned (.bool b)) hres.symm, rfl⟩
      · have hcn : ¬ (((bsl M)[q]'hin).toNat : Int) = (c.toNat : Int) := by
          rw [hget]
          intro h
          exact hc (UInt8.toNat_inj.1 (by omega))
        have hcb : ((((bsl M)[q]'hin).toNat : Int) == (c.toNat : Int)) = false := beq_eq_false_iff_ne.2 hcn
        have HT2 : Hid (∀ x, x ∈ M.take (q + 1) → x ≠ c) := hide (fun x hx => by
          rw [List.take_succ_eq_append_getElem hqm] at hx
          rcases List.mem_append.1 hx with hx | hx
          · exact HT.out x hx
          · have hx2 := List.mem_singleton.1 hx
            rw [hx2]
            intro h
            apply hc
            rw [List.drop_eq_getElem_cons hqm]
            exact h)
        clear hget hdr hc
        go_wp2_with fail
        go_roundw
        case rel => exact ⟨q + 1, rfl, by omega, (by first | rfl | trivial), HT2⟩
        case measure => simp [intOf]; omega
end Go.Proofs.YtgcefippeokmcaaDoor

/- The law FnGlobalStep: its walk. -/
namespace Go.Proofs.YtgcefippeokmcaaDoor
open Go.RowKit

theorem stepR_sz (g : Nd) (s : ByteArray) : (stepR g s).kids.sz ≤ 1048576 ∧ Fit (stepR g s) := by
  unfold stepR
  cases h : stepO g s with
  | none => exact ⟨Nat.zero_le _, zeroNd_fit⟩
  | some N =>
    have hi := step_is h
    have hw := okG_w (g := N) hi.ok
    exact ⟨by show N.kids.sz ≤ _; have := hw.2.2; omega, fit_closed hw.1⟩

set_option maxHeartbeats 400000 in
theorem gst_big (w : World) (a : Option Addr) (n c : Nat) (hn : (1048576 : Int) < (n : Int)) :
    Calls Tryd.prog 7 #[.slice a n c] w fun e w' => e = .returned (.bool true) ∧ Below w.heap.size w w' := by
  go_enter Tryd.func7, Tryd.ntmps7
  go_wp2_with fail
  go_ret
  exact ⟨rfl, Below.refl _ _⟩

/-- What holds at each head of the loop over the letters. -/
def GsRel (w : World) (b1 b2 : Nat) (g R : Nd) (u v : Value) (L : List UInt8) (iv : Value) (wr : World) : Prop :=
  ∃ q : Nat, iv = .int .i64 (q : Int) ∧ q ≤ L.length ∧ Nv wr b1 g u ∧ Nv wr b2 R v ∧ Below w.heap.size w wr

set_option maxHeartbeats 4000000 in
set_option maxRecDepth 100000 in
theorem gst_small (w : World) (a : Option Addr) (c : Nat) (l : List Nat) (hs : SlG elY w (.slice a l.length c) l) (hl : l.length ≤ 1048576) :
    Calls Tryd.prog 7 #[.slice a l.length c] w fun e w' => e = .returned (.bool true) ∧ Below w.heap.size w w' := by
  have hl2 : ¬ (1048576 : Int) < (l.length : Int) := by omega
  have HSV := hide hs
  clear hs
  go_enter Tryd.func7, Tryd.ntmps7
  go_wp2_with fail
  refine (drawS_calls w _ l HSV.out).mono ?_
  rintro e w1 ⟨g, u, bs, lab, rfl, how, -, -, hb1, hf, hsz⟩
  obtain ⟨ga, gc, rfl⟩ := how.val
  have HN1 := hide (Nv.now how ( /- t -/ 39))
  have HB1 := hide (hb1.alloc hb1.size (.cells #[.int .i64 g.k, .string g.fr, .string g.tg, .int .i64 g.ix, .slice ga g.kids.len gc] ( /- t -/ 39)))
  have HF := hide hf
  clear how hb1 hf hsz HSV
  go_upto_region 4 with fail
  generalize w1.alloc (.cells #[.int .i64 g.k, .string g.fr, .string g.tg, .int .i64 g.ix, .slice ga g.kids.len gc] ( /- t -/ 39)) = W1 at *
  generalize w1.heap.size = b1 at *
  obtain ⟨x0, x1, x2, x3, x4⟩ := HN1.out.box.cells
  have lx := HN1.out.lt
  go_wp2_with fail
  refine (implStep W1 g _ lab HN1.out.sl HF.out).mono ?_
  rintro e w_2 ⟨v, vbs, rfl, vhow, -, -, vhb⟩
  obtain ⟨va, vc, rfl⟩ := vhow.val
  have HNv := hide (Nv.now vhow ( /- t -/ 39))
  have HB2 := hide ((HB1.out.trans (vhb.mono HB1.out.size)).alloc (Nat.le_trans HB1.out.size vhb.size) (.cells #[.int .i64 (stepR g lab).k, .string (stepR g lab).fr, .string (stepR g lab).tg, .int .i64 (stepR g lab).ix, .slice va (stepR g lab).kids.len vc] ( /- t -/ 39)))
  have HN1x := hide ((HN1.out.below vhb).below (alloc_below w_2 (.cells #[.int .i64 (stepR g lab).k, .string (stepR g lab).fr, .string (stepR g lab).tg, .int .i64 (stepR g lab).ix, .slice va (stepR g lab).kids.len vc] ( /- t -/ 39))))
  clear HN1
  have HN1 := HN1x
  clear HN1x
  clear vhow vhb
  clear x0 x1 x2 x3 x4 lx HB1
  go_upto_region 5 with fail
  generalize w_2.alloc (.cells #[.int .i64 (stepR g lab).k, .string (stepR g lab).fr, .string (stepR g lab).tg, .int .i64 (stepR g lab).ix, .slice va (stepR g lab).kids.len vc] ( /- t -/ 39)) = W2 at *
  generalize w_2.heap.size = b2 at *
  obtain ⟨x0, x1, x2, x3, x4⟩ := HN1.out.box.cells
  have lx := HN1.out.lt
  go_wp2_with fail
  refine (specStep W2 g _ lab HN1.out.sl HF.out).mono ?_
  rintro e w_3 ⟨y, ybs, rfl, yhow, -, -, yhb⟩
  obtain ⟨ya, yc, rfl⟩ := yhow.val
  have HNy := hide (Nv.now yhow ( /- t -/ 39))
  have HB3 := hide ((HB2.out.trans (yhb.mono HB2.out.size)).alloc (Nat.le_trans HB2.out.size yhb.size) (.cells #[.int .i64 (stepR g lab).k, .string (stepR g lab).fr, .string (stepR g lab).tg, .int .i64 (stepR g lab).ix, .slice ya (stepR g lab).kids.len yc] ( /- t -/ 39)))
  have HN1x := hide ((HN1.out.below yhb).below (alloc_below w_3 (.cells #[.int .i64 (stepR g lab).k, .string (stepR g lab).fr, .string (stepR g lab).tg, .int .i64 (stepR g lab).ix, .slice ya (stepR g lab).kids.len yc] ( /- t -/ 39))))
  clear HN1
  have HN1 := HN1x
  clear HN1x
  have HNvx := hide ((HNv.out.below yhb).below (alloc_below w_3 (.cells #[.int .i64 (stepR g lab).k, .string (stepR g lab).fr, .string (stepR g lab).tg, .int .i64 (stepR g lab).ix, .slice ya (stepR g lab).kids.len yc] ( /- t -/ 39))))
  clear HNv
  have HNv := HNvx
  clear HNvx
  clear yhow yhb
  clear x0 x1 x2 x3 x4 lx HB2
  go_upto_region 6 with fail
  generalize w_3.alloc (.cells #[.int .i64 (stepR g lab).k, .string (stepR g lab).fr, .string (stepR g lab).tg, .int .i64 (stepR g lab).ix, .slice ya (stepR g lab).kids.len yc] ( /- t -/ 39)) = W3 at *
  generalize w_3.heap.size = b3 at *
  have HSR := hide (stepR_sz g lab)
  cases hso : stepO g lab with
  | none =>
    have hok : stepOk g lab = false := by unfold stepOk; rw [hso]; rfl
    clear hso
    generalize stepR g lab = R at *
    obtain ⟨v0, v1, v2, v3, v4⟩ := HNv.out.box.cells
    have lv := HNv.out.lt
    obtain ⟨y0, y1, y2, y3, y4⟩ := HNy.out.box.cells
    have ly := HNy.out.lt
    go_wp2_with fail
    refine (same_self W3 R _ _ HNv.out.own HNy.out.own HSR.out.1).mono ?_
    rintro e w4 ⟨rfl, hb4⟩
    have HNv4 := hide (HNv.out.below hb4)
    have HNy4 := hide (HNy.out.below hb4)
    have HB4 := hide (HB3.out.trans (hb4.mono HB3.out.size))
    clear hb4 v0 v1 v2 v3 v4 lv y0 y1 y2 y3 y4 ly HNv HNy HB3
    obtain ⟨v0, v1, v2, v3, v4⟩ := HNv4.out.box.cells
    have lv := HNv4.out.lt
    obtain ⟨y0, y1, y2, y3, y4⟩ := HNy4.out.box.cells
    have ly := HNy4.out.lt
    go_wp2_with fail
    refine (same_self w4 R _ _ HNv4.out.own HNy4.out.own HSR.out.1).mono ?_
    rintro e w5 ⟨rfl, hb5⟩
    have HB5 := hide (HB4.out.trans (hb5.mono HB4.out.size))
    clear hb5
    go_wp2_with fail
    go_ret
    exact ⟨rfl, HB5.out⟩
  | some N =>
    have hok : stepOk g lab = true := by unfold stepOk; rw [hso]; rfl
    have hR : stepR g lab = N := by unfold stepR; rw [hso]; rfl
    have hi := step_is hso
    obtain ⟨L, M, eL, eM, hL3, hsub⟩ := roles_sub hi
    have HIU := hide (fun (W : World) (sv : Value) (hs : Sl W sv g.kids) => implUnf W g sv hs HF.out)
    rw [hi.uok] at HIU
    have HIS := hide (fun (W : World) (sv : Value) (hs : Sl W sv (unfR g).kids) => implStep W (unfR g) sv lab hs (unfR_fit g))
    rw [show stepR (unfR g) lab = N by unfold stepR; rw [hi.again]; rfl, show stepOk (unfR g) lab = true by unfold stepOk; rw [hi.again]; rfl] at HIS
    have HRG := hide (fun (W : World) (sv : Value) (hs : Sl W sv g.kids) => implRoles W g.k g.ix g.fr g.tg sv g.kids hs)
    have HRN := hide (fun (W : World) (sv : Value) (hs : Sl W sv N.kids) => implRoles W N.k N.ix N.fr N.tg sv N.kids hs)
    rw [eM] at HRG
    rw [eL] at HRN
    have HVN := hide (fun (W : World) (sv : Value) (hs : Sl W sv N.kids) => implValid W N.k N.ix N.fr N.tg sv N.kids hs)
    rw [hi.ok] at HVN
    have HLB := hide (fun (W : World) => implLab lab W)
    rw [hi.lab] at HLB
    have HSUB := hide hsub
    have hLz : (bsl L).size = L.length := bsl_size L
    have hM3 : Hid (M.length ≤ 1000) := hide (by
      have h1 : (rolesN g.k g.fr g.tg g.ix g.kids).size ≤ 3 := by
        unfold rolesN
        split
        · show (setL _).toArray.size ≤ 3
          have : (setL fun c => namNb c g.k g.fr g.tg g.kids).length ≤ 3 := by unfold setL; exact List.length_filter_le _ _
          simpa using this
        · exact Nat.zero_le _
      rw [eM, bsl_size] at h1
      omega)
    rw [hR] at HSR HNv HNy
    rw [hR]
    clear hso hi hsub eL eM hR
    obtain ⟨v0, v1, v2, v3, v4⟩ := HNv.out.box.cells
    have lv := HNv.out.lt
    obtain ⟨y0, y1, y2, y3, y4⟩ := HNy.out.box.cells
    have ly := HNy.out.lt
    go_wp2_with fail
    refine (same_self W3 N _ _ HNv.out.own HNy.out.own HSR.out.1).mono ?_
    rintro e w4 ⟨rfl, hb4⟩
    have HNv4 := hide (HNv.out.below hb4)
    have HN14 := hide (HN1.out.below hb4)
    have HB4 := hide (HB3.out.trans (hb4.mono HB3.out.size))
    clear hb4 v0 v1 v2 v3 v4 lv y0 y1 y2 y3 y4 ly HNv HNy HB3 HN1
    obtain ⟨x0, x1, x2, x3, x4⟩ := HN14.out.box.cells
    have lx := HN14.out.lt
    go_wp2_with fail
    refine (HRG.out w4 _ HN14.out.sl).mono ?_
    rintro e w5 ⟨rfl, hbq⟩
    have HB5 := hide (HB4.out.trans (hbq.mono HB4.out.size))
    have HNv4x := hide (HNv4.out.below hbq)
    clear HNv4
    have HNv4 := HNv4x
    clear HNv4x
    have HN14x := hide (HN14.out.below hbq)
    clear HN14
    have HN14 := HN14x
    clear HN14x
    clear hbq HB4
    clear x0 x1 x2 x3 x4 lx
    obtain ⟨v0, v1, v2, v3, v4⟩ := HNv4.out.box.cells
    have lv := HNv4.out.lt
    go_wp2_with fail
    refine (HRN.out w5 _ HNv4.out.sl).mono ?_
    rintro e w6 ⟨rfl, hbq⟩
    have HB6 := hide (HB5.out.trans (hbq.mono HB5.out.size))
    have HNv4x := hide (HNv4.out.below hbq)
    clear HNv4
    have HNv4 := HNv4x
    clear HNv4x
    have HN14x := hide (HN14.out.below hbq)
    clear HN14
    have HN14 := HN14x
    clear HN14x
    clear hbq HB5
    clear v0 v1 v2 v3 v4 lv
    go_wp2_with fail
    go_loopw [11] (fun iv wr => GsRel w b1 b2 g N (.slice ga g.kids.len gc) (.slice va N.kids.len vc) L iv wr) (fun iv _ => L.length - (intOf iv).toNat)
    case atStart => exact ⟨0, rfl, Nat.zero_le _, HN14.out, HNv4.out, HB6.out⟩
    case round =>
      obtain ⟨q, rfl, hq, hn1, hnv, hb⟩ := hrel
      have HN := hide hn1
      have HV := hide hnv
      have HB := hide hb
      clear hn1 hnv hb HN14 HNv4 HB6
      by_cases hql : q < L.length
      case pos =>
        have hqi : (q : Int) < (L.length : Int) := by omega
        obtain ⟨hin, hget, hdr⟩ := hd0_at hql
        have hc := HSUB.out q hql
        have HWC := hide (fun (W : World) => wpc_calls M hM3.out (hd0 (L.drop q)) W)
        rw [hc] at HWC
        have hgc : (((bsl L)[q]'hin).toNat : Int) = ((hd0 (L.drop q)).toNat : Int) := by rw [hget]
        clear hget hdr hc
        go_wp2_with fail
        refine (HWC.out wr).mono ?_
        rintro e w7 ⟨rfl, rfl⟩
        go_wp2_with fail
        go_roundw
        case rel => exact ⟨q + 1, congrArg (Value.int .i64) (by omega), by omega, HN.out, HV.out, HB.out⟩
        case measure => simp [intOf]; omega
      case neg =>
        have hqi : ¬ (q : Int) < (L.length : Int) := by omega
        obtain ⟨x0, x1, x2, x3, x4⟩ := HN.out.box.cells
        have lx := HN.out.lt
        go_wp2_with fail
        refine (HIU.out wr _ HN.out.sl).mono ?_
        rintro e w_8 ⟨z, zbs, rfl, zhow, -, -, zhb⟩
        obtain ⟨za, zc, rfl⟩ := zhow.val
        have HNz := hide (Nv.now zhow ( /- t -/ 39))
        have HB8 := hide ((HB.out.trans (zhb.mono HB.out.size)).alloc (Nat.le_trans HB.out.size zhb.size) (.cells #[.int .i64 (unfR g).k, .string (unfR g).fr, .string (unfR g).tg, .int .i64 (unfR g).ix, .slice za (unfR g).kids.len zc] ( /- t -/ 39)))
        have HNx := hide ((HN.out.below zhb).below (alloc_below w_8 (.cells #[.int .i64 (unfR g).k, .string (unfR g).fr, .string (unfR g).tg, .int .i64 (unfR g).ix, .slice za (unfR g).kids.len zc] ( /- t -/ 39))))
        clear HN
        have HN := HNx
        clear HNx
        have HVx := hide ((HV.out.below zhb).below (alloc_below w_8 (.cells #[.int .i64 (unfR g).k, .string (unfR g).fr, .string (unfR g).tg, .int .i64 (unfR g).ix, .slice za (unfR g).kids.len zc] ( /- t -/ 39))))
        clear HV
        have HV := HVx
        clear HVx
        clear zhow zhb
        clear x0 x1 x2 x3 x4 lx HB
        go_upto_region 16 with fail
        generalize w_8.alloc (.cells #[.int .i64 (unfR g).k, .string (unfR g).fr, .string (unfR g).tg, .int .i64 (unfR g).ix, .slice za (unfR g).kids.len zc] ( /- t -/ 39)) = W8 at *
        generalize w_8.heap.size = b8 at *
        obtain ⟨z0, z1, z2, z3, z4⟩ := HNz.out.box.cells
        have lz := HNz.out.lt
        go_wp2_with fail
        refine (HIS.out W8 _ HNz.out.sl).mono ?_
        rintro e w_9 ⟨t, tbs, rfl, thow, -, -, thb⟩
        obtain ⟨ta, tc, rfl⟩ := thow.val
        have HNt := hide (Nv.now thow ( /- t -/ 39))
        have HB9 := hide ((HB8.out.trans (thb.mono HB8.out.size)).alloc (Nat.le_trans HB8.out.size thb.size) (.cells #[.int .i64 N.k, .string N.fr, .string N.tg, .int .i64 N.ix, .slice ta N.kids.len tc] ( /- t -/ 39)))
        have HVx := hide ((HV.out.below thb).below (alloc_below w_9 (.cells #[.int .i64 N.k, .string N.fr, .string N.tg, .int .i64 N.ix, .slice ta N.kids.len tc] ( /- t -/ 39))))
        clear HV
        have HV := HVx
        clear HVx
        clear thow thb
        clear z0 z1 z2 z3 z4 lz HB8
        go_upto_region 17 with fail
        generalize w_9.alloc (.cells #[.int .i64 N.k, .string N.fr, .string N.tg, .int .i64 N.ix, .slice ta N.kids.len tc] ( /- t -/ 39)) = W9 at *
        generalize w_9.heap.size = b9 at *
        obtain ⟨t0, t1, t2, t3, t4⟩ := HNt.out.box.cells
        have lt := HNt.out.lt
        obtain ⟨v0, v1, v2, v3, v4⟩ := HV.out.box.cells
        have lv := HV.out.lt
        go_wp2_with fail
        refine (same_self W9 N _ _ HNt.out.own HV.out.own HSR.out.1).mono ?_
        rintro e w10 ⟨rfl, hb10⟩
        have HV10 := hide (HV.out.below hb10)
        have HB10 := hide (HB9.out.trans (hb10.mono HB9.out.size))
        clear hb10 t0 t1 t2 t3 t4 lt v0 v1 v2 v3 v4 lv HV HNt HB9
        obtain ⟨v0, v1, v2, v3, v4⟩ := HV10.out.box.cells
        have lv := HV10.out.lt
        go_wp2_with fail
        refine (HVN.out w10 _ HV10.out.sl).mono ?_
        rintro e w11 ⟨rfl, hb11⟩
        have HB11 := hide (HB10.out.trans (hb11.mono HB10.out.size))
        clear hb11 v0 v1 v2 v3 v4 lv HV10 HB10
        go_wp2_with fail
        refine (HLB.out w11).mono ?_
        rintro e w12 ⟨rfl, hw12⟩
        subst hw12
        go_wp2_with fail
        go_ret
        exact ⟨rfl, HB11.out⟩

theorem gst_walk (w : World) (sv : Value) (l : List Nat) (hs : SlG elY w sv l) : Calls Tryd.prog 7 #[sv] w fun e w' => e = .returned (.bool true) ∧ Below w.heap.size w w' := by
  obtain ⟨a, c, rfl, h1, h2, h3⟩ := hs
  by_cases h : l.length ≤ 1048576
  · exact gst_small w a c l ⟨a, c, rfl, h1, h2, h3⟩ h
  · exact gst_big w a l.length c (by omega)
end Go.Proofs.YtgcefippeokmcaaDoor
