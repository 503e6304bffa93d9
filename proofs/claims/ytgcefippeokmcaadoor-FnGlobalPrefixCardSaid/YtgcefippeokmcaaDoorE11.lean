/- Vt, Eg1, Sn, Eh -/
import Derived.Test.YtgcefippeokmcaaDoorH09
import Derived.Test.YtgcefippeokmcaaDoorH10
import Derived.Test.YtgcefippeokmcaaDoorH07
import Derived.Test.YtgcefippeokmcaaDoorH00
import Derived.Deep.RegionHeld
import Derived.RegionTactic
/- StepGlobal of the model. -/
namespace Go.Proofs.YtgcefippeokmcaaDoor
open Go.RowKit

set_option maxHeartbeats 4000000 in
set_option maxRecDepth 100000 in
theorem specStep (w : World) (g : Nd) (sv : Value) (s : ByteArray) (hs : Sl w sv g.kids) (hf : Fit g) :
    Calls Tryd.prog 36 #[.agg #[.int .i64 g.k, .string g.fr, .string g.tg, .int .i64 g.ix, sv], .string s] w (MadeR (stepR g s) (stepOk g s) w) := by
  have HS := hide hs
  have HF := hide hf
  have hb0 := (alloc_below w (.cells #[.int .i64 g.k, .string g.fr, .string g.tg, .int .i64 g.ix, sv] ( /- t -/ 39))).alloc (by simp) (.cells #[.int .i64 0, .string ⟨#[]⟩, .string ⟨#[]⟩, .int .i64 0, .slice none 0 0] ( /- t -/ 39))
  have hz0 := Box5.now (w.alloc (.cells #[.int .i64 g.k, .string g.fr, .string g.tg, .int .i64 g.ix, sv] ( /- t -/ 39))) (.int .i64 0) (.string ⟨#[]⟩) (.string ⟨#[]⟩) (.int .i64 0) (.slice none 0 0) ( /- t -/ 39)
  rw [show (w.alloc (.cells #[.int .i64 g.k, .string g.fr, .string g.tg, .int .i64 g.ix, sv] ( /- t -/ 39))).heap.size = w.heap.size + 1 from by simp] at hz0
  have HB0 := hide hb0
  have HZ0 := hide hz0
  clear hs hf hb0 hz0
  obtain ⟨R, hR⟩ : ∃ R, R = unfR g := ⟨_, rfl⟩
  obtain ⟨ok, hok⟩ : ∃ ok, ok = unfOk g := ⟨_, rfl⟩
  have HR := hide hR
  have HOK := hide hok
  clear hR hok
  go_enter Tryd.func36, Tryd.ntmps36
  go_wp2_with fail
  generalize (w.alloc (.cells #[.int .i64 g.k, .string g.fr, .string g.tg, .int .i64 g.ix, sv] ( /- t -/ 39))).alloc (.cells #[.int .i64 0, .string ⟨#[]⟩, .string ⟨#[]⟩, .int .i64 0, .slice none 0 0] ( /- t -/ 39)) = W at *
  refine (specUnf W g sv (HS.out.still (Still.of_below HB0.out)) HF.out).mono ?_
  rw [← HR.out, ← HOK.out]
  rintro e w1 ⟨u, bs, rfl, how, hge, hnd, hb⟩
  obtain ⟨ua, uc, rfl⟩ := how.val
  have hWl := HZ0.out.lt
  have hRl : R.kids.len ≤ 9223372036854775807 := by
    obtain ⟨_, _, _, e1, e2, _⟩ := id how
    unfold maxLen at e2
    omega
  have hbA := alloc_below w1 (.cells #[.int .i64 R.k, .string R.fr, .string R.tg, .int .i64 R.ix, .slice ua R.kids.len uc] ( /- t -/ 39))
  have h1 := HB0.out.trans (hb.mono HB0.out.size)
  have HST : Hid (StS w (w1.alloc (.cells #[.int .i64 R.k, .string R.fr, .string R.tg, .int .i64 R.ix, .slice ua R.kids.len uc] ( /- t -/ 39))) R (.slice ua R.kids.len uc) bs w1.heap.size) :=
    hide ⟨h1.trans (hbA.mono h1.size), (HZ0.out.below hb).below hbA, Box5.now w1 _ _ _ _ _ _, how.same (Same.of_below hbA how.lt), fun x hx => by have := hge x hx; omega, hnd⟩
  clear how hge hnd hb hbA h1 HZ0 HB0 HS HF
  obtain ⟨X, hX⟩ : ∃ X, X = w1.heap.size := ⟨_, rfl⟩
  rw [← hX] at HST
  go_wp2_with fail
  rw [← hX]
  clear hX
  have HST2 : Hid (StRel w R s (.slice ua R.kids.len uc) bs X (.int .i64 0) (w1.alloc (.cells #[.int .i64 R.k, .string R.fr, .string R.tg, .int .i64 R.ix, .slice ua R.kids.len uc] ( /- t -/ 39)))) := hide ⟨.nil, R.kids, rfl, rfl, rfl, HST.out⟩
  clear HST
  go_loopw [8] (fun iv wr => StRel w R s (.slice ua R.kids.len uc) bs X iv wr) (fun iv _ => R.kids.len - (intOf iv).toNat)
  case atStart => exact HST2.out
  case round =>
    obtain ⟨p, q, he, rfl, hfind, hst⟩ := hrel
    obtain ⟨y0, y1, y2, y3, y4⟩ := hst.hx.cells
    have yl := hst.hx.lt
    cases q with
    | nil =>
      rw [F.app_nil] at he
      have hge : R.kids.len ≤ p.len := by rw [he]; exact Nat.le_refl _
      have hno : stepO g s = none := by rw [stepO_of, ← HR.out, hfind]; rfl
      have HNO := hide hno
      obtain ⟨z0, z1, z2, z3, z4⟩ := hst.hz.cells
      have fz := hst.hz.frozen
      have zl := hst.hz.lt
      have HSS := hide hst
      clear hno he hfind hst HST2
      go_wp2_with fail
      refine bodyPost_ret (v := .tuple #[.agg #[.int .i64 0, .string ⟨#[]⟩, .string ⟨#[]⟩, .int .i64 0, .slice none 0 0], .bool false]) (by simp [results, Tryd.results36, go_sem, *]) rfl ?_
      rw [show stepOk g s = false by unfold stepOk; rw [HNO.out]; rfl, show stepR g s = zeroNd by unfold stepR; rw [HNO.out]; rfl]
      refine MadeR.zero ?_
      repeat (refine Below.setCell ?_ (by first | (simp; done) | (simp; omega)) _)
      exact HSS.out.hb
    | cons lab kd fr' tg' ix' kids' rest =>
      have hlt : p.len < R.kids.len := by rw [he, F.len_app]; simp only [F.len]; omega
      have hokt : ok = true := by
        cases hh : ok with
        | true => rfl
        | false =>
          have h1 := HR.out
          unfold unfR at h1
          rw [← HOK.out, hh] at h1
          rw [h1] at hlt
          exact absurd hlt (Nat.not_lt_zero _)
      subst hokt
      have hRu : R = unf g := by rw [HR.out]; unfold unfR; rw [← HOK.out]; rfl
      have hval : okN kd fr' tg' ix' kids' = true := step_valid HOK.out.symm (by rw [← hRu]; exact he)
      obtain ⟨b, cap, a5, c5, ks, hu, c0, c1, c2, c3, c4, cc5, hko, hks, hkn⟩ := hst.ho.sub hst.hn he
      simp only [Value.slice.injEq, true_and] at hu
      obtain ⟨rfl, rfl⟩ := hu
      have hbl := World.block_lt_of_cell? _ _ c0
      have HE := hide (And.intro he (And.intro hfind hval))
      have HSS := hide hst
      have HKO := hide (And.intro hko (And.intro hks hkn))
      clear he hfind hval hst hko hks hkn hRu HST2
      cases hl : (lab.toList == s.toList) with
      | true =>
        have hl3 : lab.toList = s.toList := by simpa using hl
        have hno : stepO g s = some ⟨kd, fr', tg', ix', kids'⟩ := by
          rw [stepO_of, ← HR.out, HE.out.2.1]
          unfold findF
          rw [hl]
          rfl
        have HNO := hide hno
        clear hno
        go_wp2_with fail
        have hbB := alloc_below wr (.cells #[.int .i64 kd, .string fr', .string tg', .int .i64 ix', .slice a5 kids'.len c5] ( /- t -/ 39))
        refine (specValidBig _ kd ix' fr' tg' _ kids' (HKO.out.1.sl.still (Still.of_below hbB))).mono ?_
        rw [HE.out.2.2]
        rintro e w5 ⟨rfl, hb5⟩
        have hbn := (Box5.now wr (.int .i64 kd) (.string fr') (.string tg') (.int .i64 ix') (.slice a5 kids'.len c5) ( /- t -/ 39)).below hb5
        have hss := (HSS.out.below hbB).below hb5
        have hk5 := (HKO.out.1.same (Same.of_below hbB HKO.out.1.lt))
        have hk6 := hk5.same (Same.of_below hb5 hk5.lt)
        have HK := hide (And.intro hk6 (And.intro HKO.out.2.1 HKO.out.2.2))
        obtain ⟨n0, n1, n2, n3, n4⟩ := hbn.cells
        have nl := hbn.lt
        obtain ⟨z0, z1, z2, z3, z4⟩ := hss.hz.cells
        have fz := hss.hz.frozen
        have zl := hss.hz.lt
        have HS5 := hide hss
        clear hss hk5 hk6 hbB hb5 hbn
        go_wp2_with fail
        refine bodyPost_ret (v := .tuple #[.agg #[.int .i64 kd, .string fr', .string tg', .int .i64 ix', .slice a5 kids'.len c5], .bool true]) (by simp [results, Tryd.results36, go_sem, *]) rfl ?_
        rw [show stepOk g s = true by unfold stepOk; rw [HNO.out]; rfl, show stepR g s = ⟨kd, fr', tg', ix', kids'⟩ by unfold stepR; rw [HNO.out]; rfl]
        exact MadeR.sub (N := ⟨kd, fr', tg', ix', kids'⟩) HS5.out HK.out.1 HK.out.2.1 HK.out.2.2 _ _ _ _ _
      | false =>
        have hl3 : ¬ lab.toList = s.toList := by simpa using hl
        have hnx : findF R.kids s = findF rest s := by
          rw [HE.out.2.1]
          conv => lhs; unfold findF
          rw [hl]
          rfl
        have HNX := hide hnx
        clear hnx
        have hbB := alloc_below wr (.cells #[.int .i64 kd, .string fr', .string tg', .int .i64 ix', .slice a5 kids'.len c5] ( /- t -/ 39))
        have HREL : Hid (StRel w R s (.slice (some ⟨b, 0, none⟩) R.kids.len uc) bs X (.int .i64 ((p.len + 1 : Nat) : Int)) (wr.alloc (.cells #[.int .i64 kd, .string fr', .string tg', .int .i64 ix', .slice a5 kids'.len c5] ( /- t -/ 39)))) :=
          hide ⟨p.app (.cons lab kd fr' tg' ix' kids' .nil), rest, by rw [HE.out.1, F.app_assoc]; rfl, by rw [F.len_app]; rfl, HNX.out, HSS.out.below hbB⟩
        clear hbB
        go_wp2_with fail
        exact ⟨HREL.out, by simp [intOf]; omega⟩

end Go.Proofs.YtgcefippeokmcaaDoor

/- wpContains of the laws; what follows a message. -/
namespace Go.Proofs.YtgcefippeokmcaaDoor
open Go.RowKit

theorem find_split : ∀ (f : F) (s : ByteArray) (N : Nd), findF f s = some N → ∃ (p : F) (lab : ByteArray) (rest : F), f = p.app (.cons lab N.k N.fr N.tg N.ix N.kids rest) ∧ lab.toList = s.toList := by
  intro f
  induction f with
  | nil => intro s N h; cases h
  | cons lab k fr tg ix kids rest ihk ihr =>
    intro s N h
    unfold findF at h
    split at h
    · rename_i hl
      injection h with h
      subst h
      exact ⟨.nil, lab, rest, rfl, eq_of_beq hl⟩
    · obtain ⟨p, lab', rest', e1, e2⟩ := ihr s N h
      exact ⟨.cons lab k fr tg ix kids p, lab', rest', by rw [e1]; rfl, e2⟩
theorem namFb_app (c : UInt8) (g : F) : ∀ f : F, namFb c (f.app g) = (namFb c f || namFb c g)
  | .nil => by simp [F.app, namFb]
  | .cons lab k fr tg ix kids rest => by simp only [F.app, namFb, namFb_app c g rest, Bool.or_assoc]
theorem labF_app (g : F) : ∀ f : F, labF (f.app g) → labF g
  | .nil, h => h
  | .cons _ _ _ _ _ _ rest, h => labF_app g rest h.2

/-- What follows a message of a protocol. -/
structure StepIs (g N : Nd) (s : ByteArray) : Prop where
  uok : unfOk g = true
  ok : okN N.k N.fr N.tg N.ix N.kids = true
  lab : labB s = true
  nam : ∀ c, namNb c N.k N.fr N.tg N.kids = true → namNb c g.k g.fr g.tg g.kids = true
  again : stepO (unfR g) s = some N
theorem step_is {g N : Nd} {s : ByteArray} (h : stepO g s = some N) : StepIs g N s := by
  have hU : unfOk g = true := by
    unfold stepO at h
    cases hu : unfOk g with
    | true => rfl
    | false => rw [hu] at h; cases h
  have hf : findF (unf g).kids s = some N := by unfold stepO at h; rwa [if_pos hU] at h
  obtain ⟨p, lab, rest, e1, e2⟩ := find_split _ _ _ hf
  have hR : unfR g = unf g := by unfold unfR; rw [if_pos hU]
  obtain ⟨r1, r2, r3, r4⟩ := unf_unf hU
  have hls : lab = s := ByteArray.ext (Array.toList_inj.1 (by rw [ByteArray.toList_eq, ByteArray.toList_eq] at e2; exact e2))
  subst hls
  have hG : okG (unf g) = true := by have h2 := hU; unfold unfOk at h2; simp only [Bool.and_eq_true] at h2; exact h2.2
  have hw := (okG_w hG).1
  unfold wN at hw
  simp only [Bool.and_eq_true] at hw
  have hne : (unf g).kids ≠ .nil := by
    rw [e1]
    intro e
    have := congrArg F.len e
    rw [F.len_app] at this
    simp only [F.len] at this
    omega
  have k2 : (unf g).k = 2 := by
    by_cases h2 : (unf g).k = 2
    · exact h2
    · exact absurd (shape_leaf hw.1 h2 r3) hne
  refine ⟨hU, step_valid hU e1, ?_, fun c hc => ?_, ?_⟩
  · have hsh := hw.1
    rw [k2] at hsh
    obtain ⟨-, -, -, -, hb⟩ := shape_msg hsh
    unfold branchesB at hb
    simp only [Bool.and_eq_true] at hb
    have hl := labF_of_asc _ _ hb.1
    rw [e1] at hl
    exact (labF_app _ p hl).1
  · have h1 : namNb c (unf g).k (unf g).fr (unf g).tg (unf g).kids = true := by
      unfold namNb
      rw [e1, namFb_app]
      simp only [namFb]
      unfold namNb at hc
      rw [hc]
      simp
    have hg := hU
    unfold unfOk okG at hg
    simp only [Bool.and_eq_true] at hg
    exact unfN_nam_le c _ (g.kids.sz + 1) [] g (fun U hU => absurd hU List.not_mem_nil) id h1
  · rw [hR]
    unfold stepO
    rw [if_pos r1, r2]
    exact hf
theorem roles_sub {g N : Nd} {s : ByteArray} (h : StepIs g N s) : ∃ L M : List UInt8, rolesN N.k N.fr N.tg N.ix N.kids = bsl L ∧ rolesN g.k g.fr g.tg g.ix g.kids = bsl M ∧ L.length ≤ 3 ∧ ∀ j, j < L.length → hasB (bsl M) (hd0 (L.drop j)) = true := by
  have hg : okN g.k g.fr g.tg g.ix g.kids = true := by have h2 := h.uok; unfold unfOk okG at h2; simp only [Bool.and_eq_true] at h2; exact h2.1
  refine ⟨setL fun c => namNb c N.k N.fr N.tg N.kids, setL fun c => namNb c g.k g.fr g.tg g.kids, by unfold rolesN; rw [if_pos h.ok]; rfl, by unfold rolesN; rw [if_pos hg]; rfl, by unfold setL; exact List.length_filter_le _ _, fun j hj => ?_⟩
  have hm : hd0 ((setL fun c => namNb c N.k N.fr N.tg N.kids).drop j) ∈ setL fun c => namNb c N.k N.fr N.tg N.kids := by
    rw [List.drop_eq_getElem_cons hj]
    exact List.getElem_mem hj
  generalize hd0 ((setL fun c => namNb c N.k N.fr N.tg N.kids).drop j) = c at *
  unfold setL at hm
  rw [List.mem_filter] at hm
  unfold hasB bsl setL
  simp only [List.contains_iff_mem, List.mem_filter]
  exact ⟨hm.1, h.nam c hm.2⟩

set_option maxHeartbeats 800000 in
set_option maxRecDepth 100000 in
theorem wpc_calls (M : List UInt8) (hM : M.length ≤ 1000) (c : UInt8) (w : World) : Calls Tryd.prog 37 #[.string (bsl M), .int .u8 (c.toNat : Int)] w fun e w' => e = .returned (.bool (hasB (bsl M) c)) ∧ w' = w := by
  have hsz : (bsl M).size = M.length := bsl_size M
  go_enter Tryd.func37, Tryd.ntmps37
  go_wp2_with fail
  go_loopw [5] (fun iv wr => ∃ q : Nat, iv = .int .i64 (q : Int) ∧ q ≤ M.length ∧ wr = w ∧ Hid (∀ x, x ∈ M.take q → x ≠ c)) (fun iv _ => M.length - (intOf iv).toNat)
  case atStart => exact ⟨0, rfl, Nat.zero_le _, rfl, hide (fun x hx => by simp at hx)⟩
  case round =>
    obtain ⟨q, rfl, hq, rfl, HT⟩ := hrel
    by_cases hqm : q < M.length
    case neg =>
      have hqi : ¬ (q : Int) < (M.length : Int) := by omega
      have hres : hasB (bsl M) c = false := by
        unfold hasB bsl
        rw [Bool.eq_false_iff]
        intro h
        simp only [List.contains_iff_mem] at h
        have h2 := HT.out c (by rw [List.take_of_length_le (by omega)]; exact h)
        exact h2 rfl
      go_wp2_with fail
      go_ret
      first
        | exact ⟨rfl, rfl⟩
        | exact ⟨congrArg (fun b => Ending.returned (.bool b)) hres.symm, rfl⟩
    case pos =>
      have hqi : (q : Int) < (M.length : Int) := by omega
      obtain ⟨hin, hget, hdr⟩ := hd0_at hqm
      by_cases hc : hd0 (M.drop q) = c
      · have hres : hasB (bsl M) c = true := by
          unfold hasB bsl
          simp only [List.contains_iff_mem]
          rw [← hc]
          have : hd0 (M.drop q) ∈ M.drop q := by rw [List.drop_eq_getElem_cons hqm]; exact List.mem_cons_self ..
          exact List.mem_of_mem_drop this
        have hcq : (((bsl M)[q]'hin).toNat : Int) = (c.toNat : Int) := by rw [hget, hc]
        clear hget hdr hc
        go_wp2_with fail
        go_ret
        exact ⟨congrArg (fun b => Ending.returned (.bool b)) hres.symm, rfl⟩
      · have hcn : ¬ (((bsl M)[q]'hin).toNat : Int) = (c.toNat : Int) := by
          rw [hget]
          intro h
          exact hc (UInt8.toNat_inj.1 (by omega))
        have hcb : ((((bsl M)[q]'hin).toNat : Int) == (c.toNat : Int)) = false := beq_eq_false_iff_ne.2 hcn
        have HT2 : Hid (∀ x, x ∈ M.take (q + 1) → x ≠ c) := hide (fun x hx => by
          rw [List.take_succ_eq_append_getElem hqm] at hx
          rcases List.mem_append.1 hx with hx | hx
          · exact HT.out x hx
          · have hx2 := List.mem_singleton.1 hx
            rw [hx2]
            intro h
            apply hc
            rw [List.drop_eq_getElem_cons hqm]
            exact h)
        clear hget hdr hc
        go_wp2_with fail
        go_roundw
        case rel => exact ⟨q + 1, rfl, by omega, (by first | rfl | trivial), HT2⟩
        case measure => simp [intOf]; omega
end Go.Proofs.YtgcefippeokmcaaDoor

/- GlobalNodes of the model. -/
namespace Go.Proofs.YtgcefippeokmcaaDoor
open Go.RowKit

set_option maxHeartbeats 400000 in
/-- GlobalNodes of the model. -/
theorem specNodes (w : World) (k ix : Int) (fr tq : ByteArray) (sv : Value) (kids : F) (hs : Sl w sv kids) (hbig : kids.sz ≤ 1048576) :
    Calls Tryd.prog 52 #[.agg #[.int .i64 k, .string fr, .string tq, .int .i64 ix, sv]] w fun e w' => e = .returned (.int .i64 (nodesN k fr tq ix kids : Nat)) ∧ Below w.heap.size w w' := by
  have HS := hide hs
  clear hs
  go_enter Tryd.func52, Tryd.ntmps52
  go_wp2_with fail
  refine (specValid _ k ix fr tq sv kids (HS.out.still (Still.of_below (alloc_below _ _))) hbig).mono ?_
  rintro e w1 ⟨rfl, hb⟩
  obtain ⟨c0, c1, c2, c3, c4, hlt, hb2⟩ := box5 hb
  clear hb
  cases hv : okN k fr tq ix kids with
  | false =>
    go_wp2_with fail
    go_ret
    exact ⟨ret_int (by simp [nodesN, hv]), hb2⟩
  | true =>
    have HV := hide hv
    have hvl : vldN k fr tq ix kids 0 0 40 = true := by simp only [okN, Bool.and_eq_true] at hv; exact hv.1
    have HVL := hide hvl
    clear hv hvl
    go_wp2_with fail
    refine (cnt_calls _ k ix 40 fr tq sv kids (HS.out.still (Still.of_below hb2)) hbig (by omega) (by omega)).mono ?_
    rintro e w2 ⟨rfl, hb3⟩
    have hb4 := hb2.trans (hb3.mono hb2.size)
    rw [cntN_of_vld HVL.out]
    clear hb3
    go_wp2_with fail
    go_ret
    exact ⟨ret_int (by simp [nodesN, HV.out]), hb4⟩
end Go.Proofs.YtgcefippeokmcaaDoor

/- The law FnGlobalPrefix: its walk. -/
namespace Go.Proofs.YtgcefippeokmcaaDoor
open Go.RowKit

set_option maxHeartbeats 1000000 in
set_option maxRecDepth 100000 in
theorem drawV_calls (w : World) (sv : Value) (l : List Nat) (hs : SlG elY w sv l) : Calls Tryd.prog 51 #[sv] w (Drawn w) := by
  have HSV := hide hs
  have hx0 := Box5.now w (.int .i64 0) (.string ⟨#[]⟩) (.string ⟨#[]⟩) (.int .i64 0) (.slice none 0 0) ( /- t -/ 39)
  have hb0 := alloc_below w (.cells #[.int .i64 0, .string ⟨#[]⟩, .string ⟨#[]⟩, .int .i64 0, .slice none 0 0] ( /- t -/ 39))
  have hz0 : (w.alloc (.cells #[.int .i64 0, .string ⟨#[]⟩, .string ⟨#[]⟩, .int .i64 0, .slice none 0 0] ( /- t -/ 39))).heap.size = w.heap.size + 1 := by simp
  have HX0 := hide hx0
  have HB0 := hide hb0
  have HZ0 := hide hz0
  clear hx0 hb0 hz0 hs
  go_enter Tryd.func51, Tryd.ntmps51
  go_upto_region 1 with fail
  generalize w.alloc (.cells #[.int .i64 0, .string ⟨#[]⟩, .string ⟨#[]⟩, .int .i64 0, .slice none 0 0] ( /- t -/ 39)) = W at *
  go_wp2_with fail
  refine (draw_calls W sv l (HSV.out.still (Still.of_below HB0.out))).mono ?_
  rintro e w2 ⟨N, u, bs, rfl, how, hge, hnd, hb, hf, hsz⟩
  obtain ⟨ua, uc, rfl⟩ := how.val
  have HX2 := hide (HX0.out.below hb)
  have HB2 := hide (HB0.out.trans (hb.mono (by have := HZ0.out; omega)))
  have HG : Hid (∀ x, x ∈ bs → w.heap.size < x) := hide (fun x hx => by have := hge x hx; have := HZ0.out; omega)
  have HOW := hide how
  have HF := hide hf
  have HND := hide hnd
  obtain ⟨x0, x1, x2, x3, x4⟩ := HX2.out.cells
  have fx := HX2.out.frozen
  have lx := HX2.out.lt
  clear hge how hf hnd hb HB0 HX0
  go_wp2_with fail
  refine bodyPost_ret (v := .agg #[.int .i64 N.k, .string N.fr, .string N.tg, .int .i64 N.ix, .slice ua N.kids.len uc]) (by simp [results, Tryd.results51, go_sem, *]) rfl ?_
  exact drawn_set HOW.out HG.out HND.out HB2.out HF.out hsz _ _ _ _ _

/-- A message in front of a protocol steps to it. -/
theorem pre_step {g : Nd} {KX : F} (hK : KX = .cons ⟨#[98]⟩ g.k g.fr g.tg g.ix g.kids .nil) (hX : okN 2 ⟨#[66]⟩ ⟨#[67]⟩ 0 KX = true) : stepO (⟨2, ⟨#[66]⟩, ⟨#[67]⟩, 0, KX⟩ : Nd) ⟨#[98]⟩ = some g := by
  have e : unf (⟨2, ⟨#[66]⟩, ⟨#[67]⟩, 0, KX⟩ : Nd) = ⟨2, ⟨#[66]⟩, ⟨#[67]⟩, 0, KX⟩ := unf_self (by show (2 : Int) ≠ 3; omega)
  unfold stepO
  have hU : unfOk (⟨2, ⟨#[66]⟩, ⟨#[67]⟩, 0, KX⟩ : Nd) = true := by
    unfold unfOk
    rw [e]
    show (okN 2 ⟨#[66]⟩ ⟨#[67]⟩ 0 KX && okN 2 ⟨#[66]⟩ ⟨#[67]⟩ 0 KX) = true
    rw [hX]
    rfl
  rw [if_pos hU, e, hK]
  show findF (.cons ⟨#[98]⟩ g.k g.fr g.tg g.ix g.kids .nil) ⟨#[98]⟩ = some g
  unfold findF
  rw [if_pos (by simp)]
theorem pre_roles {KX : F} (hX : okN 2 ⟨#[66]⟩ ⟨#[67]⟩ 0 KX = true) : ∃ M : List UInt8, rolesN 2 ⟨#[66]⟩ ⟨#[67]⟩ 0 KX = bsl M ∧ M.length ≤ 1000 ∧ hasB (bsl M) 66 = true := by
  refine ⟨setL fun c => namNb c 2 ⟨#[66]⟩ ⟨#[67]⟩ KX, by unfold rolesN; rw [if_pos hX]; rfl, ?_, ?_⟩
  · have : (setL fun c => namNb c 2 ⟨#[66]⟩ ⟨#[67]⟩ KX).length ≤ 3 := by unfold setL; exact List.length_filter_le _ _
    omega
  · unfold hasB bsl setL
    simp only [List.contains_iff_mem, List.mem_filter]
    refine ⟨by simp, ?_⟩
    unfold namNb
    simp [hasB]

set_option maxHeartbeats 400000 in
theorem gpr_big (w : World) (a : Option Addr) (n c : Nat) (hn : (1048576 : Int) < (n : Int)) :
    Calls Tryd.prog 11 #[.slice a n c] w fun e w' => e = .returned (.bool true) ∧ Below w.heap.size w w' := by
  go_enter Tryd.func11, Tryd.ntmps11
  go_wp2_with fail
  go_ret
  exact ⟨rfl, Below.refl _ _⟩

set_option maxHeartbeats 4000000 in
set_option maxRecDepth 100000 in
theorem gpr_small (w : World) (a : Option Addr) (c : Nat) (l : List Nat) (hs : SlG elY w (.slice a l.length c) l) (hl : l.length ≤ 1048576) :
    Calls Tryd.prog 11 #[.slice a l.length c] w fun e w' => e = .returned (.bool true) ∧ Below w.heap.size w w' := by
  have hl2 : ¬ (1048576 : Int) < (l.length : Int) := by omega
  have HSV := hide hs
  clear hs
  go_enter Tryd.func11, Tryd.ntmps11
  go_wp2_with fail
  refine (drawV_calls w _ l HSV.out).mono ?_
  rintro e w1 ⟨g, u, bs, rfl, how, -, -, hb1, hf, hsz⟩
  obtain ⟨ga, gc, rfl⟩ := how.val
  have HN := hide (Nv.now how ( /- t -/ 39))
  have HB := hide (hb1.alloc hb1.size (.cells #[.int .i64 g.k, .string g.fr, .string g.tg, .int .i64 g.ix, .slice ga g.kids.len gc] ( /- t -/ 39)))
  have HF := hide hf
  clear how hb1 hf HSV
  obtain ⟨KX, hKX⟩ : ∃ KX, KX = F.cons ⟨#[98]⟩ g.k g.fr g.tg g.ix g.kids .nil := ⟨_, rfl⟩
  have HKX := hide hKX
  have hKs : KX.sz = g.kids.sz + 1 := by rw [hKX]; rfl
  have HIN := hide (fun (W : World) (sv : Value) (hs : Sl W sv g.kids) => implNodes W g.k g.ix g.fr g.tg sv g.kids hs)
  have HSN := hide (fun (W : World) (sv : Value) (hs : Sl W sv g.kids) => specNodes W g.k g.ix g.fr g.tg sv g.kids hs (by omega))
  have HSV := hide (fun (W : World) (sv : Value) (hs : Sl W sv g.kids) => specValidBig W g.k g.ix g.fr g.tg sv g.kids hs)
  have HIVX := hide (fun (W : World) (sv : Value) (hs : Sl W sv KX) => implValid W 2 0 ⟨#[66]⟩ ⟨#[67]⟩ sv KX hs)
  have HSVX := hide (fun (W : World) (sv : Value) (hs : Sl W sv KX) => specValidBig W 2 0 ⟨#[66]⟩ ⟨#[67]⟩ sv KX hs)
  have HINX := hide (fun (W : World) (sv : Value) (hs : Sl W sv KX) => implNodes W 2 0 ⟨#[66]⟩ ⟨#[67]⟩ sv KX hs)
  have hNG : Hid (okN g.k g.fr g.tg g.ix g.kids = true → nodesN g.k g.fr g.tg g.ix g.kids = g.kids.sz + 1) := hide (fun h => by unfold nodesN; rw [if_pos h])
  have hNX : Hid (okN 2 ⟨#[66]⟩ ⟨#[67]⟩ 0 KX = true → nodesN 2 ⟨#[66]⟩ ⟨#[67]⟩ 0 KX = KX.sz + 1) := hide (fun h => by unfold nodesN; rw [if_pos h])
  have hNB : nodesN g.k g.fr g.tg g.ix g.kids ≤ 1000 := by
    unfold nodesN
    split
    · omega
    · exact Nat.zero_le _
  generalize nodesN g.k g.fr g.tg g.ix g.kids = NG at *
  generalize nodesN 2 ⟨#[66]⟩ ⟨#[67]⟩ 0 KX = NX at *
  have HKS := hide hKs
  have HSZ := hide hsz
  clear hKX hKs hsz
  go_upto_region 4 with fail
  generalize w1.alloc (.cells #[.int .i64 g.k, .string g.fr, .string g.tg, .int .i64 g.ix, .slice ga g.kids.len gc] ( /- t -/ 39)) = W1 at *
  generalize w1.heap.size = b3 at *
  obtain ⟨x0, x1, x2, x3, x4⟩ := HN.out.box.cells
  have lx := HN.out.lt
  go_wp2_with fail
  refine (HIN.out W1 _ HN.out.sl).mono ?_
  rintro e w2 ⟨rfl, hbq⟩
  have HB2 := hide (HB.out.trans (hbq.mono HB.out.size))
  have HNx := hide (HN.out.below hbq)
  clear HN
  have HN := HNx
  clear HNx
  clear hbq HB
  clear x0 x1 x2 x3 x4 lx
  obtain ⟨x0, x1, x2, x3, x4⟩ := HN.out.box.cells
  have lx := HN.out.lt
  have HX : Hid (Nv ((w2.alloc (.cells #[.string ⟨#[98]⟩, .int .i64 g.k, .string g.fr, .string g.tg, .int .i64 g.ix, .slice ga g.kids.len gc] ( /- t -/ 54))).alloc (.cells #[.int .i64 2, .string ⟨#[66]⟩, .string ⟨#[67]⟩, .int .i64 0, .slice (some ⟨w2.heap.size, 0, none⟩) 1 1] ( /- t -/ 39))) (w2.heap.size + 1) (⟨2, ⟨#[66]⟩, ⟨#[67]⟩, 0, KX⟩ : Nd) (.slice (some ⟨w2.heap.size, 0, none⟩) 1 1)) := hide (by
    obtain ⟨bs9, how9⟩ := HN.out.own
    have how1 := ow_one (lab := ⟨#[98]⟩) (show (1 : Nat) ≤ maxLen by unfold maxLen; omega) HF.out how9 ( /- t -/ 54)
    rw [← HKX.out] at how1
    have := Nv.now (g := ⟨2, ⟨#[66]⟩, ⟨#[67]⟩, 0, KX⟩) how1 ( /- t -/ 39)
    rwa [show (w2.alloc (.cells #[.string ⟨#[98]⟩, .int .i64 g.k, .string g.fr, .string g.tg, .int .i64 g.ix, .slice ga g.kids.len gc] ( /- t -/ 54))).heap.size = w2.heap.size + 1 by simp] at this)
  have hb9 := (alloc_below w2 (.cells #[.string ⟨#[98]⟩, .int .i64 g.k, .string g.fr, .string g.tg, .int .i64 g.ix, .slice ga g.kids.len gc] ( /- t -/ 54))).alloc (by simp) (.cells #[.int .i64 2, .string ⟨#[66]⟩, .string ⟨#[67]⟩, .int .i64 0, .slice (some ⟨w2.heap.size, 0, none⟩) 1 1] ( /- t -/ 39))
  have HNx := hide (HN.out.below hb9)
  have HBx := hide (HB2.out.trans (hb9.mono HB2.out.size))
  obtain ⟨xa, hxa⟩ : ∃ xa, xa = some (⟨w2.heap.size, 0, none⟩ : Addr) := ⟨_, rfl⟩
  go_upto_region 6 with fail
  rw [← hxa] at HX HNx HBx ⊢
  clear x0 x1 x2 x3 x4 lx hb9 HB2 HN
  generalize (w2.alloc (.cells #[.string ⟨#[98]⟩, .int .i64 g.k, .string g.fr, .string g.tg, .int .i64 g.ix, .slice ga g.kids.len gc] ( /- t -/ 54))).alloc (.cells #[.int .i64 2, .string ⟨#[66]⟩, .string ⟨#[67]⟩, .int .i64 0, .slice xa 1 1] ( /- t -/ 39)) = W3 at *
  generalize w2.heap.size + 1 = b5 at *
  clear hxa
  have HN := HNx
  have HB := HBx
  clear HNx HBx
  obtain ⟨x0, x1, x2, x3, x4⟩ := HN.out.box.cells
  have lx := HN.out.lt
  obtain ⟨y0, y1, y2, y3, y4⟩ := HX.out.box.cells
  have ly := HX.out.lt
  have hngs : ((NG : Int) != (NG : Int)) = false := by simp
  go_wp2_with fail
  refine (HSN.out W3 _ HN.out.sl).mono ?_
  rintro e w4 ⟨rfl, hbq⟩
  have HB4 := hide (HB.out.trans (hbq.mono HB.out.size))
  have HNx := hide (HN.out.below hbq)
  clear HN
  have HN := HNx
  clear HNx
  have HXx := hide (HX.out.below hbq)
  clear HX
  have HX := HXx
  clear HXx
  clear hbq HB
  clear x0 x1 x2 x3 x4 lx y0 y1 y2 y3 y4 ly
  obtain ⟨x0, x1, x2, x3, x4⟩ := HN.out.box.cells
  have lx := HN.out.lt
  obtain ⟨y0, y1, y2, y3, y4⟩ := HX.out.box.cells
  have ly := HX.out.lt
  go_wp2_with fail
  refine (HSV.out w4 _ HN.out.sl).mono ?_
  rintro e w5 ⟨rfl, hbq⟩
  have HB := hide (HB4.out.trans (hbq.mono HB4.out.size))
  have HNx := hide (HN.out.below hbq)
  clear HN
  have HN := HNx
  clear HNx
  have HXx := hide (HX.out.below hbq)
  clear HX
  have HX := HXx
  clear HXx
  clear hbq HB4
  clear x0 x1 x2 x3 x4 lx y0 y1 y2 y3 y4 ly
  cases hok : okN g.k g.fr g.tg g.ix g.kids with
  | false =>
    have HKEEP := hide (And.intro HN.out (And.intro HX.out HB.out))
    clear HN HX HB
    go_upto_region 7 with fail
    refine wp_region_held_drew (S := (fun w' => Nv w' b3 g (.slice ga g.kids.len gc) ∧ Nv w' b5 (⟨2, ⟨#[66]⟩, ⟨#[67]⟩, 0, KX⟩ : Nd) (.slice xa 1 1) ∧ Below w.heap.size w w')) (by kernel_rfl) ?_ (fun hHeld => ?_)
    · exact ⟨HKEEP.out.1.drew, HKEEP.out.2.1.drew, HKEEP.out.2.2.drew⟩
    have HKEEP := hide hHeld
    refine wpAnyH_take (i := 0) (v := ?v0a) rfl (by kernel_rfl) (by kernel_rfl) (by kernel_rfl) (fun _ _ _ h => h) (Or.inl ⟨by kernel_rfl, ?hy0a⟩) (by assumption) ?rest0a
    case hy0a => ((intro wS hSw); (obtain ⟨hSa, hSb, -⟩ := hSw); (obtain ⟨p0, p1, p2, p3, p4⟩ := hSa.box.cells); (obtain ⟨q0, q1, q2, q3, q4⟩ := hSb.box.cells); (go_simp); (try with_reducible rfl))
    change wpAnyH _ _ _ _ _ _ _ (Act.put _ (some 33) _) _
    (try simp only [Act.put]); (try simp only [List.setIfInBounds_toArray]); (try simp only [List.set_cons_zero]); (try simp only [List.set_cons_succ])
    refine wpAnyH_take (i := 1) (v := ?v1a) rfl (by kernel_rfl) (by kernel_rfl) (by kernel_rfl) (fun _ _ _ h => h) (Or.inl ⟨by kernel_rfl, ?hy1a⟩) (by assumption) ?rest1a
    case hy1a => ((intro wS hSw); (obtain ⟨hSa, hSb, -⟩ := hSw); (obtain ⟨p0, p1, p2, p3, p4⟩ := hSa.box.cells); (obtain ⟨q0, q1, q2, q3, q4⟩ := hSb.box.cells); (go_simp); (try with_reducible rfl))
    change wpAnyH _ _ _ _ _ _ _ (Act.put _ (some 34) _) _
    (try simp only [Act.put]); (try simp only [List.setIfInBounds_toArray]); (try simp only [List.set_cons_zero]); (try simp only [List.set_cons_succ])
    refine wpAnyH_ready (rs := [2]) (by kernel_rfl) (by simp) (AllReadyH.cons rfl (fun K hK => ?_) AllReadyH.nil)
    rw [if_pos (by kernel_rfl)]
    go_simp
    (obtain ⟨hA, hB, hC⟩ := HKEEP.out); go_at_call 52; refine (HSN.out _ _ hA.sl).mono ?_; (rintro e w_x ⟨rfl, hbx⟩); (have HK2 := hide (And.intro (hA.below hbx) (And.intro (hB.below hbx) (hC.trans (hbx.mono hC.size))))); (clear hA hB hC hbx HKEEP); (have HKEEP := HK2); clear HK2
    refine hK.out _ _ ?_ (fun hHeld => ?_)
    · exact HKEEP.out
    clear hK K
    (try simp only [Act.put]); (try simp only [List.setIfInBounds_toArray]); (try simp only [List.set_cons_zero]); (try simp only [List.set_cons_succ])
    refine wpAnyH_take (i := 3) (v := ?v3a) rfl (by kernel_rfl) (by kernel_rfl) (by kernel_rfl) (fun _ _ _ h => h) (Or.inl ⟨by kernel_rfl, ?hy3a⟩) (by assumption) ?rest3a
    case hy3a => ((intro wS hSw); (obtain ⟨hSa, hSb, -⟩ := hSw); (obtain ⟨p0, p1, p2, p3, p4⟩ := hSa.box.cells); (obtain ⟨q0, q1, q2, q3, q4⟩ := hSb.box.cells); (go_simp); (try with_reducible rfl))
    change wpAnyH _ _ _ _ _ _ _ (Act.put _ (some 36) _) _
    (try simp only [Act.put]); (try simp only [List.setIfInBounds_toArray]); (try simp only [List.set_cons_zero]); (try simp only [List.set_cons_succ])
    refine wpAnyH_take (i := 4) (v := ?v4a) rfl (by kernel_rfl) (by kernel_rfl) (by kernel_rfl) (fun _ _ _ h => h) (Or.inl ⟨by kernel_rfl, ?hy4a⟩) (by assumption) ?rest4a
    case hy4a => ((intro wS hSw); (obtain ⟨hSa, hSb, -⟩ := hSw); (obtain ⟨p0, p1, p2, p3, p4⟩ := hSa.box.cells); (obtain ⟨q0, q1, q2, q3, q4⟩ := hSb.box.cells); (go_simp); (try with_reducible rfl))
    change wpAnyH _ _ _ _ _ _ _ (Act.put _ (some 37) _) _
    (try simp only [Act.put]); (try simp only [List.setIfInBounds_toArray]); (try simp only [List.set_cons_zero]); (try simp only [List.set_cons_succ])
    refine wpAnyH_take (i := 5) (v := ?v5a) rfl (by kernel_rfl) (by kernel_rfl) (by kernel_rfl) (fun _ _ _ h => h) (Or.inl ⟨by kernel_rfl, ?hy5a⟩) (by assumption) ?rest5a
    case hy5a => ((intro wS hSw); (obtain ⟨hSa, hSb, -⟩ := hSw); (obtain ⟨p0, p1, p2, p3, p4⟩ := hSa.box.cells); (obtain ⟨q0, q1, q2, q3, q4⟩ := hSb.box.cells); (go_simp); (try with_reducible rfl))
    change wpAnyH _ _ _ _ _ _ _ (Act.put _ (some 38) _) _
    (try simp only [Act.put]); (try simp only [List.setIfInBounds_toArray]); (try simp only [List.set_cons_zero]); (try simp only [List.set_cons_succ])
    refine wpAnyH_take (i := 7) (v := ?v7a) rfl (by kernel_rfl) (by kernel_rfl) (by kernel_rfl) (fun _ _ _ h => h) (Or.inl ⟨by kernel_rfl, ?hy7a⟩) (by assumption) ?rest7a
    case hy7a => ((intro wS hSw); (obtain ⟨hSa, hSb, -⟩ := hSw); (obtain ⟨p0, p1, p2, p3, p4⟩ := hSa.box.cells); (obtain ⟨q0, q1, q2, q3, q4⟩ := hSb.box.cells); (go_simp); (try with_reducible rfl))
    change wpAnyH _ _ _ _ _ _ _ (Act.put _ (some 40) _) _
    (try simp only [Act.put]); (try simp only [List.setIfInBounds_toArray]); (try simp only [List.set_cons_zero]); (try simp only [List.set_cons_succ])
    refine wpAnyH_ready (rs := [6]) (by kernel_rfl) (by simp) (AllReadyH.cons rfl (fun K hK => ?_) AllReadyH.nil)
    rw [if_pos (by kernel_rfl)]
    go_simp
    (obtain ⟨hA, hB, hC⟩ := HKEEP.out); go_at_call 38; refine (HIVX.out _ _ hB.sl).mono ?_; (rintro e w_x ⟨rfl, hbx⟩); (have HK2 := hide (And.intro (hA.below hbx) (And.intro (hB.below hbx) (hC.trans (hbx.mono hC.size))))); (clear hA hB hC hbx HKEEP); (have HKEEP := HK2); clear HK2
    refine hK.out _ _ ?_ (fun hHeld => ?_)
    · exact HKEEP.out
    clear hK K
    (try simp only [Act.put]); (try simp only [List.setIfInBounds_toArray]); (try simp only [List.set_cons_zero]); (try simp only [List.set_cons_succ])
    refine wpAnyH_ready (rs := [8]) (by kernel_rfl) (by simp) (AllReadyH.cons rfl (fun K hK => ?_) AllReadyH.nil)
    rw [if_pos (by kernel_rfl)]
    go_simp
    (obtain ⟨hA, hB, hC⟩ := HKEEP.out); go_at_call 49; refine (HSVX.out _ _ hB.sl).mono ?_; (rintro e w_x ⟨rfl, hbx⟩); (have HK2 := hide (And.intro (hA.below hbx) (And.intro (hB.below hbx) (hC.trans (hbx.mono hC.size))))); (clear hA hB hC hbx HKEEP); (have HKEEP := HK2); clear HK2
    refine hK.out _ _ ?_ (fun hHeld => ?_)
    · exact HKEEP.out
    clear hK K
    (try simp only [Act.put]); (try simp only [List.setIfInBounds_toArray]); (try simp only [List.set_cons_zero]); (try simp only [List.set_cons_succ])
    refine wpAnyH_take (i := 9) (v := ?v9a) rfl (by kernel_rfl) (by kernel_rfl) (by kernel_rfl) (fun _ _ _ h => h) (Or.inl ⟨by kernel_rfl, ?hy9a⟩) (by assumption) ?rest9a
    case hy9a => ((intro wS hSw); (obtain ⟨hSa, hSb, -⟩ := hSw); (obtain ⟨p0, p1, p2, p3, p4⟩ := hSa.box.cells); (obtain ⟨q0, q1, q2, q3, q4⟩ := hSb.box.cells); (go_simp); (try with_reducible rfl))
    change wpAnyH _ _ _ _ _ _ _ (Act.put _ (some 42) _) _
    (try simp only [Act.put]); (try simp only [List.setIfInBounds_toArray]); (try simp only [List.set_cons_zero]); (try simp only [List.set_cons_succ])
    refine wpAnyH_take (i := 10) (v := ?v10a) rfl (by kernel_rfl) (by kernel_rfl) (by kernel_rfl) (fun _ _ _ h => h) (Or.inl ⟨by kernel_rfl, ?hy10a⟩) (by assumption) ?rest10a
    case hy10a => ((intro wS hSw); (obtain ⟨hSa, hSb, -⟩ := hSw); (obtain ⟨p0, p1, p2, p3, p4⟩ := hSa.box.cells); (obtain ⟨q0, q1, q2, q3, q4⟩ := hSb.box.cells); (go_simp); (try with_reducible rfl))
    change wpAnyH _ _ _ _ _ _ _ (Act.put _ (some 43) _) _
    (try simp only [Act.put]); (try simp only [List.setIfInBounds_toArray]); (try simp only [List.set_cons_zero]); (try simp only [List.set_cons_succ])
    refine wpAnyH_take (i := 11) (v := ?v11a) rfl (by kernel_rfl) (by kernel_rfl) (by kernel_rfl) (fun _ _ _ h => h) (Or.inl ⟨by kernel_rfl, ?hy11a⟩) (by assumption) ?rest11a
    case hy11a => ((intro wS hSw); (obtain ⟨hSa, hSb, -⟩ := hSw); (obtain ⟨p0, p1, p2, p3, p4⟩ := hSa.box.cells); (obtain ⟨q0, q1, q2, q3, q4⟩ := hSb.box.cells); (go_simp); (try with_reducible rfl))
    change wpAnyH _ _ _ _ _ _ _ (Act.put _ (some 2) _) _
    (try simp only [Act.put]); (try simp only [List.setIfInBounds_toArray]); (try simp only [List.set_cons_zero]); (try simp only [List.set_cons_succ])
    refine wpAnyH_done (by kernel_rfl) ?_ _
    have HBF := hide HKEEP.out.2.2
    go_wp2_with fail
    go_ret
    exact ⟨by simp, HBF.out⟩
  | true =>
    obtain ⟨y0, y1, y2, y3, y4⟩ := HX.out.box.cells
    have ly := HX.out.lt
    go_wp2_with fail
    refine (HSVX.out w5 _ HX.out.sl).mono ?_
    rintro e w6 ⟨rfl, hbq⟩
    have HB6 := hide (HB.out.trans (hbq.mono HB.out.size))
    have HNx := hide (HN.out.below hbq)
    clear HN
    have HN := HNx
    clear HNx
    have HXx := hide (HX.out.below hbq)
    clear HX
    have HX := HXx
    clear HXx
    clear hbq HB
    clear y0 y1 y2 y3 y4 ly
    have HB := HB6
    clear HB6
    cases hox : okN 2 ⟨#[66]⟩ ⟨#[67]⟩ 0 KX with
    | false =>
      rw [hox] at HIVX HSVX
      have HKEEP := hide (And.intro HN.out (And.intro HX.out HB.out))
      clear HN HX HB
      go_upto_region 7 with fail
      refine wp_region_held_drew (S := (fun w' => Nv w' b3 g (.slice ga g.kids.len gc) ∧ Nv w' b5 (⟨2, ⟨#[66]⟩, ⟨#[67]⟩, 0, KX⟩ : Nd) (.slice xa 1 1) ∧ Below w.heap.size w w')) (by kernel_rfl) ?_ (fun hHeld => ?_)
      · exact ⟨HKEEP.out.1.drew, HKEEP.out.2.1.drew, HKEEP.out.2.2.drew⟩
      have HKEEP := hide hHeld
      refine wpAnyH_take (i := 0) (v := ?v0b) rfl (by kernel_rfl) (by kernel_rfl) (by kernel_rfl) (fun _ _ _ h => h) (Or.inl ⟨by kernel_rfl, ?hy0b⟩) (by assumption) ?rest0b
      case hy0b => ((intro wS hSw); (obtain ⟨hSa, hSb, -⟩ := hSw); (obtain ⟨p0, p1, p2, p3, p4⟩ := hSa.box.cells); (obtain ⟨q0, q1, q2, q3, q4⟩ := hSb.box.cells); (go_simp); (try with_reducible rfl))
      change wpAnyH _ _ _ _ _ _ _ (Act.put _ (some 33) _) _
      (try simp only [Act.put]); (try simp only [List.setIfInBounds_toArray]); (try simp only [List.set_cons_zero]); (try simp only [List.set_cons_succ])
      refine wpAnyH_take (i := 1) (v := ?v1b) rfl (by kernel_rfl) (by kernel_rfl) (by kernel_rfl) (fun _ _ _ h => h) (Or.inl ⟨by kernel_rfl, ?hy1b⟩) (by assumption) ?rest1b
      case hy1b => ((intro wS hSw); (obtain ⟨hSa, hSb, -⟩ := hSw); (obtain ⟨p0, p1, p2, p3, p4⟩ := hSa.box.cells); (obtain ⟨q0, q1, q2, q3, q4⟩ := hSb.box.cells); (go_simp); (try with_reducible rfl))
      change wpAnyH _ _ _ _ _ _ _ (Act.put _ (some 34) _) _
      (try simp only [Act.put]); (try simp only [List.setIfInBounds_toArray]); (try simp only [List.set_cons_zero]); (try simp only [List.set_cons_succ])
      refine wpAnyH_ready (rs := [2]) (by kernel_rfl) (by simp) (AllReadyH.cons rfl (fun K hK => ?_) AllReadyH.nil)
      rw [if_pos (by kernel_rfl)]
      go_simp
      (obtain ⟨hA, hB, hC⟩ := HKEEP.out); go_at_call 52; refine (HSN.out _ _ hA.sl).mono ?_; (rintro e w_x ⟨rfl, hbx⟩); (have HK2 := hide (And.intro (hA.below hbx) (And.intro (hB.below hbx) (hC.trans (hbx.mono hC.size))))); (clear hA hB hC hbx HKEEP); (have HKEEP := HK2); clear HK2
      refine hK.out _ _ ?_ (fun hHeld => ?_)
      · exact HKEEP.out
      clear hK K
      (try simp only [Act.put]); (try simp only [List.setIfInBounds_toArray]); (try simp only [List.set_cons_zero]); (try simp only [List.set_cons_succ])
      refine wpAnyH_take (i := 3) (v := ?v3b) rfl (by kernel_rfl) (by kernel_rfl) (by kernel_rfl) (fun _ _ _ h => h) (Or.inl ⟨by kernel_rfl, ?hy3b⟩) (by assumption) ?rest3b
      case hy3b => ((intro wS hSw); (obtain ⟨hSa, hSb, -⟩ := hSw); (obtain ⟨p0, p1, p2, p3, p4⟩ := hSa.box.cells); (obtain ⟨q0, q1, q2, q3, q4⟩ := hSb.box.cells); (go_simp); (try with_reducible rfl))
      change wpAnyH _ _ _ _ _ _ _ (Act.put _ (some 36) _) _
      (try simp only [Act.put]); (try simp only [List.setIfInBounds_toArray]); (try simp only [List.set_cons_zero]); (try simp only [List.set_cons_succ])
      refine wpAnyH_take (i := 4) (v := ?v4b) rfl (by kernel_rfl) (by kernel_rfl) (by kernel_rfl) (fun _ _ _ h => h) (Or.inl ⟨by kernel_rfl, ?hy4b⟩) (by assumption) ?rest4b
      case hy4b => ((intro wS hSw); (obtain ⟨hSa, hSb, -⟩ := hSw); (obtain ⟨p0, p1, p2, p3, p4⟩ := hSa.box.cells); (obtain ⟨q0, q1, q2, q3, q4⟩ := hSb.box.cells); (go_simp); (try with_reducible rfl))
      change wpAnyH _ _ _ _ _ _ _ (Act.put _ (some 37) _) _
      (try simp only [Act.put]); (try simp only [List.setIfInBounds_toArray]); (try simp only [List.set_cons_zero]); (try simp only [List.set_cons_succ])
      refine wpAnyH_take (i := 5) (v := ?v5b) rfl (by kernel_rfl) (by kernel_rfl) (by kernel_rfl) (fun _ _ _ h => h) (Or.inl ⟨by kernel_rfl, ?hy5b⟩) (by assumption) ?rest5b
      case hy5b => ((intro wS hSw); (obtain ⟨hSa, hSb, -⟩ := hSw); (obtain ⟨p0, p1, p2, p3, p4⟩ := hSa.box.cells); (obtain ⟨q0, q1, q2, q3, q4⟩ := hSb.box.cells); (go_simp); (try with_reducible rfl))
      change wpAnyH _ _ _ _ _ _ _ (Act.put _ (some 38) _) _
      (try simp only [Act.put]); (try simp only [List.setIfInBounds_toArray]); (try simp only [List.set_cons_zero]); (try simp only [List.set_cons_succ])
      refine wpAnyH_take (i := 7) (v := ?v7b) rfl (by kernel_rfl) (by kernel_rfl) (by kernel_rfl) (fun _ _ _ h => h) (Or.inl ⟨by kernel_rfl, ?hy7b⟩) (by assumption) ?rest7b
      case hy7b => ((intro wS hSw); (obtain ⟨hSa, hSb, -⟩ := hSw); (obtain ⟨p0, p1, p2, p3, p4⟩ := hSa.box.cells); (obtain ⟨q0, q1, q2, q3, q4⟩ := hSb.box.cells); (go_simp); (try with_reducible rfl))
      change wpAnyH _ _ _ _ _ _ _ (Act.put _ (some 40) _) _
      (try simp only [Act.put]); (try simp only [List.setIfInBounds_toArray]); (try simp only [List.set_cons_zero]); (try simp only [List.set_cons_succ])
      refine wpAnyH_ready (rs := [6]) (by kernel_rfl) (by simp) (AllReadyH.cons rfl (fun K hK => ?_) AllReadyH.nil)
      rw [if_pos (by kernel_rfl)]
      go_simp
      (obtain ⟨hA, hB, hC⟩ := HKEEP.out); go_at_call 38; refine (HIVX.out _ _ hB.sl).mono ?_; (rintro e w_x ⟨rfl, hbx⟩); (have HK2 := hide (And.intro (hA.below hbx) (And.intro (hB.below hbx) (hC.trans (hbx.mono hC.size))))); (clear hA hB hC hbx HKEEP); (have HKEEP := HK2); clear HK2
      refine hK.out _ _ ?_ (fun hHeld => ?_)
      · exact HKEEP.out
      clear hK K
      (try simp only [Act.put]); (try simp only [List.setIfInBounds_toArray]); (try simp only [List.set_cons_zero]); (try simp only [List.set_cons_succ])
      refine wpAnyH_ready (rs := [8]) (by kernel_rfl) (by simp) (AllReadyH.cons rfl (fun K hK => ?_) AllReadyH.nil)
      rw [if_pos (by kernel_rfl)]
      go_simp
      (obtain ⟨hA, hB, hC⟩ := HKEEP.out); go_at_call 49; refine (HSVX.out _ _ hB.sl).mono ?_; (rintro e w_x ⟨rfl, hbx⟩); (have HK2 := hide (And.intro (hA.below hbx) (And.intro (hB.below hbx) (hC.trans (hbx.mono hC.size))))); (clear hA hB hC hbx HKEEP); (have HKEEP := HK2); clear HK2
      refine hK.out _ _ ?_ (fun hHeld => ?_)
      · exact HKEEP.out
      clear hK K
      (try simp only [Act.put]); (try simp only [List.setIfInBounds_toArray]); (try simp only [List.set_cons_zero]); (try simp only [List.set_cons_succ])
      refine wpAnyH_take (i := 9) (v := ?v9b) rfl (by kernel_rfl) (by kernel_rfl) (by kernel_rfl) (fun _ _ _ h => h) (Or.inl ⟨by kernel_rfl, ?hy9b⟩) (by assumption) ?rest9b
      case hy9b => ((intro wS hSw); (obtain ⟨hSa, hSb, -⟩ := hSw); (obtain ⟨p0, p1, p2, p3, p4⟩ := hSa.box.cells); (obtain ⟨q0, q1, q2, q3, q4⟩ := hSb.box.cells); (go_simp); (try with_reducible rfl))
      change wpAnyH _ _ _ _ _ _ _ (Act.put _ (some 42) _) _
      (try simp only [Act.put]); (try simp only [List.setIfInBounds_toArray]); (try simp only [List.set_cons_zero]); (try simp only [List.set_cons_succ])
      refine wpAnyH_take (i := 10) (v := ?v10b) rfl (by kernel_rfl) (by kernel_rfl) (by kernel_rfl) (fun _ _ _ h => h) (Or.inl ⟨by kernel_rfl, ?hy10b⟩) (by assumption) ?rest10b
      case hy10b => ((intro wS hSw); (obtain ⟨hSa, hSb, -⟩ := hSw); (obtain ⟨p0, p1, p2, p3, p4⟩ := hSa.box.cells); (obtain ⟨q0, q1, q2, q3, q4⟩ := hSb.box.cells); (go_simp); (try with_reducible rfl))
      change wpAnyH _ _ _ _ _ _ _ (Act.put _ (some 43) _) _
      (try simp only [Act.put]); (try simp only [List.setIfInBounds_toArray]); (try simp only [List.set_cons_zero]); (try simp only [List.set_cons_succ])
      refine wpAnyH_take (i := 11) (v := ?v11b) rfl (by kernel_rfl) (by kernel_rfl) (by kernel_rfl) (fun _ _ _ h => h) (Or.inl ⟨by kernel_rfl, ?hy11b⟩) (by assumption) ?rest11b
      case hy11b => ((intro wS hSw); (obtain ⟨hSa, hSb, -⟩ := hSw); (obtain ⟨p0, p1, p2, p3, p4⟩ := hSa.box.cells); (obtain ⟨q0, q1, q2, q3, q4⟩ := hSb.box.cells); (go_simp); (try with_reducible rfl))
      change wpAnyH _ _ _ _ _ _ _ (Act.put _ (some 2) _) _
      (try simp only [Act.put]); (try simp only [List.setIfInBounds_toArray]); (try simp only [List.set_cons_zero]); (try simp only [List.set_cons_succ])
      refine wpAnyH_done (by kernel_rfl) ?_ _
      have HBF := hide HKEEP.out.2.2
      go_wp2_with fail
      go_ret
      exact ⟨rfl, HBF.out⟩
    | true =>
      rw [hox] at HIVX HSVX
      have hx1 := hNX.out hox
      have hg1 := hNG.out hok
      have hk1 := HKS.out
      have hnn : (NX : Int) = (NG : Int) + 1 := by omega
      have hnb : ((NX : Int) == (NG : Int) + 1) = true := by rw [hnn]; simp
      have HIS := hide (fun (W : World) (sv : Value) (hs : Sl W sv KX) => implStep W (⟨2, ⟨#[66]⟩, ⟨#[67]⟩, 0, KX⟩ : Nd) sv ⟨#[98]⟩ hs (fit_closed (okG_w (g := (⟨2, ⟨#[66]⟩, ⟨#[67]⟩, 0, KX⟩ : Nd)) hox).1))
      rw [show stepR (⟨2, ⟨#[66]⟩, ⟨#[67]⟩, 0, KX⟩ : Nd) ⟨#[98]⟩ = g by unfold stepR; rw [pre_step HKX.out hox]; rfl, show stepOk (⟨2, ⟨#[66]⟩, ⟨#[67]⟩, 0, KX⟩ : Nd) ⟨#[98]⟩ = true by unfold stepOk; rw [pre_step HKX.out hox]; rfl] at HIS
      obtain ⟨M, hM, hM3, hMB⟩ := pre_roles hox
      have HRX := hide (fun (W : World) (sv : Value) (hs : Sl W sv KX) => implRoles W 2 0 ⟨#[66]⟩ ⟨#[67]⟩ sv KX hs)
      rw [hM] at HRX
      have HWC := hide (fun (W : World) => wpc_calls M hM3 66 W)
      rw [hMB] at HWC
      have HSG : Hid (g.kids.sz ≤ 1048576) := hide (by have := HSZ.out; omega)
      clear hx1 hg1 hk1 hM hMB
      obtain ⟨y0, y1, y2, y3, y4⟩ := HX.out.box.cells
      have ly := HX.out.lt
      go_wp2_with fail
      refine (HIS.out w6 _ HX.out.sl).mono ?_
      rintro e w7 ⟨v, vbs, rfl, how, -, -, hb⟩
      obtain ⟨va, vc, rfl⟩ := how.val
      have HNv := hide (Nv.now how ( /- t -/ 39))
      have HB7 := hide ((HB.out.trans (hb.mono HB.out.size)).alloc (Nat.le_trans HB.out.size hb.size) (.cells #[.int .i64 g.k, .string g.fr, .string g.tg, .int .i64 g.ix, .slice va g.kids.len vc] ( /- t -/ 39)))
      have HNa := hide ((HN.out.below hb).below (alloc_below w7 (.cells #[.int .i64 g.k, .string g.fr, .string g.tg, .int .i64 g.ix, .slice va g.kids.len vc] ( /- t -/ 39))))
      have HXa := hide ((HX.out.below hb).below (alloc_below w7 (.cells #[.int .i64 g.k, .string g.fr, .string g.tg, .int .i64 g.ix, .slice va g.kids.len vc] ( /- t -/ 39))))
      clear how hb HN HX HB y0 y1 y2 y3 y4 ly
      go_upto_region 9 with fail
      generalize w7.alloc (.cells #[.int .i64 g.k, .string g.fr, .string g.tg, .int .i64 g.ix, .slice va g.kids.len vc] ( /- t -/ 39)) = W7 at *
      generalize w7.heap.size = b7 at *
      have HN := HNa
      have HX := HXa
      clear HNa HXa
      obtain ⟨y0, y1, y2, y3, y4⟩ := HX.out.box.cells
      have ly := HX.out.lt
      go_wp2_with fail
      refine (HIVX.out W7 _ HX.out.sl).mono ?_
      rintro e w8 ⟨rfl, hbq⟩
      have HB8 := hide (HB7.out.trans (hbq.mono HB7.out.size))
      have HNx := hide (HN.out.below hbq)
      clear HN
      have HN := HNx
      clear HNx
      have HXx := hide (HX.out.below hbq)
      clear HX
      have HX := HXx
      clear HXx
      have HNvx := hide (HNv.out.below hbq)
      clear HNv
      have HNv := HNvx
      clear HNvx
      clear hbq HB7
      clear y0 y1 y2 y3 y4 ly
      obtain ⟨y0, y1, y2, y3, y4⟩ := HX.out.box.cells
      have ly := HX.out.lt
      go_wp2_with fail
      refine (HINX.out w8 _ HX.out.sl).mono ?_
      rintro e w9 ⟨rfl, hbq⟩
      have HB9 := hide (HB8.out.trans (hbq.mono HB8.out.size))
      have HNx := hide (HN.out.below hbq)
      clear HN
      have HN := HNx
      clear HNx
      have HXx := hide (HX.out.below hbq)
      clear HX
      have HX := HXx
      clear HXx
      have HNvx := hide (HNv.out.below hbq)
      clear HNv
      have HNv := HNvx
      clear HNvx
      clear hbq HB8
      clear y0 y1 y2 y3 y4 ly
      obtain ⟨v0, v1, v2, v3, v4⟩ := HNv.out.box.cells
      have lv := HNv.out.lt
      obtain ⟨x0, x1, x2, x3, x4⟩ := HN.out.box.cells
      have lx := HN.out.lt
      go_wp2_with fail
      refine (same_self w9 g _ _ HNv.out.own HN.out.own HSG.out).mono ?_
      rintro e w10 ⟨rfl, hbq⟩
      have HB10 := hide (HB9.out.trans (hbq.mono HB9.out.size))
      have HXx := hide (HX.out.below hbq)
      clear HX
      have HX := HXx
      clear HXx
      clear hbq HB9
      clear v0 v1 v2 v3 v4 lv x0 x1 x2 x3 x4 lx
      obtain ⟨y0, y1, y2, y3, y4⟩ := HX.out.box.cells
      have ly := HX.out.lt
      go_wp2_with fail
      refine (HRX.out w10 _ HX.out.sl).mono ?_
      rintro e w11 ⟨rfl, hbq⟩
      have HB11 := hide (HB10.out.trans (hbq.mono HB10.out.size))
      clear hbq HB10
      clear y0 y1 y2 y3 y4 ly
      go_wp2_with fail
      refine (HWC.out w11).mono ?_
      rintro e w12 ⟨rfl, hw12⟩
      subst hw12
      go_wp2_with fail
      go_ret
      exact ⟨rfl, HB11.out⟩

theorem gpr_walk (w : World) (sv : Value) (l : List Nat) (hs : SlG elY w sv l) : Calls Tryd.prog 11 #[sv] w fun e w' => e = .returned (.bool true) ∧ Below w.heap.size w w' := by
  obtain ⟨a, c, rfl, h1, h2, h3⟩ := hs
  by_cases h : l.length ≤ 1048576
  · exact gpr_small w a c l ⟨a, c, rfl, h1, h2, h3⟩ h
  · exact gpr_big w a l.length c (by omega)
end Go.Proofs.YtgcefippeokmcaaDoor
