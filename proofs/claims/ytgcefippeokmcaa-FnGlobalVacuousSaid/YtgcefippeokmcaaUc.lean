/- copyGlobal of the program. -/
import Derived.Test.YtgcefippeokmcaaEv
import Derived.Test.YtgcefippeokmcaaCg
import Derived.Test.YtgcefippeokmcaaTd
import Derived.Test.YtgcefippeokmcaaUz
namespace Go.Proofs.Ytgcefippeokmcaa
open Go.RowKit

/-- What the question for a variable answers. -/
def VarTest (v : Value) (k ix : Int) : Prop :=
  ∀ w, (Instr.typeAssert v ( /- t -/ 68) ( /- t -/ 65) true).run Try.prog w = .ok (.tuple #[.agg #[.int .i64 (if k = 4 then ix else 0)], .bool (decide (k = 4))]) w

theorem node_test (w : World) (k ix : Int) (fr tg : ByteArray) (sv : Value) (kids : F) (hs : Sl w sv kids) (hsh : shapeB k fr tg ix kids = true) :
    Calls Try.prog 37 #[.agg #[.int .i64 k, .string fr, .string tg, .int .i64 ix, sv]] w fun e w' => ∃ v, e = .returned v ∧ VarTest v k ix ∧ Below w.heap.size w w' := by
  by_cases h1 : k = 1
  · subst h1
    obtain ⟨a, b, c, d⟩ := shape_end hsh
    refine (node_end w ix fr tg sv kids hs a b c d).mono ?_
    rintro e w' ⟨rfl, hb⟩
    exact ⟨_, rfl, fun w => taEndVar _ w, hb⟩
  by_cases h2 : k = 2
  · subst h2
    obtain ⟨a, b, c, d, f⟩ := shape_msg hsh
    refine (node_msg w ix fr tg sv kids hs a b c d f).mono ?_
    rintro e w' ⟨rfl, hb⟩
    exact ⟨_, rfl, fun w => taMsgVar _ w, hb⟩
  by_cases h3 : k = 3
  · subst h3
    obtain ⟨a, b, c, lab, k', fr', tg', ix', kids', rfl, hl⟩ := shape_rec hsh
    obtain ⟨ad, cap, rfl, hlen, hat⟩ := hs.at
    obtain ⟨bb, o, rfl, _, _, _, _, _, c0, c1, c2, c3, c4, ⟨sv', c5, _⟩, _⟩ := hat.head
    simp only [Nat.zero_mul, Nat.add_zero] at c0 c1 c2 c3 c4 c5
    refine (node_rec w ix fr tg bb o cap lab k' ix' fr' tg' sv' a b c hl c0 c1 c2 c3 c4 c5).mono ?_
    rintro e w' ⟨rfl, hb⟩
    exact ⟨_, rfl, fun w => taRecVar _ w, hb⟩
  by_cases h4 : k = 4
  · subst h4
    obtain ⟨a, b, c, d⟩ := shape_var hsh
    refine (node_var w ix fr tg sv kids hs a b c d).mono ?_
    rintro e w' ⟨rfl, hb⟩
    exact ⟨_, rfl, fun w => taVarVar _ w, hb⟩
  · simp [shapeB, h1, h2, h3, h4] at hsh

/-- What a copy owes: the node in new memory and its nodes counted, if it keeps the limits; else nothing. -/
def CpPost (c : Nat) (N : Nd) (d : Int) (m : Nat) (w : World) (e : Ending) (w' : World) : Prop :=
  ∃ m' : Nat, Only c w w' ∧ Ctr w' c m' ∧
    ((m + (N.kids.sz + 1) ≤ 400 ∧ d + (hF N.kids : Int) ≤ 40 ∧ m' = m + (N.kids.sz + 1) ∧ ∃ u bs, e = .returned (.tuple #[.agg #[.int .i64 N.k, .string N.fr, .string N.tg, .int .i64 N.ix, u], .bool true]) ∧ Ow w' u N.kids bs ∧ (∀ b, b ∈ bs → w.heap.size ≤ b) ∧ bs.Nodup) ∨
     (¬ (m + (N.kids.sz + 1) ≤ 400 ∧ d + (hF N.kids : Int) ≤ 40) ∧ e = .returned (.tuple #[.agg #[.int .i64 0, .string ⟨#[]⟩, .string ⟨#[]⟩, .int .i64 0, .slice none 0 0], .bool false])))

theorem CpPost.put {c : Nat} {N : Nd} {d : Int} {m m' : Nat} {w w1 : World} {b0 : Nat} {u : Value} {bs : List Nat} (ho : Only c w w1) (hc : Ctr w1 c m') (hb0 : w.heap.size ≤ b0) (hcb : c ≠ b0)
    (h1 : m + (N.kids.sz + 1) ≤ 400) (h2 : d + (hF N.kids : Int) ≤ 40) (h3 : m' = m + (N.kids.sz + 1)) (how : Ow w1 u N.kids bs) (hge : ∀ b, b ∈ bs → b0 < b) (hnd : bs.Nodup) (v0 v1 v2 v3 v4 : Value) :
    CpPost c N d m w (.returned (.tuple #[.agg #[.int .i64 N.k, .string N.fr, .string N.tg, .int .i64 N.ix, u], .bool true])) (((((w1.setCell ⟨b0, 0, none⟩ v0).setCell ⟨b0, 1, none⟩ v1).setCell ⟨b0, 2, none⟩ v2).setCell ⟨b0, 3, none⟩ v3).setCell ⟨b0, 4, none⟩ v4) := by
  refine ⟨m', ?_, ?_, Or.inl ⟨h1, h2, h3, u, bs, rfl, how.same ?_, fun b hb => Nat.le_of_lt (Nat.lt_of_le_of_lt hb0 (hge b hb)), hnd⟩⟩
  · exact ((((ho.setCell (Or.inr hb0) _).setCell (Or.inr hb0) _).setCell (Or.inr hb0) _).setCell (Or.inr hb0) _).setCell (Or.inr hb0) _
  · exact ((((hc.setOther hcb _).setOther hcb _).setOther hcb _).setOther hcb _).setOther hcb _
  · have q : ∀ b, b ∈ bs → b ≠ b0 := fun b hb => Nat.ne_of_gt (hge b hb)
    exact (((((Same.refl _ _).setCell q _).setCell q _).setCell q _).setCell q _).setCell q _
theorem CpPost.no {c : Nat} {N : Nd} {d : Int} {m m' : Nat} {w w1 : World} {b0 : Nat} (ho : Only c w w1) (hc : Ctr w1 c m') (hb0 : w.heap.size ≤ b0) (hcb : c ≠ b0)
    (h : ¬ (m + (N.kids.sz + 1) ≤ 400 ∧ d + (hF N.kids : Int) ≤ 40)) (v0 v1 v2 v3 v4 : Value) :
    CpPost c N d m w (.returned (.tuple #[.agg #[.int .i64 0, .string ⟨#[]⟩, .string ⟨#[]⟩, .int .i64 0, .slice none 0 0], .bool false])) (((((w1.setCell ⟨b0, 0, none⟩ v0).setCell ⟨b0, 1, none⟩ v1).setCell ⟨b0, 2, none⟩ v2).setCell ⟨b0, 3, none⟩ v3).setCell ⟨b0, 4, none⟩ v4) := by
  refine ⟨m', ?_, ?_, Or.inr ⟨h, rfl⟩⟩
  · exact ((((ho.setCell (Or.inr hb0) _).setCell (Or.inr hb0) _).setCell (Or.inr hb0) _).setCell (Or.inr hb0) _).setCell (Or.inr hb0) _
  · exact ((((hc.setOther hcb _).setOther hcb _).setOther hcb _).setOther hcb _).setOther hcb _

def CpAt (q n : Nat) : Prop := ∀ (W0 w : World) (c m : Nat) (d k ix : Int) (fr tg : ByteArray) (sv ev : Value) (kids : F) (s : List (Option Nd)), kids.sz < n → puts s = q → Below W0.heap.size W0 w → W0.heap.size ≤ c → Ctr w c m → m ≤ 400 → 1 ≤ d → d ≤ 41 →
  EnvIs W0 w c s ev → GoodS s → s.length + hF kids ≤ 500 → wN ⟨k, fr, tg, ix, kids⟩ (s.length : Int) 0 = true → Fit ⟨k, fr, tg, ix, kids⟩ → Sl W0 sv kids →
  Calls Try.prog 18 #[.agg #[.int .i64 k, .string fr, .string tg, .int .i64 ix, sv], ev, .int .i64 d, .pointer (some ⟨c, 0, none⟩)] w (CpPost c (cpN (vals s) ⟨k, fr, tg, ix, kids⟩) d m w)

/-- The closure over a recursion. -/
def CloOk (W0 : World) (c : Nat) (R : Nd) (t : List (Option Nd)) : Prop := ∀ (w : World) (m : Nat) (d : Int) (rb ob : Nat) (sv ov : Value), Below W0.heap.size W0 w → Ctr w c m → m ≤ 400 → 1 ≤ d → d ≤ 41 →
  Cell5 w rb R sv → Sl W0 sv R.kids → Fit R → w.cell? ⟨ob, 0, none⟩ = some ov → EnvIs W0 w c t ov →
  Calls Try.prog 17 #[.int .i64 d, .pointer (some ⟨rb, 0, none⟩), .pointer (some ⟨ob, 0, none⟩), .pointer (some ⟨c, 0, none⟩)] w (CpPost c (cpN (vals t) R) d m w)

set_option maxHeartbeats 1000000 in
set_option maxRecDepth 100000 in
theorem clo_calls (W0 : World) (c q : Nat) (R : Nd) (t : List (Option Nd)) (hc0 : W0.heap.size ≤ c) (hq : ∀ n, CpAt q n) (hp : puts t = q) (hg : GoodS t) (hh : t.length + hF R.kids ≤ 500) (hw : wN R (t.length : Int) 0 = true) : CloOk W0 c R t := by
  intro w m d rb ob sv ov hb hc hm hd1 hd2 hr hs hf ho he
  have hb1 := alloc_below w (.cells #[.int .i64 0, .string ⟨#[]⟩, .string ⟨#[]⟩, .int .i64 0, .slice none 0 0] ( /- t -/ 25))
  have HCALL : Hid (Calls Try.prog 18 #[.agg #[.int .i64 R.k, .string R.fr, .string R.tg, .int .i64 R.ix, sv], ov, .int .i64 d, .pointer (some ⟨c, 0, none⟩)] (w.alloc (.cells #[.int .i64 0, .string ⟨#[]⟩, .string ⟨#[]⟩, .int .i64 0, .slice none 0 0] ( /- t -/ 25))) (CpPost c (cpN (vals t) R) d m (w.alloc (.cells #[.int .i64 0, .string ⟨#[]⟩, .string ⟨#[]⟩, .int .i64 0, .slice none 0 0] ( /- t -/ 25))))) :=
    hide (hq (R.kids.sz + 1) W0 _ c m d R.k R.ix R.fr R.tg sv ov R.kids t (Nat.lt_succ_self _) hp (hb.trans (hb1.mono hb.size)) hc0 (hc.alloc _) hm hd1 hd2 (he.still (Still.of_below hb1)) hg hh hw hf hs)
  obtain ⟨r0, r1, r2, r3, r4⟩ := hr
  have hrl := World.block_lt_of_cell? _ _ r0
  have hol := World.block_lt_of_cell? _ _ ho
  have HZ := hide (Box5.now w (.int .i64 0) (.string ⟨#[]⟩) (.string ⟨#[]⟩) (.int .i64 0) (.slice none 0 0) ( /- t -/ 25))
  have hcl := hc.lt
  have HC := hide hc
  clear hq hp hg hh hw hb hc hs hf he hb1 hm hd1 hd2
  go_enter Try.func17, Try.ntmps17
  go_wp2_with fail
  refine HCALL.out.mono ?_
  rintro e w1 ⟨m', ho1, hc1, hcase⟩
  have hz1 : Box5 w1 w.heap.size (.int .i64 0) (.string ⟨#[]⟩) (.string ⟨#[]⟩) (.int .i64 0) (.slice none 0 0) := HZ.out.same (ho1.block _ (by simp) (by omega))
  obtain ⟨z0, z1, z2, z3, z4⟩ := hz1.cells
  have fz := hz1.frozen
  have hzl := hz1.lt
  have HO := hide ho1
  have HC1 := hide hc1
  clear ho1 hc1 hz1
  rcases hcase with ⟨h1, h2, h3, u, bs, rfl, how, hge, hnd⟩ | ⟨h1, rfl⟩
  · obtain ⟨ua, uc, rfl⟩ := how.val
    have HW := hide how
    have HG := hide hge
    have HH := hide (And.intro h1 (And.intro h2 h3))
    clear how hge h1 h2 h3
    go_wp2_with fail
    refine bodyPost_ret (v := .tuple #[.agg #[.int .i64 (cpN (vals t) R).k, .string (cpN (vals t) R).fr, .string (cpN (vals t) R).tg, .int .i64 (cpN (vals t) R).ix, .slice ua (cpN (vals t) R).kids.len uc], .bool true]) (by simp [results, Try.results17, go_sem, *]) rfl ?_
    exact CpPost.put (((Only.refl c w).alloc _).trans HO.out) HC1.out (Nat.le_refl _) (by omega) HH.out.1 HH.out.2.1 HH.out.2.2 HW.out (fun b hb => by have := HG.out b hb; simp at this; omega) hnd _ _ _ _ _
  · go_wp2_with fail
    refine bodyPost_ret (v := .tuple #[.agg #[.int .i64 0, .string ⟨#[]⟩, .string ⟨#[]⟩, .int .i64 0, .slice none 0 0], .bool false]) (by simp [results, Try.results17, go_sem, *]) rfl ?_
    exact CpPost.no (((Only.refl c w).alloc _).trans HO.out) HC1.out (Nat.le_refl _) (by omega) h1 _ _ _ _ _

theorem clo_some (rb ob c : Nat) (w : World) : (binOp .neq ( /- t -/ 70) (.func (.func ( /- f -/ 17)) #[] #[.pointer (some ⟨rb, 0, none⟩), .pointer (some ⟨ob, 0, none⟩), .pointer (some ⟨c, 0, none⟩)]) .nilFunc).run Try.prog w = .ok (.bool true) w := by kernel_rfl
theorem clo_none (w : World) : (binOp .neq ( /- t -/ 70) .nilFunc .nilFunc).run Try.prog w = .ok (.bool false) w := by kernel_rfl

set_option maxHeartbeats 2000000 in
set_option maxRecDepth 100000 in
/-- A variable that is replaced. -/
theorem cp_put (W0 w : World) (c m : Nat) (d : Int) (i : Nat) (fr tg : ByteArray) (sv : Value) (kids : F) (n b cap T : Nat) (hb : Below W0.heap.size W0 w) (hc : Ctr w c m) (hm : m ≤ 400) (hd1 : 1 ≤ d) (hd2 : d ≤ 41)
    (hsh : shapeB 4 fr tg (i : Int) kids = true) (hs : Sl W0 sv kids) (R : Nd) (t : List (Option Nd)) (hclo : CloOk W0 c R t) (hn : n = i + 1 + T) (hnb : n ≤ 1000)
    (rb ob : Nat) (rv ov : Value) (c0 : w.cell? ⟨b, T, none⟩ = some (cloV rb ob c)) (c1 : Cell5 w rb R rv) (c2 : Sl W0 rv R.kids) (c3 : Fit R) (c4 : w.cell? ⟨ob, 0, none⟩ = some ov) (c5 : EnvIs W0 w c t ov) :
    Calls Try.prog 18 #[.agg #[.int .i64 4, .string fr, .string tg, .int .i64 i, sv], .slice (some ⟨b, 0, none⟩) n cap, .int .i64 d, .pointer (some ⟨c, 0, none⟩)] w (CpPost c (cpN (vals t) R) d m w) := by
  have hbA := (alloc_below w (.cells #[.int .i64 4, .string fr, .string tg, .int .i64 i, sv] ( /- t -/ 25))).alloc (by simp) (.cells #[.int .i64 0, .string ⟨#[]⟩, .string ⟨#[]⟩, .int .i64 0, .slice none 0 0] ( /- t -/ 25))
  have hz0 := Box5.now (w.alloc (.cells #[.int .i64 4, .string fr, .string tg, .int .i64 i, sv] ( /- t -/ 25))) (.int .i64 0) (.string ⟨#[]⟩) (.string ⟨#[]⟩) (.int .i64 0) (.slice none 0 0) ( /- t -/ 25)
  rw [show (w.alloc (.cells #[.int .i64 4, .string fr, .string tg, .int .i64 i, sv] ( /- t -/ 25))).heap.size = w.heap.size + 1 from by simp] at hz0
  have HZ := hide hz0
  clear hz0
  have hcl := hc.lt
  have hbl := World.block_lt_of_cell? _ _ c0
  have hix : (n : Int) - 1 - (i : Int) = (T : Int) := by omega
  have hTn : T < n := by omega
  have hTn2 : (T : Int) < (n : Int) := by omega
  have HH := hide (And.intro hb (And.intro hc (And.intro hsh (And.intro hs (And.intro hclo (And.intro c1 (And.intro c2 (And.intro c3 (And.intro c4 c5)))))))))
  have HC0 := hide c0
  have HBA := hide hbA
  have HN := hide hn
  clear hb hc hsh hs hclo c1 c2 c3 c4 c5 c0 hbA hn
  go_enter Try.func18, Try.ntmps18
  go_wp2_with fail
  generalize (w.alloc (.cells #[.int .i64 4, .string fr, .string tg, .int .i64 i, sv] ( /- t -/ 25))).alloc (.cells #[.int .i64 0, .string ⟨#[]⟩, .string ⟨#[]⟩, .int .i64 0, .slice none 0 0] ( /- t -/ 25)) = W at *
  refine (node_test W 4 i fr tg sv kids ((HH.out.2.2.2.1.still (Still.of_below HH.out.1)).still (Still.of_below HBA.out)) HH.out.2.2.1).mono ?_
  rintro e w1 ⟨v, rfl, hv, hb1⟩
  have hB1 := HBA.out.trans (hb1.mono HBA.out.size)
  have c0 : w1.cell? ⟨b, T, none⟩ = some (cloV rb ob c) := Still.of_below hB1 _ _ HC0.out
  unfold cloV at c0
  have hbl1 := World.block_lt_of_cell? _ _ c0
  have HB1 := hide hB1
  have HBB := hide hb1
  have hta : ∀ w, (Instr.typeAssert v ( /- t -/ 68) ( /- t -/ 65) true).run Try.prog w = .ok (.tuple #[.agg #[.int .i64 (i : Int)], .bool true]) w := fun w => by simpa using hv w
  have hcs := clo_some rb ob c
  have hwl : w.heap.size + 1 < W.heap.size := HZ.out.lt
  clear hb1 hB1 hv
  go_wp2_with fail
  have hB2 := HB1.out.alloc HB1.out.size (.cells #[.int .i64 (i : Int)] ( /- t -/ 65))
  have hst := Still.of_below hB2
  obtain ⟨hb, hc, -, -, hclo, c1, c2, c3, c4, c5⟩ := HH.out
  refine (hclo _ m d rb ob rv ov (hb.trans (hB2.mono hb.size)) (hc.below hB2) hm hd1 hd2 ⟨hst _ _ c1.1, hst _ _ c1.2.1, hst _ _ c1.2.2.1, hst _ _ c1.2.2.2.1, hst _ _ c1.2.2.2.2⟩ c2 c3 (hst _ _ c4) (c5.still hst)).mono ?_
  rintro e w3 ⟨m', ho3, hc3, hcase⟩
  have hw1 := HBB.out.size
  have hz3 : Box5 w3 (w.heap.size + 1) (.int .i64 0) (.string ⟨#[]⟩) (.string ⟨#[]⟩) (.int .i64 0) (.slice none 0 0) := ((HZ.out.below HBB.out).below (alloc_below _ _)).same (ho3.block _ (by simp; omega) (by omega))
  obtain ⟨z0, z1, z2, z3, z4⟩ := hz3.cells
  have fz := hz3.frozen
  have hzl := hz3.lt
  have HO := hide (((Only.refl c w).below hB2).trans ho3)
  have HC3 := hide hc3
  have hs3 : (w1.alloc (.cells #[.int .i64 (i : Int)] ( /- t -/ 65))).heap.size = w1.heap.size + 1 := by simp
  clear hB2 hst hb hc hclo c1 c2 c3 c4 c5 ho3 hc3 hz3 c0 hcs hta
  rcases hcase with ⟨h1, h2, h3, u, bs, rfl, how, hge, hnd⟩ | ⟨h1, rfl⟩
  · obtain ⟨ua, uc, rfl⟩ := how.val
    rw [hs3] at hge
    have HW := hide how
    have HG := hide hge
    have HE := hide (And.intro h1 (And.intro h2 h3))
    clear how hge h1 h2 h3 hs3
    go_wp2_with fail
    refine bodyPost_ret (v := .tuple #[.agg #[.int .i64 (cpN (vals t) R).k, .string (cpN (vals t) R).fr, .string (cpN (vals t) R).tg, .int .i64 (cpN (vals t) R).ix, .slice ua (cpN (vals t) R).kids.len uc], .bool true]) (by simp [results, Try.results18, go_sem, *]) rfl ?_
    exact CpPost.put HO.out HC3.out (Nat.le_succ _) (by omega) HE.out.1 HE.out.2.1 HE.out.2.2 HW.out (fun b hb => by have := HG.out b hb; omega) hnd _ _ _ _ _
  · clear hs3
    go_wp2_with fail
    refine bodyPost_ret (v := .tuple #[.agg #[.int .i64 0, .string ⟨#[]⟩, .string ⟨#[]⟩, .int .i64 0, .slice none 0 0], .bool false]) (by simp [results, Try.results18, go_sem, *]) rfl ?_
    exact CpPost.no HO.out HC3.out (Nat.le_succ _) (by omega) h1 _ _ _ _ _

end Go.Proofs.Ytgcefippeokmcaa
