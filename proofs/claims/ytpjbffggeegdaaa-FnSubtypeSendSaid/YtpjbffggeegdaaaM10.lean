/- LKm, LKk -/
import Derived.Test.YtpjbffggeegdaaaM08
import Derived.Deep.CutRange
import Derived.Deep.RegionHeld3
import Derived.Deep.RegionWith
/- unlinkNode of the program: an end, a variable whose recursion is around. -/
namespace Go.Proofs.Ytpjbffggeegdaaa.Lo
open Go.RowKit

/-- What stands in memory while a node is written out. -/
structure UnSt (w wd : World) (c a : Nat) (dp un : Int) (sv : Value) : Prop where
  hs : Blk wd w.heap.size #[.int .i64 dp, sv, .int .i64 un]
  hz : Box4 wd (w.heap.size + 1) (.int .i64 0) (.string ⟨#[]⟩) (.int .i64 0) (.slice none 0 0)
  hc : Ctr wd c a
  ho : Only c w wd

theorem UnSt.below {w wd we : World} {c a : Nat} {dp un : Int} {sv : Value} (h : UnSt w wd c a dp un sv) (hb : Below wd.heap.size wd we) : UnSt w we c a dp un sv :=
  ⟨h.hs.below hb, h.hz.below hb, h.hc.below hb, h.ho.below hb⟩
theorem UnSt.only {w wd we : World} {c a a' : Nat} {dp un : Int} {sv : Value} (h : UnSt w wd c a dp un sv) (hc : c < w.heap.size) (ho : Only c wd we) (hc' : Ctr we c a') : UnSt w we c a' dp un sv :=
  ⟨h.hs.only ho (by omega), h.hz.only ho (by omega), hc', h.ho.trans ho⟩
theorem UnSt.count {w wd : World} {c a : Nat} {dp un : Int} {sv : Value} (h : UnSt w wd c a dp un sv) (hc : c < w.heap.size) : UnSt w (wd.setCell ⟨c, 0, none⟩ (.int .i64 ((a : Int) + 1))) c (a + 1) dp un sv := by
  refine h.only hc ((Only.refl c wd).setCell (Or.inl rfl) _) ?_
  have := h.hc.set ((a : Int) + 1)
  rwa [show ((a + 1 : Nat) : Int) = (a : Int) + 1 by omega]
/-- The boxes at the start. -/
theorem UnSt.start {w : World} {c a : Nat} (hc : Ctr w c a) (dp un : Int) (sv : Value) (t1 t2 : TypeId) :
    UnSt w ((w.alloc (.cells #[.int .i64 dp, sv, .int .i64 un] t1)).alloc (.cells #[.int .i64 0, .string ⟨#[]⟩, .int .i64 0, .slice none 0 0] t2)) c a dp un sv := by
  have hA := alloc_below w (.cells #[.int .i64 dp, sv, .int .i64 un] t1)
  have hB := hA.alloc (by simp) (.cells #[.int .i64 0, .string ⟨#[]⟩, .int .i64 0, .slice none 0 0] t2)
  have h1 := Blk.now w #[.int .i64 dp, sv, .int .i64 un] t1
  have h2 := Box4.now (w.alloc (.cells #[.int .i64 dp, sv, .int .i64 un] t1)) (.int .i64 0) (.string ⟨#[]⟩) (.int .i64 0) (.slice none 0 0) t2
  rw [show (w.alloc (.cells #[.int .i64 dp, sv, .int .i64 un] t1)).heap.size = w.heap.size + 1 from by simp] at h2
  exact ⟨h1.below (alloc_below _ _), h2, hc.below hB, (Only.refl c w).below hB⟩

theorem ctr_setAll {w : World} {c b0 : Nat} {a' : Int} (hc : Ctr w c a') (hcb : c ≠ b0) (v0 v1 v2 v3 : Value) :
    Ctr ((((w.setCell ⟨b0, 0, none⟩ v0).setCell ⟨b0, 1, none⟩ v1).setCell ⟨b0, 2, none⟩ v2).setCell ⟨b0, 3, none⟩ v3) c a' :=
  (((hc.setOther hcb _).setOther hcb _).setOther hcb _).setOther hcb _
theorem only_setAll {c : Nat} {a b : World} (h : Only c a b) {b0 : Nat} (hb : a.heap.size ≤ b0) (v0 v1 v2 v3 : Value) :
    Only c a ((((b.setCell ⟨b0, 0, none⟩ v0).setCell ⟨b0, 1, none⟩ v1).setCell ⟨b0, 2, none⟩ v2).setCell ⟨b0, 3, none⟩ v3) :=
  (((h.setCell (Or.inr hb) _).setCell (Or.inr hb) _).setCell (Or.inr hb) _).setCell (Or.inr hb) _
theorem same_setAll {w : World} {bs : List Nat} {b0 : Nat} (q : ∀ b, b ∈ bs → b ≠ b0) (v0 v1 v2 v3 : Value) :
    Same w ((((w.setCell ⟨b0, 0, none⟩ v0).setCell ⟨b0, 1, none⟩ v1).setCell ⟨b0, 2, none⟩ v2).setCell ⟨b0, 3, none⟩ v3) bs :=
  ((((Same.refl _ _).setCell q _).setCell q _).setCell q _).setCell q _

/-- A failure, told by the result's box. -/
theorem UnSt.no {w wd : World} {c a a' : Nat} {dp un : Int} {sv : Value} {N : Nd} {d : Int} (h : UnSt w wd c a' dp un sv) (hcl : c < w.heap.size) (hno : ¬ (a + (N.kids.sz + 1) ≤ 400 ∧ d + (hF N.kids : Int) ≤ 40)) (v0 v1 v2 v3 : Value) :
    CpPost c N d a w (.returned (.tuple #[.agg #[.int .i64 0, .string ⟨#[]⟩, .int .i64 0, .slice none 0 0], .bool false]))
      ((((wd.setCell ⟨w.heap.size + 1, 0, none⟩ v0).setCell ⟨w.heap.size + 1, 1, none⟩ v1).setCell ⟨w.heap.size + 1, 2, none⟩ v2).setCell ⟨w.heap.size + 1, 3, none⟩ v3) :=
  CpPost.no (only_setAll h.ho (by omega) _ _ _ _) (ctr_setAll h.hc (by omega) _ _ _ _) hno
/-- A leaf. -/
theorem UnSt.leaf {w wd : World} {c a : Nat} {dp un : Int} {sv : Value} {k ix : Int} {fr : ByteArray} {d : Int} (h : UnSt w wd c (a + 1) dp un sv) (hcl : c < w.heap.size) (h1 : a + 1 ≤ 400) (h2 : d ≤ 40) (v0 v1 v2 v3 : Value) :
    CpPost c ⟨k, fr, ix, .nil⟩ d a w (.returned (.tuple #[.agg #[.int .i64 k, .string fr, .int .i64 ix, .slice none 0 0], .bool true]))
      ((((wd.setCell ⟨w.heap.size + 1, 0, none⟩ v0).setCell ⟨w.heap.size + 1, 1, none⟩ v1).setCell ⟨w.heap.size + 1, 2, none⟩ v2).setCell ⟨w.heap.size + 1, 3, none⟩ v3) :=
  CpPost.yes (bs := []) (a' := a + 1) (only_setAll h.ho (by omega) _ _ _ _) (ctr_setAll h.hc (by omega) _ _ _ _) (by simpa [F.sz] using h1) (by simpa [hF] using h2) (by simp [F.sz]) ⟨none, 0, rfl, Nat.le_refl _, Nat.zero_le _, Or.inl ⟨rfl, rfl⟩⟩ (fun _ hb => absurd hb List.not_mem_nil) List.nodup_nil rfl rfl rfl

set_option maxHeartbeats 1000000 in
set_option maxRecDepth 100000 in
theorem un_end (w : World) (c a : Nat) (dp un : Int) (lv : Value) (ps : List Nat) (hc : Ctr w c a) (ha : a ≤ 400) (hd1 : 1 ≤ dp) (hd2 : dp ≤ 41) (hp : Pt w lv ps) :
    Calls Try.prog 24 #[.iface ( /- t -/ 85) (.agg #[]), .agg #[.int .i64 dp, lv, .int .i64 un], .pointer (some ⟨c, 0, none⟩)] w (CpPost c ⟨1, ⟨#[]⟩, 0, .nil⟩ dp a w) := by
  obtain ⟨la, lcap, rfl, -, -⟩ := hp.ps.val
  have HST := hide ((UnSt.start hc dp un (.slice la ps.length lcap) ( /- t -/ 53) ( /- t -/ 25)).below (alloc_below _ (.cells #[.pointer none] ( /- t -/ 60))))
  have hcl := hc.lt
  clear hp hc
  have n1 := taEndVar
  have n2 := taEndLoop
  have n3 := taEndAct
  go_enter Try.func24, Try.ntmps24
  go_upto_region 4 with fail
  generalize ((w.alloc (.cells #[.int .i64 dp, .slice la ps.length lcap, .int .i64 un] ( /- t -/ 53))).alloc (.cells #[.int .i64 0, .string ⟨#[]⟩, .int .i64 0, .slice none 0 0] ( /- t -/ 25))).alloc (.cells #[.pointer none] ( /- t -/ 60)) = W at *
  have cc := HST.out.hc.cell
  have cf := HST.out.hc.frozen
  have cl := HST.out.hc.lt
  have s0 : W.cell? ⟨w.heap.size, 0, none⟩ = some (.int .i64 dp) := HST.out.hs.cell 0
  have sl := HST.out.hs.lt
  obtain ⟨z0, z1, z2, z3⟩ := HST.out.hz.cells
  have fz := HST.out.hz.frozen
  have hzl := HST.out.hz.lt
  by_cases hm4 : 400 ≤ a
  · go_wp2_with fail
    refine bodyPost_ret (v := .tuple #[.agg #[.int .i64 0, .string ⟨#[]⟩, .int .i64 0, .slice none 0 0], .bool false]) (by simp [results, Try.results24, go_sem, *]) rfl ?_
    exact UnSt.no (HST.out.count hcl) hcl (fun h => by have := h.1; omega) _ _ _ _
  by_cases hd4 : 40 < dp
  · go_wp2_with fail
    refine bodyPost_ret (v := .tuple #[.agg #[.int .i64 0, .string ⟨#[]⟩, .int .i64 0, .slice none 0 0], .bool false]) (by simp [results, Try.results24, go_sem, *]) rfl ?_
    exact UnSt.no (HST.out.count hcl) hcl (fun h => by have := h.2; omega) _ _ _ _
  · go_wp2_with fail
    refine bodyPost_ret (v := .tuple #[.agg #[.int .i64 1, .string ⟨#[]⟩, .int .i64 0, .slice none 0 0], .bool true]) (by simp [results, Try.results24, go_sem, *]) rfl ?_
    exact UnSt.leaf (HST.out.count hcl) hcl (by omega) (by omega) _ _ _ _

set_option maxHeartbeats 1000000 in
set_option maxRecDepth 100000 in
/-- A variable whose recursion is around. -/
theorem un_var (w0 w : World) (c a : Nat) (dp un : Int) (i j l : Nat) (lv : Value) (ps : List Nat) (hB : Below w0.heap.size w0 w) (hc0 : w0.heap.size ≤ c) (hc : Ctr w c a) (ha : a ≤ 400) (hd1 : 1 ≤ dp) (hd2 : dp ≤ 41) (hp : Pt w lv ps)
    (hnd : ps.Nodup) (hpb : ∀ x, x ∈ ps → ∃ cs, Blk w0 x cs) (hl : ps[j]? = some l) (hj : ps.length = j + 1 + i) (hlen : ps.length ≤ 41) :
    Calls Try.prog 24 #[.iface ( /- t -/ 60) (.agg #[.pointer (some ⟨l, 0, none⟩)]), .agg #[.int .i64 dp, lv, .int .i64 un], .pointer (some ⟨c, 0, none⟩)] w (CpPost c ⟨5, ⟨#[]⟩, (i : Int), .nil⟩ dp a w) := by
  obtain ⟨la, lcap, rfl, -, -⟩ := hp.ps.val
  have hb3 := ((alloc_below w (.cells #[.int .i64 dp, .slice la ps.length lcap, .int .i64 un] ( /- t -/ 53))).alloc (by simp) (.cells #[.int .i64 0, .string ⟨#[]⟩, .int .i64 0, .slice none 0 0] ( /- t -/ 25))).alloc (by simp; omega) (.cells #[.pointer (some ⟨l, 0, none⟩)] ( /- t -/ 60))
  have HST := hide ((UnSt.start hc dp un (.slice la ps.length lcap) ( /- t -/ 53) ( /- t -/ 25)).below (alloc_below _ (.cells #[.pointer (some ⟨l, 0, none⟩)] ( /- t -/ 60))))
  have hvb := alloc_last ((w.alloc (.cells #[.int .i64 dp, .slice la ps.length lcap, .int .i64 un] ( /- t -/ 53))).alloc (.cells #[.int .i64 0, .string ⟨#[]⟩, .int .i64 0, .slice none 0 0] ( /- t -/ 25))) #[.pointer (some ⟨l, 0, none⟩)] ( /- t -/ 60)
  have hcl := hc.lt
  have HP3 := hide (hp.below hb3)
  have HB3 := hide (hB.trans (hb3.mono hB.size))
  have HW := hide hB
  have HND := hide hnd
  have HPB := hide hpb
  have HL := hide hl
  have HJ := hide hj
  have HVB := hide hvb
  have hi0 : ¬ ((i : Int) < 0) := by omega
  clear hp hc hB hnd hpb hl hj hb3 hvb
  have n1 := taVarVar
  go_enter Try.func24, Try.ntmps24
  go_wp2_with fail
  generalize ((w.alloc (.cells #[.int .i64 dp, .slice la ps.length lcap, .int .i64 un] ( /- t -/ 53))).alloc (.cells #[.int .i64 0, .string ⟨#[]⟩, .int .i64 0, .slice none 0 0] ( /- t -/ 25))).alloc (.cells #[.pointer (some ⟨l, 0, none⟩)] ( /- t -/ 60)) = W at *
  refine (idx_calls W dp un _ ps l i j HP3.out.ps HND.out HL.out HJ.out hlen (fun x hx => by obtain ⟨cs, h⟩ := HPB.out x hx; exact ⟨cs, h.below HB3.out⟩)).mono ?_
  rintro e w1 ⟨rfl, hb⟩
  have HST1 := hide (HST.out.below hb)
  have HP1 := hide (HP3.out.below hb)
  have HB1 := hide (HB3.out.trans (hb.mono HB3.out.size))
  clear hb HST HP3 HB3 HVB
  have cc := HST1.out.hc.cell
  have cf := HST1.out.hc.frozen
  have cl := HST1.out.hc.lt
  have s0 : w1.cell? ⟨w.heap.size, 0, none⟩ = some (.int .i64 dp) := HST1.out.hs.cell 0
  have s1 : w1.cell? ⟨w.heap.size, 1, none⟩ = some (.slice la ps.length lcap) := HST1.out.hs.cell 1
  have s2 : w1.cell? ⟨w.heap.size, 2, none⟩ = some (.int .i64 un) := HST1.out.hs.cell 2
  have sl := HST1.out.hs.lt
  obtain ⟨z0, z1, z2, z3⟩ := HST1.out.hz.cells
  have fz := HST1.out.hz.frozen
  have hzl := HST1.out.hz.lt
  by_cases hm4 : 400 ≤ a
  · go_wp2_with fail
    refine bodyPost_ret (v := .tuple #[.agg #[.int .i64 0, .string ⟨#[]⟩, .int .i64 0, .slice none 0 0], .bool false]) (by simp [results, Try.results24, go_sem, *]) rfl ?_
    exact UnSt.no (HST1.out.count hcl) hcl (fun h => by have := h.1; omega) _ _ _ _
  by_cases hd4 : 40 < dp
  · go_wp2_with fail
    refine bodyPost_ret (v := .tuple #[.agg #[.int .i64 0, .string ⟨#[]⟩, .int .i64 0, .slice none 0 0], .bool false]) (by simp [results, Try.results24, go_sem, *]) rfl ?_
    exact UnSt.no (HST1.out.count hcl) hcl (fun h => by have := h.2; omega) _ _ _ _
  · go_wp2_with fail
    have hst2 := HST1.out.count hcl
    have hp2 := HP1.out.only HST1.out.hc ((Only.refl c w1).setCell (p := ⟨c, 0, none⟩) (Or.inl rfl) (.int .i64 ((a : Int) + 1)))
    have hb2 := HB1.out.setCell (p := ⟨c, 0, none⟩) hc0 (.int .i64 ((a : Int) + 1))
    generalize w1.setCell ⟨c, 0, none⟩ (.int .i64 ((a : Int) + 1)) = W2 at *
    have hbA := alloc_below W2 (.cells #[.pointer (some ⟨l, 0, none⟩)] ( /- t -/ 60))
    have HST2 := hide (hst2.below hbA)
    have HP2 := hide (hp2.below hbA)
    have HB2 := hide (hb2.trans (hbA.mono hb2.size))
    clear hst2 hp2 hb2 hbA cc cf cl s0 s1 s2 sl z0 z1 z2 z3 fz hzl HST1 HP1 HB1
    refine (idx_calls _ dp un _ ps l i j HP2.out.ps HND.out HL.out HJ.out hlen (fun x hx => by obtain ⟨cs, h⟩ := HPB.out x hx; exact ⟨cs, h.below HB2.out⟩)).mono ?_
    rintro e w3 ⟨rfl, hb⟩
    have HST3 := hide (HST2.out.below hb)
    clear hb HST2 HP2 HB2
    obtain ⟨z0, z1, z2, z3⟩ := HST3.out.hz.cells
    have fz := HST3.out.hz.frozen
    have hzl := HST3.out.hz.lt
    go_wp2_with fail
    refine bodyPost_ret (v := .tuple #[.agg #[.int .i64 5, .string ⟨#[]⟩, .int .i64 i, .slice none 0 0], .bool true]) (by simp [results, Try.results24, go_sem, *]) rfl ?_
    exact UnSt.leaf HST3.out hcl (by omega) (by omega) _ _ _ _

end Go.Proofs.Ytpjbffggeegdaaa.Lo

/- unlinkNode of the program: what stands in memory around a child's writing. -/
namespace Go.Proofs.Ytpjbffggeegdaaa.Lo
open Go.RowKit

/-- What unlinkNode gives, in one form. -/
theorem CpPost.form {c : Nat} {N : Nd} {d : Int} {a : Nat} {w : World} {e : Ending} {w' : World} (h : CpPost c N d a w e w') :
    ∃ (k ix : Int) (fr : ByteArray) (ua : Option Addr) (ul uc : Nat) (ok : Bool) (a' : Nat), e = .returned (.tuple #[.agg #[.int .i64 k, .string fr, .int .i64 ix, .slice ua ul uc], .bool ok]) ∧ Only c w w' ∧ Ctr w' c a' ∧
      ((ok = true ∧ k = N.k ∧ fr = N.fr ∧ ix = N.ix ∧ a + (N.kids.sz + 1) ≤ 400 ∧ d + (hF N.kids : Int) ≤ 40 ∧ a' = a + (N.kids.sz + 1) ∧ ∃ bs, Ow w' (.slice ua ul uc) N.kids bs ∧ (∀ b, b ∈ bs → w.heap.size ≤ b) ∧ bs.Nodup) ∨
       (ok = false ∧ ¬ (a + (N.kids.sz + 1) ≤ 400 ∧ d + (hF N.kids : Int) ≤ 40))) := by
  obtain ⟨a', ho, hc, h⟩ := h
  rcases h with ⟨h1, h2, h3, u, bs, rfl, how, hge, hnd⟩ | ⟨h, rfl⟩
  · obtain ⟨ua, uc, rfl⟩ := how.val
    exact ⟨_, _, _, ua, _, uc, true, a', rfl, ho, hc, Or.inl ⟨rfl, rfl, rfl, rfl, h1, h2, h3, bs, how, hge, hnd⟩⟩
  · exact ⟨_, _, _, none, 0, 0, false, a', rfl, ho, hc, Or.inr ⟨rfl, h⟩⟩

theorem loop_blk {w0 : World} {fr : ByteArray} {ix : Int} {kids : F} {ps ks : List Nat} {L : Nat} (h : LkN w0 4 fr ix kids ps (.iface ( /- t -/ 56) (.pointer (some ⟨L, 0, none⟩))) ks) : ∃ cs, Blk w0 L cs := by
  rcases h with ⟨h, -⟩ | ⟨h, -⟩ | ⟨-, L', s, u, ks', h3, hb, -⟩ | ⟨h, -⟩
  · omega
  · omega
  · injection h3 with _ h3
    injection h3 with h3
    injection h3 with h3
    injection h3 with h3
    subst h3
    exact ⟨_, hb⟩
  · omega

/-- The scope is another one. -/
theorem UnSt.jump {w wd : World} {c a : Nat} {dp un : Int} {sv : Value} (h : UnSt w wd c a dp un sv) (hcl : c < w.heap.size) (un' : Int) (sv' : Value) :
    UnSt w (((wd.setCell ⟨w.heap.size, 0, none⟩ (.int .i64 dp)).setCell ⟨w.heap.size, 1, none⟩ sv').setCell ⟨w.heap.size, 2, none⟩ (.int .i64 un')).drew c a dp un' sv' := by
  have h1 : Blk (((wd.setCell ⟨w.heap.size, 0, none⟩ (.int .i64 dp)).setCell ⟨w.heap.size, 1, none⟩ sv').setCell ⟨w.heap.size, 2, none⟩ (.int .i64 un')) w.heap.size #[.int .i64 dp, sv', .int .i64 un'] := ((h.hs.set 0 _).set 1 _).set 2 _
  have hne : c ≠ w.heap.size := by omega
  exact ⟨h1, ((h.hz.setOther (by simp) _).setOther (by simp) _).setOther (by simp) _, ((h.hc.setOther hne _).setOther hne _).setOther hne _,
    (((h.ho.setCell (Or.inr (Nat.le_refl _)) _).setCell (Or.inr (Nat.le_refl _)) _).setCell (Or.inr (Nat.le_refl _)) _).drew⟩

/-- What a child's writing leaves: its box, its flag. -/
def KidRel (w w4 : World) (c a : Nat) (dp un : Int) (sv : Value) (N : Nd) (d : Int) (xv okv : Value) : Prop :=
  ∃ (X : Nat) (k ix : Int) (fr : ByteArray) (ua : Option Addr) (ul uc : Nat) (ok : Bool) (a' : Nat), xv = .pointer (some ⟨X, 0, none⟩) ∧ okv = .bool ok ∧ Box4 w4 X (.int .i64 k) (.string fr) (.int .i64 ix) (.slice ua ul uc) ∧ w.heap.size + 1 < X ∧ UnSt w w4 c a' dp un sv ∧
    ((ok = true ∧ k = N.k ∧ fr = N.fr ∧ ix = N.ix ∧ a + (N.kids.sz + 1) ≤ 400 ∧ d + (hF N.kids : Int) ≤ 40 ∧ a' = a + (N.kids.sz + 1) ∧ ∃ bs, Ow w4 (.slice ua ul uc) N.kids bs ∧ (∀ b, b ∈ bs → w.heap.size + 1 < b) ∧ bs.Nodup) ∨
     (ok = false ∧ ¬ (a + (N.kids.sz + 1) ≤ 400 ∧ d + (hF N.kids : Int) ≤ 40)))

theorem KidRel.mk {w0 w W3 wY w6 w4 : World} {c a1 a' X : Nat} {dp un : Int} {sv : Value} {N : Nd} {d : Int} (hst : UnSt w W3 c a1 dp un sv) (hcl : c < w.heap.size) (h0 : Below w0.heap.size w0 W3) (hc0 : w0.heap.size ≤ c) (h35 : Below W3.heap.size W3 wY) (ho6 : Only c wY w6) (hc6 : Ctr w6 c a')
    (hX : W3.heap.size ≤ X) (h64 : Only X w6 w4) {k ix : Int} {fr : ByteArray} {ua : Option Addr} {ul uc : Nat} {ok : Bool} (hbox : Box4 w4 X (.int .i64 k) (.string fr) (.int .i64 ix) (.slice ua ul uc)) (hXb : X < wY.heap.size ∨ w6.heap.size ≤ X)
    (hcase : (ok = true ∧ k = N.k ∧ fr = N.fr ∧ ix = N.ix ∧ a1 + (N.kids.sz + 1) ≤ 400 ∧ d + (hF N.kids : Int) ≤ 40 ∧ a' = a1 + (N.kids.sz + 1) ∧ ∃ bs, Ow w6 (.slice ua ul uc) N.kids bs ∧ (∀ b, b ∈ bs → wY.heap.size ≤ b) ∧ bs.Nodup) ∨
       (ok = false ∧ ¬ (a1 + (N.kids.sz + 1) ≤ 400 ∧ d + (hF N.kids : Int) ≤ 40))) : KidRel w w4 c a1 dp un sv N d (.pointer (some ⟨X, 0, none⟩)) (.bool ok) ∧ Below w0.heap.size w0 w4 := by
  have h1 := hst.hz.lt
  have h2 := h35.size
  have h3 := hst.below h35
  have h4 := h3.only hcl ho6 hc6
  have hne : ∀ b, b < W3.heap.size → b ≠ X := fun b hb e => by omega
  have hz4 := h4.hz.lt
  have h5 : UnSt w w4 c a' dp un sv := by
    refine ⟨h4.hs.same (h64.block _ (by omega) (hne _ (by omega))), h4.hz.same (h64.block _ (by omega) (hne _ (by omega))), h4.hc.same (h64.block _ h4.hc.lt (hne _ (by omega))), ?_⟩
    refine ⟨h64.os.trans h4.ho.os, h64.tape.trans h4.ho.tape, h64.output.trans h4.ho.output, Nat.le_trans h4.ho.size h64.size, fun b hb hc => ?_⟩
    exact (h64.block b (Nat.lt_of_lt_of_le hb h4.ho.size) (hne b (by omega))).trans (h4.ho.block b hb hc)
  have h6 := h0.size
  have h7 := ho6.size
  refine ⟨⟨X, k, ix, fr, ua, ul, uc, ok, a', rfl, rfl, hbox, by omega, h5, ?_⟩, ((h0.trans (h35.mono h6)).trans (ho6.to_below hc0 (by omega))).trans (h64.to_below (by omega) (by omega))⟩
  rcases hcase with ⟨q1, q2, q3, q4, q5, q6, q7, bs, how, hge, hnd⟩ | h
  · refine Or.inl ⟨q1, q2, q3, q4, q5, q6, q7, bs, how.same (fun b hb => h64.block b (how.lt b hb) ?_), fun b hb => by have := hge b hb; omega, hnd⟩
    have := hge b hb
    have := how.lt b hb
    omega
  · exact Or.inr h

theorem only_box (X : Nat) (w : World) (v0 v1 v2 v3 : Value) : Only X w ((((w.setCell ⟨X, 0, none⟩ v0).setCell ⟨X, 1, none⟩ v1).setCell ⟨X, 2, none⟩ v2).setCell ⟨X, 3, none⟩ v3) :=
  ((((Only.refl X w).setCell (p := ⟨X, 0, none⟩) (Or.inl rfl) v0).setCell (p := ⟨X, 1, none⟩) (Or.inl rfl) v1).setCell (p := ⟨X, 2, none⟩) (Or.inl rfl) v2).setCell (p := ⟨X, 3, none⟩) (Or.inl rfl) v3

/-- A row of one branch. -/
theorem one_row {w : World} {u : Value} {kids : F} {ks : List Nat} (how : Ow w u kids ks) {lab fr : ByteArray} {k ix : Int} (hl : lab.size ≤ maxLen) (hf : fr.size ≤ maxLen) (hk : (Lit.int .i64 k).wf = true) (hi : (Lit.int .i64 ix).wf = true) (t : TypeId) :
    Ow (w.alloc (.cells #[.string lab, .int .i64 k, .string fr, .int .i64 ix, u] t)) (.slice (some ⟨w.heap.size, 0, none⟩) 1 1) (.cons lab k fr ix kids .nil) (w.heap.size :: ks) := by
  have hal := alloc_last w #[.string lab, .int .i64 k, .string fr, .int .i64 ix, u] t
  have h2 := how.same (Same.of_below (alloc_below w (.cells #[.string lab, .int .i64 k, .string fr, .int .i64 ix, u] t)) how.lt)
  obtain ⟨ua, uc, rfl, e1, e2, hkk⟩ := h2
  refine ⟨some ⟨w.heap.size, 0, none⟩, 1, rfl, Nat.le_refl _, by unfold maxLen; omega, Or.inr ⟨w.heap.size, 5, ks, rfl, rfl, ⟨_, t, hal, rfl⟩, by simp, ?_⟩⟩
  exact ⟨hl, hf, hk, hi, cell_of_heap (o := 0) hal, cell_of_heap (o := 1) hal, cell_of_heap (o := 2) hal, cell_of_heap (o := 3) hal, ks, [], by simp, ⟨ua, uc, cell_of_heap (o := 4) hal, e1, e2, hkk⟩, rfl⟩

/-- How the walk comes to a recursion. -/
def AtLoop (w0 w : World) (L : Nat) (v lv lv' : Value) (un un' : Int) (m : Nat) (pv : Option Addr) (bb : Bool) : Prop :=
  (bb = false ∧ pv = none ∧ v = .iface ( /- t -/ 56) (.pointer (some ⟨L, 0, none⟩)) ∧ lv = lv' ∧ un = un') ∨
  (bb = true ∧ pv = some ⟨L, 0, none⟩ ∧ v = .iface ( /- t -/ 60) (.agg #[.pointer (some ⟨L, 0, none⟩)]) ∧ lv' = .slice none 0 0 ∧ un' = 0 ∧ m = 0 ∧ ∃ ps, Pt w lv ps ∧ L ∉ ps ∧ ps.length ≤ 41 ∧ ∀ x, x ∈ ps → ∃ cs, Blk w0 x cs)
end Go.Proofs.Ytpjbffggeegdaaa.Lo
