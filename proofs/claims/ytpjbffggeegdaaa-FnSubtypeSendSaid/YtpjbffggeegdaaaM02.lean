/- LUq, LDu, Ps, Ila, Ilb, Is, LSv, Dc -/
import Derived.Test.YtpjbffggeegdaaaM00
import Derived.Test.YtpjbffggeegdaaaM01
import Derived.Test.YtpjbffggeegdaaaRows
import Derived.WalkKit
import Derived.WalkSpells
import Derived.WalkLawsBesides
import Derived.Lib.Bytealg
import Derived.BigQuiet
import Derived.Deep.QuietTactic
import Derived.Laws.IdiomStrings
/- l2Substitute and l2Copy of the model at any tree of moderate width. -/
namespace Go.Proofs.Ytpjbffggeegdaaa.Lo
open Go.RowKit

/-- A node in new memory whose slice may grow. -/
def MadeH (k : Int) (fr : ByteArray) (ix : Int) (f : F) (w : World) (e : Ending) (w' : World) : Prop :=
  ∃ u bs, e = .returned (.agg #[.int .i64 k, .string fr, .int .i64 ix, u]) ∧ Gr w' w.heap.size u f bs ∧ Below w.heap.size w w'
theorem MadeH.made {k : Int} {fr : ByteArray} {ix : Int} {f : F} {w : World} {e : Ending} {w' : World} (h : MadeH k fr ix f w e w') : MadeN k fr ix f w e w' := by
  obtain ⟨u, bs, h1, h2, h3⟩ := h
  exact ⟨u, bs, h1, h2.ow, h2.ge, h2.nodup, h3⟩
theorem Gr.mono {w : World} {base base' : Nat} {v : Value} {f : F} {bs : List Nat} (h : Gr w base v f bs) (hb : base' ≤ base) : Gr w base' v f bs := by
  rcases h with h | ⟨g, cap, cur, bs', h0, h1, h2, h3, h4, h5, h6, h7, h8, h9, h10⟩
  · exact Or.inl h
  · exact Or.inr ⟨g, cap, cur, bs', h0, Nat.le_trans hb h1, h2, h3, h4, h5, h6, h7, h8, fun b hm => Nat.le_trans hb (h9 b hm), h10⟩

/-- No row is longer than a thousand. -/
def lnF : F → Prop
  | .nil => True
  | .cons _ _ _ _ kids rest => kids.len ≤ 1000 ∧ lnF kids ∧ lnF rest
theorem lnF_app (g : F) : ∀ f : F, lnF (f.app g) ↔ lnF f ∧ lnF g
  | .nil => by simp [F.app, lnF]
  | .cons lab k fr ix kids rest => by simp only [F.app, lnF, lnF_app g rest, and_assoc]
theorem len_sz : ∀ f : F, f.len ≤ f.sz
  | .nil => Nat.le_refl _
  | .cons _ _ _ _ kids rest => by have := len_sz rest; simp only [F.len, F.sz]; omega
theorem lnF_sz : ∀ f : F, f.sz ≤ 1000 → lnF f
  | .nil, _ => trivial
  | .cons _ _ _ _ kids rest, h => by
    simp only [F.sz] at h
    exact ⟨by have := len_sz kids; omega, lnF_sz kids (by omega), lnF_sz rest (by omega)⟩

def SubGt (n : Nat) : Prop := ∀ (w : World) (k ix i : Int) (fr : ByteArray) (sv : Value) (kids : F) (U : Nd) (su : Value), kids.sz < n → Sl w sv kids → Sl w su U.kids → Fit ⟨k, fr, ix, kids⟩ → Fit U →
  -1 ≤ i → i + 1 + hF kids ≤ 1000000 → kids.len ≤ 1000 ∧ lnF kids → ((kids = .nil ∧ ¬ (k = 5 ∧ ix = i)) ∨ CopyOk U) →
  Calls Try.prog 27 #[.agg #[.int .i64 k, .string fr, .int .i64 ix, sv], .agg #[.int .i64 U.k, .string U.fr, .int .i64 U.ix, su], .int .i64 i] w
    (MadeN (subN U ⟨k, fr, ix, kids⟩ i).k (subN U ⟨k, fr, ix, kids⟩ i).fr (subN U ⟨k, fr, ix, kids⟩ i).ix (subN U ⟨k, fr, ix, kids⟩ i).kids w)

set_option maxHeartbeats 2000000 in
set_option maxRecDepth 100000 in
theorem subg_loop (n : Nat) (ih : SubGt n) (w : World) (k ix i : Int) (fr : ByteArray) (sv : Value) (kids : F) (U : Nd) (su : Value) (hn : kids.sz < n + 1) (hs : Sl w sv kids) (hsu : Sl w su U.kids) (hfit : Fit ⟨k, fr, ix, kids⟩) (hfu : Fit U)
    (hi1 : -1 ≤ i) (hi2 : i + 1 + hF kids ≤ 1000000) (hw : kids.len ≤ 1000 ∧ lnF kids) (hc : (kids = .nil ∧ ¬ (k = 5 ∧ ix = i)) ∨ CopyOk U) (hne : ¬ (k = 5 ∧ ix = i)) (I : Int) (hI : I = bump k i) :
    Calls Try.prog 27 #[.agg #[.int .i64 k, .string fr, .int .i64 ix, sv], .agg #[.int .i64 U.k, .string U.fr, .int .i64 U.ix, su], .int .i64 i] w
    (MadeH k fr ix (subF U kids I) w) := by
  have HBI := hide hI
  clear hI
  obtain ⟨hlen, hw1⟩ := hw
  obtain ⟨a, cap, rfl, hl, hat⟩ := hs.at
  have HH := hide (And.intro hn (And.intro hi2 (And.intro hw1 (And.intro hc (And.intro hsu (And.intro hat (And.intro hfit hfu)))))))
  clear hs hn hi2 hw1 hc hsu hat hfit hfu hl
  go_enter Try.func27, Try.ntmps27
  go_upto_region 1 with fail
  go_cut [2, 17] from 9 to 17 (fun v2 v17 wc => v2 = .int .i64 i ∧ v17 = .bool false ∧ Box4 wc w.heap.size (.int .i64 k) (.string fr) (.int .i64 ix) (.slice a kids.len cap) ∧
    Box4 wc (w.heap.size + 1) (.int .i64 U.k) (.string U.fr) (.int .i64 U.ix) su ∧
    Box4 wc (w.heap.size + 2) (.int .i64 0) (.string ⟨#[]⟩) (.int .i64 0) (.slice none 0 0) ∧ wc.heap.size = w.heap.size + 3 ∧ Below w.heap.size w wc)
  case first =>
    by_cases h4 : k = 5
    · subst h4
      have hq : (ix == i) = false := beq_eq_false_iff_ne.2 (fun e => hne ⟨rfl, e⟩)
      go_wp2_with fail
      go_meet
      case rel => exact ⟨rfl, rfl, three_new _ _ _ _ _ _ _ _ _ _ _ _ _ _⟩
    · have hq : (k == 5) = false := beq_eq_false_iff_ne.2 h4
      go_wp2_with fail
      go_meet
      case rel => exact ⟨rfl, rfl, three_new _ _ _ _ _ _ _ _ _ _ _ _ _ _⟩
  case rest =>
    obtain ⟨rfl, rfl, hx, hy, hz, hsz, hbw⟩ := hcut
    obtain ⟨x0, x1, x2, x3⟩ := hx.cells
    have hxl := hx.lt
    have HB := hide (And.intro hx (And.intro hy (And.intro hz hbw)))
    clear hx hy hz hbw
    go_upto_region 4 with fail
    go_cut [34] from 28 to 33 (fun v36 wd => ∃ bb : Bool, v36 = .bool bb ∧ Hid (bb = decide (k = 4 ∧ 0 ≤ i)) ∧ wd = wc.alloc (.cells #[.int .i64 k, .string fr, .int .i64 ix, .slice none 0 0] ( /- t -/ 25)))
    case first =>
      by_cases h3 : k = 4
      · subst h3
        by_cases h0 : 0 ≤ i
        · have hd : decide ((4 : Int) = 4 ∧ 0 ≤ i) = true := decide_eq_true ⟨rfl, h0⟩
          go_wp2_with fail
          go_meet
          case rel => exact ⟨true, by simp, hide hd.symm, rfl⟩
        · have hd : decide ((4 : Int) = 4 ∧ 0 ≤ i) = false := decide_eq_false (fun h => h0 h.2)
          go_wp2_with fail
          go_meet
          case rel => exact ⟨false, by simp, hide hd.symm, rfl⟩
      · have hq : (k == 4) = false := beq_eq_false_iff_ne.2 h3
        go_wp2_with fail
        go_meet
        case rel => exact ⟨false, by simp, hide (decide_eq_false (fun h => h3 h.1)).symm, rfl⟩
    case rest =>
      obtain ⟨bb, rfl, hbb, rfl⟩ := hcut
      go_upto_if 34 with fail
      go_cut [2] from 35 to 36 (fun v2 wd => v2 = .int .i64 I ∧ wd = wc.alloc (.cells #[.int .i64 k, .string fr, .int .i64 ix, .slice none 0 0] ( /- t -/ 25)))
      case first =>
        have hbi : i ≤ 1000000 := by have := HH.out.2.1; omega
        by_cases h3 : k = 4 ∧ 0 ≤ i
        · have hd : bb = true := hbb.out.trans (decide_eq_true h3)
          subst hd
          have e : I = i + 1 := by rw [HBI.out]; unfold bump; rw [if_pos h3]
          have h30 := h3.2
          go_wp2_with fail
          go_meet
          case rel => exact ⟨by rw [e], by rw [h3.1]⟩
        · have hd : bb = false := hbb.out.trans (decide_eq_false h3)
          subst hd
          have e : I = i := by rw [HBI.out]; unfold bump; rw [if_neg h3]
          go_wp2_with fail
          go_meet
          case rel => exact ⟨by rw [e], rfl⟩
      case rest =>
        obtain ⟨rfl, rfl⟩ := hcut
        obtain ⟨hx, hy, hz, hbw⟩ := HB.out
        have hbd := alloc_below wc (.cells #[.int .i64 k, .string fr, .int .i64 ix, .slice none 0 0] ( /- t -/ 25))
        have hx := hx.below hbd
        have hy := hy.below hbd
        have hz := hz.below hbd
        have ho := Box4.now wc (.int .i64 k) (.string fr) (.int .i64 ix) (.slice none 0 0) ( /- t -/ 25)
        rw [hsz] at ho
        have hbe := hbw.trans (hbd.mono hbw.size)
        have HST : Hid (SubRel w U k ix fr (.slice a kids.len cap) su kids I a (.int .i64 0) (wc.alloc (.cells #[.int .i64 k, .string fr, .int .i64 ix, .slice none 0 0] ( /- t -/ 25)))) :=
          hide ⟨.nil, kids, _, [], rfl, rfl, HH.out.2.2.2.2.2.1, hx, hy, hz, ho, Gr.nil _ _, hbe⟩
        clear hx hy hz hbw hbd ho hbe x0 x1 x2 x3 hxl HB
        obtain ⟨i0, hi, hz0, hz1, hz2⟩ := info_parts Try.info65
        have HI := hide (And.intro hi (And.intro hz0 (And.intro hz1 hz2)))
        clear hi hz0 hz1 hz2
        go_wp2_with fail
        clear hsz
        go_loopw [8] (fun iv wr => SubRel w U k ix fr (.slice a kids.len cap) su kids I a iv wr) (fun iv _ => kids.len - (intOf iv).toNat)
        case atStart => exact HST.out
        case round =>
          obtain ⟨p, g, v, bs, hfe, rfl, hg, hx, hy, hz, ho, hgr, hb⟩ := hrel
          have x4 := hx.cells.2.2.2
          have hxl := hx.lt
          cases g with
          | nil =>
            have hge : kids.len ≤ p.len := by rw [hfe, F.app_nil]; exact Nat.le_refl _
            have hple : p.len ≤ kids.len := by rw [hfe, F.app_nil]; exact Nat.le_refl _
            rw [F.app_nil] at hfe
            obtain ⟨va, vc, rfl⟩ := hgr.val
            obtain ⟨o0, o1, o2, o3⟩ := ho.cells
            obtain ⟨z0, z1, z2, z3⟩ := hz.cells
            have fz := hz.frozen
            have hol := ho.lt
            have hzl := hz.lt
            have HG := hide hgr
            have HB := hide hb
            have HE := hide hfe
            clear hgr hb hfe hx hy hz ho hg
            go_wp2_with fail
            refine bodyPost_ret (v := .agg #[.int .i64 k, .string fr, .int .i64 ix, .slice va (subF U p I).len vc]) (by simp [results, Try.results27, go_sem, *]) rfl ?_
            have hge := HG.out.ge
            rw [HE.out]
            refine ⟨_, bs, rfl, (HG.out.same ?_).mono (by omega), ?_⟩
            · repeat (refine Same.setCell ?_ (fun b h => by have := hge b h; simp; omega) _)
              exact Same.refl _ _
            · repeat (refine Below.setCell ?_ (by first | (simp; done) | (simp; omega)) _)
              exact HB.out
          | cons lab kd fr' ix' kids' rest =>
            have hlt : p.len < kids.len := by rw [hfe, F.len_app]; simp only [F.len]; omega
            obtain ⟨b', o, rfl, l1, l2, l3, l4, c0, c1, c2, c3, ⟨sv', c4, hsv⟩, -⟩ := (hg.still (Still.of_below hb)).head
            obtain ⟨y0, y1, y2, y3⟩ := hy.cells
            obtain ⟨hn, hi2, hw1, hc, hsu, hat, hfit, hfu⟩ := HH.out
            obtain ⟨N, hN⟩ : ∃ N, N = subN U ⟨kd, fr', ix', kids'⟩ I := ⟨_, rfl⟩
            have hbs : -1 ≤ I ∧ I ≤ i + 1 ∧ (i = -1 → I = -1) := by
              rw [HBI.out]
              unfold bump
              split <;> omega
            have hsz2 : kids'.sz < n ∧ 1 + hF kids' ≤ hF kids ∧ (kids'.len ≤ 1000 ∧ lnF kids') := by
              rw [hfe, F.sz_app] at hn
              rw [hfe, hF_app]
              rw [hfe, lnF_app] at hw1
              simp only [F.sz, hF, lnF] at hn hw1 ⊢
              exact ⟨by omega, by omega, hw1.2.1, hw1.2.2.1⟩
            have HCALL : Hid (∀ w', Sl w' sv' kids' → Sl w' su U.kids → Calls Try.prog 27 #[.agg #[.int .i64 kd, .string fr', .int .i64 ix', sv'], .agg #[.int .i64 U.k, .string U.fr, .int .i64 U.ix, su], .int .i64 I] w' (MadeN N.k N.fr N.ix N.kids w')) := hide (fun w' h1 h2 => by
              rw [hN]
              refine ih w' kd ix' I fr' sv' kids' U su hsz2.1 h1 h2 ⟨l2, l3, l4⟩ hfu hbs.1 (by omega) hsz2.2.2 ?_
              rcases hc with hc | hc
              · exact absurd (congrArg F.len (hfe.symm.trans hc.1)) (by rw [F.len_app]; simp [F.len])
              · exact Or.inr hc)
            have HFN : Hid (Fit N) := hide (by rw [hN]; exact subN_fit ⟨l2, l3, l4⟩ hfu)
            have hdr : Still wr wr.drew := fun _ _ h => h
            have HSV := hide (hsv.still hdr)
            have HSU := hide ((hsu.still (Still.of_below hb)).still hdr)
            have hpl : p.len ≤ 1000 := by omega
            have HSL : Hid ((subF U p I).len ≤ 1000) := hide (by rw [subF_len]; exact hpl)
            have HL := hide l1
            have hyl := hy.lt
            have hol := ho.lt
            have hbl := World.block_lt_of_cell? _ _ c0
            have hbw : b' < w.heap.size := by
              obtain ⟨b2, o2, e2, _, _, _, _, q0, _⟩ := hg.head
              simp only [Option.some.injEq, Addr.mk.injEq, and_true] at e2
              rw [e2.1]
              exact World.block_lt_of_cell? _ _ q0
            have o4 := ho.cells.2.2.2
            have HO := hide ho
            have HGR := hide (hgr.below (w' := wr.drew) (Below.refl _ _).drew)
            have HB := hide hb
            have HE := hide hfe
            have HNN := hide hN
            have HR := hide (And.intro hx (And.intro hy (And.intro hz hg)))
            clear hx hy hz ho hgr hb hfe hN hg hsu hsv l1 l2 l3 l4 hn hi2 hw1 hc hat hfit hfu hsz2 hdr
            go_wp2_with fail
            refine wp_region_T (fun w' => w'.cell? ⟨w.heap.size, 3, none⟩ = some (.slice (some ⟨b', o, none⟩) kids.len cap) ∧ w'.cell? ⟨w.heap.size + 3, 3, none⟩ = some v ∧
                w'.cell? ⟨b', o + p.len * 5, none⟩ = some (.string lab) ∧ w'.cell? ⟨b', o + p.len * 5 + 1, none⟩ = some (.int .i64 kd) ∧ w'.cell? ⟨b', o + p.len * 5 + 2, none⟩ = some (.string fr') ∧ w'.cell? ⟨b', o + p.len * 5 + 3, none⟩ = some (.int .i64 ix') ∧ w'.cell? ⟨b', o + p.len * 5 + 4, none⟩ = some sv' ∧
                w'.cell? ⟨w.heap.size + 1, 0, none⟩ = some (.int .i64 U.k) ∧ w'.cell? ⟨w.heap.size + 1, 1, none⟩ = some (.string U.fr) ∧ w'.cell? ⟨w.heap.size + 1, 2, none⟩ = some (.int .i64 U.ix) ∧ w'.cell? ⟨w.heap.size + 1, 3, none⟩ = some su) 21 (by kernel_rfl) ⟨x4, o4, c0, c1, c2, c3, c4, y0, y1, y2, y3⟩ (fun hHeld => ?_)
            refine wpAnyT_take (L := 21) (i := 0) (v := ?v0) rfl (by kernel_rfl) (by kernel_rfl) (by kernel_rfl) (by kernel_rfl) (fun _ _ _ h => h) hHeld (Or.inl ⟨by rfl, ?hy0⟩) ?rest0
            case hy0 => ((intro w' hw'); (try dsimp only at hw'); (go_simp); (try with_reducible rfl))
            (try simp only [Act.put]); (try simp only [List.setIfInBounds_toArray]); (try simp only [List.set_cons_zero]); (try simp only [List.set_cons_succ])
            refine wpAnyT_take (L := 21) (i := 1) (v := ?v1) rfl (by kernel_rfl) (by kernel_rfl) (by kernel_rfl) (by kernel_rfl) (fun _ _ _ h => h) hHeld (Or.inl ⟨by rfl, ?hy1⟩) ?rest1
            case hy1 => ((intro w' hw'); (try dsimp only at hw'); (go_simp); (try with_reducible rfl))
            (try simp only [Act.put]); (try simp only [List.setIfInBounds_toArray]); (try simp only [List.set_cons_zero]); (try simp only [List.set_cons_succ])
            refine wpAnyT_take (L := 21) (i := 2) (v := ?v2) rfl (by kernel_rfl) (by kernel_rfl) (by kernel_rfl) (by kernel_rfl) (fun _ _ _ h => h) hHeld (Or.inl ⟨by rfl, ?hy2⟩) ?rest2
            case hy2 => ((intro w' hw'); (try dsimp only at hw'); (go_simp); (try with_reducible rfl))
            (try simp only [Act.put]); (try simp only [List.setIfInBounds_toArray]); (try simp only [List.set_cons_zero]); (try simp only [List.set_cons_succ])
            refine wpAnyT_take (L := 21) (i := 3) (v := ?v3) rfl (by kernel_rfl) (by kernel_rfl) (by kernel_rfl) (by kernel_rfl) (fun _ _ _ h => h) hHeld (Or.inl ⟨by rfl, ?hy3⟩) ?rest3
            case hy3 => ((intro w' hw'); (try dsimp only at hw'); (go_simp); (try with_reducible rfl))
            (try simp only [Act.put]); (try simp only [List.setIfInBounds_toArray]); (try simp only [List.set_cons_zero]); (try simp only [List.set_cons_succ])
            refine wpAnyT_take (L := 21) (i := 4) (v := ?v4) rfl (by kernel_rfl) (by kernel_rfl) (by kernel_rfl) (by kernel_rfl) (fun _ _ _ h => h) hHeld (Or.inl ⟨by rfl, ?hy4⟩) ?rest4
            case hy4 => ((intro w' hw'); (try dsimp only at hw'); (go_simp); (try with_reducible rfl))
            (try simp only [Act.put]); (try simp only [List.setIfInBounds_toArray]); (try simp only [List.set_cons_zero]); (try simp only [List.set_cons_succ])
            refine wpAnyT_take (L := 21) (i := 5) (v := ?v5) rfl (by kernel_rfl) (by kernel_rfl) (by kernel_rfl) (by kernel_rfl) (fun _ _ _ h => h) hHeld (Or.inl ⟨by rfl, ?hy5⟩) ?rest5
            case hy5 => ((intro w' hw'); (try dsimp only at hw'); (go_simp); (try with_reducible rfl))
            (try simp only [Act.put]); (try simp only [List.setIfInBounds_toArray]); (try simp only [List.set_cons_zero]); (try simp only [List.set_cons_succ])
            refine wpAnyT_take (L := 21) (i := 6) (v := ?v6) rfl (by kernel_rfl) (by kernel_rfl) (by kernel_rfl) (by kernel_rfl) (fun _ _ _ h => h) hHeld (Or.inl ⟨by rfl, ?hy6⟩) ?rest6
            case hy6 => ((intro w' hw'); (try dsimp only at hw'); (go_simp); (try with_reducible rfl))
            (try simp only [Act.put]); (try simp only [List.setIfInBounds_toArray]); (try simp only [List.set_cons_zero]); (try simp only [List.set_cons_succ])
            refine wpAnyT_take (L := 21) (i := 7) (v := ?v7) rfl (by kernel_rfl) (by kernel_rfl) (by kernel_rfl) (by kernel_rfl) (fun _ _ _ h => h) hHeld (Or.inl ⟨by rfl, ?hy7⟩) ?rest7
            case hy7 => ((intro w' hw'); (try dsimp only at hw'); (go_simp); (try with_reducible rfl))
            (try simp only [Act.put]); (try simp only [List.setIfInBounds_toArray]); (try simp only [List.set_cons_zero]); (try simp only [List.set_cons_succ])
            refine wpAnyT_take (L := 21) (i := 8) (v := ?v8) rfl (by kernel_rfl) (by kernel_rfl) (by kernel_rfl) (by kernel_rfl) (fun _ _ _ h => h) hHeld (Or.inl ⟨by rfl, ?hy8⟩) ?rest8
            case hy8 => ((intro w' hw'); (try dsimp only at hw'); (go_simp); (try with_reducible rfl))
            (try simp only [Act.put]); (try simp only [List.setIfInBounds_toArray]); (try simp only [List.set_cons_zero]); (try simp only [List.set_cons_succ])
            refine wpAnyT_take (L := 21) (i := 9) (v := ?v9) rfl (by kernel_rfl) (by kernel_rfl) (by kernel_rfl) (by kernel_rfl) (fun _ _ _ h => h) hHeld (Or.inl ⟨by rfl, ?hy9⟩) ?rest9
            case hy9 => ((intro w' hw'); (try dsimp only at hw'); (go_simp); (try with_reducible rfl))
            (try simp only [Act.put]); (try simp only [List.setIfInBounds_toArray]); (try simp only [List.set_cons_zero]); (try simp only [List.set_cons_succ])
            refine wpAnyT_take (L := 21) (i := 10) (v := ?v10) rfl (by kernel_rfl) (by kernel_rfl) (by kernel_rfl) (by kernel_rfl) (fun _ _ _ h => h) hHeld (Or.inl ⟨by rfl, ?hy10⟩) ?rest10
            case hy10 => ((intro w' hw'); (try dsimp only at hw'); (go_simp); (try with_reducible rfl))
            (try simp only [Act.put]); (try simp only [List.setIfInBounds_toArray]); (try simp only [List.set_cons_zero]); (try simp only [List.set_cons_succ])
            refine wpAnyT_take (L := 21) (i := 11) (v := ?v11) rfl (by kernel_rfl) (by kernel_rfl) (by kernel_rfl) (by kernel_rfl) (fun _ _ _ h => h) hHeld (Or.inl ⟨by rfl, ?hy11⟩) ?rest11
            case hy11 => ((intro w' hw'); (try dsimp only at hw'); (go_simp); (try with_reducible rfl))
            (try simp only [Act.put]); (try simp only [List.setIfInBounds_toArray]); (try simp only [List.set_cons_zero]); (try simp only [List.set_cons_succ])
            refine wpAnyT_take (L := 21) (i := 12) (v := ?v12) rfl (by kernel_rfl) (by kernel_rfl) (by kernel_rfl) (by kernel_rfl) (fun _ _ _ h => h) hHeld (Or.inl ⟨by rfl, ?hy12⟩) ?rest12
            case hy12 => ((intro w' hw'); (try dsimp only at hw'); (go_simp); (try with_reducible rfl))
            (try simp only [Act.put]); (try simp only [List.setIfInBounds_toArray]); (try simp only [List.set_cons_zero]); (try simp only [List.set_cons_succ])
            refine wpAnyT_take (L := 21) (i := 13) (v := ?v13) rfl (by kernel_rfl) (by kernel_rfl) (by kernel_rfl) (by kernel_rfl) (fun _ _ _ h => h) hHeld (Or.inl ⟨by rfl, ?hy13⟩) ?rest13
            case hy13 => ((intro w' hw'); (try dsimp only at hw'); (go_simp); (try with_reducible rfl))
            (try simp only [Act.put]); (try simp only [List.setIfInBounds_toArray]); (try simp only [List.set_cons_zero]); (try simp only [List.set_cons_succ])
            refine wpAnyT_take (L := 21) (i := 14) (v := ?v14) rfl (by kernel_rfl) (by kernel_rfl) (by kernel_rfl) (by kernel_rfl) (fun _ _ _ h => h) hHeld (Or.inl ⟨by rfl, ?hy14⟩) ?rest14
            case hy14 => ((intro w' hw'); (try dsimp only at hw'); (go_simp); (try with_reducible rfl))
            (try simp only [Act.put]); (try simp only [List.setIfInBounds_toArray]); (try simp only [List.set_cons_zero]); (try simp only [List.set_cons_succ])
            refine wpAnyT_take (L := 21) (i := 15) (v := ?v15) rfl (by kernel_rfl) (by kernel_rfl) (by kernel_rfl) (by kernel_rfl) (fun _ _ _ h => h) hHeld (Or.inl ⟨by rfl, ?hy15⟩) ?rest15
            case hy15 => ((intro w' hw'); (try dsimp only at hw'); (go_simp); (try with_reducible rfl))
            (try simp only [Act.put]); (try simp only [List.setIfInBounds_toArray]); (try simp only [List.set_cons_zero]); (try simp only [List.set_cons_succ])
            refine wpAnyT_one (L := 21) (i := 16) (by kernel_rfl) rfl (fun K hK => ?_)
            go_simp
            go_at_call 27
            (with_reducible refine (HCALL.out _ ?_ ?_).mono ?_)
            · exact HSV.out
            · exact HSU.out
            rintro e w5 ⟨u, ks, rfl, how, hks, hknd, hb5⟩
            obtain ⟨ua, uc, rfl⟩ := how.val
            have hst := Still.of_below hb5
            have HD5 := hide (And.intro (hst _ _ x4) (And.intro (hst _ _ o4) (And.intro (hst _ _ c0) (And.intro (hst _ _ c1) (And.intro (hst _ _ c2) (And.intro (hst _ _ c3) (And.intro (hst _ _ c4) (And.intro (hst _ _ y0) (And.intro (hst _ _ y1) (And.intro (hst _ _ y2) (hst _ _ y3)))))))))))
            refine hK.out _ _ (fun _ => HD5.out) ?_
            clear hK K
            refine wpAnyT_take (L := 21) (i := 17) (v := ?v17) rfl (by kernel_rfl) (by kernel_rfl) (by kernel_rfl) (by kernel_rfl) (fun _ _ _ h => h) HD5.out (Or.inl ⟨by rfl, ?hy17⟩) ?rest17
            case hy17 => ((intro w' hw'); (try dsimp only at hw'); (go_simp); (try with_reducible rfl))
            (try simp only [Act.put]); (try simp only [List.setIfInBounds_toArray]); (try simp only [List.set_cons_zero]); (try simp only [List.set_cons_succ])
            refine wpAnyT_one (L := 21) (i := 18) (by kernel_rfl) rfl (fun K hK => ?_)
            go_simp
            have hst2 := Still.of_below (alloc_below w5 (.cells #[.string lab, .int .i64 N.k, .string N.fr, .int .i64 N.ix, .slice ua N.kids.len uc] ( /- t -/ 65)))
            obtain ⟨s0, s1, s2, s3, s4, s5, s6, s7, s8, s9, s10⟩ := HD5.out
            have HD6 := hide (And.intro (hst2 _ _ s0) (And.intro (hst2 _ _ s1) (And.intro (hst2 _ _ s2) (And.intro (hst2 _ _ s3) (And.intro (hst2 _ _ s4) (And.intro (hst2 _ _ s5) (And.intro (hst2 _ _ s6) (And.intro (hst2 _ _ s7) (And.intro (hst2 _ _ s8) (And.intro (hst2 _ _ s9) (hst2 _ _ s10)))))))))))
            refine hK.out _ _ (fun _ => HD6.out) ?_
            clear hK K
            (try simp only [Act.put]); (try simp only [List.setIfInBounds_toArray]); (try simp only [List.set_cons_zero]); (try simp only [List.set_cons_succ])
            refine wpAnyT_one (L := 21) (i := 19) (by kernel_rfl) rfl (fun K hK => ?_)
            have hgr5 := (HGR.out.below hb5).below (alloc_below w5 (.cells #[.string lab, .int .i64 N.k, .string N.fr, .int .i64 N.ix, .slice ua N.kids.len uc] ( /- t -/ 65)))
            refine step_append_lies _ (by rfl) _ _ _ (by rfl) (w.heap.size + 4) ( /- t -/ 65) i0 _ 5 72 Try.underlying23 HI.out.1 HI.out.2.1 HI.out.2.2.1 HI.out.2.2.2 rfl (by omega) v (subF U p I).len (grXs (w5.alloc (.cells #[.string lab, .int .i64 N.k, .string N.fr, .int .i64 N.ix, .slice ua N.kids.len uc] ( /- t -/ 65))) v (subF U p I)) (by rfl) hgr5.owns
              ⟨w5.heap.size, 0, none⟩ 1 1 [.string lab, .int .i64 N.k, .string N.fr, .int .i64 N.ix, .slice ua N.kids.len uc] (by rfl) (by rfl) (World.news_of_block (cs := #[.string lab, .int .i64 N.k, .string N.fr, .int .i64 N.ix, .slice ua N.kids.len uc]) (t := ( /- t -/ 65)) (fr := (0, 0)) (heap_alloc_new w5 _)) (by simp [Value.oneCell'])
              (by omega) (by have := HSL.out; unfold maxLen; omega) (by have := HSL.out; omega) (by have := hb5.size; simp at this ⊢; omega) _ rfl ?_
            intro gg cp w6 hown6 hgrow6 hat6 hlt6
            have hfar : ∀ (b o : Nat) (x : Value), b < w.heap.size + 4 → (w5.alloc (.cells #[.string lab, .int .i64 N.k, .string N.fr, .int .i64 N.ix, .slice ua N.kids.len uc] ( /- t -/ 65))).cell? ⟨b, o, none⟩ = some x → w6.cell? ⟨b, o, none⟩ = some x := fun b o x hb he => by
              rw [hgrow6.cell_far ⟨b, o, none⟩ (World.block_lt_of_cell? _ _ he) (fun e => by have := hgr5.ge b (hgr5.block b e.symm); omega)]
              exact he
            obtain ⟨s0, s1, s2, s3, s4, s5, s6, s7, s8, s9, s10⟩ := HD6.out
            have HD7 := hide (And.intro (hfar _ _ _ (by omega) s0) (And.intro (hfar _ _ _ (by omega) s1) (And.intro (hfar _ _ _ (by omega) s2) (And.intro (hfar _ _ _ (by omega) s3) (And.intro (hfar _ _ _ (by omega) s4) (And.intro (hfar _ _ _ (by omega) s5) (And.intro (hfar _ _ _ (by omega) s6) (And.intro (hfar _ _ _ (by omega) s7) (And.intro (hfar _ _ _ (by omega) s8) (And.intro (hfar _ _ _ (by omega) s9) (hfar _ _ _ (by omega) s10)))))))))))
            refine hK.out _ _ (fun _ => HD7.out) ?_
            clear hK K
            (try simp only [Act.put]); (try simp only [List.setIfInBounds_toArray]); (try simp only [List.set_cons_zero]); (try simp only [List.set_cons_succ])
            refine wpAnyT_take (L := 21) (i := 20) (v := ?v20) rfl (by kernel_rfl) (by kernel_rfl) (by kernel_rfl) (by kernel_rfl) (fun _ _ _ h => h) HD7.out (Or.inl ⟨by rfl, ?hy20⟩) ?rest20
            case hy20 => ((intro w' hw'); (try dsimp only at hw'); (go_simp); (try with_reducible rfl))
            (try simp only [Act.put]); (try simp only [List.setIfInBounds_toArray]); (try simp only [List.set_cons_zero]); (try simp only [List.set_cons_succ])
            have ho6 : Box4 w6 (w.heap.size + 3) (.int .i64 k) (.string fr) (.int .i64 ix) v := (((HO.out.same (w' := wr.drew) rfl).below hb5).below (alloc_below w5 (.cells #[.string lab, .int .i64 N.k, .string N.fr, .int .i64 N.ix, .slice ua N.kids.len uc] ( /- t -/ 65)))).same (hgrow6.block _ (by have := hb5.size; simp at this ⊢; omega) (fun e => by have := hgr5.ge _ (hgr5.block _ e.symm); omega))
            have o4 := ho6.cells.2.2.2
            have fo := ho6.frozen
            refine wpAnyT_one (L := 21) (i := 21) (by kernel_rfl) rfl (fun K hK => ?_)
            go_simp
            refine hK.out _ _ (fun h => absurd rfl h) ?_
            refine wpAnyT_done (by kernel_rfl) ?_ _
            clear hK K
            have hD : Below w.heap.size w w6 := by
              have h1 := HB.out.drew
              have h2 := h1.trans (hb5.mono h1.size)
              have h3 := h2.alloc h2.size (.cells #[.string lab, .int .i64 N.k, .string N.fr, .int .i64 N.ix, .slice ua N.kids.len uc] ( /- t -/ 65))
              exact ⟨hgrow6.os.trans h3.os, hgrow6.tape.trans h3.tape, hgrow6.output.trans h3.output, Nat.le_trans h3.size hgrow6.size, fun b hb => (hgrow6.block b (Nat.lt_of_lt_of_le hb h3.size) (fun e => by have := hgr5.ge b (hgr5.block b e.symm); omega)).trans (h3.block b hb)⟩
            have hou := how.same (Same.of_below (alloc_below w5 (.cells #[.string lab, .int .i64 N.k, .string N.fr, .int .i64 N.ix, .slice ua N.kids.len uc] ( /- t -/ 65))) how.lt)
            obtain ⟨q1, q2, q3⟩ := HFN.out
            have hwr : w.heap.size + 4 ≤ wr.heap.size := by have := hol; omega
            obtain ⟨bs', hpush, -⟩ := Gr.push hgr5 (k := N.k) (ix := N.ix) hou (fun b hb => by have := hks b hb; simp at this; omega) hknd
              (fun b hb hb2 => by have h1 := HGR.out.lt b hb; have h2 := hks b hb2; omega) HL.out q1 q2 q3 hown6 hgrow6 (by rcases hat6 with h | h; exact Or.inl h; exact Or.inr h)
            obtain ⟨hx, hy, hz, hg⟩ := HR.out
            have far : ∀ b, b < w.heap.size + 3 → (w6.setCell ⟨w.heap.size + 3, 3, none⟩ (.slice (some ⟨gg, 0, none⟩) ((subF U p I).len + 1) cp)).heap[b]? = wr.heap[b]? := fun b hb => by
              have h5 := hb5.size
              simp at h5
              rw [Below.heap_setCell _ _ _ _ (by simp; omega), hgrow6.block b (by simp; omega) (fun e => by have := hgr5.ge b (hgr5.block b e.symm); omega), Below.heap_alloc _ _ _ (by omega), hb5.block b (by simp; omega)]
              rfl
            have hEQ : (subF U p I).app (.cons lab N.k N.fr N.ix N.kids .nil) = subF U (p.app (.cons lab kd fr' ix' kids' .nil)) I := by
              rw [subF_app, subF_cons, HNN.out]
              rfl
            rw [hEQ] at hpush
            have HREL : Hid (SubRel w U k ix fr (.slice (some ⟨b', o, none⟩) kids.len cap) su kids I (some ⟨b', o, none⟩) (.int .i64 ((p.len + 1 : Nat) : Int)) (w6.setCell ⟨w.heap.size + 3, 3, none⟩ (.slice (some ⟨gg, 0, none⟩) ((subF U p I).len + 1) cp))) := hide
              ⟨p.app (.cons lab kd fr' ix' kids' .nil), rest, _, bs', by rw [HE.out, F.app_assoc]; rfl, by rw [F.len_app]; rfl, by rw [F.len_app]; exact hg.tail, hx.same (far _ (by omega)), hy.same (far _ (by omega)), hz.same (far _ (by omega)), ho6.set3 _,
                hpush.same (fun b hb => Below.heap_setCell _ _ _ _ (by have := hpush.ge b hb; simp; omega)), hD.setCell (by simp) _⟩
            clear hpush hx hy hz hg far hEQ hou hD hown6 hgrow6 hat6 hgr5 how hks hknd
            go_wp2_with fail
            go_roundw
            case rel => exact HREL.out
            case measure => simp [intOf]; omega

theorem subg_all : ∀ n, SubGt n := by
  intro n
  induction n with
  | zero => intro w k ix i fr sv kids U su hn; omega
  | succ n ih =>
    intro w k ix i fr sv kids U su hn hs hsu hfit hfu hi1 hi2 hw hc
    by_cases hv : k = 5 ∧ ix = i
    · obtain ⟨rfl, rfl⟩ := hv
      refine sub_var w ix fr sv kids U su hsu ?_
      rcases hc with hc | hc
      · exact absurd ⟨rfl, rfl⟩ hc.2
      · exact hc
    · have e : subN U ⟨k, fr, ix, kids⟩ i = ⟨k, fr, ix, subF U kids (bump k i)⟩ := by unfold subN; rw [if_neg hv]
      rw [e]
      exact (subg_loop n ih w k ix i fr sv kids U su hn hs hsu hfit hfu hi1 hi2 hw hc hv _ rfl).mono (fun _ _ h => h.made)

theorem zero_ok : CopyOk ⟨0, ⟨#[]⟩, 0, .nil⟩ := by
  intro w su hs
  have := subg_all 1 w 0 0 (-1) ⟨#[]⟩ su .nil ⟨0, ⟨#[]⟩, 0, .nil⟩ (.slice none 0 0) (by simp [F.sz]) hs Sl.nil ⟨by decide, by decide, by decide⟩ ⟨by decide, by decide, by decide⟩ (by omega) (by simp [hF]) ⟨by simp [F.len], trivial⟩ (Or.inl ⟨rfl, by omega⟩)
  exact this

/-- What a copy is of any tree: a variable with the index -1 is replaced by the zero value. -/
def cpz (U : Nd) : Nd := subN ⟨0, ⟨#[]⟩, 0, .nil⟩ U (-1)
theorem zero_okH (w : World) (su : Value) (hs : Sl w su .nil) :
    Calls Try.prog 27 #[.agg #[.int .i64 0, .string ⟨#[]⟩, .int .i64 0, su], .agg #[.int .i64 0, .string ⟨#[]⟩, .int .i64 0, .slice none 0 0], .int .i64 (-1)] w (MadeH 0 ⟨#[]⟩ 0 .nil w) :=
  subg_loop 0 (subg_all 0) w 0 0 (-1) ⟨#[]⟩ su .nil ⟨0, ⟨#[]⟩, 0, .nil⟩ (.slice none 0 0) (by simp [F.sz]) hs Sl.nil ⟨by decide, by decide, by decide⟩ ⟨by decide, by decide, by decide⟩ (by omega) (by simp [hF]) ⟨by simp [F.len], trivial⟩ (Or.inl ⟨rfl, by omega⟩) (by omega) _ rfl
set_option maxHeartbeats 1000000 in
set_option maxRecDepth 100000 in
theorem subv_H (w : World) (fr : ByteArray) (sv : Value) :
    Calls Try.prog 27 #[.agg #[.int .i64 5, .string fr, .int .i64 (-1), sv], .agg #[.int .i64 0, .string ⟨#[]⟩, .int .i64 0, .slice none 0 0], .int .i64 (-1)] w
    (MadeH 0 ⟨#[]⟩ 0 .nil w) := by
  go_enter Try.func27, Try.ntmps27
  go_wp2_with fail
  refine (zero_okH _ _ Sl.nil).mono ?_
  rintro e w1 ⟨u, bs, rfl, how, hb⟩
  obtain ⟨ua, uc, rfl⟩ := how.val
  have HO := hide how
  have HG := hide how.ge
  clear how
  obtain ⟨hc, hf⟩ := bcell hb
  have hz := hb.size
  simp at hz
  go_wp2_with fail
  refine bodyPost_ret (v := .agg #[.int .i64 0, .string ⟨#[]⟩, .int .i64 0, .slice ua F.nil.len uc]) (by simp [results, Try.results27, go_sem, hc]) rfl ?_
  have hB : Below w.heap.size w w1 := ((((alloc_below w _).alloc (by simp) _).alloc (by simp; omega) _).trans (hb.mono (by simp; omega)))
  have q : ∀ b, b ∈ bs → w.heap.size + 3 ≤ b := fun b h => by have := HG.out b h; simp at this; omega
  refine ⟨_, bs, rfl, (HO.out.same ?_).mono (by simp; omega), ?_⟩
  · repeat (refine Same.setCell ?_ (fun b h => by have := q b h; simp; omega) _)
    exact Same.refl _ _
  · repeat (refine Below.setCell ?_ (by first | (simp; done) | (simp; omega)) _)
    exact hB
theorem copyg_sub (w : World) (U : Nd) (su : Value) (hs : Sl w su U.kids) (hf : Fit U) (hh : hF U.kids ≤ 900000) (hl : U.kids.len ≤ 1000 ∧ lnF U.kids) :
    Calls Try.prog 27 #[.agg #[.int .i64 U.k, .string U.fr, .int .i64 U.ix, su], .agg #[.int .i64 0, .string ⟨#[]⟩, .int .i64 0, .slice none 0 0], .int .i64 (-1)] w (MadeH (cpz U).k (cpz U).fr (cpz U).ix (cpz U).kids w) := by
  by_cases hv : U.k = 5 ∧ U.ix = -1
  · have h := subv_H w U.fr su
    have e : cpz U = ⟨0, ⟨#[]⟩, 0, .nil⟩ := by unfold cpz subN; rw [if_pos hv]
    rw [e, hv.1, hv.2]
    exact h
  · have e : cpz U = ⟨U.k, U.fr, U.ix, subF ⟨0, ⟨#[]⟩, 0, .nil⟩ U.kids (bump U.k (-1))⟩ := by unfold cpz subN; rw [if_neg hv]
    rw [e]
    exact subg_loop U.kids.sz (subg_all _) w U.k U.ix (-1) U.fr su U.kids ⟨0, ⟨#[]⟩, 0, .nil⟩ (.slice none 0 0) (Nat.lt_succ_self _) hs Sl.nil hf ⟨by decide, by decide, by decide⟩ (by omega) (by omega) hl (Or.inr zero_ok) hv _ rfl

set_option maxHeartbeats 1000000 in
set_option maxRecDepth 100000 in
theorem copyg_calls (w : World) (U : Nd) (su : Value) (hsu : Sl w su U.kids) (hf : Fit U) (hh : hF U.kids ≤ 900000) (hl : U.kids.len ≤ 1000 ∧ lnF U.kids) :
    Calls Try.prog 28 #[.agg #[.int .i64 U.k, .string U.fr, .int .i64 U.ix, su]] w (MadeH (cpz U).k (cpz U).fr (cpz U).ix (cpz U).kids w) := by
  have HC := hide (fun (w' : World) (su : Value) (hs : Sl w' su U.kids) => copyg_sub w' U su hs hf hh hl)
  have HS := hide hsu
  clear hf hh hl hsu
  go_enter Try.func28, Try.ntmps28
  go_wp2_with fail
  refine (HC.out _ su (HS.out.still (Still.of_below ?_))).mono ?_
  · exact (alloc_below _ _).alloc (by simp) _
  rintro e w1 ⟨u, bs, rfl, how, hb⟩
  obtain ⟨ua, uc, rfl⟩ := how.val
  have HO := hide how
  have HG := hide how.ge
  clear how
  obtain ⟨hc, hf⟩ := bcell hb
  have hz := hb.size
  simp at hz
  go_wp2_with fail
  refine bodyPost_ret (v := .agg #[.int .i64 (cpz U).k, .string (cpz U).fr, .int .i64 (cpz U).ix, .slice ua (cpz U).kids.len uc]) (by simp [results, Try.results28, go_sem, hc]) rfl ?_
  have hB : Below w.heap.size w w1 := (((alloc_below w _).alloc (by simp) _).trans (hb.mono (by simp; omega)))
  have q : ∀ b, b ∈ bs → w.heap.size + 2 ≤ b := fun b h => by have := HG.out b h; simp at this; omega
  refine ⟨_, bs, rfl, (HO.out.same ?_).mono (by simp; omega), ?_⟩
  · repeat (refine Same.setCell ?_ (fun b h => by have := q b h; simp; omega) _)
    exact Same.refl _ _
  · repeat (refine Below.setCell ?_ (by first | (simp; done) | (simp; omega)) _)
    exact hB
end Go.Proofs.Ytpjbffggeegdaaa.Lo

/- l2Mutate of the model: any tree, changed a little. -/
namespace Go.Proofs.Ytpjbffggeegdaaa.Lo
open Go.RowKit

theorem cpz_sz (Z : Nd) (hZ : Z.kids = .nil) : ∀ (f : F) (i : Int), (subF Z f i).sz ≤ f.sz := by
  intro f
  induction f with
  | nil => intro i; exact Nat.le_refl _
  | cons lab k fr ix kids rest ihk ihr =>
    intro i
    unfold subF
    split
    · simp only [F.sz, hZ]
      have := ihr i
      omega
    · simp only [F.sz]
      have h1 := ihk (bump k i)
      have h2 := ihr i
      omega
theorem cpz_sm (Z : Nd) (hZ : Z.kids = .nil) (hz : Z.ix = 0) : ∀ (f : F) (i : Int), smF f → smF (subF Z f i) := by
  intro f
  induction f with
  | nil => intro i _; trivial
  | cons lab k fr ix kids rest ihk ihr =>
    intro i h
    unfold subF
    split
    · simp only [smF, hZ, hz]
      exact ⟨by omega, trivial, ihr i h.2.2⟩
    · simp only [smF]
      exact ⟨h.1, ihk _ h.2.1, ihr i h.2.2⟩
theorem hF_sz : ∀ f : F, hF f ≤ f.sz
  | .nil => by simp [hF]
  | .cons lab k fr ix kids rest => by
    have h1 := hF_sz kids
    have h2 := hF_sz rest
    simp only [hF, F.sz]
    omega
theorem cpzN_sz (g : Nd) : (cpz g).kids.sz ≤ g.kids.sz := by
  unfold cpz subN
  split
  · exact Nat.zero_le _
  · exact cpz_sz _ rfl _ _
theorem cpzN_sm (g : Nd) (h : smF g.kids) : smF (cpz g).kids := by
  unfold cpz subN
  split
  · trivial
  · exact cpz_sm _ rfl rfl _ _ h
theorem cpzN_fit {g : Nd} (h : Fit g) : Fit (cpz g) := subN_fit h ⟨Nat.zero_le _, show (Lit.int .i64 0).wf = true by decide, show (Lit.int .i64 0).wf = true by decide⟩
theorem St.set {w : World} {rb : Nat} {cv : Value} {l : List Nat} {p : Nat} {W : World} {q : Nat} (h : St w rb cv l p W q) (a : Addr) (v : Value) (ha : w.heap.size < a.block) : St w rb cv l p (W.setCell a v) q := by
  have hl := h.start.lt
  have ho : Only rb w (W.setCell a v) := h.only.setCell (Or.inr (by omega)) v
  exact ⟨h.start, ho, h.start.fin h.rd ho (Below.heap_setCell _ _ _ _ (by omega)), h.box.same (Below.heap_setCell _ _ _ _ (by omega))⟩
theorem St.boxq {w : World} {rb : Nat} {cv : Value} {l : List Nat} {p : Nat} {W : World} {q : Nat} {cs : Array Value} {t : TypeId} (h : St (w.alloc (.cells cs t)) rb cv l p W q) : Box4 W (w.heap.size + 1) (.int .i64 0) (.string ⟨#[]⟩) (.int .i64 0) (.slice none 0 0) := by
  have := h.box
  rwa [show (w.alloc (.cells cs t)).heap.size = w.heap.size + 1 by simp] at this
theorem St.drew {w : World} {rb : Nat} {cv : Value} {l : List Nat} {p : Nat} {W : World} {q : Nat} (h : St w rb cv l p W q) : St w rb cv l p W.drew q := h.on (Only.refl _ _).drew h.rd.drew
theorem St.below {w : World} {rb : Nat} {cv : Value} {l : List Nat} {p : Nat} {W W' : World} {q : Nat} (h : St w rb cv l p W q) (hb : Below W.heap.size W W') : St w rb cv l p W' q := h.on ((Only.refl _ _).below hb) (h.rd.below hb)
theorem DrP.back {Q : Nd → Prop} {w w1 : World} {rb : Nat} {cv : Value} {l : List Nat} {p K S : Nat} {e : Ending} {w' : World} {cs : Array Value} (t : TypeId) (hw : w1 = w.alloc (.cells cs t)) (h : DrP Q w1 rb cv l p K S e w') : DrP Q w rb cv l p K S e w' := by
  subst hw
  obtain ⟨N, u, bs, h1, h2, h3⟩ := h
  have hz : w.heap.size ≤ (w.alloc (.cells cs t)).heap.size := by simp
  exact ⟨N, u, bs, h1, h2, h3.own, fun b hb => Nat.le_trans hz (h3.ge b hb), h3.nd, ((Only.refl rb w).alloc _).trans h3.only, h3.rd, h3.fit, h3.sz⟩
theorem sl7i (w : World) (s0 s1 s2 s3 s4 s5 s6 : Int) (t : TypeId) :
    SlG elI64 (w.alloc (.cells #[.int .i64 s0, .int .i64 s1, .int .i64 s2, .int .i64 s3, .int .i64 s4, .int .i64 s5, .int .i64 s6] t)) (.slice (some ⟨w.heap.size, 0, none⟩) 7 7) [s0, s1, s2, s3, s4, s5, s6] := by
  have hh := heap_new w (.cells #[.int .i64 s0, .int .i64 s1, .int .i64 s2, .int .i64 s3, .int .i64 s4, .int .i64 s5, .int .i64 s6] t)
  refine ⟨_, 7, rfl, Nat.le_refl _, by unfold maxLen; omega, Or.inr ⟨w.heap.size, 0, rfl, ?_, ?_, ?_, ?_, ?_, ?_, ?_, trivial⟩⟩
  all_goals (show World.cell? _ _ = _; rw [cell_of_heap hh]; rfl)

set_option maxHeartbeats 4000000 in
set_option maxRecDepth 100000 in
theorem mut_calls (w : World) (rb : Nat) (cv : Value) (l : List Nat) (p : Nat) (h : Rd w rb cv l p) (hp : p + 4 ≤ 1000000) (g : Nd) (sv : Value) (hs : Sl w sv g.kids) (hf : Fit g) (hsz : g.kids.sz ≤ 900) :
    Calls Try.prog 21 #[.pointer (some ⟨rb, 0, none⟩), .agg #[.int .i64 g.k, .string g.fr, .int .i64 g.ix, sv]] w (DrP (fun N => smF g.kids → smF N.kids) w rb cv l p 4 (g.kids.sz + 1)) := by
  have hrb := h.lt
  have HS0 := hide (St.new (h.below (alloc_below w (.cells #[.int .i64 g.k, .string g.fr, .int .i64 g.ix, sv] ( /- t -/ 25)))) ( /- t -/ 25))
  have HSV := hide hs
  have HF := hide hf
  have HFC := hide (cpzN_fit hf)
  have HCP := hide (fun (w' : World) (hs : Sl w' sv g.kids) => copyg_calls w' g sv hs hf (by have := hF_sz g.kids; omega) ⟨by have := len_sz g.kids; omega, lnF_sz _ (by omega)⟩)
  obtain ⟨i0, hinf, hz0, hz1, hz2⟩ := info_parts Try.info65
  have HI := hide (And.intro hinf (And.intro hz0 (And.intro hz1 hz2)))
  clear hinf hz0 hz1 hz2 h hs hf
  go_enter Try.func21, Try.ntmps21
  go_wp2_with fail
  have HB2 := hide (((alloc_below w (.cells #[.int .i64 g.k, .string g.fr, .int .i64 g.ix, sv] ( /- t -/ 25)))).alloc (by simp) (.cells #[.int .i64 0, .string ⟨#[]⟩, .int .i64 0, .slice none 0 0] ( /- t -/ 25)))
  refine (HCP.out _ (HSV.out.still (Still.of_below HB2.out))).mono ?_
  rintro e wc ⟨u, bs, rfl, hgr, hb⟩
  obtain ⟨ua, uc, rfl⟩ := hgr.val
  have hz2 : w.heap.size + 2 ≤ wc.heap.size := by have := hb.size; simpa using this
  have HS1 := hide ((HS0.out.below hb).alloc (.cells #[.int .i64 (cpz g).k, .string (cpz g).fr, .int .i64 (cpz g).ix, .slice ua (cpz g).kids.len uc] ( /- t -/ 25)))
  have HO0 := hide (Box4.now wc (.int .i64 (cpz g).k) (.string (cpz g).fr) (.int .i64 (cpz g).ix) (.slice ua (cpz g).kids.len uc) ( /- t -/ 25))
  have HG00 := hide ((hgr.below (alloc_below wc (.cells #[.int .i64 (cpz g).k, .string (cpz g).fr, .int .i64 (cpz g).ix, .slice ua (cpz g).kids.len uc] ( /- t -/ 25)))).mono (base' := w.heap.size + 2) (by simp))
  have HGOB : Hid (∀ x, x ∈ bs → x < wc.heap.size) := hide hgr.lt
  have hwv : wc.heap.size < (wc.alloc (.cells #[.int .i64 (cpz g).k, .string (cpz g).fr, .int .i64 (cpz g).ix, .slice ua (cpz g).kids.len uc] ( /- t -/ 25))).heap.size := by simp
  clear hgr hb HS0
  go_upto_region 2 with fail
  generalize wc.alloc (.cells #[.int .i64 (cpz g).k, .string (cpz g).fr, .int .i64 (cpz g).ix, .slice ua (cpz g).kids.len uc] ( /- t -/ 25)) = V at *
  generalize wc.heap.size = ob at *
  clear wc
  go_wp2_with fail
  refine (pick_calls _ rb cv l _ HS1.out.rd (by omega) 60 (by omega)).mono ?_
  rintro e wp ⟨v, rfl, hv, hask⟩
  have HP := hide (HS1.out.ask hask)
  have HO1 := hide (HO0.out.same (hask.only.block ob (by omega) (by omega)))
  have HG1 := hide (HG00.out.same (hask.only.same (fun x hx => ⟨HG00.out.lt x hx, by have := HG00.out.ge x hx; omega⟩)))
  have hwp : ob < wp.heap.size := HO1.out.lt
  clear hask HS1 HO0 HG00 hv hwv
  by_cases hv0 : v = 0
  · subst hv0
    go_wp2_with fail
    have HA0 := hide (HP.out.alloc (.cells #[.int .i64 0, .int .i64 6, .int .i64 1, .int .i64 2, .int .i64 3, .int .i64 4, .int .i64 5] ( /- t -/ 3)))
    have HB0 := hide (HO1.out.below (alloc_below wp (.cells #[.int .i64 0, .int .i64 6, .int .i64 1, .int .i64 2, .int .i64 3, .int .i64 4, .int .i64 5] ( /- t -/ 3))))
    have HG0 := hide (HG1.out.below (alloc_below wp (.cells #[.int .i64 0, .int .i64 6, .int .i64 1, .int .i64 2, .int .i64 3, .int .i64 4, .int .i64 5] ( /- t -/ 3))))
    refine (num_calls _ rb cv l _ HA0.out.rd (by omega) [0, 6, 1, 2, 3, 4, 5] _ (sl7i wp _ _ _ _ _ _ _ ( /- t -/ 3)) (by decide) (by decide) (new_far HP.out.rd.lt)).mono ?_
    rintro e wq ⟨nv, hnv, rfl, hask⟩
    have HNW := hide (wf_all hnv (by decide))
    have HQ := hide (HA0.out.ask hask)
    have HOQ := hide (HB0.out.same (hask.only.block ob (by simp; omega) (by omega)))
    have HGQ := hide (HG0.out.same (hask.only.same (fun x hx => ⟨HG0.out.lt x hx, by have := HG0.out.ge x hx; omega⟩)))
    clear hask HA0 HB0 HG0 hnv
    obtain ⟨y0, y1, y2, y3⟩ := HOQ.out.cells
    have fy := HOQ.out.frozen
    have ly := HOQ.out.lt
    obtain ⟨x0, x1, x2, x3⟩ := HQ.out.boxq.cells
    have fx := HQ.out.boxq.frozen
    have lx := HQ.out.boxq.lt
    go_wp2_with fail
    have HR := hide (HQ.out.set ⟨ob, 0, none⟩ (.int .i64 nv) (by simp; omega))
    have HGR := hide (HGQ.out.same (w' := wq.setCell ⟨ob, 0, none⟩ (.int .i64 nv)) (fun x hx => Below.heap_setCell _ _ _ _ (by have := HGOB.out x hx; simp; omega)))
    refine bodyPost_ret (v := .agg #[.int .i64 nv, .string (cpz g).fr, .int .i64 (cpz g).ix, .slice ua (cpz g).kids.len uc]) (by simp [results, Try.results21, go_sem, *]) rfl ?_
    exact DrP.back (( /- t -/ 25)) rfl ⟨⟨nv, (cpz g).fr, (cpz g).ix, (cpz g).kids⟩, _, _, rfl, fun h => cpzN_sm g h, dr_fin (N := ⟨nv, (cpz g).fr, (cpz g).ix, (cpz g).kids⟩) HR.out.start HR.out.only HR.out.rd (by omega) HGR.out.ow (w.heap.size + 1) (by simp) (fun x hx => by have := HGR.out.ge x hx; omega) HGR.out.nodup ⟨HFC.out.1, HNW.out, HFC.out.2.2⟩ (Nat.le_trans (cpzN_sz g) (Nat.le_succ _)) _ _ _ _⟩
  by_cases hv1 : v = 1
  · subst hv1
    go_wp2_with fail
    have HA0 := hide (HP.out.alloc (.cells #[.string ⟨#[]⟩, .string ⟨#[68]⟩, .string ⟨#[66]⟩, .string ⟨#[65]⟩] ( /- t -/ 9)))
    have HB0 := hide (HO1.out.below (alloc_below wp (.cells #[.string ⟨#[]⟩, .string ⟨#[68]⟩, .string ⟨#[66]⟩, .string ⟨#[65]⟩] ( /- t -/ 9))))
    have HG0 := hide (HG1.out.below (alloc_below wp (.cells #[.string ⟨#[]⟩, .string ⟨#[68]⟩, .string ⟨#[66]⟩, .string ⟨#[65]⟩] ( /- t -/ 9))))
    refine (of_calls _ rb cv l _ HA0.out.rd (by omega) [⟨#[]⟩, ⟨#[68]⟩, ⟨#[66]⟩, ⟨#[65]⟩] _ (sl4 wp _ _ _ _ ( /- t -/ 9) (show (0 : Nat) ≤ maxLen by unfold maxLen; omega) (show (1 : Nat) ≤ maxLen by unfold maxLen; omega) (show (1 : Nat) ≤ maxLen by unfold maxLen; omega) (show (1 : Nat) ≤ maxLen by unfold maxLen; omega)) (by decide) (by decide) (new_far HP.out.rd.lt)).mono ?_
    rintro e wq ⟨nv, hnv, rfl, hask⟩
    have HNW := hide (small_all hnv (by decide))
    have HQ := hide (HA0.out.ask hask)
    have HOQ := hide (HB0.out.same (hask.only.block ob (by simp; omega) (by omega)))
    have HGQ := hide (HG0.out.same (hask.only.same (fun x hx => ⟨HG0.out.lt x hx, by have := HG0.out.ge x hx; omega⟩)))
    clear hask HA0 HB0 HG0 hnv
    obtain ⟨y0, y1, y2, y3⟩ := HOQ.out.cells
    have fy := HOQ.out.frozen
    have ly := HOQ.out.lt
    obtain ⟨x0, x1, x2, x3⟩ := HQ.out.boxq.cells
    have fx := HQ.out.boxq.frozen
    have lx := HQ.out.boxq.lt
    go_wp2_with fail
    have HR := hide (HQ.out.set ⟨ob, 1, none⟩ (.string nv) (by simp; omega))
    have HGR := hide (HGQ.out.same (w' := wq.setCell ⟨ob, 1, none⟩ (.string nv)) (fun x hx => Below.heap_setCell _ _ _ _ (by have := HGOB.out x hx; simp; omega)))
    refine bodyPost_ret (v := .agg #[.int .i64 (cpz g).k, .string nv, .int .i64 (cpz g).ix, .slice ua (cpz g).kids.len uc]) (by simp [results, Try.results21, go_sem, *]) rfl ?_
    exact DrP.back (( /- t -/ 25)) rfl ⟨⟨(cpz g).k, nv, (cpz g).ix, (cpz g).kids⟩, _, _, rfl, fun h => cpzN_sm g h, dr_fin (N := ⟨(cpz g).k, nv, (cpz g).ix, (cpz g).kids⟩) HR.out.start HR.out.only HR.out.rd (by omega) HGR.out.ow (w.heap.size + 1) (by simp) (fun x hx => by have := HGR.out.ge x hx; omega) HGR.out.nodup ⟨HNW.out, HFC.out.2.1, HFC.out.2.2⟩ (Nat.le_trans (cpzN_sz g) (Nat.le_succ _)) _ _ _ _⟩
  by_cases hv2 : v = 2
  · subst hv2
    go_wp2_with fail
    have HA0 := hide (HP.out.alloc (.cells #[.int .i64 (-1), .int .i64 1, .int .i64 9223372036854775807] ( /- t -/ 3)))
    have HB0 := hide (HO1.out.below (alloc_below wp (.cells #[.int .i64 (-1), .int .i64 1, .int .i64 9223372036854775807] ( /- t -/ 3))))
    have HG0 := hide (HG1.out.below (alloc_below wp (.cells #[.int .i64 (-1), .int .i64 1, .int .i64 9223372036854775807] ( /- t -/ 3))))
    refine (num_calls _ rb cv l _ HA0.out.rd (by omega) [-1, 1, 9223372036854775807] _ (sl3i wp _ _ _ ( /- t -/ 3)) (by decide) (by decide) (new_far HP.out.rd.lt)).mono ?_
    rintro e wq ⟨nv, hnv, rfl, hask⟩
    have HNW := hide (wf_all hnv (by decide))
    have HQ := hide (HA0.out.ask hask)
    have HOQ := hide (HB0.out.same (hask.only.block ob (by simp; omega) (by omega)))
    have HGQ := hide (HG0.out.same (hask.only.same (fun x hx => ⟨HG0.out.lt x hx, by have := HG0.out.ge x hx; omega⟩)))
    clear hask HA0 HB0 HG0 hnv
    obtain ⟨y0, y1, y2, y3⟩ := HOQ.out.cells
    have fy := HOQ.out.frozen
    have ly := HOQ.out.lt
    obtain ⟨x0, x1, x2, x3⟩ := HQ.out.boxq.cells
    have fx := HQ.out.boxq.frozen
    have lx := HQ.out.boxq.lt
    go_wp2_with fail
    have HR := hide (HQ.out.set ⟨ob, 2, none⟩ (.int .i64 nv) (by simp; omega))
    have HGR := hide (HGQ.out.same (w' := wq.setCell ⟨ob, 2, none⟩ (.int .i64 nv)) (fun x hx => Below.heap_setCell _ _ _ _ (by have := HGOB.out x hx; simp; omega)))
    refine bodyPost_ret (v := .agg #[.int .i64 (cpz g).k, .string (cpz g).fr, .int .i64 nv, .slice ua (cpz g).kids.len uc]) (by simp [results, Try.results21, go_sem, *]) rfl ?_
    exact DrP.back (( /- t -/ 25)) rfl ⟨⟨(cpz g).k, (cpz g).fr, nv, (cpz g).kids⟩, _, _, rfl, fun h => cpzN_sm g h, dr_fin (N := ⟨(cpz g).k, (cpz g).fr, nv, (cpz g).kids⟩) HR.out.start HR.out.only HR.out.rd (by omega) HGR.out.ow (w.heap.size + 1) (by simp) (fun x hx => by have := HGR.out.ge x hx; omega) HGR.out.nodup ⟨HFC.out.1, HFC.out.2.1, HNW.out⟩ (Nat.le_trans (cpzN_sz g) (Nat.le_succ _)) _ _ _ _⟩
  by_cases hv3 : v = 3
  · subst hv3
    have y4 := HO1.out.cells.2.2.2
    go_wp2_with fail
    refine wp_region_T (fun w' => w'.cell? ⟨ob, 3, none⟩ = some (.slice ua (cpz g).kids.len uc)) 10 (by kernel_rfl) y4 (fun hHeld => ?_)
    refine wpAnyT_take (L := 10) (i := 0) (v := ?v0) rfl (by kernel_rfl) (by kernel_rfl) (by kernel_rfl) (by kernel_rfl) (fun _ _ _ h => h) hHeld (Or.inl ⟨by rfl, ?hy0⟩) ?rest0
    case hy0 => ((intro w' hw'); (try dsimp only at hw'); (go_simp); (try with_reducible rfl))
    (try simp only [Act.put]); (try simp only [List.setIfInBounds_toArray]); (try simp only [List.set_cons_zero]); (try simp only [List.set_cons_succ])
    refine wpAnyT_take (L := 10) (i := 1) (v := ?v1) rfl (by kernel_rfl) (by kernel_rfl) (by kernel_rfl) (by kernel_rfl) (fun _ _ _ h => h) hHeld (Or.inl ⟨by rfl, ?hy1⟩) ?rest1
    case hy1 => ((intro w' hw'); (try dsimp only at hw'); (go_simp); (try with_reducible rfl))
    (try simp only [Act.put]); (try simp only [List.setIfInBounds_toArray]); (try simp only [List.set_cons_zero]); (try simp only [List.set_cons_succ])
    refine wpAnyT_take (L := 10) (i := 2) (v := ?v2) rfl (by kernel_rfl) (by kernel_rfl) (by kernel_rfl) (by kernel_rfl) (fun _ _ _ h => h) hHeld (Or.inl ⟨by rfl, ?hy2⟩) ?rest2
    case hy2 => ((intro w' hw'); (try dsimp only at hw'); (go_simp); (try with_reducible rfl))
    (try simp only [Act.put]); (try simp only [List.setIfInBounds_toArray]); (try simp only [List.set_cons_zero]); (try simp only [List.set_cons_succ])
    refine wpAnyT_take (L := 10) (i := 5) (v := ?v5) rfl (by kernel_rfl) (by kernel_rfl) (by kernel_rfl) (by kernel_rfl) (fun _ _ _ h => h) hHeld (Or.inl ⟨by rfl, ?hy5⟩) ?rest5
    case hy5 => ((intro w' hw'); (try dsimp only at hw'); (go_simp); (try with_reducible rfl))
    (try simp only [Act.put]); (try simp only [List.setIfInBounds_toArray]); (try simp only [List.set_cons_zero]); (try simp only [List.set_cons_succ])
    refine wpAnyT_one (L := 10) (i := 3) (by kernel_rfl) rfl (fun K hK => ?_)
    go_simp
    have HA0 := hide (HP.out.drew.alloc (.cells #[.string ⟨#[97]⟩, .string ⟨#[100]⟩, .string ⟨#[101]⟩, .string ⟨#[]⟩] ( /- t -/ 9)))
    have HB0 := hide ((HO1.out.same (w' := wp.drew) rfl).below (alloc_below wp.drew (.cells #[.string ⟨#[97]⟩, .string ⟨#[100]⟩, .string ⟨#[101]⟩, .string ⟨#[]⟩] ( /- t -/ 9))))
    have HG0 := hide ((HG1.out.same (w' := wp.drew) (fun _ _ => rfl)).below (alloc_below wp.drew (.cells #[.string ⟨#[97]⟩, .string ⟨#[100]⟩, .string ⟨#[101]⟩, .string ⟨#[]⟩] ( /- t -/ 9))))
    have hd3 : (wp.drew.alloc (.cells #[.string ⟨#[97]⟩, .string ⟨#[100]⟩, .string ⟨#[101]⟩, .string ⟨#[]⟩] ( /- t -/ 9))).cell? ⟨ob, 3, none⟩ = some (.slice ua (cpz g).kids.len uc) := HB0.out.cells.2.2.2
    have HD3 := hide hd3
    refine hK.out _ _ (fun _ => HD3.out) ?_
    clear hK K hd3
    (try simp only [Act.put]); (try simp only [List.setIfInBounds_toArray]); (try simp only [List.set_cons_zero]); (try simp only [List.set_cons_succ])
    refine wpAnyT_one (L := 10) (i := 4) (by kernel_rfl) rfl (fun K hK => ?_)
    go_simp
    go_at_call 32
    refine (of_calls _ rb cv l _ HA0.out.rd (by omega) [⟨#[97]⟩, ⟨#[100]⟩, ⟨#[101]⟩, ⟨#[]⟩] _ (sl4 wp.drew _ _ _ _ ( /- t -/ 9) (show (1 : Nat) ≤ maxLen by unfold maxLen; omega) (show (1 : Nat) ≤ maxLen by unfold maxLen; omega) (show (1 : Nat) ≤ maxLen by unfold maxLen; omega) (show (0 : Nat) ≤ maxLen by unfold maxLen; omega)) (by decide) (by decide) (new_far (w := wp.drew) HP.out.rd.lt)).mono ?_
    rintro e wq ⟨nv, hnv, rfl, hask⟩
    have HNW := hide (small_all hnv (by decide))
    have HQ := hide (HA0.out.ask hask)
    have HOQ := hide (HB0.out.same (hask.only.block ob (by simp; omega) (by omega)))
    have HGQ := hide (HG0.out.same (hask.only.same (fun x hx => ⟨HG0.out.lt x hx, by have := HG0.out.ge x hx; omega⟩)))
    clear hask HA0 HB0 HG0 hnv
    have hd4 : wq.cell? ⟨ob, 3, none⟩ = some (.slice ua (cpz g).kids.len uc) := HOQ.out.cells.2.2.2
    have HD4 := hide hd4
    refine hK.out _ _ (fun _ => HD4.out) ?_
    clear hK K hd4
    refine wpAnyT_take (L := 10) (i := 6) (v := ?v6) rfl (by kernel_rfl) (by kernel_rfl) (by kernel_rfl) (by kernel_rfl) (fun _ _ _ h => h) HD4.out (Or.inl ⟨by rfl, ?hy6⟩) ?rest6
    case hy6 => ((intro w' hw'); (try dsimp only at hw'); (go_simp); (try with_reducible rfl))
    (try simp only [Act.put]); (try simp only [List.setIfInBounds_toArray]); (try simp only [List.set_cons_zero]); (try simp only [List.set_cons_succ])
    refine wpAnyT_one (L := 10) (i := 7) (by kernel_rfl) rfl (fun K hK => ?_)
    go_simp
    have HD5 := hide (Still.of_below (alloc_below wq (.cells #[.string nv, .int .i64 1, .string ⟨#[]⟩, .int .i64 0, .slice none 0 0] ( /- t -/ 65))) _ _ HD4.out)
    refine hK.out _ _ (fun _ => HD5.out) ?_
    clear hK K
    (try simp only [Act.put]); (try simp only [List.setIfInBounds_toArray]); (try simp only [List.set_cons_zero]); (try simp only [List.set_cons_succ])
    refine wpAnyT_one (L := 10) (i := 8) (by kernel_rfl) rfl (fun K hK => ?_)
    have hgr5 := HGQ.out.below (alloc_below wq (.cells #[.string nv, .int .i64 1, .string ⟨#[]⟩, .int .i64 0, .slice none 0 0] ( /- t -/ 65)))
    have hwq : ob < wq.heap.size := HOQ.out.lt
    have hln : (cpz g).kids.len ≤ 1000 := Nat.le_trans (len_sz _) (Nat.le_trans (cpzN_sz g) (by omega))
    refine step_append_lies _ (by rfl) _ _ _ (by rfl) (w.heap.size + 2) ( /- t -/ 65) i0 _ 5 72 Try.underlying23 HI.out.1 HI.out.2.1 HI.out.2.2.1 HI.out.2.2.2 rfl (by omega) (.slice ua (cpz g).kids.len uc) (cpz g).kids.len (grXs (wq.alloc (.cells #[.string nv, .int .i64 1, .string ⟨#[]⟩, .int .i64 0, .slice none 0 0] ( /- t -/ 65))) (.slice ua (cpz g).kids.len uc) (cpz g).kids) (by rfl) hgr5.owns
      ⟨wq.heap.size, 0, none⟩ 1 1 [.string nv, .int .i64 1, .string ⟨#[]⟩, .int .i64 0, .slice none 0 0] (by rfl) (by rfl) (World.news_of_block (cs := #[.string nv, .int .i64 1, .string ⟨#[]⟩, .int .i64 0, .slice none 0 0]) (t := ( /- t -/ 65)) (fr := (0, 0)) (heap_alloc_new wq _)) (by simp [Value.oneCell'])
      (by omega) (by unfold maxLen; omega) (by omega) (by simp; omega) _ rfl ?_
    intro gg cp w6 hown6 hgrow6 hat6 hlt6
    have hfarb : ∀ b8, b8 < wq.heap.size → b8 ∉ bs → w6.heap[b8]? = wq.heap[b8]? := fun b8 hb8 hn8 => by
      rw [hgrow6.block b8 (by simp; omega) (fun e => hn8 (hgr5.block b8 e.symm)), Below.heap_alloc _ _ _ (by omega)]
    have hobn : ob ∉ bs := fun hm => by have := HGOB.out ob hm; omega
    have HO6 := hide (HOQ.out.same (hfarb ob hwq hobn))
    have HD6 := hide (HO6.out.cells.2.2.2)
    refine hK.out _ _ (fun _ => HD6.out) ?_
    clear hK K
    (try simp only [Act.put]); (try simp only [List.setIfInBounds_toArray]); (try simp only [List.set_cons_zero]); (try simp only [List.set_cons_succ])
    refine wpAnyT_take (L := 10) (i := 9) (v := ?v9) rfl (by kernel_rfl) (by kernel_rfl) (by kernel_rfl) (by kernel_rfl) (fun _ _ _ h => h) HD6.out (Or.inl ⟨by rfl, ?hy9⟩) ?rest9
    case hy9 => ((intro w' hw'); (try dsimp only at hw'); (go_simp); (try with_reducible rfl))
    (try simp only [Act.put]); (try simp only [List.setIfInBounds_toArray]); (try simp only [List.set_cons_zero]); (try simp only [List.set_cons_succ])
    have o4 := HO6.out.cells.2.2.2
    have fo := HO6.out.frozen
    have lo := HO6.out.lt
    refine wpAnyT_one (L := 10) (i := 10) (by kernel_rfl) rfl (fun K hK => ?_)
    go_simp
    refine hK.out _ _ (fun h => absurd rfl h) ?_
    refine wpAnyT_done (by kernel_rfl) ?_ _
    clear hK K
    have hBS : ∀ x, x < w.heap.size + 2 → x ∉ bs := fun x hx hm => by have := HGQ.out.ge x hm; omega
    have hOw : Only rb (w.alloc (.cells #[.int .i64 g.k, .string g.fr, .int .i64 g.ix, sv] ( /- t -/ 25))) w6 := by
      have h2 := HQ.out.only.alloc (.cells #[.string nv, .int .i64 1, .string ⟨#[]⟩, .int .i64 0, .slice none 0 0] ( /- t -/ 65))
      exact ⟨hgrow6.os.trans h2.os, hgrow6.tape.trans h2.tape, hgrow6.output.trans h2.output, Nat.le_trans h2.size hgrow6.size, fun x hx hc => (hgrow6.block x (Nat.lt_of_lt_of_le hx h2.size) (fun e => by
        have h1 := hgr5.ge x (hgr5.block x e.symm)
        simp at hx
        omega)).trans (h2.block x hx hc)⟩
    have HS6 : Hid (St (w.alloc (.cells #[.int .i64 g.k, .string g.fr, .int .i64 g.ix, sv] ( /- t -/ 25))) rb cv l p w6 (p + 1 + 1)) := hide ⟨HQ.out.start, hOw, HQ.out.start.fin HQ.out.rd hOw (hfarb rb (by have := HQ.out.rd.lt; omega) (hBS rb (by omega))), HQ.out.box.same (hfarb _ HQ.out.box.lt (hBS _ (by simp)))⟩
    obtain ⟨bs', hpush, hpn⟩ := Gr.push hgr5 (lab := nv) (fr := ⟨#[]⟩) (k := 1) (ix := 0) (u := .slice none 0 0) (kids := .nil) (ks := []) ⟨none, 0, rfl, Nat.le_refl _, Nat.zero_le _, Or.inl ⟨rfl, rfl⟩⟩ (fun x hx => absurd hx List.not_mem_nil) List.nodup_nil
      (fun x _ hx => absurd hx List.not_mem_nil) HNW.out (Nat.zero_le _) (by decide) (by decide) hown6 hgrow6 (by rcases hat6 with h | h; exact Or.inl h; exact Or.inr h)
    have hbo : ∀ x, x ∈ bs' → x ≠ ob := fun x hx => by
      rcases hpn x hx with h | h | h
      · exact fun e => hobn (e ▸ h)
      · exact absurd h List.not_mem_nil
      · simp at h; omega
    have HGP := hide (hpush.same (w' := w6.setCell ⟨ob, 3, none⟩ (.slice (some ⟨gg, 0, none⟩) ((cpz g).kids.len + 1) cp)) (fun x hx => Below.heap_setCell _ _ _ _ (hbo x hx)))
    have HR := hide (HS6.out.set ⟨ob, 3, none⟩ (.slice (some ⟨gg, 0, none⟩) ((cpz g).kids.len + 1) cp) (by simp; omega))
    obtain ⟨x0, x1, x2, x3⟩ := HR.out.boxq.cells
    have fx := HR.out.boxq.frozen
    have lx := HR.out.boxq.lt
    have HOP := hide (HO6.out.set3 (.slice (some ⟨gg, 0, none⟩) ((cpz g).kids.len + 1) cp))
    obtain ⟨y0, y1, y2, y3⟩ := HOP.out.cells
    have fy := HOP.out.frozen
    have ly := HOP.out.lt
    have HEQ : Hid (((cpz g).kids.app (.cons nv 1 ⟨#[]⟩ 0 .nil .nil)).len = (cpz g).kids.len + 1) := hide (by rw [F.len_app]; rfl)
    clear hpush hbo hBS hOw hown6 hgrow6 hat6 hgr5 hfarb hpn o4 fo lo
    generalize w6.setCell ⟨ob, 3, none⟩ (.slice (some ⟨gg, 0, none⟩) ((cpz g).kids.len + 1) cp) = w7 at *
    go_wp2_with fail
    refine bodyPost_ret (v := .agg #[.int .i64 (cpz g).k, .string (cpz g).fr, .int .i64 (cpz g).ix, .slice (some ⟨gg, 0, none⟩) ((cpz g).kids.len + 1) cp]) (by simp [results, Try.results21, go_sem, *]) rfl ?_
    exact DrP.back (( /- t -/ 25)) rfl ⟨⟨(cpz g).k, (cpz g).fr, (cpz g).ix, ((cpz g).kids.app (.cons nv 1 ⟨#[]⟩ 0 .nil .nil))⟩, _, _, rfl, fun h => (smF_app _ _).2 ⟨cpzN_sm g h, ⟨show (0 : Int) ≤ 0 by omega, show (0 : Int) ≤ 9 by omega⟩, trivial, trivial⟩, dr_fin (N := ⟨(cpz g).k, (cpz g).fr, (cpz g).ix, ((cpz g).kids.app (.cons nv 1 ⟨#[]⟩ 0 .nil .nil))⟩) HR.out.start HR.out.only HR.out.rd (by omega) HGP.out.ow (w.heap.size + 1) (by simp) (fun x hx => by have := HGP.out.ge x hx; omega) HGP.out.nodup ⟨HFC.out.1, HFC.out.2.1, HFC.out.2.2⟩ (by rw [F.sz_app]; have := cpzN_sz g; simp only [F.sz]; omega) _ _ _ _⟩
  by_cases hv4 : v = 4
  · subst hv4
    go_wp2_with fail
    refine (pick_calls _ rb cv l _ HP.out.rd (by omega) 2 (by omega)).mono ?_
    rintro e wq ⟨nv, rfl, hnv, hask⟩
    have HQ := hide (HP.out.ask hask)
    clear hask
    have hn9 : (nv : Int) ≤ 9 := by omega
    obtain ⟨x0, x1, x2, x3⟩ := HQ.out.boxq.cells
    have fx := HQ.out.boxq.frozen
    have lx := HQ.out.boxq.lt
    go_wp2_with fail
    refine bodyPost_ret (v := .agg #[.int .i64 5, .string ⟨#[]⟩, .int .i64 (nv : Int), .slice none 0 0]) (by simp [results, Try.results21, go_sem, *]) rfl ?_
    exact DrP.back (( /- t -/ 25)) rfl ⟨⟨5, ⟨#[]⟩, (nv : Int), .nil⟩, _, [], rfl, fun _ => trivial, dr_fin (N := ⟨5, ⟨#[]⟩, (nv : Int), .nil⟩) HQ.out.start HQ.out.only HQ.out.rd (by omega) ⟨none, 0, rfl, Nat.le_refl _, Nat.zero_le _, Or.inl ⟨rfl, rfl⟩⟩ (w.heap.size + 1) (by simp) (fun x hx => absurd hx List.not_mem_nil) List.nodup_nil ⟨Nat.zero_le _, show (Lit.int .i64 5).wf = true by decide, by simp [Lit.wf, IntKind.min, IntKind.max, IntKind.bits, IntKind.signed]; omega⟩ (Nat.zero_le _) _ _ _ _⟩
  obtain ⟨y0, y1, y2, y3⟩ := HO1.out.cells
  have fy := HO1.out.frozen
  have ly := HO1.out.lt
  obtain ⟨x0, x1, x2, x3⟩ := HP.out.boxq.cells
  have fx := HP.out.boxq.frozen
  have lx := HP.out.boxq.lt
  have e0 : ((v : Int) == 0) = false := beq_eq_false_iff_ne.2 (by omega)
  have n0 : ¬ (v : Int) = 0 := by omega
  have e1 : ((v : Int) == 1) = false := beq_eq_false_iff_ne.2 (by omega)
  have n1 : ¬ (v : Int) = 1 := by omega
  have e2 : ((v : Int) == 2) = false := beq_eq_false_iff_ne.2 (by omega)
  have n2 : ¬ (v : Int) = 2 := by omega
  have e3 : ((v : Int) == 3) = false := beq_eq_false_iff_ne.2 (by omega)
  have n3 : ¬ (v : Int) = 3 := by omega
  have e4 : ((v : Int) == 4) = false := beq_eq_false_iff_ne.2 (by omega)
  have n4 : ¬ (v : Int) = 4 := by omega
  go_wp2_with fail
  refine bodyPost_ret (v := .agg #[.int .i64 (cpz g).k, .string (cpz g).fr, .int .i64 (cpz g).ix, .slice ua (cpz g).kids.len uc]) (by simp [results, Try.results21, go_sem, *]) rfl ?_
  exact DrP.back (( /- t -/ 25)) rfl ⟨⟨(cpz g).k, (cpz g).fr, (cpz g).ix, (cpz g).kids⟩, _, _, rfl, fun h => cpzN_sm g h, dr_fin (N := ⟨(cpz g).k, (cpz g).fr, (cpz g).ix, (cpz g).kids⟩) HP.out.start HP.out.only HP.out.rd (by omega) HG1.out.ow (w.heap.size + 1) (by simp) (fun x hx => by have := HG1.out.ge x hx; omega) HG1.out.nodup ⟨HFC.out.1, HFC.out.2.1, HFC.out.2.2⟩ (Nat.le_trans (cpzN_sz g) (Nat.le_succ _)) _ _ _ _⟩
end Go.Proofs.Ytpjbffggeegdaaa.Lo

/- ParseLocal of the model: values. -/
namespace Go.Proofs.Ytpjbffggeegdaaa.Lo.Ne
open Go.RowKit

def exB (s : List UInt8) (acc : F) : Option (F × List UInt8) := if nxC s 125 then some (acc, s.tail) else none
def goesB (s : List UInt8) : Bool := (nxC s 123 || nxC s 124) && !s.tail.isEmpty
/-- The model's loop over the branches; at most j more. -/
def spB (g : List UInt8 → Option (Nd × List UInt8)) : Nat → List UInt8 → F → Option (F × List UInt8)
  | 0, s, acc => exB s acc
  | j + 1, s, acc =>
    if goesB s then
      (match g s.tail.tail with
        | some (N, t) => spB g j t (acc.app (brn ⟨#[hdC s.tail]⟩ N))
        | none => none)
    else exB s acc
/-- The model's parser; d levels at most. -/
def sp : Nat → List UInt8 → Option (Nd × List UInt8)
  | 0, _ => none
  | d + 1, s =>
    if nxC s 46 then some (ndEnd, s.tail)
    else if nxC s 35 && !s.tail.isEmpty then some (ndVar (hdC s.tail), s.tail.tail)
    else if nxC s 64 then (match sp d s.tail with | some (N, t) => some (ndRec N, t) | none => none)
    else if nxC s.tail.tail 123 then
      (match spB (sp d) 5 s.tail.tail .nil with
        | some (f, t) => some (⟨if hdC s.tail = 33 then 2 else 3, ⟨#[hdC s]⟩, 0, f⟩, t)
        | none => none)
    else none

/-! ### A valid tree's text is read back -/

def CF (f : F) : Prop := ∀ (b u d : Int), 0 ≤ u → vldF f b u d = true → digF f = true →
  ((∀ p, ascB p f = true → ∀ (j : Nat) (acc : F) (t : List UInt8), f.len ≤ j → spB (sp d.toNat) j (bl (txF f .more) ++ 125 :: t) acc = some (acc.app f, t)) ∧
   (∀ p, ascB p f = true → f ≠ .nil → ∀ (j : Nat) (acc : F) (t : List UInt8), f.len ≤ j → spB (sp d.toNat) j (bl (txF f .first) ++ 125 :: t) acc = some (acc.app f, t)) ∧
   (∀ lab k fr ix kids, f = .cons lab k fr ix kids .nil → ∀ (t : List UInt8), sp d.toNat (bl (txF f .body) ++ t) = some (⟨k, fr, ix, kids⟩, t)))

theorem sp_node {k : Int} {fr : ByteArray} {ix : Int} {kids : F} (ih : CF kids) {b u d : Int} (hu : 0 ≤ u) (h : vldN k fr ix kids b u d = true) (hd : digN ⟨k, fr, ix, kids⟩ = true)
    (t : List UInt8) : sp d.toNat (bl (txN k fr ix kids) ++ t) = some (⟨k, fr, ix, kids⟩, t) := by
  unfold vldN at h
  obtain ⟨hd1, hsh, hk⟩ := node_kinds hu h
  unfold digN at hd
  simp only [Bool.and_eq_true] at hd
  obtain ⟨m, hm, hm'⟩ : ∃ m, d.toNat = m + 1 ∧ (d - 1).toNat = m := ⟨(d - 1).toNat, by omega, rfl⟩
  rw [hm]
  rcases hk with rfl | ⟨rfl, h0, h1, rfl⟩ | ⟨rfl, hr⟩ | ⟨hkk, ha⟩
  · obtain ⟨e1, rfl, rfl⟩ := shape_end hsh
    obtain rfl := empty_of_list e1
    rfl
  · obtain ⟨e1, -⟩ := shape_var hsh
    obtain rfl := empty_of_list e1
    have h9 : ix ≤ 9 := by simpa using hd.1
    obtain ⟨c, e2, e3, e4⟩ := bdec_digit h0 h9
    have e5 : bl (txN 5 ⟨#[]⟩ ix .nil) ++ t = 35 :: c :: t := by
      show bl (bhash ++ bdec ix) ++ t = _
      rw [bl_append, e2]
      rfl
    rw [e5]
    show some (ndVar c, t) = _
    unfold ndVar
    rw [e4]
  · obtain ⟨e1, rfl, lab, k', fr', ix', kids', rfl, e2⟩ := shape_rec hsh
    obtain rfl := empty_of_list e1
    obtain rfl := empty_of_list e2
    have e5 : bl (txN 4 ⟨#[]⟩ 0 (.cons ⟨#[]⟩ k' fr' ix' kids' .nil)) ++ t = 64 :: (bl (txF (.cons ⟨#[]⟩ k' fr' ix' kids' .nil) .body) ++ t) := by
      show bl (bat ++ _) ++ t = _
      rw [bl_append]
      rfl
    have hb := (ih (b + 1) (u + 1) (d - 1) (by omega) hr hd.2).2.2 _ _ _ _ _ rfl t
    rw [hm'] at hb
    rw [e5]
    show (match sp m (bl (txF (.cons ⟨#[]⟩ k' fr' ix' kids' .nil) .body) ++ t) with | some (N, t) => some (ndRec N, t) | none => none) = _
    rw [hb]
    rfl
  · obtain ⟨e1, rfl, e3⟩ := shape_act hkk hsh
    obtain ⟨c, rfl⟩ := one_byte (role_size e1)
    unfold branchesB at e3
    simp only [Bool.and_eq_true, decide_eq_true_eq] at e3
    have hne : kids ≠ .nil := by rintro rfl; simp [F.len] at e3
    obtain ⟨mk, hm1, hm2⟩ : ∃ m : UInt8, bl (mark k) = [m] ∧ ((m = 33 ∧ k = 2) ∨ (m = 63 ∧ k = 3)) := by
      rcases hkk with rfl | rfl
      · exact ⟨33, rfl, Or.inl ⟨rfl, rfl⟩⟩
      · exact ⟨63, rfl, Or.inr ⟨rfl, rfl⟩⟩
    have e5 : bl (txN k ⟨#[c]⟩ 0 kids) ++ t = c :: mk :: (bl (txF kids .first) ++ 125 :: t) := by
      unfold txN nodeT
      rw [if_neg (by omega), if_neg (by omega), if_neg (by omega), bl_append, bl_append, bl_append, hm1]
      simp [bl, bclose]
    rw [e5]
    have hc := role_letter e1
    have c46 : nxC (c :: mk :: (bl (txF kids .first) ++ 125 :: t)) 46 = false := by rcases hc with rfl | rfl | rfl <;> rfl
    have c35 : nxC (c :: mk :: (bl (txF kids .first) ++ 125 :: t)) 35 = false := by rcases hc with rfl | rfl | rfl <;> rfl
    have c64 : nxC (c :: mk :: (bl (txF kids .first) ++ 125 :: t)) 64 = false := by rcases hc with rfl | rfl | rfl <;> rfl
    have c123 : nxC (bl (txF kids .first) ++ 125 :: t) 123 = true := by
      cases kids with
      | nil => exact absurd rfl hne
      | cons lab k' fr' ix' kids' rest =>
        show nxC (bl (bopen ++ lab ++ nodeT k' fr' ix' _ _ ++ txF rest .more) ++ 125 :: t) 123 = true
        rw [bl_append, bl_append, bl_append]
        rfl
    have hb := (ih b 0 (d - 1) (by omega) ha hd.2).2.1 none e3.1 hne 5 .nil t (by omega)
    rw [hm'] at hb
    unfold sp
    rw [if_neg (by rw [c46]; decide), if_neg (by rw [c35, Bool.false_and]; decide), if_neg (by rw [c64]; decide)]
    rw [show (c :: mk :: (bl (txF kids .first) ++ 125 :: t)).tail.tail = bl (txF kids .first) ++ 125 :: t from rfl, if_pos c123, hb]
    show some ((⟨if mk = 33 then 2 else 3, ⟨#[c]⟩, 0, kids⟩ : Nd), t) = _
    rcases hm2 with ⟨rfl, rfl⟩ | ⟨rfl, rfl⟩ <;> rfl

theorem sp_all : ∀ f : F, CF f := by
  intro f
  induction f with
  | nil =>
    intro b u d _ _ _
    refine ⟨fun p _ j acc t hn => ?_, fun p _ h => absurd rfl h, fun lab k fr ix kids e => by cases e⟩
    rw [show bl (txF .nil .more) ++ 125 :: t = 125 :: t from rfl, F.app_nil]
    cases j <;> rfl
  | cons lab k fr ix kids rest ihk ihr =>
    intro b u d hu hv hd
    simp only [vldF, Bool.and_eq_true] at hv
    have hd0 : digN ⟨k, fr, ix, kids⟩ = true ∧ digF rest = true := by
      simp only [digF, Bool.and_eq_true] at hd
      unfold digN
      simp only [Bool.and_eq_true]
      exact ⟨⟨hd.1, hd.2.1⟩, hd.2.2⟩
    have hN : ∀ (t : List UInt8), sp d.toNat (bl (txN k fr ix kids) ++ t) = some (⟨k, fr, ix, kids⟩, t) :=
      fun t => sp_node ihk hu (b := b) (d := d) hv.1 hd0.1 t
    have hstep : ∀ (sep : UInt8) (q : ByteArray), (sep = 123 ∨ sep = 124) → bl q = [sep] → ∀ p, ascB p (.cons lab k fr ix kids rest) = true → ∀ (j : Nat) (acc : F) (t : List UInt8),
        F.len (.cons lab k fr ix kids rest) ≤ j → spB (sp d.toNat) j (bl (q ++ lab ++ txN k fr ix kids ++ txF rest .more) ++ 125 :: t) acc = some (acc.app (.cons lab k fr ix kids rest), t) := by
      intro sep q hse hsp p hasc j acc t hn
      have hl := asc_labels _ p lab k fr ix kids rest rfl hasc
      obtain ⟨c, rfl⟩ := one_byte (lab_size hl.1)
      have e5 : bl (q ++ ⟨#[c]⟩ ++ txN k fr ix kids ++ txF rest .more) ++ 125 :: t = sep :: c :: (bl (txN k fr ix kids) ++ (bl (txF rest .more) ++ 125 :: t)) := by
        rw [bl_append, bl_append, bl_append, hsp]
        simp [bl]
      rw [e5]
      simp only [F.len] at hn
      cases j with
      | zero => omega
      | succ j =>
        have hg : goesB (sep :: c :: (bl (txN k fr ix kids) ++ (bl (txF rest .more) ++ 125 :: t))) = true := by rcases hse with rfl | rfl <;> rfl
        rw [spB, if_pos hg]
        rw [show (sep :: c :: (bl (txN k fr ix kids) ++ (bl (txF rest .more) ++ 125 :: t))).tail.tail = bl (txN k fr ix kids) ++ (bl (txF rest .more) ++ 125 :: t) from rfl, hN]
        show spB (sp d.toNat) j (bl (txF rest .more) ++ 125 :: t) (acc.app (brn ⟨#[c]⟩ ⟨k, fr, ix, kids⟩)) = _
        rw [(ihr b u d hu hv.2 hd0.2).1 _ hl.2 j _ t (by omega)]
        unfold brn
        rw [F.app_assoc]
        rfl
    refine ⟨fun p hasc j acc t hn => hstep 124 bbar (Or.inr rfl) rfl p hasc j acc t hn, fun p hasc _ j acc t hn => hstep 123 bopen (Or.inl rfl) rfl p hasc j acc t hn, fun lab' k' fr' ix' kids' e t => ?_⟩
    injection e with e1 e2 e3 e4 e5 e6
    subst e1 e2 e3 e4 e5 e6
    exact hN t

/-! ### What was read is not longer than its text, and as long only if all indices are of one digit -/

theorem bdec_len (ix : Int) : 1 ≤ (bdec ix).size ∧ (10 ≤ ix → 2 ≤ (bdec ix).size) := by
  have h : ∀ i : Nat, 1 ≤ (Lib.decDigits i).length := fun i => by
    unfold Lib.decDigits
    split <;> simp
  have e : (bdec ix).size = (Lib.decDigits ix.toNat).length := by simp [bdec, ByteArray.size]
  rw [e]
  refine ⟨h _, fun h10 => ?_⟩
  unfold Lib.decDigits
  rw [dif_neg (by omega)]
  have := h (ix.toNat / 10)
  simp
  omega
theorem txF_fm (f : F) : (txF f .first).size = (txF f .more).size := by
  cases f with
  | nil => rfl
  | cons lab k fr ix kids rest =>
    simp only [txF, ByteArray.size_append]
    rfl
def DP (s : List UInt8) (N : Nd) (t : List UInt8) : Prop := ∀ (b u d : Int), 0 ≤ u → vldN N.k N.fr N.ix N.kids b u d = true →
  s.length ≤ (txN N.k N.fr N.ix N.kids).size + t.length ∧ (s.length = (txN N.k N.fr N.ix N.kids).size + t.length → digN N = true)
theorem nx_len {s : List UInt8} {c : UInt8} (h : nxC s c = true) : s.length = s.tail.length + 1 := by
  rw [nxC_cons h]
  simp
theorem spB_len (g : List UInt8 → Option (Nd × List UInt8)) (hg : ∀ s N t, g s = some (N, t) → DP s N t) : ∀ (j : Nat) (s : List UInt8) (acc f : F) (t : List UInt8), spB g j s acc = some (f, t) → ∃ r, f = acc.app r ∧
    ∀ (b u d : Int), 0 ≤ u → vldF r b u d = true → s.length ≤ (txF r .more).size + 1 + t.length ∧ (s.length = (txF r .more).size + 1 + t.length → digF r = true) := by
  have hex : ∀ (s : List UInt8) (acc f : F) (t : List UInt8), exB s acc = some (f, t) → ∃ r, f = acc.app r ∧
      ∀ (b u d : Int), 0 ≤ u → vldF r b u d = true → s.length ≤ (txF r .more).size + 1 + t.length ∧ (s.length = (txF r .more).size + 1 + t.length → digF r = true) := by
    intro s acc f t h
    unfold exB at h
    split at h
    · rename_i h125
      injection h with h
      injection h with h1 h2
      subst h1 h2
      refine ⟨.nil, (F.app_nil _).symm, fun b u d _ _ => ⟨?_, fun _ => rfl⟩⟩
      have := nx_len h125
      show s.length ≤ 0 + 1 + s.tail.length
      omega
    · cases h
  intro j
  induction j with
  | zero => exact fun s acc f t h => hex s acc f t h
  | succ j ih =>
    intro s acc f t h
    rw [spB] at h
    split at h
    · rename_i hgo
      cases hr : g s.tail.tail with
      | none => rw [hr] at h; cases h
      | some q =>
        obtain ⟨N, t1⟩ := q
        rw [hr] at h
        obtain ⟨r, hr1, hr2⟩ := ih _ _ _ _ h
        refine ⟨.cons ⟨#[hdC s.tail]⟩ N.k N.fr N.ix N.kids r, by rw [hr1, F.app_assoc]; rfl, fun b u d hu hv => ?_⟩
        simp only [vldF, Bool.and_eq_true] at hv
        obtain ⟨a1, a2⟩ := hg _ _ _ hr b u d hu hv.1
        obtain ⟨b1, b2⟩ := hr2 b u d hu hv.2
        have hl : s.length ≤ s.tail.tail.length + 2 := by
          cases s with
          | nil => simp
          | cons x s => cases s <;> simp
        have e : (txF (.cons ⟨#[hdC s.tail]⟩ N.k N.fr N.ix N.kids r) .more).size = 2 + (txN N.k N.fr N.ix N.kids).size + (txF r .more).size := by
          show (bbar ++ ⟨#[hdC s.tail]⟩ ++ txN N.k N.fr N.ix N.kids ++ txF r .more).size = _
          simp only [ByteArray.size_append]
          rfl
        rw [e]
        refine ⟨by omega, fun he => ?_⟩
        have d1 := a2 (by omega)
        have d2 := b2 (by omega)
        unfold digN at d1
        simp only [Bool.and_eq_true] at d1
        simp only [digF, d1.1, d1.2, d2, Bool.and_self]
    · exact hex s acc f t h
theorem sp_len : ∀ n s N t, sp n s = some (N, t) → DP s N t := by
  intro n
  induction n with
  | zero => intro s N t h; cases h
  | succ n ih =>
    intro s N t h b u d hu hv
    have hv2 := hv
    unfold vldN at hv2
    obtain ⟨-, hsh, hk⟩ := node_kinds hu hv2
    rw [sp] at h
    split at h
    · rename_i h46
      injection h with h
      injection h with h1 h2
      subst h1 h2
      refine ⟨?_, fun _ => rfl⟩
      have := nx_len h46
      show s.length ≤ 1 + s.tail.length
      omega
    split at h
    · rename_i h35
      injection h with h
      injection h with h1 h2
      subst h1 h2
      simp only [Bool.and_eq_true] at h35
      have e1 := nx_len h35.1
      have e2 : s.tail.length ≤ s.tail.tail.length + 1 := by cases s.tail <;> simp
      have e3 : (txN 5 ⟨#[]⟩ (((hdC s.tail).toNat : Int) - 48) .nil).size = 1 + (bdec (((hdC s.tail).toNat : Int) - 48)).size := by
        show (bhash ++ bdec _).size = _
        rw [ByteArray.size_append]
        rfl
      have e4 := bdec_len (((hdC s.tail).toNat : Int) - 48)
      show s.length ≤ (txN 5 ⟨#[]⟩ (((hdC s.tail).toNat : Int) - 48) .nil).size + _ ∧ _
      refine ⟨by rw [e3]; omega, fun he => ?_⟩
      have he2 : s.length = (txN 5 ⟨#[]⟩ (((hdC s.tail).toNat : Int) - 48) .nil).size + s.tail.tail.length := he
      rw [e3] at he2
      show (((5 : Int) != 5 || decide (((hdC s.tail).toNat : Int) - 48 ≤ 9)) && true) = true
      rw [decide_eq_true (by omega)]
      rfl
    split at h
    · rename_i h64
      cases hr : sp n s.tail with
      | none => rw [hr] at h; cases h
      | some q =>
        obtain ⟨M, t'⟩ := q
        rw [hr] at h
        simp only [Option.some.injEq, Prod.mk.injEq] at h
        obtain ⟨rfl, rfl⟩ := h
        rcases hk with hk | ⟨hk, _⟩ | ⟨-, hr2⟩ | ⟨hk, _⟩
        · exact absurd (show (4 : Int) = 1 from hk) (by decide)
        · exact absurd (show (4 : Int) = 5 from hk) (by decide)
        · simp only [ndRec, vldF, Bool.and_eq_true] at hr2
          obtain ⟨e1, e2⟩ := ih s.tail M t' hr (b + 1) (u + 1) (d - 1) (by omega) hr2.1
          have e3 := nx_len h64
          have e4 : (txN (ndRec M).k (ndRec M).fr (ndRec M).ix (ndRec M).kids).size = 1 + (txN M.k M.fr M.ix M.kids).size := by
            show (bat ++ txN M.k M.fr M.ix M.kids).size = _
            rw [ByteArray.size_append]
            rfl
          rw [e4]
          refine ⟨by omega, fun he => ?_⟩
          have e5 := e2 (by omega)
          show (((4 : Int) != 5 || decide ((0 : Int) ≤ 9)) && ((M.k != 5 || decide (M.ix ≤ 9)) && (digF M.kids && true))) = true
          unfold digN at e5
          simp only [Bool.and_eq_true] at e5
          rw [e5.1, e5.2]
          rfl
        · rcases hk with hk | hk
          · exact absurd (show (4 : Int) = 2 from hk) (by decide)
          · exact absurd (show (4 : Int) = 3 from hk) (by decide)
    split at h
    · rename_i h123
      cases hr : spB (sp n) 5 s.tail.tail .nil with
      | none => rw [hr] at h; cases h
      | some q =>
        obtain ⟨f, t'⟩ := q
        rw [hr] at h
        simp only [Option.some.injEq, Prod.mk.injEq] at h
        obtain ⟨rfl, rfl⟩ := h
        obtain ⟨r, hr1, hr2⟩ := spB_len (sp n) ih _ _ _ _ _ hr
        have hfr : f = r := hr1
        subst hfr
        have hva : vldF f b 0 (d - 1) = true := by
          rcases hk with hk | ⟨hk, _⟩ | ⟨hk, _⟩ | ⟨_, h⟩
          · simp only at hk; split at hk <;> omega
          · simp only at hk; split at hk <;> omega
          · simp only at hk; split at hk <;> omega
          · exact h
        obtain ⟨b1, b2⟩ := hr2 b 0 (d - 1) (by omega) hva
        have hl : s.length ≤ s.tail.tail.length + 2 := by
          cases s with
          | nil => simp
          | cons x s => cases s <;> simp
        have e4 : ∀ k : Int, k = 2 ∨ k = 3 → (txN k ⟨#[hdC s]⟩ 0 f).size = 3 + (txF f .more).size := fun k hk => by
          unfold txN nodeT
          rw [if_neg (by omega), if_neg (by omega), if_neg (by omega)]
          simp only [ByteArray.size_append, mark_size, txF_fm]
          show 1 + 1 + _ + 1 = _
          omega
        have e5 := e4 (if hdC s.tail = 33 then 2 else 3) (by split <;> simp)
        simp only
        rw [e5]
        refine ⟨by omega, fun he => ?_⟩
        have := b2 (by omega)
        show (((if hdC s.tail = 33 then (2 : Int) else 3) != 5 || decide ((0 : Int) ≤ 9)) && digF f) = true
        rw [this]
        simp
    · cases h

/-- What the model makes of a text. -/
def resM (s : List UInt8) : Option Nd :=
  match sp 40 s with
  | some (N, []) => if okN N.k N.fr N.ix N.kids = true ∧ bl (txN N.k N.fr N.ix N.kids) = s then some N else none
  | _ => none
theorem resM_iff (s : List UInt8) (N : Nd) : resM s = some N ↔ (okN N.k N.fr N.ix N.kids = true ∧ digN N = true ∧ s = bl (txN N.k N.fr N.ix N.kids)) := by
  constructor
  · intro h
    unfold resM at h
    split at h
    · rename_i M hM
      split at h
      · rename_i hk
        injection h with h
        subst h
        have hv := hk.1
        unfold okN at hv
        simp only [Bool.and_eq_true] at hv
        have := (sp_len _ _ _ _ hM 0 0 40 (by omega) hv.1).2
        refine ⟨hk.1, this ?_, hk.2.symm⟩
        rw [← bl_length, hk.2]
        rfl
      · cases h
    · cases h
  · rintro ⟨hk, hd, rfl⟩
    have hv := hk
    unfold okN at hv
    simp only [Bool.and_eq_true] at hv
    have := sp_node (sp_all N.kids) (b := 0) (u := 0) (d := 40) (by omega) hv.1 hd []
    rw [List.append_nil] at this
    unfold resM
    rw [show sp 40 _ = some (N, []) from this]
    simp [hk]
end Go.Proofs.Ytpjbffggeegdaaa.Lo.Ne

/- IsLabel of the model. -/
namespace Go.Proofs.Ytpjbffggeegdaaa
open Go.RowKit

theorem one_of_size (s : ByteArray) (h : s.size = 1) : ∃ c, s = ⟨#[c]⟩ := by
  obtain ⟨⟨l⟩⟩ := s
  match l, h with
  | [c], _ => exact ⟨c, rfl⟩

theorem one_pos (c : UInt8) : 0 < (ByteArray.mk #[c]).size := Nat.one_pos
theorem one_head (c : UInt8) (h : 0 < (ByteArray.mk #[c]).size) : (ByteArray.mk #[c])[0]'h = c := rfl

set_option maxHeartbeats 400000 in
theorem specLab_one (c : UInt8) (w : World) : Calls Try.prog 48 #[.string ⟨#[c]⟩] w fun e w' => e = .returned (.bool (labB ⟨#[c]⟩)) ∧ w = w' := by
  go_enter Try.func48, Try.ntmps48
  go_wp2_with fail
  · have h : (97 : Int) ≤ ((ByteArray.mk #[c])[0]'(one_pos c)).toNat := by assumption
    go_ret
    refine ⟨ret_bool ?_, rfl⟩
    rw [one_head] at *
    unfold labB
    have h' : 97 ≤ c.toNat := by omega
    simp [h']
    omega
  · have h : (((ByteArray.mk #[c])[0]'(one_pos c)).toNat : Int) < 97 := by assumption
    go_ret
    refine ⟨ret_bool ?_, rfl⟩
    rw [one_head] at *
    unfold labB
    have h' : ¬ 97 ≤ c.toNat := by omega
    simp [h']
set_option maxHeartbeats 400000 in
theorem specLab_not (s : ByteArray) (hs : ((s.size : Int) == 1) = false) (w : World) : Calls Try.prog 48 #[.string s] w fun e w' => e = .returned (.bool false) ∧ w = w' := by
  go_enter Try.func48, Try.ntmps48
  go_wp2_with fail
  go_ret
  exact ⟨rfl, rfl⟩

theorem labB_not (s : ByteArray) (h : s.size ≠ 1) : labB s = false := by
  unfold labB
  split
  · rename_i c e
    exact absurd (by have := congrArg List.length e; simpa using this) h
  · rfl

/-- IsLabel of the model. -/
theorem specLab (s : ByteArray) (w : World) : Calls Try.prog 48 #[.string s] w fun e w' => e = .returned (.bool (labB s)) ∧ w = w' := by
  by_cases h : s.size = 1
  · obtain ⟨c, rfl⟩ := one_of_size s h
    exact specLab_one c w
  · rw [labB_not s h]
    exact specLab_not s (beq_eq_false_iff_ne.2 (by omega)) w
end Go.Proofs.Ytpjbffggeegdaaa

/- IsLabel of the program. -/
namespace Go.Proofs.Ytpjbffggeegdaaa
open Go.RowKit
theorem run_bytes (s : ByteArray) (c : Int) (w : World) : (callFunc ( /- f -/ 60) #[.string s, .int .u8 c]).run Try.prog w = .ok (.value (.int .i64 (Lib.indexByte s.data.toList c.toNat.toUInt8))) w := by
  rw [run_callFunc_extern Try.func60 (by kernel_rfl) (by kernel_rfl) (by kernel_rfl) (e := Extern.BytealgIndexByte.indexByte) (by kernel_rfl), Lib.run_indexByteString]
  rfl

theorem idx_lab (c : UInt8) : decide (0 ≤ Lib.indexByte [97, 98, 99, 100] c) = labB ⟨#[c]⟩ := by
  unfold labB
  by_cases h1 : c = 97
  · subst h1; decide
  by_cases h2 : c = 98
  · subst h2; decide
  by_cases h3 : c = 99
  · subst h3; decide
  by_cases h4 : c = 100
  · subst h4; decide
  have n1 : ¬ (97 ≤ c.toNat ∧ c.toNat ≤ 100) := by
    intro h
    have hh : c.toNat = 97 ∨ c.toNat = 98 ∨ c.toNat = 99 ∨ c.toNat = 100 := by omega
    rcases hh with hh | hh | hh | hh
    · exact h1 (UInt8.toNat_inj.1 hh)
    · exact h2 (UInt8.toNat_inj.1 hh)
    · exact h3 (UInt8.toNat_inj.1 hh)
    · exact h4 (UInt8.toNat_inj.1 hh)
  have e1 : (97 : UInt8) ≠ c := Ne.symm h1
  have e2 : (98 : UInt8) ≠ c := Ne.symm h2
  have e3 : (99 : UInt8) ≠ c := Ne.symm h3
  have e4 : (100 : UInt8) ≠ c := Ne.symm h4
  simp only [decide_eq_false n1]
  simp [Lib.indexByte, e1, e2, e3, e4]

set_option maxHeartbeats 400000 in
theorem contains_labs (c : UInt8) (w : World) : Calls Try.prog 51 #[.string ⟨#[97, 98, 99, 100]⟩, .string ⟨#[c]⟩] w fun e w' => e = .returned (.bool (labB ⟨#[c]⟩)) ∧ w = w' := by
  have h72 := run_bytes
  go_enter Try.func51, Try.ntmps51
  go_wp2
  go_ret
  rw [← idx_lab]
  exact ⟨ret_bool (by rw [one_head]), rfl⟩

set_option maxHeartbeats 400000 in
theorem implLab_one (c : UInt8) (w : World) : Calls Try.prog 52 #[.string ⟨#[c]⟩] w fun e w' => e = .returned (.bool (labB ⟨#[c]⟩)) ∧ w = w' := by
  go_enter Try.func52, Try.ntmps52
  go_wp2_with (go_at_call 51; refine (contains_labs _ _).mono ?_; rintro e w' ⟨rfl, rfl⟩)
  go_ret
  exact ⟨rfl, rfl⟩
set_option maxHeartbeats 400000 in
theorem implLab_not (s : ByteArray) (hs : ((s.size : Int) == 1) = false) (w : World) : Calls Try.prog 52 #[.string s] w fun e w' => e = .returned (.bool false) ∧ w = w' := by
  go_enter Try.func52, Try.ntmps52
  go_wp2_with fail
  go_ret
  exact ⟨rfl, rfl⟩
/-- IsLabel of the program. -/
theorem implLab (s : ByteArray) (w : World) : Calls Try.prog 52 #[.string s] w fun e w' => e = .returned (.bool (labB s)) ∧ w = w' := by
  by_cases h : s.size = 1
  · obtain ⟨c, rfl⟩ := one_of_size s h
    exact implLab_one c w
  · rw [labB_not s h]
    exact implLab_not s (beq_eq_false_iff_ne.2 (by omega)) w
end Go.Proofs.Ytpjbffggeegdaaa

/- IsRole and IsLabel, of the program and of the model. -/
namespace Go.Proofs.Ytpjbffggeegdaaa
open Go.RowKit
theorem idx_role (c : UInt8) : decide (0 ≤ Lib.indexByte [65, 66, 67] c) = roleB ⟨#[c]⟩ := by
  unfold roleB
  simp only [ByteArray.toList_eq]
  by_cases h1 : c = 65
  · subst h1; decide
  by_cases h2 : c = 66
  · subst h2; decide
  by_cases h3 : c = 67
  · subst h3; decide
  have e1 : (65 : UInt8) ≠ c := Ne.symm h1
  have e2 : (66 : UInt8) ≠ c := Ne.symm h2
  have e3 : (67 : UInt8) ≠ c := Ne.symm h3
  simp [Lib.indexByte, h1, h2, h3, e1, e2, e3]
set_option maxHeartbeats 400000 in
theorem contains_roles (c : UInt8) (w : World) : Calls Try.prog 51 #[.string ⟨#[65, 66, 67]⟩, .string ⟨#[c]⟩] w fun e w' => e = .returned (.bool (roleB ⟨#[c]⟩)) ∧ w = w' := by
  have h72 := run_bytes
  go_enter Try.func51, Try.ntmps51
  go_wp2
  go_ret
  rw [← idx_role]
  exact ⟨ret_bool (by rw [one_head]), rfl⟩
set_option maxHeartbeats 400000 in
theorem implRole_one (c : UInt8) (w : World) : Calls Try.prog 44 #[.string ⟨#[c]⟩] w fun e w' => e = .returned (.bool (roleB ⟨#[c]⟩)) ∧ w = w' := by
  go_enter Try.func44, Try.ntmps44
  go_wp2_with (go_at_call 51; refine (contains_roles _ _).mono ?_; rintro e w' ⟨rfl, rfl⟩)
  go_ret
  exact ⟨rfl, rfl⟩
set_option maxHeartbeats 400000 in
theorem implRole_not (s : ByteArray) (hs : ((s.size : Int) == 1) = false) (w : World) : Calls Try.prog 44 #[.string s] w fun e w' => e = .returned (.bool false) ∧ w = w' := by
  go_enter Try.func44, Try.ntmps44
  go_wp2_with fail
  go_ret
  exact ⟨rfl, rfl⟩
set_option maxHeartbeats 400000 in
/-- IsRole of the model. -/
theorem specRole (s : ByteArray) (w : World) : Calls Try.prog 40 #[.string s] w fun e w' => e = .returned (.bool (roleB s)) ∧ w = w' := by
  go_enter Try.func40, Try.ntmps40
  go_wp2_with fail
  all_goals go_ret
  all_goals exact ⟨ret_bool (by simp [roleB, *]), rfl⟩
theorem roleB_not (s : ByteArray) (h : s.size ≠ 1) : roleB s = false := by
  unfold roleB
  have q : ∀ x : UInt8, (s.toList == [x]) = false := fun x => by
    rw [beq_eq_false_iff_ne, ByteArray.toList_eq]
    intro e
    apply h
    have := congrArg List.length e
    simpa using this
  simp [q]
/-- IsRole of the program. -/
theorem implRole (s : ByteArray) (w : World) : Calls Try.prog 44 #[.string s] w fun e w' => e = .returned (.bool (roleB s)) ∧ w = w' := by
  by_cases h : s.size = 1
  · obtain ⟨c, rfl⟩ := one_of_size s h
    exact implRole_one c w
  · rw [roleB_not s h]
    exact implRole_not s (beq_eq_false_iff_ne.2 (by omega)) w
end Go.Proofs.Ytpjbffggeegdaaa

/- l2Branches of the model. -/
namespace Go.Proofs.Ytpjbffggeegdaaa.Lo
open Go.RowKit

theorem below_drewN {B : Nat} {a w : World} (h : Below B a w) (n : Nat) : Below B a (w.drewN n) := ⟨h.os, h.tape, h.output, h.size, h.block⟩

theorem specLab_q (s : ByteArray) (v : Bool) (h : labB s = v) (w : World) : Calls Try.prog 48 #[.string s] w fun e w' => e = .returned (.bool v) ∧ w' = w :=
  (specLab s w).mono fun _ _ ⟨h1, h2⟩ => ⟨by rw [h1, h], h2.symm⟩

/-- What a round of l1Branches knows. -/
def BrRel (W : World) (a : Option Addr) (f : F) (iv : Value) (wr : World) : Prop :=
  ∃ g k p, k + g.len = f.len ∧ iv = .int .i64 (k : Nat) ∧ ascB none f = ascB p g ∧ At W a k g ∧
    ((k = 0 ∧ p = none) ∨ ∃ q k' b o, k = k' + 1 ∧ p = some q ∧ a = some ⟨b, o, none⟩ ∧ W.cell? ⟨b, o + k' * 5, none⟩ = some (.string q)) ∧ Below W.heap.size W wr

set_option maxHeartbeats 800000 in
set_option maxRecDepth 100000 in
theorem sv_branches (w : World) (f : F) (k ix : Int) (fr : ByteArray) (sv : Value) (hs : Sl w sv f) :
    Calls Try.prog 41 #[.agg #[.int .i64 k, .string fr, .int .i64 ix, sv]] w fun e w' => e = .returned (.bool (branchesB f)) ∧ Below w.heap.size w w' := by
  obtain ⟨a, cap, rfl, hlen, hat⟩ := hs.at
  have hb0 := alloc_below w (.cells #[.int .i64 k, .string fr, .int .i64 ix, .slice a f.len cap] ( /- t -/ 25))
  have HA := hide (hat.still (Still.of_below hb0))
  clear hs hat
  unfold maxLen at hlen
  go_enter Try.func41, Try.ntmps41
  go_wp2_with fail
  have hc4 : (w.alloc (.cells #[.int .i64 k, .string fr, .int .i64 ix, .slice a f.len cap] ( /- t -/ 25))).cell? ⟨w.heap.size, 3, none⟩ = some (.slice a f.len cap) := by go_simp
  have hsz : w.heap.size < (w.alloc (.cells #[.int .i64 k, .string fr, .int .i64 ix, .slice a f.len cap] ( /- t -/ 25))).heap.size := by simp
  generalize (w.alloc (.cells #[.int .i64 k, .string fr, .int .i64 ix, .slice a f.len cap] ( /- t -/ 25))) = W at *
  go_loopw [3] (fun iv wr => BrRel W a f iv wr) (fun iv _ => f.len - (intOf iv).toNat)
  case atStart => exact ⟨f, 0, none, by omega, rfl, rfl, HA.out, Or.inl ⟨rfl, rfl⟩, Below.refl _ _⟩
  case round =>
    obtain ⟨g, k, p, hk, rfl, hasc, hg, hp, hb⟩ := hrel
    have hd4 := (hb.cell (p := ⟨w.heap.size, 3, none⟩) hsz).trans hc4
    have HB := hide (hb0.trans (hb.mono (Nat.le_of_lt hsz)))
    have HP := hide hp
    have HS := hide hasc
    clear hp hasc hb0 hc4
    cases g with
    | nil =>
      have H5 : Hid (k = f.len) := by unfold Hid; simpa [F.len] using hk
      have hge : f.len ≤ k := Nat.le_of_eq H5.out.symm
      clear hk
      go_wp2_with fail
      all_goals go_ret
      · have h1 : (1 : Int) ≤ f.len := by assumption
        refine ⟨ret_bool ?_, HB.out⟩
        show decide ((f.len : Int) ≤ 4) = _
        unfold branchesB
        rw [HS.out, ascB, Bool.true_and]
        exact decide_eq_decide.2 (by omega)
      · have h1 : (f.len : Int) < 1 := by assumption
        refine ⟨ret_bool ?_, HB.out⟩
        unfold branchesB
        rw [HS.out, ascB, Bool.true_and]
        exact (decide_eq_false (by omega)).symm
    | cons lab kd fr' ix' kids rest =>
      have HK : Hid (k + 1 + rest.len = f.len) := by unfold Hid; simp only [F.len] at hk; omega
      have hlt : k < f.len := by have := HK.out; omega
      obtain ⟨b, o, rfl, l1, _, _, _, c0, _, _, _, _, _⟩ := (hg.still (Still.of_below hb)).head
      have HW : Hid (W.cell? ⟨b, o + k * 5, none⟩ = some (.string lab)) := by
        obtain ⟨b2, o2, e, _, _, _, _, c0', _⟩ := hg.head
        simp only [Option.some.injEq, Addr.mk.injEq, and_true] at e
        obtain ⟨rfl, rfl⟩ := e
        exact c0'
      have HG := hide hg
      clear hk hg
      cases hl : labB lab with
      | false =>
        have HL := hide hl
        clear hl
        go_wp2_with fail
        go_quiet ((go_at_call 48; exact Calls.quiet_of_same (specLab_q _ _ HL.out _)))
        go_wp2_with fail
        go_ret
        refine ⟨ret_bool ?_, below_drewN HB.out _⟩
        unfold branchesB
        rw [HS.out]
        cases p <;> simp [ascB, HL.out]
      | true =>
        have HL := hide hl
        clear hl
        rcases HP.out with ⟨hk0, rfl⟩ | ⟨q, k', b', o', rfl, rfl, e1, e2⟩
        · have hd0 : decide (0 < k) = false := by rw [hk0]; rfl
          have HK0 := hide hk0
          clear hk0
          go_wp2_with fail
          go_quiet ((go_at_call 48; exact Calls.quiet_of_same (specLab_q _ _ HL.out _)))
          go_wp2_with fail
          refine ⟨⟨rest, k + 1, some lab, by have := HK.out; omega, by go_num, ?_, HG.out.tail, Or.inr ⟨lab, k, b, o, rfl, rfl, rfl, HW.out⟩, below_drewN hb _⟩, by simp [intOf]; omega⟩
          rw [HS.out]
          simp [ascB, HL.out]
        · simp only [Option.some.injEq, Addr.mk.injEq, and_true] at e1
          obtain ⟨rfl, rfl⟩ := e1
          have d0 := (Still.of_below hb) _ _ e2
          clear e2
          cases hbl : Op.bytesLess q.toList lab.toList with
          | false =>
            go_wp2_with fail
            go_quiet ((go_at_call 48; exact Calls.quiet_of_same (specLab_q _ _ HL.out _)))
            go_wp2_with fail
            go_ret
            refine ⟨ret_bool ?_, below_drewN HB.out _⟩
            unfold branchesB
            rw [HS.out]
            simp [ascB, HL.out, hbl]
          | true =>
            go_wp2_with fail
            go_quiet ((go_at_call 48; exact Calls.quiet_of_same (specLab_q _ _ HL.out _)))
            go_wp2_with fail
            refine ⟨⟨rest, k' + 1 + 1, some lab, by have := HK.out; omega, by go_num, ?_, HG.out.tail, Or.inr ⟨lab, k' + 1, b, o, rfl, rfl, rfl, HW.out⟩, below_drewN hb _⟩, by simp [intOf]; omega⟩
            rw [HS.out]
            simp [ascB, HL.out, hbl]
end Go.Proofs.Ytpjbffggeegdaaa.Lo

/- l10Dec of the model, below a hundred. -/
namespace Go.Proofs.Ytpjbffggeegdaaa
open Go.RowKit

theorem one_byte (w : World) (x : Int) (d : Nat) (hx : x = 48 + (d : Int)) (hd : d ≤ 9) :
    (convert ( /- t -/ 22) ( /- t -/ 9) (.slice (some ⟨w.heap.size, 0, none⟩) 1 1)).run Try.prog (w.alloc (.cells #[.int .u8 x] ( /- t -/ 5))) = .ok (.string ⟨#[UInt8.ofNat (48 + d)]⟩) (w.alloc (.cells #[.int .u8 x] ( /- t -/ 5))) := by
  have := run_convert_bytes_back (P := Try.prog) (w.alloc (.cells #[.int .u8 x] ( /- t -/ 5))) ( /- t -/ 22) ( /- t -/ 9) ( /- t -/ 5) ⟨w.heap.size, 0, none⟩ 1 [UInt8.ofNat (48 + d)] (by kernel_rfl) (by kernel_rfl) (by kernel_rfl) (by
    intro j hj
    have : j = 0 := by simpa using hj
    subst this
    have hz : (UInt8.ofNat (48 + d)).toNat = 48 + d := by
      rw [UInt8.toNat_ofNat']
      exact Nat.mod_eq_of_lt (by omega)
    show (w.alloc (.cells #[.int .u8 x] ( /- t -/ 5))).cell? ⟨w.heap.size, 0, none⟩ = _
    rw [cell_of_heap (cs := #[.int .u8 x]) (t := ( /- t -/ 5)) (z := (0, 0)) (by show (w.heap.push _)[w.heap.size]? = _; simp)]
    simp only [List.getElem_cons_zero, hz, hx]
    rfl)
  exact this

set_option maxHeartbeats 400000 in
set_option maxRecDepth 100000 in
theorem dec_calls (i : Nat) (hi : i < 100) (w : World) :
    Calls Try.prog 53 #[.int .i64 i] w fun e w' => e = .returned (.string ⟨(Lib.decDigits i).toArray⟩) ∧ Below w.heap.size w w' := by
  go_enter Try.func53, Try.ntmps53
  go_wp2_with fail
  go_loopw [3, 0] (fun ov nv wr => ∃ (s : ByteArray) (m : Nat), ov = .string s ∧ nv = .int .i64 m ∧ m ≤ i ∧ s.size + m ≤ i ∧ Lib.decDigits i = Lib.decDigits m ++ s.data.toList ∧ Below w.heap.size w wr) (fun _ nv _ => (intOf nv).toNat)
  case atStart => exact ⟨⟨#[]⟩, i, rfl, rfl, Nat.le_refl _, by show 0 + i ≤ i; omega, by simp, Below.refl _ _⟩
  case round =>
    obtain ⟨s, m, rfl, rfl, hm, hs, hd, hb⟩ := hrel
    have HD := hide hd
    have HB := hide hb
    have hsz : s.size ≤ 100 := by omega
    clear hd hb
    by_cases h9 : 9 < m
    · have n1 := one_byte wr (48 + (m : Int) % 10) (m % 10) (by omega) (by omega)
      go_wp2_with fail
      refine ⟨⟨⟨#[48 + UInt8.ofNat (m % 10)]⟩ ++ s, m / 10, rfl, by go_num, by omega, ?_, ?_, HB.out.trans ((alloc_below _ _).mono HB.out.size)⟩, ?_⟩
      · rw [ByteArray.size_append]
        show 1 + s.size + m / 10 ≤ i
        omega
      · rw [HD.out]
        conv => lhs; unfold Lib.decDigits
        rw [dif_neg (by omega)]
        simp [ByteArray.data_append, UInt8.ofNat_add]
      · simp [intOf]
        omega
    · have n1 := one_byte wr (48 + (m : Int)) m (by omega) (by omega)
      go_wp2_with fail
      go_ret
      refine ⟨?_, HB.out.trans ((alloc_below _ _).mono HB.out.size)⟩
      congr 1
      rw [HD.out]
      unfold Lib.decDigits
      rw [dif_pos (by omega)]
      simp [UInt8.ofNat_add]
      apply ByteArray.ext
      simp [ByteArray.data_append]
end Go.Proofs.Ytpjbffggeegdaaa
