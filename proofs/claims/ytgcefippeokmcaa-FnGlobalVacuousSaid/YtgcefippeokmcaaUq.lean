/- l1Substitute and l1Copy of the model at any tree of moderate width. -/
import Derived.Test.YtgcefippeokmcaaUl
namespace Go.Proofs.Ytgcefippeokmcaa
open Go.RowKit

/-- A node in new memory whose slice may grow. -/
def MadeH (k : Int) (fr tg : ByteArray) (ix : Int) (f : F) (w : World) (e : Ending) (w' : World) : Prop :=
  ∃ u bs, e = .returned (.agg #[.int .i64 k, .string fr, .string tg, .int .i64 ix, u]) ∧ Gr w' w.heap.size u f bs ∧ Below w.heap.size w w'
theorem MadeH.made {k : Int} {fr tg : ByteArray} {ix : Int} {f : F} {w : World} {e : Ending} {w' : World} (h : MadeH k fr tg ix f w e w') : MadeN k fr tg ix f w e w' := by
  obtain ⟨u, bs, h1, h2, h3⟩ := h
  exact ⟨u, bs, h1, h2.ow, h2.ge, h2.nodup, h3⟩
theorem Gr.mono {w : World} {base base' : Nat} {v : Value} {f : F} {bs : List Nat} (h : Gr w base v f bs) (hb : base' ≤ base) : Gr w base' v f bs := by
  rcases h with h | ⟨g, cap, cur, bs', h0, h1, h2, h3, h4, h5, h6, h7, h8, h9, h10⟩
  · exact Or.inl h
  · exact Or.inr ⟨g, cap, cur, bs', h0, Nat.le_trans hb h1, h2, h3, h4, h5, h6, h7, h8, fun b hm => Nat.le_trans hb (h9 b hm), h10⟩

/-- No row is longer than a thousand. -/
def lnF : F → Prop
  | .nil => True
  | .cons _ _ _ _ _ kids rest => kids.len ≤ 1000 ∧ lnF kids ∧ lnF rest
theorem lnF_app (g : F) : ∀ f : F, lnF (f.app g) ↔ lnF f ∧ lnF g
  | .nil => by simp [F.app, lnF]
  | .cons lab k fr tg ix kids rest => by simp only [F.app, lnF, lnF_app g rest, and_assoc]
theorem len_sz : ∀ f : F, f.len ≤ f.sz
  | .nil => Nat.le_refl _
  | .cons _ _ _ _ _ kids rest => by have := len_sz rest; simp only [F.len, F.sz]; omega
theorem lnF_sz : ∀ f : F, f.sz ≤ 1000 → lnF f
  | .nil, _ => trivial
  | .cons _ _ _ _ _ kids rest, h => by
    simp only [F.sz] at h
    exact ⟨by have := len_sz kids; omega, lnF_sz kids (by omega), lnF_sz rest (by omega)⟩

def SubGt (n : Nat) : Prop := ∀ (w : World) (k ix i : Int) (fr tg : ByteArray) (sv : Value) (kids : F) (U : Nd) (su : Value), kids.sz < n → Sl w sv kids → Sl w su U.kids → Fit ⟨k, fr, tg, ix, kids⟩ → Fit U →
  -1 ≤ i → i + 1 + hF kids ≤ 1000000 → kids.len ≤ 1000 ∧ lnF kids → ((kids = .nil ∧ ¬ (k = 4 ∧ ix = i)) ∨ CopyOk U) →
  Calls Try.prog 39 #[.agg #[.int .i64 k, .string fr, .string tg, .int .i64 ix, sv], .agg #[.int .i64 U.k, .string U.fr, .string U.tg, .int .i64 U.ix, su], .int .i64 i] w
    (MadeN (subN U ⟨k, fr, tg, ix, kids⟩ i).k (subN U ⟨k, fr, tg, ix, kids⟩ i).fr (subN U ⟨k, fr, tg, ix, kids⟩ i).tg (subN U ⟨k, fr, tg, ix, kids⟩ i).ix (subN U ⟨k, fr, tg, ix, kids⟩ i).kids w)

set_option maxHeartbeats 2000000 in
set_option maxRecDepth 100000 in
theorem subg_loop (n : Nat) (ih : SubGt n) (w : World) (k ix i : Int) (fr tg : ByteArray) (sv : Value) (kids : F) (U : Nd) (su : Value) (hn : kids.sz < n + 1) (hs : Sl w sv kids) (hsu : Sl w su U.kids) (hfit : Fit ⟨k, fr, tg, ix, kids⟩) (hfu : Fit U)
    (hi1 : -1 ≤ i) (hi2 : i + 1 + hF kids ≤ 1000000) (hw : kids.len ≤ 1000 ∧ lnF kids) (hc : (kids = .nil ∧ ¬ (k = 4 ∧ ix = i)) ∨ CopyOk U) (hne : ¬ (k = 4 ∧ ix = i)) (I : Int) (hI : I = bump k i) :
    Calls Try.prog 39 #[.agg #[.int .i64 k, .string fr, .string tg, .int .i64 ix, sv], .agg #[.int .i64 U.k, .string U.fr, .string U.tg, .int .i64 U.ix, su], .int .i64 i] w
    (MadeH k fr tg ix (subF U kids I) w) := by
  have HBI := hide hI
  clear hI
  obtain ⟨hlen, hw1⟩ := hw
  obtain ⟨a, cap, rfl, hl, hat⟩ := hs.at
  have HH := hide (And.intro hn (And.intro hi2 (And.intro hw1 (And.intro hc (And.intro hsu (And.intro hat (And.intro hfit hfu)))))))
  clear hs hn hi2 hw1 hc hsu hat hfit hfu hl
  go_enter Try.func39, Try.ntmps39
  go_upto_region 1 with fail
  go_cut [2, 17] from 9 to 17 (fun v2 v17 wc => v2 = .int .i64 i ∧ v17 = .bool false ∧ Box5 wc w.heap.size (.int .i64 k) (.string fr) (.string tg) (.int .i64 ix) (.slice a kids.len cap) ∧
    Box5 wc (w.heap.size + 1) (.int .i64 U.k) (.string U.fr) (.string U.tg) (.int .i64 U.ix) su ∧
    Box5 wc (w.heap.size + 2) (.int .i64 0) (.string ⟨#[]⟩) (.string ⟨#[]⟩) (.int .i64 0) (.slice none 0 0) ∧ wc.heap.size = w.heap.size + 3 ∧ Below w.heap.size w wc)
  case first =>
    by_cases h4 : k = 4
    · subst h4
      have hq : (ix == i) = false := beq_eq_false_iff_ne.2 (fun e => hne ⟨rfl, e⟩)
      go_wp2_with fail
      go_meet
      case rel => exact ⟨rfl, rfl, three_new _ _ _ _ _ _ _ _ _ _ _ _ _ _ _ _ _⟩
    · have hq : (k == 4) = false := beq_eq_false_iff_ne.2 h4
      go_wp2_with fail
      go_meet
      case rel => exact ⟨rfl, rfl, three_new _ _ _ _ _ _ _ _ _ _ _ _ _ _ _ _ _⟩
  case rest =>
    obtain ⟨rfl, rfl, hx, hy, hz, hsz, hbw⟩ := hcut
    obtain ⟨x0, x1, x2, x3, x4⟩ := hx.cells
    have hxl := hx.lt
    have HB := hide (And.intro hx (And.intro hy (And.intro hz hbw)))
    clear hx hy hz hbw
    go_upto_region 4 with fail
    go_cut [36] from 30 to 35 (fun v36 wd => ∃ bb : Bool, v36 = .bool bb ∧ Hid (bb = decide (k = 3 ∧ 0 ≤ i)) ∧ wd = wc.alloc (.cells #[.int .i64 k, .string fr, .string tg, .int .i64 ix, .slice none 0 0] ( /- t -/ 25)))
    case first =>
      by_cases h3 : k = 3
      · subst h3
        by_cases h0 : 0 ≤ i
        · have hd : decide ((3 : Int) = 3 ∧ 0 ≤ i) = true := decide_eq_true ⟨rfl, h0⟩
          go_wp2_with fail
          go_meet
          case rel => exact ⟨true, by simp, hide hd.symm, rfl⟩
        · have hd : decide ((3 : Int) = 3 ∧ 0 ≤ i) = false := decide_eq_false (fun h => h0 h.2)
          go_wp2_with fail
          go_meet
          case rel => exact ⟨false, by simp, hide hd.symm, rfl⟩
      · have hq : (k == 3) = false := beq_eq_false_iff_ne.2 h3
        go_wp2_with fail
        go_meet
        case rel => exact ⟨false, by simp, hide (decide_eq_false (fun h => h3 h.1)).symm, rfl⟩
    case rest =>
      obtain ⟨bb, rfl, hbb, rfl⟩ := hcut
      go_upto_if 36 with fail
      go_cut [2] from 37 to 38 (fun v2 wd => v2 = .int .i64 I ∧ wd = wc.alloc (.cells #[.int .i64 k, .string fr, .string tg, .int .i64 ix, .slice none 0 0] ( /- t -/ 25)))
      case first =>
        have hbi : i ≤ 1000000 := by have := HH.out.2.1; omega
        by_cases h3 : k = 3 ∧ 0 ≤ i
        · have hd : bb = true := hbb.out.trans (decide_eq_true h3)
          subst hd
          have e : I = i + 1 := by rw [HBI.out]; unfold bump; rw [if_pos h3]
          have h30 := h3.2
          go_wp2_with fail
          go_meet
          case rel => exact ⟨by rw [e], by rw [h3.1]⟩
        · have hd : bb = false := hbb.out.trans (decide_eq_false h3)
          subst hd
          have e : I = i := by rw [HBI.out]; unfold bump; rw [if_neg h3]
          go_wp2_with fail
          go_meet
          case rel => exact ⟨by rw [e], rfl⟩
      case rest =>
        obtain ⟨rfl, rfl⟩ := hcut
        obtain ⟨hx, hy, hz, hbw⟩ := HB.out
        have hbd := alloc_below wc (.cells #[.int .i64 k, .string fr, .string tg, .int .i64 ix, .slice none 0 0] ( /- t -/ 25))
        have hx := hx.below hbd
        have hy := hy.below hbd
        have hz := hz.below hbd
        have ho := Box5.now wc (.int .i64 k) (.string fr) (.string tg) (.int .i64 ix) (.slice none 0 0) ( /- t -/ 25)
        rw [hsz] at ho
        have hbe := hbw.trans (hbd.mono hbw.size)
        have HST : Hid (SubRel w U k ix fr tg (.slice a kids.len cap) su kids I a (.int .i64 0) (wc.alloc (.cells #[.int .i64 k, .string fr, .string tg, .int .i64 ix, .slice none 0 0] ( /- t -/ 25)))) :=
          hide ⟨.nil, kids, _, [], rfl, rfl, HH.out.2.2.2.2.2.1, hx, hy, hz, ho, Gr.nil _ _, hbe⟩
        clear hx hy hz hbw hbd ho hbe x0 x1 x2 x3 x4 hxl HB
        obtain ⟨i0, hi, hz0, hz1, hz2⟩ := info_parts Try.info28
        have HI := hide (And.intro hi (And.intro hz0 (And.intro hz1 hz2)))
        clear hi hz0 hz1 hz2
        go_wp2_with fail
        clear hsz
        go_loopw [8] (fun iv wr => SubRel w U k ix fr tg (.slice a kids.len cap) su kids I a iv wr) (fun iv _ => kids.len - (intOf iv).toNat)
        case atStart => exact HST.out
        case round =>
          obtain ⟨p, g, v, bs, hfe, rfl, hg, hx, hy, hz, ho, hgr, hb⟩ := hrel
          have x4 := hx.cells.2.2.2.2
          have hxl := hx.lt
          cases g with
          | nil =>
            have hge : kids.len ≤ p.len := by rw [hfe, F.app_nil]; exact Nat.le_refl _
            have hple : p.len ≤ kids.len := by rw [hfe, F.app_nil]; exact Nat.le_refl _
            rw [F.app_nil] at hfe
            obtain ⟨va, vc, rfl⟩ := hgr.val
            obtain ⟨o0, o1, o2, o3, o4⟩ := ho.cells
            obtain ⟨z0, z1, z2, z3, z4⟩ := hz.cells
            have fz := hz.frozen
            have hol := ho.lt
            have hzl := hz.lt
            have HG := hide hgr
            have HB := hide hb
            have HE := hide hfe
            clear hgr hb hfe hx hy hz ho hg
            go_wp2_with fail
            refine bodyPost_ret (v := .agg #[.int .i64 k, .string fr, .string tg, .int .i64 ix, .slice va (subF U p I).len vc]) (by simp [results, Try.results39, go_sem, *]) rfl ?_
            have hge := HG.out.ge
            rw [HE.out]
            refine ⟨_, bs, rfl, (HG.out.same ?_).mono (by omega), ?_⟩
            · repeat (refine Same.setCell ?_ (fun b h => by have := hge b h; simp; omega) _)
              exact Same.refl _ _
            · repeat (refine Below.setCell ?_ (by first | (simp; done) | (simp; omega)) _)
              exact HB.out
          | cons lab kd fr' tg' ix' kids' rest =>
            have hlt : p.len < kids.len := by rw [hfe, F.len_app]; simp only [F.len]; omega
            obtain ⟨b', o, rfl, l1, l2, l3, l4, l5, c0, c1, c2, c3, c4, ⟨sv', c5, hsv⟩, -⟩ := (hg.still (Still.of_below hb)).head
            obtain ⟨y0, y1, y2, y3, y4⟩ := hy.cells
            obtain ⟨hn, hi2, hw1, hc, hsu, hat, hfit, hfu⟩ := HH.out
            obtain ⟨N, hN⟩ : ∃ N, N = subN U ⟨kd, fr', tg', ix', kids'⟩ I := ⟨_, rfl⟩
            have hbs : -1 ≤ I ∧ I ≤ i + 1 ∧ (i = -1 → I = -1) := by
              rw [HBI.out]
              unfold bump
              split <;> omega
            have hsz2 : kids'.sz < n ∧ 1 + hF kids' ≤ hF kids ∧ (kids'.len ≤ 1000 ∧ lnF kids') := by
              rw [hfe, F.sz_app] at hn
              rw [hfe, hF_app]
              rw [hfe, lnF_app] at hw1
              simp only [F.sz, hF, lnF] at hn hw1 ⊢
              exact ⟨by omega, by omega, hw1.2.1, hw1.2.2.1⟩
            have HCALL : Hid (∀ w', Sl w' sv' kids' → Sl w' su U.kids → Calls Try.prog 39 #[.agg #[.int .i64 kd, .string fr', .string tg', .int .i64 ix', sv'], .agg #[.int .i64 U.k, .string U.fr, .string U.tg, .int .i64 U.ix, su], .int .i64 I] w' (MadeN N.k N.fr N.tg N.ix N.kids w')) := hide (fun w' h1 h2 => by
              rw [hN]
              refine ih w' kd ix' I fr' tg' sv' kids' U su hsz2.1 h1 h2 ⟨l2, l3, l4, l5⟩ hfu hbs.1 (by omega) hsz2.2.2 ?_
              rcases hc with hc | hc
              · exact absurd (congrArg F.len (hfe.symm.trans hc.1)) (by rw [F.len_app]; simp [F.len])
              · exact Or.inr hc)
            have HFN : Hid (Fit N) := hide (by rw [hN]; exact subN_fit ⟨l2, l3, l4, l5⟩ hfu)
            have hdr : Still wr wr.drew := fun _ _ h => h
            have HSV := hide (hsv.still hdr)
            have HSU := hide ((hsu.still (Still.of_below hb)).still hdr)
            have hpl : p.len ≤ 1000 := by omega
            have HSL : Hid ((subF U p I).len ≤ 1000) := hide (by rw [subF_len]; exact hpl)
            have HL := hide l1
            have hyl := hy.lt
            have hol := ho.lt
            have hbl := World.block_lt_of_cell? _ _ c0
            have hbw : b' < w.heap.size := by
              obtain ⟨b2, o2, e2, _, _, _, _, _, q0, _⟩ := hg.head
              simp only [Option.some.injEq, Addr.mk.injEq, and_true] at e2
              rw [e2.1]
              exact World.block_lt_of_cell? _ _ q0
            have o4 := ho.cells.2.2.2.2
            have HO := hide ho
            have HGR := hide (hgr.below (w' := wr.drew) (Below.refl _ _).drew)
            have HB := hide hb
            have HE := hide hfe
            have HNN := hide hN
            have HR := hide (And.intro hx (And.intro hy (And.intro hz hg)))
            clear hx hy hz ho hgr hb hfe hN hg hsu hsv l1 l2 l3 l4 l5 hn hi2 hw1 hc hat hfit hfu hsz2 hdr
            go_wp2_with fail
            refine wp_region_T (fun w' => w'.cell? ⟨w.heap.size, 4, none⟩ = some (.slice (some ⟨b', o, none⟩) kids.len cap) ∧ w'.cell? ⟨w.heap.size + 3, 4, none⟩ = some v ∧
                            w'.cell? ⟨b', o + p.len * 6, none⟩ = some (.string lab) ∧ w'.cell? ⟨b', o + p.len * 6 + 1, none⟩ = some (.int .i64 kd) ∧ w'.cell? ⟨b', o + p.len * 6 + 2, none⟩ = some (.string fr') ∧ w'.cell? ⟨b', o + p.len * 6 + 3, none⟩ = some (.string tg') ∧ w'.cell? ⟨b', o + p.len * 6 + 4, none⟩ = some (.int .i64 ix') ∧ w'.cell? ⟨b', o + p.len * 6 + 5, none⟩ = some sv' ∧
                            w'.cell? ⟨w.heap.size + 1, 0, none⟩ = some (.int .i64 U.k) ∧ w'.cell? ⟨w.heap.size + 1, 1, none⟩ = some (.string U.fr) ∧ w'.cell? ⟨w.heap.size + 1, 2, none⟩ = some (.string U.tg) ∧ w'.cell? ⟨w.heap.size + 1, 3, none⟩ = some (.int .i64 U.ix) ∧ w'.cell? ⟨w.heap.size + 1, 4, none⟩ = some su) 21 (by kernel_rfl) ⟨x4, o4, c0, c1, c2, c3, c4, c5, y0, y1, y2, y3, y4⟩ (fun hHeld => ?_)
            refine wpAnyT_take (L := 21) (i := 0) (v := ?v0) rfl (by kernel_rfl) (by kernel_rfl) (by kernel_rfl) (by kernel_rfl) (fun _ _ _ h => h) hHeld (Or.inl ⟨by rfl, ?hy0⟩) ?rest0
            case hy0 => ((intro w' hw'); (try dsimp only at hw'); (go_simp); (try with_reducible rfl))
            (try simp only [Act.put]); (try simp only [List.setIfInBounds_toArray]); (try simp only [List.set_cons_zero]); (try simp only [List.set_cons_succ])
            refine wpAnyT_take (L := 21) (i := 1) (v := ?v1) rfl (by kernel_rfl) (by kernel_rfl) (by kernel_rfl) (by kernel_rfl) (fun _ _ _ h => h) hHeld (Or.inl ⟨by rfl, ?hy1⟩) ?rest1
            case hy1 => ((intro w' hw'); (try dsimp only at hw'); (go_simp); (try with_reducible rfl))
            (try simp only [Act.put]); (try simp only [List.setIfInBounds_toArray]); (try simp only [List.set_cons_zero]); (try simp only [List.set_cons_succ])
            refine wpAnyT_take (L := 21) (i := 2) (v := ?v2) rfl (by kernel_rfl) (by kernel_rfl) (by kernel_rfl) (by kernel_rfl) (fun _ _ _ h => h) hHeld (Or.inl ⟨by rfl, ?hy2⟩) ?rest2
            case hy2 => ((intro w' hw'); (try dsimp only at hw'); (go_simp); (try with_reducible rfl))
            (try simp only [Act.put]); (try simp only [List.setIfInBounds_toArray]); (try simp only [List.set_cons_zero]); (try simp only [List.set_cons_succ])
            refine wpAnyT_take (L := 21) (i := 3) (v := ?v3) rfl (by kernel_rfl) (by kernel_rfl) (by kernel_rfl) (by kernel_rfl) (fun _ _ _ h => h) hHeld (Or.inl ⟨by rfl, ?hy3⟩) ?rest3
            case hy3 => ((intro w' hw'); (try dsimp only at hw'); (go_simp); (try with_reducible rfl))
            (try simp only [Act.put]); (try simp only [List.setIfInBounds_toArray]); (try simp only [List.set_cons_zero]); (try simp only [List.set_cons_succ])
            refine wpAnyT_take (L := 21) (i := 4) (v := ?v4) rfl (by kernel_rfl) (by kernel_rfl) (by kernel_rfl) (by kernel_rfl) (fun _ _ _ h => h) hHeld (Or.inl ⟨by rfl, ?hy4⟩) ?rest4
            case hy4 => ((intro w' hw'); (try dsimp only at hw'); (go_simp); (try with_reducible rfl))
            (try simp only [Act.put]); (try simp only [List.setIfInBounds_toArray]); (try simp only [List.set_cons_zero]); (try simp only [List.set_cons_succ])
            refine wpAnyT_take (L := 21) (i := 5) (v := ?v5) rfl (by kernel_rfl) (by kernel_rfl) (by kernel_rfl) (by kernel_rfl) (fun _ _ _ h => h) hHeld (Or.inl ⟨by rfl, ?hy5⟩) ?rest5
            case hy5 => ((intro w' hw'); (try dsimp only at hw'); (go_simp); (try with_reducible rfl))
            (try simp only [Act.put]); (try simp only [List.setIfInBounds_toArray]); (try simp only [List.set_cons_zero]); (try simp only [List.set_cons_succ])
            refine wpAnyT_take (L := 21) (i := 6) (v := ?v6) rfl (by kernel_rfl) (by kernel_rfl) (by kernel_rfl) (by kernel_rfl) (fun _ _ _ h => h) hHeld (Or.inl ⟨by rfl, ?hy6⟩) ?rest6
            case hy6 => ((intro w' hw'); (try dsimp only at hw'); (go_simp); (try with_reducible rfl))
            (try simp only [Act.put]); (try simp only [List.setIfInBounds_toArray]); (try simp only [List.set_cons_zero]); (try simp only [List.set_cons_succ])
            refine wpAnyT_take (L := 21) (i := 7) (v := ?v7) rfl (by kernel_rfl) (by kernel_rfl) (by kernel_rfl) (by kernel_rfl) (fun _ _ _ h => h) hHeld (Or.inl ⟨by rfl, ?hy7⟩) ?rest7
            case hy7 => ((intro w' hw'); (try dsimp only at hw'); (go_simp); (try with_reducible rfl))
            (try simp only [Act.put]); (try simp only [List.setIfInBounds_toArray]); (try simp only [List.set_cons_zero]); (try simp only [List.set_cons_succ])
            refine wpAnyT_take (L := 21) (i := 8) (v := ?v8) rfl (by kernel_rfl) (by kernel_rfl) (by kernel_rfl) (by kernel_rfl) (fun _ _ _ h => h) hHeld (Or.inl ⟨by rfl, ?hy8⟩) ?rest8
            case hy8 => ((intro w' hw'); (try dsimp only at hw'); (go_simp); (try with_reducible rfl))
            (try simp only [Act.put]); (try simp only [List.setIfInBounds_toArray]); (try simp only [List.set_cons_zero]); (try simp only [List.set_cons_succ])
            refine wpAnyT_take (L := 21) (i := 9) (v := ?v9) rfl (by kernel_rfl) (by kernel_rfl) (by kernel_rfl) (by kernel_rfl) (fun _ _ _ h => h) hHeld (Or.inl ⟨by rfl, ?hy9⟩) ?rest9
            case hy9 => ((intro w' hw'); (try dsimp only at hw'); (go_simp); (try with_reducible rfl))
            (try simp only [Act.put]); (try simp only [List.setIfInBounds_toArray]); (try simp only [List.set_cons_zero]); (try simp only [List.set_cons_succ])
            refine wpAnyT_take (L := 21) (i := 10) (v := ?v10) rfl (by kernel_rfl) (by kernel_rfl) (by kernel_rfl) (by kernel_rfl) (fun _ _ _ h => h) hHeld (Or.inl ⟨by rfl, ?hy10⟩) ?rest10
            case hy10 => ((intro w' hw'); (try dsimp only at hw'); (go_simp); (try with_reducible rfl))
            (try simp only [Act.put]); (try simp only [List.setIfInBounds_toArray]); (try simp only [List.set_cons_zero]); (try simp only [List.set_cons_succ])
            refine wpAnyT_take (L := 21) (i := 11) (v := ?v11) rfl (by kernel_rfl) (by kernel_rfl) (by kernel_rfl) (by kernel_rfl) (fun _ _ _ h => h) hHeld (Or.inl ⟨by rfl, ?hy11⟩) ?rest11
            case hy11 => ((intro w' hw'); (try dsimp only at hw'); (go_simp); (try with_reducible rfl))
            (try simp only [Act.put]); (try simp only [List.setIfInBounds_toArray]); (try simp only [List.set_cons_zero]); (try simp only [List.set_cons_succ])
            refine wpAnyT_take (L := 21) (i := 12) (v := ?v12) rfl (by kernel_rfl) (by kernel_rfl) (by kernel_rfl) (by kernel_rfl) (fun _ _ _ h => h) hHeld (Or.inl ⟨by rfl, ?hy12⟩) ?rest12
            case hy12 => ((intro w' hw'); (try dsimp only at hw'); (go_simp); (try with_reducible rfl))
            (try simp only [Act.put]); (try simp only [List.setIfInBounds_toArray]); (try simp only [List.set_cons_zero]); (try simp only [List.set_cons_succ])
            refine wpAnyT_take (L := 21) (i := 13) (v := ?v13) rfl (by kernel_rfl) (by kernel_rfl) (by kernel_rfl) (by kernel_rfl) (fun _ _ _ h => h) hHeld (Or.inl ⟨by rfl, ?hy13⟩) ?rest13
            case hy13 => ((intro w' hw'); (try dsimp only at hw'); (go_simp); (try with_reducible rfl))
            (try simp only [Act.put]); (try simp only [List.setIfInBounds_toArray]); (try simp only [List.set_cons_zero]); (try simp only [List.set_cons_succ])
            refine wpAnyT_take (L := 21) (i := 14) (v := ?v14) rfl (by kernel_rfl) (by kernel_rfl) (by kernel_rfl) (by kernel_rfl) (fun _ _ _ h => h) hHeld (Or.inl ⟨by rfl, ?hy14⟩) ?rest14
            case hy14 => ((intro w' hw'); (try dsimp only at hw'); (go_simp); (try with_reducible rfl))
            (try simp only [Act.put]); (try simp only [List.setIfInBounds_toArray]); (try simp only [List.set_cons_zero]); (try simp only [List.set_cons_succ])
            refine wpAnyT_take (L := 21) (i := 15) (v := ?v15) rfl (by kernel_rfl) (by kernel_rfl) (by kernel_rfl) (by kernel_rfl) (fun _ _ _ h => h) hHeld (Or.inl ⟨by rfl, ?hy15⟩) ?rest15
            case hy15 => ((intro w' hw'); (try dsimp only at hw'); (go_simp); (try with_reducible rfl))
            (try simp only [Act.put]); (try simp only [List.setIfInBounds_toArray]); (try simp only [List.set_cons_zero]); (try simp only [List.set_cons_succ])
            refine wpAnyT_one (L := 21) (i := 16) (by kernel_rfl) rfl (fun K hK => ?_)
            go_simp
            go_at_call 39
            (with_reducible refine (HCALL.out _ ?_ ?_).mono ?_)
            · exact HSV.out
            · exact HSU.out
            rintro e w5 ⟨u, ks, rfl, how, hks, hknd, hb5⟩
            obtain ⟨ua, uc, rfl⟩ := how.val
            have hst := Still.of_below hb5
            have HD5 := hide (And.intro (hst _ _ x4) (And.intro (hst _ _ o4) (And.intro (hst _ _ c0) (And.intro (hst _ _ c1) (And.intro (hst _ _ c2) (And.intro (hst _ _ c3) (And.intro (hst _ _ c4) (And.intro (hst _ _ c5) (And.intro (hst _ _ y0) (And.intro (hst _ _ y1) (And.intro (hst _ _ y2) (And.intro (hst _ _ y3) (hst _ _ y4)))))))))))))
            refine hK.out _ _ (fun _ => HD5.out) ?_
            clear hK K
            refine wpAnyT_take (L := 21) (i := 17) (v := ?v17) rfl (by kernel_rfl) (by kernel_rfl) (by kernel_rfl) (by kernel_rfl) (fun _ _ _ h => h) HD5.out (Or.inl ⟨by rfl, ?hy17⟩) ?rest17
            case hy17 => ((intro w' hw'); (try dsimp only at hw'); (go_simp); (try with_reducible rfl))
            (try simp only [Act.put]); (try simp only [List.setIfInBounds_toArray]); (try simp only [List.set_cons_zero]); (try simp only [List.set_cons_succ])
            refine wpAnyT_one (L := 21) (i := 18) (by kernel_rfl) rfl (fun K hK => ?_)
            go_simp
            have hst2 := Still.of_below (alloc_below w5 (.cells #[.string lab, .int .i64 N.k, .string N.fr, .string N.tg, .int .i64 N.ix, .slice ua N.kids.len uc] ( /- t -/ 28)))
            obtain ⟨s0, s1, s2, s3, s4, s5, s6, s7, s8, s9, s10, s11, s12⟩ := HD5.out
            have HD6 := hide (And.intro (hst2 _ _ s0) (And.intro (hst2 _ _ s1) (And.intro (hst2 _ _ s2) (And.intro (hst2 _ _ s3) (And.intro (hst2 _ _ s4) (And.intro (hst2 _ _ s5) (And.intro (hst2 _ _ s6) (And.intro (hst2 _ _ s7) (And.intro (hst2 _ _ s8) (And.intro (hst2 _ _ s9) (And.intro (hst2 _ _ s10) (And.intro (hst2 _ _ s11) (hst2 _ _ s12)))))))))))))
            refine hK.out _ _ (fun _ => HD6.out) ?_
            clear hK K
            (try simp only [Act.put]); (try simp only [List.setIfInBounds_toArray]); (try simp only [List.set_cons_zero]); (try simp only [List.set_cons_succ])
            refine wpAnyT_one (L := 21) (i := 19) (by kernel_rfl) rfl (fun K hK => ?_)
            have hgr5 := (HGR.out.below hb5).below (alloc_below w5 (.cells #[.string lab, .int .i64 N.k, .string N.fr, .string N.tg, .int .i64 N.ix, .slice ua N.kids.len uc] ( /- t -/ 28)))
            refine step_append_lies _ (by rfl) _ _ _ (by rfl) (w.heap.size + 4) ( /- t -/ 28) i0 _ 6 88 Try.underlying23 HI.out.1 HI.out.2.1 HI.out.2.2.1 HI.out.2.2.2 rfl (by omega) v (subF U p I).len (grXs (w5.alloc (.cells #[.string lab, .int .i64 N.k, .string N.fr, .string N.tg, .int .i64 N.ix, .slice ua N.kids.len uc] ( /- t -/ 28))) v (subF U p I)) (by rfl) hgr5.owns
              ⟨w5.heap.size, 0, none⟩ 1 1 [.string lab, .int .i64 N.k, .string N.fr, .string N.tg, .int .i64 N.ix, .slice ua N.kids.len uc] (by rfl) (by rfl) (World.news_of_block (cs := #[.string lab, .int .i64 N.k, .string N.fr, .string N.tg, .int .i64 N.ix, .slice ua N.kids.len uc]) (t := ( /- t -/ 28)) (fr := (0, 0)) (heap_alloc_new w5 _)) (by simp [Value.oneCell'])
              (by omega) (by have := HSL.out; unfold maxLen; omega) (by have := HSL.out; omega) (by have := hb5.size; simp at this ⊢; omega) _ rfl ?_
            intro gg cp w6 hown6 hgrow6 hat6 hlt6
            have hfar : ∀ (b o : Nat) (x : Value), b < w.heap.size + 4 → (w5.alloc (.cells #[.string lab, .int .i64 N.k, .string N.fr, .string N.tg, .int .i64 N.ix, .slice ua N.kids.len uc] ( /- t -/ 28))).cell? ⟨b, o, none⟩ = some x → w6.cell? ⟨b, o, none⟩ = some x := fun b o x hb he => by
              rw [hgrow6.cell_far ⟨b, o, none⟩ (World.block_lt_of_cell? _ _ he) (fun e => by have := hgr5.ge b (hgr5.block b e.symm); omega)]
              exact he
            obtain ⟨s0, s1, s2, s3, s4, s5, s6, s7, s8, s9, s10, s11, s12⟩ := HD6.out
            have HD7 := hide (And.intro (hfar _ _ _ (by omega) s0) (And.intro (hfar _ _ _ (by omega) s1) (And.intro (hfar _ _ _ (by omega) s2) (And.intro (hfar _ _ _ (by omega) s3) (And.intro (hfar _ _ _ (by omega) s4) (And.intro (hfar _ _ _ (by omega) s5) (And.intro (hfar _ _ _ (by omega) s6) (And.intro (hfar _ _ _ (by omega) s7) (And.intro (hfar _ _ _ (by omega) s8) (And.intro (hfar _ _ _ (by omega) s9) (And.intro (hfar _ _ _ (by omega) s10) (And.intro (hfar _ _ _ (by omega) s11) (hfar _ _ _ (by omega) s12)))))))))))))
            refine hK.out _ _ (fun _ => HD7.out) ?_
            clear hK K
            (try simp only [Act.put]); (try simp only [List.setIfInBounds_toArray]); (try simp only [List.set_cons_zero]); (try simp only [List.set_cons_succ])
            refine wpAnyT_take (L := 21) (i := 20) (v := ?v20) rfl (by kernel_rfl) (by kernel_rfl) (by kernel_rfl) (by kernel_rfl) (fun _ _ _ h => h) HD7.out (Or.inl ⟨by rfl, ?hy20⟩) ?rest20
            case hy20 => ((intro w' hw'); (try dsimp only at hw'); (go_simp); (try with_reducible rfl))
            (try simp only [Act.put]); (try simp only [List.setIfInBounds_toArray]); (try simp only [List.set_cons_zero]); (try simp only [List.set_cons_succ])
            have ho6 : Box5 w6 (w.heap.size + 3) (.int .i64 k) (.string fr) (.string tg) (.int .i64 ix) v := (((HO.out.same (w' := wr.drew) rfl).below hb5).below (alloc_below w5 (.cells #[.string lab, .int .i64 N.k, .string N.fr, .string N.tg, .int .i64 N.ix, .slice ua N.kids.len uc] ( /- t -/ 28)))).same (hgrow6.block _ (by have := hb5.size; simp at this ⊢; omega) (fun e => by have := hgr5.ge _ (hgr5.block _ e.symm); omega))
            have o4 := ho6.cells.2.2.2.2
            have fo := ho6.frozen
            refine wpAnyT_one (L := 21) (i := 21) (by kernel_rfl) rfl (fun K hK => ?_)
            go_simp
            refine hK.out _ _ (fun h => absurd rfl h) ?_
            refine wpAnyT_done (by kernel_rfl) ?_ _
            clear hK K
            have hD : Below w.heap.size w w6 := by
              have h1 := HB.out.drew
              have h2 := h1.trans (hb5.mono h1.size)
              have h3 := h2.alloc h2.size (.cells #[.string lab, .int .i64 N.k, .string N.fr, .string N.tg, .int .i64 N.ix, .slice ua N.kids.len uc] ( /- t -/ 28))
              exact ⟨hgrow6.os.trans h3.os, hgrow6.tape.trans h3.tape, hgrow6.output.trans h3.output, Nat.le_trans h3.size hgrow6.size, fun b hb => (hgrow6.block b (Nat.lt_of_lt_of_le hb h3.size) (fun e => by have := hgr5.ge b (hgr5.block b e.symm); omega)).trans (h3.block b hb)⟩
            have hou := how.same (Same.of_below (alloc_below w5 (.cells #[.string lab, .int .i64 N.k, .string N.fr, .string N.tg, .int .i64 N.ix, .slice ua N.kids.len uc] ( /- t -/ 28))) how.lt)
            obtain ⟨q1, q2, q3, q4⟩ := HFN.out
            have hwr : w.heap.size + 4 ≤ wr.heap.size := by have := hol; omega
            obtain ⟨bs', hpush, -⟩ := Gr.push hgr5 (k := N.k) (ix := N.ix) hou (fun b hb => by have := hks b hb; simp at this; omega) hknd
              (fun b hb hb2 => by have h1 := HGR.out.lt b hb; have h2 := hks b hb2; omega) HL.out q1 q2 q3 q4 hown6 hgrow6 (by rcases hat6 with h | h; exact Or.inl h; exact Or.inr h)
            obtain ⟨hx, hy, hz, hg⟩ := HR.out
            have far : ∀ b, b < w.heap.size + 3 → (w6.setCell ⟨w.heap.size + 3, 4, none⟩ (.slice (some ⟨gg, 0, none⟩) ((subF U p I).len + 1) cp)).heap[b]? = wr.heap[b]? := fun b hb => by
              have h5 := hb5.size
              simp at h5
              rw [Below.heap_setCell _ _ _ _ (by simp; omega), hgrow6.block b (by simp; omega) (fun e => by have := hgr5.ge b (hgr5.block b e.symm); omega), Below.heap_alloc _ _ _ (by omega), hb5.block b (by simp; omega)]
              rfl
            have hEQ : (subF U p I).app (.cons lab N.k N.fr N.tg N.ix N.kids .nil) = subF U (p.app (.cons lab kd fr' tg' ix' kids' .nil)) I := by
              rw [subF_app, subF_cons, HNN.out]
              rfl
            rw [hEQ] at hpush
            have HREL : Hid (SubRel w U k ix fr tg (.slice (some ⟨b', o, none⟩) kids.len cap) su kids I (some ⟨b', o, none⟩) (.int .i64 ((p.len + 1 : Nat) : Int)) (w6.setCell ⟨w.heap.size + 3, 4, none⟩ (.slice (some ⟨gg, 0, none⟩) ((subF U p I).len + 1) cp))) := hide
              ⟨p.app (.cons lab kd fr' tg' ix' kids' .nil), rest, _, bs', by rw [HE.out, F.app_assoc]; rfl, by rw [F.len_app]; rfl, by rw [F.len_app]; exact hg.tail, hx.same (far _ (by omega)), hy.same (far _ (by omega)), hz.same (far _ (by omega)), ho6.set4 _,
                hpush.same (fun b hb => Below.heap_setCell _ _ _ _ (by have := hpush.ge b hb; simp; omega)), hD.setCell (by simp) _⟩
            clear hpush hx hy hz hg far hEQ hou hD hown6 hgrow6 hat6 hgr5 how hks hknd
            go_wp2_with fail
            go_roundw
            case rel => exact HREL.out
            case measure => simp [intOf]; omega

theorem subg_all : ∀ n, SubGt n := by
  intro n
  induction n with
  | zero => intro w k ix i fr tg sv kids U su hn; omega
  | succ n ih =>
    intro w k ix i fr tg sv kids U su hn hs hsu hfit hfu hi1 hi2 hw hc
    by_cases hv : k = 4 ∧ ix = i
    · obtain ⟨rfl, rfl⟩ := hv
      refine sub_var w ix fr tg sv kids U su hsu ?_
      rcases hc with hc | hc
      · exact absurd ⟨rfl, rfl⟩ hc.2
      · exact hc
    · have e : subN U ⟨k, fr, tg, ix, kids⟩ i = ⟨k, fr, tg, ix, subF U kids (bump k i)⟩ := by unfold subN; rw [if_neg hv]
      rw [e]
      exact (subg_loop n ih w k ix i fr tg sv kids U su hn hs hsu hfit hfu hi1 hi2 hw hc hv _ rfl).mono (fun _ _ h => h.made)

theorem zero_ok : CopyOk ⟨0, ⟨#[]⟩, ⟨#[]⟩, 0, .nil⟩ := by
  intro w su hs
  have := subg_all 1 w 0 0 (-1) ⟨#[]⟩ ⟨#[]⟩ su .nil ⟨0, ⟨#[]⟩, ⟨#[]⟩, 0, .nil⟩ (.slice none 0 0) (by simp [F.sz]) hs Sl.nil ⟨by decide, by decide, by decide, by decide⟩ ⟨by decide, by decide, by decide, by decide⟩ (by omega) (by simp [hF]) ⟨by simp [F.len], trivial⟩ (Or.inl ⟨rfl, by omega⟩)
  exact this

/-- What a copy is of any tree: a variable with the index -1 is replaced by the zero value. -/
def cpz (U : Nd) : Nd := subN ⟨0, ⟨#[]⟩, ⟨#[]⟩, 0, .nil⟩ U (-1)
theorem zero_okH (w : World) (su : Value) (hs : Sl w su .nil) :
    Calls Try.prog 39 #[.agg #[.int .i64 0, .string ⟨#[]⟩, .string ⟨#[]⟩, .int .i64 0, su], .agg #[.int .i64 0, .string ⟨#[]⟩, .string ⟨#[]⟩, .int .i64 0, .slice none 0 0], .int .i64 (-1)] w (MadeH 0 ⟨#[]⟩ ⟨#[]⟩ 0 .nil w) :=
  subg_loop 0 (subg_all 0) w 0 0 (-1) ⟨#[]⟩ ⟨#[]⟩ su .nil ⟨0, ⟨#[]⟩, ⟨#[]⟩, 0, .nil⟩ (.slice none 0 0) (by simp [F.sz]) hs Sl.nil ⟨by decide, by decide, by decide, by decide⟩ ⟨by decide, by decide, by decide, by decide⟩ (by omega) (by simp [hF]) ⟨by simp [F.len], trivial⟩ (Or.inl ⟨rfl, by omega⟩) (by omega) _ rfl
set_option maxHeartbeats 1000000 in
set_option maxRecDepth 100000 in
theorem subv_H (w : World) (fr tg : ByteArray) (sv : Value) :
    Calls Try.prog 39 #[.agg #[.int .i64 4, .string fr, .string tg, .int .i64 (-1), sv], .agg #[.int .i64 0, .string ⟨#[]⟩, .string ⟨#[]⟩, .int .i64 0, .slice none 0 0], .int .i64 (-1)] w
    (MadeH 0 ⟨#[]⟩ ⟨#[]⟩ 0 .nil w) := by
  go_enter Try.func39, Try.ntmps39
  go_wp2_with fail
  refine (zero_okH _ _ Sl.nil).mono ?_
  rintro e w1 ⟨u, bs, rfl, how, hb⟩
  obtain ⟨ua, uc, rfl⟩ := how.val
  have HO := hide how
  have HG := hide how.ge
  clear how
  obtain ⟨hc, hf⟩ := bcell hb
  have hz := hb.size
  simp at hz
  go_wp2_with fail
  refine bodyPost_ret (v := .agg #[.int .i64 0, .string ⟨#[]⟩, .string ⟨#[]⟩, .int .i64 0, .slice ua F.nil.len uc]) (by simp [results, Try.results39, go_sem, hc]) rfl ?_
  have hB : Below w.heap.size w w1 := ((((alloc_below w _).alloc (by simp) _).alloc (by simp; omega) _).trans (hb.mono (by simp; omega)))
  have q : ∀ b, b ∈ bs → w.heap.size + 3 ≤ b := fun b h => by have := HG.out b h; simp at this; omega
  refine ⟨_, bs, rfl, (HO.out.same ?_).mono (by simp; omega), ?_⟩
  · repeat (refine Same.setCell ?_ (fun b h => by have := q b h; simp; omega) _)
    exact Same.refl _ _
  · repeat (refine Below.setCell ?_ (by first | (simp; done) | (simp; omega)) _)
    exact hB
theorem copyg_sub (w : World) (U : Nd) (su : Value) (hs : Sl w su U.kids) (hf : Fit U) (hh : hF U.kids ≤ 900000) (hl : U.kids.len ≤ 1000 ∧ lnF U.kids) :
    Calls Try.prog 39 #[.agg #[.int .i64 U.k, .string U.fr, .string U.tg, .int .i64 U.ix, su], .agg #[.int .i64 0, .string ⟨#[]⟩, .string ⟨#[]⟩, .int .i64 0, .slice none 0 0], .int .i64 (-1)] w (MadeH (cpz U).k (cpz U).fr (cpz U).tg (cpz U).ix (cpz U).kids w) := by
  by_cases hv : U.k = 4 ∧ U.ix = -1
  · have h := subv_H w U.fr U.tg su
    have e : cpz U = ⟨0, ⟨#[]⟩, ⟨#[]⟩, 0, .nil⟩ := by unfold cpz subN; rw [if_pos hv]
    rw [e, hv.1, hv.2]
    exact h
  · have e : cpz U = ⟨U.k, U.fr, U.tg, U.ix, subF ⟨0, ⟨#[]⟩, ⟨#[]⟩, 0, .nil⟩ U.kids (bump U.k (-1))⟩ := by unfold cpz subN; rw [if_neg hv]
    rw [e]
    exact subg_loop U.kids.sz (subg_all _) w U.k U.ix (-1) U.fr U.tg su U.kids ⟨0, ⟨#[]⟩, ⟨#[]⟩, 0, .nil⟩ (.slice none 0 0) (Nat.lt_succ_self _) hs Sl.nil hf ⟨by decide, by decide, by decide, by decide⟩ (by omega) (by omega) hl (Or.inr zero_ok) hv _ rfl

set_option maxHeartbeats 1000000 in
set_option maxRecDepth 100000 in
theorem copyg_calls (w : World) (U : Nd) (su : Value) (hsu : Sl w su U.kids) (hf : Fit U) (hh : hF U.kids ≤ 900000) (hl : U.kids.len ≤ 1000 ∧ lnF U.kids) :
    Calls Try.prog 40 #[.agg #[.int .i64 U.k, .string U.fr, .string U.tg, .int .i64 U.ix, su]] w (MadeH (cpz U).k (cpz U).fr (cpz U).tg (cpz U).ix (cpz U).kids w) := by
  have HC := hide (fun (w' : World) (su : Value) (hs : Sl w' su U.kids) => copyg_sub w' U su hs hf hh hl)
  have HS := hide hsu
  clear hf hh hl hsu
  go_enter Try.func40, Try.ntmps40
  go_wp2_with fail
  refine (HC.out _ su (HS.out.still (Still.of_below ?_))).mono ?_
  · exact (alloc_below _ _).alloc (by simp) _
  rintro e w1 ⟨u, bs, rfl, how, hb⟩
  obtain ⟨ua, uc, rfl⟩ := how.val
  have HO := hide how
  have HG := hide how.ge
  clear how
  obtain ⟨hc, hf⟩ := bcell hb
  have hz := hb.size
  simp at hz
  go_wp2_with fail
  refine bodyPost_ret (v := .agg #[.int .i64 (cpz U).k, .string (cpz U).fr, .string (cpz U).tg, .int .i64 (cpz U).ix, .slice ua (cpz U).kids.len uc]) (by simp [results, Try.results40, go_sem, hc]) rfl ?_
  have hB : Below w.heap.size w w1 := (((alloc_below w _).alloc (by simp) _).trans (hb.mono (by simp; omega)))
  have q : ∀ b, b ∈ bs → w.heap.size + 2 ≤ b := fun b h => by have := HG.out b h; simp at this; omega
  refine ⟨_, bs, rfl, (HO.out.same ?_).mono (by simp; omega), ?_⟩
  · repeat (refine Same.setCell ?_ (fun b h => by have := q b h; simp; omega) _)
    exact Same.refl _ _
  · repeat (refine Below.setCell ?_ (by first | (simp; done) | (simp; omega)) _)
    exact hB
end Go.Proofs.Ytgcefippeokmcaa
