/- l1Mutate of the model: any tree, changed a little. -/
import Derived.Test.YtgcefippeokmcaaDy
import Derived.Test.YtgcefippeokmcaaUq
namespace Go.Proofs.Ytgcefippeokmcaa
open Go.RowKit

theorem cpz_sz (Z : Nd) (hZ : Z.kids = .nil) : ∀ (f : F) (i : Int), (subF Z f i).sz ≤ f.sz := by
  intro f
  induction f with
  | nil => intro i; exact Nat.le_refl _
  | cons lab k fr tg ix kids rest ihk ihr =>
    intro i
    unfold subF
    split
    · simp only [F.sz, hZ]
      have := ihr i
      omega
    · simp only [F.sz]
      have h1 := ihk (bump k i)
      have h2 := ihr i
      omega
theorem cpz_sm (Z : Nd) (hZ : Z.kids = .nil) (hz : Z.ix = 0) : ∀ (f : F) (i : Int), smF f → smF (subF Z f i) := by
  intro f
  induction f with
  | nil => intro i _; trivial
  | cons lab k fr tg ix kids rest ihk ihr =>
    intro i h
    unfold subF
    split
    · simp only [smF, hZ, hz]
      exact ⟨by omega, trivial, ihr i h.2.2⟩
    · simp only [smF]
      exact ⟨h.1, ihk _ h.2.1, ihr i h.2.2⟩
theorem hF_sz : ∀ f : F, hF f ≤ f.sz
  | .nil => by simp [hF]
  | .cons lab k fr tg ix kids rest => by
    have h1 := hF_sz kids
    have h2 := hF_sz rest
    simp only [hF, F.sz]
    omega
theorem cpzN_sz (g : Nd) : (cpz g).kids.sz ≤ g.kids.sz := by
  unfold cpz subN
  split
  · exact Nat.zero_le _
  · exact cpz_sz _ rfl _ _
theorem cpzN_sm (g : Nd) (h : smF g.kids) : smF (cpz g).kids := by
  unfold cpz subN
  split
  · trivial
  · exact cpz_sm _ rfl rfl _ _ h
theorem cpzN_fit {g : Nd} (h : Fit g) : Fit (cpz g) := subN_fit h ⟨Nat.zero_le _, Nat.zero_le _, show (Lit.int .i64 0).wf = true by decide, show (Lit.int .i64 0).wf = true by decide⟩
theorem St.set {w : World} {rb : Nat} {cv : Value} {l : List Nat} {p : Nat} {W : World} {q : Nat} (h : St w rb cv l p W q) (a : Addr) (v : Value) (ha : w.heap.size < a.block) : St w rb cv l p (W.setCell a v) q := by
  have hl := h.start.lt
  have ho : Only rb w (W.setCell a v) := h.only.setCell (Or.inr (by omega)) v
  exact ⟨h.start, ho, h.start.fin h.rd ho (Below.heap_setCell _ _ _ _ (by omega)), h.box.same (Below.heap_setCell _ _ _ _ (by omega))⟩
theorem St.boxq {w : World} {rb : Nat} {cv : Value} {l : List Nat} {p : Nat} {W : World} {q : Nat} {cs : Array Value} {t : TypeId} (h : St (w.alloc (.cells cs t)) rb cv l p W q) : Box5 W (w.heap.size + 1) (.int .i64 0) (.string ⟨#[]⟩) (.string ⟨#[]⟩) (.int .i64 0) (.slice none 0 0) := by
  have := h.box
  rwa [show (w.alloc (.cells cs t)).heap.size = w.heap.size + 1 by simp] at this
theorem St.drew {w : World} {rb : Nat} {cv : Value} {l : List Nat} {p : Nat} {W : World} {q : Nat} (h : St w rb cv l p W q) : St w rb cv l p W.drew q := h.on (Only.refl _ _).drew h.rd.drew
theorem St.below {w : World} {rb : Nat} {cv : Value} {l : List Nat} {p : Nat} {W W' : World} {q : Nat} (h : St w rb cv l p W q) (hb : Below W.heap.size W W') : St w rb cv l p W' q := h.on ((Only.refl _ _).below hb) (h.rd.below hb)
theorem DrP.back {Q : Nd → Prop} {w w1 : World} {rb : Nat} {cv : Value} {l : List Nat} {p K S : Nat} {e : Ending} {w' : World} {cs : Array Value} (t : TypeId) (hw : w1 = w.alloc (.cells cs t)) (h : DrP Q w1 rb cv l p K S e w') : DrP Q w rb cv l p K S e w' := by
  subst hw
  obtain ⟨N, u, bs, h1, h2, h3⟩ := h
  have hz : w.heap.size ≤ (w.alloc (.cells cs t)).heap.size := by simp
  exact ⟨N, u, bs, h1, h2, h3.own, fun b hb => Nat.le_trans hz (h3.ge b hb), h3.nd, ((Only.refl rb w).alloc _).trans h3.only, h3.rd, h3.fit, h3.sz⟩

set_option maxHeartbeats 4000000 in
set_option maxRecDepth 100000 in
theorem mut_calls (w : World) (rb : Nat) (cv : Value) (l : List Nat) (p : Nat) (h : Rd w rb cv l p) (hp : p + 4 ≤ 1000000) (g : Nd) (sv : Value) (hs : Sl w sv g.kids) (hf : Fit g) (hsz : g.kids.sz ≤ 900) :
    Calls Try.prog 34 #[.pointer (some ⟨rb, 0, none⟩), .agg #[.int .i64 g.k, .string g.fr, .string g.tg, .int .i64 g.ix, sv]] w (DrP (fun N => smF g.kids → smF N.kids) w rb cv l p 4 (g.kids.sz + 1)) := by
  have hrb := h.lt
  have HS0 := hide (St.new (h.below (alloc_below w (.cells #[.int .i64 g.k, .string g.fr, .string g.tg, .int .i64 g.ix, sv] ( /- t -/ 25)))) ( /- t -/ 25))
  have HSV := hide hs
  have HF := hide hf
  have HFC := hide (cpzN_fit hf)
  have HCP := hide (fun (w' : World) (hs : Sl w' sv g.kids) => copyg_calls w' g sv hs hf (by have := hF_sz g.kids; omega) ⟨by have := len_sz g.kids; omega, lnF_sz _ (by omega)⟩)
  obtain ⟨i0, hinf, hz0, hz1, hz2⟩ := info_parts Try.info28
  have HI := hide (And.intro hinf (And.intro hz0 (And.intro hz1 hz2)))
  clear hinf hz0 hz1 hz2 h hs hf
  go_enter Try.func34, Try.ntmps34
  go_wp2_with fail
  have HB2 := hide (((alloc_below w (.cells #[.int .i64 g.k, .string g.fr, .string g.tg, .int .i64 g.ix, sv] ( /- t -/ 25)))).alloc (by simp) (.cells #[.int .i64 0, .string ⟨#[]⟩, .string ⟨#[]⟩, .int .i64 0, .slice none 0 0] ( /- t -/ 25)))
  refine (HCP.out _ (HSV.out.still (Still.of_below HB2.out))).mono ?_
  rintro e wc ⟨u, bs, rfl, hgr, hb⟩
  obtain ⟨ua, uc, rfl⟩ := hgr.val
  have hz2 : w.heap.size + 2 ≤ wc.heap.size := by have := hb.size; simpa using this
  have HS1 := hide ((HS0.out.below hb).alloc (.cells #[.int .i64 (cpz g).k, .string (cpz g).fr, .string (cpz g).tg, .int .i64 (cpz g).ix, .slice ua (cpz g).kids.len uc] ( /- t -/ 25)))
  have HO0 := hide (Box5.now wc (.int .i64 (cpz g).k) (.string (cpz g).fr) (.string (cpz g).tg) (.int .i64 (cpz g).ix) (.slice ua (cpz g).kids.len uc) ( /- t -/ 25))
  have HG00 := hide ((hgr.below (alloc_below wc (.cells #[.int .i64 (cpz g).k, .string (cpz g).fr, .string (cpz g).tg, .int .i64 (cpz g).ix, .slice ua (cpz g).kids.len uc] ( /- t -/ 25)))).mono (base' := w.heap.size + 2) (by simp))
  have HGOB : Hid (∀ x, x ∈ bs → x < wc.heap.size) := hide hgr.lt
  have hwv : wc.heap.size < (wc.alloc (.cells #[.int .i64 (cpz g).k, .string (cpz g).fr, .string (cpz g).tg, .int .i64 (cpz g).ix, .slice ua (cpz g).kids.len uc] ( /- t -/ 25))).heap.size := by simp
  clear hgr hb HS0
  go_upto_region 2 with fail
  generalize wc.alloc (.cells #[.int .i64 (cpz g).k, .string (cpz g).fr, .string (cpz g).tg, .int .i64 (cpz g).ix, .slice ua (cpz g).kids.len uc] ( /- t -/ 25)) = V at *
  generalize wc.heap.size = ob at *
  clear wc
  go_wp2_with fail
  refine (pick_calls _ rb cv l _ HS1.out.rd (by omega) 72 (by omega)).mono ?_
  rintro e wp ⟨v, rfl, hv, hask⟩
  have HP := hide (HS1.out.ask hask)
  have HO1 := hide (HO0.out.same (hask.only.block ob (by omega) (by omega)))
  have HG1 := hide (HG00.out.same (hask.only.same (fun x hx => ⟨HG00.out.lt x hx, by have := HG00.out.ge x hx; omega⟩)))
  have hwp : ob < wp.heap.size := HO1.out.lt
  clear hask HS1 HO0 HG00 hv hwv
  by_cases hv0 : v = 0
  · subst hv0
    go_wp2_with fail
    have HA0 := hide (HP.out.alloc (.cells #[.int .i64 0, .int .i64 5, .int .i64 1, .int .i64 2, .int .i64 3, .int .i64 4] ( /- t -/ 3)))
    have HB0 := hide (HO1.out.below (alloc_below wp (.cells #[.int .i64 0, .int .i64 5, .int .i64 1, .int .i64 2, .int .i64 3, .int .i64 4] ( /- t -/ 3))))
    have HG0 := hide (HG1.out.below (alloc_below wp (.cells #[.int .i64 0, .int .i64 5, .int .i64 1, .int .i64 2, .int .i64 3, .int .i64 4] ( /- t -/ 3))))
    refine (num_calls _ rb cv l _ HA0.out.rd (by omega) [0, 5, 1, 2, 3, 4] _ (sl6i wp _ _ _ _ _ _ ( /- t -/ 3)) (by decide) (by decide) (new_far HP.out.rd.lt)).mono ?_
    rintro e wq ⟨nv, hnv, rfl, hask⟩
    have HNW := hide (wf_all hnv (by decide))
    have HQ := hide (HA0.out.ask hask)
    have HOQ := hide (HB0.out.same (hask.only.block ob (by simp; omega) (by omega)))
    have HGQ := hide (HG0.out.same (hask.only.same (fun x hx => ⟨HG0.out.lt x hx, by have := HG0.out.ge x hx; omega⟩)))
    clear hask HA0 HB0 HG0 hnv
    obtain ⟨y0, y1, y2, y3, y4⟩ := HOQ.out.cells
    have fy := HOQ.out.frozen
    have ly := HOQ.out.lt
    obtain ⟨x0, x1, x2, x3, x4⟩ := HQ.out.boxq.cells
    have fx := HQ.out.boxq.frozen
    have lx := HQ.out.boxq.lt
    go_wp2_with fail
    have HR := hide (HQ.out.set ⟨ob, 0, none⟩ (.int .i64 nv) (by simp; omega))
    have HGR := hide (HGQ.out.same (w' := wq.setCell ⟨ob, 0, none⟩ (.int .i64 nv)) (fun x hx => Below.heap_setCell _ _ _ _ (by have := HGOB.out x hx; simp; omega)))
    refine bodyPost_ret (v := .agg #[.int .i64 nv, .string (cpz g).fr, .string (cpz g).tg, .int .i64 (cpz g).ix, .slice ua (cpz g).kids.len uc]) (by simp [results, Try.results34, go_sem, *]) rfl ?_
    exact DrP.back (( /- t -/ 25)) rfl ⟨⟨nv, (cpz g).fr, (cpz g).tg, (cpz g).ix, (cpz g).kids⟩, _, _, rfl, fun h => cpzN_sm g h, dr_fin (N := ⟨nv, (cpz g).fr, (cpz g).tg, (cpz g).ix, (cpz g).kids⟩) HR.out.start HR.out.only HR.out.rd (by omega) HGR.out.ow (w.heap.size + 1) (by simp) (fun x hx => by have := HGR.out.ge x hx; omega) HGR.out.nodup ⟨HFC.out.1, HFC.out.2.1, HNW.out, HFC.out.2.2.2⟩ (Nat.le_trans (cpzN_sz g) (Nat.le_succ _)) _ _ _ _ _⟩
  by_cases hv1 : v = 1
  · subst hv1
    go_wp2_with fail
    have HA0 := hide (HP.out.alloc (.cells #[.string ⟨#[]⟩, .string ⟨#[68]⟩, .string ⟨#[66]⟩, .string ⟨#[65]⟩] ( /- t -/ 9)))
    have HB0 := hide (HO1.out.below (alloc_below wp (.cells #[.string ⟨#[]⟩, .string ⟨#[68]⟩, .string ⟨#[66]⟩, .string ⟨#[65]⟩] ( /- t -/ 9))))
    have HG0 := hide (HG1.out.below (alloc_below wp (.cells #[.string ⟨#[]⟩, .string ⟨#[68]⟩, .string ⟨#[66]⟩, .string ⟨#[65]⟩] ( /- t -/ 9))))
    refine (of_calls _ rb cv l _ HA0.out.rd (by omega) [⟨#[]⟩, ⟨#[68]⟩, ⟨#[66]⟩, ⟨#[65]⟩] _ (sl4 wp _ _ _ _ ( /- t -/ 9) (show (0 : Nat) ≤ maxLen by unfold maxLen; omega) (show (1 : Nat) ≤ maxLen by unfold maxLen; omega) (show (1 : Nat) ≤ maxLen by unfold maxLen; omega) (show (1 : Nat) ≤ maxLen by unfold maxLen; omega)) (by decide) (by decide) (new_far HP.out.rd.lt)).mono ?_
    rintro e wq ⟨nv, hnv, rfl, hask⟩
    have HNW := hide (small_all hnv (by decide))
    have HQ := hide (HA0.out.ask hask)
    have HOQ := hide (HB0.out.same (hask.only.block ob (by simp; omega) (by omega)))
    have HGQ := hide (HG0.out.same (hask.only.same (fun x hx => ⟨HG0.out.lt x hx, by have := HG0.out.ge x hx; omega⟩)))
    clear hask HA0 HB0 HG0 hnv
    obtain ⟨y0, y1, y2, y3, y4⟩ := HOQ.out.cells
    have fy := HOQ.out.frozen
    have ly := HOQ.out.lt
    obtain ⟨x0, x1, x2, x3, x4⟩ := HQ.out.boxq.cells
    have fx := HQ.out.boxq.frozen
    have lx := HQ.out.boxq.lt
    go_wp2_with fail
    have HR := hide (HQ.out.set ⟨ob, 1, none⟩ (.string nv) (by simp; omega))
    have HGR := hide (HGQ.out.same (w' := wq.setCell ⟨ob, 1, none⟩ (.string nv)) (fun x hx => Below.heap_setCell _ _ _ _ (by have := HGOB.out x hx; simp; omega)))
    refine bodyPost_ret (v := .agg #[.int .i64 (cpz g).k, .string nv, .string (cpz g).tg, .int .i64 (cpz g).ix, .slice ua (cpz g).kids.len uc]) (by simp [results, Try.results34, go_sem, *]) rfl ?_
    exact DrP.back (( /- t -/ 25)) rfl ⟨⟨(cpz g).k, nv, (cpz g).tg, (cpz g).ix, (cpz g).kids⟩, _, _, rfl, fun h => cpzN_sm g h, dr_fin (N := ⟨(cpz g).k, nv, (cpz g).tg, (cpz g).ix, (cpz g).kids⟩) HR.out.start HR.out.only HR.out.rd (by omega) HGR.out.ow (w.heap.size + 1) (by simp) (fun x hx => by have := HGR.out.ge x hx; omega) HGR.out.nodup ⟨HNW.out, HFC.out.2.1, HFC.out.2.2.1, HFC.out.2.2.2⟩ (Nat.le_trans (cpzN_sz g) (Nat.le_succ _)) _ _ _ _ _⟩
  by_cases hv2 : v = 2
  · subst hv2
    go_wp2_with fail
    have HA0 := hide (HP.out.alloc (.cells #[.int .i64 (-1), .int .i64 1, .int .i64 9223372036854775807] ( /- t -/ 3)))
    have HB0 := hide (HO1.out.below (alloc_below wp (.cells #[.int .i64 (-1), .int .i64 1, .int .i64 9223372036854775807] ( /- t -/ 3))))
    have HG0 := hide (HG1.out.below (alloc_below wp (.cells #[.int .i64 (-1), .int .i64 1, .int .i64 9223372036854775807] ( /- t -/ 3))))
    refine (num_calls _ rb cv l _ HA0.out.rd (by omega) [-1, 1, 9223372036854775807] _ (sl3i wp _ _ _ ( /- t -/ 3)) (by decide) (by decide) (new_far HP.out.rd.lt)).mono ?_
    rintro e wq ⟨nv, hnv, rfl, hask⟩
    have HNW := hide (wf_all hnv (by decide))
    have HQ := hide (HA0.out.ask hask)
    have HOQ := hide (HB0.out.same (hask.only.block ob (by simp; omega) (by omega)))
    have HGQ := hide (HG0.out.same (hask.only.same (fun x hx => ⟨HG0.out.lt x hx, by have := HG0.out.ge x hx; omega⟩)))
    clear hask HA0 HB0 HG0 hnv
    obtain ⟨y0, y1, y2, y3, y4⟩ := HOQ.out.cells
    have fy := HOQ.out.frozen
    have ly := HOQ.out.lt
    obtain ⟨x0, x1, x2, x3, x4⟩ := HQ.out.boxq.cells
    have fx := HQ.out.boxq.frozen
    have lx := HQ.out.boxq.lt
    go_wp2_with fail
    have HR := hide (HQ.out.set ⟨ob, 3, none⟩ (.int .i64 nv) (by simp; omega))
    have HGR := hide (HGQ.out.same (w' := wq.setCell ⟨ob, 3, none⟩ (.int .i64 nv)) (fun x hx => Below.heap_setCell _ _ _ _ (by have := HGOB.out x hx; simp; omega)))
    refine bodyPost_ret (v := .agg #[.int .i64 (cpz g).k, .string (cpz g).fr, .string (cpz g).tg, .int .i64 nv, .slice ua (cpz g).kids.len uc]) (by simp [results, Try.results34, go_sem, *]) rfl ?_
    exact DrP.back (( /- t -/ 25)) rfl ⟨⟨(cpz g).k, (cpz g).fr, (cpz g).tg, nv, (cpz g).kids⟩, _, _, rfl, fun h => cpzN_sm g h, dr_fin (N := ⟨(cpz g).k, (cpz g).fr, (cpz g).tg, nv, (cpz g).kids⟩) HR.out.start HR.out.only HR.out.rd (by omega) HGR.out.ow (w.heap.size + 1) (by simp) (fun x hx => by have := HGR.out.ge x hx; omega) HGR.out.nodup ⟨HFC.out.1, HFC.out.2.1, HFC.out.2.2.1, HNW.out⟩ (Nat.le_trans (cpzN_sz g) (Nat.le_succ _)) _ _ _ _ _⟩
  by_cases hv3 : v = 3
  · subst hv3
    have y4 := HO1.out.cells.2.2.2.2
    go_wp2_with fail
    refine wp_region_T (fun w' => w'.cell? ⟨ob, 4, none⟩ = some (.slice ua (cpz g).kids.len uc)) 10 (by kernel_rfl) y4 (fun hHeld => ?_)
    refine wpAnyT_take (L := 10) (i := 0) (v := ?v0) rfl (by kernel_rfl) (by kernel_rfl) (by kernel_rfl) (by kernel_rfl) (fun _ _ _ h => h) hHeld (Or.inl ⟨by rfl, ?hy0⟩) ?rest0
    case hy0 => ((intro w' hw'); (try dsimp only at hw'); (go_simp); (try with_reducible rfl))
    (try simp only [Act.put]); (try simp only [List.setIfInBounds_toArray]); (try simp only [List.set_cons_zero]); (try simp only [List.set_cons_succ])
    refine wpAnyT_take (L := 10) (i := 1) (v := ?v1) rfl (by kernel_rfl) (by kernel_rfl) (by kernel_rfl) (by kernel_rfl) (fun _ _ _ h => h) hHeld (Or.inl ⟨by rfl, ?hy1⟩) ?rest1
    case hy1 => ((intro w' hw'); (try dsimp only at hw'); (go_simp); (try with_reducible rfl))
    (try simp only [Act.put]); (try simp only [List.setIfInBounds_toArray]); (try simp only [List.set_cons_zero]); (try simp only [List.set_cons_succ])
    refine wpAnyT_take (L := 10) (i := 2) (v := ?v2) rfl (by kernel_rfl) (by kernel_rfl) (by kernel_rfl) (by kernel_rfl) (fun _ _ _ h => h) hHeld (Or.inl ⟨by rfl, ?hy2⟩) ?rest2
    case hy2 => ((intro w' hw'); (try dsimp only at hw'); (go_simp); (try with_reducible rfl))
    (try simp only [Act.put]); (try simp only [List.setIfInBounds_toArray]); (try simp only [List.set_cons_zero]); (try simp only [List.set_cons_succ])
    refine wpAnyT_take (L := 10) (i := 5) (v := ?v5) rfl (by kernel_rfl) (by kernel_rfl) (by kernel_rfl) (by kernel_rfl) (fun _ _ _ h => h) hHeld (Or.inl ⟨by rfl, ?hy5⟩) ?rest5
    case hy5 => ((intro w' hw'); (try dsimp only at hw'); (go_simp); (try with_reducible rfl))
    (try simp only [Act.put]); (try simp only [List.setIfInBounds_toArray]); (try simp only [List.set_cons_zero]); (try simp only [List.set_cons_succ])
    refine wpAnyT_one (L := 10) (i := 3) (by kernel_rfl) rfl (fun K hK => ?_)
    go_simp
    have HA0 := hide (HP.out.drew.alloc (.cells #[.string ⟨#[97]⟩, .string ⟨#[101]⟩, .string ⟨#[]⟩] ( /- t -/ 9)))
    have HB0 := hide ((HO1.out.same (w' := wp.drew) rfl).below (alloc_below wp.drew (.cells #[.string ⟨#[97]⟩, .string ⟨#[101]⟩, .string ⟨#[]⟩] ( /- t -/ 9))))
    have HG0 := hide ((HG1.out.same (w' := wp.drew) (fun _ _ => rfl)).below (alloc_below wp.drew (.cells #[.string ⟨#[97]⟩, .string ⟨#[101]⟩, .string ⟨#[]⟩] ( /- t -/ 9))))
    have hd3 : (wp.drew.alloc (.cells #[.string ⟨#[97]⟩, .string ⟨#[101]⟩, .string ⟨#[]⟩] ( /- t -/ 9))).cell? ⟨ob, 4, none⟩ = some (.slice ua (cpz g).kids.len uc) := HB0.out.cells.2.2.2.2
    have HD3 := hide hd3
    refine hK.out _ _ (fun _ => HD3.out) ?_
    clear hK K hd3
    (try simp only [Act.put]); (try simp only [List.setIfInBounds_toArray]); (try simp only [List.set_cons_zero]); (try simp only [List.set_cons_succ])
    refine wpAnyT_one (L := 10) (i := 4) (by kernel_rfl) rfl (fun K hK => ?_)
    go_simp
    go_at_call 53
    refine (of_calls _ rb cv l _ HA0.out.rd (by omega) [⟨#[97]⟩, ⟨#[101]⟩, ⟨#[]⟩] _ (gsl3 wp.drew _ _ _ ( /- t -/ 9) (show (1 : Nat) ≤ maxLen by unfold maxLen; omega) (show (1 : Nat) ≤ maxLen by unfold maxLen; omega) (show (0 : Nat) ≤ maxLen by unfold maxLen; omega)) (by decide) (by decide) (new_far (w := wp.drew) HP.out.rd.lt)).mono ?_
    rintro e wq ⟨nv, hnv, rfl, hask⟩
    have HNW := hide (small_all hnv (by decide))
    have HQ := hide (HA0.out.ask hask)
    have HOQ := hide (HB0.out.same (hask.only.block ob (by simp; omega) (by omega)))
    have HGQ := hide (HG0.out.same (hask.only.same (fun x hx => ⟨HG0.out.lt x hx, by have := HG0.out.ge x hx; omega⟩)))
    clear hask HA0 HB0 HG0 hnv
    have hd4 : wq.cell? ⟨ob, 4, none⟩ = some (.slice ua (cpz g).kids.len uc) := HOQ.out.cells.2.2.2.2
    have HD4 := hide hd4
    refine hK.out _ _ (fun _ => HD4.out) ?_
    clear hK K hd4
    refine wpAnyT_take (L := 10) (i := 6) (v := ?v6) rfl (by kernel_rfl) (by kernel_rfl) (by kernel_rfl) (by kernel_rfl) (fun _ _ _ h => h) HD4.out (Or.inl ⟨by rfl, ?hy6⟩) ?rest6
    case hy6 => ((intro w' hw'); (try dsimp only at hw'); (go_simp); (try with_reducible rfl))
    (try simp only [Act.put]); (try simp only [List.setIfInBounds_toArray]); (try simp only [List.set_cons_zero]); (try simp only [List.set_cons_succ])
    refine wpAnyT_one (L := 10) (i := 7) (by kernel_rfl) rfl (fun K hK => ?_)
    go_simp
    have HD5 := hide (Still.of_below (alloc_below wq (.cells #[.string nv, .int .i64 1, .string ⟨#[]⟩, .string ⟨#[]⟩, .int .i64 0, .slice none 0 0] ( /- t -/ 28))) _ _ HD4.out)
    refine hK.out _ _ (fun _ => HD5.out) ?_
    clear hK K
    (try simp only [Act.put]); (try simp only [List.setIfInBounds_toArray]); (try simp only [List.set_cons_zero]); (try simp only [List.set_cons_succ])
    refine wpAnyT_one (L := 10) (i := 8) (by kernel_rfl) rfl (fun K hK => ?_)
    have hgr5 := HGQ.out.below (alloc_below wq (.cells #[.string nv, .int .i64 1, .string ⟨#[]⟩, .string ⟨#[]⟩, .int .i64 0, .slice none 0 0] ( /- t -/ 28)))
    have hwq : ob < wq.heap.size := HOQ.out.lt
    have hln : (cpz g).kids.len ≤ 1000 := Nat.le_trans (len_sz _) (Nat.le_trans (cpzN_sz g) (by omega))
    refine step_append_lies _ (by rfl) _ _ _ (by rfl) (w.heap.size + 2) ( /- t -/ 28) i0 _ 6 88 Try.underlying23 HI.out.1 HI.out.2.1 HI.out.2.2.1 HI.out.2.2.2 rfl (by omega) (.slice ua (cpz g).kids.len uc) (cpz g).kids.len (grXs (wq.alloc (.cells #[.string nv, .int .i64 1, .string ⟨#[]⟩, .string ⟨#[]⟩, .int .i64 0, .slice none 0 0] ( /- t -/ 28))) (.slice ua (cpz g).kids.len uc) (cpz g).kids) (by rfl) hgr5.owns
      ⟨wq.heap.size, 0, none⟩ 1 1 [.string nv, .int .i64 1, .string ⟨#[]⟩, .string ⟨#[]⟩, .int .i64 0, .slice none 0 0] (by rfl) (by rfl) (World.news_of_block (cs := #[.string nv, .int .i64 1, .string ⟨#[]⟩, .string ⟨#[]⟩, .int .i64 0, .slice none 0 0]) (t := ( /- t -/ 28)) (fr := (0, 0)) (heap_alloc_new wq _)) (by simp [Value.oneCell'])
      (by omega) (by unfold maxLen; omega) (by omega) (by simp; omega) _ rfl ?_
    intro gg cp w6 hown6 hgrow6 hat6 hlt6
    have hfarb : ∀ b8, b8 < wq.heap.size → b8 ∉ bs → w6.heap[b8]? = wq.heap[b8]? := fun b8 hb8 hn8 => by
      rw [hgrow6.block b8 (by simp; omega) (fun e => hn8 (hgr5.block b8 e.symm)), Below.heap_alloc _ _ _ (by omega)]
    have hobn : ob ∉ bs := fun hm => by have := HGOB.out ob hm; omega
    have HO6 := hide (HOQ.out.same (hfarb ob hwq hobn))
    have HD6 := hide (HO6.out.cells.2.2.2.2)
    refine hK.out _ _ (fun _ => HD6.out) ?_
    clear hK K
    (try simp only [Act.put]); (try simp only [List.setIfInBounds_toArray]); (try simp only [List.set_cons_zero]); (try simp only [List.set_cons_succ])
    refine wpAnyT_take (L := 10) (i := 9) (v := ?v9) rfl (by kernel_rfl) (by kernel_rfl) (by kernel_rfl) (by kernel_rfl) (fun _ _ _ h => h) HD6.out (Or.inl ⟨by rfl, ?hy9⟩) ?rest9
    case hy9 => ((intro w' hw'); (try dsimp only at hw'); (go_simp); (try with_reducible rfl))
    (try simp only [Act.put]); (try simp only [List.setIfInBounds_toArray]); (try simp only [List.set_cons_zero]); (try simp only [List.set_cons_succ])
    have o4 := HO6.out.cells.2.2.2.2
    have fo := HO6.out.frozen
    have lo := HO6.out.lt
    refine wpAnyT_one (L := 10) (i := 10) (by kernel_rfl) rfl (fun K hK => ?_)
    go_simp
    refine hK.out _ _ (fun h => absurd rfl h) ?_
    refine wpAnyT_done (by kernel_rfl) ?_ _
    clear hK K
    have hBS : ∀ x, x < w.heap.size + 2 → x ∉ bs := fun x hx hm => by have := HGQ.out.ge x hm; omega
    have hOw : Only rb (w.alloc (.cells #[.int .i64 g.k, .string g.fr, .string g.tg, .int .i64 g.ix, sv] ( /- t -/ 25))) w6 := by
      have h2 := HQ.out.only.alloc (.cells #[.string nv, .int .i64 1, .string ⟨#[]⟩, .string ⟨#[]⟩, .int .i64 0, .slice none 0 0] ( /- t -/ 28))
      exact ⟨hgrow6.os.trans h2.os, hgrow6.tape.trans h2.tape, hgrow6.output.trans h2.output, Nat.le_trans h2.size hgrow6.size, fun x hx hc => (hgrow6.block x (Nat.lt_of_lt_of_le hx h2.size) (fun e => by
        have h1 := hgr5.ge x (hgr5.block x e.symm)
        simp at hx
        omega)).trans (h2.block x hx hc)⟩
    have HS6 : Hid (St (w.alloc (.cells #[.int .i64 g.k, .string g.fr, .string g.tg, .int .i64 g.ix, sv] ( /- t -/ 25))) rb cv l p w6 (p + 1 + 1)) := hide ⟨HQ.out.start, hOw, HQ.out.start.fin HQ.out.rd hOw (hfarb rb (by have := HQ.out.rd.lt; omega) (hBS rb (by omega))), HQ.out.box.same (hfarb _ HQ.out.box.lt (hBS _ (by simp)))⟩
    obtain ⟨bs', hpush, hpn⟩ := Gr.push hgr5 (lab := nv) (fr := ⟨#[]⟩) (k := 1) (ix := 0) (u := .slice none 0 0) (kids := .nil) (ks := []) ⟨none, 0, rfl, Nat.le_refl _, Nat.zero_le _, Or.inl ⟨rfl, rfl⟩⟩ (fun x hx => absurd hx List.not_mem_nil) List.nodup_nil
      (fun x _ hx => absurd hx List.not_mem_nil) HNW.out (Nat.zero_le _) (Nat.zero_le _) (by decide) (by decide) hown6 hgrow6 (by rcases hat6 with h | h; exact Or.inl h; exact Or.inr h)
    have hbo : ∀ x, x ∈ bs' → x ≠ ob := fun x hx => by
      rcases hpn x hx with h | h | h
      · exact fun e => hobn (e ▸ h)
      · exact absurd h List.not_mem_nil
      · simp at h; omega
    have HGP := hide (hpush.same (w' := w6.setCell ⟨ob, 4, none⟩ (.slice (some ⟨gg, 0, none⟩) ((cpz g).kids.len + 1) cp)) (fun x hx => Below.heap_setCell _ _ _ _ (hbo x hx)))
    have HR := hide (HS6.out.set ⟨ob, 4, none⟩ (.slice (some ⟨gg, 0, none⟩) ((cpz g).kids.len + 1) cp) (by simp; omega))
    obtain ⟨x0, x1, x2, x3, x4⟩ := HR.out.boxq.cells
    have fx := HR.out.boxq.frozen
    have lx := HR.out.boxq.lt
    have HOP := hide (HO6.out.set4 (.slice (some ⟨gg, 0, none⟩) ((cpz g).kids.len + 1) cp))
    obtain ⟨y0, y1, y2, y3, y4⟩ := HOP.out.cells
    have fy := HOP.out.frozen
    have ly := HOP.out.lt
    have HEQ : Hid (((cpz g).kids.app (.cons nv 1 ⟨#[]⟩ ⟨#[]⟩ 0 .nil .nil)).len = (cpz g).kids.len + 1) := hide (by rw [F.len_app]; rfl)
    clear hpush hbo hBS hOw hown6 hgrow6 hat6 hgr5 hfarb hpn o4 fo lo
    generalize w6.setCell ⟨ob, 4, none⟩ (.slice (some ⟨gg, 0, none⟩) ((cpz g).kids.len + 1) cp) = w7 at *
    go_wp2_with fail
    refine bodyPost_ret (v := .agg #[.int .i64 (cpz g).k, .string (cpz g).fr, .string (cpz g).tg, .int .i64 (cpz g).ix, .slice (some ⟨gg, 0, none⟩) ((cpz g).kids.len + 1) cp]) (by simp [results, Try.results34, go_sem, *]) rfl ?_
    exact DrP.back (( /- t -/ 25)) rfl ⟨⟨(cpz g).k, (cpz g).fr, (cpz g).tg, (cpz g).ix, ((cpz g).kids.app (.cons nv 1 ⟨#[]⟩ ⟨#[]⟩ 0 .nil .nil))⟩, _, _, rfl, fun h => (smF_app _ _).2 ⟨cpzN_sm g h, ⟨show (0 : Int) ≤ 0 by omega, show (0 : Int) ≤ 9 by omega⟩, trivial, trivial⟩, dr_fin (N := ⟨(cpz g).k, (cpz g).fr, (cpz g).tg, (cpz g).ix, ((cpz g).kids.app (.cons nv 1 ⟨#[]⟩ ⟨#[]⟩ 0 .nil .nil))⟩) HR.out.start HR.out.only HR.out.rd (by omega) HGP.out.ow (w.heap.size + 1) (by simp) (fun x hx => by have := HGP.out.ge x hx; omega) HGP.out.nodup ⟨HFC.out.1, HFC.out.2.1, HFC.out.2.2.1, HFC.out.2.2.2⟩ (by rw [F.sz_app]; have := cpzN_sz g; simp only [F.sz]; omega) _ _ _ _ _⟩
  by_cases hv4 : v = 4
  · subst hv4
    obtain ⟨x0, x1, x2, x3, x4⟩ := HP.out.boxq.cells
    have fx := HP.out.boxq.frozen
    have lx := HP.out.boxq.lt
    go_wp2_with fail
    rw [set5_alloc _ _ _ _ _ _ _ _ lx]
    have HQ := hide (HP.out.alloc (.cells #[.string ⟨#[]⟩, .int .i64 4, .string ⟨#[]⟩, .string ⟨#[]⟩, .int .i64 0, .slice none 0 0] ( /- t -/ 28)))
    have HW := hide (ow_one (w := wp) (lab := ⟨#[]⟩) (Nat.zero_le _) (N := ⟨4, ⟨#[]⟩, ⟨#[]⟩, 0, .nil⟩) ⟨Nat.zero_le _, Nat.zero_le _, show (Lit.int .i64 4).wf = true by decide, show (Lit.int .i64 0).wf = true by decide⟩ (u := .slice none 0 0) (bs := []) ⟨none, 0, rfl, Nat.le_refl _, Nat.zero_le _, Or.inl ⟨rfl, rfl⟩⟩ ( /- t -/ 28))
    refine bodyPost_ret (v := .agg #[.int .i64 3, .string ⟨#[]⟩, .string ⟨#[]⟩, .int .i64 0, .slice (some ⟨wp.heap.size, 0, none⟩) 1 1]) (by simp [results, Try.results34, go_sem, *]) rfl ?_
    exact DrP.back (( /- t -/ 25)) rfl ⟨⟨3, ⟨#[]⟩, ⟨#[]⟩, 0, .cons ⟨#[]⟩ 4 ⟨#[]⟩ ⟨#[]⟩ 0 .nil .nil⟩, _, _, rfl, fun _ => ⟨⟨show (0 : Int) ≤ 0 by omega, show (0 : Int) ≤ 9 by omega⟩, trivial, trivial⟩, dr_fin (N := ⟨3, ⟨#[]⟩, ⟨#[]⟩, 0, .cons ⟨#[]⟩ 4 ⟨#[]⟩ ⟨#[]⟩ 0 .nil .nil⟩) HQ.out.start HQ.out.only HQ.out.rd (by omega) HW.out (w.heap.size + 1) (by simp) (fun x hx => by have := HP.out.box.lt; simp at hx this; omega) (by simp) ⟨Nat.zero_le _, Nat.zero_le _, show (Lit.int .i64 3).wf = true by decide, show (Lit.int .i64 0).wf = true by decide⟩ (by simp [F.sz]) _ _ _ _ _⟩
  by_cases hv5 : v = 5
  · subst hv5
    go_wp2_with fail
    refine (pick_calls _ rb cv l _ HP.out.rd (by omega) 2 (by omega)).mono ?_
    rintro e wq ⟨nv, rfl, hnv, hask⟩
    have HQ := hide (HP.out.ask hask)
    clear hask
    have hn9 : (nv : Int) ≤ 9 := by omega
    obtain ⟨x0, x1, x2, x3, x4⟩ := HQ.out.boxq.cells
    have fx := HQ.out.boxq.frozen
    have lx := HQ.out.boxq.lt
    go_wp2_with fail
    refine bodyPost_ret (v := .agg #[.int .i64 4, .string ⟨#[]⟩, .string ⟨#[]⟩, .int .i64 (nv : Int), .slice none 0 0]) (by simp [results, Try.results34, go_sem, *]) rfl ?_
    exact DrP.back (( /- t -/ 25)) rfl ⟨⟨4, ⟨#[]⟩, ⟨#[]⟩, (nv : Int), .nil⟩, _, [], rfl, fun _ => trivial, dr_fin (N := ⟨4, ⟨#[]⟩, ⟨#[]⟩, (nv : Int), .nil⟩) HQ.out.start HQ.out.only HQ.out.rd (by omega) ⟨none, 0, rfl, Nat.le_refl _, Nat.zero_le _, Or.inl ⟨rfl, rfl⟩⟩ (w.heap.size + 1) (by simp) (fun x hx => absurd hx List.not_mem_nil) List.nodup_nil ⟨Nat.zero_le _, Nat.zero_le _, show (Lit.int .i64 4).wf = true by decide, by simp [Lit.wf, IntKind.min, IntKind.max, IntKind.bits, IntKind.signed]; omega⟩ (Nat.zero_le _) _ _ _ _ _⟩
  obtain ⟨y0, y1, y2, y3, y4⟩ := HO1.out.cells
  have fy := HO1.out.frozen
  have ly := HO1.out.lt
  obtain ⟨x0, x1, x2, x3, x4⟩ := HP.out.boxq.cells
  have fx := HP.out.boxq.frozen
  have lx := HP.out.boxq.lt
  have e0 : ((v : Int) == 0) = false := beq_eq_false_iff_ne.2 (by omega)
  have n0 : ¬ (v : Int) = 0 := by omega
  have e1 : ((v : Int) == 1) = false := beq_eq_false_iff_ne.2 (by omega)
  have n1 : ¬ (v : Int) = 1 := by omega
  have e2 : ((v : Int) == 2) = false := beq_eq_false_iff_ne.2 (by omega)
  have n2 : ¬ (v : Int) = 2 := by omega
  have e3 : ((v : Int) == 3) = false := beq_eq_false_iff_ne.2 (by omega)
  have n3 : ¬ (v : Int) = 3 := by omega
  have e4 : ((v : Int) == 4) = false := beq_eq_false_iff_ne.2 (by omega)
  have n4 : ¬ (v : Int) = 4 := by omega
  have e5 : ((v : Int) == 5) = false := beq_eq_false_iff_ne.2 (by omega)
  have n5 : ¬ (v : Int) = 5 := by omega
  go_wp2_with fail
  refine bodyPost_ret (v := .agg #[.int .i64 (cpz g).k, .string (cpz g).fr, .string (cpz g).tg, .int .i64 (cpz g).ix, .slice ua (cpz g).kids.len uc]) (by simp [results, Try.results34, go_sem, *]) rfl ?_
  exact DrP.back (( /- t -/ 25)) rfl ⟨⟨(cpz g).k, (cpz g).fr, (cpz g).tg, (cpz g).ix, (cpz g).kids⟩, _, _, rfl, fun h => cpzN_sm g h, dr_fin (N := ⟨(cpz g).k, (cpz g).fr, (cpz g).tg, (cpz g).ix, (cpz g).kids⟩) HP.out.start HP.out.only HP.out.rd (by omega) HG1.out.ow (w.heap.size + 1) (by simp) (fun x hx => by have := HG1.out.ge x hx; omega) HG1.out.nodup ⟨HFC.out.1, HFC.out.2.1, HFC.out.2.2.1, HFC.out.2.2.2⟩ (Nat.le_trans (cpzN_sz g) (Nat.le_succ _)) _ _ _ _ _⟩
end Go.Proofs.Ytgcefippeokmcaa
