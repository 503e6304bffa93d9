/- Dy -/
import Derived.Test.YtfppglfajbmapaaDoorQ37
/- l1Random of the model: what its parts leave; another role; a recursion. -/
namespace Go.Proofs.YtfppglfajbmapaaDoor
open Go.RowKit

theorem ow_one {w : World} {lab : ByteArray} (hlab : lab.size ≤ maxLen) {N : Nd} (hf : Fit N) {u : Value} {bs : List Nat} (how : Ow w u N.kids bs) (t : TypeId) :
    Ow (w.alloc (.cells #[.string lab, .int .i64 N.k, .string N.fr, .string N.tg, .int .i64 N.ix, u] t)) (.slice (some ⟨w.heap.size, 0, none⟩) 1 1) (.cons lab N.k N.fr N.tg N.ix N.kids .nil) (w.heap.size :: bs) := by
  have hh : (w.alloc (.cells #[.string lab, .int .i64 N.k, .string N.fr, .string N.tg, .int .i64 N.ix, u] t)).heap[w.heap.size]? = some (.cells #[.string lab, .int .i64 N.k, .string N.fr, .string N.tg, .int .i64 N.ix, u] t (0, 0)) := by
    show (w.heap.push _)[w.heap.size]? = _
    simp
  obtain ⟨a, cap, rfl, e1, e2, hk⟩ := how.same (Same.of_below (alloc_below w (.cells #[.string lab, .int .i64 N.k, .string N.fr, .string N.tg, .int .i64 N.ix, u] t)) how.lt)
  refine ⟨_, 1, rfl, Nat.le_refl _, by unfold maxLen; omega, Or.inr ⟨w.heap.size, 6, bs, rfl, rfl, ⟨_, t, hh, rfl⟩, by simp, ⟨hlab, hf.1, hf.2.1, hf.2.2.1, hf.2.2.2, ?_, ?_, ?_, ?_, ?_, bs, [], by simp, ⟨a, cap, ?_, e1, e2, hk⟩, rfl⟩⟩⟩
  all_goals (rw [cell_of_heap hh]; rfl)
theorem set5_alloc (w : World) (o : Obj) (b : Nat) (v0 v1 v2 v3 v4 : Value) (h : b < w.heap.size) :
    (((((w.setCell ⟨b, 0, none⟩ v0).setCell ⟨b, 1, none⟩ v1).setCell ⟨b, 2, none⟩ v2).setCell ⟨b, 3, none⟩ v3).setCell ⟨b, 4, none⟩ v4).alloc o =
    (((((w.alloc o).setCell ⟨b, 0, none⟩ v0).setCell ⟨b, 1, none⟩ v1).setCell ⟨b, 2, none⟩ v2).setCell ⟨b, 3, none⟩ v3).setCell ⟨b, 4, none⟩ v4 := by
  rw [set_alloc _ _ _ _ (by simpa using h), set_alloc _ _ _ _ (by simpa using h), set_alloc _ _ _ _ (by simpa using h), set_alloc _ _ _ _ (by simpa using h), set_alloc _ _ _ _ (by simpa using h)]
theorem St.alloc {w : World} {rb : Nat} {cv : Value} {l : List Nat} {p : Nat} {W : World} {q : Nat} (h : St w rb cv l p W q) (o : Obj) : St w rb cv l p (W.alloc o) q := h.on ((Only.refl _ _).alloc o) (h.rd.below (alloc_below W o))
theorem other_calls (w : World) (s : ByteArray) : Calls Tryd.prog 141 #[.string s] w fun e w' => (∃ t : ByteArray, t.size ≤ 1 ∧ e = .returned (.string t)) ∧ w' = w := by
  by_cases h1 : s = ⟨#[65]⟩
  · subst h1
    go_enter Tryd.func141, Tryd.ntmps141
    go_wp2_with fail
    go_ret
    exact ⟨⟨_, by decide, rfl⟩, rfl⟩
  · have e1 : (s.toList == [65]) = false := beq_eq_false_iff_ne.2 (fun h => h1 (by rw [ByteArray.toList_eq] at h; exact ByteArray.ext (Array.toList_inj.1 h)))
    by_cases h2 : s = ⟨#[66]⟩
    · subst h2
      go_enter Tryd.func141, Tryd.ntmps141
      go_wp2_with fail
      go_ret
      exact ⟨⟨_, by decide, rfl⟩, rfl⟩
    · have e2 : (s.toList == [66]) = false := beq_eq_false_iff_ne.2 (fun h => h2 (by rw [ByteArray.toList_eq] at h; exact ByteArray.ext (Array.toList_inj.1 h)))
      go_enter Tryd.func141, Tryd.ntmps141
      go_wp2_with fail
      go_ret
      exact ⟨⟨_, by decide, rfl⟩, rfl⟩

/-- What holds at each round's head. -/
def RanRel (w : World) (rb : Nat) (cv : Value) (l : List Nat) (p d gb lb B : Nat) (fr tg : ByteArray) (kv iv : Value) (wr : World) : Prop :=
  ∃ (k : Nat) (i : Int) (acc : F) (v : Value) (bs : List Nat) (q : Nat), kv = .int .i64 (k : Int) ∧ iv = .int .i64 i ∧ k ≤ 2 + acc.len ∧ (acc.len : Int) + i ≤ 3 ∧ 0 ≤ i ∧ St w rb cv l p wr q ∧ q ≤ p + 6 + acc.len * qs d ∧
    Box5 wr gb (.int .i64 2) (.string fr) (.string tg) (.int .i64 0) v ∧ SlG elS wr (.slice (some ⟨lb, 0, none⟩) 4 4) [⟨#[97]⟩, ⟨#[98]⟩, ⟨#[99]⟩, ⟨#[100]⟩] ∧ Gr wr B v acc bs ∧ acc.sz ≤ acc.len * (zs d + 1) ∧ smF acc ∧ B ≤ wr.heap.size

def RandAt (d : Nat) : Prop := ∀ (w : World) (rb : Nat) (cv : Value) (l : List Nat) (p : Nat), Rd w rb cv l p → p + qs d ≤ 1000000 → ∀ (b u : Int), 0 ≤ u → u ≤ b → b ≤ 2 →
  Calls Tryd.prog 88 #[.pointer (some ⟨rb, 0, none⟩), .int .i64 b, .int .i64 u, .int .i64 (d : Int)] w (DrP smN w rb cv l p (qs d) (zs d))

set_option maxHeartbeats 2000000 in
set_option maxRecDepth 100000 in
theorem rand_succ (d : Nat) (hd : d ≤ 10) (ih : RandAt d) (w : World) (rb : Nat) (cv : Value) (l : List Nat) (p : Nat) (h : Rd w rb cv l p) (hp : p + qs (d + 1) ≤ 1000000) (b u : Int) (hu : 0 ≤ u) (hub : u ≤ b) (hb : b ≤ 2) :
    Calls Tryd.prog 88 #[.pointer (some ⟨rb, 0, none⟩), .int .i64 b, .int .i64 u, .int .i64 ((d : Int) + 1)] w (DrP smN w rb cv l p (qs (d + 1)) (zs (d + 1))) := by
  have HS := hide (St.new h ( /- t -/ 25))
  have hq4 := qs_succ d
  have hq9 := qs_pos d
  have HQ := hide (And.intro hq4 hq9)
  obtain ⟨Q, hQ⟩ : ∃ Q, Q = qs (d + 1) := ⟨_, rfl⟩
  obtain ⟨Z, hZ⟩ : ∃ Z, Z = zs (d + 1) := ⟨_, rfl⟩
  have HZ := hide hZ
  rw [← hQ, ← hZ]
  rw [← hQ] at hp hq4
  have hqa : 4 * qs d ≤ Q := by omega
  have hqb : Q ≤ 4 * qs d := by omega
  have hwd : IntKind.i64.wrap (d : Int) = (d : Int) := by simp [IntKind.wrap, IntKind.bits, IntKind.signed]; omega
  clear h hQ hZ hq4
  go_enter Tryd.func88, Tryd.ntmps88
  go_upto_region 1 with fail
  generalize w.alloc (.cells #[.int .i64 0, .string ⟨#[]⟩, .string ⟨#[]⟩, .int .i64 0, .slice none 0 0] ( /- t -/ 25)) = W at *
  go_wp2_with fail
  refine (pick_calls _ rb cv l _ HS.out.rd (by omega) 6 (by omega)).mono ?_
  rintro e w1 ⟨v6, rfl, hv6, hask⟩
  have H6 := hide (HS.out.ask hask)
  clear hask HS
  by_cases hv0 : v6 = 0
  case pos =>
    subst hv0
    by_cases hbu : u < b
    case neg =>
      obtain ⟨x0, x1, x2, x3, x4⟩ := H6.out.box.cells
      have fx := H6.out.box.frozen
      have lx := H6.out.box.lt
      go_wp2_with fail
      refine bodyPost_ret (v := .agg #[.int .i64 1, .string ⟨#[]⟩, .string ⟨#[]⟩, .int .i64 (0), .slice none 0 0]) (by simp [results, Tryd.results88, go_sem, *]) rfl ?_
      exact H6.out.leaf (by omega) 1 0 (by decide) (by omega) (by omega) _ _ _ _ _
    case pos =>
      go_wp2_with fail
      refine (pick_calls _ rb cv l _ H6.out.rd (by omega) 2 (by omega)).mono ?_
      rintro e wA ⟨va, rfl, hva, hask⟩
      have HA := hide (H6.out.ask hask)
      clear hask
      by_cases hv0 : va = 0
      case neg =>
        have hv1 : ((va : Int) == 0) = false := beq_eq_false_iff_ne.2 (by omega)
        have hv2 : ¬ (va : Int) = 0 := by omega
        obtain ⟨x0, x1, x2, x3, x4⟩ := HA.out.box.cells
        have fx := HA.out.box.frozen
        have lx := HA.out.box.lt
        go_wp2_with fail
        refine bodyPost_ret (v := .agg #[.int .i64 1, .string ⟨#[]⟩, .string ⟨#[]⟩, .int .i64 (0), .slice none 0 0]) (by simp [results, Tryd.results88, go_sem, *]) rfl ?_
        exact HA.out.leaf (by omega) 1 0 (by decide) (by omega) (by omega) _ _ _ _ _
      case pos =>
        subst hv0
        go_wp2_with fail
        refine (pick_calls _ rb cv l _ HA.out.rd (by omega) (b - u) (by omega)).mono ?_
        rintro e wB ⟨vb, rfl, hvb, hask⟩
        have HB := hide (HA.out.ask hask)
        clear hask
        have hix : u + (vb : Int) ≤ 9 := by omega
        obtain ⟨x0, x1, x2, x3, x4⟩ := HB.out.box.cells
        have fx := HB.out.box.frozen
        have lx := HB.out.box.lt
        go_wp2_with fail
        refine bodyPost_ret (v := .agg #[.int .i64 4, .string ⟨#[]⟩, .string ⟨#[]⟩, .int .i64 (u + (vb : Int)), .slice none 0 0]) (by simp [results, Tryd.results88, go_sem, *]) rfl ?_
        exact HB.out.leaf (by omega) 4 (u + (vb : Int)) (by decide) (by omega) (by omega) _ _ _ _ _
  case neg =>
    have hv1 : ((v6 : Int) == 0) = false := beq_eq_false_iff_ne.2 (by omega)
    have hv2 : ¬ (v6 : Int) = 0 := by omega
    go_wp2_with fail
    refine (pick_calls _ rb cv l _ H6.out.rd (by omega) 5 (by omega)).mono ?_
    rintro e w2 ⟨v5, rfl, hv5, hask⟩
    have H5 := hide (H6.out.ask hask)
    clear hask H6
    have HMSG : Hid (True) := hide trivial
    by_cases hrec : v5 = 0 ∧ b < 2
    case pos =>
      obtain ⟨rfl, hb2⟩ := hrec
      go_wp2_with fail
      refine (ih w2 rb cv l _ H5.out.rd (by omega) (b + 1) (u + 1) (by omega) (by omega) (by omega)).mono ?_
      rintro e w3 ⟨N, un, bs, rfl, hqn, hdr⟩
      obtain ⟨ua, uc, rfl⟩ := hdr.own.val
      obtain ⟨p', hp', hrd⟩ := hdr.rd
      have H3 := hide (H5.out.on hdr.only hrd)
      have HF := hide hdr.fit
      have HOW := hide (ow_one (lab := ⟨#[]⟩) (Nat.zero_le _) hdr.fit hdr.own ( /- t -/ 76))
      have HGE : Hid (∀ x, x ∈ w3.heap.size :: bs → w.heap.size < x) := hide (fun x hx => by
        have h1 := H5.out.box.lt
        have h2 := hdr.only.size
        rcases List.mem_cons.1 hx with rfl | hx
        · omega
        · have := hdr.ge x hx
          omega)
      have HND : Hid ((w3.heap.size :: bs).Nodup) := hide (List.nodup_cons.2 ⟨fun hx => by have := hdr.own.lt _ hx; omega, hdr.nd⟩)
      have hsz := hdr.sz
      clear hdr hrd H5
      have H4 := hide (H3.out.alloc (.cells #[.string ⟨#[]⟩, .int .i64 N.k, .string N.fr, .string N.tg, .int .i64 N.ix, .slice ua N.kids.len uc] ( /- t -/ 76)))
      obtain ⟨x0, x1, x2, x3, x4⟩ := H3.out.box.cells
      have fx := H3.out.box.frozen
      have lx := H3.out.box.lt
      go_wp2_with fail
      refine bodyPost_ret (v := .agg #[.int .i64 3, .string ⟨#[]⟩, .string ⟨#[]⟩, .int .i64 0, .slice (some ⟨w3.heap.size, 0, none⟩) 1 1]) (by simp [results, Tryd.results88, go_sem, *]) rfl ?_
      rw [set5_alloc _ _ _ _ _ _ _ _ lx]
      exact ⟨⟨3, ⟨#[]⟩, ⟨#[]⟩, 0, .cons ⟨#[]⟩ N.k N.fr N.tg N.ix N.kids .nil⟩, _, _, rfl, ⟨⟨show (0 : Int) ≤ 0 by omega, show (0 : Int) ≤ 9 by omega⟩, hqn.1, hqn.2, trivial⟩,
        dr_fin (N := ⟨3, ⟨#[]⟩, ⟨#[]⟩, 0, .cons ⟨#[]⟩ N.k N.fr N.tg N.ix N.kids .nil⟩) H4.out.start H4.out.only H4.out.rd (by omega) HOW.out w.heap.size (Nat.le_refl _) HGE.out HND.out ⟨Nat.zero_le _, Nat.zero_le _, show (Lit.int .i64 3).wf = true by decide, show (Lit.int .i64 0).wf = true by decide⟩ (by rw [HZ.out]; simp only [F.sz, zs]; omega) _ _ _ _ _⟩
    case neg =>
      clear HMSG
      have HH := hide (And.intro hrec (And.intro hv5 hv6))
      by_cases h50 : v5 = 0
      case pos =>
        subst h50
        have hb2 : ¬ b < 2 := fun h => hrec ⟨rfl, h⟩
        clear hrec
        go_upto_region 7 with fail
        go_wp2_with fail
        have HA0 := hide (H5.out.alloc (.cells #[.string ⟨#[65]⟩, .string ⟨#[66]⟩, .string ⟨#[67]⟩, .string ⟨#[65]⟩] ( /- t -/ 9)))
        refine (of_calls _ rb cv l _ HA0.out.rd (by omega) [⟨#[65]⟩, ⟨#[66]⟩, ⟨#[67]⟩, ⟨#[65]⟩] _ (sl4 w2 _ _ _ _ ( /- t -/ 9) (show (1 : Nat) ≤ maxLen by unfold maxLen; omega) (show (1 : Nat) ≤ maxLen by unfold maxLen; omega) (show (1 : Nat) ≤ maxLen by unfold maxLen; omega) (show (1 : Nat) ≤ maxLen by unfold maxLen; omega)) (by decide) (by decide) (new_far H5.out.rd.lt)).mono ?_
        rintro e wf ⟨fr, hfr, rfl, hask⟩
        have HF := hide (HA0.out.ask hask)
        have hfs : fr.size ≤ maxLen := small_of hfr
        have HFZ := hide hfs
        clear hask HA0 hfr hfs
        go_wp2_with fail
        have HB0 := hide (HF.out.alloc (.cells #[.string ⟨#[66]⟩, .string ⟨#[67]⟩, .string ⟨#[65]⟩, .string ⟨#[66]⟩] ( /- t -/ 9)))
        refine (of_calls _ rb cv l _ HB0.out.rd (by omega) [⟨#[66]⟩, ⟨#[67]⟩, ⟨#[65]⟩, ⟨#[66]⟩] _ (sl4 wf _ _ _ _ ( /- t -/ 9) (show (1 : Nat) ≤ maxLen by unfold maxLen; omega) (show (1 : Nat) ≤ maxLen by unfold maxLen; omega) (show (1 : Nat) ≤ maxLen by unfold maxLen; omega) (show (1 : Nat) ≤ maxLen by unfold maxLen; omega)) (by decide) (by decide) (new_far HF.out.rd.lt)).mono ?_
        rintro e wt ⟨tg, hto, rfl, hask⟩
        have HT := hide (HB0.out.ask hask)
        have hts : tg.size ≤ maxLen := small_of hto
        have HTZ := hide hts
        clear hask HB0 hto hts HF
        go_upto_if 66 with fail
        go_cut [9] from 55 to 70 (fun v9 wc => ∃ tg' : ByteArray, v9 = .pointer (some ⟨wt.heap.size, 0, none⟩) ∧ tg'.size ≤ maxLen ∧ wc = wt.alloc (.cells #[.int .i64 2, .string fr, .string tg', .int .i64 0, .slice none 0 0] ( /- t -/ 25)))
        case first =>
          go_wp2_with fail
          all_goals first
            | (go_meet
               case rel => exact ⟨tg, rfl, HTZ.out, rfl⟩)
            | (refine (other_calls _ fr).mono ?_
               rintro e w9 ⟨⟨tn, htn, rfl⟩, hw9⟩
               subst hw9
               go_wp2_with fail
               go_meet
               case rel => exact ⟨tn, rfl, Nat.le_trans htn (by unfold maxLen; omega), rfl⟩)
        case rest =>
          obtain ⟨tz, rfl, hts, rfl⟩ := hcut
          have HTS := hide hts
          clear hts HTZ
          have hgt : w.heap.size < wt.heap.size := HT.out.box.lt
          have HV := hide (HT.out.alloc (.cells #[.int .i64 2, .string fr, .string tz, .int .i64 0, .slice none 0 0] ( /- t -/ 25)))
          have HG := hide (Box5.now wt (.int .i64 2) (.string fr) (.string tz) (.int .i64 0) (.slice none 0 0) ( /- t -/ 25))
          have hgv : wt.heap.size < (wt.alloc (.cells #[.int .i64 2, .string fr, .string tz, .int .i64 0, .slice none 0 0] ( /- t -/ 25))).heap.size := by simp
          generalize wt.alloc (.cells #[.int .i64 2, .string fr, .string tz, .int .i64 0, .slice none 0 0] ( /- t -/ 25)) = V at *
          clear HT
          generalize wt.heap.size = gb at *
          clear wt
          go_wp2_with fail
          have HL0 := hide (HV.out.alloc (.cells #[.string ⟨#[97]⟩, .string ⟨#[98]⟩, .string ⟨#[99]⟩, .string ⟨#[100]⟩] ( /- t -/ 9)))
          have HS0 := hide (sl4 V ⟨#[97]⟩ ⟨#[98]⟩ ⟨#[99]⟩ ⟨#[100]⟩ ( /- t -/ 9) (show (1 : Nat) ≤ maxLen by unfold maxLen; omega) (show (1 : Nat) ≤ maxLen by unfold maxLen; omega) (show (1 : Nat) ≤ maxLen by unfold maxLen; omega) (show (1 : Nat) ≤ maxLen by unfold maxLen; omega))
          have HG0 := hide (HG.out.below (alloc_below V (.cells #[.string ⟨#[97]⟩, .string ⟨#[98]⟩, .string ⟨#[99]⟩, .string ⟨#[100]⟩] ( /- t -/ 9))))
          have hvl : V.heap.size < (V.alloc (.cells #[.string ⟨#[97]⟩, .string ⟨#[98]⟩, .string ⟨#[99]⟩, .string ⟨#[100]⟩] ( /- t -/ 9))).heap.size := by simp
          have hrv : rb < w.heap.size := HV.out.start.lt
          refine (pick_calls _ rb cv l _ HL0.out.rd (by omega) 3 (by omega)).mono ?_
          rintro e wk ⟨k, rfl, hk, hask⟩
          have HK := hide (HL0.out.ask hask)
          have HGK := hide (HG0.out.same (hask.only.block gb (by omega) (by omega)))
          have HSK := hide (HS0.out.elsewhere elS_flat (w' := wk) (fun b o n c e => hask.only.block b (by
            injection e with e; injection e with e; injection e with e; omega) (by injection e with e; injection e with e; injection e with e; omega)))
          have hvk : V.heap.size < wk.heap.size := by have := hask.size; omega
          have hk2 : k ≤ 2 := by omega
          clear hask HL0 HG0 HS0 HV HG hvl hk
          generalize V.heap.size = lb at *
          clear V
          go_wp2_with fail
          have HI0 := hide (HK.out.alloc (.cells #[.int .i64 1, .int .i64 2, .int .i64 1, .int .i64 2, .int .i64 3] ( /- t -/ 3)))
          have HGI0 := hide (HGK.out.below (alloc_below wk (.cells #[.int .i64 1, .int .i64 2, .int .i64 1, .int .i64 2, .int .i64 3] ( /- t -/ 3))))
          have HSI0 := hide (HSK.out.still (Still.of_below (alloc_below wk (.cells #[.int .i64 1, .int .i64 2, .int .i64 1, .int .i64 2, .int .i64 3] ( /- t -/ 3)))))
          refine (num_calls _ rb cv l _ HI0.out.rd (by omega) [1, 2, 1, 2, 3] _ (sl5i wk _ _ _ _ _ ( /- t -/ 3)) (by decide) (by decide) (new_far HK.out.rd.lt)).mono ?_
          rintro e wi ⟨i, hi, rfl, hask⟩
          have hi3 : 1 ≤ i ∧ i ≤ 3 := by
            simp only [List.mem_cons, List.not_mem_nil, or_false] at hi
            omega
          have hski : wk.heap.size < wi.heap.size := by have := hask.size; simp at this; omega
          have HGI := hide (HGI0.out.same (hask.only.block gb (by simp; omega) (by omega)))
          have HSI := hide (HSI0.out.elsewhere elS_flat (w' := wi) (fun b o n c e => hask.only.block b (by
            injection e with e; injection e with e; injection e with e; simp; omega) (by injection e with e; injection e with e; injection e with e; omega)))
          have HST : Hid (RanRel w rb cv l p d gb lb wi.heap.size fr tz (.int .i64 (k : Int)) (.int .i64 i) wi) := hide
            ⟨k, i, .nil, _, [], _, rfl, rfl, by simp only [F.len]; omega, by simp only [F.len]; omega, by omega, HI0.out.ask hask, by simp only [F.len]; omega, HGI.out, HSI.out, Gr.nil _ _, by simp only [F.sz, F.len]; omega, trivial, Nat.le_refl _⟩
          clear hask HI0 HGI0 HSI0 HGK HSK HGI HSI HK
          generalize wi.heap.size = B at *
          obtain ⟨i0, hinf, hz0, hz1, hz2⟩ := info_parts Tryd.info76
          have HI := hide (And.intro hinf (And.intro hz0 (And.intro hz1 hz2)))
          clear hinf hz0 hz1 hz2 hi hi3
          go_wp2_with fail
          go_loopw [11, 12] (fun kv iv wr => RanRel w rb cv l p d gb lb B fr tz kv iv wr) (fun _ iv _ => (intOf iv).toNat)
          case atStart => exact HST.out
          case round =>
            obtain ⟨k, i, acc, v, bs, q, rfl, rfl, hka, hai, hi0, hst, hq, hgx, hsl, hgr, hsz, hsm, hBs⟩ := hrel
            have hX3 : acc.len * qs d ≤ 3 * qs d := Nat.mul_le_mul_right _ (by omega)
            have hY3 : acc.len * (zs d + 1) ≤ 3 * (zs d + 1) := Nat.mul_le_mul_right _ (by omega)
            obtain ⟨va, vc, rfl⟩ := hgr.val
            by_cases hgo : 0 < i ∧ k < 4
            case neg =>
              have HQX := hide (show q ≤ p + Q by omega)
              have HZX := hide (show acc.sz ≤ Z by rw [HZ.out]; simp only [zs]; omega)
              have HST := hide hst
              have HGR := hide hgr
              obtain ⟨o0, o1, o2, o3, o4⟩ := hgx.cells
              obtain ⟨x0, x1, x2, x3, x4⟩ := HST.out.box.cells
              have fx := HST.out.box.frozen
              have lx := HST.out.box.lt
              have fg := hgx.frozen
              have lg := hgx.lt
              have HSM := hide hsm
              clear hst hgr hgx hsl hsm hsz hq hX3 hY3 hka
              by_cases hi : 0 < i
              case' pos =>
                have hk4 : ¬ (k : Int) < 4 := fun h => hgo ⟨hi, by omega⟩
                go_wp2_with fail
              case' neg =>
                go_wp2_with fail
              all_goals
                (refine bodyPost_ret (v := .agg #[.int .i64 2, .string fr, .string tz, .int .i64 0, .slice va acc.len vc]) (by simp [results, Tryd.results88, go_sem, *]) rfl ?_
                 exact ⟨⟨2, fr, tz, 0, acc⟩, _, bs, rfl, ⟨⟨show (0 : Int) ≤ 0 by omega, show (0 : Int) ≤ 9 by omega⟩, HSM.out⟩,
                   dr_fin (N := ⟨2, fr, tz, 0, acc⟩) HST.out.start HST.out.only HST.out.rd HQX.out HGR.out.ow w.heap.size (Nat.le_refl _) (fun x hx => by have := HGR.out.ge x hx; omega) HGR.out.nodup ⟨HFZ.out, HTS.out, show (Lit.int .i64 2).wf = true by decide, show (Lit.int .i64 0).wf = true by decide⟩ HZX.out _ _ _ _ _⟩)
            case pos =>
              obtain ⟨hi, hk4⟩ := hgo
              have hk4i : (k : Int) < 4 := by omega
              have hal : acc.len ≤ 2 := by omega
              have hX2 : acc.len * qs d ≤ 2 * qs d := Nat.mul_le_mul_right _ hal
              obtain ⟨lab, hlab⟩ : ∃ lab, ([⟨#[97]⟩, ⟨#[98]⟩, ⟨#[99]⟩, ⟨#[100]⟩] : List ByteArray)[k]? = some lab := ⟨_, List.getElem?_eq_getElem (by simp; omega)⟩
              obtain ⟨b7, o7, e7, hls, hlc⟩ := hsl.get hlab
              injection e7 with e7
              injection e7 with e8 e9
              subst e8 e9
              have hlc : wr.cell? ⟨lb, k, none⟩ = some (.string lab) := by simpa [elS] using hlc
              have hls : lab.size ≤ maxLen := hls
              have HL := hide hls
              have o4 := hgx.cells.2.2.2.2
              have hgl := hgx.lt
              have hll := World.block_lt_of_cell? _ _ hlc
              have HST := hide hst
              have HGX := hide hgx
              have HSL := hide hsl
              have HGR := hide (hgr.below (w' := wr.drew) (Below.refl _ _).drew)
              have HSM := hide hsm
              have HSZ := hide hsz
              have HQ5 := hide hq
              have HCALL : Hid (Calls Tryd.prog 88 #[.pointer (some ⟨rb, 0, none⟩), .int .i64 b, .int .i64 0, .int .i64 (d : Int)] wr.drew (DrP smN wr.drew rb cv l q (qs d) (zs d))) := hide (ih wr.drew rb cv l q hst.rd.drew (by omega) b 0 (by omega) (by omega) hb)
              clear hst hgx hsl hgr hsm hls hlab hsz hX3 hY3 hX2 hq
              go_wp2_with fail
              refine wp_region_T (fun w' => w'.cell? ⟨gb, 4, none⟩ = some (.slice va acc.len vc) ∧ w'.cell? ⟨lb, k, none⟩ = some (.string lab)) 15 (by kernel_rfl) ⟨o4, hlc⟩ (fun hHeld => ?_)
              refine wpAnyT_take (L := 15) (i := 0) (v := ?va0) rfl (by kernel_rfl) (by kernel_rfl) (by kernel_rfl) (by kernel_rfl) (fun _ _ _ h => h) hHeld (Or.inl ⟨by rfl, ?hya0⟩) ?resta0
              case hya0 => ((intro w' hw'); (try dsimp only at hw'); (go_simp); (try with_reducible rfl))
              (try simp only [Act.put]); (try simp only [List.setIfInBounds_toArray]); (try simp only [List.set_cons_zero]); (try simp only [List.set_cons_succ])
              refine wpAnyT_take (L := 15) (i := 1) (v := ?va1) rfl (by kernel_rfl) (by kernel_rfl) (by kernel_rfl) (by kernel_rfl) (fun _ _ _ h => h) hHeld (Or.inl ⟨by rfl, ?hya1⟩) ?resta1
              case hya1 => ((intro w' hw'); (try dsimp only at hw'); (go_simp); (try with_reducible rfl))
              (try simp only [Act.put]); (try simp only [List.setIfInBounds_toArray]); (try simp only [List.set_cons_zero]); (try simp only [List.set_cons_succ])
              refine wpAnyT_take (L := 15) (i := 2) (v := ?va2) rfl (by kernel_rfl) (by kernel_rfl) (by kernel_rfl) (by kernel_rfl) (fun _ _ _ h => h) hHeld (Or.inl ⟨by rfl, ?hya2⟩) ?resta2
              case hya2 => ((intro w' hw'); (try dsimp only at hw'); (go_simp); (try with_reducible rfl))
              (try simp only [Act.put]); (try simp only [List.setIfInBounds_toArray]); (try simp only [List.set_cons_zero]); (try simp only [List.set_cons_succ])
              refine wpAnyT_take (L := 15) (i := 3) (v := ?va3) rfl (by kernel_rfl) (by kernel_rfl) (by kernel_rfl) (by kernel_rfl) (fun _ _ _ h => h) hHeld (Or.inl ⟨by rfl, ?hya3⟩) ?resta3
              case hya3 => ((intro w' hw'); (try dsimp only at hw'); (go_simp); (try with_reducible rfl))
              (try simp only [Act.put]); (try simp only [List.setIfInBounds_toArray]); (try simp only [List.set_cons_zero]); (try simp only [List.set_cons_succ])
              refine wpAnyT_take (L := 15) (i := 4) (v := ?va4) rfl (by kernel_rfl) (by kernel_rfl) (by kernel_rfl) (by kernel_rfl) (fun _ _ _ h => h) hHeld (Or.inl ⟨by rfl, ?hya4⟩) ?resta4
              case hya4 => ((intro w' hw'); (try dsimp only at hw'); (go_simp); (try with_reducible rfl))
              (try simp only [Act.put]); (try simp only [List.setIfInBounds_toArray]); (try simp only [List.set_cons_zero]); (try simp only [List.set_cons_succ])
              refine wpAnyT_take (L := 15) (i := 5) (v := ?va5) rfl (by kernel_rfl) (by kernel_rfl) (by kernel_rfl) (by kernel_rfl) (fun _ _ _ h => h) hHeld (Or.inl ⟨by rfl, ?hya5⟩) ?resta5
              case hya5 => ((intro w' hw'); (try dsimp only at hw'); (go_simp); (try with_reducible rfl))
              (try simp only [Act.put]); (try simp only [List.setIfInBounds_toArray]); (try simp only [List.set_cons_zero]); (try simp only [List.set_cons_succ])
              refine wpAnyT_take (L := 15) (i := 6) (v := ?va6) rfl (by kernel_rfl) (by kernel_rfl) (by kernel_rfl) (by kernel_rfl) (fun _ _ _ h => h) hHeld (Or.inl ⟨by rfl, ?hya6⟩) ?resta6
              case hya6 => ((intro w' hw'); (try dsimp only at hw'); (go_simp); (try with_reducible rfl))
              (try simp only [Act.put]); (try simp only [List.setIfInBounds_toArray]); (try simp only [List.set_cons_zero]); (try simp only [List.set_cons_succ])
              refine wpAnyT_take (L := 15) (i := 7) (v := ?va7) rfl (by kernel_rfl) (by kernel_rfl) (by kernel_rfl) (by kernel_rfl) (fun _ _ _ h => h) hHeld (Or.inl ⟨by rfl, ?hya7⟩) ?resta7
              case hya7 => ((intro w' hw'); (try dsimp only at hw'); (go_simp); (try with_reducible rfl))
              (try simp only [Act.put]); (try simp only [List.setIfInBounds_toArray]); (try simp only [List.set_cons_zero]); (try simp only [List.set_cons_succ])
              refine wpAnyT_take (L := 15) (i := 8) (v := ?va8) rfl (by kernel_rfl) (by kernel_rfl) (by kernel_rfl) (by kernel_rfl) (fun _ _ _ h => h) hHeld (Or.inl ⟨by rfl, ?hya8⟩) ?resta8
              case hya8 => ((intro w' hw'); (try dsimp only at hw'); (go_simp); (try with_reducible rfl))
              (try simp only [Act.put]); (try simp only [List.setIfInBounds_toArray]); (try simp only [List.set_cons_zero]); (try simp only [List.set_cons_succ])
              refine wpAnyT_take (L := 15) (i := 9) (v := ?va9) rfl (by kernel_rfl) (by kernel_rfl) (by kernel_rfl) (by kernel_rfl) (fun _ _ _ h => h) hHeld (Or.inl ⟨by rfl, ?hya9⟩) ?resta9
              case hya9 => ((intro w' hw'); (try dsimp only at hw'); (go_simp); (try with_reducible rfl))
              (try simp only [Act.put]); (try simp only [List.setIfInBounds_toArray]); (try simp only [List.set_cons_zero]); (try simp only [List.set_cons_succ])
              refine wpAnyT_one (L := 15) (i := 10) (by kernel_rfl) rfl (fun K hK => ?_)
              go_simp
              go_at_call 88
              (with_reducible refine HCALL.out.mono ?_)
              rintro e w5 ⟨N, un, ks, rfl, hqn, hdr⟩
              obtain ⟨ua, uc, rfl⟩ := hdr.own.val
              obtain ⟨q', hq', hrd5⟩ := hdr.rd
              have HQN := hide hqn
              have HDR := hide hdr
              have HRD := hide hrd5
              have h5o : w5.cell? ⟨gb, 4, none⟩ = some (.slice va acc.len vc) := (Same.cell (hdr.only.block gb hgl (by omega))).trans o4
              have h5l : w5.cell? ⟨lb, k, none⟩ = some (.string lab) := (Same.cell (hdr.only.block lb hll (by omega))).trans hlc
              have h5z : wr.heap.size ≤ w5.heap.size := hdr.only.size
              have HD5 := hide (And.intro h5o h5l)
              refine hK.out _ _ (fun _ => HD5.out) ?_
              clear hK K hdr hrd5 h5o h5l hqn
              refine wpAnyT_take (L := 15) (i := 11) (v := ?va11) rfl (by kernel_rfl) (by kernel_rfl) (by kernel_rfl) (by kernel_rfl) (fun _ _ _ h => h) HD5.out (Or.inl ⟨by rfl, ?hya11⟩) ?resta11
              case hya11 => ((intro w' hw'); (try dsimp only at hw'); (go_simp); (try with_reducible rfl))
              (try simp only [Act.put]); (try simp only [List.setIfInBounds_toArray]); (try simp only [List.set_cons_zero]); (try simp only [List.set_cons_succ])
              refine wpAnyT_one (L := 15) (i := 12) (by kernel_rfl) rfl (fun K hK => ?_)
              go_simp
              have hst2 := Still.of_below (alloc_below w5 (.cells #[.string lab, .int .i64 N.k, .string N.fr, .string N.tg, .int .i64 N.ix, .slice ua N.kids.len uc] ( /- t -/ 76)))
              have HD6 := hide (And.intro (hst2 _ _ HD5.out.1) (hst2 _ _ HD5.out.2))
              refine hK.out _ _ (fun _ => HD6.out) ?_
              clear hK K
              (try simp only [Act.put]); (try simp only [List.setIfInBounds_toArray]); (try simp only [List.set_cons_zero]); (try simp only [List.set_cons_succ])
              refine wpAnyT_one (L := 15) (i := 13) (by kernel_rfl) rfl (fun K hK => ?_)
              have hgr5a := HGR.out.same (w' := w5) (HDR.out.only.same (fun x hx => ⟨HGR.out.lt x hx, by have := HGR.out.ge x hx; omega⟩))
              have hgr5 := hgr5a.below (alloc_below w5 (.cells #[.string lab, .int .i64 N.k, .string N.fr, .string N.tg, .int .i64 N.ix, .slice ua N.kids.len uc] ( /- t -/ 76)))
              refine step_append_lies _ (by rfl) _ _ _ (by rfl) B ( /- t -/ 76) i0 _ 6 88 Tryd.underlying23 HI.out.1 HI.out.2.1 HI.out.2.2.1 HI.out.2.2.2 rfl (by omega) (.slice va acc.len vc) acc.len (grXs (w5.alloc (.cells #[.string lab, .int .i64 N.k, .string N.fr, .string N.tg, .int .i64 N.ix, .slice ua N.kids.len uc] ( /- t -/ 76))) (.slice va acc.len vc) acc) (by rfl) hgr5.owns
                ⟨w5.heap.size, 0, none⟩ 1 1 [.string lab, .int .i64 N.k, .string N.fr, .string N.tg, .int .i64 N.ix, .slice ua N.kids.len uc] (by rfl) (by rfl) (World.news_of_block (cs := #[.string lab, .int .i64 N.k, .string N.fr, .string N.tg, .int .i64 N.ix, .slice ua N.kids.len uc]) (t := ( /- t -/ 76)) (fr := (0, 0)) (heap_alloc_new w5 _)) (by simp [Value.oneCell'])
                (by omega) (by unfold maxLen; omega) (by omega) (by simp; omega) _ rfl ?_
              intro gg cp w6 hown6 hgrow6 hat6 hlt6
              have hfarb : ∀ b8, b8 < B → w6.heap[b8]? = w5.heap[b8]? := fun b8 hb8 => by
                rw [hgrow6.block b8 (by simp; omega) (fun e => by have := hgr5.ge b8 (hgr5.block b8 e.symm); omega), Below.heap_alloc _ _ _ (by omega)]
              have HD7 := hide (And.intro ((Same.cell (hfarb gb (by omega))).trans HD5.out.1) ((Same.cell (hfarb lb (by omega))).trans HD5.out.2))
              refine hK.out _ _ (fun _ => HD7.out) ?_
              clear hK K
              (try simp only [Act.put]); (try simp only [List.setIfInBounds_toArray]); (try simp only [List.set_cons_zero]); (try simp only [List.set_cons_succ])
              refine wpAnyT_take (L := 15) (i := 14) (v := ?va14) rfl (by kernel_rfl) (by kernel_rfl) (by kernel_rfl) (by kernel_rfl) (fun _ _ _ h => h) HD7.out (Or.inl ⟨by rfl, ?hya14⟩) ?resta14
              case hya14 => ((intro w' hw'); (try dsimp only at hw'); (go_simp); (try with_reducible rfl))
              (try simp only [Act.put]); (try simp only [List.setIfInBounds_toArray]); (try simp only [List.set_cons_zero]); (try simp only [List.set_cons_succ])
              have hgx6 : Box5 w6 gb (.int .i64 2) (.string fr) (.string tz) (.int .i64 0) (.slice va acc.len vc) := HGX.out.same ((hfarb gb (by omega)).trans (HDR.out.only.block gb hgl (by omega)))
              have o4 := hgx6.cells.2.2.2.2
              have fo := hgx6.frozen
              have lgx := hgx6.lt
              refine wpAnyT_one (L := 15) (i := 15) (by kernel_rfl) rfl (fun K hK => ?_)
              go_simp
              refine hK.out _ _ (fun h => absurd rfl h) ?_
              refine wpAnyT_done (by kernel_rfl) ?_ _
              clear hK K
              have hOw : Only rb w w6 := by
                have h2 := (HST.out.only.drew.trans HDR.out.only).alloc (.cells #[.string lab, .int .i64 N.k, .string N.fr, .string N.tg, .int .i64 N.ix, .slice ua N.kids.len uc] ( /- t -/ 76))
                exact ⟨hgrow6.os.trans h2.os, hgrow6.tape.trans h2.tape, hgrow6.output.trans h2.output, Nat.le_trans h2.size hgrow6.size, fun x hx hc => (hgrow6.block x (Nat.lt_of_lt_of_le hx h2.size) (fun e => by
                  have h1 := hgr5.ge x (hgr5.block x e.symm)
                  omega)).trans (h2.block x hx hc)⟩
              have hou := HDR.out.own.same (Same.of_below (alloc_below w5 (.cells #[.string lab, .int .i64 N.k, .string N.fr, .string N.tg, .int .i64 N.ix, .slice ua N.kids.len uc] ( /- t -/ 76))) HDR.out.own.lt)
              obtain ⟨q1, q2, q3, q4⟩ := HDR.out.fit
              obtain ⟨bs', hpush, -⟩ := Gr.push hgr5 (k := N.k) (ix := N.ix) hou (fun x hx => by have h9 := HDR.out.ge x hx; simp at h9; omega) HDR.out.nd
                (fun x hx hx2 => by have h1 := HGR.out.lt x hx; have h2 := HDR.out.ge x hx2; omega) HL.out q1 q2 q3 q4 hown6 hgrow6 (by rcases hat6 with h | h; exact Or.inl h; exact Or.inr h)
              have hwf : ∀ x, x ≠ gb → (w6.setCell ⟨gb, 4, none⟩ (.slice (some ⟨gg, 0, none⟩) (acc.len + 1) cp)).heap[x]? = w6.heap[x]? := fun x hx => Below.heap_setCell _ _ _ _ hx
              have hOf : Only rb w (w6.setCell ⟨gb, 4, none⟩ (.slice (some ⟨gg, 0, none⟩) (acc.len + 1) cp)) := hOw.setCell (Or.inr (by simp; omega)) _
              have hRdf := HST.out.start.fin HRD.out hOf ((hwf rb (by omega)).trans (hfarb rb (by omega)))
              have hbox := HST.out.box.same ((hwf w.heap.size (by omega)).trans ((hfarb _ (by omega)).trans (HDR.out.only.block _ HST.out.box.lt (by omega))))
              have hslf := HSL.out.elsewhere elS_flat (w' := w6.setCell ⟨gb, 4, none⟩ (.slice (some ⟨gg, 0, none⟩) (acc.len + 1) cp)) (fun b8 o8 n8 c8 e8 => by
                injection e8 with e8
                injection e8 with e8
                injection e8 with e8
                subst e8
                exact (hwf lb (by omega)).trans ((hfarb lb (by omega)).trans (HDR.out.only.block lb hll (by omega))))
              have hmul : (acc.len + 1) * qs d = acc.len * qs d + qs d := Nat.succ_mul _ _
              have hmul2 : (acc.len + 1) * (zs d + 1) = acc.len * (zs d + 1) + (zs d + 1) := Nat.succ_mul _ _
              have hq6 := HQ5.out
              have hs6 := HSZ.out
              have hsN := HDR.out.sz
              have hwsz : B ≤ w6.heap.size := Nat.le_trans (Nat.le_trans hBs h5z) (by have h9 := hgrow6.size; simp at h9; omega)
              have HREL : Hid (RanRel w rb cv l p d gb lb B fr tz (.int .i64 ((k : Int) + 1)) (.int .i64 (i - 1)) (w6.setCell ⟨gb, 4, none⟩ (.slice (some ⟨gg, 0, none⟩) (acc.len + 1) cp))) := hide
                ⟨k + 1, i - 1, acc.app (.cons lab N.k N.fr N.tg N.ix N.kids .nil), _, bs', q', congrArg (Value.int .i64) (by omega), rfl, by rw [F.len_app]; simp only [F.len]; omega, by rw [F.len_app]; simp only [F.len]; omega, by omega,
                  ⟨HST.out.start, hOf, hRdf, hbox⟩, by rw [F.len_app]; simp only [F.len]; rw [show acc.len + (0 + 1) = acc.len + 1 from rfl]; omega, hgx6.set4 _, hslf,
                  hpush.same (fun x hx => hwf x (by have := hpush.ge x hx; omega)), by rw [F.len_app, F.sz_app]; simp only [F.len, F.sz]; rw [show acc.len + (0 + 1) = acc.len + 1 from rfl]; omega, (smF_app _ _).2 ⟨HSM.out, HQN.out.1, HQN.out.2, trivial⟩, by simpa using hwsz⟩
              clear hpush hbox hslf hRdf hOf hOw hou hown6 hgrow6 hat6 hgr5 hgr5a HDR HST HSL HSM HSZ HQ5 hq6 hs6 hsN hmul hmul2 HD5 HD6 HD7 HGR HCALL HGX hgx6 o4 fo
              go_wp2_with fail
              go_roundw
              case rel => exact HREL.out
              case measure => simp [intOf]; omega
      case neg =>
        have h51 : ((v5 : Int) == 0) = false := beq_eq_false_iff_ne.2 (by omega)
        have h52 : ¬ (v5 : Int) = 0 := by omega
        clear hrec
        go_upto_region 7 with fail
        go_wp2_with fail
        have HA0 := hide (H5.out.alloc (.cells #[.string ⟨#[65]⟩, .string ⟨#[66]⟩, .string ⟨#[67]⟩, .string ⟨#[65]⟩] ( /- t -/ 9)))
        refine (of_calls _ rb cv l _ HA0.out.rd (by omega) [⟨#[65]⟩, ⟨#[66]⟩, ⟨#[67]⟩, ⟨#[65]⟩] _ (sl4 w2 _ _ _ _ ( /- t -/ 9) (show (1 : Nat) ≤ maxLen by unfold maxLen; omega) (show (1 : Nat) ≤ maxLen by unfold maxLen; omega) (show (1 : Nat) ≤ maxLen by unfold maxLen; omega) (show (1 : Nat) ≤ maxLen by unfold maxLen; omega)) (by decide) (by decide) (new_far H5.out.rd.lt)).mono ?_
        rintro e wf ⟨fr, hfr, rfl, hask⟩
        have HF := hide (HA0.out.ask hask)
        have hfs : fr.size ≤ maxLen := small_of hfr
        have HFZ := hide hfs
        clear hask HA0 hfr hfs
        go_wp2_with fail
        have HB0 := hide (HF.out.alloc (.cells #[.string ⟨#[66]⟩, .string ⟨#[67]⟩, .string ⟨#[65]⟩, .string ⟨#[66]⟩] ( /- t -/ 9)))
        refine (of_calls _ rb cv l _ HB0.out.rd (by omega) [⟨#[66]⟩, ⟨#[67]⟩, ⟨#[65]⟩, ⟨#[66]⟩] _ (sl4 wf _ _ _ _ ( /- t -/ 9) (show (1 : Nat) ≤ maxLen by unfold maxLen; omega) (show (1 : Nat) ≤ maxLen by unfold maxLen; omega) (show (1 : Nat) ≤ maxLen by unfold maxLen; omega) (show (1 : Nat) ≤ maxLen by unfold maxLen; omega)) (by decide) (by decide) (new_far HF.out.rd.lt)).mono ?_
        rintro e wt ⟨tg, hto, rfl, hask⟩
        have HT := hide (HB0.out.ask hask)
        have hts : tg.size ≤ maxLen := small_of hto
        have HTZ := hide hts
        clear hask HB0 hto hts HF
        go_upto_if 66 with fail
        go_cut [9] from 55 to 70 (fun v9 wc => ∃ tg' : ByteArray, v9 = .pointer (some ⟨wt.heap.size, 0, none⟩) ∧ tg'.size ≤ maxLen ∧ wc = wt.alloc (.cells #[.int .i64 2, .string fr, .string tg', .int .i64 0, .slice none 0 0] ( /- t -/ 25)))
        case first =>
          go_wp2_with fail
          all_goals first
            | (go_meet
               case rel => exact ⟨tg, rfl, HTZ.out, rfl⟩)
            | (refine (other_calls _ fr).mono ?_
               rintro e w9 ⟨⟨tn, htn, rfl⟩, hw9⟩
               subst hw9
               go_wp2_with fail
               go_meet
               case rel => exact ⟨tn, rfl, Nat.le_trans htn (by unfold maxLen; omega), rfl⟩)
        case rest =>
          obtain ⟨tz, rfl, hts, rfl⟩ := hcut
          have HTS := hide hts
          clear hts HTZ
          have hgt : w.heap.size < wt.heap.size := HT.out.box.lt
          have HV := hide (HT.out.alloc (.cells #[.int .i64 2, .string fr, .string tz, .int .i64 0, .slice none 0 0] ( /- t -/ 25)))
          have HG := hide (Box5.now wt (.int .i64 2) (.string fr) (.string tz) (.int .i64 0) (.slice none 0 0) ( /- t -/ 25))
          have hgv : wt.heap.size < (wt.alloc (.cells #[.int .i64 2, .string fr, .string tz, .int .i64 0, .slice none 0 0] ( /- t -/ 25))).heap.size := by simp
          generalize wt.alloc (.cells #[.int .i64 2, .string fr, .string tz, .int .i64 0, .slice none 0 0] ( /- t -/ 25)) = V at *
          clear HT
          generalize wt.heap.size = gb at *
          clear wt
          go_wp2_with fail
          have HL0 := hide (HV.out.alloc (.cells #[.string ⟨#[97]⟩, .string ⟨#[98]⟩, .string ⟨#[99]⟩, .string ⟨#[100]⟩] ( /- t -/ 9)))
          have HS0 := hide (sl4 V ⟨#[97]⟩ ⟨#[98]⟩ ⟨#[99]⟩ ⟨#[100]⟩ ( /- t -/ 9) (show (1 : Nat) ≤ maxLen by unfold maxLen; omega) (show (1 : Nat) ≤ maxLen by unfold maxLen; omega) (show (1 : Nat) ≤ maxLen by unfold maxLen; omega) (show (1 : Nat) ≤ maxLen by unfold maxLen; omega))
          have HG0 := hide (HG.out.below (alloc_below V (.cells #[.string ⟨#[97]⟩, .string ⟨#[98]⟩, .string ⟨#[99]⟩, .string ⟨#[100]⟩] ( /- t -/ 9))))
          have hvl : V.heap.size < (V.alloc (.cells #[.string ⟨#[97]⟩, .string ⟨#[98]⟩, .string ⟨#[99]⟩, .string ⟨#[100]⟩] ( /- t -/ 9))).heap.size := by simp
          have hrv : rb < w.heap.size := HV.out.start.lt
          refine (pick_calls _ rb cv l _ HL0.out.rd (by omega) 3 (by omega)).mono ?_
          rintro e wk ⟨k, rfl, hk, hask⟩
          have HK := hide (HL0.out.ask hask)
          have HGK := hide (HG0.out.same (hask.only.block gb (by omega) (by omega)))
          have HSK := hide (HS0.out.elsewhere elS_flat (w' := wk) (fun b o n c e => hask.only.block b (by
            injection e with e; injection e with e; injection e with e; omega) (by injection e with e; injection e with e; injection e with e; omega)))
          have hvk : V.heap.size < wk.heap.size := by have := hask.size; omega
          have hk2 : k ≤ 2 := by omega
          clear hask HL0 HG0 HS0 HV HG hvl hk
          generalize V.heap.size = lb at *
          clear V
          go_wp2_with fail
          have HI0 := hide (HK.out.alloc (.cells #[.int .i64 1, .int .i64 2, .int .i64 1, .int .i64 2, .int .i64 3] ( /- t -/ 3)))
          have HGI0 := hide (HGK.out.below (alloc_below wk (.cells #[.int .i64 1, .int .i64 2, .int .i64 1, .int .i64 2, .int .i64 3] ( /- t -/ 3))))
          have HSI0 := hide (HSK.out.still (Still.of_below (alloc_below wk (.cells #[.int .i64 1, .int .i64 2, .int .i64 1, .int .i64 2, .int .i64 3] ( /- t -/ 3)))))
          refine (num_calls _ rb cv l _ HI0.out.rd (by omega) [1, 2, 1, 2, 3] _ (sl5i wk _ _ _ _ _ ( /- t -/ 3)) (by decide) (by decide) (new_far HK.out.rd.lt)).mono ?_
          rintro e wi ⟨i, hi, rfl, hask⟩
          have hi3 : 1 ≤ i ∧ i ≤ 3 := by
            simp only [List.mem_cons, List.not_mem_nil, or_false] at hi
            omega
          have hski : wk.heap.size < wi.heap.size := by have := hask.size; simp at this; omega
          have HGI := hide (HGI0.out.same (hask.only.block gb (by simp; omega) (by omega)))
          have HSI := hide (HSI0.out.elsewhere elS_flat (w' := wi) (fun b o n c e => hask.only.block b (by
            injection e with e; injection e with e; injection e with e; simp; omega) (by injection e with e; injection e with e; injection e with e; omega)))
          have HST : Hid (RanRel w rb cv l p d gb lb wi.heap.size fr tz (.int .i64 (k : Int)) (.int .i64 i) wi) := hide
            ⟨k, i, .nil, _, [], _, rfl, rfl, by simp only [F.len]; omega, by simp only [F.len]; omega, by omega, HI0.out.ask hask, by simp only [F.len]; omega, HGI.out, HSI.out, Gr.nil _ _, by simp only [F.sz, F.len]; omega, trivial, Nat.le_refl _⟩
          clear hask HI0 HGI0 HSI0 HGK HSK HGI HSI HK
          generalize wi.heap.size = B at *
          obtain ⟨i0, hinf, hz0, hz1, hz2⟩ := info_parts Tryd.info76
          have HI := hide (And.intro hinf (And.intro hz0 (And.intro hz1 hz2)))
          clear hinf hz0 hz1 hz2 hi hi3
          go_wp2_with fail
          go_loopw [11, 12] (fun kv iv wr => RanRel w rb cv l p d gb lb B fr tz kv iv wr) (fun _ iv _ => (intOf iv).toNat)
          case atStart => exact HST.out
          case round =>
            obtain ⟨k, i, acc, v, bs, q, rfl, rfl, hka, hai, hi0, hst, hq, hgx, hsl, hgr, hsz, hsm, hBs⟩ := hrel
            have hX3 : acc.len * qs d ≤ 3 * qs d := Nat.mul_le_mul_right _ (by omega)
            have hY3 : acc.len * (zs d + 1) ≤ 3 * (zs d + 1) := Nat.mul_le_mul_right _ (by omega)
            obtain ⟨va, vc, rfl⟩ := hgr.val
            by_cases hgo : 0 < i ∧ k < 4
            case neg =>
              have HQX := hide (show q ≤ p + Q by omega)
              have HZX := hide (show acc.sz ≤ Z by rw [HZ.out]; simp only [zs]; omega)
              have HST := hide hst
              have HGR := hide hgr
              obtain ⟨o0, o1, o2, o3, o4⟩ := hgx.cells
              obtain ⟨x0, x1, x2, x3, x4⟩ := HST.out.box.cells
              have fx := HST.out.box.frozen
              have lx := HST.out.box.lt
              have fg := hgx.frozen
              have lg := hgx.lt
              have HSM := hide hsm
              clear hst hgr hgx hsl hsm hsz hq hX3 hY3 hka
              by_cases hi : 0 < i
              case' pos =>
                have hk4 : ¬ (k : Int) < 4 := fun h => hgo ⟨hi, by omega⟩
                go_wp2_with fail
              case' neg =>
                go_wp2_with fail
              all_goals
                (refine bodyPost_ret (v := .agg #[.int .i64 2, .string fr, .string tz, .int .i64 0, .slice va acc.len vc]) (by simp [results, Tryd.results88, go_sem, *]) rfl ?_
                 exact ⟨⟨2, fr, tz, 0, acc⟩, _, bs, rfl, ⟨⟨show (0 : Int) ≤ 0 by omega, show (0 : Int) ≤ 9 by omega⟩, HSM.out⟩,
                   dr_fin (N := ⟨2, fr, tz, 0, acc⟩) HST.out.start HST.out.only HST.out.rd HQX.out HGR.out.ow w.heap.size (Nat.le_refl _) (fun x hx => by have := HGR.out.ge x hx; omega) HGR.out.nodup ⟨HFZ.out, HTS.out, show (Lit.int .i64 2).wf = true by decide, show (Lit.int .i64 0).wf = true by decide⟩ HZX.out _ _ _ _ _⟩)
            case pos =>
              obtain ⟨hi, hk4⟩ := hgo
              have hk4i : (k : Int) < 4 := by omega
              have hal : acc.len ≤ 2 := by omega
              have hX2 : acc.len * qs d ≤ 2 * qs d := Nat.mul_le_mul_right _ hal
              obtain ⟨lab, hlab⟩ : ∃ lab, ([⟨#[97]⟩, ⟨#[98]⟩, ⟨#[99]⟩, ⟨#[100]⟩] : List ByteArray)[k]? = some lab := ⟨_, List.getElem?_eq_getElem (by simp; omega)⟩
              obtain ⟨b7, o7, e7, hls, hlc⟩ := hsl.get hlab
              injection e7 with e7
              injection e7 with e8 e9
              subst e8 e9
              have hlc : wr.cell? ⟨lb, k, none⟩ = some (.string lab) := by simpa [elS] using hlc
              have hls : lab.size ≤ maxLen := hls
              have HL := hide hls
              have o4 := hgx.cells.2.2.2.2
              have hgl := hgx.lt
              have hll := World.block_lt_of_cell? _ _ hlc
              have HST := hide hst
              have HGX := hide hgx
              have HSL := hide hsl
              have HGR := hide (hgr.below (w' := wr.drew) (Below.refl _ _).drew)
              have HSM := hide hsm
              have HSZ := hide hsz
              have HQ5 := hide hq
              have HCALL : Hid (Calls Tryd.prog 88 #[.pointer (some ⟨rb, 0, none⟩), .int .i64 b, .int .i64 0, .int .i64 (d : Int)] wr.drew (DrP smN wr.drew rb cv l q (qs d) (zs d))) := hide (ih wr.drew rb cv l q hst.rd.drew (by omega) b 0 (by omega) (by omega) hb)
              clear hst hgx hsl hgr hsm hls hlab hsz hX3 hY3 hX2 hq
              go_wp2_with fail
              refine wp_region_T (fun w' => w'.cell? ⟨gb, 4, none⟩ = some (.slice va acc.len vc) ∧ w'.cell? ⟨lb, k, none⟩ = some (.string lab)) 15 (by kernel_rfl) ⟨o4, hlc⟩ (fun hHeld => ?_)
              refine wpAnyT_take (L := 15) (i := 0) (v := ?vb0) rfl (by kernel_rfl) (by kernel_rfl) (by kernel_rfl) (by kernel_rfl) (fun _ _ _ h => h) hHeld (Or.inl ⟨by rfl, ?hyb0⟩) ?restb0
              case hyb0 => ((intro w' hw'); (try dsimp only at hw'); (go_simp); (try with_reducible rfl))
              (try simp only [Act.put]); (try simp only [List.setIfInBounds_toArray]); (try simp only [List.set_cons_zero]); (try simp only [List.set_cons_succ])
              refine wpAnyT_take (L := 15) (i := 1) (v := ?vb1) rfl (by kernel_rfl) (by kernel_rfl) (by kernel_rfl) (by kernel_rfl) (fun _ _ _ h => h) hHeld (Or.inl ⟨by rfl, ?hyb1⟩) ?restb1
              case hyb1 => ((intro w' hw'); (try dsimp only at hw'); (go_simp); (try with_reducible rfl))
              (try simp only [Act.put]); (try simp only [List.setIfInBounds_toArray]); (try simp only [List.set_cons_zero]); (try simp only [List.set_cons_succ])
              refine wpAnyT_take (L := 15) (i := 2) (v := ?vb2) rfl (by kernel_rfl) (by kernel_rfl) (by kernel_rfl) (by kernel_rfl) (fun _ _ _ h => h) hHeld (Or.inl ⟨by rfl, ?hyb2⟩) ?restb2
              case hyb2 => ((intro w' hw'); (try dsimp only at hw'); (go_simp); (try with_reducible rfl))
              (try simp only [Act.put]); (try simp only [List.setIfInBounds_toArray]); (try simp only [List.set_cons_zero]); (try simp only [List.set_cons_succ])
              refine wpAnyT_take (L := 15) (i := 3) (v := ?vb3) rfl (by kernel_rfl) (by kernel_rfl) (by kernel_rfl) (by kernel_rfl) (fun _ _ _ h => h) hHeld (Or.inl ⟨by rfl, ?hyb3⟩) ?restb3
              case hyb3 => ((intro w' hw'); (try dsimp only at hw'); (go_simp); (try with_reducible rfl))
              (try simp only [Act.put]); (try simp only [List.setIfInBounds_toArray]); (try simp only [List.set_cons_zero]); (try simp only [List.set_cons_succ])
              refine wpAnyT_take (L := 15) (i := 4) (v := ?vb4) rfl (by kernel_rfl) (by kernel_rfl) (by kernel_rfl) (by kernel_rfl) (fun _ _ _ h => h) hHeld (Or.inl ⟨by rfl, ?hyb4⟩) ?restb4
              case hyb4 => ((intro w' hw'); (try dsimp only at hw'); (go_simp); (try with_reducible rfl))
              (try simp only [Act.put]); (try simp only [List.setIfInBounds_toArray]); (try simp only [List.set_cons_zero]); (try simp only [List.set_cons_succ])
              refine wpAnyT_take (L := 15) (i := 5) (v := ?vb5) rfl (by kernel_rfl) (by kernel_rfl) (by kernel_rfl) (by kernel_rfl) (fun _ _ _ h => h) hHeld (Or.inl ⟨by rfl, ?hyb5⟩) ?restb5
              case hyb5 => ((intro w' hw'); (try dsimp only at hw'); (go_simp); (try with_reducible rfl))
              (try simp only [Act.put]); (try simp only [List.setIfInBounds_toArray]); (try simp only [List.set_cons_zero]); (try simp only [List.set_cons_succ])
              refine wpAnyT_take (L := 15) (i := 6) (v := ?vb6) rfl (by kernel_rfl) (by kernel_rfl) (by kernel_rfl) (by kernel_rfl) (fun _ _ _ h => h) hHeld (Or.inl ⟨by rfl, ?hyb6⟩) ?restb6
              case hyb6 => ((intro w' hw'); (try dsimp only at hw'); (go_simp); (try with_reducible rfl))
              (try simp only [Act.put]); (try simp only [List.setIfInBounds_toArray]); (try simp only [List.set_cons_zero]); (try simp only [List.set_cons_succ])
              refine wpAnyT_take (L := 15) (i := 7) (v := ?vb7) rfl (by kernel_rfl) (by kernel_rfl) (by kernel_rfl) (by kernel_rfl) (fun _ _ _ h => h) hHeld (Or.inl ⟨by rfl, ?hyb7⟩) ?restb7
              case hyb7 => ((intro w' hw'); (try dsimp only at hw'); (go_simp); (try with_reducible rfl))
              (try simp only [Act.put]); (try simp only [List.setIfInBounds_toArray]); (try simp only [List.set_cons_zero]); (try simp only [List.set_cons_succ])
              refine wpAnyT_take (L := 15) (i := 8) (v := ?vb8) rfl (by kernel_rfl) (by kernel_rfl) (by kernel_rfl) (by kernel_rfl) (fun _ _ _ h => h) hHeld (Or.inl ⟨by rfl, ?hyb8⟩) ?restb8
              case hyb8 => ((intro w' hw'); (try dsimp only at hw'); (go_simp); (try with_reducible rfl))
              (try simp only [Act.put]); (try simp only [List.setIfInBounds_toArray]); (try simp only [List.set_cons_zero]); (try simp only [List.set_cons_succ])
              refine wpAnyT_take (L := 15) (i := 9) (v := ?vb9) rfl (by kernel_rfl) (by kernel_rfl) (by kernel_rfl) (by kernel_rfl) (fun _ _ _ h => h) hHeld (Or.inl ⟨by rfl, ?hyb9⟩) ?restb9
              case hyb9 => ((intro w' hw'); (try dsimp only at hw'); (go_simp); (try with_reducible rfl))
              (try simp only [Act.put]); (try simp only [List.setIfInBounds_toArray]); (try simp only [List.set_cons_zero]); (try simp only [List.set_cons_succ])
              refine wpAnyT_one (L := 15) (i := 10) (by kernel_rfl) rfl (fun K hK => ?_)
              go_simp
              go_at_call 88
              (with_reducible refine HCALL.out.mono ?_)
              rintro e w5 ⟨N, un, ks, rfl, hqn, hdr⟩
              obtain ⟨ua, uc, rfl⟩ := hdr.own.val
              obtain ⟨q', hq', hrd5⟩ := hdr.rd
              have HQN := hide hqn
              have HDR := hide hdr
              have HRD := hide hrd5
              have h5o : w5.cell? ⟨gb, 4, none⟩ = some (.slice va acc.len vc) := (Same.cell (hdr.only.block gb hgl (by omega))).trans o4
              have h5l : w5.cell? ⟨lb, k, none⟩ = some (.string lab) := (Same.cell (hdr.only.block lb hll (by omega))).trans hlc
              have h5z : wr.heap.size ≤ w5.heap.size := hdr.only.size
              have HD5 := hide (And.intro h5o h5l)
              refine hK.out _ _ (fun _ => HD5.out) ?_
              clear hK K hdr hrd5 h5o h5l hqn
              refine wpAnyT_take (L := 15) (i := 11) (v := ?vb11) rfl (by kernel_rfl) (by kernel_rfl) (by kernel_rfl) (by kernel_rfl) (fun _ _ _ h => h) HD5.out (Or.inl ⟨by rfl, ?hyb11⟩) ?restb11
              case hyb11 => ((intro w' hw'); (try dsimp only at hw'); (go_simp); (try with_reducible rfl))
              (try simp only [Act.put]); (try simp only [List.setIfInBounds_toArray]); (try simp only [List.set_cons_zero]); (try simp only [List.set_cons_succ])
              refine wpAnyT_one (L := 15) (i := 12) (by kernel_rfl) rfl (fun K hK => ?_)
              go_simp
              have hst2 := Still.of_below (alloc_below w5 (.cells #[.string lab, .int .i64 N.k, .string N.fr, .string N.tg, .int .i64 N.ix, .slice ua N.kids.len uc] ( /- t -/ 76)))
              have HD6 := hide (And.intro (hst2 _ _ HD5.out.1) (hst2 _ _ HD5.out.2))
              refine hK.out _ _ (fun _ => HD6.out) ?_
              clear hK K
              (try simp only [Act.put]); (try simp only [List.setIfInBounds_toArray]); (try simp only [List.set_cons_zero]); (try simp only [List.set_cons_succ])
              refine wpAnyT_one (L := 15) (i := 13) (by kernel_rfl) rfl (fun K hK => ?_)
              have hgr5a := HGR.out.same (w' := w5) (HDR.out.only.same (fun x hx => ⟨HGR.out.lt x hx, by have := HGR.out.ge x hx; omega⟩))
              have hgr5 := hgr5a.below (alloc_below w5 (.cells #[.string lab, .int .i64 N.k, .string N.fr, .string N.tg, .int .i64 N.ix, .slice ua N.kids.len uc] ( /- t -/ 76)))
              refine step_append_lies _ (by rfl) _ _ _ (by rfl) B ( /- t -/ 76) i0 _ 6 88 Tryd.underlying23 HI.out.1 HI.out.2.1 HI.out.2.2.1 HI.out.2.2.2 rfl (by omega) (.slice va acc.len vc) acc.len (grXs (w5.alloc (.cells #[.string lab, .int .i64 N.k, .string N.fr, .string N.tg, .int .i64 N.ix, .slice ua N.kids.len uc] ( /- t -/ 76))) (.slice va acc.len vc) acc) (by rfl) hgr5.owns
                ⟨w5.heap.size, 0, none⟩ 1 1 [.string lab, .int .i64 N.k, .string N.fr, .string N.tg, .int .i64 N.ix, .slice ua N.kids.len uc] (by rfl) (by rfl) (World.news_of_block (cs := #[.string lab, .int .i64 N.k, .string N.fr, .string N.tg, .int .i64 N.ix, .slice ua N.kids.len uc]) (t := ( /- t -/ 76)) (fr := (0, 0)) (heap_alloc_new w5 _)) (by simp [Value.oneCell'])
                (by omega) (by unfold maxLen; omega) (by omega) (by simp; omega) _ rfl ?_
              intro gg cp w6 hown6 hgrow6 hat6 hlt6
              have hfarb : ∀ b8, b8 < B → w6.heap[b8]? = w5.heap[b8]? := fun b8 hb8 => by
                rw [hgrow6.block b8 (by simp; omega) (fun e => by have := hgr5.ge b8 (hgr5.block b8 e.symm); omega), Below.heap_alloc _ _ _ (by omega)]
              have HD7 := hide (And.intro ((Same.cell (hfarb gb (by omega))).trans HD5.out.1) ((Same.cell (hfarb lb (by omega))).trans HD5.out.2))
              refine hK.out _ _ (fun _ => HD7.out) ?_
              clear hK K
              (try simp only [Act.put]); (try simp only [List.setIfInBounds_toArray]); (try simp only [List.set_cons_zero]); (try simp only [List.set_cons_succ])
              refine wpAnyT_take (L := 15) (i := 14) (v := ?vb14) rfl (by kernel_rfl) (by kernel_rfl) (by kernel_rfl) (by kernel_rfl) (fun _ _ _ h => h) HD7.out (Or.inl ⟨by rfl, ?hyb14⟩) ?restb14
              case hyb14 => ((intro w' hw'); (try dsimp only at hw'); (go_simp); (try with_reducible rfl))
              (try simp only [Act.put]); (try simp only [List.setIfInBounds_toArray]); (try simp only [List.set_cons_zero]); (try simp only [List.set_cons_succ])
              have hgx6 : Box5 w6 gb (.int .i64 2) (.string fr) (.string tz) (.int .i64 0) (.slice va acc.len vc) := HGX.out.same ((hfarb gb (by omega)).trans (HDR.out.only.block gb hgl (by omega)))
              have o4 := hgx6.cells.2.2.2.2
              have fo := hgx6.frozen
              have lgx := hgx6.lt
              refine wpAnyT_one (L := 15) (i := 15) (by kernel_rfl) rfl (fun K hK => ?_)
              go_simp
              refine hK.out _ _ (fun h => absurd rfl h) ?_
              refine wpAnyT_done (by kernel_rfl) ?_ _
              clear hK K
              have hOw : Only rb w w6 := by
                have h2 := (HST.out.only.drew.trans HDR.out.only).alloc (.cells #[.string lab, .int .i64 N.k, .string N.fr, .string N.tg, .int .i64 N.ix, .slice ua N.kids.len uc] ( /- t -/ 76))
                exact ⟨hgrow6.os.trans h2.os, hgrow6.tape.trans h2.tape, hgrow6.output.trans h2.output, Nat.le_trans h2.size hgrow6.size, fun x hx hc => (hgrow6.block x (Nat.lt_of_lt_of_le hx h2.size) (fun e => by
                  have h1 := hgr5.ge x (hgr5.block x e.symm)
                  omega)).trans (h2.block x hx hc)⟩
              have hou := HDR.out.own.same (Same.of_below (alloc_below w5 (.cells #[.string lab, .int .i64 N.k, .string N.fr, .string N.tg, .int .i64 N.ix, .slice ua N.kids.len uc] ( /- t -/ 76))) HDR.out.own.lt)
              obtain ⟨q1, q2, q3, q4⟩ := HDR.out.fit
              obtain ⟨bs', hpush, -⟩ := Gr.push hgr5 (k := N.k) (ix := N.ix) hou (fun x hx => by have h9 := HDR.out.ge x hx; simp at h9; omega) HDR.out.nd
                (fun x hx hx2 => by have h1 := HGR.out.lt x hx; have h2 := HDR.out.ge x hx2; omega) HL.out q1 q2 q3 q4 hown6 hgrow6 (by rcases hat6 with h | h; exact Or.inl h; exact Or.inr h)
              have hwf : ∀ x, x ≠ gb → (w6.setCell ⟨gb, 4, none⟩ (.slice (some ⟨gg, 0, none⟩) (acc.len + 1) cp)).heap[x]? = w6.heap[x]? := fun x hx => Below.heap_setCell _ _ _ _ hx
              have hOf : Only rb w (w6.setCell ⟨gb, 4, none⟩ (.slice (some ⟨gg, 0, none⟩) (acc.len + 1) cp)) := hOw.setCell (Or.inr (by simp; omega)) _
              have hRdf := HST.out.start.fin HRD.out hOf ((hwf rb (by omega)).trans (hfarb rb (by omega)))
              have hbox := HST.out.box.same ((hwf w.heap.size (by omega)).trans ((hfarb _ (by omega)).trans (HDR.out.only.block _ HST.out.box.lt (by omega))))
              have hslf := HSL.out.elsewhere elS_flat (w' := w6.setCell ⟨gb, 4, none⟩ (.slice (some ⟨gg, 0, none⟩) (acc.len + 1) cp)) (fun b8 o8 n8 c8 e8 => by
                injection e8 with e8
                injection e8 with e8
                injection e8 with e8
                subst e8
                exact (hwf lb (by omega)).trans ((hfarb lb (by omega)).trans (HDR.out.only.block lb hll (by omega))))
              have hmul : (acc.len + 1) * qs d = acc.len * qs d + qs d := Nat.succ_mul _ _
              have hmul2 : (acc.len + 1) * (zs d + 1) = acc.len * (zs d + 1) + (zs d + 1) := Nat.succ_mul _ _
              have hq6 := HQ5.out
              have hs6 := HSZ.out
              have hsN := HDR.out.sz
              have hwsz : B ≤ w6.heap.size := Nat.le_trans (Nat.le_trans hBs h5z) (by have h9 := hgrow6.size; simp at h9; omega)
              have HREL : Hid (RanRel w rb cv l p d gb lb B fr tz (.int .i64 ((k : Int) + 1)) (.int .i64 (i - 1)) (w6.setCell ⟨gb, 4, none⟩ (.slice (some ⟨gg, 0, none⟩) (acc.len + 1) cp))) := hide
                ⟨k + 1, i - 1, acc.app (.cons lab N.k N.fr N.tg N.ix N.kids .nil), _, bs', q', congrArg (Value.int .i64) (by omega), rfl, by rw [F.len_app]; simp only [F.len]; omega, by rw [F.len_app]; simp only [F.len]; omega, by omega,
                  ⟨HST.out.start, hOf, hRdf, hbox⟩, by rw [F.len_app]; simp only [F.len]; rw [show acc.len + (0 + 1) = acc.len + 1 from rfl]; omega, hgx6.set4 _, hslf,
                  hpush.same (fun x hx => hwf x (by have := hpush.ge x hx; omega)), by rw [F.len_app, F.sz_app]; simp only [F.len, F.sz]; rw [show acc.len + (0 + 1) = acc.len + 1 from rfl]; omega, (smF_app _ _).2 ⟨HSM.out, HQN.out.1, HQN.out.2, trivial⟩, by simpa using hwsz⟩
              clear hpush hbox hslf hRdf hOf hOw hou hown6 hgrow6 hat6 hgr5 hgr5a HDR HST HSL HSM HSZ HQ5 hq6 hs6 hsN hmul hmul2 HD5 HD6 HD7 HGR HCALL HGX hgx6 o4 fo
              go_wp2_with fail
              go_roundw
              case rel => exact HREL.out
              case measure => simp [intOf]; omega

theorem rand_all : ∀ d : Nat, d ≤ 10 → RandAt d := by
  intro d
  induction d with
  | zero =>
    intro _ w rb cv l p h hp b u hu hub hb
    exact rand_zero w rb cv l p 0 h (by have := qs_zero; omega) b u 0 (by omega) hu (by omega)
  | succ d ih =>
    intro hd w rb cv l p h hp b u hu hub hb
    have := rand_succ d (by omega) (ih (by omega)) w rb cv l p h hp b u hu hub hb
    rw [show ((d + 1 : Nat) : Int) = (d : Int) + 1 by omega]
    exact this
end Go.Proofs.YtfppglfajbmapaaDoor
