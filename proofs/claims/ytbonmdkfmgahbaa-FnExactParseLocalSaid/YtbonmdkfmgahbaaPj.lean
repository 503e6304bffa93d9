/- readLocal of the program: a recursion. -/
import Derived.Test.YtbonmdkfmgahbaaPi
namespace Go.Proofs.Ytbonmdkfmgahbaa.Lo.Ne
open Go.RowKit

def FitN (N : Nd) : Prop := N.fr.size ≤ 1 ∧ (Lit.int .i64 N.k).wf = true ∧ (Lit.int .i64 N.ix).wf = true
theorem rlet_size (c : UInt8) : (rlet c).size ≤ 1 := by
  unfold rlet
  split
  · exact Nat.le_refl 1
  · exact Nat.zero_le 1
theorem llet_size (c : UInt8) : (llet c).size ≤ 1 := by
  unfold llet
  split
  · exact Nat.le_refl 1
  · exact Nat.zero_le 1
theorem nxC_len {s : List UInt8} {d : UInt8} (h : nxC s d = true) : s.tail.length < s.length := by
  rw [nxC_cons h]
  simp
theorem rl_fit : ∀ n, (∀ s N t, rl n s = some (N, t) → FitN N ∧ t.length < s.length) ∧ (∀ sep s acc f t, rlB n sep s acc = some (f, t) → t.length < s.length) := by
  intro n
  induction n with
  | zero => exact ⟨fun s N t h => by simp [rl] at h, fun sep s acc f t h => by simp [rlB] at h⟩
  | succ n ih =>
    constructor
    · intro s N t h
      cases h46 : nxC s 46 with
      | true =>
        rw [rl_end h46] at h
        simp only [Option.some.injEq, Prod.mk.injEq] at h
        obtain ⟨rfl, rfl⟩ := h
        exact ⟨⟨Nat.zero_le 1, rfl, rfl⟩, nxC_len h46⟩
      | false =>
      cases h35 : nxC s 35 with
      | true =>
        by_cases hd : 48 ≤ (hdC s.tail).toNat ∧ (hdC s.tail).toNat ≤ 57
        · rw [rl_var h46 h35 hd] at h
          simp only [Option.some.injEq, Prod.mk.injEq] at h
          obtain ⟨rfl, rfl⟩ := h
          exact ⟨⟨Nat.zero_le 1, rfl, WalkArith.wf_i64 (show -9223372036854775808 ≤ ((hdC s.tail).toNat : Int) - 48 ∧ ((hdC s.tail).toNat : Int) - 48 ≤ 9223372036854775807 by omega)⟩, by have := nxC_len h35; have := tail_le s.tail; omega⟩
        · rw [rl_var_no h46 h35 hd] at h
          cases h
      | false =>
      cases h64 : nxC s 64 with
      | true =>
        rw [rl_rec h46 h35 h64] at h
        cases hr : rl n s.tail with
        | none => rw [hr] at h; cases h
        | some q =>
          obtain ⟨M, t'⟩ := q
          rw [hr] at h
          simp only [Option.some.injEq, Prod.mk.injEq] at h
          obtain ⟨rfl, rfl⟩ := h
          have := (ih.1 _ _ _ hr).2
          exact ⟨⟨Nat.zero_le 1, rfl, rfl⟩, by have := nxC_len h64; omega⟩
      | false =>
        by_cases hm : hdC s.tail = 33 ∨ hdC s.tail = 63
        · rw [rl_act h46 h35 h64 hm] at h
          cases hr : rlB n 123 s.tail.tail .nil with
          | none => rw [hr] at h; cases h
          | some q =>
            obtain ⟨f, t'⟩ := q
            rw [hr] at h
            simp only [Option.some.injEq, Prod.mk.injEq] at h
            obtain ⟨rfl, rfl⟩ := h
            have h1 := ih.2 _ _ _ _ _ hr
            have h2 := tail_le s
            have h3 := tail_le s.tail
            exact ⟨⟨rlet_size _, by simp only; split <;> rfl, rfl⟩, by omega⟩
        · rw [rl_act_no h46 h35 h64 hm] at h
          cases h
    · intro sep s acc f t h
      cases hsep : nxC s sep with
      | false =>
        cases h125 : nxC s 125 with
        | false => rw [rlB_no hsep h125] at h; cases h
        | true =>
          rw [rlB_end hsep h125] at h
          simp only [Option.some.injEq, Prod.mk.injEq] at h
          obtain ⟨rfl, rfl⟩ := h
          exact nxC_len h125
      | true =>
        rw [rlB_more hsep] at h
        cases hr : rl n s.tail.tail with
        | none => rw [hr] at h; cases h
        | some q =>
          obtain ⟨N, t1⟩ := q
          rw [hr] at h
          have h1 := (ih.1 _ _ _ hr).2
          have h2 := ih.2 _ _ _ _ _ h
          have h3 := tail_le s
          have h4 := tail_le s.tail
          omega

/-- One branch in a row of its own. -/
theorem ow_one {w : World} {b : Nat} {N : Nd} {u : Value} {bs : List Nat} {t : TypeId} (hw : w.heap[b]? = some (.cells #[.string ⟨#[]⟩, .int .i64 N.k, .string N.fr, .int .i64 N.ix, u] t (0, 0))) (hu : Ow w u N.kids bs) (hf : FitN N) :
    Ow w (.slice (some ⟨b, 0, none⟩) 1 1) (.cons ⟨#[]⟩ N.k N.fr N.ix N.kids .nil) (b :: bs) := by
  obtain ⟨f1, f2, f3⟩ := hf
  obtain ⟨a, cap, rfl, e1, e2, e3⟩ := hu
  have q : ∀ i, w.cell? ⟨b, i, none⟩ = (#[.string ⟨#[]⟩, .int .i64 N.k, .string N.fr, .int .i64 N.ix, .slice a N.kids.len cap] : Array Value)[i]? := fun i => by simp [World.cell?, hw]
  exact ⟨_, 1, rfl, Nat.le_refl _, by decide, Or.inr ⟨b, 5, bs, rfl, rfl, ⟨_, t, hw, rfl⟩, by simp, by decide, Nat.le_trans f1 (by decide), f2, f3, q 0, q 1, q 2, q 3, bs, [], by simp, ⟨a, cap, q 4, e1, e2, e3⟩, rfl⟩⟩

set_option maxHeartbeats 1600000 in
set_option maxRecDepth 100000 in
theorem rl_at (n : Nat) (ih : RlAt n) (w : World) (c : Nat) (s : List UInt8) (hn : s.length < n + 1) (hs : s.length ≤ 1048576) (hr : Rd w c s) (h46 : nxC s 46 = false) (h35 : nxC s 35 = false) (h64 : nxC s 64 = true) :
    Calls Try.prog 25 #[.pointer (some ⟨c, 0, none⟩)] w (RlPost (n + 1) c s w) := by
  obtain ⟨hx, hr0, ho, hne⟩ := rl_start hr ( /- t -/ 24)
  have HX := hide hx
  have HR := hide hr0
  have HO := hide ho
  have H46 := hide h46
  have H35 := hide h35
  have H64 := hide h64
  have hst : s.tail.length ≤ 1048576 := by have := tail_le s; omega
  have hst2 : s.tail.length < n := by have := nxC_len h64; omega
  clear hr hx hr0 ho h46 h35 h64
  go_enter Try.func25, Try.ntmps25
  go_wp2_with fail
  generalize w.alloc (.cells #[.int .i64 0, .string ⟨#[]⟩, .int .i64 0, .slice none 0 0] ( /- t -/ 24)) = W at *
  refine (sk46 W c s hs HR.out).mono ?_
  rintro e w1 ⟨rfl, hr1, ho1⟩
  rw [H46.out] at hr1 ⊢
  have HR1 : Hid (Rd w1 c s) := hide hr1
  have HX1 := hide (box4_only HX.out ho1 hne)
  have HO1 := hide (HO.out.trans ho1)
  clear hr1 ho1
  go_wp2_with fail
  refine (sk35 w1 c s hs HR1.out).mono ?_
  rintro e w2 ⟨rfl, hr2, ho2⟩
  rw [H35.out] at hr2 ⊢
  have HR2 : Hid (Rd w2 c s) := hide hr2
  have HX2 := hide (box4_only HX1.out ho2 hne)
  have HO2 := hide (HO1.out.trans ho2)
  clear hr2 ho2
  go_wp2_with fail
  refine (sk64 w2 c s hs HR2.out).mono ?_
  rintro e w3 ⟨rfl, hr3, ho3⟩
  rw [H64.out] at hr3 ⊢
  have HR3 : Hid (Rd w3 c s.tail) := hide hr3
  have HX3 := hide (box4_only HX2.out ho3 hne)
  have HO3 := hide (HO2.out.trans ho3)
  clear hr3 ho3
  go_wp2_with fail
  refine (ih w3 c s.tail hst2 hst HR3.out).mono ?_
  intro e w4 hp
  have hx4 := box4_only HX3.out hp.1 hne
  have HX4 := hide hx4
  have HO4 := hide (HO3.out.trans hp.1)
  obtain ⟨y0, y1, y2, y3⟩ := hx4.cells
  have hf := box4_frozen hx4
  have hl := hx4.lt
  have hz3 : w.heap.size < w3.heap.size := HX3.out.lt
  cases hq : rl n s.tail with
  | none =>
    obtain ⟨k, fr, ix, a, m, cp, rfl⟩ := hp.2.2 hq
    have HQ := hide (show rl (n + 1) s = none by rw [rl_rec H46.out H35.out H64.out, hq])
    clear hp hq hx4
    go_wp2_with fail
    refine bodyPost_ret (v := .tuple #[.agg #[.int .i64 4, .string ⟨#[]⟩, .int .i64 0, .slice (some ⟨w4.heap.size + 1, 0, none⟩) 1 1], .bool false]) (by simp [results, Try.results25, go_sem, *]) rfl ?_
    exact rl_not HQ.out (((only_set4 HO4.out _ _ _ _).alloc _).alloc _)
  | some q =>
    obtain ⟨N, t⟩ := q
    obtain ⟨u, bs, rfl, how, hge, hnd, hr4⟩ := hp.2.1 N t hq
    have HQ := hide (show rl (n + 1) s = some (ndRec N, t) by rw [rl_rec H46.out H35.out H64.out, hq])
    have HF := hide ((rl_fit n).1 _ _ _ hq).1
    have HOW := hide how
    have HGE := hide hge
    have HR4 := hide hr4
    obtain ⟨ua, uc, rfl⟩ := how.val
    clear hp hq hx4 how hge hr4
    go_wp2_with fail
    refine bodyPost_ret (v := .tuple #[.agg #[.int .i64 4, .string ⟨#[]⟩, .int .i64 0, .slice (some ⟨w4.heap.size + 1, 0, none⟩) 1 1], .bool true]) (by simp [results, Try.results25, go_sem, *]) rfl ?_
    have hlt := HOW.out.lt
    have hos := ow_set4 (b := w.heap.size) HOW.out (fun x hx => by have := HGE.out x hx; omega) (.int .i64 4) (.string ⟨#[]⟩) (.int .i64 0) (.slice (some ⟨w4.heap.size + 1, 0, none⟩) 1 1)
    have hrs := rd_set4 (b := w.heap.size) HR4.out hne (.int .i64 4) (.string ⟨#[]⟩) (.int .i64 0) (.slice (some ⟨w4.heap.size + 1, 0, none⟩) 1 1)
    have HOS := hide (only_set4 HO4.out (.int .i64 4) (.string ⟨#[]⟩) (.int .i64 0) (.slice (some ⟨w4.heap.size + 1, 0, none⟩) 1 1))
    have hss : ((((w4.setCell ⟨w.heap.size, 0, none⟩ (.int .i64 4)).setCell ⟨w.heap.size, 1, none⟩ (.string ⟨#[]⟩)).setCell ⟨w.heap.size, 2, none⟩ (.int .i64 0)).setCell ⟨w.heap.size, 3, none⟩ (.slice (some ⟨w4.heap.size + 1, 0, none⟩) 1 1)).heap.size = w4.heap.size := by simp
    generalize ((((w4.setCell ⟨w.heap.size, 0, none⟩ (.int .i64 4)).setCell ⟨w.heap.size, 1, none⟩ (.string ⟨#[]⟩)).setCell ⟨w.heap.size, 2, none⟩ (.int .i64 0)).setCell ⟨w.heap.size, 3, none⟩ (.slice (some ⟨w4.heap.size + 1, 0, none⟩) 1 1)) = S at *
    have hb : Below S.heap.size S ((S.alloc (.cells #[.int .i64 N.k, .string N.fr, .int .i64 N.ix, .slice ua N.kids.len uc] ( /- t -/ 24))).alloc (.cells #[.string ⟨#[]⟩, .int .i64 N.k, .string N.fr, .int .i64 N.ix, .slice ua N.kids.len uc] ( /- t -/ 72))) := (alloc_below S _).alloc (by simp) _
    have hnew := heap_alloc_new (S.alloc (.cells #[.int .i64 N.k, .string N.fr, .int .i64 N.ix, .slice ua N.kids.len uc] ( /- t -/ 24))) (.cells #[.string ⟨#[]⟩, .int .i64 N.k, .string N.fr, .int .i64 N.ix, .slice ua N.kids.len uc] ( /- t -/ 72))
    rw [show (S.alloc (.cells #[.int .i64 N.k, .string N.fr, .int .i64 N.ix, .slice ua N.kids.len uc] ( /- t -/ 24))).heap.size = w4.heap.size + 1 from by simp [hss]] at hnew
    have how1 := ow_one hnew (hos.same (Same.of_below hb hos.lt)) HF.out
    refine rl_yes (N := ndRec N) HQ.out (HOS.out.below hb) how1 (fun x hx => ?_) ?_ (hrs.below hb)
    · rcases List.mem_cons.1 hx with rfl | hx
      · omega
      · have := HGE.out x hx; omega
    · exact List.nodup_cons.2 ⟨fun hm => by have := hlt _ hm; omega, hnd⟩
end Go.Proofs.Ytbonmdkfmgahbaa.Lo.Ne
