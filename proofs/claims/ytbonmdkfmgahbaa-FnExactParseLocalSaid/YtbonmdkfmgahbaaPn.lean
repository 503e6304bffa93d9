/- l2Parse of the model: a recursion. -/
import Derived.Test.YtbonmdkfmgahbaaPm
namespace Go.Proofs.Ytbonmdkfmgahbaa.Lo.Ne
open Go.RowKit

theorem sp_fit (d : Nat) (s : List UInt8) (N : Nd) (t : List UInt8) (h : sp d s = some (N, t)) : FitN N := by
  cases d with
  | zero => cases h
  | succ d =>
    rw [sp] at h
    split at h
    · injection h with h
      injection h with h1 h2
      subst h1
      exact ⟨Nat.zero_le 1, rfl, rfl⟩
    split at h
    · injection h with h
      injection h with h1 h2
      subst h1
      have := (hdC s.tail).toNat_lt
      exact ⟨Nat.zero_le 1, rfl, WalkArith.wf_i64 (show -9223372036854775808 ≤ ((hdC s.tail).toNat : Int) - 48 ∧ ((hdC s.tail).toNat : Int) - 48 ≤ 9223372036854775807 by omega)⟩
    split at h
    · split at h
      · injection h with h
        injection h with h1 h2
        subst h1
        exact ⟨Nat.zero_le 1, rfl, rfl⟩
      · cases h
    split at h
    · split at h
      · injection h with h
        injection h with h1 h2
        subst h1
        refine ⟨Nat.le_refl 1, ?_, rfl⟩
        simp only
        split <;> rfl
      · cases h
    · cases h

set_option maxHeartbeats 1600000 in
set_option maxRecDepth 100000 in
theorem sp_at (d : Nat) (hd : d ≤ 40) (ih : SpAt d) (w : World) (T : List UInt8) (p : Nat) (hT : T.length ≤ 1048576) (hp : p < T.length) (hc : hdC (T.drop p) = 64) :
    Calls Try.prog 23 #[.string (bs T), .int .i64 (p : Nat), .int .i64 ((d + 1 : Nat) : Int)] w (SpPost T (sp (d + 1) (T.drop p)) w) := by
  have hsz : (bs T).size = T.length := bs_size T
  obtain ⟨hin, hget, hdr⟩ := head_at hp
  have hlt : (p : Int) < (T.length : Int) := by omega
  have hcb : (((bs T)[p]'hin).toNat : Int) = 64 := by rw [hget, hc]; rfl
  have h1 : ¬ ((d + 1 : Nat) : Int) < 1 := by omega
  have HR : Hid (sp (d + 1) (T.drop p) = (match sp d (T.drop (p + 1)) with | some (N, t) => some (ndRec N, t) | none => none)) := by
    unfold Hid
    rw [hdr, hc]
    rfl
  have HIH := hide (fun w => ih w T (p + 1) hT (by omega))
  have HFI := hide (sp_fit d (T.drop (p + 1)))
  clear hget hdr hc ih
  generalize sp (d + 1) (T.drop p) = r at *
  generalize sp d (T.drop (p + 1)) = r1 at *
  go_enter Try.func23, Try.ntmps23
  go_wp2_with fail
  have hx := Box4.now w (.int .i64 0) (.string ⟨#[]⟩) (.int .i64 0) (.slice none 0 0) ( /- t -/ 24)
  have hb1 := alloc_below w (.cells #[.int .i64 0, .string ⟨#[]⟩, .int .i64 0, .slice none 0 0] ( /- t -/ 24))
  have hw1 : w.heap.size < (w.alloc (.cells #[.int .i64 0, .string ⟨#[]⟩, .int .i64 0, .slice none 0 0] ( /- t -/ 24))).heap.size := by simp
  generalize w.alloc (.cells #[.int .i64 0, .string ⟨#[]⟩, .int .i64 0, .slice none 0 0] ( /- t -/ 24)) = W at *
  rw [show (p : Int) + 1 = ((p + 1 : Nat) : Int) by omega]
  first
    | rw [show ((d + 1 : Nat) : Int) - 1 = (d : Int) by omega]
    | skip
  refine (HIH.out W).mono ?_
  intro e w4 hp4
  have HX4 := hide (hx.below hp4.1)
  obtain ⟨y0, y1, y2, y3⟩ := HX4.out.cells
  have hf := box4_frozen HX4.out
  have hl := HX4.out.lt
  have HB4 := hide (hb1.trans (hp4.1.mono hb1.size))
  have hs4 := hp4.1.size
  clear hx hb1
  cases r1 with
  | none =>
    obtain ⟨k, fr, ix, a, m, cp, rfl⟩ := hp4.2.2 rfl
    have HN := hide (show r = none from HR.out)
    clear hp4 HR
    go_wp2_with fail
    refine bodyPost_ret (v := .tuple #[.agg #[.int .i64 4, .string ⟨#[]⟩, .int .i64 0, .slice (some ⟨w4.heap.size + 1, 0, none⟩) 1 1], .int .i64 (-1)]) (by simp [results, Try.results23, go_sem, *]) rfl ?_
    exact sp_not HN.out (((below_set4 HB4.out (Nat.le_refl _) _ _ _ _).alloc (by simp; omega) _).alloc (by simp; omega) _)
  | some q =>
    obtain ⟨N, t⟩ := q
    obtain ⟨q, u, bs2, hq, ht, rfl, how, hge, hnd⟩ := hp4.2.1 N t rfl
    have HN := hide (show r = some (ndRec N, t) from HR.out)
    have HOW := hide how
    have HGE := hide hge
    obtain ⟨ua, uc, rfl⟩ := how.val
    clear hp4 HR how hge
    go_wp2_with fail
    refine bodyPost_ret (v := .tuple #[.agg #[.int .i64 4, .string ⟨#[]⟩, .int .i64 0, .slice (some ⟨w4.heap.size + 1, 0, none⟩) 1 1], .int .i64 (q : Nat)]) (by simp [results, Try.results23, go_sem, *]) rfl ?_
    have HF := HFI.out N t rfl
    have hlt := HOW.out.lt
    have hos := ow_set4 (b := w.heap.size) HOW.out (fun x hx => by have := HGE.out x hx; omega) (.int .i64 4) (.string ⟨#[]⟩) (.int .i64 0) (.slice (some ⟨w4.heap.size + 1, 0, none⟩) 1 1)
    have HOS := hide (below_set4 HB4.out (Nat.le_refl _) (.int .i64 4) (.string ⟨#[]⟩) (.int .i64 0) (.slice (some ⟨w4.heap.size + 1, 0, none⟩) 1 1))
    have hss : ((((w4.setCell ⟨w.heap.size, 0, none⟩ (.int .i64 4)).setCell ⟨w.heap.size, 1, none⟩ (.string ⟨#[]⟩)).setCell ⟨w.heap.size, 2, none⟩ (.int .i64 0)).setCell ⟨w.heap.size, 3, none⟩ (.slice (some ⟨w4.heap.size + 1, 0, none⟩) 1 1)).heap.size = w4.heap.size := by simp
    generalize ((((w4.setCell ⟨w.heap.size, 0, none⟩ (.int .i64 4)).setCell ⟨w.heap.size, 1, none⟩ (.string ⟨#[]⟩)).setCell ⟨w.heap.size, 2, none⟩ (.int .i64 0)).setCell ⟨w.heap.size, 3, none⟩ (.slice (some ⟨w4.heap.size + 1, 0, none⟩) 1 1)) = S at *
    have hb : Below S.heap.size S ((S.alloc (.cells #[.int .i64 N.k, .string N.fr, .int .i64 N.ix, .slice ua N.kids.len uc] ( /- t -/ 24))).alloc (.cells #[.string ⟨#[]⟩, .int .i64 N.k, .string N.fr, .int .i64 N.ix, .slice ua N.kids.len uc] ( /- t -/ 72))) := (alloc_below S _).alloc (by simp) _
    have hnew := heap_alloc_new (S.alloc (.cells #[.int .i64 N.k, .string N.fr, .int .i64 N.ix, .slice ua N.kids.len uc] ( /- t -/ 24))) (.cells #[.string ⟨#[]⟩, .int .i64 N.k, .string N.fr, .int .i64 N.ix, .slice ua N.kids.len uc] ( /- t -/ 72))
    rw [show (S.alloc (.cells #[.int .i64 N.k, .string N.fr, .int .i64 N.ix, .slice ua N.kids.len uc] ( /- t -/ 24))).heap.size = w4.heap.size + 1 from by simp [hss]] at hnew
    have how1 := ow_one hnew (hos.same (Same.of_below hb hos.lt)) HF
    refine sp_yes (N := ndRec N) HN.out hq ht (HOS.out.trans (hb.mono (by omega))) how1 (fun x hx => ?_) ?_
    · rcases List.mem_cons.1 hx with rfl | hx
      · omega
      · have := HGE.out x hx; omega
    · exact List.nodup_cons.2 ⟨fun hm => by have := hlt _ hm; omega, hnd⟩
end Go.Proofs.Ytbonmdkfmgahbaa.Lo.Ne
