/- The scope of linkNode: Clip, inside, below. -/
import Derived.Test.YtfppglfajbmapaaDoorLLk
import Derived.Test.YtfppglfajbmapaaDoorRows
import Derived.WalkKit
import Derived.WalkSpells
import Derived.WalkLawsBesides
import Derived.StillTactics
import Derived.OwnWalk
import Derived.Laws.Pointers
import Derived.Deep.RegionHeld3
import Derived.Deep.AppendLies
import Derived.Deep.RegionLawGrows
namespace Go.Proofs.YtfppglfajbmapaaDoor.Lo
open Go.RowKit

theorem clip_calls (w : World) (a : Option Addr) (n cap : Nat) (hn : n ≤ cap) :
    Calls Tryd.prog 155 #[.slice a n cap] w fun e w' => e = .returned (.slice a n n) ∧ w' = w := by
  go_enter Tryd.func155, Tryd.ntmps155
  go_wp2_with fail
  go_ret
  exact ⟨rfl, rfl⟩

theorem Tryd.info194 : (Tryd.prog.info? ( /- t -/ 194)).map (fun i => (i.zero, i.size, i.bytes)) = some (some (.pointer none), 1, 8) := by kernel_rfl

/-- What inside gives. -/
def InsPost (w : World) (depth ung : Int) (ps : List Nat) (n : Nat) (e : Ending) (w' : World) : Prop :=
  ∃ v' cap, e = .returned (.agg #[.int .i64 depth, .slice (some v') n cap, .int .i64 ung]) ∧ Pt w' (.slice (some v') n cap) ps ∧ Below w.heap.size w w'

theorem grown_below {w w' : World} (h : w.grownBy w' none) : Below w.heap.size w w' := ⟨h.os, h.tape, h.output, h.size, fun k hk => h.block k hk (by simp)⟩

set_option maxHeartbeats 3200000 in
set_option maxRecDepth 100000 in
theorem ins_calls (w : World) (depth ung : Int) (lv : Value) (ps : List Nat) (l : Nat) (hp : Ps w lv ps) (hd0 : 0 ≤ depth) (hd : depth ≤ 41) (hu0 : 0 ≤ ung) (hu : ung ≤ 41) (hlen : ps.length ≤ 41) :
    Calls Tryd.prog 110 #[.agg #[.int .i64 depth, lv, .int .i64 ung], .pointer (some ⟨l, 0, none⟩)] w (InsPost w (depth + 1) (ung + 1) (ps ++ [l]) (ps.length + 1)) := by
  obtain ⟨i0, hi, hz0, hz1, hz2⟩ := info_parts Tryd.info194
  obtain ⟨a, cap, rfl, hcap, hmax⟩ := hp.val
  have hnone : a = none → ps.length = 0 ∧ ps.length = 0 := by
    rintro rfl
    rcases hp with ⟨rfl, -⟩ | ⟨b, c, -, e, -⟩
    · exact ⟨rfl, rfl⟩
    · injection e with e; cases e
  have holds : ∀ W : World, Below w.heap.size w W → ∀ b, a = some b → ∀ j u, (ps.map fun l => Value.pointer (some ⟨l, 0, none⟩))[j]? = some u → W.cell? (b.add j) = some u := by
    rintro W hW b rfl j u hu
    rcases hp with ⟨-, e⟩ | ⟨b', c, -, e, -, -, h5⟩
    · injection e with e; cases e
    · injection e with e
      injection e with e
      subst e
      rw [List.getElem?_map] at hu
      cases hl : ps[j]? with
      | none => rw [hl] at hu; cases hu
      | some x =>
        rw [hl] at hu
        have hu2 : Value.pointer (some ⟨x, 0, none⟩) = u := by simpa using hu
        subst hu2
        have := (Still.of_below hW) _ _ (h5 j x hl)
        unfold Addr.add
        split
        · rename_i hj0; subst hj0; simpa using this
        · simpa using this
  have HN := hide hnone
  have HO := hide holds
  clear hp hnone holds
  go_enter Tryd.func110, Tryd.ntmps110
  go_wp2_with fail
  have hB0 : Below w.heap.size w ((w.alloc (.cells #[.int .i64 depth, .slice a ps.length cap, .int .i64 ung] ( /- t -/ 105))).alloc (.cells #[.int .i64 0, .slice none 0 0, .int .i64 0] ( /- t -/ 105))) := (alloc_below _ _).alloc (by simp) _
  have hS0 : Blk ((w.alloc (.cells #[.int .i64 depth, .slice a ps.length cap, .int .i64 ung] ( /- t -/ 105))).alloc (.cells #[.int .i64 0, .slice none 0 0, .int .i64 0] ( /- t -/ 105))) w.heap.size #[.int .i64 depth, .slice a ps.length cap, .int .i64 ung] :=
    (Blk.now _ _ _).below (alloc_below _ _)
  have hR0 : Blk ((w.alloc (.cells #[.int .i64 depth, .slice a ps.length cap, .int .i64 ung] ( /- t -/ 105))).alloc (.cells #[.int .i64 0, .slice none 0 0, .int .i64 0] ( /- t -/ 105))) (w.heap.size + 1) #[.int .i64 0, .slice none 0 0, .int .i64 0] := by
    have := Blk.now (w.alloc (.cells #[.int .i64 depth, .slice a ps.length cap, .int .i64 ung] ( /- t -/ 105))) #[.int .i64 0, .slice none 0 0, .int .i64 0] ( /- t -/ 105)
    simpa using this
  have hZ0 : ((w.alloc (.cells #[.int .i64 depth, .slice a ps.length cap, .int .i64 ung] ( /- t -/ 105))).alloc (.cells #[.int .i64 0, .slice none 0 0, .int .i64 0] ( /- t -/ 105))).heap.size = w.heap.size + 2 := by simp
  generalize ((w.alloc (.cells #[.int .i64 depth, .slice a ps.length cap, .int .i64 ung] ( /- t -/ 105))).alloc (.cells #[.int .i64 0, .slice none 0 0, .int .i64 0] ( /- t -/ 105))) = W at *
  have c0 : W.cell? ⟨w.heap.size, 0, none⟩ = some (.int .i64 depth) := hS0.cell 0
  have c1 : W.cell? ⟨w.heap.size, 1, none⟩ = some (.slice a ps.length cap) := hS0.cell 1
  have c2 : W.cell? ⟨w.heap.size, 2, none⟩ = some (.int .i64 ung) := hS0.cell 2
  have hlt : w.heap.size < W.heap.size := by omega
  have hlt1 : w.heap.size + 1 < W.heap.size := by omega
  have HB := hide hB0
  have HR := hide hR0
  clear hB0 hR0 hS0 hZ0
  go_region_held3 (fun w' => w'.cell? ⟨w.heap.size, 0, none⟩ = some (.int .i64 depth) ∧ w'.cell? ⟨w.heap.size, 1, none⟩ = some (.slice a ps.length cap) ∧ w'.cell? ⟨w.heap.size, 2, none⟩ = some (.int .i64 ung))
    (first
      | go_keep
      | (go_split_ands
         refine ⟨?_, ?_, ?_⟩
         · (rw [hgrow.cell_far _ (by simp; omega) (by simp)]; assumption)
         · (rw [hgrow.cell_far _ (by simp; omega) (by simp)]; assumption)
         · (rw [hgrow.cell_far _ (by simp; omega) (by simp)]; assumption)))
    ((first
      | (go_at_call 155; refine (clip_calls _ a ps.length cap hcap).mono ?_; rintro e w' ⟨rfl, rfl⟩)
      | (refine step_append_grows (by rfl) _ _ _ (by rfl) ( /- t -/ 194) i0 _ 1 8 Tryd.underlying103 hi hz0 hz1 hz2 rfl (by omega) a ps.length ps.length (ps.map fun l => Value.pointer (some ⟨l, 0, none⟩)) (by rfl) HN.out (by simp) (HO.out _ (HB.out.alloc (by omega) _).drew)
          ⟨W.heap.size, 0, none⟩ 1 1 [.pointer (some ⟨l, 0, none⟩)] (by rfl) (by rfl) (World.news_of_block (cs := #[.pointer (some ⟨l, 0, none⟩)]) (t := ( /- t -/ 194)) (fr := (0, 0)) (heap_alloc_new W _)) (by simp [Value.oneCell']) (by omega) (by unfold maxLen; omega) (by omega) ?_;
         intro v' w1 hown hgrow; obtain ⟨g, gc, rfl, hg1, hg2⟩ := hown.form (by omega);
         have hR1 := Blk.same HR.out ((hgrow.block (w.heap.size + 1) (by simp; omega) (by simp)).trans (Below.heap_alloc W _ _ hlt1));
         have r0 : w1.cell? ⟨w.heap.size + 1, 0, none⟩ = some (.int .i64 0) := hR1.cell 0;
         have r1 : w1.cell? ⟨w.heap.size + 1, 1, none⟩ = some (.slice none 0 0) := hR1.cell 1;
         have r2 : w1.cell? ⟨w.heap.size + 1, 2, none⟩ = some (.int .i64 0) := hR1.cell 2;
         have f0 : ∀ o, w1.frozen? ⟨w.heap.size + 1, o, none⟩ = false := hR1.frozen;
         have hl1 : w.heap.size + 1 < w1.heap.size := hR1.lt)))
  all_goals
    go_wp2_with fail
    have e1 : IntKind.i64.wrap (depth + 1) = depth + 1 := IntWalk.i64_in _ (by omega)
    have e2 : IntKind.i64.wrap (ung + 1) = ung + 1 := IntWalk.i64_in _ (by omega)
    have hlen2 : (ps ++ [l]).length = ps.length + 1 := by simp
    have hb1 : Below w.heap.size w w1 := (HB.out.alloc (by omega) (.cells #[.pointer (some ⟨l, 0, none⟩)] ( /- t -/ 194))).drew.trans ((grown_below hgrow).mono (by simp; omega))
    have hP : Pt w1 (.slice (some ⟨g, 0, none⟩) (ps ++ [l]).length gc) (ps ++ [l]) := by
      refine Pt.of_owns (by simp) (base := (W.alloc (.cells #[.pointer (some ⟨l, 0, none⟩)] ( /- t -/ 194))).drew.heap.size) ?_
      rw [hlen2, List.map_append]
      exact hown
    rw [e1, e2]
    have hR2 : Blk (((w1.setCell ⟨w.heap.size + 1, 0, none⟩ (.int .i64 (depth + 1))).setCell ⟨w.heap.size + 1, 1, none⟩ (.slice (some ⟨g, 0, none⟩) (ps.length + 1) gc)).setCell ⟨w.heap.size + 1, 2, none⟩ (.int .i64 (ung + 1))) (w.heap.size + 1)
        #[.int .i64 (depth + 1), .slice (some ⟨g, 0, none⟩) (ps.length + 1) gc, .int .i64 (ung + 1)] := ((hR1.set 0 _).set 1 _).set 2 _
    have hb2 : Below w.heap.size w (((w1.setCell ⟨w.heap.size + 1, 0, none⟩ (.int .i64 (depth + 1))).setCell ⟨w.heap.size + 1, 1, none⟩ (.slice (some ⟨g, 0, none⟩) (ps.length + 1) gc)).setCell ⟨w.heap.size + 1, 2, none⟩ (.int .i64 (ung + 1))) :=
      ((hb1.setCell (by simp) _).setCell (by simp) _).setCell (by simp) _
    have hP2 : Pt (((w1.setCell ⟨w.heap.size + 1, 0, none⟩ (.int .i64 (depth + 1))).setCell ⟨w.heap.size + 1, 1, none⟩ (.slice (some ⟨g, 0, none⟩) (ps.length + 1) gc)).setCell ⟨w.heap.size + 1, 2, none⟩ (.int .i64 (ung + 1))) (.slice (some ⟨g, 0, none⟩) (ps ++ [l]).length gc) (ps ++ [l]) := by
      rcases hP with ⟨h, -⟩ | ⟨b, c, cs, h1, h2, h3, h4, h5, h6⟩
      · simp at h
      · have hbg : b = g := by
          injection h2 with h2
          injection h2 with h2
          injection h2 with h2
          exact h2.symm
        have hne : b ≠ w.heap.size + 1 := by simp at hg1; omega
        refine Or.inr ⟨b, c, cs, h1, h2, h3, h4, ?_, h6⟩
        rw [Below.heap_setCell _ _ _ _ hne, Below.heap_setCell _ _ _ _ hne, Below.heap_setCell _ _ _ _ hne]
        exact h5
    generalize (((w1.setCell ⟨w.heap.size + 1, 0, none⟩ (.int .i64 (depth + 1))).setCell ⟨w.heap.size + 1, 1, none⟩ (.slice (some ⟨g, 0, none⟩) (ps.length + 1) gc)).setCell ⟨w.heap.size + 1, 2, none⟩ (.int .i64 (ung + 1))) = w2 at *
    have q0 : w2.cell? ⟨w.heap.size + 1, 0, none⟩ = some (.int .i64 (depth + 1)) := hR2.cell 0
    have q1 : w2.cell? ⟨w.heap.size + 1, 1, none⟩ = some (.slice (some ⟨g, 0, none⟩) (ps.length + 1) gc) := hR2.cell 1
    have q2 : w2.cell? ⟨w.heap.size + 1, 2, none⟩ = some (.int .i64 (ung + 1)) := hR2.cell 2
    rw [hlen2] at hP2
    refine bodyPost_ret (v := .agg #[.int .i64 (depth + 1), .slice (some ⟨g, 0, none⟩) (ps.length + 1) gc, .int .i64 (ung + 1)]) (by simp [results, Tryd.results110, go_sem, q0, q1, q2]) rfl ?_
    exact ⟨_, _, rfl, hP2, hb2⟩

set_option maxHeartbeats 400000 in
set_option maxRecDepth 100000 in
theorem below_calls (w : World) (depth ung : Int) (lv : Value) (ps : List Nat) (hp : Ps w lv ps) (hd0 : 0 ≤ depth) (hd : depth ≤ 41) :
    Calls Tryd.prog 112 #[.agg #[.int .i64 depth, lv, .int .i64 ung]] w fun e w' => e = .returned (.agg #[.int .i64 (depth + 1), lv, .int .i64 0]) ∧ Below w.heap.size w w' := by
  obtain ⟨a, cap, rfl, -, -⟩ := hp.val
  clear hp
  go_enter Tryd.func112, Tryd.ntmps112
  go_wp2_with fail
  refine bodyPost_ret (v := .agg #[.int .i64 (depth + 1), .slice a ps.length cap, .int .i64 0]) (by simp [results, Tryd.results112, go_sem]) rfl ?_
  refine ⟨rfl, ?_⟩
  first
    | exact (alloc_below _ _).alloc (by simp) _
    | exact ((alloc_below _ _).alloc (by simp) _).drew

end Go.Proofs.YtfppglfajbmapaaDoor.Lo
