/- RestrictTrace of the program: the caller. -/
import Derived.Test.YtbonmdkfmgahbaaRr
namespace Go.Proofs.Ytbonmdkfmgahbaa.Lo.Ne
open Go.RowKit Go.Shelf
attribute [local go_sem] Oper.semAt_some

set_option maxRecDepth 100000 in
set_option maxHeartbeats 4000000 in
theorem rt_in (F : Fence) (n : Nat) (h1f : F.fn 14) (h2f : F.fn 32) (h3f : F.fn 48) (hro : F.round = none) (hn : 3 ≤ n) (a : Option Addr) (cap : Nat) (r : ByteArray) (T : List Act) (w : World) (hlen : T.length ≤ 1048576) (hat : AtG elA w a 0 T) :
    CallsIn F n Try.prog 14 #[.slice a T.length cap, .string r] w fun e W' => ∃ v, e = .returned v ∧ W'.ownsRow w.heap.size ( /- t -/ 62) 4 v (ofR r T).length ((ofR r T).flatMap Act.cells) ∧ Below w.heap.size w W' := by
  have h1 : 1 ≤ n := by omega
  obtain ⟨i0, hi, hz0, hz1, hz2⟩ := info_parts Try.info_act
  refine callsIn_of_wp_marks Try.func14 rfl h1f ?_ hro
  simp only [Try.ntmps14, List.size_toArray, List.length_cons, List.length_nil, Nat.reduceAdd, Nat.reduceSub, Array.replicate_succ, Array.replicate_zero, List.push_toArray, List.append_toArray, List.nil_append, List.cons_append]
  gi_wp2_with (gi_at_call 32; refine (rs_make F (n - 1) h2f hro _ _ _ _ _).mono ?_; rintro e w' ⟨rfl, rfl⟩)
  have bL := ((Boxed.new w ( /- t -/ 32) (.slice none 0 0)).alloc (.cells #[.slice a T.length cap] ( /- t -/ 32))).alloc (.cells #[.string r] ( /- t -/ 9))
  have bT := (Boxed.new (w.alloc (.cells #[.slice none 0 0] ( /- t -/ 32))) ( /- t -/ 32) (.slice a T.length cap)).alloc (.cells #[.string r] ( /- t -/ 9))
  have bR := Boxed.new ((w.alloc (.cells #[.slice none 0 0] ( /- t -/ 32))).alloc (.cells #[.slice a T.length cap] ( /- t -/ 32))) ( /- t -/ 9) (.string r)
  simp only [World.size_alloc] at bT bR
  have hB0 : Below w.heap.size w (((w.alloc (.cells #[.slice none 0 0] ( /- t -/ 32))).alloc (.cells #[.slice a T.length cap] ( /- t -/ 32))).alloc (.cells #[.string r] ( /- t -/ 9))) := (((Below.refl _ w).alloc (Nat.le_refl _) _).alloc (by simp) _).alloc (by simp; omega) _
  have hsz : (((w.alloc (.cells #[.slice none 0 0] ( /- t -/ 32))).alloc (.cells #[.slice a T.length cap] ( /- t -/ 32))).alloc (.cells #[.string r] ( /- t -/ 9))).heap.size = w.heap.size + 3 := by simp
  obtain ⟨W0, hW0⟩ : ∃ W0, ((w.alloc (.cells #[.slice none 0 0] ( /- t -/ 32))).alloc (.cells #[.slice a T.length cap] ( /- t -/ 32))).alloc (.cells #[.string r] ( /- t -/ 9)) = W0 := ⟨_, rfl⟩
  rw [hW0] at bL bT bR hB0 hsz ⊢
  clear hW0
  refine wpIn_rangeFunc_ownH hro h1 (gf := 48) (lb := #[.pointer (some ⟨w.heap.size + 1, 0, none⟩), .pointer (some ⟨w.heap.size + 1 + 1, 0, none⟩)]) rfl h3f (enters_of Try.func48 (by kernel_rfl) rfl)
    (rs_stops F (n - 1) h3f hro (by omega) (w.heap.size + 1) (w.heap.size + 1 + 1) cap a r T w W0 (by unfold maxLen; omega) hat hB0 (by omega) bT.cell bR) KpR.trans (fun W l o o' h hl hc hw => KpR.put (w := W0) (by omega) (by omega) W l o o' h hl hc hw) (Below.refl _ _) (fun _ => rfl)
    (fun (pre : List (Nat × Act)) W => ((∃ v, Boxed W w.heap.size ( /- t -/ 32) v ∧ W.ownsRow w.heap.size ( /- t -/ 62) 4 v (pre.map Prod.snd).length ((pre.map Prod.snd).flatMap Act.cells) ∧ True) ∧ Boxed W (w.heap.size + 1 + 1) ( /- t -/ 9) (.string r)) ∧ Below w.heap.size w W)
    (fun _ _ _ => False)
    (OwnFrom.and (OwnFrom.and (Own.from (holdsRow_own w.heap.size w.heap.size ( /- t -/ 32) ( /- t -/ 62) 4 (fun (pre : List (Nat × Act)) => (pre.map Prod.snd).length) (fun pre => (pre.map Prod.snd).flatMap Act.cells) (fun _ _ => True)) _) (Own.from (boxed_own _ _ _) _)) (ownFrom_below (Nat.le_refl _) (by omega)))
    (fun _ _ _ _ _ hs _ _ => hs)
    ⟨⟨⟨_, bL, World.ownsRow_nil _ _ _ _, trivial⟩, bR⟩, hB0⟩
    (fun x a' W => ∃ Bx, w.heap.size + 2 < Bx ∧ W.heap[Bx]? = some (.cells #[.string x.2.r, .bool x.2.rc, .string x.2.p, .string x.2.l] ( /- t -/ 62) (0, 0)) ∧ a' = { tmps := #[.slice a T.length cap, .string r, undef, undef, .slice none 0 0, .pointer (some ⟨w.heap.size, 0, none⟩), undef, .pointer (some ⟨Bx, 0, none⟩), .slice a T.length cap, .string r, .func (.func 48) #[] #[.pointer (some ⟨w.heap.size + 1, 0, none⟩), .pointer (some ⟨w.heap.size + 1 + 1, 0, none⟩)], .int .i64 (x.1 : Int), .agg #[.string x.2.r, .bool x.2.rc, .string x.2.p, .string x.2.l], undef, undef, undef, undef, undef], defers := [] })
    (fun x a' _ X Y row hs hg hr => by
      obtain ⟨Bx, h1, h2, h3⟩ := hs
      exact ⟨Bx, h1, (hg.block Bx (Array.getElem?_eq_some_iff.1 h2).1 (fun e => by obtain ⟨-, o, ho, hc⟩ := hr Bx e.symm; rw [h2] at ho; cases ho; cases hc)).trans h2, h3⟩)
    ?assign ?body ?done ?stop
  case assign =>
    rintro l pre x W K ⟨⟨⟨v, hv, hrow, -⟩, hbr⟩, hB⟩ hK
    gi_wp2
    have hsW := hB.size
    exact hK _ _ ((KeepsOthers.alloc _ _).from _) ⟨(Below.refl _ W).alloc hB.size _, Below.heap_alloc W _ _ hbr.lt⟩ ⟨⟨⟨v, hv.alloc _, hrow.alloc _, trivial⟩, hbr.alloc _⟩, hB.alloc hB.size _⟩ ⟨W.heap.size, by have := hbr.lt; omega, World.alloc_heap_new W _, rfl⟩
  case body =>
    rintro l pre x a' W hl _ ⟨⟨⟨v, hv, hrow, -⟩, hbr⟩, hB⟩ ⟨Bx, hBx, hX, rfl⟩ hlt
    have hc := hv.cell
    have hXl := (Array.getElem?_eq_some_iff.1 hX).1
    have x0 : W.cell? ⟨Bx, 0, none⟩ = some (.string x.2.r) := by simp [World.cell?, hX]
    have x1 : W.cell? ⟨Bx, 1, none⟩ = some (.bool x.2.rc) := by simp [World.cell?, hX]
    have x2 : W.cell? ⟨Bx, 2, none⟩ = some (.string x.2.p) := by simp [World.cell?, hX]
    have x3 : W.cell? ⟨Bx, 3, none⟩ = some (.string x.2.l) := by simp [World.cell?, hX]
    have hpl : (pre.map Prod.snd).length = pre.length := by simp
    have hle : w.heap.size ≤ W.heap.size := hB.size
    have hnew := World.alloc_heap_new W (.cells #[.string x.2.r, .bool x.2.rc, .string x.2.p, .string x.2.l] ( /- t -/ 62))
    gi_wp2_with (gi_at_builtin; refine wpListIn_append_own _ rfl _ _ ( /- t -/ 32) rfl w.heap.size ( /- t -/ 62) i0 (.agg #[.string ⟨#[]⟩, .bool false, .string ⟨#[]⟩, .string ⟨#[]⟩]) 4 56 Try.underlying32 hi hz0 hz1 hz2 rfl (by decide) _ _ _ rfl (hrow.alloc _) ⟨W.heap.size, 0, none⟩ 1 1 [.string x.2.r, .bool x.2.rc, .string x.2.p, .string x.2.l] rfl rfl (World.news_of_block (cs := #[.string x.2.r, .bool x.2.rc, .string x.2.p, .string x.2.l]) (t := ( /- t -/ 62)) (fr := (0, 0)) hnew) (by simp [Value.oneCell']) (by unfold maxLen; omega) (by omega) (by simp; omega) ?_; intro v' w1 hown' hgrow _; obtain ⟨g', cap', rfl⟩ := ownsRow_succ hown'; obtain ⟨hv1, hv2, hr2, hk2, hb2⟩ := hv.appended (by decide) hrow hB.size (Nat.le_refl _) hown' hgrow; have hc1 := hv1.cell; have hf1 := hv1.frozen)
    rw [hpl] at hb2 hv2 hk2 hr2
    have hbr2 := ((hbr.alloc _).kept hgrow (hbr.not_row (by decide) hrow)).other (B' := w.heap.size) (by omega) (.slice (some ⟨g', 0, none⟩) (pre.length + 1) cap')
    refine ⟨hk2.from _, ⟨hb2, hbr2.trans hbr.symm⟩, ⟨⟨⟨_, hv2, ?_, trivial⟩, hbr2⟩, hB.trans hb2⟩⟩
    simpa [Act.cells] using hr2
  case done =>
    rintro D ys W hD hys ⟨⟨⟨v, hv, hrow, -⟩, hbr⟩, hB⟩ hK
    have hc := hv.cell
    gi_wp2
    refine ⟨by simp, .inl ⟨_, _, rfl, run_takeDeferred hK, ?_⟩⟩
    refine ⟨_, results_tmp rfl _ _ _, v, rfl, ?_, hB.trans (belowK_b (w := w) (Nat.le_refl _) W D _ _ (by omega) hK rfl rfl)⟩
    rw [← hys]
    exact ownsRow_putObj hrow _ hK rfl
  case stop =>
    rintro D c pre W _ _ h _
    exact h.elim

/-- RestrictTrace of the program. -/
theorem implRestrict (w : World) (tv : Value) (l : List Act) (r : ByteArray) (hs : SlG elA w tv l) (hl : l.length ≤ 1048576) :
    Calls Try.prog 14 #[tv, .string r] w (MadeT (ofR r l) w) := by
  have HSM := hide (SlG.small hs)
  obtain ⟨a, cap, rfl, -, hat⟩ := hs.at
  refine ((callsIn_wide (n := 3)).1 (rt_in Fence.wide 3 trivial trivial trivial rfl (Nat.le_refl _) a cap r l w hl hat)).mono ?_
  rintro e W' ⟨v, rfl, hrow, hb⟩
  obtain ⟨bs, how, hge, hnd⟩ := own_acts hrow (fun x hx => HSM.out x (List.mem_filter.1 hx).1)
  exact ⟨v, bs, rfl, how, hge, hnd, hb⟩
end Go.Proofs.Ytbonmdkfmgahbaa.Lo.Ne
