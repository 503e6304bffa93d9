/- The law on UnfoldLocal: what stands in memory, and the walk at an argument that the law passes over. -/
import Derived.Test.YtkepinjpihmjkabLKu
import Derived.Test.YtkepinjpihmjkabLSz
import Derived.Test.YtkepinjpihmjkabLEq
import Derived.Test.YtkepinjpihmjkabLHe
import Derived.StillTailTactics
namespace Go.Proofs.Ytkepinjpihmjkab.Lo
open Go.RowKit

def B4 (w : World) (b : Nat) (g : Nd) (v : Value) : Prop := Box4 w b (.int .i64 g.k) (.string g.fr) (.int .i64 g.ix) v

/-- The argument's box and a tree in a box of its own, its blocks between two numbers. -/
structure LwS (w wi : World) (g : Nd) (sv : Value) : Prop where
  hb : Below w.heap.size w wi
  hx : B4 wi w.heap.size g sv
structure LtS (wi : World) (R : Nd) (G : F) (u : Value) (lo b : Nat) (bs : List Nat) : Prop where
  hx : B4 wi b R u
  ho : Ow wi u G bs
  hl : ∀ x, x ∈ bs → lo ≤ x ∧ x < b
  hn : bs.Nodup
  hlo : lo ≤ b

theorem LwS.below {w wi wj : World} {g : Nd} {sv : Value} (h : LwS w wi g sv) (hb : Below wi.heap.size wi wj) : LwS w wj g sv := ⟨h.hb.trans (hb.mono h.hb.size), h.hx.below hb⟩
theorem LtS.below {wi wj : World} {R : Nd} {G : F} {u : Value} {lo b : Nat} {bs : List Nat} (h : LtS wi R G u lo b bs) (hb : Below wi.heap.size wi wj) : LtS wj R G u lo b bs :=
  ⟨h.hx.below hb, h.ho.same (Same.of_below hb h.ho.lt), h.hl, h.hn, h.hlo⟩
theorem LwS.wr {w wi wj : World} {g : Nd} {sv : Value} {cs : List Nat} (h : LwS w wi g sv) (hw : Wr cs wi wj) (hc : ∀ x, x ∈ cs → w.heap.size < x) : LwS w wj g sv :=
  ⟨h.hb.trans (hw.to_below (fun x hx => Nat.le_of_lt (hc x hx)) h.hb.size), Box4.same h.hx (hw.block _ (Box4.lt h.hx) (fun hm => Nat.lt_irrefl _ (hc _ hm)))⟩
theorem LtS.wr {wi wj : World} {R : Nd} {G : F} {u : Value} {lo b : Nat} {bs cs : List Nat} (h : LtS wi R G u lo b bs) (hw : Wr cs wi wj) (hc : ∀ x, x ∈ cs → x < lo ∨ b < x) : LtS wj R G u lo b bs :=
  ⟨Box4.same h.hx (hw.block _ (Box4.lt h.hx) (fun hm => by have := hc _ hm; have := h.hlo; omega)), h.ho.same (fun x hx => hw.block x (h.ho.lt x hx) (fun hm => by have := hc _ hm; have := h.hl x hx; omega)), h.hl, h.hn, h.hlo⟩
/-- A tree that was just made, put into a box. -/
theorem LtS.now {w1 : World} {R : Nd} {u : Value} {lo : Nat} {bs : List Nat} {t : TypeId} (ho : Ow w1 u R.kids bs) (hl : ∀ x, x ∈ bs → lo ≤ x) (hn : bs.Nodup) (hlo : lo ≤ w1.heap.size) :
    LtS (w1.alloc (.cells #[.int .i64 R.k, .string R.fr, .int .i64 R.ix, u] t)) R R.kids u lo w1.heap.size bs :=
  ⟨Box4.now w1 _ _ _ _ t, ho.same (Same.of_below (alloc_below w1 _) ho.lt), fun x hx => ⟨hl x hx, ho.lt x hx⟩, hn, hlo⟩
/-- The tree is marked. -/
theorem LtS.marked {wi wj : World} {R : Nd} {G G' : F} {u : Value} {lo b : Nat} {bs : List Nat} (h : LtS wi R G u lo b bs) (hw : Wr bs wi wj) (ho : Ow wj u G' bs) : LtS wj R G' u lo b bs :=
  ⟨Box4.same h.hx (hw.block _ (Box4.lt h.hx) (fun hm => by have := h.hl _ hm; omega)), ho, h.hl, h.hn, h.hlo⟩

set_option maxHeartbeats 400000 in
set_option maxRecDepth 100000 in
theorem unf_big (w : World) (g : Nd) (sv : Value) (hs : Sl w sv g.kids) (hf : Fit g) (hbig : 1048576 < g.fr.size + (g.kids.len + g.kids.wt)) :
    Calls Try.prog 3 #[.agg #[.int .i64 g.k, .string g.fr, .int .i64 g.ix, sv]] w fun e w' => e = .returned (.bool true) ∧ Below w.heap.size w w' := by
  have HS := hide hs
  have HF := hide hf
  have H3 := hide hbig
  clear hs hf hbig
  go_enter Try.func3, Try.ntmps3
  go_wp2_with fail
  refine (sz_calls g.kids _ g.k g.ix g.fr sv 1048576 (HS.out.still (Still.of_below (alloc_below _ _))) (by omega) (by omega) HF.out.1).mono ?_
  rintro e w1 ⟨rfl, hb⟩
  have hb2 := alloc_then hb
  clear hb
  have hl : left0 1048576 (g.fr.size + (g.kids.len + g.kids.wt)) = -1 := by unfold left0; rw [if_pos (by have := H3.out; omega)]
  rw [hl]
  clear hl
  go_wp2_with fail
  go_ret
  exact ⟨rfl, hb2⟩
end Go.Proofs.Ytkepinjpihmjkab.Lo
