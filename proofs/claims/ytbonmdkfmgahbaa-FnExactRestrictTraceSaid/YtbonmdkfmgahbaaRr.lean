/- RestrictTrace of the program: a range over an iterator of its own. -/
import Derived.RangeFuncNested
import Derived.RangeFuncBound
import Derived.RangeFuncCalls
import Derived.RangeFuncLeaves
import Derived.RangeFuncBox
import Derived.Shelf.Abstract
import Derived.Shelf.RegionOpen
import Derived.WalkKit
import Derived.OwnWalkIn
import Derived.TacticsInMore
import Derived.LoopNIn
import Derived.LoopIn
import Derived.Maps.AppendAt
import Derived.Test.YtbonmdkfmgahbaaRz
namespace Go.Proofs.Ytbonmdkfmgahbaa.Lo.Ne
open Go.RowKit Go.Shelf
attribute [local go_sem] Oper.semAt_some

/-- What a round keeps: what lay below B, and the role's box. -/
def KpR (B Br : Nat) (W W' : World) : Prop := Below B W W' ∧ W'.heap[Br]? = W.heap[Br]?
theorem KpR.trans {B Br : Nat} {W1 W2 W3 : World} (h : KpR B Br W1 W2) (k : KpR B Br W2 W3) : KpR B Br W1 W3 := ⟨h.1.trans k.1, k.2.trans h.2⟩
theorem KpR.put {B Br : Nat} {w : World} (hB : B ≤ w.heap.size) (hr : Br < w.heap.size) (W : World) (l : Nat) (o o' : Obj) (h : w.heap.size ≤ l) (hl : W.heap[l]? = some o) (hc : o.isCells = false) (hw : o.isWalk = false) : KpR B Br W (W.putObj l o') :=
  ⟨belowK_b hB W l o o' h hl hc hw, (grownBy_putObj' W l o').block Br (by have := (Array.getElem?_eq_some_iff.1 hl).1; omega) (by simp; omega)⟩

set_option maxRecDepth 100000 in
set_option maxHeartbeats 2000000 in
/-- The iterator: for every body that keeps the role's box and what lay below. -/
theorem rs_it (F : Fence) (n : Nat) (hf : F.fn 48) (hro : F.round = none) (hn : 1 ≤ n) (l Bs Br cap : Nat) (a : Option Addr) (r : ByteArray) (T : List Act) (w : World) (hlen : T.length ≤ maxLen) (hat : AtG elA w a 0 T) (J Jx : List (Nat × Act) → World → Prop) (W : World)
    (hJ : AbidesFrom W.heap.size J)
    (hY : ∀ pre (x : Nat × Act) W1, J pre W1 → pre.length < T.length → YieldAt F (n - 1) Try.prog l #[.int .i64 (x.1 : Int), .agg #[.string x.2.r, .bool x.2.rc, .string x.2.p, .string x.2.l]] W1 fun e W' =>
      (e = .returned (.bool true) ∧ J (pre ++ [x]) W' ∧ KpR w.heap.size Br W1 W') ∨ (e = .returned (.bool false) ∧ Jx (pre ++ [x]) W'))
    (hw : Below w.heap.size w W) (hBs : W.cell? ⟨Bs, 0, none⟩ = some (.slice a T.length cap)) (hBr : Boxed W Br ( /- t -/ 9) (.string r)) (h0 : J [] W) :
    CallsIn F n Try.prog 48 #[.func (.yield l) #[] #[], .pointer (some ⟨Bs, 0, none⟩), .pointer (some ⟨Br, 0, none⟩)] W fun e W' => (∃ v, e = .returned v) ∧
      ((∃ ys : List (Nat × Act), ys.map Prod.snd = ofR r T ∧ J ys W') ∨ (∃ pre : List (Nat × Act), True ∧ Jx pre W')) := by
  unfold maxLen at hlen
  refine callsIn_of_wp Try.func48 rfl hf ?_ hro
  simp only [Try.ntmps48, List.size_toArray, List.length_cons, List.length_nil, Nat.reduceAdd, Nat.reduceSub, Array.replicate_succ, Array.replicate_zero, List.push_toArray, List.append_toArray, List.nil_append, List.cons_append]
  gi_wp2
  gi_loopw [8] (fun i wr => ∃ (p g : List Act) (xs : List (Nat × Act)), T = p ++ g ∧ i = .int .i64 (p.length : Nat) ∧ AtG elA w a p.length g ∧ xs.map Prod.snd = ofR r p ∧ J xs wr ∧ Below w.heap.size w wr ∧ Boxed wr Br ( /- t -/ 9) (.string r))
    (fun i _ => T.length - (intOf i).toNat)
  case atStart => exact ⟨[], T, [], rfl, rfl, hat, rfl, h0, hw, hBr⟩
  case round =>
    obtain ⟨p, g, xs, hT, rfl, hat2, hxs, hJs, hbw, hbr⟩ := hrel
    cases g with
    | nil =>
      have hpl : ¬ (p.length : Int) < (T.length : Int) := by rw [hT]; simp
      have hTp : T = p := by rw [hT]; simp
      gi_wp2
      go_end0
      exact ⟨⟨_, rfl⟩, .inl ⟨xs, by first | exact hxs | (rw [hTp]; exact hxs), hJs⟩⟩
    | cons x rest =>
      obtain ⟨xr, xrc, xp, xl⟩ := x
      have hlt : (p.length : Int) < (T.length : Int) := by rw [hT]; simp; omega
      obtain ⟨b, o, rfl, s1, s2, s3, c0, c1, c2, c3⟩ := AtA.head (hat2.still (Still.of_below hbw))
      have HT2 := hide (show T = (p ++ [⟨xr, xrc, xp, xl⟩]) ++ rest by rw [hT]; simp)
      have hat3 := hat2.tail
      have hrc := hbr.cell
      have hrl := hbr.lt
      have hxl : xs.length < T.length := by
        have h1 := congrArg List.length hxs
        have h2 := ofR_le r p
        have h3 := congrArg List.length hT
        simp at h1 h3
        omega
      clear hT
      have hJ' : J xs (wr.alloc (.cells #[.string xr, .bool xrc, .string xp, .string xl] ( /- t -/ 62))) := hJ xs wr _ none hJs (World.grownBy_alloc wr _ none) (fun r e => by cases e)
      have hbw' := hbw.alloc hbw.size (.cells #[.string xr, .bool xrc, .string xp, .string xl] ( /- t -/ 62))
      have hbr' := hbr.alloc (.cells #[.string xr, .bool xrc, .string xp, .string xl] ( /- t -/ 62))
      by_cases hr : xr = r
      · subst hr
        have hin : isOf xr ⟨xr, xrc, xp, xl⟩ = true := by unfold isOf; simp
        obtain ⟨fn, tmps, assign, body, hy, hR⟩ := hY xs (p.length, ⟨xr, xrc, xp, xl⟩) _ hJ' hxl
        dsimp only at hy
        gi_wp2
        refine hR.mono ?_
        rintro e W3 (⟨rfl, hJ3, hk3⟩ | ⟨rfl, hJx3⟩)
        · gi_wp2
          go_roundw
          case rel => exact ⟨p ++ [⟨xr, xrc, xp, xl⟩], rest, xs ++ [(p.length, ⟨xr, xrc, xp, xl⟩)], HT2.out, by simp, by simpa using hat3, by rw [ofR_yes hin]; simp [hxs], hJ3, hbw'.trans hk3.1, hk3.2.trans hbr'⟩
          case measure => simp [intOf]; omega
        · gi_wp2
          refine bodyPost_ret (results_none rfl _ _ _) rfl ?_
          exact ⟨⟨_, rfl⟩, .inr ⟨_, trivial, hJx3⟩⟩
      · have hin : isOf r ⟨xr, xrc, xp, xl⟩ = false := by unfold isOf; simp [hr]
        have hnb : (xr.toList == r.toList) = false := beq_eq_false_iff_ne.2 (fun h => hr (by
          rw [ByteArray.toList_eq, ByteArray.toList_eq] at h
          exact ByteArray.ext (Array.toList_inj.1 h)))
        gi_wp2
        refine ⟨fun _ h => (by cases h), ?_⟩
        gi_wp2
        go_roundw
        case rel => exact ⟨p ++ [⟨xr, xrc, xp, xl⟩], rest, xs, HT2.out, by simp, by simpa using hat3, by rw [ofR_no hin]; exact hxs, hJ', hbw', hbr'⟩
        case measure => simp [intOf]; omega

set_option maxHeartbeats 1000000 in
/-- restriction. -/
theorem rs_make (F : Fence) (n : Nat) (hf : F.fn 32) (hro : F.round = none) (a : Option Addr) (len cap : Nat) (r : ByteArray) (w : World) :
    CallsIn F n Try.prog 32 #[.slice a len cap, .string r] w fun e w' => e = .returned (.func (.func 48) #[] #[.pointer (some ⟨w.heap.size, 0, none⟩), .pointer (some ⟨w.heap.size + 1, 0, none⟩)]) ∧
      w' = (w.alloc (.cells #[.slice a len cap] ( /- t -/ 32))).alloc (.cells #[.string r] ( /- t -/ 9)) := by
  refine callsIn_of_wp Try.func32 rfl hf ?_ hro
  simp only [Try.ntmps32, List.size_toArray, List.length_cons, List.length_nil, Nat.reduceAdd, Nat.reduceSub, Array.replicate_succ, Array.replicate_zero, List.push_toArray, List.append_toArray, List.nil_append, List.cons_append]
  gi_wp2
  go_ret
  exact ⟨rfl, rfl⟩

/-- The iterator's value stops, whatever the body. -/
theorem rs_stops (F : Fence) (n : Nat) (hf : F.fn 48) (hro : F.round = none) (hn : 1 ≤ n) (Bs Br cap : Nat) (a : Option Addr) (r : ByteArray) (T : List Act) (w W0 : World) (hlen : T.length ≤ maxLen) (hat : AtG elA w a 0 T) (hw : Below w.heap.size w W0)
    (hs : Bs < W0.heap.size) (hBs : W0.cell? ⟨Bs, 0, none⟩ = some (.slice a T.length cap)) (hBr : Boxed W0 Br ( /- t -/ 9) (.string r)) :
    SeqStopsK F n Try.prog 48 #[.pointer (some ⟨Bs, 0, none⟩), .pointer (some ⟨Br, 0, none⟩)] (fun x : Nat × Act => #[Value.int .i64 (x.1 : Int), .agg #[.string x.2.r, .bool x.2.rc, .string x.2.p, .string x.2.l]]) (KpR w.heap.size Br)
      (fun ys => ys.map Prod.snd = ofR r T) (fun _ => True) T.length W0 := fun l J Jx W hW hJ _ hY h0 =>
  rs_it F n hf hro hn l Bs Br cap a r T w hlen hat J Jx W hJ hY (hw.trans (hW.mono hw.size)) ((hW.cell (p := ⟨Bs, 0, none⟩) hs).trans hBs) ((hW.block Br hBr.lt).trans hBr) h0

end Go.Proofs.Ytbonmdkfmgahbaa.Lo.Ne
