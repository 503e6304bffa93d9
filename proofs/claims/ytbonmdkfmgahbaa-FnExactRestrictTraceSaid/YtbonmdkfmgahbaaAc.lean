/- Actions and traces: rows of actions, what the law reckons of them, copies, equality. -/
import Derived.Test.YtbonmdkfmgahbaaRows
import Derived.Test.YtbonmdkfmgahbaaNr
import Derived.Test.YtbonmdkfmgahbaaVal
import Derived.WalkKit
import Derived.WalkSpells
import Derived.WalkLawsBesides
import Derived.StillTailTactics
namespace Go.Proofs.Ytbonmdkfmgahbaa.Lo.Ne
open Go.RowKit

structure Act where
  r : ByteArray
  rc : Bool
  p : ByteArray
  l : ByteArray

def Act.wt (a : Act) : Nat := a.r.size + (a.p.size + a.l.size)
def wtA : List Act → Nat
  | [] => 0
  | n :: r => n.wt + wtA r
theorem wtA_app (g : List Act) : ∀ l : List Act, wtA (l ++ g) = wtA l + wtA g
  | [] => by simp [wtA]
  | n :: r => by simp only [List.cons_append, wtA, wtA_app g r]; omega

/-- An action in four cells. -/
def elA : El Act where
  st := 4
  P w b o n := n.r.size ≤ maxLen ∧ n.p.size ≤ maxLen ∧ n.l.size ≤ maxLen ∧
    w.cell? ⟨b, o, none⟩ = some (.string n.r) ∧ w.cell? ⟨b, o + 1, none⟩ = some (.bool n.rc) ∧ w.cell? ⟨b, o + 2, none⟩ = some (.string n.p) ∧ w.cell? ⟨b, o + 3, none⟩ = some (.string n.l)
  still h := fun ⟨l1, l2, l3, c0, c1, c2, c3⟩ => ⟨l1, l2, l3, h _ _ c0, h _ _ c1, h _ _ c2, h _ _ c3⟩
theorem elA_flat : elA.Flat := fun hc ⟨l1, l2, l3, c0, c1, c2, c3⟩ =>
  ⟨l1, l2, l3, (hc 0 (by decide)).trans c0, (hc 1 (by decide)).trans c1, (hc 2 (by decide)).trans c2, (hc 3 (by decide)).trans c3⟩
theorem AtA.head {w : World} {a : Option Addr} {i : Nat} {r p l : ByteArray} {rc : Bool} {rest : List Act} (h : AtG elA w a i (⟨r, rc, p, l⟩ :: rest)) :
    ∃ b o, a = some ⟨b, o, none⟩ ∧ r.size ≤ maxLen ∧ p.size ≤ maxLen ∧ l.size ≤ maxLen ∧
    w.cell? ⟨b, o + i * 4, none⟩ = some (.string r) ∧ w.cell? ⟨b, o + i * 4 + 1, none⟩ = some (.bool rc) ∧ w.cell? ⟨b, o + i * 4 + 2, none⟩ = some (.string p) ∧
    w.cell? ⟨b, o + i * 4 + 3, none⟩ = some (.string l) := h.head

/-! ### szActionS -/

/-- The number that is left, or -1. -/
def leftA (l : Int) (n : Nat) : Int := if l < n then -1 else l - n

set_option maxHeartbeats 400000 in
theorem szAct (w : World) (r p l : ByteArray) (rc : Bool) (left : Int) (hl0 : 0 ≤ left) (hl1 : left ≤ 1048576) (h1 : r.size ≤ maxLen) (h2 : p.size ≤ maxLen) (h3 : l.size ≤ maxLen) :
    Calls Try.prog 30 #[.agg #[.string r, .bool rc, .string p, .string l], .int .i64 left] w
      fun e w' => e = .returned (.int .i64 (leftA left (r.size + (p.size + l.size)))) ∧ Below w.heap.size w w' := by
  unfold maxLen at h1 h2 h3
  go_enter Try.func30, Try.ntmps30
  go_wp2_with fail
  all_goals
    go_ret
    exact ⟨ret_int (by unfold leftA; split <;> omega), alloc_below _ _⟩

set_option maxHeartbeats 800000 in
theorem szA (l : List Act) (w : World) (v : Value) (left : Int) (hs : SlG elA w v l) (hl0 : 0 ≤ left) (hl1 : left ≤ 1048576) :
    Calls Try.prog 11 #[v, .int .i64 left] w fun e w' => e = .returned (.int .i64 (leftA left (l.length + wtA l))) ∧ Below w.heap.size w w' := by
  obtain ⟨a, cap, rfl, hlen, hat⟩ := hs.at
  have HA := hide hat
  clear hs hat
  unfold maxLen at hlen
  go_enter Try.func11, Try.ntmps11
  go_wp2_with fail
  · have h1 : left - l.length < 0 := by assumption
    go_ret
    exact ⟨ret_int (by unfold leftA; rw [if_pos (by omega)]), Below.refl _ _⟩
  · have h1 : 0 ≤ left - l.length := by assumption
    go_loopw [1, 5] (fun lv iv wr => ∃ (g : List Act) (k : Nat) (m : Int), k + g.length = l.length ∧ lv = .int .i64 m ∧ iv = .int .i64 k ∧ 0 ≤ m ∧ m ≤ 1048576 ∧ leftA m (wtA g) = leftA left (l.length + wtA l) ∧ AtG elA w a k g ∧ Below w.heap.size w wr) (fun _ iv _ => l.length - (intOf iv).toNat)
    case atStart =>
      refine ⟨l, 0, left - l.length, by omega, rfl, rfl, by omega, by omega, ?_, HA.out, Below.refl _ _⟩
      unfold leftA
      split <;> split <;> omega
    case round =>
      obtain ⟨g, k, m, hk, rfl, rfl, h2, h3, h4, h6, hb⟩ := hrel
      have H4 := hide h4
      clear h4
      cases g with
      | nil =>
        have H5 : Hid (k = l.length) := by unfold Hid; simpa using hk
        have hge : l.length ≤ k := Nat.le_of_eq H5.out.symm
        clear hk
        go_wp2_with fail
        go_ret
        refine ⟨ret_int ?_, hb⟩
        have := H4.out
        simp only [wtA] at this
        rw [← this]
        unfold leftA
        rw [if_neg (by omega)]
        omega
      | cons n rest =>
        obtain ⟨r, rc, p, lb⟩ := n
        have HK : Hid (k + 1 + rest.length = l.length) := by unfold Hid; simp only [List.length_cons] at hk; omega
        have hlt : k < l.length := by have := HK.out; omega
        obtain ⟨b, o, rfl, l1, l2, l3, c0, c1, c2, c3⟩ := AtA.head (h6.still (Still.of_below hb))
        have HRE := hide h6.tail
        clear hk h6
        go_wp2_with fail
        refine (szAct wr r p lb rc m h2 h3 l1 l2 l3).mono ?_
        rintro e w1 ⟨rfl, hb1⟩
        obtain ⟨x, hx⟩ : ∃ x, x = leftA m (r.size + (p.size + lb.size)) := ⟨_, rfl⟩
        have HR := hide hx
        rw [← hx]
        clear hx
        have hb2 : Below w.heap.size w w1 := hb.trans (hb1.mono hb.size)
        go_wp2_with fail
        · go_ret
          refine ⟨ret_int ?_, hb2⟩
          have := HR.out
          have h4 := H4.out
          simp only [wtA, Act.wt] at h4
          rw [← h4]
          unfold leftA at *
          split at this <;> (try split) <;> omega
        · have h7 : 0 ≤ x := by assumption
          go_roundw
          case rel =>
            refine ⟨rest, k + 1, x, by have := HK.out; omega, rfl, by go_num, h7, ?_, ?_, HRE.out, hb2⟩
            · have := HR.out
              unfold leftA at this
              split at this <;> omega
            · have := HR.out
              have h4 := H4.out
              simp only [wtA, Act.wt] at h4
              rw [← h4]
              unfold leftA at *
              split at this <;> (try split) <;> (try split) <;> omega
          case measure => simp [intOf]; omega

/-! ### toActionS -/

set_option maxHeartbeats 400000 in
theorem toAct (w : World) (r p l : ByteArray) (rc : Bool) :
    Calls Try.prog 31 #[.agg #[.string r, .bool rc, .string p, .string l]] w
      fun e w' => e = .returned (.agg #[.string r, .bool rc, .string p, .string l]) ∧ Below w.heap.size w w' := by
  go_enter Try.func31, Try.ntmps31
  go_wp2_with fail
  refine bodyPost_ret (v := .agg #[.string r, .bool rc, .string p, .string l]) (by simp [results, Try.results31, go_sem]) rfl ⟨rfl, ?_⟩
  repeat (refine Below.setCell ?_ (by first | (simp; done) | (simp; omega)) _)
  exact ((alloc_below w _).alloc (by simp) _).alloc (by simp; omega) _

theorem Try.info62 : (Try.prog.info? ( /- t -/ 62)).map (fun i => (i.zero, i.size, i.bytes)) = some (some (.agg #[.string ⟨#[]⟩, .bool false, .string ⟨#[]⟩, .string ⟨#[]⟩]), 4, 56) := by kernel_rfl
theorem run_make_rowA {P : Program} (t e : TypeId) (i : TypeInfo) (z : Value) (ht : P.underlying t = some (.slice e)) (hi : P.info? e = some i) (hz : i.zero = some z)
    (kl kc : IntKind) (n c : Nat) (hnc : n ≤ c) (hbytes : i.bytes * c ≤ 281474976710656) (h63 : c ≤ 9223372036854775807) (w : World) :
    (Instr.makeSlice t (.int kl (n : Int)) (.int kc (c : Int))).run P w = .ok (.slice (some ⟨w.heap.size, 0, none⟩) n c) (w.alloc (.cells (madeCells z.cells (c * i.size)) e)) := by
  have hb : (i.bytes : Int) * (c : Int) ≤ 281474976710656 := by
    have h : ((i.bytes * c : Nat) : Int) ≤ 281474976710656 := by omega
    rwa [Int.natCast_mul] at h
  have hr := run_make (P := P) w t e i z ht hi hz kl kc n c (by omega) (by omega) hb (by omega)
  simp only [Int.toNat_natCast] at hr
  exact hr
def newActs (n : Nat) : Array Value := madeCells #[.string ⟨#[]⟩, .bool false, .string ⟨#[]⟩, .string ⟨#[]⟩] (n * 4)
theorem makeActs (n : Nat) (hn : n ≤ 1048576) (w : World) : (Instr.makeSlice ( /- t -/ 32) (.int .i64 (n : Int)) (.int .i64 (n : Int))).run Try.prog w = .ok (.slice (some ⟨w.heap.size, 0, none⟩) n n) (w.alloc (.cells (newActs n) ( /- t -/ 62))) := by
  obtain ⟨i0, hi, hz0, hz1, hz2⟩ := info_parts Try.info62
  have := run_make_rowA (P := Try.prog) ( /- t -/ 32) ( /- t -/ 62) i0 _ Try.underlying32 hi hz0 .i64 .i64 n n (Nat.le_refl _) (by rw [hz2]; omega) (by omega) w
  rw [hz1] at this
  exact this

/-- A slice of actions of the call's own. -/
def MadeA (l : List Act) (w : World) (e : Ending) (w' : World) : Prop :=
  ∃ u bs, e = .returned u ∧ OwG elA w' u l bs ∧ (∀ b, b ∈ bs → w.heap.size ≤ b) ∧ bs.Nodup ∧ Below w.heap.size w w'

def TaRel (w : World) (a : Option Addr) (l : List Act) (iv : Value) (wr : World) : Prop :=
  ∃ p g, l = p ++ g ∧ iv = .int .i64 (p.length : Nat) ∧ AtG elA w a p.length g ∧ Free wr w.heap.size (l.length * 4) ∧ RowG elA wr w.heap.size 0 p ∧ Below w.heap.size w wr

theorem ta_step {w wr w1 : World} {a : Option Addr} {pre rest : List Act} {r p lb : ByteArray} {rc : Bool} (h1 : r.size ≤ maxLen) (h2 : p.size ≤ maxLen) (h3 : lb.size ≤ maxLen)
    (hat : AtG elA w a pre.length (⟨r, rc, p, lb⟩ :: rest)) (hfree : Free wr w.heap.size ((pre ++ ⟨r, rc, p, lb⟩ :: rest).length * 4)) (hrow : RowG elA wr w.heap.size 0 pre) (hb : Below w.heap.size w wr) (hb1 : Below wr.heap.size wr w1) :
    TaRel w a (pre ++ ⟨r, rc, p, lb⟩ :: rest) (.int .i64 ((pre.length + 1 : Nat) : Int)) (set4 w1 w.heap.size (pre.length * 4) (.string r) (.bool rc) (.string p) (.string lb)) := by
  have hlt : w.heap.size < wr.heap.size := hfree.lt
  have hf1 : Free w1 w.heap.size ((pre ++ ⟨r, rc, p, lb⟩ :: rest).length * 4) := hfree.below hb1
  obtain ⟨s0, c0, c1, c2, c3, hfree2⟩ := set4_heap hf1 (pre.length * 4) (by rw [List.length_append]; simp only [List.length_cons]; omega) (.string r) (.bool rc) (.string p) (.string lb)
  refine ⟨pre ++ [⟨r, rc, p, lb⟩], rest, by simp, by simp, by simpa using hat.tail, hfree2, ?_, set4_below (hb.trans (hb1.mono hb.size)) _ _ (Nat.le_refl _) _ _ _ _⟩
  refine RowG.app (hrow.flat elA_flat (fun i hi => ?_)) ?_
  · have hi' : i < pre.length * 4 := hi
    rw [s0 _ (by omega)]
    exact hb1.cell (p := ⟨w.heap.size, 0 + i, none⟩) hlt
  · rw [show 0 + pre.length * elA.st = pre.length * 4 from Nat.zero_add _]
    exact ⟨⟨h1, h2, h3, c0, c1, c2, c3⟩, trivial⟩

theorem ta_end {w wr : World} {a : Option Addr} {l : List Act} {iv : Value} (h : TaRel w a l iv wr) (hlen : l.length ≤ maxLen) (hge : ∀ k : Nat, iv = .int .i64 k → l.length ≤ k) : MadeA l w (.returned (.slice (some ⟨w.heap.size, 0, none⟩) l.length l.length)) wr := by
  obtain ⟨p, g, rfl, rfl, hat, hfree, hrow, hb⟩ := h
  have hl := hge _ rfl
  rw [List.length_append] at hl
  have hg : g = [] := by cases g with | nil => rfl | cons => simp only [List.length_cons] at hl; omega
  subst hg
  rw [List.append_nil] at *
  cases p with
  | nil => exact ⟨_, [], rfl, ⟨_, _, rfl, Nat.le_refl _, hlen, Or.inl ⟨rfl, rfl⟩⟩, fun _ h => absurd h (List.not_mem_nil), List.nodup_nil, hb⟩
  | cons s rest =>
    exact ⟨_, [w.heap.size], rfl, ⟨_, _, rfl, Nat.le_refl _, hlen, Or.inr ⟨_, _, rfl, rfl, hfree, by simp, hrow⟩⟩, fun b h => by simp at h; omega, by simp, hb⟩

set_option maxHeartbeats 800000 in
/-- toActionS. -/
theorem toA (l : List Act) (w : World) (v : Value) (hs : SlG elA w v l) (hw : l.length ≤ 1048576) :
    Calls Try.prog 13 #[v] w (MadeA l w) := by
  obtain ⟨a, cap, rfl, hlen, hat⟩ := hs.at
  have HA := hide hat
  clear hs hat
  have hmk := makeActs l.length hw
  go_enter Try.func13, Try.ntmps13
  go_wp2_with fail
  clear hmk
  go_loopw [4] (fun iv wr => TaRel w a l iv wr) (fun iv _ => l.length - (intOf iv).toNat)
  case atStart => exact ⟨[], l, rfl, rfl, HA.out, ⟨newActs l.length, ( /- t -/ 62), by show (w.heap.push _)[w.heap.size]? = _; simp, by unfold newActs; exact size_madeCells _ _⟩, trivial, alloc_below _ _⟩
  case round =>
    obtain ⟨pre, g, hle, rfl, hg, hfree, hrow, hb⟩ := hrel
    have HE := hide hle
    have HO := hide hrow
    clear hle hrow
    cases g with
    | nil =>
      have hge : l.length ≤ pre.length := by rw [HE.out, List.append_nil]; exact Nat.le_refl _
      go_wp2_with fail
      go_ret
      exact ta_end ⟨pre, [], HE.out, rfl, hg, hfree, HO.out, hb⟩ hlen (fun k e => by injection e with _ e; omega)
    | cons n rest =>
      obtain ⟨r, rc, p, lb⟩ := n
      have hlt : pre.length < l.length := by rw [HE.out, List.length_append]; simp only [List.length_cons]; omega
      obtain ⟨b, o, rfl, l1, l2, l3, c0, c1, c2, c3⟩ := AtA.head (hg.still (Still.of_below hb))
      have HT := hide hg
      clear hg
      go_wp2_with fail
      refine (toAct wr r p lb rc).mono ?_
      rintro e w1 ⟨rfl, hb1⟩
      have hf1 := hfree.below hb1
      have fz : ∀ o, w1.frozen? ⟨w.heap.size, o, none⟩ = false := fun o => hf1.frozen
      obtain ⟨x0, d0⟩ := hf1.cell (o := pre.length * 4) (by omega)
      obtain ⟨x1, d1⟩ := hf1.cell (o := pre.length * 4 + 1) (by omega)
      obtain ⟨x2, d2⟩ := hf1.cell (o := pre.length * 4 + 2) (by omega)
      obtain ⟨x3, d3⟩ := hf1.cell (o := pre.length * 4 + 3) (by omega)
      go_wp2_with fail
      refine ⟨?_, by simp [intOf]; omega⟩
      rw [HE.out] at hfree ⊢
      exact ta_step l1 l2 l3 HT.out hfree HO.out hb hb1

/-! ### eqActionS -/

set_option maxHeartbeats 400000 in
theorem eqAct (w : World) (r p l : ByteArray) (rc : Bool) :
    Calls Try.prog 33 #[.agg #[.string r, .bool rc, .string p, .string l], .agg #[.string r, .bool rc, .string p, .string l]] w
      fun e w' => e = .returned (.bool true) ∧ Below w.heap.size w w' := by
  have hB := (alloc_below w (.cells #[.string r, .bool rc, .string p, .string l] ( /- t -/ 62))).alloc (by simp) (.cells #[.string r, .bool rc, .string p, .string l] ( /- t -/ 62))
  go_enter Try.func33, Try.ntmps33
  go_wp2_with fail
  go_ret
  exact ⟨rfl, hB⟩

set_option maxHeartbeats 800000 in
set_option maxRecDepth 100000 in
/-- eqActionS at two traces that read alike. -/
theorem eqA (l : List Act) (w : World) (u v : Value) (hu : SlG elA w u l) (hv : SlG elA w v l) :
    Calls Try.prog 15 #[u, v] w fun e w' => e = .returned (.bool true) ∧ Below w.heap.size w w' := by
  obtain ⟨a, cap, rfl, hlen, hat⟩ := hu.at
  obtain ⟨a', cap', rfl, _, hat'⟩ := hv.at
  have HA := hide hat
  have HA' := hide hat'
  clear hu hv hat hat'
  unfold maxLen at hlen
  go_enter Try.func15, Try.ntmps15
  go_wp2_with fail
  go_loopw [5] (fun iv wr => ∃ (g : List Act) (k : Nat), k + g.length = l.length ∧ iv = .int .i64 k ∧ AtG elA w a k g ∧ AtG elA w a' k g ∧ Below w.heap.size w wr) (fun iv _ => l.length - (intOf iv).toNat)
  case atStart => exact ⟨l, 0, by omega, rfl, HA.out, HA'.out, Below.refl _ _⟩
  case round =>
    obtain ⟨g, k, hk, rfl, h6, h7, hb⟩ := hrel
    cases g with
    | nil =>
      have H5 : Hid (k = l.length) := by unfold Hid; simpa using hk
      have hge : l.length ≤ k := Nat.le_of_eq H5.out.symm
      clear hk
      go_wp2_with fail
      go_ret
      exact ⟨rfl, hb⟩
    | cons n rest =>
      obtain ⟨r, rc, p, lb⟩ := n
      have HK : Hid (k + 1 + rest.length = l.length) := by unfold Hid; simp only [List.length_cons] at hk; omega
      have hlt : k < l.length := by have := HK.out; omega
      obtain ⟨b, o, rfl, l1, -, -, c0, c1, c2, c3⟩ := AtA.head (h6.still (Still.of_below hb))
      obtain ⟨b', o', rfl, -, -, -, d0, d1, d2, d3⟩ := AtA.head (h7.still (Still.of_below hb))
      have HRE := hide h6.tail
      have HRE' := hide h7.tail
      clear hk h6 h7
      go_wp2_with fail
      go_still_tail 8, (by kernel_rfl)
      change wpList _ _ _ _ _ wr.drew
      have hbd : Below w.heap.size w wr.drew := hb.drew
      generalize wr.drew = w2 at *
      go_wp2_with fail
      refine (eqAct w2 r p lb rc).mono ?_
      rintro e w1 ⟨rfl, hb1⟩
      have hb2 : Below w.heap.size w w1 := hbd.trans (hb1.mono hbd.size)
      go_wp2_with fail
      go_roundw
      case rel => exact ⟨rest, k + 1, by have := HK.out; omega, by go_num, HRE.out, HRE'.out, hb2⟩
      case measure => simp [intOf]; omega
end Go.Proofs.Ytbonmdkfmgahbaa.Lo.Ne
