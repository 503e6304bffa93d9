/- Packets and acknowledgments: rows of them, what the law reckons of them, copies, equality. -/
import Derived.Test.YtmkjipnemapdeaaDoorRows
import Derived.Test.YtmkjipnemapdeaaDoorRg
import Derived.WalkKit
import Derived.WalkSpells
import Derived.WalkLawsBesides
import Derived.StillTailTactics
namespace Go.Proofs.YtmkjipnemapdeaaDoor.Tk
open Go.RowKit

structure Pkt where
  q : Int
  l : ByteArray

def wtP : List Pkt → Nat
  | [] => 0
  | n :: r => n.l.size + wtP r
theorem wtP_app (g : List Pkt) : ∀ l : List Pkt, wtP (l ++ g) = wtP l + wtP g
  | [] => by simp [wtP]
  | n :: r => by simp only [List.cons_append, wtP, wtP_app g r]; omega

/-- A packet in two cells. -/
def elP : El Pkt where
  st := 2
  P w b o n := (Lit.int .i64 n.q).wf = true ∧ n.l.size ≤ maxLen ∧ w.cell? ⟨b, o, none⟩ = some (.int .i64 n.q) ∧ w.cell? ⟨b, o + 1, none⟩ = some (.string n.l)
  still h := fun ⟨l1, l2, c0, c1⟩ => ⟨l1, l2, h _ _ c0, h _ _ c1⟩
theorem elP_flat : elP.Flat := fun hc ⟨l1, l2, c0, c1⟩ => ⟨l1, l2, (hc 0 (by decide)).trans c0, (hc 1 (by decide)).trans c1⟩
theorem AtP.head {w : World} {a : Option Addr} {i : Nat} {q : Int} {l : ByteArray} {rest : List Pkt} (h : AtG elP w a i (⟨q, l⟩ :: rest)) :
    ∃ b o, a = some ⟨b, o, none⟩ ∧ (Lit.int .i64 q).wf = true ∧ l.size ≤ maxLen ∧ w.cell? ⟨b, o + i * 2, none⟩ = some (.int .i64 q) ∧ w.cell? ⟨b, o + i * 2 + 1, none⟩ = some (.string l) := h.head

/-- An acknowledgment in one cell. -/
def elI : El Int where
  st := 1
  P w b o n := (Lit.int .i64 n).wf = true ∧ w.cell? ⟨b, o, none⟩ = some (.int .i64 n)
  still h := fun ⟨a, c⟩ => ⟨a, h _ _ c⟩
theorem elI_flat : elI.Flat := fun hc ⟨a, c⟩ => ⟨a, by have := hc 0 (by decide); simpa using this.trans (by simpa using c)⟩
theorem AtI.head {w : World} {a : Option Addr} {i : Nat} {n : Int} {rest : List Int} (h : AtG elI w a i (n :: rest)) :
    ∃ b o, a = some ⟨b, o, none⟩ ∧ (Lit.int .i64 n).wf = true ∧ w.cell? ⟨b, o + i, none⟩ = some (.int .i64 n) := by
  obtain ⟨b, o, e, h1, h2⟩ := h.head
  exact ⟨b, o, e, h1, by simpa [elI] using h2⟩

/-! ### What the law reckons -/

/-- The number that is left, or -1. -/
def leftK (l : Int) (n : Nat) : Int := if l < n then -1 else l - n

set_option maxHeartbeats 400000 in
theorem szP (w : World) (q : Int) (l : ByteArray) (left : Int) (hl0 : 0 ≤ left) (hl1 : left ≤ 1048576) (h1 : l.size ≤ maxLen) :
    Calls Tryd.prog 41 #[.agg #[.int .i64 q, .string l], .int .i64 left] w
      fun e w' => e = .returned (.int .i64 (leftK left l.size)) ∧ Below w.heap.size w w' := by
  unfold maxLen at h1
  go_enter Tryd.func41, Tryd.ntmps41
  go_wp2_with fail
  all_goals
    go_ret
    exact ⟨ret_int (by unfold leftK; split <;> omega), alloc_below _ _⟩

set_option maxHeartbeats 800000 in
theorem szPs (l : List Pkt) (w : World) (v : Value) (left : Int) (hs : SlG elP w v l) (hl0 : 0 ≤ left) (hl1 : left ≤ 1048576) :
    Calls Tryd.prog 19 #[v, .int .i64 left] w fun e w' => e = .returned (.int .i64 (leftK left (l.length + wtP l))) ∧ Below w.heap.size w w' := by
  obtain ⟨a, cap, rfl, hlen, hat⟩ := hs.at
  have HA := hide hat
  clear hs hat
  unfold maxLen at hlen
  go_enter Tryd.func19, Tryd.ntmps19
  go_wp2_with fail
  · have h1 : left - l.length < 0 := by assumption
    go_ret
    exact ⟨ret_int (by unfold leftK; rw [if_pos (by omega)]), Below.refl _ _⟩
  · have h1 : 0 ≤ left - l.length := by assumption
    go_loopw [1, 5] (fun lv iv wr => ∃ (g : List Pkt) (k : Nat) (m : Int), k + g.length = l.length ∧ lv = .int .i64 m ∧ iv = .int .i64 k ∧ 0 ≤ m ∧ m ≤ 1048576 ∧ leftK m (wtP g) = leftK left (l.length + wtP l) ∧ AtG elP w a k g ∧ Below w.heap.size w wr) (fun _ iv _ => l.length - (intOf iv).toNat)
    case atStart =>
      refine ⟨l, 0, left - l.length, by omega, rfl, rfl, by omega, by omega, ?_, HA.out, Below.refl _ _⟩
      unfold leftK
      split <;> split <;> omega
    case round =>
      obtain ⟨g, k, m, hk, rfl, rfl, h2, h3, h4, h6, hb⟩ := hrel
      have H4 := hide h4
      clear h4
      cases g with
      | nil =>
        have H5 : Hid (k = l.length) := by unfold Hid; simpa using hk
        have hge : l.length ≤ k := Nat.le_of_eq H5.out.symm
        clear hk
        go_wp2_with fail
        go_ret
        refine ⟨ret_int ?_, hb⟩
        have := H4.out
        simp only [wtP] at this
        rw [← this]
        unfold leftK
        rw [if_neg (by omega)]
        omega
      | cons n rest =>
        obtain ⟨q, lb⟩ := n
        have HK : Hid (k + 1 + rest.length = l.length) := by unfold Hid; simp only [List.length_cons] at hk; omega
        have hlt : k < l.length := by have := HK.out; omega
        obtain ⟨b, o, rfl, l1, l2, c0, c1⟩ := AtP.head (h6.still (Still.of_below hb))
        have HRE := hide h6.tail
        clear hk h6
        go_wp2_with fail
        refine (szP wr q lb m h2 h3 l2).mono ?_
        rintro e w1 ⟨rfl, hb1⟩
        obtain ⟨x, hx⟩ : ∃ x, x = leftK m lb.size := ⟨_, rfl⟩
        have HR := hide hx
        rw [← hx]
        clear hx
        have hb2 : Below w.heap.size w w1 := hb.trans (hb1.mono hb.size)
        go_wp2_with fail
        · go_ret
          refine ⟨ret_int ?_, hb2⟩
          have := HR.out
          have h4 := H4.out
          simp only [wtP] at h4
          rw [← h4]
          unfold leftK at *
          split at this <;> (try split) <;> omega
        · have h7 : 0 ≤ x := by assumption
          go_roundw
          case rel =>
            refine ⟨rest, k + 1, x, by have := HK.out; omega, rfl, by go_num, h7, ?_, ?_, HRE.out, hb2⟩
            · have := HR.out
              unfold leftK at this
              split at this <;> omega
            · have := HR.out
              have h4 := H4.out
              simp only [wtP] at h4
              rw [← h4]
              unfold leftK at *
              split at this <;> (try split) <;> (try split) <;> omega
          case measure => simp [intOf]; omega

set_option maxHeartbeats 400000 in
theorem szIs (l : List Int) (w : World) (v : Value) (left : Int) (hs : SlG elI w v l) (hl0 : 0 ≤ left) (hl1 : left ≤ 1048576) :
    Calls Tryd.prog 20 #[v, .int .i64 left] w fun e w' => e = .returned (.int .i64 (leftK left l.length)) ∧ w' = w := by
  obtain ⟨a, cap, rfl, hlen, -⟩ := hs.at
  clear hs
  unfold maxLen at hlen
  go_enter Tryd.func20, Tryd.ntmps20
  go_wp2_with fail
  all_goals
    go_ret
    exact ⟨ret_int (by unfold leftK; split <;> omega), rfl⟩

/-! ### Copies -/

set_option maxHeartbeats 400000 in
theorem toP (w : World) (q : Int) (l : ByteArray) :
    Calls Tryd.prog 43 #[.agg #[.int .i64 q, .string l]] w
      fun e w' => e = .returned (.agg #[.int .i64 q, .string l]) ∧ Below w.heap.size w w' := by
  go_enter Tryd.func43, Tryd.ntmps43
  go_wp2_with fail
  refine bodyPost_ret (v := .agg #[.int .i64 q, .string l]) (by simp [results, Tryd.results43, go_sem]) rfl ⟨rfl, ?_⟩
  repeat (refine Below.setCell ?_ (by first | (simp; done) | (simp; omega)) _)
  exact ((alloc_below w _).alloc (by simp) _).alloc (by simp; omega) _

theorem run_make_rowP {P : Program} (t e : TypeId) (i : TypeInfo) (z : Value) (ht : P.underlying t = some (.slice e)) (hi : P.info? e = some i) (hz : i.zero = some z)
    (kl kc : IntKind) (n c : Nat) (hnc : n ≤ c) (hbytes : i.bytes * c ≤ 281474976710656) (h63 : c ≤ 9223372036854775807) (w : World) :
    (Instr.makeSlice t (.int kl (n : Int)) (.int kc (c : Int))).run P w = .ok (.slice (some ⟨w.heap.size, 0, none⟩) n c) (w.alloc (.cells (madeCells z.cells (c * i.size)) e)) := by
  have hb : (i.bytes : Int) * (c : Int) ≤ 281474976710656 := by
    have h : ((i.bytes * c : Nat) : Int) ≤ 281474976710656 := by omega
    rwa [Int.natCast_mul] at h
  have hr := run_make (P := P) w t e i z ht hi hz kl kc n c (by omega) (by omega) hb (by omega)
  simp only [Int.toNat_natCast] at hr
  exact hr
theorem Tryd.infoP : (Tryd.prog.info? ( /- t -/ 68)).map (fun i => (i.zero, i.size, i.bytes)) = some (some (.agg #[.int .i64 0, .string ⟨#[]⟩]), 2, 24) := by kernel_rfl
def newPs (n : Nat) : Array Value := madeCells #[.int .i64 0, .string ⟨#[]⟩] (n * 2)
theorem makePs (n : Nat) (hn : n ≤ 1048576) (w : World) : (Instr.makeSlice ( /- t -/ 28) (.int .i64 (n : Int)) (.int .i64 (n : Int))).run Tryd.prog w = .ok (.slice (some ⟨w.heap.size, 0, none⟩) n n) (w.alloc (.cells (newPs n) ( /- t -/ 68))) := by
  obtain ⟨i0, hi, hz0, hz1, hz2⟩ := info_parts Tryd.infoP
  have := run_make_rowP (P := Tryd.prog) ( /- t -/ 28) ( /- t -/ 68) i0 _ Tryd.underlying28 hi hz0 .i64 .i64 n n (Nat.le_refl _) (by rw [hz2]; omega) (by omega) w
  rw [hz1] at this
  exact this
theorem Tryd.infoI : (Tryd.prog.info? ( /- t -/ 3)).map (fun i => (i.zero, i.size, i.bytes)) = some (some (.int .i64 0), 1, 8) := by kernel_rfl
def newIs (n : Nat) : Array Value := madeCells #[.int .i64 0] (n * 1)
theorem makeIs (n : Nat) (hn : n ≤ 1048576) (w : World) : (Instr.makeSlice ( /- t -/ 23) (.int .i64 (n : Int)) (.int .i64 (n : Int))).run Tryd.prog w = .ok (.slice (some ⟨w.heap.size, 0, none⟩) n n) (w.alloc (.cells (newIs n) ( /- t -/ 3))) := by
  obtain ⟨i0, hi, hz0, hz1, hz2⟩ := info_parts Tryd.infoI
  have := run_make_rowP (P := Tryd.prog) ( /- t -/ 23) ( /- t -/ 3) i0 _ Tryd.underlying23 hi hz0 .i64 .i64 n n (Nat.le_refl _) (by rw [hz2]; omega) (by omega) w
  rw [hz1] at this
  exact this

/-- Two cells in a row. -/
def set2 (w : World) (b o : Nat) (v0 v1 : Value) : World := (w.setCell ⟨b, o, none⟩ v0).setCell ⟨b, o + 1, none⟩ v1
theorem set2_below {B : Nat} {a w : World} (h : Below B a w) (b o : Nat) (hb : B ≤ b) (v0 v1 : Value) : Below B a (set2 w b o v0 v1) := (h.setCell hb v0).setCell hb v1
theorem set2_heap {w : World} {b n : Nat} (h : Free w b n) (o : Nat) (ho : o + 2 ≤ n) (v0 v1 : Value) :
    (∀ off, off < o ∨ o + 2 ≤ off → (set2 w b o v0 v1).cell? ⟨b, off, none⟩ = w.cell? ⟨b, off, none⟩) ∧
    (set2 w b o v0 v1).cell? ⟨b, o, none⟩ = some v0 ∧ (set2 w b o v0 v1).cell? ⟨b, o + 1, none⟩ = some v1 ∧ Free (set2 w b o v0 v1) b n := by
  obtain ⟨cs, t, hh, hn⟩ := h
  have key : (set2 w b o v0 v1).heap[b]? = some (.cells ((cs.setIfInBounds o v0).setIfInBounds (o + 1) v1) t (0, 0)) := heap_setCell_same (heap_setCell_same hh _) _
  refine ⟨fun off hoff => ?_, ?_, ?_, _, t, key, by simp [hn]⟩
  · rw [cell_of_heap key, cell_of_heap hh]
    simp only [Array.getElem?_setIfInBounds]
    repeat rw [if_neg (by omega)]
  all_goals
    rw [cell_of_heap key]
    simp [Array.getElem?_setIfInBounds]
    omega

/-- A slice of the call's own. -/
def MadeG {α : Type} (E : El α) (l : List α) (w : World) (e : Ending) (w' : World) : Prop :=
  ∃ u bs, e = .returned u ∧ OwG E w' u l bs ∧ (∀ b, b ∈ bs → w.heap.size ≤ b) ∧ bs.Nodup ∧ Below w.heap.size w w'

def TpRel (w : World) (a : Option Addr) (l : List Pkt) (iv : Value) (wr : World) : Prop :=
  ∃ p g, l = p ++ g ∧ iv = .int .i64 (p.length : Nat) ∧ AtG elP w a p.length g ∧ Free wr w.heap.size (l.length * 2) ∧ RowG elP wr w.heap.size 0 p ∧ Below w.heap.size w wr

theorem tp_step {w wr w1 : World} {a : Option Addr} {pre rest : List Pkt} {q : Int} {lb : ByteArray} (h1 : (Lit.int .i64 q).wf = true) (h2 : lb.size ≤ maxLen)
    (hat : AtG elP w a pre.length (⟨q, lb⟩ :: rest)) (hfree : Free wr w.heap.size ((pre ++ ⟨q, lb⟩ :: rest).length * 2)) (hrow : RowG elP wr w.heap.size 0 pre) (hb : Below w.heap.size w wr) (hb1 : Below wr.heap.size wr w1) :
    TpRel w a (pre ++ ⟨q, lb⟩ :: rest) (.int .i64 ((pre.length + 1 : Nat) : Int)) (set2 w1 w.heap.size (pre.length * 2) (.int .i64 q) (.string lb)) := by
  have hlt : w.heap.size < wr.heap.size := hfree.lt
  have hf1 : Free w1 w.heap.size ((pre ++ ⟨q, lb⟩ :: rest).length * 2) := hfree.below hb1
  obtain ⟨s0, c0, c1, hfree2⟩ := set2_heap hf1 (pre.length * 2) (by rw [List.length_append]; simp only [List.length_cons]; omega) (.int .i64 q) (.string lb)
  refine ⟨pre ++ [⟨q, lb⟩], rest, by simp, by simp, by simpa using hat.tail, hfree2, ?_, set2_below (hb.trans (hb1.mono hb.size)) _ _ (Nat.le_refl _) _ _⟩
  refine RowG.app (hrow.flat elP_flat (fun i hi => ?_)) ?_
  · have hi' : i < pre.length * 2 := hi
    rw [s0 _ (by omega)]
    exact hb1.cell (p := ⟨w.heap.size, 0 + i, none⟩) hlt
  · rw [show 0 + pre.length * elP.st = pre.length * 2 from Nat.zero_add _]
    exact ⟨⟨h1, h2, c0, c1⟩, trivial⟩

/-- The end of a copy: all of the list lies in the new block. -/
theorem made_end {α : Type} {E : El α} {w wr : World} {l : List α} {n : Nat} (hlen : l.length ≤ maxLen) (hfree : Free wr w.heap.size n) (hrow : RowG E wr w.heap.size 0 l) (hb : Below w.heap.size w wr) :
    MadeG E l w (.returned (.slice (some ⟨w.heap.size, 0, none⟩) l.length l.length)) wr := by
  cases l with
  | nil => exact ⟨_, [], rfl, ⟨_, _, rfl, Nat.le_refl _, hlen, Or.inl ⟨rfl, rfl⟩⟩, fun _ h => absurd h (List.not_mem_nil), List.nodup_nil, hb⟩
  | cons s rest =>
    exact ⟨_, [w.heap.size], rfl, ⟨_, _, rfl, Nat.le_refl _, hlen, Or.inr ⟨_, _, rfl, rfl, hfree, by simp, hrow⟩⟩, fun b h => by simp at h; omega, by simp, hb⟩

set_option maxHeartbeats 800000 in
/-- toPacketS. -/
theorem toPs (l : List Pkt) (w : World) (v : Value) (hs : SlG elP w v l) (hw : l.length ≤ 1048576) :
    Calls Tryd.prog 24 #[v] w (MadeG elP l w) := by
  obtain ⟨a, cap, rfl, hlen, hat⟩ := hs.at
  have HA := hide hat
  clear hs hat
  have hmk := makePs l.length hw
  go_enter Tryd.func24, Tryd.ntmps24
  go_wp2_with fail
  clear hmk
  go_loopw [4] (fun iv wr => TpRel w a l iv wr) (fun iv _ => l.length - (intOf iv).toNat)
  case atStart => exact ⟨[], l, rfl, rfl, HA.out, ⟨newPs l.length, ( /- t -/ 68), by show (w.heap.push _)[w.heap.size]? = _; simp, by unfold newPs; exact size_madeCells _ _⟩, trivial, alloc_below _ _⟩
  case round =>
    obtain ⟨pre, g, hle, rfl, hg, hfree, hrow, hb⟩ := hrel
    have HE := hide hle
    have HO := hide hrow
    clear hle hrow
    cases g with
    | nil =>
      have hge : l.length ≤ pre.length := by rw [HE.out, List.append_nil]; exact Nat.le_refl _
      go_wp2_with fail
      go_ret
      have := HE.out
      rw [List.append_nil] at this
      subst this
      exact made_end hlen hfree HO.out hb
    | cons n rest =>
      obtain ⟨q, lb⟩ := n
      have hlt : pre.length < l.length := by rw [HE.out, List.length_append]; simp only [List.length_cons]; omega
      obtain ⟨b, o, rfl, l1, l2, c0, c1⟩ := AtP.head (hg.still (Still.of_below hb))
      have HT := hide hg
      clear hg
      go_wp2_with fail
      refine (toP wr q lb).mono ?_
      rintro e w1 ⟨rfl, hb1⟩
      have hf1 := hfree.below hb1
      have fz : ∀ o, w1.frozen? ⟨w.heap.size, o, none⟩ = false := fun o => hf1.frozen
      obtain ⟨x0, d0⟩ := hf1.cell (o := pre.length * 2) (by omega)
      obtain ⟨x1, d1⟩ := hf1.cell (o := pre.length * 2 + 1) (by omega)
      go_wp2_with fail
      refine ⟨?_, by simp [intOf]; omega⟩
      rw [HE.out] at hfree ⊢
      exact tp_step l1 l2 HT.out hfree HO.out hb hb1

/-- What holds at each round's head: the numbers up to the place are copied. -/
def TiRel (w : World) (a : Option Addr) (l : List Int) (iv : Value) (wr : World) : Prop :=
  ∃ p g, l = p ++ g ∧ iv = .int .i64 (p.length : Nat) ∧ AtG elI w a p.length g ∧ Free wr w.heap.size l.length ∧ RowG elI wr w.heap.size 0 p ∧ Below w.heap.size w wr

theorem ti_step {w wr : World} {a : Option Addr} {p rest : List Int} {s : Int} (hs : (Lit.int .i64 s).wf = true)
    (hat : AtG elI w a p.length (s :: rest)) (hfree : Free wr w.heap.size (p ++ s :: rest).length) (hrow : RowG elI wr w.heap.size 0 p) (hb : Below w.heap.size w wr) :
    TiRel w a (p ++ s :: rest) (.int .i64 ((p.length + 1 : Nat) : Int)) (wr.setCell ⟨w.heap.size, p.length, none⟩ (.int .i64 s)) := by
  refine ⟨p ++ [s], rest, by simp, by simp, by simpa using hat.tail, hfree.setCell _ _, ?_, hb.setCell (Nat.le_refl _) _⟩
  obtain ⟨cs, t, hh, hn⟩ := hfree
  have key : (wr.setCell ⟨w.heap.size, p.length, none⟩ (.int .i64 s)).heap[w.heap.size]? = some (.cells (cs.setIfInBounds p.length (.int .i64 s)) t (0, 0)) := heap_setCell_same hh _
  refine RowG.app (hrow.flat elI_flat (fun i hi => ?_)) ⟨⟨hs, ?_⟩, trivial⟩
  · have hi' : i < p.length := by simpa [elI] using hi
    rw [cell_of_heap key, cell_of_heap hh, Array.getElem?_setIfInBounds, if_neg (by omega)]
  · have : p.length < cs.size := by rw [hn]; simp
    rw [cell_of_heap key, Array.getElem?_setIfInBounds]
    simp [elI, this]

set_option maxHeartbeats 800000 in
/-- toIntS. -/
theorem toIs (l : List Int) (w : World) (v : Value) (hs : SlG elI w v l) (hw : l.length ≤ 1048576) :
    Calls Tryd.prog 25 #[v] w (MadeG elI l w) := by
  obtain ⟨a, cap, rfl, hlen, hat⟩ := hs.at
  have HA := hide hat
  clear hs hat
  have hmk := makeIs l.length hw
  go_enter Tryd.func25, Tryd.ntmps25
  go_wp2_with fail
  clear hmk
  go_loopw [4] (fun iv wr => TiRel w a l iv wr) (fun iv _ => l.length - (intOf iv).toNat)
  case atStart => exact ⟨[], l, rfl, rfl, HA.out, ⟨newIs l.length, ( /- t -/ 3), by show (w.heap.push _)[w.heap.size]? = _; simp, by unfold newIs; simpa using size_madeCells _ _⟩, trivial, alloc_below _ _⟩
  case round =>
    obtain ⟨p, g, hle, rfl, hg, hfree, hrow, hb⟩ := hrel
    have HE := hide hle
    have HR := hide hrow
    clear hle hrow
    cases g with
    | nil =>
      have hge : l.length ≤ p.length := by rw [HE.out, List.append_nil]; exact Nat.le_refl _
      go_wp2_with fail
      go_ret
      have := HE.out
      rw [List.append_nil] at this
      subst this
      exact made_end hlen hfree HR.out hb
    | cons s rest =>
      have hlt : p.length < l.length := by rw [HE.out, List.length_append]; simp only [List.length_cons]; omega
      obtain ⟨b, o, rfl, l1, c0⟩ := AtI.head (hg.still (Still.of_below hb))
      have HT := hide hg
      have fz : ∀ o, wr.frozen? ⟨w.heap.size, o, none⟩ = false := fun o => hfree.frozen
      obtain ⟨x0, d0⟩ := hfree.cell (o := p.length) (by omega)
      clear hg
      go_wp2_with fail
      refine ⟨?_, by simp [intOf]; omega⟩
      rw [HE.out] at hfree ⊢
      exact ti_step l1 HT.out hfree HR.out hb

/-! ### Equality -/

set_option maxHeartbeats 400000 in
theorem eqP (w : World) (q : Int) (l : ByteArray) :
    Calls Tryd.prog 45 #[.agg #[.int .i64 q, .string l], .agg #[.int .i64 q, .string l]] w
      fun e w' => e = .returned (.bool true) ∧ Below w.heap.size w w' := by
  have hB := (alloc_below w (.cells #[.int .i64 q, .string l] ( /- t -/ 68))).alloc (by simp) (.cells #[.int .i64 q, .string l] ( /- t -/ 68))
  go_enter Tryd.func45, Tryd.ntmps45
  go_wp2_with fail
  go_ret
  exact ⟨rfl, hB⟩

set_option maxHeartbeats 800000 in
set_option maxRecDepth 100000 in
/-- eqPacketS at two rows that read alike. -/
theorem eqPs (l : List Pkt) (w : World) (u v : Value) (hu : SlG elP w u l) (hv : SlG elP w v l) :
    Calls Tryd.prog 28 #[u, v] w fun e w' => e = .returned (.bool true) ∧ Below w.heap.size w w' := by
  obtain ⟨a, cap, rfl, hlen, hat⟩ := hu.at
  obtain ⟨a', cap', rfl, _, hat'⟩ := hv.at
  have HA := hide hat
  have HA' := hide hat'
  clear hu hv hat hat'
  unfold maxLen at hlen
  go_enter Tryd.func28, Tryd.ntmps28
  go_wp2_with fail
  go_loopw [5] (fun iv wr => ∃ (g : List Pkt) (k : Nat), k + g.length = l.length ∧ iv = .int .i64 k ∧ AtG elP w a k g ∧ AtG elP w a' k g ∧ Below w.heap.size w wr) (fun iv _ => l.length - (intOf iv).toNat)
  case atStart => exact ⟨l, 0, by omega, rfl, HA.out, HA'.out, Below.refl _ _⟩
  case round =>
    obtain ⟨g, k, hk, rfl, h6, h7, hb⟩ := hrel
    cases g with
    | nil =>
      have H5 : Hid (k = l.length) := by unfold Hid; simpa using hk
      have hge : l.length ≤ k := Nat.le_of_eq H5.out.symm
      clear hk
      go_wp2_with fail
      go_ret
      exact ⟨rfl, hb⟩
    | cons n rest =>
      obtain ⟨q, lb⟩ := n
      have HK : Hid (k + 1 + rest.length = l.length) := by unfold Hid; simp only [List.length_cons] at hk; omega
      have hlt : k < l.length := by have := HK.out; omega
      obtain ⟨b, o, rfl, l1, -, c0, c1⟩ := AtP.head (h6.still (Still.of_below hb))
      obtain ⟨b', o', rfl, -, -, d0, d1⟩ := AtP.head (h7.still (Still.of_below hb))
      have HRE := hide h6.tail
      have HRE' := hide h7.tail
      clear hk h6 h7
      go_wp2_with fail
      go_still_tail 8, (by kernel_rfl)
      change wpList _ _ _ _ _ wr.drew
      have hbd : Below w.heap.size w wr.drew := hb.drew
      generalize wr.drew = w2 at *
      go_wp2_with fail
      refine (eqP w2 q lb).mono ?_
      rintro e w1 ⟨rfl, hb1⟩
      have hb2 : Below w.heap.size w w1 := hbd.trans (hb1.mono hbd.size)
      go_wp2_with fail
      go_roundw
      case rel => exact ⟨rest, k + 1, by have := HK.out; omega, by go_num, HRE.out, HRE'.out, hb2⟩
      case measure => simp [intOf]; omega
end Go.Proofs.YtmkjipnemapdeaaDoor.Tk
