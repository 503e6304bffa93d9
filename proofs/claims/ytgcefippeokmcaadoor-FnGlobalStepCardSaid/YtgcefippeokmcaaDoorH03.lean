/- Da, Db, Dz, Dr, Dx, Fm -/
import Derived.Test.YtgcefippeokmcaaDoorRows
import Derived.Test.YtgcefippeokmcaaDoorH00
import Derived.WalkKit
import Derived.WalkSpells
import Derived.WalkLawsBesides
import Derived.Laws.Bits64
import Derived.Deep.QuietTactic
import Derived.BigQuiet
import Derived.Test.YtgcefippeokmcaaDoorH02
import Derived.Deep.RegionHeld3
/- The source of the model's drawings: its block; pick, of, num. -/
namespace Go.Proofs.YtgcefippeokmcaaDoor
open Go.RowKit

/-- A byte in a cell. -/
def elY : El Nat where
  st := 1
  P w b o n := n < 256 ∧ w.cell? ⟨b, o, none⟩ = some (.int .u8 (n : Int))
  still h := fun ⟨l, c⟩ => ⟨l, h _ _ c⟩

/-- The source: its block, what it reads from, how often it was asked. -/
structure Rd (w : World) (rb : Nat) (cv : Value) (l : List Nat) (p : Nat) : Prop where
  hx : ∃ t, w.heap[rb]? = some (.cells #[cv, .int .i64 (p : Int)] t (0, 0))
  hs : SlG elY w cv l
  hb : l ≠ [] → ∀ b o n c, cv = .slice (some ⟨b, o, none⟩) n c → b ≠ rb
  hl : l.length ≤ 2000

theorem Rd.lt {w : World} {rb : Nat} {cv : Value} {l : List Nat} {p : Nat} (h : Rd w rb cv l p) : rb < w.heap.size := by
  obtain ⟨t, h⟩ := h.hx
  exact (Array.getElem?_eq_some_iff.1 h).1
theorem Rd.cells {w : World} {rb : Nat} {cv : Value} {l : List Nat} {p : Nat} (h : Rd w rb cv l p) : w.cell? ⟨rb, 0, none⟩ = some cv ∧ w.cell? ⟨rb, 1, none⟩ = some (.int .i64 (p : Int)) := by
  obtain ⟨t, h⟩ := h.hx
  exact ⟨cell_of_heap (o := 0) h, cell_of_heap (o := 1) h⟩
theorem Rd.frozen {w : World} {rb : Nat} {cv : Value} {l : List Nat} {p : Nat} (h : Rd w rb cv l p) (o : Nat) : w.frozen? ⟨rb, o, none⟩ = false := by
  obtain ⟨t, h⟩ := h.hx
  simp [World.frozen?, h]
theorem RowG.blocks {α : Type} {E : El α} (hF : E.Flat) {w w' : World} {b : Nat} (hb : w'.heap[b]? = w.heap[b]?) {l : List α} {o : Nat} (h : RowG E w b o l) : RowG E w' b o l :=
  RowG.flat hF (fun _ _ => Same.cell hb) h
theorem elY_flat : elY.Flat := fun hc ⟨l, c⟩ => ⟨l, (hc 0 (by decide)).trans c⟩
theorem RowG.lt1 {w : World} {b o : Nat} {x : Nat} {l : List Nat} (h : RowG elY w b o (x :: l)) : b < w.heap.size := World.block_lt_of_cell? _ _ h.1.2
/-- What is written elsewhere, and a new number in the source's own cell, keep the source. -/
theorem Rd.move {w w' : World} {rb : Nat} {cv : Value} {l : List Nat} {p p' : Nat} (h : Rd w rb cv l p) (hk : ∀ b, b < w.heap.size → b ≠ rb → w'.heap[b]? = w.heap[b]?)
    (hx : ∃ t, w'.heap[rb]? = some (.cells #[cv, .int .i64 (p' : Int)] t (0, 0))) : Rd w' rb cv l p' := by
  refine ⟨hx, ?_, h.hb, h.hl⟩
  obtain ⟨a, cap, e, h1, h2, h3⟩ := h.hs
  refine ⟨a, cap, e, h1, h2, ?_⟩
  rcases h3 with h3 | ⟨b, o, e2, h3⟩
  · exact Or.inl h3
  · subst e2
    cases l with
    | nil => exact Or.inl rfl
    | cons x r => exact Or.inr ⟨b, o, rfl, RowG.blocks elY_flat (hk b h3.lt1 (h.hb (List.cons_ne_nil _ _) b o _ _ e)) h3⟩
theorem Rd.below {w w' : World} {rb : Nat} {cv : Value} {l : List Nat} {p : Nat} (h : Rd w rb cv l p) (hb : Below w.heap.size w w') : Rd w' rb cv l p := by
  obtain ⟨t, hx⟩ := h.hx
  exact h.move (fun b hl _ => hb.block b hl) ⟨t, (hb.block rb h.lt).trans hx⟩
theorem Rd.drew {w : World} {rb : Nat} {cv : Value} {l : List Nat} {p : Nat} (h : Rd w rb cv l p) : Rd w.drew rb cv l p := ⟨h.hx, h.hs.still (still_drew w), h.hb, h.hl⟩
theorem Rd.next {w : World} {rb : Nat} {cv : Value} {l : List Nat} {p : Nat} (h : Rd w rb cv l p) : Rd (w.setCell ⟨rb, 1, none⟩ (.int .i64 ((p : Int) + 1))) rb cv l (p + 1) := by
  obtain ⟨t, hx⟩ := h.hx
  refine h.move (fun b _ hne => Below.heap_setCell _ _ _ _ hne) ⟨t, ?_⟩
  simp [World.setCell, Array.getElem?_modify, hx]

theorem xor_i64 (a b : Nat) (ha : a < 9223372036854775808) (hb : b < 9223372036854775808) : ∃ v : Nat, v < 9223372036854775808 ∧ bits .xor .i64 (a : Int) (b : Int) = (v : Int) := by
  have hx : a ^^^ b < 2 ^ 63 := Nat.xor_lt_two_pow (by omega) (by omega)
  refine ⟨a ^^^ b, hx, ?_⟩
  have h1 : (BitVec.ofInt 64 (a : Int)).toNat = a := by
    rw [BitVec.ofInt_natCast, BitVec.toNat_ofNat]; exact Nat.mod_eq_of_lt (by omega)
  have h2 : (BitVec.ofInt 64 (b : Int)).toNat = b := by
    rw [BitVec.ofInt_natCast, BitVec.toNat_ofNat]; exact Nat.mod_eq_of_lt (by omega)
  show IntKind.i64.wrap ((BitVec.ofInt 64 (a : Int) ^^^ BitVec.ofInt 64 (b : Int)).toNat : Int) = _
  rw [BitVec.toNat_xor, h1, h2]
  simp [IntKind.wrap, IntKind.bits, IntKind.signed]
  omega

/-- A question more: the source's own cell is written, and nothing else. -/
structure Ask (w : World) (rb : Nat) (cv : Value) (l : List Nat) (p : Nat) (w' : World) : Prop where
  only : Only rb w w'
  rd : Rd w' rb cv l (p + 1)
  size : w'.heap.size = w.heap.size
theorem Only.drewN {c : Nat} {a b : World} (h : Only c a b) (n : Nat) : Only c a (b.drewN n) := ⟨h.os, h.tape, h.output, h.size, h.block⟩
theorem Rd.drewN {w : World} {rb : Nat} {cv : Value} {l : List Nat} {p : Nat} (h : Rd w rb cv l p) (n : Nat) : Rd (w.drewN n) rb cv l p := by
  obtain ⟨t, hx⟩ := h.hx
  exact h.move (fun b _ _ => rfl) ⟨t, hx⟩
theorem Rd.ask {w : World} {rb : Nat} {cv : Value} {l : List Nat} {p : Nat} (h : Rd w rb cv l p) (n : Nat) : Ask w rb cv l p ((w.setCell ⟨rb, 1, none⟩ (.int .i64 ((p : Int) + 1))).drewN n) := by
  have ho : Only rb w (w.setCell ⟨rb, 1, none⟩ (.int .i64 ((p : Int) + 1))) := (Only.refl rb w).setCell (Or.inl rfl) _
  exact ⟨ho.drewN n, h.next.drewN n, by simp⟩
theorem Rd.ask0 {w : World} {rb : Nat} {cv : Value} {l : List Nat} {p : Nat} (h : Rd w rb cv l p) : Ask w rb cv l p (w.setCell ⟨rb, 1, none⟩ (.int .i64 ((p : Int) + 1))) := h.ask 0

/-- What pick leaves: a number below n, and one question more. -/
def PickP (w : World) (rb : Nat) (cv : Value) (l : List Nat) (p : Nat) (n : Int) (e : Ending) (w' : World) : Prop :=
  ∃ v : Nat, e = .returned (.int .i64 (v : Int)) ∧ ((v : Int) < n ∨ v = 0) ∧ Ask w rb cv l p w'

set_option maxHeartbeats 1600000 in
theorem pick_calls (w : World) (rb : Nat) (cv : Value) (l : List Nat) (p : Nat) (h : Rd w rb cv l p) (hp : p ≤ 1000000) (n : Int) (hn : n ≤ 1000000) :
    Calls Tryd.prog 78 #[.pointer (some ⟨rb, 0, none⟩), .int .i64 n] w (PickP w rb cv l p n) := by
  obtain ⟨c0, c1⟩ := h.cells
  have f1 := h.frozen 1
  have hlt := h.lt
  have HRD := hide h
  have HA := hide h.ask0
  have HAN := hide (fun n => h.ask n)
  obtain ⟨a, cap, rfl, h1, h2, h3⟩ := h.hs
  have hl := h.hl
  by_cases hn1 : n < 1
  · go_enter Tryd.func78, Tryd.ntmps78
    go_wp2_with fail
    go_ret
    exact ⟨0, rfl, Or.inr rfl, HA.out⟩
  · by_cases hl0 : l.length = 0
    · rw [hl0] at c0 HA
      go_enter Tryd.func78, Tryd.ntmps78
      go_wp2_with fail
      go_ret
      exact ⟨0, rfl, Or.inr rfl, HA.out⟩
    · have hbyte : ∀ i, i < l.length → ∃ b o x : Nat, a = some ⟨b, o, none⟩ ∧ x < 256 ∧ (w.setCell ⟨rb, 1, none⟩ (.int .i64 ((p : Int) + 1))).cell? ⟨b, o + i, none⟩ = some (.int .u8 (x : Int)) := by
        intro i hi
        obtain ⟨b, o, e, hx, hc⟩ := h.hs.get (i := i) (x := l[i]) (List.getElem?_eq_getElem hi)
        refine ⟨b, o, l[i], e, hx, ?_⟩
        have hne := h.hb (by rintro rfl; simp at hi) b o _ _ (by rw [e])
        rw [Same.cell (Below.heap_setCell _ _ _ _ hne)]
        simpa [elY] using hc
      have HB := hide hbyte
      clear hbyte
      by_cases hpl : p < l.length
      · obtain ⟨b, o, x, rfl, hx, hc⟩ := HB.out p hpl
        go_enter Tryd.func78, Tryd.ntmps78
        go_wp2_with fail
        obtain ⟨N, rfl⟩ : ∃ N : Nat, n = (N : Int) := ⟨n.toNat, by omega⟩
        go_ret
        refine ⟨x % N, ?_, Or.inl (by have := Nat.mod_lt x (show 0 < N by omega); omega), HA.out⟩
        rfl
      · have hq1 := Nat.mod_lt p (show 0 < l.length by omega)
        have hq2 := Nat.mod_lt (p * 7 + 3) (show 0 < l.length by omega)
        have hq3 : p / l.length ≤ p := Nat.div_le_self _ _
        obtain ⟨b, o, x, rfl, hx, hc⟩ := HB.out (p % l.length) hq1
        obtain ⟨b2, o2, y, e2, hy, hd⟩ := HB.out ((p * 7 + 3) % l.length) hq2
        injection e2 with e2
        injection e2 with e3 e4
        subst e3 e4
        have e1 : (p : Int).tmod (l.length : Int) = ((p % l.length : Nat) : Int) := (Int.ofNat_tmod p l.length).symm
        have e2 : ((p : Int) * 7 + 3).tmod (l.length : Int) = (((p * 7 + 3) % l.length : Nat) : Int) := by
          rw [show (p : Int) * 7 + 3 = ((p * 7 + 3 : Nat) : Int) by omega]; exact (Int.ofNat_tmod _ _).symm
        have e3 : (p : Int).tdiv (l.length : Int) = ((p / l.length : Nat) : Int) := (Int.ofNat_tdiv p l.length).symm
        have hl1 : ¬ (l.length : Int) = 0 := by omega
        generalize hM : p % l.length = M at *
        generalize hK : (p * 7 + 3) % l.length = K at *
        generalize hV : p / l.length = V at *
        clear hM hK hV HB h h3
        go_enter Tryd.func78, Tryd.ntmps78
        go_wp2_with fail
        go_quiet (fail)
        have hX : x * 131 + y * 1117 + p * 29 + V * 53 < 9223372036854775808 := by omega
        obtain ⟨X, hXe⟩ : ∃ X, X = x * 131 + y * 1117 + p * 29 + V * 53 := ⟨_, rfl⟩
        have hXi : (x : Int) * 131 + (y : Int) * 1117 + (p : Int) * 29 + (V : Int) * 53 = (X : Int) := by omega
        rw [hXi]
        rw [← hXe] at hX
        clear hXe hXi
        obtain ⟨N, rfl⟩ : ∃ N : Nat, n = (N : Int) := ⟨n.toNat, by omega⟩
        have hd : (X : Int).tdiv 64 = ((X / 64 : Nat) : Int) := (Int.ofNat_tdiv X 64).symm
        obtain ⟨Z, hZ, hZe⟩ := xor_i64 X (X / 64) hX (by omega)
        have hr : (Z : Int).tmod (N : Int) = ((Z % N : Nat) : Int) := (Int.ofNat_tmod Z N).symm
        have hzn := Nat.mod_lt Z (show 0 < N by omega)
        go_wp2_with fail
        go_ret
        have h64 : ((X / 64 : Nat) : Int) = (X : Int) / 64 := by omega
        rw [h64] at hZe
        refine ⟨Z % N, ?_, Or.inl (by omega), HAN.out _⟩
        show Ending.returned (.int .i64 ((bits .xor .i64 (X : Int) ((X : Int) / 64)).tmod (N : Int))) = _
        rw [hZe, hr]
end Go.Proofs.YtgcefippeokmcaaDoor

/- The source of the model's drawings: of, num and its opening. -/
namespace Go.Proofs.YtgcefippeokmcaaDoor
open Go.RowKit

/-- An int in a cell. -/
def elI64 : El Int where
  st := 1
  P w b o n := w.cell? ⟨b, o, none⟩ = some (.int .i64 n)
  still h := fun c => h _ _ c
theorem elI64_flat : elI64.Flat := fun hc c => (hc 0 (by decide)).trans c

/-- A slice of what lies elsewhere is read after a question as before. -/
theorem SlG.elsewhere {α : Type} {E : El α} (hF : E.Flat) {w w' : World} {v : Value} {l : List α} (h : SlG E w v l) (hk : ∀ b o n c, v = .slice (some ⟨b, o, none⟩) n c → w'.heap[b]? = w.heap[b]?) : SlG E w' v l := by
  obtain ⟨a, cap, rfl, h1, h2, h3⟩ := h
  refine ⟨a, cap, rfl, h1, h2, ?_⟩
  rcases h3 with h3 | ⟨b, o, rfl, h3⟩
  · exact Or.inl h3
  · exact Or.inr ⟨b, o, rfl, RowG.blocks hF (hk b o _ _ rfl) h3⟩

theorem SlG.lt {α : Type} {E : El α} {w : World} {v : Value} {l : List α} (h : SlG E w v l) (hne : 0 < l.length) (hE : ∀ {b o : Nat} {x : α}, E.P w b o x → b < w.heap.size) : ∀ b o n c, v = .slice (some ⟨b, o, none⟩) n c → b < w.heap.size := by
  obtain ⟨a, cap, rfl, h1, h2, h3⟩ := h
  intro b o n c e
  rcases h3 with rfl | ⟨b', o', rfl, h3⟩
  · simp at hne
  · injection e with e
    injection e with e
    injection e with e1
    subst e1
    cases l with
    | nil => simp at hne
    | cons x r => exact hE h3.1

def OfP (w : World) (rb : Nat) (cv : Value) (l : List Nat) (p : Nat) (S : List ByteArray) (e : Ending) (w' : World) : Prop :=
  ∃ s, s ∈ S ∧ e = .returned (.string s) ∧ Ask w rb cv l p w'
def NumP (w : World) (rb : Nat) (cv : Value) (l : List Nat) (p : Nat) (S : List Int) (e : Ending) (w' : World) : Prop :=
  ∃ s, s ∈ S ∧ e = .returned (.int .i64 s) ∧ Ask w rb cv l p w' 

set_option maxHeartbeats 800000 in
theorem of_calls (w : World) (rb : Nat) (cv : Value) (l : List Nat) (p : Nat) (h : Rd w rb cv l p) (hp : p ≤ 1000000) (S : List ByteArray) (sv : Value) (hs : SlG elS w sv S) (hne : 0 < S.length) (hn : S.length ≤ 1000) (hb : ∀ b o n c, sv = .slice (some ⟨b, o, none⟩) n c → b ≠ rb) :
    Calls Tryd.prog 79 #[.pointer (some ⟨rb, 0, none⟩), sv] w (OfP w rb cv l p S) := by
  have HS := hide (fun (w' : World) (ho : Only rb w w') => hs.elsewhere elS_flat (w' := w') (fun b o n c e => ho.block b (hs.lt hne (fun h => World.block_lt_of_cell? _ _ h.2) b o n c e) (hb b o n c e)))
  obtain ⟨a, cap, rfl, h1, h2, h3⟩ := hs
  have HP := hide (pick_calls w rb cv l p h hp (S.length : Int) (by omega))
  go_enter Tryd.func79, Tryd.ntmps79
  go_wp2_with fail
  refine HP.out.mono ?_
  rintro e w1 ⟨v, rfl, hv, hask⟩
  have hvl : v < S.length := by omega
  have hs2 := HS.out w1 hask.only
  have HASK := hide hask
  obtain ⟨b, o, rfl, hsz, hc⟩ := hs2.get (List.getElem?_eq_getElem hvl)
  have hc' : w1.cell? ⟨b, o + v, none⟩ = some (.string S[v]) := by simpa [elS] using hc
  have hm : S[v] ∈ S := List.getElem_mem hvl
  generalize S[v] = s at *
  have HM := hide hm
  clear hs2 h3 hc hm hask
  go_wp2_with fail
  go_ret
  exact ⟨s, HM.out, rfl, HASK.out⟩

set_option maxHeartbeats 800000 in
theorem num_calls (w : World) (rb : Nat) (cv : Value) (l : List Nat) (p : Nat) (h : Rd w rb cv l p) (hp : p ≤ 1000000) (S : List Int) (sv : Value) (hs : SlG elI64 w sv S) (hne : 0 < S.length) (hn : S.length ≤ 1000) (hb : ∀ b o n c, sv = .slice (some ⟨b, o, none⟩) n c → b ≠ rb) :
    Calls Tryd.prog 124 #[.pointer (some ⟨rb, 0, none⟩), sv] w (NumP w rb cv l p S) := by
  have HS := hide (fun (w' : World) (ho : Only rb w w') => hs.elsewhere elI64_flat (w' := w') (fun b o n c e => ho.block b (hs.lt hne (fun h => World.block_lt_of_cell? _ _ h) b o n c e) (hb b o n c e)))
  obtain ⟨a, cap, rfl, h1, h2, h3⟩ := hs
  have HP := hide (pick_calls w rb cv l p h hp (S.length : Int) (by omega))
  go_enter Tryd.func124, Tryd.ntmps124
  go_wp2_with fail
  refine HP.out.mono ?_
  rintro e w1 ⟨v, rfl, hv, hask⟩
  have hvl : v < S.length := by omega
  have hs2 := HS.out w1 hask.only
  have HASK := hide hask
  obtain ⟨b, o, rfl, hc⟩ := hs2.get (List.getElem?_eq_getElem hvl)
  have hc' : w1.cell? ⟨b, o + v, none⟩ = some (.int .i64 S[v]) := by simpa [elI64] using hc
  have hm : S[v] ∈ S := List.getElem_mem hvl
  generalize S[v] = s at *
  have HM := hide hm
  clear hs2 h3 hc hm hask
  go_wp2_with fail
  go_ret
  exact ⟨s, HM.out, rfl, HASK.out⟩

theorem RowG.take {α : Type} {E : El α} {w : World} {b : Nat} : ∀ {l : List α} {o : Nat} (n : Nat), RowG E w b o l → RowG E w b o (l.take n)
  | [], _, n, _ => by simp [RowG]
  | _ :: _, _, 0, _ => trivial
  | _ :: _, _, n + 1, h => ⟨h.1, RowG.take n h.2⟩
theorem SlG.takeN {α : Type} {E : El α} {w : World} {a : Option Addr} {n cap m : Nat} {l : List α} (h : SlG E w (.slice a n cap) l) (hm : m ≤ l.length) : SlG E w (.slice a m cap) (l.take m) := by
  obtain ⟨a', cap', e, h1, h2, h3⟩ := h
  injection e with e1 e2 e3
  subst e1 e3
  have hlen : (l.take m).length = m := by rw [List.length_take]; omega
  refine ⟨a, cap, by rw [hlen], by omega, h2, ?_⟩
  rcases h3 with rfl | ⟨b, o, rfl, h3⟩
  · exact Or.inl (by simp)
  · exact Or.inr ⟨b, o, rfl, h3.take m⟩
theorem rd_open {w w' : World} {cv : Value} {l : List Nat} (hs : SlG elY w cv l) (hl : l.length ≤ 2000) (hb : Below w.heap.size w w') (hx : ∃ t, w'.heap[w.heap.size]? = some (.cells #[cv, .int .i64 0] t (0, 0))) : Rd w' w.heap.size cv l 0 := by
  refine ⟨hx, hs.still (Still.of_below hb), fun hne b o n c e => ?_, hl⟩
  have := hs.lt (List.length_pos_iff.2 hne) (fun h => World.block_lt_of_cell? _ _ h.2) b o n c e
  omega

/-- The source is opened: a box of its own. -/
theorem open_rd (w : World) (sv : Value) (l : List Nat) (hs : SlG elY w sv l) :
    Calls Tryd.prog 76 #[sv] w fun e w' => ∃ cv l', e = .returned (.pointer (some ⟨w.heap.size, 0, none⟩)) ∧ Rd w' w.heap.size cv l' 0 ∧ Below w.heap.size w w' ∧ w'.heap.size = w.heap.size + 1 := by
  have HS := hide hs
  obtain ⟨a, cap, rfl, h1, h2, h3⟩ := hs
  by_cases hl : l.length ≤ 2000
  · go_enter Tryd.func76, Tryd.ntmps76
    go_wp2_with fail
    go_ret
    refine ⟨_, _, rfl, rd_open HS.out hl ?_ ?_, ?_, ?_⟩
    · exact alloc_below w _
    · exact ⟨164, by show (w.heap.push _)[w.heap.size]? = _; simp⟩
    · exact alloc_below w _
    · simp
  · have hl2 : (2000 : Int) < (l.length : Int) := by omega
    have HT := hide (HS.out.takeN (m := 2000) (by omega))
    have HTL : Hid ((l.take 2000).length ≤ 2000) := hide (by rw [List.length_take]; omega)
    go_enter Tryd.func76, Tryd.ntmps76
    go_wp2_with fail
    go_ret
    refine ⟨_, _, rfl, rd_open HT.out HTL.out ?_ ?_, ?_, ?_⟩
    · exact alloc_below w _
    · exact ⟨164, by show (w.heap.push _)[w.heap.size]? = _; simp⟩
    · exact alloc_below w _
    · simp
end Go.Proofs.YtgcefippeokmcaaDoor

/- What both kinds of drawings share. -/
namespace Go.Proofs.YtgcefippeokmcaaDoor
open Go.RowKit

theorem Only.same {c : Nat} {w w' : World} (h : Only c w w') {bs : List Nat} (hb : ∀ b, b ∈ bs → b < w.heap.size ∧ b ≠ c) : Same w w' bs := fun b hm => h.block b (hb b hm).1 (hb b hm).2
/-- Questions asked by a drawing of some depth. -/
def qs (d : Nat) : Nat := 9 * 4 ^ d
theorem qs_zero : qs 0 = 9 := rfl
theorem qs_succ (d : Nat) : qs (d + 1) = 4 * qs d := by unfold qs; rw [Nat.pow_succ]; omega
theorem qs_pos (d : Nat) : 9 ≤ qs d := by
  induction d with
  | zero => exact Nat.le_refl _
  | succ d ih => rw [qs_succ]; omega
/-- How many nodes lie below its root. -/
def zs : Nat → Nat
  | 0 => 0
  | d + 1 => 3 * (zs d + 1)
theorem Rd.fin {w w2 wf : World} {rb : Nat} {cv : Value} {l : List Nat} {p p' : Nat} (h : Rd w rb cv l p) (h2 : Rd w2 rb cv l p') (ho : Only rb w wf) (he : wf.heap[rb]? = w2.heap[rb]?) : Rd wf rb cv l p' := by
  obtain ⟨t, hx⟩ := h2.hx
  exact h.move (fun b hl hne => ho.block b hl hne) ⟨t, he.trans hx⟩
theorem heap_new (w : World) (o : Obj) : (w.alloc o).heap[w.heap.size]? = some o := by
  show (w.heap.push _)[w.heap.size]? = _
  simp
theorem sl4 (w : World) (s0 s1 s2 s3 : ByteArray) (t : TypeId) (h0 : s0.size ≤ maxLen) (h1 : s1.size ≤ maxLen) (h2 : s2.size ≤ maxLen) (h3 : s3.size ≤ maxLen) :
    SlG elS (w.alloc (.cells #[.string s0, .string s1, .string s2, .string s3] t)) (.slice (some ⟨w.heap.size, 0, none⟩) 4 4) [s0, s1, s2, s3] := by
  have hh := heap_new w (.cells #[.string s0, .string s1, .string s2, .string s3] t)
  refine ⟨_, 4, rfl, Nat.le_refl _, by unfold maxLen; omega, Or.inr ⟨w.heap.size, 0, rfl, ⟨h0, ?_⟩, ⟨h1, ?_⟩, ⟨h2, ?_⟩, ⟨h3, ?_⟩, trivial⟩⟩
  all_goals (rw [cell_of_heap hh]; rfl)
theorem sl5i (w : World) (s0 s1 s2 s3 s4 : Int) (t : TypeId) :
    SlG elI64 (w.alloc (.cells #[.int .i64 s0, .int .i64 s1, .int .i64 s2, .int .i64 s3, .int .i64 s4] t)) (.slice (some ⟨w.heap.size, 0, none⟩) 5 5) [s0, s1, s2, s3, s4] := by
  have hh := heap_new w (.cells #[.int .i64 s0, .int .i64 s1, .int .i64 s2, .int .i64 s3, .int .i64 s4] t)
  refine ⟨_, 5, rfl, Nat.le_refl _, by unfold maxLen; omega, Or.inr ⟨w.heap.size, 0, rfl, ?_, ?_, ?_, ?_, ?_, trivial⟩⟩
  all_goals (show World.cell? _ _ = _; rw [cell_of_heap hh]; rfl)
theorem new_far {w : World} {rb : Nat} (h : rb < w.heap.size) {k m : Nat} : ∀ (b o n c : Nat), (Value.slice (some ⟨w.heap.size, 0, none⟩) k m) = .slice (some ⟨b, (o : Nat), none⟩) n c → b ≠ rb := by
  intro b o n c e
  injection e with e
  injection e with e
  injection e with e
  omega
theorem small_of {fr : ByteArray} {a b c d : UInt8} (h : fr ∈ [(⟨#[a]⟩ : ByteArray), ⟨#[b]⟩, ⟨#[c]⟩, ⟨#[d]⟩]) : fr.size ≤ maxLen := by
  have : fr.size = 1 := by
    simp only [List.mem_cons, List.not_mem_nil, or_false] at h
    rcases h with rfl | rfl | rfl | rfl <;> rfl
  rw [this]
  unfold maxLen
  omega
theorem set_alloc (w : World) (o : Obj) (a : Addr) (v : Value) (h : a.block < w.heap.size) : (w.setCell a v).alloc o = (w.alloc o).setCell a v := by
  have e : (w.heap.modify a.block fun x => match x with
      | .cells c elem frozen => .cells (if a.spot.isSome then c else c.setIfInBounds a.off v) elem frozen
      | o => o).push o = (w.heap.push o).modify a.block (fun x => match x with
      | .cells c elem frozen => .cells (if a.spot.isSome then c else c.setIfInBounds a.off v) elem frozen
      | o => o) := by
    apply Array.ext_getElem?
    intro i
    rw [Array.getElem?_modify, Array.getElem?_push, Array.getElem?_push, Array.getElem?_modify, Array.size_modify]
    by_cases hi : i = w.heap.size
    · rw [if_pos hi, if_neg (by omega), if_pos hi]
    · rw [if_neg hi, if_neg hi]
  exact congrArg (fun H => ({ w with heap := H } : World)) e
theorem sl6i (w : World) (s0 s1 s2 s3 s4 s5 : Int) (t : TypeId) :
    SlG elI64 (w.alloc (.cells #[.int .i64 s0, .int .i64 s1, .int .i64 s2, .int .i64 s3, .int .i64 s4, .int .i64 s5] t)) (.slice (some ⟨w.heap.size, 0, none⟩) 6 6) [s0, s1, s2, s3, s4, s5] := by
  have hh := heap_new w (.cells #[.int .i64 s0, .int .i64 s1, .int .i64 s2, .int .i64 s3, .int .i64 s4, .int .i64 s5] t)
  refine ⟨_, 6, rfl, Nat.le_refl _, by unfold maxLen; omega, Or.inr ⟨w.heap.size, 0, rfl, ?_, ?_, ?_, ?_, ?_, ?_, trivial⟩⟩
  all_goals (show World.cell? _ _ = _; rw [cell_of_heap hh]; rfl)
theorem sl3i (w : World) (s0 s1 s2 : Int) (t : TypeId) :
    SlG elI64 (w.alloc (.cells #[.int .i64 s0, .int .i64 s1, .int .i64 s2] t)) (.slice (some ⟨w.heap.size, 0, none⟩) 3 3) [s0, s1, s2] := by
  have hh := heap_new w (.cells #[.int .i64 s0, .int .i64 s1, .int .i64 s2] t)
  refine ⟨_, 3, rfl, Nat.le_refl _, by unfold maxLen; omega, Or.inr ⟨w.heap.size, 0, rfl, ?_, ?_, ?_, trivial⟩⟩
  all_goals (show World.cell? _ _ = _; rw [cell_of_heap hh]; rfl)
theorem gsl3 (w : World) (s0 s1 s2 : ByteArray) (t : TypeId) (h0 : s0.size ≤ maxLen) (h1 : s1.size ≤ maxLen) (h2 : s2.size ≤ maxLen) :
    SlG elS (w.alloc (.cells #[.string s0, .string s1, .string s2] t)) (.slice (some ⟨w.heap.size, 0, none⟩) 3 3) [s0, s1, s2] := by
  have hh := heap_new w (.cells #[.string s0, .string s1, .string s2] t)
  refine ⟨_, 3, rfl, Nat.le_refl _, by unfold maxLen; omega, Or.inr ⟨w.heap.size, 0, rfl, ⟨h0, ?_⟩, ⟨h1, ?_⟩, ⟨h2, ?_⟩, trivial⟩⟩
  all_goals (rw [cell_of_heap hh]; rfl)
theorem small_all {fr : ByteArray} {L : List ByteArray} (h : fr ∈ L) (hL : L.all (fun s => decide (s.size ≤ 1)) = true) : fr.size ≤ maxLen := by
  have := of_decide_eq_true (List.all_eq_true.1 hL fr h)
  unfold maxLen
  omega
theorem wf_all {k : Int} {L : List Int} (h : k ∈ L) (hL : L.all (fun s => (Lit.int .i64 s).wf) = true) : (Lit.int .i64 k).wf = true := List.all_eq_true.1 hL k h
end Go.Proofs.YtgcefippeokmcaaDoor

/- What a drawing leaves: a tree in memory of its own, the source asked some more. -/
namespace Go.Proofs.YtgcefippeokmcaaDoor
open Go.RowKit

/-- All indices are one digit. -/
def smF : F → Prop
  | .nil => True
  | .cons _ _ _ _ ix kids rest => (0 ≤ ix ∧ ix ≤ 9) ∧ smF kids ∧ smF rest
def smN (N : Nd) : Prop := (0 ≤ N.ix ∧ N.ix ≤ 9) ∧ smF N.kids
theorem smF_app (g : F) : ∀ f : F, smF (f.app g) ↔ smF f ∧ smF g
  | .nil => by simp [F.app, smF]
  | .cons lab k fr tg ix kids rest => by simp only [F.app, smF, smF_app g rest, and_assoc]

/-- The result of a drawing. -/
structure DrN (w : World) (rb : Nat) (cv : Value) (l : List Nat) (p K S : Nat) (N : Nd) (u : Value) (bs : List Nat) (w' : World) : Prop where
  own : Ow w' u N.kids bs
  ge : ∀ b, b ∈ bs → w.heap.size ≤ b
  nd : bs.Nodup
  only : Only rb w w'
  rd : ∃ p', p' ≤ p + K ∧ Rd w' rb cv l p'
  fit : Fit N
  sz : N.kids.sz ≤ S
def DrP (Q : Nd → Prop) (w : World) (rb : Nat) (cv : Value) (l : List Nat) (p K S : Nat) (e : Ending) (w' : World) : Prop :=
  ∃ N u bs, e = .returned (.agg #[.int .i64 N.k, .string N.fr, .string N.tg, .int .i64 N.ix, u]) ∧ Q N ∧ DrN w rb cv l p K S N u bs w'

/-- The result is put into its box and read out of it. -/
theorem dr_fin {w w2 : World} {rb : Nat} {cv : Value} {l : List Nat} {p p' K S : Nat} (h : Rd w rb cv l p) (ho : Only rb w w2) (h2 : Rd w2 rb cv l p') (hp : p' ≤ p + K) {N : Nd} {u : Value} {bs : List Nat}
    (how : Ow w2 u N.kids bs) (b : Nat) (hbw : w.heap.size ≤ b) (hge : ∀ x, x ∈ bs → b < x) (hnd : bs.Nodup) (hf : Fit N) (hs : N.kids.sz ≤ S) (v0 v1 v2 v3 v4 : Value) :
    DrN w rb cv l p K S N u bs (((((w2.setCell ⟨b, 0, none⟩ v0).setCell ⟨b, 1, none⟩ v1).setCell ⟨b, 2, none⟩ v2).setCell ⟨b, 3, none⟩ v3).setCell ⟨b, 4, none⟩ v4) := by
  have hlt := h.lt
  have hne : ∀ x, x ≠ b → (((((w2.setCell ⟨b, 0, none⟩ v0).setCell ⟨b, 1, none⟩ v1).setCell ⟨b, 2, none⟩ v2).setCell ⟨b, 3, none⟩ v3).setCell ⟨b, 4, none⟩ v4).heap[x]? = w2.heap[x]? := fun x hx =>
    (Below.heap_setCell _ _ _ _ hx).trans ((Below.heap_setCell _ _ _ _ hx).trans ((Below.heap_setCell _ _ _ _ hx).trans ((Below.heap_setCell _ _ _ _ hx).trans (Below.heap_setCell _ _ _ _ hx))))
  have hO : Only rb w (((((w2.setCell ⟨b, 0, none⟩ v0).setCell ⟨b, 1, none⟩ v1).setCell ⟨b, 2, none⟩ v2).setCell ⟨b, 3, none⟩ v3).setCell ⟨b, 4, none⟩ v4) :=
    ((((ho.setCell (Or.inr hbw) _).setCell (Or.inr hbw) _).setCell (Or.inr hbw) _).setCell (Or.inr hbw) _).setCell (Or.inr hbw) _
  refine ⟨how.same (fun x hx => hne x (by have := hge x hx; omega)), fun x hx => by have := hge x hx; omega, hnd, hO, ⟨p', hp, h.fin h2 hO (hne rb (by omega))⟩, hf, hs⟩

/-- Where a drawing stands: its result's box is empty yet. -/
structure St (w : World) (rb : Nat) (cv : Value) (l : List Nat) (p : Nat) (W : World) (q : Nat) : Prop where
  start : Rd w rb cv l p
  only : Only rb w W
  rd : Rd W rb cv l q
  box : Box5 W w.heap.size (.int .i64 0) (.string ⟨#[]⟩) (.string ⟨#[]⟩) (.int .i64 0) (.slice none 0 0)
theorem St.new {w : World} {rb : Nat} {cv : Value} {l : List Nat} {p : Nat} (h : Rd w rb cv l p) (t : TypeId) :
    St w rb cv l p (w.alloc (.cells #[.int .i64 0, .string ⟨#[]⟩, .string ⟨#[]⟩, .int .i64 0, .slice none 0 0] t)) p :=
  ⟨h, (Only.refl _ _).alloc _, h.below (alloc_below w _), Box5.now w _ _ _ _ _ t⟩
theorem St.on {w : World} {rb : Nat} {cv : Value} {l : List Nat} {p : Nat} {W W' : World} {q q' : Nat} (h : St w rb cv l p W q) (ho : Only rb W W') (hr : Rd W' rb cv l q') : St w rb cv l p W' q' := by
  have hl := h.start.lt
  have hb := h.box.lt
  exact ⟨h.start, h.only.trans ho, hr, h.box.same (ho.block _ hb (by omega))⟩
theorem St.ask {w : World} {rb : Nat} {cv : Value} {l : List Nat} {p : Nat} {W W' : World} {q : Nat} (h : St w rb cv l p W q) (ha : Ask W rb cv l q W') : St w rb cv l p W' (q + 1) := h.on ha.only ha.rd
/-- It ends with a leaf. -/
theorem St.leaf {w : World} {rb : Nat} {cv : Value} {l : List Nat} {p : Nat} {W : World} {q K S : Nat} (h : St w rb cv l p W q) (hq : q ≤ p + K) (k ix : Int) (hk : (Lit.int .i64 k).wf = true) (h0 : 0 ≤ ix) (h9 : ix ≤ 9) (v0 v1 v2 v3 v4 : Value) :
    DrP smN w rb cv l p K S (.returned (.agg #[.int .i64 k, .string ⟨#[]⟩, .string ⟨#[]⟩, .int .i64 ix, .slice none 0 0]))
      (((((W.setCell ⟨w.heap.size, 0, none⟩ v0).setCell ⟨w.heap.size, 1, none⟩ v1).setCell ⟨w.heap.size, 2, none⟩ v2).setCell ⟨w.heap.size, 3, none⟩ v3).setCell ⟨w.heap.size, 4, none⟩ v4) := by
  have hi : (Lit.int .i64 ix).wf = true := by simp [Lit.wf, IntKind.min, IntKind.max, IntKind.bits, IntKind.signed]; omega
  exact ⟨⟨k, ⟨#[]⟩, ⟨#[]⟩, ix, .nil⟩, .slice none 0 0, [], rfl, ⟨⟨h0, h9⟩, trivial⟩,
    dr_fin (N := ⟨k, ⟨#[]⟩, ⟨#[]⟩, ix, .nil⟩) h.start h.only h.rd hq ⟨none, 0, rfl, Nat.le_refl _, Nat.zero_le _, Or.inl ⟨rfl, rfl⟩⟩ w.heap.size (Nat.le_refl _) (fun x hx => absurd hx List.not_mem_nil) List.nodup_nil ⟨show (0 : Nat) ≤ maxLen from Nat.zero_le _, show (0 : Nat) ≤ maxLen from Nat.zero_le _, hk, hi⟩ (Nat.zero_le _) v0 v1 v2 v3 v4⟩
end Go.Proofs.YtgcefippeokmcaaDoor

/- l1Random of the model: its leaves. -/
namespace Go.Proofs.YtgcefippeokmcaaDoor
open Go.RowKit

set_option maxHeartbeats 1000000 in
set_option maxRecDepth 100000 in
/-- No level is left. -/
theorem rand_zero (w : World) (rb : Nat) (cv : Value) (l : List Nat) (p S : Nat) (h : Rd w rb cv l p) (hp : p + 9 ≤ 1000000) (b u d : Int) (hd : d < 1) (hu : 0 ≤ u) (hb : b ≤ 3) :
    Calls Tryd.prog 131 #[.pointer (some ⟨rb, 0, none⟩), .int .i64 b, .int .i64 u, .int .i64 d] w (DrP smN w rb cv l p 9 S) := by
  have HS := hide (St.new h ( /- t -/ 39))
  clear h
  go_enter Tryd.func131, Tryd.ntmps131
  go_upto_region 1 with fail
  generalize w.alloc (.cells #[.int .i64 0, .string ⟨#[]⟩, .string ⟨#[]⟩, .int .i64 0, .slice none 0 0] ( /- t -/ 39)) = W at *
  by_cases hbu : u < b
  case neg =>
    obtain ⟨x0, x1, x2, x3, x4⟩ := HS.out.box.cells
    have fx := HS.out.box.frozen
    have lx := HS.out.box.lt
    go_wp2_with fail
    refine bodyPost_ret (v := .agg #[.int .i64 1, .string ⟨#[]⟩, .string ⟨#[]⟩, .int .i64 (0), .slice none 0 0]) (by simp [results, Tryd.results131, go_sem, *]) rfl ?_
    exact HS.out.leaf (by omega) 1 0 (by decide) (by omega) (by omega) _ _ _ _ _
  case pos =>
    go_wp2_with fail
    refine (pick_calls _ rb cv l _ HS.out.rd (by omega) 2 (by omega)).mono ?_
    rintro e wA ⟨va, rfl, hva, hask⟩
    have HA := hide (HS.out.ask hask)
    clear hask
    by_cases hv0 : va = 0
    case neg =>
      have hv1 : ((va : Int) == 0) = false := beq_eq_false_iff_ne.2 (by omega)
      have hv2 : ¬ (va : Int) = 0 := by omega
      obtain ⟨x0, x1, x2, x3, x4⟩ := HA.out.box.cells
      have fx := HA.out.box.frozen
      have lx := HA.out.box.lt
      go_wp2_with fail
      refine bodyPost_ret (v := .agg #[.int .i64 1, .string ⟨#[]⟩, .string ⟨#[]⟩, .int .i64 (0), .slice none 0 0]) (by simp [results, Tryd.results131, go_sem, *]) rfl ?_
      exact HA.out.leaf (by omega) 1 0 (by decide) (by omega) (by omega) _ _ _ _ _
    case pos =>
      subst hv0
      go_wp2_with fail
      refine (pick_calls _ rb cv l _ HA.out.rd (by omega) (b - u) (by omega)).mono ?_
      rintro e wB ⟨vb, rfl, hvb, hask⟩
      have HB := hide (HA.out.ask hask)
      clear hask
      have hix : u + (vb : Int) ≤ 9 := by omega
      obtain ⟨x0, x1, x2, x3, x4⟩ := HB.out.box.cells
      have fx := HB.out.box.frozen
      have lx := HB.out.box.lt
      go_wp2_with fail
      refine bodyPost_ret (v := .agg #[.int .i64 4, .string ⟨#[]⟩, .string ⟨#[]⟩, .int .i64 (u + (vb : Int)), .slice none 0 0]) (by simp [results, Tryd.results131, go_sem, *]) rfl ?_
      exact HB.out.leaf (by omega) 4 (u + (vb : Int)) (by decide) (by omega) (by omega) _ _ _ _ _
end Go.Proofs.YtgcefippeokmcaaDoor

/- l1Format of the model: messages; FormatGlobal of the model. -/
namespace Go.Proofs.YtgcefippeokmcaaDoor
open Go.RowKit

set_option maxHeartbeats 800000 in
set_option maxRecDepth 100000 in
theorem fmt_msg (n : Nat) (ih : FmtAt n) (w : World) (ix b u d : Int) (fr tq : ByteArray) (sv : Value) (kids : F) (hn : kids.sz < n + 1) (hbig : kids.sz ≤ 400) (hs : Sl w sv kids) (hb : 0 ≤ b) (hu : 0 ≤ u) (hbd : b + d ≤ 40)
    (hall : vldN 2 fr tq ix kids b u d = true) (hsh : shapeB 2 fr tq ix kids = true) (hv : vldF kids b 0 (d - 1) = true) :
    Calls Tryd.prog 98 #[.agg #[.int .i64 2, .string fr, .string tq, .int .i64 ix, sv]] w fun e w' => e = .returned (.string (txN 2 fr tq ix kids)) ∧ Below w.heap.size w w' := by
  have htot := txN_size hb hu hbd hall
  have htx : fr ++ tq ++ txF kids .first ++ bclose = txN 2 fr tq ix kids := rfl
  obtain ⟨e1, e2, e3, rfl, e5⟩ := shape_msg hsh
  have hfr : fr.size = 1 := role_size e1
  have hto : tq.size = 1 := role_size e2
  obtain ⟨a, cap, rfl, hlen, hat⟩ := hs.at
  unfold maxLen at hlen
  have hb0 := alloc_below w (.cells #[.int .i64 2, .string fr, .string tq, .int .i64 0, .slice a kids.len cap] ( /- t -/ 39))
  obtain ⟨hc4, hsz⟩ := box5_now w (.int .i64 2) (.string fr) (.string tq) (.int .i64 0) (.slice a kids.len cap) ( /- t -/ 39)
  have HA := hide (hat.still (Still.of_below hb0))
  have HN := hide hn
  have HT := hide htot
  have HX := hide htx
  have HV := hide hv
  have HG := hide hbig
  clear hs hsh hat hn htot htx hall hv e1 e2 e3 e5 hbig
  go_enter Tryd.func98, Tryd.ntmps98
  go_wp2_with fail
  generalize (w.alloc (.cells #[.int .i64 2, .string fr, .string tq, .int .i64 0, .slice a kids.len cap] ( /- t -/ 39))) = W at *
  go_loopw [3, 4, 5] (fun ov iv _ wr => ∃ (g : F) (s : ByteArray) (k : Nat), k + g.len = kids.len ∧ ov = .string s ∧ iv = .int .i64 k ∧ g.sz ≤ kids.sz ∧ At W a k g ∧ vldF g b 0 (d - 1) = true ∧ s ++ txF g (md k) ++ bclose = txN 2 fr tq 0 kids ∧ Below W.heap.size W wr) (fun _ iv _ _ => kids.len - (intOf iv).toNat)
  case atStart => exact ⟨kids, fr ++ tq, 0, by omega, rfl, rfl, Nat.le_refl _, HA.out, HV.out, HX.out, Below.refl _ _⟩
  case round =>
    obtain ⟨g, s, k, hk, rfl, rfl, h5, hg, hv, htx, hbw⟩ := hrel
    have hssz : s.size ≤ 3000 := by
      have h1 := HT.out
      have h2 := HG.out
      rw [← htx, ByteArray.size_append, ByteArray.size_append] at h1
      omega
    have e4 := (Still.of_below hbw) _ _ hc4
    have HB := hide (hb0.trans (hbw.mono (Nat.le_of_lt hsz)))
    have HY := hide htx
    have HW := hide hv
    cases g with
    | nil =>
      have H5 : Hid (k = kids.len) := by unfold Hid; simpa [F.len] using hk
      have hge : kids.len ≤ k := Nat.le_of_eq H5.out.symm
      clear hk htx hv
      go_wp2_with fail
      go_ret
      refine ⟨?_, HB.out⟩
      rw [← HY.out]
      exact congrArg (fun x => Ending.returned (Value.string (x ++ bclose))) (bytes_nil s).symm
    | cons lab kd fr' tq' ix' kids' rest =>
      rw [txF_md] at htx
      have hlt : k < kids.len := by simp only [F.len] at hk; omega
      obtain ⟨b', o, rfl, _, _, _, _, _, q0, q1, q2, q3, q4, ⟨sv', q5, hsv⟩, _⟩ := (hg.still (Still.of_below hbw)).head
      have HK := hide hk
      have HX2 := hide htx
      have HS := hide hsv
      have HG2 := hide hg
      have H5 := hide h5
      have hz : s.size + (1 + lab.size + (txN kd fr' tq' ix' kids').size) ≤ 3000 := by
        have h1 := HT.out
        have h2 := HG.out
        rw [← htx] at h1
        simp only [ByteArray.size_append, sepB_size] at h1
        omega
      simp only [vldF, Bool.and_eq_true] at hv
      have HW2 := hide hv
      have hbr := World.block_lt_of_cell? _ _ q0
      have hsd : Still wr wr.drew := fun _ _ h => h
      have HSd := hide (HS.out.still hsd)
      have hz1 : ∀ c : UInt8, (s ++ ⟨#[c]⟩).size = s.size + 1 := fun c => by rw [ByteArray.size_append]; rfl
      have hz2 : ∀ c : UInt8, (s ++ ⟨#[c]⟩ ++ lab).size = s.size + 1 + lab.size := fun c => by rw [ByteArray.size_append, hz1]
      have HZ1 := hide hz1
      have n1 : ∀ (c : UInt8) (W : World), (Op.stringOp .add s ⟨#[c]⟩).run Tryd.prog W = .ok (.string (s ++ ⟨#[c]⟩)) W := fun c W => run_string_add_sum W _ _ (show s.size + 1 ≤ _ by omega)
      have n2 : ∀ (c : UInt8) (W : World), (Op.stringOp .add (s ++ ⟨#[c]⟩) lab).run Tryd.prog W = .ok (.string (s ++ ⟨#[c]⟩ ++ lab)) W := fun c W => run_string_add_sum W _ _ (by rw [hz1]; omega)
      have n3 : ∀ (c : UInt8) (W : World), (Op.stringOp .add (s ++ ⟨#[c]⟩ ++ lab) (txN kd fr' tq' ix' kids')).run Tryd.prog W = .ok (.string (s ++ ⟨#[c]⟩ ++ lab ++ txN kd fr' tq' ix' kids')) W := fun c W => run_string_add_sum W _ _ (by rw [hz2]; omega)
      clear hk h5 hg hsv htx hv HW HY hz1 hz2 hz
      cases hkb : ((k : Int) == 0)
      all_goals go_wp2_with fail
      all_goals
        (go_region_held3 (fun w' => w'.cell? ⟨w.heap.size, 4, none⟩ = some (.slice (some ⟨b', o, none⟩) kids.len cap) ∧ w'.cell? ⟨b', o + k * 6, none⟩ = some (.string lab) ∧ w'.cell? ⟨b', o + k * 6 + 1, none⟩ = some (.int .i64 kd) ∧
            w'.cell? ⟨b', o + k * 6 + 2, none⟩ = some (.string fr') ∧ w'.cell? ⟨b', o + k * 6 + 3, none⟩ = some (.string tq') ∧ w'.cell? ⟨b', o + k * 6 + 4, none⟩ = some (.int .i64 ix') ∧ w'.cell? ⟨b', o + k * 6 + 5, none⟩ = some sv')
          (first | exact ⟨e4, q0, q1, q2, q3, q4, q5⟩ | exact ⟨g4, l0, l1, l2, l3, l4, l5⟩)
          ((first
            | (go_at_call 98; refine (ih _ kd ix' b 0 (d - 1) fr' tq' sv' kids' ?_ ?_ ?_ ?_ ?_ ?_ ?_).mono ?_; (have h1 := H5.out; have h2 := HN.out; simp only [F.sz] at h1; omega); (have h1 := H5.out; have h2 := HG.out; simp only [F.sz] at h1; omega); (exact HSd.out); (exact hb); (omega); (omega); (exact HW2.out.1);
               rintro e w6 ⟨rfl, hb12⟩; have hst := hsd.trans (Still.of_below hb12); have g4 := hst _ _ e4; have l0 := hst _ _ q0; have l1 := hst _ _ q1; have l2 := hst _ _ q2; have l3 := hst _ _ q3; have l4 := hst _ _ q4; have l5 := hst _ _ q5))))
        have hb14 := hbw.drew.trans (hb12.mono hbw.drew.size)
        clear hb12 hst g4 l0 l1 l2 l3 l4 l5
        go_wp2_with fail
        refine ⟨⟨rest, s ++ sepB k ++ lab ++ txN kd fr' tq' ix' kids', k + 1, ?_, ?_, by go_num, ?_, HG2.out.tail, HW2.out.2, ?_, ?_⟩, by simp [intOf]; omega⟩
        · have := HK.out
          simp only [F.len] at this
          omega
        · by_cases hk0 : k = 0
          · first
            | (exfalso; rw [hk0] at hkb; simp at hkb; done)
            | (unfold sepB; rw [if_pos hk0]; rfl)
          · first
            | (exfalso; have h9 := beq_iff_eq.1 hkb; omega)
            | (unfold sepB; rw [if_neg hk0]; rfl)
        · have := H5.out
          simp only [F.sz] at this
          omega
        · rw [← HX2.out]
          simp only [bytes_assoc]
        · exact hb14

theorem fmt_all : ∀ n, FmtAt n := by
  intro n
  induction n with
  | zero => intro w k ix b u d fr tq sv kids hn; omega
  | succ n ih =>
    intro w k ix b u d fr tq sv kids hn hbig hs hb hu hbd hv
    have hv2 := hv
    unfold vldN at hv2
    obtain ⟨hd, hsh, hk⟩ := node_kinds hu hv2
    rcases hk with rfl | ⟨rfl, h0, h1, -⟩ | ⟨rfl, h3⟩ | ⟨rfl, h2⟩
    · exact fmt_end w ix fr tq sv kids hs
    · exact fmt_var w ix fr tq sv kids hs h0 (by omega)
    · exact fmt_rec n ih w ix b u d fr tq sv kids hn hbig hs hb hu hbd hsh h3
    · exact fmt_msg n ih w ix b u d fr tq sv kids hn hbig hs hb hu hbd hv hsh h2

set_option maxHeartbeats 400000 in
set_option maxRecDepth 100000 in
/-- FormatGlobal of the model. -/
theorem specFormat (w : World) (k ix : Int) (fr tq : ByteArray) (sv : Value) (kids : F) (hs : Sl w sv kids) (hbig : kids.sz ≤ 1048576) :
    Calls Tryd.prog 55 #[.agg #[.int .i64 k, .string fr, .string tq, .int .i64 ix, sv]] w fun e w' => e = .returned (.string (textN k fr tq ix kids)) ∧ Below w.heap.size w w' := by
  have HS := hide hs
  clear hs
  go_enter Tryd.func55, Tryd.ntmps55
  go_wp2_with fail
  refine (specValid _ k ix fr tq sv kids (HS.out.still (Still.of_below (alloc_below _ _))) hbig).mono ?_
  rintro e w1 ⟨rfl, hb⟩
  obtain ⟨c0, c1, c2, c3, c4, hlt, hb2⟩ := box5 hb
  clear hb
  cases hv : okN k fr tq ix kids with
  | false =>
    go_wp2_with fail
    go_ret
    refine ⟨?_, hb2⟩
    unfold textN
    rw [hv]
    rfl
  | true =>
    have HV := hide hv
    have h2 := hv
    unfold okN at h2
    simp only [Bool.and_eq_true, decide_eq_true_eq] at h2
    have H2 := hide h2
    clear hv h2
    go_wp2_with fail
    refine (fmt_all (kids.sz + 1) _ k ix 0 0 40 fr tq sv kids (Nat.lt_succ_self _) (by have := H2.out.2; omega) (HS.out.still (Still.of_below hb2)) (by omega) (by omega) (by omega) H2.out.1).mono ?_
    rintro e w2 ⟨rfl, hb3⟩
    have hb4 := hb2.trans (hb3.mono hb2.size)
    clear hb3
    go_wp2_with fail
    go_ret
    refine ⟨?_, hb4⟩
    unfold textN
    rw [HV.out]
    rfl
end Go.Proofs.YtgcefippeokmcaaDoor
