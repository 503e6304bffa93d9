/- The source of the model's drawings: its block; pick, of, num. -/
import Derived.Test.YtfppglfajbmapaaDoorRows
import Derived.Test.YtfppglfajbmapaaDoorRg
import Derived.Test.YtfppglfajbmapaaDoorVal
import Derived.WalkKit
import Derived.WalkSpells
import Derived.WalkLawsBesides
import Derived.Laws.Bits64
import Derived.Deep.QuietTactic
import Derived.BigQuiet
namespace Go.Proofs.YtfppglfajbmapaaDoor
open Go.RowKit

/-- A byte in a cell. -/
def elY : El Nat where
  st := 1
  P w b o n := n < 256 ∧ w.cell? ⟨b, o, none⟩ = some (.int .u8 (n : Int))
  still h := fun ⟨l, c⟩ => ⟨l, h _ _ c⟩

/-- The source: its block, what it reads from, how often it was asked. -/
structure Rd (w : World) (rb : Nat) (cv : Value) (l : List Nat) (p : Nat) : Prop where
  hx : ∃ t, w.heap[rb]? = some (.cells #[cv, .int .i64 (p : Int)] t (0, 0))
  hs : SlG elY w cv l
  hb : l ≠ [] → ∀ b o n c, cv = .slice (some ⟨b, o, none⟩) n c → b ≠ rb
  hl : l.length ≤ 2000

theorem Rd.lt {w : World} {rb : Nat} {cv : Value} {l : List Nat} {p : Nat} (h : Rd w rb cv l p) : rb < w.heap.size := by
  obtain ⟨t, h⟩ := h.hx
  exact (Array.getElem?_eq_some_iff.1 h).1
theorem Rd.cells {w : World} {rb : Nat} {cv : Value} {l : List Nat} {p : Nat} (h : Rd w rb cv l p) : w.cell? ⟨rb, 0, none⟩ = some cv ∧ w.cell? ⟨rb, 1, none⟩ = some (.int .i64 (p : Int)) := by
  obtain ⟨t, h⟩ := h.hx
  exact ⟨cell_of_heap (o := 0) h, cell_of_heap (o := 1) h⟩
theorem Rd.frozen {w : World} {rb : Nat} {cv : Value} {l : List Nat} {p : Nat} (h : Rd w rb cv l p) (o : Nat) : w.frozen? ⟨rb, o, none⟩ = false := by
  obtain ⟨t, h⟩ := h.hx
  simp [World.frozen?, h]
theorem RowG.blocks {α : Type} {E : El α} (hF : E.Flat) {w w' : World} {b : Nat} (hb : w'.heap[b]? = w.heap[b]?) {l : List α} {o : Nat} (h : RowG E w b o l) : RowG E w' b o l :=
  RowG.flat hF (fun _ _ => Same.cell hb) h
theorem elY_flat : elY.Flat := fun hc ⟨l, c⟩ => ⟨l, (hc 0 (by decide)).trans c⟩
theorem RowG.lt1 {w : World} {b o : Nat} {x : Nat} {l : List Nat} (h : RowG elY w b o (x :: l)) : b < w.heap.size := World.block_lt_of_cell? _ _ h.1.2
/-- What is written elsewhere, and a new number in the source's own cell, keep the source. -/
theorem Rd.move {w w' : World} {rb : Nat} {cv : Value} {l : List Nat} {p p' : Nat} (h : Rd w rb cv l p) (hk : ∀ b, b < w.heap.size → b ≠ rb → w'.heap[b]? = w.heap[b]?)
    (hx : ∃ t, w'.heap[rb]? = some (.cells #[cv, .int .i64 (p' : Int)] t (0, 0))) : Rd w' rb cv l p' := by
  refine ⟨hx, ?_, h.hb, h.hl⟩
  obtain ⟨a, cap, e, h1, h2, h3⟩ := h.hs
  refine ⟨a, cap, e, h1, h2, ?_⟩
  rcases h3 with h3 | ⟨b, o, e2, h3⟩
  · exact Or.inl h3
  · subst e2
    cases l with
    | nil => exact Or.inl rfl
    | cons x r => exact Or.inr ⟨b, o, rfl, RowG.blocks elY_flat (hk b h3.lt1 (h.hb (List.cons_ne_nil _ _) b o _ _ e)) h3⟩
theorem Rd.below {w w' : World} {rb : Nat} {cv : Value} {l : List Nat} {p : Nat} (h : Rd w rb cv l p) (hb : Below w.heap.size w w') : Rd w' rb cv l p := by
  obtain ⟨t, hx⟩ := h.hx
  exact h.move (fun b hl _ => hb.block b hl) ⟨t, (hb.block rb h.lt).trans hx⟩
theorem Rd.drew {w : World} {rb : Nat} {cv : Value} {l : List Nat} {p : Nat} (h : Rd w rb cv l p) : Rd w.drew rb cv l p := ⟨h.hx, h.hs.still (still_drew w), h.hb, h.hl⟩
theorem Rd.next {w : World} {rb : Nat} {cv : Value} {l : List Nat} {p : Nat} (h : Rd w rb cv l p) : Rd (w.setCell ⟨rb, 1, none⟩ (.int .i64 ((p : Int) + 1))) rb cv l (p + 1) := by
  obtain ⟨t, hx⟩ := h.hx
  refine h.move (fun b _ hne => Below.heap_setCell _ _ _ _ hne) ⟨t, ?_⟩
  simp [World.setCell, Array.getElem?_modify, hx]

theorem xor_i64 (a b : Nat) (ha : a < 9223372036854775808) (hb : b < 9223372036854775808) : ∃ v : Nat, v < 9223372036854775808 ∧ bits .xor .i64 (a : Int) (b : Int) = (v : Int) := by
  have hx : a ^^^ b < 2 ^ 63 := Nat.xor_lt_two_pow (by omega) (by omega)
  refine ⟨a ^^^ b, hx, ?_⟩
  have h1 : (BitVec.ofInt 64 (a : Int)).toNat = a := by
    rw [BitVec.ofInt_natCast, BitVec.toNat_ofNat]; exact Nat.mod_eq_of_lt (by omega)
  have h2 : (BitVec.ofInt 64 (b : Int)).toNat = b := by
    rw [BitVec.ofInt_natCast, BitVec.toNat_ofNat]; exact Nat.mod_eq_of_lt (by omega)
  show IntKind.i64.wrap ((BitVec.ofInt 64 (a : Int) ^^^ BitVec.ofInt 64 (b : Int)).toNat : Int) = _
  rw [BitVec.toNat_xor, h1, h2]
  simp [IntKind.wrap, IntKind.bits, IntKind.signed]
  omega

/-- A question more: the source's own cell is written, and nothing else. -/
structure Ask (w : World) (rb : Nat) (cv : Value) (l : List Nat) (p : Nat) (w' : World) : Prop where
  only : Only rb w w'
  rd : Rd w' rb cv l (p + 1)
  size : w'.heap.size = w.heap.size
theorem Only.drewN {c : Nat} {a b : World} (h : Only c a b) (n : Nat) : Only c a (b.drewN n) := ⟨h.os, h.tape, h.output, h.size, h.block⟩
theorem Rd.drewN {w : World} {rb : Nat} {cv : Value} {l : List Nat} {p : Nat} (h : Rd w rb cv l p) (n : Nat) : Rd (w.drewN n) rb cv l p := by
  obtain ⟨t, hx⟩ := h.hx
  exact h.move (fun b _ _ => rfl) ⟨t, hx⟩
theorem Rd.ask {w : World} {rb : Nat} {cv : Value} {l : List Nat} {p : Nat} (h : Rd w rb cv l p) (n : Nat) : Ask w rb cv l p ((w.setCell ⟨rb, 1, none⟩ (.int .i64 ((p : Int) + 1))).drewN n) := by
  have ho : Only rb w (w.setCell ⟨rb, 1, none⟩ (.int .i64 ((p : Int) + 1))) := (Only.refl rb w).setCell (Or.inl rfl) _
  exact ⟨ho.drewN n, h.next.drewN n, by simp⟩
theorem Rd.ask0 {w : World} {rb : Nat} {cv : Value} {l : List Nat} {p : Nat} (h : Rd w rb cv l p) : Ask w rb cv l p (w.setCell ⟨rb, 1, none⟩ (.int .i64 ((p : Int) + 1))) := h.ask 0

/-- What pick leaves: a number below n, and one question more. -/
def PickP (w : World) (rb : Nat) (cv : Value) (l : List Nat) (p : Nat) (n : Int) (e : Ending) (w' : World) : Prop :=
  ∃ v : Nat, e = .returned (.int .i64 (v : Int)) ∧ ((v : Int) < n ∨ v = 0) ∧ Ask w rb cv l p w'

set_option maxHeartbeats 1600000 in
theorem pick_calls (w : World) (rb : Nat) (cv : Value) (l : List Nat) (p : Nat) (h : Rd w rb cv l p) (hp : p ≤ 1000000) (n : Int) (hn : n ≤ 1000000) :
    Calls Tryd.prog 41 #[.pointer (some ⟨rb, 0, none⟩), .int .i64 n] w (PickP w rb cv l p n) := by
  obtain ⟨c0, c1⟩ := h.cells
  have f1 := h.frozen 1
  have hlt := h.lt
  have HRD := hide h
  have HA := hide h.ask0
  have HAN := hide (fun n => h.ask n)
  obtain ⟨a, cap, rfl, h1, h2, h3⟩ := h.hs
  have hl := h.hl
  by_cases hn1 : n < 1
  · go_enter Tryd.func41, Tryd.ntmps41
    go_wp2_with fail
    go_ret
    exact ⟨0, rfl, Or.inr rfl, HA.out⟩
  · by_cases hl0 : l.length = 0
    · rw [hl0] at c0 HA
      go_enter Tryd.func41, Tryd.ntmps41
      go_wp2_with fail
      go_ret
      exact ⟨0, rfl, Or.inr rfl, HA.out⟩
    · have hbyte : ∀ i, i < l.length → ∃ b o x : Nat, a = some ⟨b, o, none⟩ ∧ x < 256 ∧ (w.setCell ⟨rb, 1, none⟩ (.int .i64 ((p : Int) + 1))).cell? ⟨b, o + i, none⟩ = some (.int .u8 (x : Int)) := by
        intro i hi
        obtain ⟨b, o, e, hx, hc⟩ := h.hs.get (i := i) (x := l[i]) (List.getElem?_eq_getElem hi)
        refine ⟨b, o, l[i], e, hx, ?_⟩
        have hne := h.hb (by rintro rfl; simp at hi) b o _ _ (by rw [e])
        rw [Same.cell (Below.heap_setCell _ _ _ _ hne)]
        simpa [elY] using hc
      have HB := hide hbyte
      clear hbyte
      by_cases hpl : p < l.length
      · obtain ⟨b, o, x, rfl, hx, hc⟩ := HB.out p hpl
        go_enter Tryd.func41, Tryd.ntmps41
        go_wp2_with fail
        obtain ⟨N, rfl⟩ : ∃ N : Nat, n = (N : Int) := ⟨n.toNat, by omega⟩
        go_ret
        refine ⟨x % N, ?_, Or.inl (by have := Nat.mod_lt x (show 0 < N by omega); omega), HA.out⟩
        rfl
      · have hq1 := Nat.mod_lt p (show 0 < l.length by omega)
        have hq2 := Nat.mod_lt (p * 7 + 3) (show 0 < l.length by omega)
        have hq3 : p / l.length ≤ p := Nat.div_le_self _ _
        obtain ⟨b, o, x, rfl, hx, hc⟩ := HB.out (p % l.length) hq1
        obtain ⟨b2, o2, y, e2, hy, hd⟩ := HB.out ((p * 7 + 3) % l.length) hq2
        injection e2 with e2
        injection e2 with e3 e4
        subst e3 e4
        have e1 : (p : Int).tmod (l.length : Int) = ((p % l.length : Nat) : Int) := (Int.ofNat_tmod p l.length).symm
        have e2 : ((p : Int) * 7 + 3).tmod (l.length : Int) = (((p * 7 + 3) % l.length : Nat) : Int) := by
          rw [show (p : Int) * 7 + 3 = ((p * 7 + 3 : Nat) : Int) by omega]; exact (Int.ofNat_tmod _ _).symm
        have e3 : (p : Int).tdiv (l.length : Int) = ((p / l.length : Nat) : Int) := (Int.ofNat_tdiv p l.length).symm
        have hl1 : ¬ (l.length : Int) = 0 := by omega
        generalize hM : p % l.length = M at *
        generalize hK : (p * 7 + 3) % l.length = K at *
        generalize hV : p / l.length = V at *
        clear hM hK hV HB h h3
        go_enter Tryd.func41, Tryd.ntmps41
        go_wp2_with fail
        go_quiet (fail)
        have hX : x * 131 + y * 1117 + p * 29 + V * 53 < 9223372036854775808 := by omega
        obtain ⟨X, hXe⟩ : ∃ X, X = x * 131 + y * 1117 + p * 29 + V * 53 := ⟨_, rfl⟩
        have hXi : (x : Int) * 131 + (y : Int) * 1117 + (p : Int) * 29 + (V : Int) * 53 = (X : Int) := by omega
        rw [hXi]
        rw [← hXe] at hX
        clear hXe hXi
        obtain ⟨N, rfl⟩ : ∃ N : Nat, n = (N : Int) := ⟨n.toNat, by omega⟩
        have hd : (X : Int).tdiv 64 = ((X / 64 : Nat) : Int) := (Int.ofNat_tdiv X 64).symm
        obtain ⟨Z, hZ, hZe⟩ := xor_i64 X (X / 64) hX (by omega)
        have hr : (Z : Int).tmod (N : Int) = ((Z % N : Nat) : Int) := (Int.ofNat_tmod Z N).symm
        have hzn := Nat.mod_lt Z (show 0 < N by omega)
        go_wp2_with fail
        go_ret
        have h64 : ((X / 64 : Nat) : Int) = (X : Int) / 64 := by omega
        rw [h64] at hZe
        refine ⟨Z % N, ?_, Or.inl (by omega), HAN.out _⟩
        show Ending.returned (.int .i64 ((bits .xor .i64 (X : Int) ((X : Int) / 64)).tmod (N : Int))) = _
        rw [hZe, hr]
end Go.Proofs.YtfppglfajbmapaaDoor
