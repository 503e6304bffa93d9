/- The source of the model's drawings: of, num and its opening. -/
import Derived.Test.YtfppglfajbmapaaDoorDa
namespace Go.Proofs.YtfppglfajbmapaaDoor
open Go.RowKit

/-- An int in a cell. -/
def elI64 : El Int where
  st := 1
  P w b o n := w.cell? ⟨b, o, none⟩ = some (.int .i64 n)
  still h := fun c => h _ _ c
theorem elI64_flat : elI64.Flat := fun hc c => (hc 0 (by decide)).trans c

/-- A slice of what lies elsewhere is read after a question as before. -/
theorem SlG.elsewhere {α : Type} {E : El α} (hF : E.Flat) {w w' : World} {v : Value} {l : List α} (h : SlG E w v l) (hk : ∀ b o n c, v = .slice (some ⟨b, o, none⟩) n c → w'.heap[b]? = w.heap[b]?) : SlG E w' v l := by
  obtain ⟨a, cap, rfl, h1, h2, h3⟩ := h
  refine ⟨a, cap, rfl, h1, h2, ?_⟩
  rcases h3 with h3 | ⟨b, o, rfl, h3⟩
  · exact Or.inl h3
  · exact Or.inr ⟨b, o, rfl, RowG.blocks hF (hk b o _ _ rfl) h3⟩

theorem SlG.lt {α : Type} {E : El α} {w : World} {v : Value} {l : List α} (h : SlG E w v l) (hne : 0 < l.length) (hE : ∀ {b o : Nat} {x : α}, E.P w b o x → b < w.heap.size) : ∀ b o n c, v = .slice (some ⟨b, o, none⟩) n c → b < w.heap.size := by
  obtain ⟨a, cap, rfl, h1, h2, h3⟩ := h
  intro b o n c e
  rcases h3 with rfl | ⟨b', o', rfl, h3⟩
  · simp at hne
  · injection e with e
    injection e with e
    injection e with e1
    subst e1
    cases l with
    | nil => simp at hne
    | cons x r => exact hE h3.1

def OfP (w : World) (rb : Nat) (cv : Value) (l : List Nat) (p : Nat) (S : List ByteArray) (e : Ending) (w' : World) : Prop :=
  ∃ s, s ∈ S ∧ e = .returned (.string s) ∧ Ask w rb cv l p w'
def NumP (w : World) (rb : Nat) (cv : Value) (l : List Nat) (p : Nat) (S : List Int) (e : Ending) (w' : World) : Prop :=
  ∃ s, s ∈ S ∧ e = .returned (.int .i64 s) ∧ Ask w rb cv l p w' 

set_option maxHeartbeats 800000 in
theorem of_calls (w : World) (rb : Nat) (cv : Value) (l : List Nat) (p : Nat) (h : Rd w rb cv l p) (hp : p ≤ 1000000) (S : List ByteArray) (sv : Value) (hs : SlG elS w sv S) (hne : 0 < S.length) (hn : S.length ≤ 1000) (hb : ∀ b o n c, sv = .slice (some ⟨b, o, none⟩) n c → b ≠ rb) :
    Calls Tryd.prog 43 #[.pointer (some ⟨rb, 0, none⟩), sv] w (OfP w rb cv l p S) := by
  have HS := hide (fun (w' : World) (ho : Only rb w w') => hs.elsewhere elS_flat (w' := w') (fun b o n c e => ho.block b (hs.lt hne (fun h => World.block_lt_of_cell? _ _ h.2) b o n c e) (hb b o n c e)))
  obtain ⟨a, cap, rfl, h1, h2, h3⟩ := hs
  have HP := hide (pick_calls w rb cv l p h hp (S.length : Int) (by omega))
  go_enter Tryd.func43, Tryd.ntmps43
  go_wp2_with fail
  refine HP.out.mono ?_
  rintro e w1 ⟨v, rfl, hv, hask⟩
  have hvl : v < S.length := by omega
  have hs2 := HS.out w1 hask.only
  have HASK := hide hask
  obtain ⟨b, o, rfl, hsz, hc⟩ := hs2.get (List.getElem?_eq_getElem hvl)
  have hc' : w1.cell? ⟨b, o + v, none⟩ = some (.string S[v]) := by simpa [elS] using hc
  have hm : S[v] ∈ S := List.getElem_mem hvl
  generalize S[v] = s at *
  have HM := hide hm
  clear hs2 h3 hc hm hask
  go_wp2_with fail
  go_ret
  exact ⟨s, HM.out, rfl, HASK.out⟩

set_option maxHeartbeats 800000 in
theorem num_calls (w : World) (rb : Nat) (cv : Value) (l : List Nat) (p : Nat) (h : Rd w rb cv l p) (hp : p ≤ 1000000) (S : List Int) (sv : Value) (hs : SlG elI64 w sv S) (hne : 0 < S.length) (hn : S.length ≤ 1000) (hb : ∀ b o n c, sv = .slice (some ⟨b, o, none⟩) n c → b ≠ rb) :
    Calls Tryd.prog 89 #[.pointer (some ⟨rb, 0, none⟩), sv] w (NumP w rb cv l p S) := by
  have HS := hide (fun (w' : World) (ho : Only rb w w') => hs.elsewhere elI64_flat (w' := w') (fun b o n c e => ho.block b (hs.lt hne (fun h => World.block_lt_of_cell? _ _ h) b o n c e) (hb b o n c e)))
  obtain ⟨a, cap, rfl, h1, h2, h3⟩ := hs
  have HP := hide (pick_calls w rb cv l p h hp (S.length : Int) (by omega))
  go_enter Tryd.func89, Tryd.ntmps89
  go_wp2_with fail
  refine HP.out.mono ?_
  rintro e w1 ⟨v, rfl, hv, hask⟩
  have hvl : v < S.length := by omega
  have hs2 := HS.out w1 hask.only
  have HASK := hide hask
  obtain ⟨b, o, rfl, hc⟩ := hs2.get (List.getElem?_eq_getElem hvl)
  have hc' : w1.cell? ⟨b, o + v, none⟩ = some (.int .i64 S[v]) := by simpa [elI64] using hc
  have hm : S[v] ∈ S := List.getElem_mem hvl
  generalize S[v] = s at *
  have HM := hide hm
  clear hs2 h3 hc hm hask
  go_wp2_with fail
  go_ret
  exact ⟨s, HM.out, rfl, HASK.out⟩

theorem RowG.take {α : Type} {E : El α} {w : World} {b : Nat} : ∀ {l : List α} {o : Nat} (n : Nat), RowG E w b o l → RowG E w b o (l.take n)
  | [], _, n, _ => by simp [RowG]
  | _ :: _, _, 0, _ => trivial
  | _ :: _, _, n + 1, h => ⟨h.1, RowG.take n h.2⟩
theorem SlG.takeN {α : Type} {E : El α} {w : World} {a : Option Addr} {n cap m : Nat} {l : List α} (h : SlG E w (.slice a n cap) l) (hm : m ≤ l.length) : SlG E w (.slice a m cap) (l.take m) := by
  obtain ⟨a', cap', e, h1, h2, h3⟩ := h
  injection e with e1 e2 e3
  subst e1 e3
  have hlen : (l.take m).length = m := by rw [List.length_take]; omega
  refine ⟨a, cap, by rw [hlen], by omega, h2, ?_⟩
  rcases h3 with rfl | ⟨b, o, rfl, h3⟩
  · exact Or.inl (by simp)
  · exact Or.inr ⟨b, o, rfl, h3.take m⟩
theorem rd_open {w w' : World} {cv : Value} {l : List Nat} (hs : SlG elY w cv l) (hl : l.length ≤ 2000) (hb : Below w.heap.size w w') (hx : ∃ t, w'.heap[w.heap.size]? = some (.cells #[cv, .int .i64 0] t (0, 0))) : Rd w' w.heap.size cv l 0 := by
  refine ⟨hx, hs.still (Still.of_below hb), fun hne b o n c e => ?_, hl⟩
  have := hs.lt (List.length_pos_iff.2 hne) (fun h => World.block_lt_of_cell? _ _ h.2) b o n c e
  omega

/-- The source is opened: a box of its own. -/
theorem open_rd (w : World) (sv : Value) (l : List Nat) (hs : SlG elY w sv l) :
    Calls Tryd.prog 39 #[sv] w fun e w' => ∃ cv l', e = .returned (.pointer (some ⟨w.heap.size, 0, none⟩)) ∧ Rd w' w.heap.size cv l' 0 ∧ Below w.heap.size w w' ∧ w'.heap.size = w.heap.size + 1 := by
  have HS := hide hs
  obtain ⟨a, cap, rfl, h1, h2, h3⟩ := hs
  by_cases hl : l.length ≤ 2000
  · go_enter Tryd.func39, Tryd.ntmps39
    go_wp2_with fail
    go_ret
    refine ⟨_, _, rfl, rd_open HS.out hl ?_ ?_, ?_, ?_⟩
    · exact alloc_below w _
    · exact ⟨130, by show (w.heap.push _)[w.heap.size]? = _; simp⟩
    · exact alloc_below w _
    · simp
  · have hl2 : (2000 : Int) < (l.length : Int) := by omega
    have HT := hide (HS.out.takeN (m := 2000) (by omega))
    have HTL : Hid ((l.take 2000).length ≤ 2000) := hide (by rw [List.length_take]; omega)
    go_enter Tryd.func39, Tryd.ntmps39
    go_wp2_with fail
    go_ret
    refine ⟨_, _, rfl, rd_open HT.out HTL.out ?_ ?_, ?_, ?_⟩
    · exact alloc_below w _
    · exact ⟨130, by show (w.heap.push _)[w.heap.size]? = _; simp⟩
    · exact alloc_below w _
    · simp
end Go.Proofs.YtfppglfajbmapaaDoor
