/- The program's reader of texts: take, skip, takeLetter, takeMark. -/
import Derived.Test.YtbonmdkfmgahbaaTb
import Derived.Test.YtbonmdkfmgahbaaIs
import Derived.Deep.QuietTactic
import Derived.BigQuiet
import Derived.RegionTactic
namespace Go.Proofs.Ytbonmdkfmgahbaa.Lo.Ne
open Go.RowKit

/-- A reader in a block of its own: what is left of the text. -/
def Rd (w : World) (c : Nat) (s : List UInt8) : Prop := ∃ t, w.heap[c]? = some (.cells #[.string (bs s)] t (0, 0))
theorem Rd.lt {w : World} {c : Nat} {s : List UInt8} (h : Rd w c s) : c < w.heap.size := by
  obtain ⟨t, h⟩ := h
  exact (Array.getElem?_eq_some_iff.1 h).1
theorem Rd.cell {w : World} {c : Nat} {s : List UInt8} (h : Rd w c s) : w.cell? ⟨c, 0, none⟩ = some (.string (bs s)) := by
  obtain ⟨t, h⟩ := h
  simp [World.cell?, h]
theorem Rd.frozen {w : World} {c : Nat} {s : List UInt8} (h : Rd w c s) : w.frozen? ⟨c, 0, none⟩ = false := by
  obtain ⟨t, h⟩ := h
  simp [World.frozen?, h]
theorem Rd.same {w w' : World} {c : Nat} {s : List UInt8} (h : Rd w c s) (e : w'.heap[c]? = w.heap[c]?) : Rd w' c s := by
  obtain ⟨t, h⟩ := h
  exact ⟨t, e.trans h⟩
theorem Rd.below {w w' : World} {c : Nat} {s : List UInt8} (h : Rd w c s) (hb : Below w.heap.size w w') : Rd w' c s := h.same (hb.block _ h.lt)
theorem Rd.drew {w : World} {c : Nat} {s : List UInt8} (h : Rd w c s) : Rd w.drew c s := h
theorem Rd.set {w : World} {c : Nat} {s : List UInt8} (h : Rd w c s) (s' : List UInt8) : Rd (w.setCell ⟨c, 0, none⟩ (.string (bs s'))) c s' := by
  obtain ⟨t, h⟩ := h
  exact ⟨t, heap_setCell_same h _⟩

theorem only_set (w : World) (c : Nat) (u : Value) : Only c w (w.setCell ⟨c, 0, none⟩ u) := (Only.refl c w).setCell (p := ⟨c, 0, none⟩) (Or.inl rfl) u

def hdB : List UInt8 → UInt8
  | [] => 0
  | c :: _ => c
theorem bs_cons_size (c : UInt8) (r : List UInt8) : (bs (c :: r)).size = r.length + 1 := bs_size _
theorem bs_tail (c : UInt8) (r : List UInt8) : (bs (c :: r)).extract 1 (r.length + 1) = bs r := by
  apply ByteArray.ext
  simp only [bs, ByteArray.data_extract, List.extract_toArray]
  rw [List.extract_eq_take_drop]
  simp
theorem bs_ne (c : UInt8) (r : List UInt8) : ¬ (bs (c :: r)).toList = [] := by
  rw [ByteArray.toList_eq]
  simp [bs]

theorem bs_empty : (bs []).toList.isEmpty = true := by
  rw [ByteArray.toList_eq]
  rfl
theorem bs_full (c : UInt8) (r : List UInt8) : (bs (c :: r)).toList.isEmpty = false := by
  rw [ByteArray.toList_eq]
  simp [bs]

set_option maxHeartbeats 400000 in
/-- take. -/
theorem rd_take (w : World) (c : Nat) (s : List UInt8) (hs : s.length ≤ 1048576) (h : Rd w c s) :
    Calls Try.prog 58 #[.pointer (some ⟨c, 0, none⟩)] w fun e w' => e = .returned (.int .u8 (hdB s).toNat) ∧ Rd w' c s.tail ∧ Only c w w' := by
  have hc := h.cell
  have hf := h.frozen
  have hl := h.lt
  have H := hide h
  clear h
  cases s with
  | nil =>
    have he := bs_empty
    go_enter Try.func58, Try.ntmps58
    go_wp2_with fail
    go_ret
    exact ⟨rfl, H.out, Only.refl _ _⟩
  | cons x r =>
    have hsz := bs_cons_size x r
    have htl := bs_tail x r
    have hin : 0 < (bs (x :: r)).size := by omega
    have hget : (bs (x :: r))[0]'hin = x := rfl
    have he := bs_full x r
    go_enter Try.func58, Try.ntmps58
    go_wp2_with fail
    go_ret
    exact ⟨rfl, H.out.set r, only_set w c _⟩

/-- Whether the next byte is d. -/
def nxt (s : List UInt8) (d : UInt8) : Bool :=
  match s with
  | [] => false
  | x :: _ => x == d

set_option maxHeartbeats 400000 in
/-- skip. -/
theorem rd_skip (w : World) (c : Nat) (s : List UInt8) (d : UInt8) (hs : s.length ≤ 1048576) (h : Rd w c s) :
    Calls Try.prog 42 #[.pointer (some ⟨c, 0, none⟩), .int .u8 d.toNat] w fun e w' => e = .returned (.bool (nxt s d)) ∧ Rd w' c (if nxt s d then s.tail else s) ∧ Only c w w' := by
  have hc := h.cell
  have hf := h.frozen
  have hl := h.lt
  have H := hide h
  clear h
  cases s with
  | nil =>
    have he := bs_empty
    go_enter Try.func42, Try.ntmps42
    go_wp2_with fail
    go_ret
    exact ⟨rfl, H.out, Only.refl _ _⟩
  | cons x r =>
    have hsz := bs_cons_size x r
    have htl := bs_tail x r
    have hin : 0 < (bs (x :: r)).size := by omega
    have hget : (bs (x :: r))[0]'hin = x := rfl
    have he := bs_full x r
    by_cases hx : x = d
    · have hxx : (x.toNat : Int) = d.toNat := by rw [hx]
      have hn : nxt (x :: r) d = true := by simp [nxt, hx]
      rw [hn]
      clear hx hn
      go_enter Try.func42, Try.ntmps42
      go_wp2_with fail
      go_ret
      exact ⟨rfl, H.out.set r, only_set w c _⟩
    · have hxn : ¬ (x.toNat : Int) = d.toNat := fun h => hx (UInt8.toNat_inj.1 (by omega))
      have hxb : ((x.toNat : Int) == d.toNat) = false := beq_eq_false_iff_ne.2 hxn
      have hn : nxt (x :: r) d = false := by simp [nxt, hx]
      rw [hn]
      clear hx hn
      go_enter Try.func42, Try.ntmps42
      go_wp2_with fail
      go_ret
      exact ⟨rfl, H.out, Only.refl _ _⟩

set_option maxHeartbeats 400000 in
/-- takeMark. -/
theorem rd_mark (w : World) (c : Nat) (s : List UInt8) (hs : s.length ≤ 1048576) (h : Rd w c s) :
    Calls Try.prog 45 #[.pointer (some ⟨c, 0, none⟩)] w fun e w' => e = .returned (.tuple #[.bool (hdB s == 63), .bool (hdB s == 63 || hdB s == 33)]) ∧ Rd w' c s.tail ∧ Only c w w' := by
  have H := hide h
  clear h
  generalize hd : hdB s = d
  have HD := hide hd
  clear hd
  go_enter Try.func45, Try.ntmps45
  go_wp2_with fail
  refine (rd_take w c s hs H.out).mono ?_
  rintro e w1 ⟨rfl, hr, ho⟩
  rw [HD.out]
  by_cases h1 : d = 63
  · have e1 : (d.toNat : Int) = 63 := by rw [h1]; rfl
    have H1 := hide h1
    clear h1
    go_wp2_with fail
    go_ret2
    exact ⟨by rw [H1.out]; rfl, hr, ho⟩
  · have e1 : ¬ (d.toNat : Int) = 63 := fun h => h1 (UInt8.toNat_inj.1 (by have : (63 : UInt8).toNat = 63 := rfl; omega))
    have e1b : ((d.toNat : Int) == 63) = false := beq_eq_false_iff_ne.2 e1
    by_cases h2 : d = 33
    · have e2 : (d.toNat : Int) = 33 := by rw [h2]; rfl
      have H2 := hide h2
      clear h1 h2
      go_wp2_with fail
      go_ret2
      exact ⟨by rw [H2.out]; rfl, hr, ho⟩
    · have e2 : ¬ (d.toNat : Int) = 33 := fun h => h2 (UInt8.toNat_inj.1 (by have : (33 : UInt8).toNat = 33 := rfl; omega))
      have e2b : ((d.toNat : Int) == 33) = false := beq_eq_false_iff_ne.2 e2
      have H1 := hide h1
      have H2 := hide h2
      clear h1 h2
      go_wp2_with fail
      go_ret2
      exact ⟨by rw [beq_eq_false_iff_ne.2 H1.out, beq_eq_false_iff_ne.2 H2.out]; rfl, hr, ho⟩

/-! ### Letters -/

def letR (c : UInt8) : ByteArray := if roleB (bs [c]) then bs [c] else bs []
def letL (c : UInt8) : ByteArray := if labB (bs [c]) then bs [c] else bs []

theorem indexSl_roles (c : UInt8) (w : World) : Calls Try.prog 66 #[.string ⟨#[65, 66, 67]⟩, .int .u8 c.toNat] w fun e w' => e = .returned (.int .i64 (Lib.indexByte [65, 66, 67] c)) ∧ w' = w := by
  have h72 := run_bytes
  go_enter Try.func66, Try.ntmps66
  go_wp2
  go_ret
  exact ⟨by simp, rfl⟩
theorem index_roles (c : UInt8) (w : World) : Calls Try.prog 59 #[.string ⟨#[65, 66, 67]⟩, .int .u8 c.toNat] w fun e w' => e = .returned (.int .i64 (Lib.indexByte [65, 66, 67] c)) ∧ w' = w := by
  go_enter Try.func59, Try.ntmps59
  go_wp2_with (go_at_call 66; refine (indexSl_roles _ _).mono ?_; rintro e w' ⟨rfl, hw⟩; obtain rfl := hw.symm)
  go_ret
  exact ⟨rfl, rfl⟩
theorem indexSl_labs (c : UInt8) (w : World) : Calls Try.prog 66 #[.string ⟨#[97, 98, 99, 100]⟩, .int .u8 c.toNat] w fun e w' => e = .returned (.int .i64 (Lib.indexByte [97, 98, 99, 100] c)) ∧ w' = w := by
  have h72 := run_bytes
  go_enter Try.func66, Try.ntmps66
  go_wp2
  go_ret
  exact ⟨by simp, rfl⟩
theorem index_labs (c : UInt8) (w : World) : Calls Try.prog 59 #[.string ⟨#[97, 98, 99, 100]⟩, .int .u8 c.toNat] w fun e w' => e = .returned (.int .i64 (Lib.indexByte [97, 98, 99, 100] c)) ∧ w' = w := by
  go_enter Try.func59, Try.ntmps59
  go_wp2_with (go_at_call 66; refine (indexSl_labs _ _).mono ?_; rintro e w' ⟨rfl, hw⟩; obtain rfl := hw.symm)
  go_ret
  exact ⟨rfl, rfl⟩

theorem cases_roles (c : UInt8) : (∃ i : Nat, i < 3 ∧ Lib.indexByte [65, 66, 67] c = (i : Int) ∧ (⟨#[65, 66, 67]⟩ : ByteArray).extract i (i + 1) = bs [c] ∧ letR c = bs [c]) ∨ (Lib.indexByte [65, 66, 67] c = -1 ∧ letR c = bs []) := by
  by_cases h1 : c = 65
  · subst h1; exact Or.inl ⟨0, by omega, by decide, rfl, by unfold letR roleB; rw [ByteArray.toList_eq]; rfl⟩
  by_cases h2 : c = 66
  · subst h2; exact Or.inl ⟨1, by omega, by decide, rfl, by unfold letR roleB; rw [ByteArray.toList_eq]; rfl⟩
  by_cases h3 : c = 67
  · subst h3; exact Or.inl ⟨2, by omega, by decide, rfl, by unfold letR roleB; rw [ByteArray.toList_eq]; rfl⟩
  · refine Or.inr ⟨?_, ?_⟩
    · simp [Lib.indexByte, Ne.symm h1, Ne.symm h2, Ne.symm h3]
    · unfold letR roleB
      rw [ByteArray.toList_eq]
      simp [bs, h1, h2, h3]
theorem cases_labs (c : UInt8) : (∃ i : Nat, i < 4 ∧ Lib.indexByte [97, 98, 99, 100] c = (i : Int) ∧ (⟨#[97, 98, 99, 100]⟩ : ByteArray).extract i (i + 1) = bs [c] ∧ letL c = bs [c]) ∨ (Lib.indexByte [97, 98, 99, 100] c = -1 ∧ letL c = bs []) := by
  by_cases h1 : c = 97
  · subst h1; exact Or.inl ⟨0, by omega, by decide, rfl, rfl⟩
  by_cases h2 : c = 98
  · subst h2; exact Or.inl ⟨1, by omega, by decide, rfl, rfl⟩
  by_cases h3 : c = 99
  · subst h3; exact Or.inl ⟨2, by omega, by decide, rfl, rfl⟩
  by_cases h4 : c = 100
  · subst h4; exact Or.inl ⟨3, by omega, by decide, rfl, rfl⟩
  · refine Or.inr ⟨?_, ?_⟩
    · simp [Lib.indexByte, Ne.symm h1, Ne.symm h2, Ne.symm h3, Ne.symm h4]
    · have h : labB (bs [c]) = false := by
        show labB ⟨#[c]⟩ = false
        rw [← idx_lab]
        simp [Lib.indexByte, Ne.symm h1, Ne.symm h2, Ne.symm h3, Ne.symm h4]
      unfold letL
      rw [h]
      rfl

set_option maxHeartbeats 400000 in
/-- takeLetter among the roles. -/
theorem rd_role (w : World) (c : Nat) (s : List UInt8) (hs : s.length ≤ 1048576) (h : Rd w c s) :
    Calls Try.prog 44 #[.pointer (some ⟨c, 0, none⟩), .string ⟨#[65, 66, 67]⟩] w fun e w' => e = .returned (.string (letR (hdB s))) ∧ Rd w' c s.tail ∧ Only c w w' := by
  have H := hide h
  clear h
  generalize hd : hdB s = d
  have HD := hide hd
  clear hd
  have hsz : (ByteArray.mk #[65, 66, 67]).size = 3 := rfl
  go_enter Try.func44, Try.ntmps44
  go_wp2_with fail
  refine (rd_take w c s hs H.out).mono ?_
  rintro e w1 ⟨rfl, hr, ho⟩
  rw [HD.out]
  rcases cases_roles d with ⟨i, hi, e1, e2, e3⟩ | ⟨e1, e3⟩
  · have E3 := hide e3
    clear e3
    go_wp2_with fail
    refine (index_roles d w1).mono ?_
    rintro e w' ⟨rfl, rfl⟩
    rw [e1]
    clear e1
    go_wp2_with fail
    go_ret
    exact ⟨by rw [E3.out]; rfl, hr, ho⟩
  · have E3 := hide e3
    clear e3
    go_wp2_with fail
    refine (index_roles d w1).mono ?_
    rintro e w' ⟨rfl, rfl⟩
    rw [e1]
    clear e1
    go_wp2_with fail
    go_ret
    exact ⟨by rw [E3.out]; rfl, hr, ho⟩

set_option maxHeartbeats 400000 in
/-- takeLetter among the labels. -/
theorem rd_lab (w : World) (c : Nat) (s : List UInt8) (hs : s.length ≤ 1048576) (h : Rd w c s) :
    Calls Try.prog 44 #[.pointer (some ⟨c, 0, none⟩), .string ⟨#[97, 98, 99, 100]⟩] w fun e w' => e = .returned (.string (letL (hdB s))) ∧ Rd w' c s.tail ∧ Only c w w' := by
  have H := hide h
  clear h
  generalize hd : hdB s = d
  have HD := hide hd
  clear hd
  have hsz : (ByteArray.mk #[97, 98, 99, 100]).size = 4 := rfl
  go_enter Try.func44, Try.ntmps44
  go_wp2_with fail
  refine (rd_take w c s hs H.out).mono ?_
  rintro e w1 ⟨rfl, hr, ho⟩
  rw [HD.out]
  rcases cases_labs d with ⟨i, hi, e1, e2, e3⟩ | ⟨e1, e3⟩
  · have E3 := hide e3
    clear e3
    go_wp2_with fail
    refine (index_labs d w1).mono ?_
    rintro e w' ⟨rfl, rfl⟩
    rw [e1]
    clear e1
    go_wp2_with fail
    go_ret
    exact ⟨by rw [E3.out]; rfl, hr, ho⟩
  · have E3 := hide e3
    clear e3
    go_wp2_with fail
    refine (index_labs d w1).mono ?_
    rintro e w' ⟨rfl, rfl⟩
    rw [e1]
    clear e1
    go_wp2_with fail
    go_ret
    exact ⟨by rw [E3.out]; rfl, hr, ho⟩

end Go.Proofs.Ytbonmdkfmgahbaa.Lo.Ne
