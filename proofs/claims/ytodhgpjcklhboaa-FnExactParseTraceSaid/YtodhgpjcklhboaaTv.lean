/- Texts of traces read back: values. -/
import Derived.Test.YtodhgpjcklhboaaAf
namespace Go.Proofs.Ytodhgpjcklhboaa.Lo.Ne
open Go.RowKit

/-- A list of bytes as a string. -/
def bs (l : List UInt8) : ByteArray := ⟨l.toArray⟩
theorem bs_list (s : ByteArray) : bs s.data.toList = s := by
  apply ByteArray.ext
  simp [bs]
theorem bs_inj {a b : List UInt8} (h : bs a = bs b) : a = b := by
  have := congrArg (fun x => x.data.toList) h
  simpa [bs] using this
theorem bs_append (a b : List UInt8) : bs (a ++ b) = bs a ++ bs b := by
  apply ByteArray.ext
  simp [bs, ByteArray.data_append]
theorem bs_size (a : List UInt8) : (bs a).size = a.length := by simp [bs, ByteArray.size]

def actOf (c0 c1 c2 c3 : UInt8) : Act := ⟨bs [c0], c1 == 63, bs [c2], bs [c3]⟩
def okC (c0 c1 c2 c3 c4 : UInt8) : Bool := (c1 == 63 || c1 == 33) && (okA (actOf c0 c1 c2 c3) && c4 == 32)
/-- The trace of a text. -/
def pT : List UInt8 → Option (List Act)
  | [] => some []
  | c0 :: c1 :: c2 :: c3 :: c4 :: rest => if okC c0 c1 c2 c3 c4 then (pT rest).map (actOf c0 c1 c2 c3 :: ·) else none
  | _ => none
def resT (s : List UInt8) : Option (List Act) :=
  match pT s with
  | some t => if t.length ≤ 24 then some t else none
  | none => none

theorem one_bs (s : ByteArray) (h : s.size = 1) : ∃ c, s = bs [c] := one_of_size s h
theorem markB_bs (rc : Bool) : markB rc = bs [if rc then 63 else 33] := by cases rc <;> rfl

/-- A well-formed action's bytes. -/
theorem okA_bytes {a : Act} (h : okA a = true) : ∃ c0 c1 c2 c3, a = actOf c0 c1 c2 c3 ∧ txA a = bs [c0, c1, c2, c3, 32] ∧ okC c0 c1 c2 c3 32 = true := by
  obtain ⟨r, rc, p, l⟩ := a
  obtain ⟨h1, h2, h3⟩ := okA_sizes h
  obtain ⟨c0, rfl⟩ := one_bs r h1
  obtain ⟨c2, rfl⟩ := one_bs p h2
  obtain ⟨c3, rfl⟩ := one_bs l h3
  have e : (⟨bs [c0], rc, bs [c2], bs [c3]⟩ : Act) = actOf c0 (if rc then 63 else 33) c2 c3 := by
    unfold actOf
    cases rc <;> rfl
  refine ⟨c0, if rc then 63 else 33, c2, c3, e, ?_, ?_⟩
  · unfold txA
    simp only [markB_bs]
    rw [show bsp = bs [32] from rfl, ← bs_append, ← bs_append, ← bs_append, ← bs_append]
    rfl
  · unfold okC
    rw [← e, h]
    cases rc <;> rfl

theorem pT_tx : ∀ {l : List Act}, l.all okA = true → ∃ s, txT l = bs s ∧ pT s = some l
  | [], _ => ⟨[], rfl, rfl⟩
  | a :: r, h => by
    simp only [List.all_cons, Bool.and_eq_true] at h
    obtain ⟨s, e1, e2⟩ := pT_tx h.2
    obtain ⟨c0, c1, c2, c3, e3, e4, e5⟩ := okA_bytes h.1
    refine ⟨[c0, c1, c2, c3, 32] ++ s, ?_, ?_⟩
    · simp only [txT]
      rw [e1, e4, ← bs_append]
    · show pT (c0 :: c1 :: c2 :: c3 :: 32 :: s) = _
      unfold pT
      rw [if_pos e5, e2, e3]
      rfl

theorem okC_parts {c0 c1 c2 c3 c4 : UInt8} (h : okC c0 c1 c2 c3 c4 = true) : (c1 = 63 ∨ c1 = 33) ∧ okA (actOf c0 c1 c2 c3) = true ∧ c4 = 32 := by
  unfold okC at h
  simp only [Bool.and_eq_true, Bool.or_eq_true, beq_iff_eq] at h
  exact ⟨h.1, h.2.1, h.2.2⟩

theorem txA_okC {c0 c1 c2 c3 c4 : UInt8} (h : okC c0 c1 c2 c3 c4 = true) : txA (actOf c0 c1 c2 c3) = bs [c0, c1, c2, c3, c4] := by
  obtain ⟨h1, _, rfl⟩ := okC_parts h
  unfold txA actOf
  simp only [markB_bs]
  rw [show bsp = bs [32] from rfl, ← bs_append, ← bs_append, ← bs_append, ← bs_append]
  rcases h1 with rfl | rfl <;> rfl

theorem pT_inv : ∀ (s : List UInt8) {t : List Act}, pT s = some t → t.all okA = true ∧ txT t = bs s
  | [], t, h => by
    simp only [pT, Option.some.injEq] at h
    subst h
    exact ⟨rfl, rfl⟩
  | c0 :: c1 :: c2 :: c3 :: c4 :: rest, t, h => by
    unfold pT at h
    split at h
    · rename_i hok
      rw [Option.map_eq_some_iff] at h
      obtain ⟨t', h1, rfl⟩ := h
      obtain ⟨h2, h3⟩ := pT_inv rest h1
      refine ⟨?_, ?_⟩
      · simp only [List.all_cons, h2, (okC_parts hok).2.1, Bool.and_self]
      · simp only [txT]
        rw [h3, txA_okC hok, ← bs_append]
        rfl
    · cases h
  | [_], _, h => by simp [pT] at h
  | [_, _], _, h => by simp [pT] at h
  | [_, _, _], _, h => by simp [pT] at h
  | [_, _, _, _], _, h => by simp [pT] at h

/-! ### The fields between spaces -/

def cut : List UInt8 → List (List UInt8)
  | [] => [[]]
  | c :: s => if c = 32 then [] :: cut s else match cut s with
    | f :: fs => (c :: f) :: fs
    | [] => [[c]]
theorem cut_ne : ∀ s, cut s ≠ []
  | [] => by simp [cut]
  | c :: s => by
    unfold cut
    split
    · simp
    · split <;> simp
/-- A beginning in front of the first field. -/
def glue (p : List UInt8) : List (List UInt8) → List (List UInt8)
  | [] => [p]
  | f :: fs => (p ++ f) :: fs
theorem glue_nil {l : List (List UInt8)} (h : l ≠ []) : glue [] l = l := by
  cases l with
  | nil => exact absurd rfl h
  | cons => rfl
theorem glue_space (p s : List UInt8) : glue p (cut (32 :: s)) = p :: cut s := by
  simp [cut, glue]
theorem glue_other {c : UInt8} (hc : c ≠ 32) (p s : List UInt8) : glue p (cut (c :: s)) = glue (p ++ [c]) (cut s) := by
  have e : cut (c :: s) = (match cut s with | f :: fs => (c :: f) :: fs | [] => [[c]]) := by rw [cut, if_neg hc]
  rw [e]
  cases h : cut s with
  | nil => exact absurd h (cut_ne s)
  | cons f fs => simp [glue]

def mk (f : List UInt8) : Act :=
  match f with
  | [c0, c1, c2, c3] => actOf c0 c1 c2 c3
  | _ => ⟨bs [], false, bs [], bs []⟩
/-- The trace that the model reads out of a text. -/
def spT (s : List UInt8) : List Act := ((cut s).dropLast.take 25).map mk

theorem role_ne {c : UInt8} (h : roleB (bs [c]) = true) : c ≠ 32 := by
  rintro rfl
  unfold roleB at h
  simp [ByteArray.toList_eq, bs] at h
theorem lab_ne {c : UInt8} (h : labB (bs [c]) = true) : c ≠ 32 := by
  rintro rfl
  revert h
  decide

theorem cut_tx {c0 c1 c2 c3 c4 : UInt8} (h : okC c0 c1 c2 c3 c4 = true) (s : List UInt8) : cut (c0 :: c1 :: c2 :: c3 :: c4 :: s) = [c0, c1, c2, c3] :: cut s := by
  obtain ⟨h1, h2, rfl⟩ := okC_parts h
  unfold okA actOf at h2
  simp only [Bool.and_eq_true] at h2
  have n0 := role_ne h2.1
  have n2 := role_ne h2.2.1
  have n3 := lab_ne h2.2.2.2
  have n1 : c1 ≠ 32 := by rcases h1 with rfl | rfl <;> decide
  have e := glue_nil (cut_ne (c0 :: c1 :: c2 :: c3 :: 32 :: s))
  rw [← e, glue_other n0, glue_other n1, glue_other n2, glue_other n3, glue_space]
  rfl

theorem cut_pT : ∀ (s : List UInt8) {t : List Act}, pT s = some t → ∃ fs, cut s = fs ++ [[]] ∧ fs.map mk = t
  | [], t, h => by
    simp only [pT, Option.some.injEq] at h
    subst h
    exact ⟨[], rfl, rfl⟩
  | c0 :: c1 :: c2 :: c3 :: c4 :: rest, t, h => by
    unfold pT at h
    split at h
    · rename_i hok
      rw [Option.map_eq_some_iff] at h
      obtain ⟨t', h1, rfl⟩ := h
      obtain ⟨fs, h2, h3⟩ := cut_pT rest h1
      exact ⟨[c0, c1, c2, c3] :: fs, by rw [cut_tx hok, h2]; rfl, by simp [mk, h3]⟩
    · cases h
  | [_], _, h => by simp [pT] at h
  | [_, _], _, h => by simp [pT] at h
  | [_, _, _], _, h => by simp [pT] at h
  | [_, _, _, _], _, h => by simp [pT] at h

/-- What the model makes of a text is what its reading says. -/
theorem spT_yes {s : List UInt8} {t : List Act} (h : resT s = some t) : spT s = t ∧ okT t = true ∧ txT t = bs s := by
  unfold resT at h
  split at h
  · rename_i t' h1
    split at h
    · rename_i hl
      injection h with h
      subst h
      obtain ⟨h2, h3⟩ := pT_inv s h1
      obtain ⟨fs, h4, h5⟩ := cut_pT s h1
      refine ⟨?_, ?_, h3⟩
      · unfold spT
        rw [h4, List.dropLast_concat, List.take_of_length_le, h5]
        rw [← List.length_map (f := mk), h5]
        omega
      · unfold okT
        rw [h2, decide_eq_true hl]
        rfl
    · cases h
  · cases h
theorem spT_no {s : List UInt8} (h : resT s = none) : ¬ (okT (spT s) = true ∧ txT (spT s) = bs s) := by
  rintro ⟨h1, h2⟩
  unfold okT at h1
  simp only [Bool.and_eq_true, decide_eq_true_eq] at h1
  obtain ⟨s', e1, e2⟩ := pT_tx h1.1
  rw [h2] at e1
  have := bs_inj e1
  subst this
  unfold resT at h
  rw [e2] at h
  simp [h1.2] at h
end Go.Proofs.Ytodhgpjcklhboaa.Lo.Ne
