/- What unfolding a local type gives. -/
import Derived.Test.YtnlihdcjpeabfaaGreatDoorLUl
import Derived.Test.YtnlihdcjpeabfaaGreatDoorLSm
import Derived.Test.YtnlihdcjpeabfaaGreatDoorLSb
namespace Go.Proofs.YtnlihdcjpeabfaaGreatDoor.Lo
open Go.RowKit

def okG (g : Nd) : Bool := okN g.k g.fr g.ix g.kids
theorem okG_w {g : Nd} (h : okG g = true) : wN g 0 0 = true ∧ hN g ≤ 40 ∧ g.kids.sz + 1 ≤ 400 := by
  unfold okG okN at h
  rw [vldN_w g 0 0 40 (by omega) (by omega)] at h
  simp only [Bool.and_eq_true, decide_eq_true_eq] at h
  exact ⟨h.1.1, by omega, h.2⟩
theorem okG_of_w {g : Nd} (h : wN g 0 0 = true) : okG g = (decide (hN g ≤ 40) && decide (g.kids.sz + 1 ≤ 400)) := by
  unfold okG okN
  rw [vldN_w g 0 0 40 (by omega) (by omega), h, Bool.true_and]
  congr 1
  apply decide_eq_decide.2
  omega

theorem unf_bound {g : Nd} (hw : wN g 0 0 = true) (hsz : g.kids.sz + 1 ≤ 400) (hv : vldN (unf g).k (unf g).fr (unf g).ix (unf g).kids 0 0 40 = true) : (unf g).kids.sz ≤ 160000000000000000 := by
  rw [vldN_w (unf g) 0 0 40 (by omega) (by omega)] at hv
  simp only [Bool.and_eq_true, decide_eq_true_eq] at hv
  have := unf_sz g hw hsz (by omega)
  omega

def zeroNd : Nd := ⟨0, ⟨#[]⟩, 0, .nil⟩
/-- Whether the unfolding is valid. -/
def unfOk (g : Nd) : Bool := okG g && okG (unf g)
/-- What UnfoldLocal gives. -/
def unfR (g : Nd) : Nd := if unfOk g then unf g else zeroNd
/-- A node in new memory, and a flag. -/
def MadeR (R : Nd) (ok : Bool) (w : World) (e : Ending) (w' : World) : Prop :=
  ∃ u bs, e = .returned (.tuple #[.agg #[.int .i64 R.k, .string R.fr, .int .i64 R.ix, u], .bool ok]) ∧ Ow w' u R.kids bs ∧ (∀ b, b ∈ bs → w.heap.size ≤ b) ∧ bs.Nodup ∧ Below w.heap.size w w'

theorem MadeR.zero {w w' : World} (h : Below w.heap.size w w') : MadeR zeroNd false w (.returned (.tuple #[.agg #[.int .i64 0, .string ⟨#[]⟩, .int .i64 0, .slice none 0 0], .bool false])) w' :=
  ⟨_, [], rfl, ⟨none, 0, rfl, Nat.le_refl _, Nat.zero_le _, Or.inl ⟨rfl, rfl⟩⟩, fun _ h => absurd h (List.not_mem_nil), List.nodup_nil, h⟩
end Go.Proofs.YtnlihdcjpeabfaaGreatDoor.Lo
