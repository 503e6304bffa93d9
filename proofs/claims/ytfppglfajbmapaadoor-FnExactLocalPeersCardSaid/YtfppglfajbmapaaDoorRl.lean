/- Which letters lie in a short text. -/
import Derived.Test.YtfppglfajbmapaaDoorTx
namespace Go.Proofs.YtfppglfajbmapaaDoor
open Go.RowKit

/-- The letter lies in the string. -/
def inB (c : UInt8) (s : ByteArray) : Prop := c ∈ s.data.toList
theorem inB_append (c : UInt8) (a b : ByteArray) : inB c (a ++ b) ↔ inB c a ∨ inB c b := by simp [inB, ByteArray.data_append]

theorem dec_letters {i : Nat} (h : i < 40) {c : UInt8} (hc : 65 ≤ c.toNat) : c ∉ Lib.decDigits i := by
  intro hm
  have key : ∀ j : Fin 40, ∀ x ∈ Lib.decDigits j.val, x.toNat < 65 := by decide +kernel
  have := key ⟨i, h⟩ c hm
  omega

theorem lab_letters {s : ByteArray} (h : labB s = true) {c : UInt8} (hc : c.toNat ≤ 67) : ¬ inB c s := by
  intro hm
  unfold labB at h
  unfold inB at hm
  split at h
  · rename_i x e
    rw [e] at hm
    have : c = x := by simpa using hm
    subst this
    have := of_decide_eq_true h
    omega
  · cases h

theorem sign_letters {c : UInt8} (h1 : 65 ≤ c.toNat) (h2 : c.toNat ≤ 67) (x : UInt8) (hx : x.toNat ≤ 64 ∨ 68 ≤ x.toNat) : ¬ inB c ⟨#[x]⟩ := by
  intro hm
  have : c = x := by simpa [inB] using hm
  subst this
  omega

end Go.Proofs.YtfppglfajbmapaaDoor
