/- copyGlobal of the program, whole. -/
import Derived.Test.YtgcefippeokmcaaUx
namespace Go.Proofs.Ytgcefippeokmcaa
open Go.RowKit

theorem cp_all : ∀ q n, CpAt q n := by
  intro q
  induction q using Nat.strongRecOn with
  | _ q ihq =>
  intro n
  induction n with
  | zero => intro W0 w c m d k ix fr tg sv ev kids s hn; omega
  | succ n ihn =>
    intro W0 w c m d k ix fr tg sv ev kids s hn hp hb hc0 hc hm hd1 hd2 he hg hh hw hf hs
    by_cases h4 : k = 4
    · subst h4
      have hw2 := hw
      unfold wN at hw2
      simp only [if_true, Bool.and_eq_true, decide_eq_true_eq] at hw2
      obtain ⟨hsh, hi0, hi1⟩ := hw2
      obtain ⟨i, rfl⟩ := Int.eq_ofNat_of_zero_le hi0
      have hi : i < s.length := by omega
      obtain ⟨b, cap, hev⟩ : ∃ b cap, ev = .slice (some ⟨b, 0, none⟩) s.length cap := by
        cases s with
        | nil => simp at hi
        | cons x t =>
          obtain ⟨b, cap, rfl, _⟩ := he
          exact ⟨b, cap, rfl⟩
      subst hev
      obtain ⟨p, x, t, hst, hpl, hx⟩ := EnvIs.at s b cap he i hi
      have hsl : s.length = i + 1 + t.length := by rw [hst, List.length_append, List.length_cons, hpl]; omega
      have hva := vals_at p x t
      rw [← hst, hpl] at hva
      cases x with
      | none =>
        have e : cpN (vals s) ⟨4, fr, tg, (i : Int), kids⟩ = ⟨4, fr, tg, (i : Int), cpF (vals s) kids⟩ := by
          unfold cpN
          simp only [if_true, Int.toNat_natCast]
          rw [hva]
        rw [e]
        exact cp_node q n ihn W0 w c m d 4 i fr tg sv _ kids s hn hp hb hc0 hc hm hd1 hd2 he hg hh hw hf hs (Or.inr ⟨i, t.length, b, cap, s.length, rfl, rfl, rfl, hsl, hx⟩) (vals s) rfl
      | some R =>
        have e : cpN (vals s) ⟨4, fr, tg, (i : Int), kids⟩ = cpN (vals t) R := by
          conv => lhs; unfold cpN
          simp only [if_true, Int.toNat_natCast]
          rw [hva]
        rw [e]
        obtain ⟨rb, ob, rv, ov, c0, c1, c2, c3, c4, c5, c6⟩ := hx
        have hgt : GoodS (some R :: t) := GoodS.suffix p _ (by rw [← hst]; exact hg)
        obtain ⟨_, hwR, hhR, hgt⟩ := hgt
        have hpt : puts t < q := by
          have h9 := hp
          rw [hst, puts_app] at h9
          simp only [puts] at h9
          omega
        have hclo := clo_calls W0 c (puts t) R t hc0 (ihq _ hpt) rfl hgt hhR hwR
        exact cp_put W0 w c m d i fr tg sv kids s.length b cap t.length hb hc hm hd1 hd2 hsh hs R t hclo hsl (by omega) rb ob rv ov c0 c1 c2 c3 c4 c5
    · rw [cpN_k h4]
      exact cp_node q n ihn W0 w c m d k ix fr tg sv ev kids s hn hp hb hc0 hc hm hd1 hd2 he hg hh hw hf hs (Or.inl h4) _ rfl
end Go.Proofs.Ytgcefippeokmcaa
