/- LinkValid of the model and of the program. -/
import Derived.Test.YtmkjipnemapdeaaDoorKn1
import Derived.Test.YtmkjipnemapdeaaDoorKn2
import Derived.Test.YtmkjipnemapdeaaDoorKn3
import Derived.Test.YtmkjipnemapdeaaDoorKo
namespace Go.Proofs.YtmkjipnemapdeaaDoor.Tk
open Go.RowKit

theorem linkB_false {m : Lnk} (h : ¬ m.wi.size ≤ 3 ∨ ¬ m.ex = (m.de.size : Int) ∨ ¬ 0 ≤ m.ba ∨ ¬ m.ba ≤ m.ex ∨ ¬ m.ex ≤ m.ba + m.wi.size ∨ ¬ m.ba + m.wi.size ≤ 100) : linkB m = false := by
  unfold linkB
  rcases h with h | h | h | h | h | h <;> rw [decide_eq_false h] <;> simp
theorem linkB_head {b : Nat} {wi de : ByteArray} {ps : List Pkt} {ac : List Int} (h1 : wi.size ≤ 3) (h4 : b ≤ de.size) (h5 : de.size ≤ b + wi.size) (h6 : b + wi.size ≤ 100) :
    linkB ⟨(b : Int), wi, (de.size : Int), de, ps, ac⟩ = (labsB wi && (labsB de && (agreeB b (de.size - b) wi de && flightB (de.extract 0 b ++ wi) (de.size : Int) ps ac))) := by
  unfold linkB
  dsimp only
  have e1 : ((de.size : Int) - (b : Int)).toNat = de.size - b := by omega
  rw [decide_eq_true h1, decide_eq_true (rfl : (de.size : Int) = (de.size : Int)), decide_eq_true (show (0 : Int) ≤ (b : Int) by omega), decide_eq_true (show (b : Int) ≤ (de.size : Int) by omega),
    decide_eq_true (show (de.size : Int) ≤ (b : Int) + (wi.size : Int) by omega), decide_eq_true (show (b : Int) + (wi.size : Int) ≤ 100 by omega), e1, Int.toNat_natCast]
  simp only [Bool.true_and]

/-- LinkValid of the program. -/
theorem implLinkValid (w : World) (m : Lnk) (pv av : Value) (hp : SlG elP w pv m.ps) (ha : SlG elI w av m.ac) (hwi : m.wi.size ≤ 1048576) (hde : m.de.size ≤ 1048576) :
    Calls Tryd.prog 9 #[.agg #[.int .i64 m.ba, .string m.wi, .int .i64 m.ex, .string m.de, pv, av]] w fun e w' => e = .returned (.bool (linkB m)) ∧ Below w.heap.size w w' := by
  obtain ⟨ba, wi, ex, de, ps, ac⟩ := m
  dsimp only at hp ha hwi hde ⊢
  by_cases h1 : wi.size ≤ 3
  case neg =>
    rw [linkB_false (Or.inl h1)]
    exact ilv1 w ba ex wi de ps ac pv av hp ha hwi hde (by omega)
  by_cases h2 : ex = (de.size : Int)
  case neg =>
    rw [linkB_false (Or.inr (Or.inl h2))]
    exact ilv2 w ba ex wi de ps ac pv av hp ha hwi hde h1 h2
  subst h2
  by_cases h3 : 0 ≤ ba
  case neg =>
    rw [linkB_false (Or.inr (Or.inr (Or.inl h3)))]
    exact ilv3 w ba wi de ps ac pv av hp ha hwi hde h1 (by omega)
  by_cases h4 : ba ≤ (de.size : Int)
  case neg =>
    rw [linkB_false (Or.inr (Or.inr (Or.inr (Or.inl h4))))]
    exact ilv4 w ba wi de ps ac pv av hp ha hwi hde h1 h3 (by omega)
  obtain ⟨b, rfl⟩ : ∃ b : Nat, ba = (b : Int) := ⟨ba.toNat, by omega⟩
  have h4 : b ≤ de.size := by omega
  by_cases h5 : de.size ≤ b + wi.size
  case neg =>
    rw [linkB_false (Or.inr (Or.inr (Or.inr (Or.inr (Or.inl (by dsimp only; omega))))))]
    exact ilv5 w b wi de ps ac pv av hp ha hwi hde h1 h4 (by omega)
  by_cases h6 : b + wi.size ≤ 100
  case neg =>
    rw [linkB_false (Or.inr (Or.inr (Or.inr (Or.inr (Or.inr (by dsimp only; omega))))))]
    exact ilv6 w b wi de ps ac pv av hp ha hwi hde h1 h4 h5 (by omega)
  rw [linkB_head h1 h4 h5 h6]
  cases Lwi : labsB wi with
  | false => simpa using ilv7 w b wi de ps ac pv av hp ha hwi hde h1 h4 h5 h6 Lwi
  | true =>
    cases Lde : labsB de with
    | false => simpa using ilv8 w b wi de ps ac pv av hp ha hwi hde h1 h4 h5 h6 Lwi Lde
    | true =>
      cases hag : agreeB b (de.size - b) wi de with
      | false => simpa using ilv9 w b wi de ps ac pv av hp ha hwi hde h1 h4 h5 h6 Lwi Lde hag
      | true => simpa using ilv10 w b wi de ps ac pv av hp ha hwi hde h1 h4 h5 h6 Lwi Lde hag

/-- LinkValid of the model. -/
theorem specLinkValid (w : World) (m : Lnk) (pv av : Value) (hp : SlG elP w pv m.ps) (ha : SlG elI w av m.ac) (hwi : m.wi.size ≤ 1048576) (hde : m.de.size ≤ 1048576) :
    Calls Tryd.prog 7 #[.agg #[.int .i64 m.ba, .string m.wi, .int .i64 m.ex, .string m.de, pv, av]] w fun e w' => e = .returned (.bool (linkB m)) ∧ Below w.heap.size w w' := by
  obtain ⟨ba, wi, ex, de, ps, ac⟩ := m
  dsimp only at hp ha hwi hde ⊢
  by_cases Lwi : labsB wi = true
  case neg =>
    have Lwi : labsB wi = false := by simpa using Lwi
    rw [show linkB ⟨ba, wi, ex, de, ps, ac⟩ = false by unfold linkB; simp [Lwi]]
    exact slv1 w ba ex wi de ps ac pv av hp ha hwi hde Lwi
  by_cases Lde : labsB de = true
  case neg =>
    have Lde : labsB de = false := by simpa using Lde
    rw [show linkB ⟨ba, wi, ex, de, ps, ac⟩ = false by unfold linkB; simp [Lde]]
    exact slv2 w ba ex wi de ps ac pv av hp ha hwi hde Lwi Lde
  by_cases h1 : wi.size ≤ 3
  case neg =>
    rw [linkB_false (Or.inl h1)]
    exact slv3 w ba ex wi de ps ac pv av hp ha hwi hde Lwi Lde (by omega)
  by_cases h2 : ex = (de.size : Int)
  case neg =>
    rw [linkB_false (Or.inr (Or.inl h2))]
    exact slv4 w ba ex wi de ps ac pv av hp ha hwi hde Lwi Lde h1 h2
  subst h2
  by_cases h3 : 0 ≤ ba
  case neg =>
    rw [linkB_false (Or.inr (Or.inr (Or.inl h3)))]
    exact slv5 w ba wi de ps ac pv av hp ha hwi hde Lwi Lde h1 (by omega)
  by_cases h4 : ba ≤ (de.size : Int)
  case neg =>
    rw [linkB_false (Or.inr (Or.inr (Or.inr (Or.inl h4))))]
    exact slv6 w ba wi de ps ac pv av hp ha hwi hde Lwi Lde h1 h3 (by omega)
  obtain ⟨b, rfl⟩ : ∃ b : Nat, ba = (b : Int) := ⟨ba.toNat, by omega⟩
  have h4 : b ≤ de.size := by omega
  by_cases h5 : de.size ≤ b + wi.size
  case neg =>
    rw [linkB_false (Or.inr (Or.inr (Or.inr (Or.inr (Or.inl (by dsimp only; omega))))))]
    exact slv7 w b wi de ps ac pv av hp ha hwi hde Lwi Lde h1 h4 (by omega)
  by_cases h6 : b + wi.size ≤ 100
  case neg =>
    rw [linkB_false (Or.inr (Or.inr (Or.inr (Or.inr (Or.inr (by dsimp only; omega))))))]
    exact slv8 w b wi de ps ac pv av hp ha hwi hde Lwi Lde h1 h4 h5 (by omega)
  rw [linkB_head h1 h4 h5 h6, Lwi, Lde, Bool.true_and, Bool.true_and]
  cases hag : agreeB b (de.size - b) wi de with
  | false => simpa using slv9 w b wi de ps ac pv av hp ha hwi hde Lwi Lde h1 h4 h5 h6 hag
  | true =>
    rw [Bool.true_and]
    unfold flightB
    cases hpk : (ps.all (pktB (de.extract 0 b ++ wi)) && decide (ps.length ≤ 6)) with
    | false => simpa using slv10 w b wi de ps ac pv av hp ha hwi hde Lwi Lde h1 h4 h5 h6 hag hpk
    | true =>
      rw [Bool.true_and]
      exact slv11 w _ b wi de ps ac pv av hp ha hwi hde Lwi Lde h1 h4 h5 h6 hag hpk rfl
end Go.Proofs.YtmkjipnemapdeaaDoor.Tk
