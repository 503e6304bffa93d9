/- Heights of trees; validity is shape, scope and height; the copy of a valid tree below an environment of valid closed nodes is valid up to its height. -/
import Derived.Test.YtfppglfajbmapaaDoorUn
namespace Go.Proofs.YtfppglfajbmapaaDoor
open Go.RowKit

/-- The levels of a list of branches. -/
def hF : F → Nat
  | .nil => 0
  | .cons _ _ _ _ _ kids rest => max (1 + hF kids) (hF rest)
def hN (g : Nd) : Nat := 1 + hF g.kids
/-- Valid but for the depth: below b recursions, the innermost u of them unguarded. -/
def wF : F → Int → Int → Bool
  | .nil, _, _ => true
  | .cons _ k fr to ix kids rest, b, u => (shapeB k fr to ix kids && (if k = 4 then decide (u ≤ ix) && decide (ix < b) else if k = 3 then wF kids (b + 1) (u + 1) else if k = 2 then wF kids b 0 else true)) && wF rest b u
def wN (g : Nd) (b u : Int) : Bool := shapeB g.k g.fr g.tg g.ix g.kids && (if g.k = 4 then decide (u ≤ g.ix) && decide (g.ix < b) else if g.k = 3 then wF g.kids (b + 1) (u + 1) else if g.k = 2 then wF g.kids b 0 else true)

theorem shape_leaf {k : Int} {fr to : ByteArray} {ix : Int} {kids : F} (h : shapeB k fr to ix kids = true) (h2 : k ≠ 2) (h3 : k ≠ 3) : kids = .nil := by
  unfold shapeB at h
  by_cases h1 : k = 1
  · subst h1
    simp at h
    exact nil_of_len h.2
  · by_cases h4 : k = 4
    · subst h4
      simp at h
      exact nil_of_len h.2
    · simp [h1, h2, h3, h4] at h

theorem nodeB_w (k : Int) (fr to : ByteArray) (ix : Int) (kids : F) (b u d : Int) (hu : 0 ≤ u) (w3 w2 : Bool) (hd : 0 ≤ d) (vr vm : Bool)
    (e3 : 1 ≤ d → vr = (w3 && decide ((hF kids : Int) ≤ d - 1))) (e2 : 1 ≤ d → vm = (w2 && decide ((hF kids : Int) ≤ d - 1))) :
    nodeB k fr to ix kids b u d vr vm = (shapeB k fr to ix kids && (if k = 4 then decide (u ≤ ix) && decide (ix < b) else if k = 3 then w3 else if k = 2 then w2 else true) && decide (((1 + hF kids : Nat) : Int) ≤ d)) := by
  rw [nodeB_shape _ _ _ _ _ _ _ _ hu]
  by_cases hd1 : 1 ≤ d
  · rw [decide_eq_true hd1, Bool.true_and]
    have hde : decide (((1 + hF kids : Nat) : Int) ≤ d) = decide ((hF kids : Int) ≤ d - 1) := by
      apply decide_eq_decide.2
      omega
    rw [hde]
    cases hsh : shapeB k fr to ix kids with
    | false => simp
    | true =>
      simp only [Bool.true_and]
      by_cases h3 : k = 3
      · subst h3
        simp only [if_neg (show ¬ (3 : Int) = 4 by decide), if_true]
        exact e3 hd1
      · by_cases h2 : k = 2
        · subst h2
          simp only [if_neg (show ¬ (2 : Int) = 4 by decide), if_neg (show ¬ (2 : Int) = 3 by decide), if_true]
          exact e2 hd1
        · have hn := shape_leaf hsh h2 h3
          subst hn
          have : decide (((hF .nil : Nat) : Int) ≤ d - 1) = true := decide_eq_true (by simp only [hF]; omega)
          rw [this]
          simp [h2, h3]
  · rw [decide_eq_false hd1, decide_eq_false (show ¬ ((1 + hF kids : Nat) : Int) ≤ d by omega)]
    simp

theorem vldF_w : ∀ (f : F) (b u d : Int), 0 ≤ u → 0 ≤ d → vldF f b u d = (wF f b u && decide ((hF f : Int) ≤ d)) := by
  intro f
  induction f with
  | nil =>
    intro b u d _ hd
    simp only [vldF, wF, hF, Bool.true_and]
    exact (decide_eq_true (by omega)).symm
  | cons lab k fr to ix kids rest ihk ihr =>
    intro b u d hu hd
    simp only [vldF, wF]
    rw [ihr b u d hu hd, nodeB_w k fr to ix kids b u d hu (wF kids (b + 1) (u + 1)) (wF kids b 0) hd _ _ (fun h => ihk _ _ _ (by omega) (by omega)) (fun h => ihk _ _ _ (by omega) (by omega))]
    have hm : decide (((hF (.cons lab k fr to ix kids rest) : Nat) : Int) ≤ d) = (decide (((1 + hF kids : Nat) : Int) ≤ d) && decide ((hF rest : Int) ≤ d)) := by
      rw [← Bool.decide_and]
      apply decide_eq_decide.2
      simp only [hF]
      omega
    rw [hm]
    generalize decide (((1 + hF kids : Nat) : Int) ≤ d) = x
    generalize decide ((hF rest : Int) ≤ d) = y
    generalize wF rest b u = z
    generalize (shapeB k fr to ix kids && _) = t
    cases x <;> cases y <;> cases z <;> cases t <;> rfl
theorem vldN_w (g : Nd) (b u d : Int) (hu : 0 ≤ u) (hd : 0 ≤ d) : vldN g.k g.fr g.tg g.ix g.kids b u d = (wN g b u && decide ((hN g : Int) ≤ d)) := by
  unfold vldN wN hN
  exact nodeB_w g.k g.fr g.tg g.ix g.kids b u d hu _ _ hd _ _ (fun h => vldF_w _ _ _ _ (by omega) (by omega)) (fun h => vldF_w _ _ _ _ (by omega) (by omega))

/-- More recursions around. -/
theorem wF_mono : ∀ (f : F) (b c u : Int), wF f b u = true → b ≤ c → wF f c u = true := by
  intro f
  induction f with
  | nil => intro b c u _ _; rfl
  | cons lab k fr to ix kids rest ihk ihr =>
    intro b c u h hbc
    simp only [wF, Bool.and_eq_true] at h ⊢
    obtain ⟨⟨h1, h2⟩, h3⟩ := h
    refine ⟨⟨h1, ?_⟩, ihr _ _ _ h3 hbc⟩
    by_cases h4 : k = 4
    · simp only [if_pos h4, Bool.and_eq_true, decide_eq_true_eq] at h2 ⊢
      omega
    · simp only [if_neg h4] at h2 ⊢
      by_cases hk3 : k = 3
      · simp only [if_pos hk3] at h2 ⊢
        exact ihk _ _ _ h2 (by omega)
      · simp only [if_neg hk3] at h2 ⊢
        by_cases hk2 : k = 2
        · simp only [if_pos hk2] at h2 ⊢
          exact ihk _ _ _ h2 hbc
        · simp only [if_neg hk2]
/-- A tree of which no variable is unguarded, put in another place. -/
theorem wF_put : ∀ (f : F) (b c v : Int), wF f b b = true → b ≤ c → wF f c v = true := by
  intro f
  induction f with
  | nil => intro b c v _ _; rfl
  | cons lab k fr to ix kids rest ihk ihr =>
    intro b c v h hbc
    simp only [wF, Bool.and_eq_true] at h ⊢
    obtain ⟨⟨h1, h2⟩, h3⟩ := h
    refine ⟨⟨h1, ?_⟩, ihr _ _ _ h3 hbc⟩
    by_cases h4 : k = 4
    · simp only [if_pos h4, Bool.and_eq_true, decide_eq_true_eq] at h2
      omega
    · simp only [if_neg h4] at h2 ⊢
      by_cases hk3 : k = 3
      · simp only [if_pos hk3] at h2 ⊢
        exact ihk _ _ _ h2 (by omega)
      · simp only [if_neg hk3] at h2 ⊢
        by_cases hk2 : k = 2
        · simp only [if_pos hk2] at h2 ⊢
          exact wF_mono _ _ _ _ h2 hbc
        · simp only [if_neg hk2]
theorem wN_put (g : Nd) (c v : Int) (h : wN g 0 0 = true) (hc : 0 ≤ c) : wN g c v = true := by
  have := wF_put (.cons ⟨#[]⟩ g.k g.fr g.tg g.ix g.kids .nil) 0 c v (by simp only [wF, Bool.and_true]; exact h) hc
  simp only [wF, Bool.and_true] at this
  exact this

theorem cpF_len : ∀ (f : F) (s : List (Option Nd)), (cpF s f).len = f.len
  | .nil, s => by rw [cpF]
  | .cons lab k fr to ix kids rest, s => by
    unfold cpF
    split
    · split <;> simp only [F.len, cpF_len rest s]
    · simp only [F.len, cpF_len rest s]
theorem cpF_asc : ∀ (f : F) (s : List (Option Nd)) (p : Option ByteArray), ascB p (cpF s f) = ascB p f
  | .nil, s, p => by rw [cpF]
  | .cons lab k fr to ix kids rest, s, p => by
    unfold cpF
    split
    · split <;> simp only [ascB, cpF_asc rest s (some lab)]
    · simp only [ascB, cpF_asc rest s (some lab)]
theorem cpF_bare : ∀ (f : F) (s : List (Option Nd)), bareB (cpF s f) = bareB f
  | .nil, s => by rw [cpF]
  | .cons lab k fr to ix kids rest, s => by
    unfold cpF
    split
    · split <;> rfl
    · rfl
theorem cpF_shape (k : Int) (fr to : ByteArray) (ix : Int) (f : F) (s : List (Option Nd)) : shapeB k fr to ix (cpF s f) = shapeB k fr to ix f := by
  unfold shapeB branchesB
  rw [cpF_len, cpF_asc, cpF_bare]

/-- Every node of the environment is a valid closed type but for its depth. -/
def VaS (s : List (Option Nd)) : Prop := ∀ x, x ∈ s → ∃ U, x = some U ∧ wN U 0 0 = true
theorem VaS.join {s : List (Option Nd)} (hs : VaS s) {m : Nat} (h : m < s.length) : ∃ U, (s[m]?).join = some U ∧ wN U 0 0 = true := by
  rw [List.getElem?_eq_getElem h]
  obtain ⟨U, e, hu⟩ := hs _ (List.getElem_mem h)
  exact ⟨U, by rw [e]; rfl, hu⟩

/-- The copy of a valid tree. -/
theorem cp_w (s : List (Option Nd)) (hs : VaS s) : ∀ (f : F) (j : Nat) (u : Int), 0 ≤ u → wF f ((j + s.length : Nat) : Int) u = true → wF (cpF (kept j ++ s) f) (j : Int) (min u (j : Int)) = true := by
  intro f
  induction f with
  | nil => intro j u _ _; rfl
  | cons lab k fr to ix kids rest ihk ihr =>
    intro j u hu h
    simp only [wF, Bool.and_eq_true] at h
    obtain ⟨⟨h1, h2⟩, h3⟩ := h
    have hr := ihr j u hu h3
    by_cases h4 : k = 4
    · subst h4
      have hn := shape_leaf h1 (by decide) (by decide)
      subst hn
      simp only [if_true, Bool.and_eq_true, decide_eq_true_eq] at h2
      simp only [cpF, if_true]
      by_cases hlt : ix.toNat < j
      · rw [kept_get j _ hlt]
        simp only [wF, if_true, Bool.and_eq_true, decide_eq_true_eq]
        exact ⟨⟨h1, by omega, by omega⟩, hr⟩
      · have hx : ∃ U, ((kept j ++ s)[ix.toNat]?).join = some U ∧ wN U 0 0 = true := by
          unfold kept
          rw [List.getElem?_append_right (by simp; omega)]
          exact hs.join (by simp; omega)
        obtain ⟨U, e, hU⟩ := hx
        rw [e]
        have := wN_put U (j : Int) (min u j) hU (by omega)
        simp only [wF, Bool.and_eq_true]
        unfold wN at this
        simp only [Bool.and_eq_true] at this
        exact ⟨this, hr⟩
    · simp only [cpF, if_neg h4]
      simp only [wF, Bool.and_eq_true]
      rw [if_neg h4] at h2
      refine ⟨⟨by rw [cpF_shape]; exact h1, ?_⟩, hr⟩
      rw [if_neg h4]
      by_cases hk3 : k = 3
      · rw [if_pos hk3] at h2
        simp only [if_pos hk3]
        have := ihk (j + 1) (u + 1) (by omega) (by rw [show ((j + 1 + s.length : Nat) : Int) = ((j + s.length : Nat) : Int) + 1 by omega]; exact h2)
        rw [← kept_succ, show min (u + 1) ((j + 1 : Nat) : Int) = min u (j : Int) + 1 by omega] at this
        exact this
      · rw [if_neg hk3] at h2
        simp only [if_neg hk3]
        by_cases hk2 : k = 2
        · rw [if_pos hk2] at h2
          simp only [if_pos hk2]
          have := ihk j 0 (by omega) h2
          rw [show min 0 (j : Int) = 0 by omega] at this
          exact this
        · simp only [if_neg hk2]
/-- The copy of a valid node below closed nodes is valid and closed. -/
theorem cpN_w (s : List (Option Nd)) (hs : VaS s) (g : Nd) (h : wN g (s.length : Int) 0 = true) : wN (cpN s g) 0 0 = true := by
  have := cp_w s hs (.cons ⟨#[]⟩ g.k g.fr g.tg g.ix g.kids .nil) 0 0 (by omega) (by simp only [wF, Bool.and_true]; simpa [wN] using h)
  simp only [kept, List.replicate_zero, List.nil_append, cpF] at this
  unfold cpN
  by_cases h4 : g.k = 4
  · simp only [if_pos h4] at this ⊢
    cases hv : (s[g.ix.toNat]?).join with
    | none =>
      rw [hv] at this
      simp only [wF, Bool.and_true] at this
      unfold wN
      exact this
    | some U =>
      rw [hv] at this
      simp only [wF, Bool.and_true] at this
      unfold wN
      exact this
  · simp only [if_neg h4] at this ⊢
    simp only [wF, Bool.and_true] at this
    unfold wN
    exact this

/-- Fewer unguarded recursions. -/
theorem wF_u : ∀ (f : F) (b u v : Int), wF f b u = true → v ≤ u → wF f b v = true := by
  intro f
  induction f with
  | nil => intro b u v _ _; rfl
  | cons lab k fr to ix kids rest ihk ihr =>
    intro b u v h huv
    simp only [wF, Bool.and_eq_true] at h ⊢
    obtain ⟨⟨h1, h2⟩, h3⟩ := h
    refine ⟨⟨h1, ?_⟩, ihr _ _ _ h3 huv⟩
    by_cases h4 : k = 4
    · simp only [if_pos h4, Bool.and_eq_true, decide_eq_true_eq] at h2 ⊢
      omega
    · simp only [if_neg h4] at h2 ⊢
      by_cases hk3 : k = 3
      · simp only [if_pos hk3] at h2 ⊢
        exact ihk _ _ _ h2 (by omega)
      · simp only [if_neg hk3] at h2 ⊢
        exact h2
theorem wN_u (g : Nd) (b u v : Int) (h : wN g b u = true) (huv : v ≤ u) : wN g b v = true := by
  have := wF_u (.cons ⟨#[]⟩ g.k g.fr g.tg g.ix g.kids .nil) b u v (by simp only [wF, Bool.and_true]; exact h) huv
  simp only [wF, Bool.and_true] at this
  exact this

/-- The copy of a list, node by node. -/
theorem cpF_cons (s : List (Option Nd)) (lab : ByteArray) (k : Int) (fr to : ByteArray) (ix : Int) (kids rest : F) :
    cpF s (.cons lab k fr to ix kids rest) = .cons lab (cpN s ⟨k, fr, to, ix, kids⟩).k (cpN s ⟨k, fr, to, ix, kids⟩).fr (cpN s ⟨k, fr, to, ix, kids⟩).tg (cpN s ⟨k, fr, to, ix, kids⟩).ix (cpN s ⟨k, fr, to, ix, kids⟩).kids (cpF s rest) := by
  conv => lhs; unfold cpF
  unfold cpN
  simp only
  by_cases h4 : k = 4
  · simp only [if_pos h4]
    cases (s[ix.toNat]?).join <;> rfl
  · simp only [if_neg h4]
theorem cpF_app (s : List (Option Nd)) (g : F) : ∀ f : F, cpF s (f.app g) = (cpF s f).app (cpF s g)
  | .nil => by rw [F.app, cpF, F.app]
  | .cons lab k fr to ix kids rest => by rw [F.app, cpF_cons, cpF_cons, cpF_app s g rest, F.app]
theorem hF_app (g : F) : ∀ f : F, hF (f.app g) = max (hF f) (hF g)
  | .nil => by simp [F.app, hF]
  | .cons lab k fr to ix kids rest => by simp only [F.app, hF, hF_app g rest]; omega
theorem subF_cons (U : Nd) (lab : ByteArray) (k : Int) (fr to : ByteArray) (ix : Int) (kids rest : F) (i : Int) :
    subF U (.cons lab k fr to ix kids rest) i = .cons lab (subN U ⟨k, fr, to, ix, kids⟩ i).k (subN U ⟨k, fr, to, ix, kids⟩ i).fr (subN U ⟨k, fr, to, ix, kids⟩ i).tg (subN U ⟨k, fr, to, ix, kids⟩ i).ix (subN U ⟨k, fr, to, ix, kids⟩ i).kids (subF U rest i) := by
  conv => lhs; unfold subF
  unfold subN
  simp only
  split <;> rfl
theorem subF_app (U : Nd) (g : F) (i : Int) : ∀ f : F, subF U (f.app g) i = (subF U f i).app (subF U g i)
  | .nil => by rw [F.app, subF, F.app]
  | .cons lab k fr to ix kids rest => by rw [F.app, subF_cons, subF_cons, subF_app U g i rest, F.app]
theorem subF_len (U : Nd) (i : Int) : ∀ f : F, (subF U f i).len = f.len
  | .nil => rfl
  | .cons lab k fr to ix kids rest => by rw [subF_cons]; simp only [F.len, subF_len U i rest]

/-- How high a copy may get. -/
theorem cpF_h (B : Nat) : ∀ (f : F) (s : List (Option Nd)), (∀ U, some U ∈ s → hN U ≤ B) → hF (cpF s f) ≤ hF f + B := by
  intro f
  induction f with
  | nil => intro s _; simp [cpF, hF]
  | cons lab k fr to ix kids rest ihk ihr =>
    intro s hs
    have hr := ihr s hs
    unfold cpF
    by_cases h4 : k = 4
    · simp only [if_pos h4]
      cases hv : (s[ix.toNat]?).join with
      | none =>
        have := ihk s hs
        simp only [hF]
        omega
      | some U =>
        have := hs U (mem_of_join hv)
        unfold hN at this
        simp only [hF]
        omega
    · simp only [if_neg h4, hF]
      have : hF (cpF (if k = 3 then none :: s else s) kids) ≤ hF kids + B := by
        by_cases h3 : k = 3
        · rw [if_pos h3]
          refine ihk _ (fun U hU => hs U ?_)
          rcases List.mem_cons.1 hU with h | h
          · cases h
          · exact h
        · rw [if_neg h3]
          exact ihk _ hs
      omega
theorem cpN_h (B : Nat) (g : Nd) (s : List (Option Nd)) (hs : ∀ U, some U ∈ s → hN U ≤ B) : hN (cpN s g) ≤ hN g + B := by
  obtain ⟨gk, gf, gt, gi, gq⟩ := g
  have := cpF_h B (.cons ⟨#[]⟩ gk gf gt gi gq .nil) s hs
  rw [cpF_cons] at this
  simp only [hF, cpF] at this
  simp only [hN]
  omega

/-- The step of the model's loop for one node. -/
theorem sub_cpN (U : Nd) (s : List (Option Nd)) (hs : ClS s) (g : Nd) (b : Int) (h : scN g b = true) : subN U (cpN (none :: s) g) 0 = cpN (some U :: s) g := by
  have := sub_cp U s hs (.cons ⟨#[]⟩ g.k g.fr g.tg g.ix g.kids .nil) 0 b (by simp only [scF, Bool.and_true]; exact h)
  simp only [kept, List.replicate_zero, List.nil_append] at this
  rw [cpF_cons, cpF_cons, subF_cons] at this
  simp only [F.cons.injEq] at this
  obtain ⟨_, h1, h2, h3, h4, h5, _⟩ := this
  have e : ∀ a b : Nd, a.k = b.k → a.fr = b.fr → a.tg = b.tg → a.ix = b.ix → a.kids = b.kids → a = b := by
    intro a b
    cases a
    cases b
    simp only [Nd.mk.injEq]
    exact fun h1 h2 h3 h4 h5 => ⟨h1, h2, h3, h4, h5⟩
  exact e _ _ h1 h2 h3 h4 h5

/-- In scope from valid. -/
theorem sc_of_w : ∀ (f : F) (b u : Int), 0 ≤ u → wF f b u = true → scF f b = true := by
  intro f b u hu h
  have h2 := vldF_w f b u (hF f : Int) hu (by omega)
  rw [h, Bool.true_and] at h2
  exact sc_of_vld f b u _ hu (by rw [h2]; exact decide_eq_true (by omega))
theorem scN_of_w (g : Nd) (b u : Int) (hu : 0 ≤ u) (h : wN g b u = true) : scN g b = true := by
  have := sc_of_w (.cons ⟨#[]⟩ g.k g.fr g.tg g.ix g.kids .nil) b u hu (by simp only [wF, Bool.and_true]; exact h)
  simp only [scF, Bool.and_true] at this
  exact this
theorem VaS.cl {s : List (Option Nd)} (hs : VaS s) : ClS s := by
  intro U hU
  obtain ⟨V, e, hv⟩ := hs _ hU
  cases e
  exact scN_of_w U 0 0 (by omega) hv

/-- The recursions at the root unfolded: the environment's nodes are closed. -/
def unfN : Nat → List (Option Nd) → Nd → Nd
  | 0, s, g => cpN s g
  | n + 1, s, g => if g.k = 3 then (match g.kids with | .cons _ k fr to ix kids _ => unfN n (some (cpN s g) :: s) ⟨k, fr, to, ix, kids⟩ | .nil => cpN s g) else cpN s g
/-- The unfolding of a node. -/
def unf (g : Nd) : Nd := unfN (g.kids.sz + 1) [] g

theorem unfN_w : ∀ (n : Nat) (s : List (Option Nd)) (g : Nd), VaS s → wN g (s.length : Int) (s.length : Int) = true → wN (unfN n s g) 0 0 = true := by
  intro n
  induction n with
  | zero => intro s g hs h; exact cpN_w s hs g (wN_u _ _ _ _ h (by omega))
  | succ n ih =>
    intro s g hs h
    have hc := cpN_w s hs g (wN_u _ _ _ _ h (by omega))
    unfold unfN
    by_cases h3 : g.k = 3
    · rw [if_pos h3]
      cases hk : g.kids with
      | nil => exact hc
      | cons lab k fr to ix kids rest =>
        simp only
        refine ih _ _ ?_ ?_
        · intro x hx
          rcases List.mem_cons.1 hx with rfl | hx
          · exact ⟨_, rfl, hc⟩
          · exact hs x hx
        · unfold wN at h
          simp only [Bool.and_eq_true] at h
          have h2 := h.2
          rw [if_neg (by omega), if_pos h3, hk] at h2
          simp only [wF, Bool.and_eq_true] at h2
          unfold wN
          simp only [Bool.and_eq_true]
          rw [show (((some (cpN s g) :: s).length : Nat) : Int) = (s.length : Int) + 1 by simp]
          exact h2.1
    · rw [if_neg h3]
      exact hc
end Go.Proofs.YtfppglfajbmapaaDoor
