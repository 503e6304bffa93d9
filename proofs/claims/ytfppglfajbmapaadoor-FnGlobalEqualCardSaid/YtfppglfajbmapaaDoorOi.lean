/- The text of a valid global type is one-to-one. -/
import Derived.Test.YtfppglfajbmapaaDoorUv
import Derived.Test.YtfppglfajbmapaaDoorTx
import Derived.Test.YtfppglfajbmapaaDoorCg
namespace Go.Proofs.YtfppglfajbmapaaDoor
open Go.RowKit

/-- The bytes of a string. -/
abbrev bl (s : ByteArray) : List UInt8 := s.data.toList
theorem bl_app (a b : ByteArray) : bl (a ++ b) = bl a ++ bl b := by simp [bl, ByteArray.data_append]
theorem bl_ext {a b : ByteArray} (h : bl a = bl b) : a = b := by
  cases a with | mk x => cases b with | mk y => exact congrArg ByteArray.mk (Array.toList_inj.1 h)
theorem bl_nil {a : ByteArray} (h : a.toList = []) : a = ⟨#[]⟩ := bl_ext (by rw [ByteArray.toList_eq] at h; exact h)

/-- No digit comes next. -/
def stopB : List UInt8 → Prop
  | [] => True
  | c :: _ => ¬ (48 ≤ c.toNat ∧ c.toNat ≤ 57)
def digB (c : UInt8) : Bool := decide (48 ≤ c.toNat ∧ c.toNat ≤ 57)
theorem dig_of {n : Nat} (h : n < 10) : digB (UInt8.ofNat (48 + n)) = true := by
  unfold digB
  rw [UInt8.toNat_ofNat_of_lt' (by show 48 + n < 256; omega)]
  exact decide_eq_true (by omega)
theorem dec_digs : ∀ n : Nat, ∀ c ∈ Lib.decDigits n, digB c = true := by
  intro n
  induction n using Nat.strongRecOn with
  | ind n ih =>
    intro c hc
    unfold Lib.decDigits at hc
    split at hc
    · rename_i h
      rw [List.mem_singleton] at hc
      subst hc
      exact dig_of h
    · rename_i h
      rcases List.mem_append.1 hc with hc | hc
      · exact ih (n / 10) (by omega) c hc
      · rw [List.mem_singleton] at hc
        subst hc
        exact dig_of (by omega)
theorem oi_ofNat_inj {a b : Nat} (ha : a < 10) (hb : b < 10) (h : UInt8.ofNat (48 + a) = UInt8.ofNat (48 + b)) : a = b := by
  have := congrArg UInt8.toNat h
  rw [UInt8.toNat_ofNat_of_lt' (by show 48 + a < 256; omega), UInt8.toNat_ofNat_of_lt' (by show 48 + b < 256; omega)] at this
  omega
theorem dec_pos (n : Nat) : 1 ≤ (Lib.decDigits n).length := by
  unfold Lib.decDigits
  split <;> simp
theorem dec_inj : ∀ n m : Nat, Lib.decDigits n = Lib.decDigits m → n = m := by
  intro n
  induction n using Nat.strongRecOn with
  | ind n ih =>
    intro m h
    by_cases hn : n < 10
    · by_cases hm : m < 10
      · rw [Lib.decDigits_one hn, Lib.decDigits_one hm] at h
        exact oi_ofNat_inj hn hm (List.cons.inj h).1
      · have e := congrArg List.length h
        rw [Lib.decDigits_one hn] at e
        rw [show Lib.decDigits m = Lib.decDigits (m / 10) ++ [UInt8.ofNat (48 + m % 10)] by rw [Lib.decDigits, dif_neg hm]] at e
        have := dec_pos (m / 10)
        rw [List.length_append] at e
        simp only [List.length_cons, List.length_nil] at e
        omega
    · by_cases hm : m < 10
      · have e := congrArg List.length h
        rw [Lib.decDigits_one hm] at e
        rw [show Lib.decDigits n = Lib.decDigits (n / 10) ++ [UInt8.ofNat (48 + n % 10)] by rw [Lib.decDigits, dif_neg hn]] at e
        have := dec_pos (n / 10)
        rw [List.length_append] at e
        simp only [List.length_cons, List.length_nil] at e
        omega
      · rw [show Lib.decDigits n = Lib.decDigits (n / 10) ++ [UInt8.ofNat (48 + n % 10)] by rw [Lib.decDigits, dif_neg hn],
          show Lib.decDigits m = Lib.decDigits (m / 10) ++ [UInt8.ofNat (48 + m % 10)] by rw [Lib.decDigits, dif_neg hm]] at h
        obtain ⟨h1, h2⟩ := List.append_inj' h rfl
        have e1 := ih (n / 10) (by omega) (m / 10) h1
        have e2 := oi_ofNat_inj (by omega) (by omega) (List.cons.inj h2).1
        omega
theorem stop_take {x : List UInt8} (h : stopB x) : x.takeWhile digB = [] := by
  cases x with
  | nil => rfl
  | cons c t =>
    have : digB c = false := decide_eq_false h
    rw [List.takeWhile_cons, this]
    rfl
theorem dec_split {n m : Nat} {x y : List UInt8} (hx : stopB x) (hy : stopB y) (h : Lib.decDigits n ++ x = Lib.decDigits m ++ y) : n = m ∧ x = y := by
  have e := congrArg (List.takeWhile digB) h
  rw [List.takeWhile_append_of_pos (dec_digs n), List.takeWhile_append_of_pos (dec_digs m), stop_take hx, stop_take hy, List.append_nil, List.append_nil] at e
  have e2 := dec_inj n m e
  subst e2
  exact ⟨rfl, List.append_cancel_left h⟩

/-- The tree's nodes have their kinds' shapes. -/
def oiF : F → Prop
  | .nil => True
  | .cons _ k fr tg ix kids rest => shapeB k fr tg ix kids = true ∧ oiF kids ∧ oiF rest
/-- Labels of one byte. -/
def oiLab : F → Prop
  | .nil => True
  | .cons lab _ _ _ _ _ rest => (∃ c, bl lab = [c]) ∧ oiLab rest
theorem oiF_of_w : ∀ (f : F) (b u : Int), wF f b u = true → oiF f := by
  intro f
  induction f with
  | nil => intro _ _ _; trivial
  | cons lab k fr tg ix kids rest ihk ihr =>
    intro b u h
    simp only [wF, Bool.and_eq_true] at h
    obtain ⟨⟨h1, h2⟩, h3⟩ := h
    refine ⟨h1, ?_, ihr _ _ h3⟩
    by_cases h4 : k = 4
    · rw [shape_leaf h1 (by omega) (by omega)]
      trivial
    · rw [if_neg h4] at h2
      by_cases k3 : k = 3
      · rw [if_pos k3] at h2
        exact ihk _ _ h2
      · rw [if_neg k3] at h2
        by_cases k2 : k = 2
        · rw [if_pos k2] at h2
          exact ihk _ _ h2
        · rw [shape_leaf h1 k2 k3]
          trivial
theorem oiLab_of_asc : ∀ (f : F) (p : Option ByteArray), ascB p f = true → oiLab f := by
  intro f
  induction f with
  | nil => intro _ _; trivial
  | cons lab k fr tg ix kids rest ihk ihr =>
    intro p h
    simp only [ascB, Bool.and_eq_true] at h
    refine ⟨?_, ihr _ h.2⟩
    have h1 := h.1.1
    unfold labB at h1
    split at h1
    · rename_i c e
      exact ⟨c, e⟩
    · cases h1
theorem oi_role {s : ByteArray} (h : roleB s = true) : ∃ c, bl s = [c] ∧ (c = 65 ∨ c = 66 ∨ c = 67) := by
  simp only [roleB, Bool.or_eq_true, beq_iff_eq, ByteArray.toList_eq] at h
  rcases h with (h | h) | h
  · exact ⟨65, h, Or.inl rfl⟩
  · exact ⟨66, h, Or.inr (Or.inl rfl)⟩
  · exact ⟨67, h, Or.inr (Or.inr rfl)⟩

def nL (k : Int) (fr tg : ByteArray) (ix : Int) (kids : F) : List UInt8 := bl (txN k fr tg ix kids)
def fL (f : F) (m : Md) : List UInt8 := bl (txF f m)
theorem nL1 (fr tg : ByteArray) (ix : Int) (kids : F) : nL 1 fr tg ix kids = [46] := rfl
theorem nL4 (fr tg : ByteArray) (ix : Int) (kids : F) : nL 4 fr tg ix kids = 35 :: Lib.decDigits ix.toNat := by
  unfold nL txN nodeT
  rw [if_neg (by decide), if_pos rfl, bl_app]
  simp [bl, bhash, bdec]
theorem nL3 (fr tg : ByteArray) (ix : Int) (kids : F) : nL 3 fr tg ix kids = 64 :: fL kids .body := by
  unfold nL txN nodeT
  rw [if_neg (by decide), if_neg (by decide), if_pos rfl, bl_app]
  simp [bl, bat, fL]
theorem nL2 (fr tg : ByteArray) (ix : Int) (kids : F) : nL 2 fr tg ix kids = bl fr ++ bl tg ++ fL kids .first ++ [125] := by
  unfold nL txN nodeT
  rw [if_neg (by decide), if_neg (by decide), if_neg (by decide), bl_app, bl_app, bl_app]
  simp [bl, bclose, fL]
theorem fL_body (lab : ByteArray) (k : Int) (fr tg : ByteArray) (ix : Int) (kids rest : F) : fL (.cons lab k fr tg ix kids rest) .body = nL k fr tg ix kids := by
  unfold fL nL txN
  simp only [txF]
theorem fL_first (lab : ByteArray) (k : Int) (fr tg : ByteArray) (ix : Int) (kids rest : F) : fL (.cons lab k fr tg ix kids rest) .first = 123 :: (bl lab ++ nL k fr tg ix kids ++ fL rest .more) := by
  unfold fL nL txN
  simp only [txF, bl_app]
  simp [bl, bopen]
theorem fL_more (lab : ByteArray) (k : Int) (fr tg : ByteArray) (ix : Int) (kids rest : F) : fL (.cons lab k fr tg ix kids rest) .more = 124 :: (bl lab ++ nL k fr tg ix kids ++ fL rest .more) := by
  unfold fL nL txN
  simp only [txF, bl_app]
  simp [bl, bbar]
theorem fL_nil (m : Md) : fL .nil m = [] := by unfold fL; simp only [txF]
theorem stop_more (f : F) (x : List UInt8) : stopB (fL f .more ++ 125 :: x) := by
  cases f with
  | nil => rw [fL_nil]; show ¬ (48 ≤ (125 : UInt8).toNat ∧ (125 : UInt8).toNat ≤ 57); decide
  | cons lab k fr tg ix kids rest => rw [fL_more]; show ¬ (48 ≤ (124 : UInt8).toNat ∧ (124 : UInt8).toNat ≤ 57); decide

/-- A list of branches is read off its text. -/
def OneA (f : F) : Prop := ∀ g, oiF f → oiF g → oiLab f → oiLab g → ∀ x y, fL f .more ++ 125 :: x = fL g .more ++ 125 :: y → f = g ∧ x = y
/-- A node is read off its text. -/
def OneN (k : Int) (fr tg : ByteArray) (ix : Int) (kids : F) : Prop :=
  ∀ k' fr' tg' ix' kids', shapeB k fr tg ix kids = true → shapeB k' fr' tg' ix' kids' = true → oiF kids → oiF kids' → ∀ x y, stopB x → stopB y →
    nL k fr tg ix kids ++ x = nL k' fr' tg' ix' kids' ++ y → (k = k' ∧ fr = fr' ∧ tg = tg' ∧ ix = ix' ∧ kids = kids') ∧ x = y
/-- The first node of a list is read off its text. -/
def OneB : F → Prop
  | .nil => True
  | .cons _ k fr tg ix kids _ => OneN k fr tg ix kids

theorem oi_shape_kind {k : Int} {fr tg : ByteArray} {ix : Int} {kids : F} (h : shapeB k fr tg ix kids = true) : k = 1 ∨ k = 2 ∨ k = 3 ∨ k = 4 := by
  by_cases k1 : k = 1
  · exact Or.inl k1
  by_cases k2 : k = 2
  · exact Or.inr (Or.inl k2)
  by_cases k3 : k = 3
  · exact Or.inr (Or.inr (Or.inl k3))
  by_cases k4 : k = 4
  · exact Or.inr (Or.inr (Or.inr k4))
  · simp [shapeB, k1, k2, k3, k4] at h
/-- What a node's text begins with. -/
theorem nL_head {k : Int} {fr tg : ByteArray} {ix : Int} {kids : F} (h : shapeB k fr tg ix kids = true) : ∃ c t, nL k fr tg ix kids = c :: t ∧
    (k = 1 → c = 46) ∧ (k = 2 → c = 65 ∨ c = 66 ∨ c = 67) ∧ (k = 3 → c = 64) ∧ (k = 4 → c = 35) := by
  rcases oi_shape_kind h with rfl | rfl | rfl | rfl
  · exact ⟨46, [], nL1 _ _ _ _, fun _ => rfl, (fun h => absurd h (by decide)), (fun h => absurd h (by decide)), (fun h => absurd h (by decide))⟩
  · obtain ⟨a, -, -, -, -⟩ := shape_msg h
    obtain ⟨c, e, hc⟩ := oi_role a
    refine ⟨c, bl tg ++ fL kids .first ++ [125], by rw [nL2, e]; simp, (fun h => absurd h (by decide)), fun _ => hc, (fun h => absurd h (by decide)), (fun h => absurd h (by decide))⟩
  · exact ⟨64, _, nL3 _ _ _ _, (fun h => absurd h (by decide)), (fun h => absurd h (by decide)), fun _ => rfl, (fun h => absurd h (by decide))⟩
  · exact ⟨35, _, nL4 _ _ _ _, (fun h => absurd h (by decide)), (fun h => absurd h (by decide)), (fun h => absurd h (by decide)), fun _ => rfl⟩
theorem oi_kind {k k' : Int} {fr tg fr' tg' : ByteArray} {ix ix' : Int} {kids kids' : F} (h : shapeB k fr tg ix kids = true) (h' : shapeB k' fr' tg' ix' kids' = true) {x y : List UInt8}
    (e : nL k fr tg ix kids ++ x = nL k' fr' tg' ix' kids' ++ y) : k = k' := by
  obtain ⟨c, t, e1, a1, a2, a3, a4⟩ := nL_head h
  obtain ⟨c', t', e2, b1, b2, b3, b4⟩ := nL_head h'
  rw [e1, e2, List.cons_append, List.cons_append] at e
  have hc := (List.cons.inj e).1
  subst hc
  rcases oi_shape_kind h with rfl | rfl | rfl | rfl <;> rcases oi_shape_kind h' with rfl | rfl | rfl | rfl <;> first | rfl | (exfalso; simp at a1 a2 a3 a4 b1 b2 b3 b4; first | (subst a1; simp at b2) | skip; simp_all)

theorem one_node (kids : F) (hA : OneA kids) (hB : OneB kids) (k : Int) (fr tg : ByteArray) (ix : Int) : OneN k fr tg ix kids := by
  intro k' fr' tg' ix' kids' h h' hk hk' x y hx hy e
  have hkk := oi_kind h h' e
  subst hkk
  rcases oi_shape_kind h with rfl | rfl | rfl | rfl
  · obtain ⟨a, b, c, d⟩ := shape_end h
    obtain ⟨a', b', c', d'⟩ := shape_end h'
    rw [nL1, nL1] at e
    refine ⟨⟨rfl, ?_, ?_, by omega, by rw [d, d']⟩, (List.cons.inj e).2⟩
    · rw [bl_nil a, bl_nil a']
    · rw [bl_nil b, bl_nil b']
  · obtain ⟨a, b, -, c, d⟩ := shape_msg h
    obtain ⟨a', b', -, c', d'⟩ := shape_msg h'
    obtain ⟨p, ep, -⟩ := oi_role a
    obtain ⟨q, eq, -⟩ := oi_role b
    obtain ⟨p', ep', -⟩ := oi_role a'
    obtain ⟨q', eq', -⟩ := oi_role b'
    rw [nL2, nL2, ep, eq, ep', eq'] at e
    simp only [List.append_assoc, List.cons_append, List.nil_append, List.cons.injEq] at e
    obtain ⟨e1, e2, e3⟩ := e
    unfold branchesB at d d'
    simp only [Bool.and_eq_true, decide_eq_true_eq] at d d'
    have key : kids = kids' ∧ x = y := by
      refine hA kids' hk hk' (oiLab_of_asc _ _ d.1) (oiLab_of_asc _ _ d'.1) x y ?_
      cases kids with
      | nil => have := d.2.1; simp [F.len] at this
      | cons l1 k1 f1 t1 i1 c1 r1 =>
        cases kids' with
        | nil => have := d'.2.1; simp [F.len] at this
        | cons l2 k2 f2 t2 i2 c2 r2 =>
          rw [fL_first, fL_first, List.cons_append, List.cons_append] at e3
          rw [fL_more, fL_more, List.cons_append, List.cons_append, (List.cons.inj e3).2]
    refine ⟨⟨rfl, bl_ext (by rw [ep, ep', e1]), bl_ext (by rw [eq, eq', e2]), by omega, key.1⟩, key.2⟩
  · obtain ⟨a, b, c, l1, k1, f1, t1, i1, c1, rfl, hl⟩ := shape_rec h
    obtain ⟨a', b', c', l2, k2, f2, t2, i2, c2, rfl, hl'⟩ := shape_rec h'
    rw [nL3, nL3, fL_body, fL_body, List.cons_append, List.cons_append] at e
    obtain ⟨⟨e1, e2, e3, e4, e5⟩, e6⟩ := hB k2 f2 t2 i2 c2 hk.1 hk'.1 hk.2.1 hk'.2.1 x y hx hy (List.cons.inj e).2
    subst e1 e2 e3 e4 e5
    refine ⟨⟨rfl, ?_, ?_, by omega, ?_⟩, e6⟩
    · rw [bl_nil a, bl_nil a']
    · rw [bl_nil b, bl_nil b']
    · rw [bl_nil hl, bl_nil hl']
  · obtain ⟨a, b, c, d⟩ := shape_var h
    obtain ⟨a', b', c', d'⟩ := shape_var h'
    rw [nL4, nL4, List.cons_append, List.cons_append] at e
    obtain ⟨e1, e2⟩ := dec_split hx hy (List.cons.inj e).2
    refine ⟨⟨rfl, ?_, ?_, by omega, by rw [d, d']⟩, e2⟩
    · rw [bl_nil a, bl_nil a']
    · rw [bl_nil b, bl_nil b']
theorem one_all : ∀ f : F, OneA f ∧ OneB f := by
  intro f
  induction f with
  | nil =>
    refine ⟨?_, trivial⟩
    intro g _ _ _ _ x y e
    cases g with
    | nil => rw [fL_nil] at e; exact ⟨rfl, (List.cons.inj e).2⟩
    | cons lab k fr tg ix kids rest =>
      rw [fL_nil, fL_more] at e
      exact absurd (List.cons.inj e).1 (by decide)
  | cons lab k fr tg ix kids rest ihk ihr =>
    have hN : OneN k fr tg ix kids := one_node kids ihk.1 ihk.2 k fr tg ix
    refine ⟨?_, hN⟩
    intro g hf hg lf lg x y e
    cases g with
    | nil =>
      rw [fL_nil, fL_more] at e
      exact absurd (List.cons.inj e).1 (by decide)
    | cons lab' k' fr' tg' ix' kids' rest' =>
      obtain ⟨⟨c, hc⟩, lr⟩ := lf
      obtain ⟨⟨c', hc'⟩, lr'⟩ := lg
      rw [fL_more, fL_more, hc, hc'] at e
      simp only [List.append_assoc, List.cons_append, List.nil_append, List.cons.injEq, true_and] at e
      obtain ⟨e1, e2⟩ := e
      obtain ⟨⟨q1, q2, q3, q4, q5⟩, e3⟩ := hN k' fr' tg' ix' kids' hf.1 hg.1 hf.2.1 hg.2.1 _ _ (stop_more _ _) (stop_more _ _) e2
      obtain ⟨e4, e5⟩ := ihr.1 rest' hf.2.2 hg.2.2 lr lr' x y e3
      subst q1 q2 q3 q4 q5 e4
      have : lab = lab' := bl_ext (by rw [hc, hc', e1])
      subst this
      exact ⟨rfl, e5⟩
/-- Two valid closed types of one text are one. -/
theorem text_one {a b : Nd} (ha : wN a 0 0 = true) (hb : wN b 0 0 = true) (h : txN a.k a.fr a.tg a.ix a.kids = txN b.k b.fr b.tg b.ix b.kids) : a = b := by
  have h1 := oiF_of_w (.cons ⟨#[]⟩ a.k a.fr a.tg a.ix a.kids .nil) 0 0 (by simp only [wF, Bool.and_true]; exact ha)
  have h2 := oiF_of_w (.cons ⟨#[]⟩ b.k b.fr b.tg b.ix b.kids .nil) 0 0 (by simp only [wF, Bool.and_true]; exact hb)
  have hO := one_all a.kids
  obtain ⟨⟨q1, q2, q3, q4, q5⟩, -⟩ := one_node a.kids hO.1 hO.2 a.k a.fr a.tg a.ix b.k b.fr b.tg b.ix b.kids h1.1 h2.1 h1.2.1 h2.2.1 [] [] trivial trivial (by unfold nL; rw [h])
  cases a; cases b
  simp only at q1 q2 q3 q4 q5
  subst q1 q2 q3 q4 q5
  rfl
end Go.Proofs.YtfppglfajbmapaaDoor
