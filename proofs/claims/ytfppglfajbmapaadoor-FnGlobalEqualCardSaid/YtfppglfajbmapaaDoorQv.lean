/- The comparison of two trees by a list of pairs: what a pair is, what holds of the list and of the pairs that were seen. -/
import Derived.Test.YtfppglfajbmapaaDoorQh
import Derived.Test.YtfppglfajbmapaaDoorMp
namespace Go.Proofs.YtfppglfajbmapaaDoor
open Go.RowKit

def likeB (k : Int) (fr to : ByteArray) (ix : Int) (k' : Int) (fr' to' : ByteArray) (ix' : Int) : Bool :=
  (k == k') && ((fr.toList == fr'.toList) && ((to.toList == to'.toList) && (ix == ix')))
theorem headB_like (k : Int) (fr to : ByteArray) (ix : Int) (l : Nat) (k' : Int) (fr' to' : ByteArray) (ix' : Int) (l' : Nat) :
    headB k fr to ix l k' fr' to' ix' l' = (likeB k fr to ix k' fr' to' ix' && (l == l')) := by
  unfold headB likeB
  simp only [Bool.and_assoc]

/-- A pair of nodes. -/
structure Pr where
  k : Int
  fr : ByteArray
  to : ByteArray
  ix : Int
  s : Value
  f : F
  k' : Int
  fr' : ByteArray
  to' : ByteArray
  ix' : Int
  s' : Value
  f' : F
def Pr.b (p : Pr) : Bool := sameN p.k p.fr p.to p.ix p.f p.k' p.fr' p.to' p.ix' p.f'
def Pr.cells (p : Pr) : List Value := [.int .i64 p.k, .string p.fr, .string p.to, .int .i64 p.ix, p.s, .int .i64 p.k', .string p.fr', .string p.to', .int .i64 p.ix', p.s']
def Pr.Ok (w : World) (p : Pr) : Prop := (∃ bs, Ow w p.s p.f bs) ∧ ∃ bs, Ow w p.s' p.f' bs
theorem cells_len (L : List Pr) : (L.flatMap Pr.cells).length = L.length * 10 := by
  induction L with
  | nil => rfl
  | cons p L ih => simp only [List.flatMap_cons, List.length_append, ih, List.length_cons, Pr.cells, List.length_nil]; omega
theorem cells_last (L : List Pr) (p : Pr) (j : Nat) : ((L ++ [p]).flatMap Pr.cells)[L.length * 10 + j]? = p.cells[j]? := by
  rw [List.flatMap_append, List.getElem?_append_right (by rw [cells_len]; omega), cells_len, Nat.add_sub_cancel_left]
  simp
theorem cells_take (L : List Pr) (p : Pr) : ((L ++ [p]).flatMap Pr.cells).take (L.length * 10) = L.flatMap Pr.cells := by
  rw [List.flatMap_append, List.take_append_of_le_length (by rw [cells_len]; omega), List.take_of_length_le (by rw [cells_len]; omega)]

/-- A pair of rows that was seen. -/
structure En where
  p : Nat
  q : Nat
  f : F
  g : F
def En.ky (e : En) : Ky := ⟨e.p, e.q, e.f.len⟩
def En.Ok (w : World) (e : En) : Prop := (∃ n bs, Free w e.p n ∧ OwRow w e.p 0 e.f bs) ∧ (∃ n bs, Free w e.q n ∧ OwRow w e.q 0 e.g bs) ∧ e.f.len = e.g.len

theorem row_one {w : World} : ∀ (f f' : F) (b o : Nat), Row w b o f → Row w b o f' → f.len = f'.len → f = f' := by
  intro f
  induction f with
  | nil => intro f' b o _ _ h; cases f' with
    | nil => rfl
    | cons => simp [F.len] at h
  | cons lab k fr to ix kids rest ihk ihr =>
    intro f' b o h1 h2 hl
    cases f' with
    | nil => simp [F.len] at hl
    | cons lab' k' fr' to' ix' kids' rest' =>
      obtain ⟨_, _, _, _, _, c0, c1, c2, c3, c4, ⟨a, cap, c5, _, _, hk⟩, hr⟩ := h1
      obtain ⟨_, _, _, _, _, d0, d1, d2, d3, d4, ⟨a', cap', d5, _, _, hk'⟩, hr'⟩ := h2
      rw [c0] at d0; rw [c1] at d1; rw [c2] at d2; rw [c3] at d3; rw [c4] at d4; rw [c5] at d5
      simp only [Option.some.injEq, Value.string.injEq, Value.int.injEq, Value.slice.injEq, true_and] at d0 d1 d2 d3 d4 d5
      obtain ⟨rfl, hkl, rfl⟩ := d5
      subst d0 d1 d2 d3 d4
      have e1 : rest = rest' := ihr rest' b (o + 6) hr hr' (by simpa [F.len] using hl)
      have e2 : kids = kids' := by
        rcases hk with rfl | ⟨b', o', rfl, hk⟩
        · cases kids' with
          | nil => rfl
          | cons => simp [F.len] at hkl
        · rcases hk' with rfl | ⟨b2, o2, e, hk'⟩
          · cases kids with
            | nil => rfl
            | cons => simp [F.len] at hkl
          · simp only [Option.some.injEq, Addr.mk.injEq, and_true] at e
            obtain ⟨rfl, rfl⟩ := e
            exact ihk kids' _ _ hk hk' hkl
      rw [e1, e2]

theorem En.one {w : World} {x y : En} (hx : x.Ok w) (hy : y.Ok w) (h : x.ky.same y.ky = true) : x.f = y.f ∧ x.g = y.g := by
  simp only [Ky.same, En.ky, Bool.and_eq_true, beq_iff_eq] at h
  obtain ⟨h1, h2, h3⟩ := h
  obtain ⟨⟨_, _, _, a1⟩, ⟨_, _, _, a2⟩, a3⟩ := hx
  obtain ⟨⟨_, _, _, b1⟩, ⟨_, _, _, b2⟩, b3⟩ := hy
  rw [← h1] at b1
  rw [← h2] at b2
  exact ⟨row_one _ _ _ _ (a1.row) (b1.row) h3, row_one _ _ _ _ (a2.row) (b2.row) (by omega)⟩

/-- What holds between rounds: root is true just if all pairs that are to be compared are; a pair that was seen is equal if all smaller ones that are to be compared are. -/
structure Inv (root : Bool) (L : List Pr) (S : List En) : Prop where
  need : root = true → ∀ p, p ∈ L → p.b = true
  suff : (∀ p, p ∈ L → p.b = true) → root = true
  seen : ∀ e, e ∈ S → (∀ p, p ∈ L → p.f.sz < e.f.sz → p.b = true) → sameF e.f e.g = true

theorem Inv.start (x : Pr) : Inv x.b [x] [] := ⟨fun h p hp => by simp at hp; rw [hp]; exact h, fun h => h x (by simp), fun e he => by simp at he⟩
theorem Inv.done {root : Bool} {S : List En} (h : Inv root [] S) : root = true := h.suff (fun p hp => by simp at hp)
theorem Inv.no {root : Bool} {L : List Pr} {S : List En} {x : Pr} (h : Inv root (L ++ [x]) S) (hx : x.b = false) : root = false := by
  cases hr : root with
  | false => rfl
  | true => rw [h.need hr x (by simp)] at hx; cases hx
theorem Inv.leaf {root : Bool} {L : List Pr} {S : List En} {x : Pr} (h : Inv root (L ++ [x]) S) (hx : x.b = true) : Inv root L S where
  need hr p hp := h.need hr p (by simp [hp])
  suff hL := h.suff (fun p hp => by
    rcases List.mem_append.1 hp with hp | hp
    · exact hL p hp
    · simp at hp; rw [hp]; exact hx)
  seen e he hL := h.seen e he (fun p hp hs => by
    rcases List.mem_append.1 hp with hp | hp
    · exact hL p hp hs
    · simp at hp; rw [hp]; exact hx)
theorem Inv.known {root : Bool} {L : List Pr} {S : List En} {x : Pr} (h : Inv root (L ++ [x]) S) (hh : headB x.k x.fr x.to x.ix x.f.len x.k' x.fr' x.to' x.ix' x.f'.len = true) {e : En} (he : e ∈ S) (h1 : e.f = x.f) (h2 : e.g = x.f') : Inv root L S := by
  have key : (∀ p, p ∈ L → p.f.sz < x.f.sz → p.b = true) → x.b = true := fun hL => by
    have := h.seen e he (fun p hp hs => by
      rw [h1] at hs
      rcases List.mem_append.1 hp with hp | hp
      · exact hL p hp hs
      · simp at hp; rw [hp] at hs; omega)
    rw [h1, h2] at this
    simp [Pr.b, sameN, hh, this]
  refine ⟨fun hr p hp => h.need hr p (by simp [hp]), fun hL => h.suff (fun p hp => ?_), fun e' he' hL => h.seen e' he' (fun p hp hs => ?_)⟩
  · rcases List.mem_append.1 hp with hp | hp
    · exact hL p hp
    · simp at hp; rw [hp]; exact key (fun p hp _ => hL p hp)
  · rcases List.mem_append.1 hp with hp | hp
    · exact hL p hp hs
    · simp at hp; rw [hp] at hs ⊢; exact key (fun p hp hs' => hL p hp (by omega))
theorem Inv.push {root : Bool} {L P : List Pr} {S : List En} {x : Pr} (h : Inv root (L ++ [x]) S) (hh : headB x.k x.fr x.to x.ix x.f.len x.k' x.fr' x.to' x.ix' x.f'.len = true) {e : En} (h1 : e.f = x.f) (h2 : e.g = x.f')
    (hP : sameF x.f x.f' = P.all Pr.b) (hs : ∀ p, p ∈ P → p.f.sz < x.f.sz) : Inv root (L ++ P) (S ++ [e]) := by
  have hx : x.b = P.all Pr.b := by simp [Pr.b, sameN, hh, ← hP]
  have key : (∀ p, p ∈ P → p.b = true) → x.b = true := fun hL => by rw [hx]; exact List.all_eq_true.2 hL
  refine ⟨fun hr p hp => ?_, fun hL => h.suff (fun p hp => ?_), fun e' he' hL => ?_⟩
  · rcases List.mem_append.1 hp with hp | hp
    · exact h.need hr p (by simp [hp])
    · have := h.need hr x (by simp)
      rw [hx] at this
      exact List.all_eq_true.1 this p hp
  · rcases List.mem_append.1 hp with hp | hp
    · exact hL p (by simp [hp])
    · simp at hp; rw [hp]; exact key (fun p hp => hL p (by simp [hp]))
  · rcases List.mem_append.1 he' with he' | he'
    · refine h.seen e' he' (fun p hp hsz => ?_)
      rcases List.mem_append.1 hp with hp | hp
      · exact hL p (by simp [hp]) hsz
      · simp at hp
        rw [hp] at hsz ⊢
        exact key (fun p hp => hL p (by simp [hp]) (by have := hs p hp; omega))
    · simp at he'
      subst he'
      rw [h1, h2, hP]
      exact List.all_eq_true.2 (fun p hp => hL p (by simp [hp]) (by rw [h1]; exact hs p hp))

/-- How many nodes are to be compared at most. -/
def wsum : List Pr → Nat
  | [] => 0
  | p :: L => p.f.sz + 1 + wsum L
theorem wsum_app (L M : List Pr) : wsum (L ++ M) = wsum L + wsum M := by
  induction L with
  | nil => simp [wsum]
  | cons p L ih => simp only [List.cons_append, wsum, ih]; omega
theorem len_wsum (L : List Pr) : L.length ≤ wsum L := by
  induction L with
  | nil => simp
  | cons p L ih => simp only [List.length_cons, wsum]; omega

end Go.Proofs.YtfppglfajbmapaaDoor
