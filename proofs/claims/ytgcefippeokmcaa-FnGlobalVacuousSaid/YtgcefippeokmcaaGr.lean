/- A slice of branches of the call's own that grows by append: its cells and the tree that it reads as. -/
import Derived.Test.YtgcefippeokmcaaTree
import Derived.Deep.AppendLies
namespace Go.Proofs.Ytgcefippeokmcaa
open Go.RowKit

/-- The row's cells stand at another place. -/
theorem OwRow.moved {w w' : World} : ∀ (f : F) (b o b' o' : Nat) (bs : List Nat), OwRow w b o f bs → (∀ i, i < 6 * f.len → w'.cell? ⟨b', o' + i, none⟩ = w.cell? ⟨b, o + i, none⟩) → Same w w' bs → OwRow w' b' o' f bs := by
  intro f
  induction f with
  | nil => intro b o b' o' bs h _ _; exact h
  | cons lab k fr to ix kids rest ihk ihr =>
    intro b o b' o' bs hr hc hsame
    obtain ⟨h2, h3, h4, h5, h6, c0, c1, c2, c3, c4, ks, rs, rfl, ⟨a, cap, c5, e1, e2, hs⟩, hrest⟩ := hr
    have q : ∀ i, i < 6 → w'.cell? ⟨b', o' + i, none⟩ = w.cell? ⟨b, o + i, none⟩ := fun i hi => hc i (by simp only [F.len]; omega)
    refine ⟨h2, h3, h4, h5, h6, (q 0 (by omega)).trans c0, (q 1 (by omega)).trans c1, (q 2 (by omega)).trans c2, (q 3 (by omega)).trans c3, (q 4 (by omega)).trans c4, ks, rs, rfl, ⟨a, cap, (q 5 (by omega)).trans c5, e1, e2, ?_⟩,
      ihr _ _ _ _ _ hrest (fun i hi => by rw [Nat.add_assoc, Nat.add_assoc]; exact hc (6 + i) (by simp only [F.len]; omega)) (fun x hx => hsame x (List.mem_append_right _ hx))⟩
    rcases hs with hs | ⟨b2, n, ks', e3, rfl, hf, hne, e4⟩
    · exact Or.inl hs
    · have hb' : w'.heap[b2]? = w.heap[b2]? := hsame b2 (by simp)
      refine Or.inr ⟨b2, n, ks', e3, rfl, ?_, hne, e4.same _ _ _ _ (fun i _ => Same.cell hb') (fun x hx => hsame x (by simp [hx]))⟩
      obtain ⟨cs, t, hh, hn⟩ := hf
      exact ⟨cs, t, hb'.trans hh, hn⟩

/-- The slice that grows: nil, or a row of its own block, from base on, the blocks below it from base on too, each named once. -/
def Gr (w : World) (base : Nat) (v : Value) (f : F) (bs : List Nat) : Prop :=
  (f = .nil ∧ v = .slice none 0 0 ∧ bs = []) ∨
  ∃ g cap cur bs', v = .slice (some ⟨g, 0, none⟩) f.len cap ∧ base ≤ g ∧ w.heap[g]? = some (.cells cur ( /- t -/ 28) (0, 0)) ∧ f.len ≤ cap ∧ cap ≤ maxLen ∧ cur.size = cap * 6 ∧
    f ≠ .nil ∧ bs = g :: bs' ∧ OwRow w g 0 f bs' ∧ (∀ b, b ∈ bs' → base ≤ b) ∧ (g :: bs').Nodup

theorem Gr.nil (w : World) (base : Nat) : Gr w base (.slice none 0 0) .nil [] := Or.inl ⟨rfl, rfl, rfl⟩
theorem Gr.ow {w : World} {base : Nat} {v : Value} {f : F} {bs : List Nat} (h : Gr w base v f bs) : Ow w v f bs := by
  rcases h with ⟨rfl, rfl, rfl⟩ | ⟨g, cap, cur, bs', rfl, h1, h2, h3, h4, h5, h6, rfl, h7, h8, h9⟩
  · exact ⟨none, 0, rfl, Nat.le_refl _, Nat.zero_le _, Or.inl ⟨rfl, rfl⟩⟩
  · exact ⟨_, cap, rfl, h3, h4, Or.inr ⟨g, cap * 6, bs', rfl, rfl, ⟨cur, _, h2, h5⟩, h6, h7⟩⟩
theorem Gr.ge {w : World} {base : Nat} {v : Value} {f : F} {bs : List Nat} (h : Gr w base v f bs) : ∀ b, b ∈ bs → base ≤ b := by
  rcases h with ⟨rfl, rfl, rfl⟩ | ⟨g, cap, cur, bs', rfl, h1, h2, h3, h4, h5, h6, rfl, h7, h8, h9⟩
  · intro b hb; simp at hb
  · intro b hb
    rcases List.mem_cons.1 hb with rfl | hb
    · exact h1
    · exact h8 b hb
theorem Gr.nodup {w : World} {base : Nat} {v : Value} {f : F} {bs : List Nat} (h : Gr w base v f bs) : bs.Nodup := by
  rcases h with ⟨rfl, rfl, rfl⟩ | ⟨g, cap, cur, bs', rfl, h1, h2, h3, h4, h5, h6, rfl, h7, h8, h9⟩
  · exact List.nodup_nil
  · exact h9
theorem Gr.val {w : World} {base : Nat} {v : Value} {f : F} {bs : List Nat} (h : Gr w base v f bs) : ∃ a cap, v = .slice a f.len cap := h.ow.val
theorem Gr.lt {w : World} {base : Nat} {v : Value} {f : F} {bs : List Nat} (h : Gr w base v f bs) : ∀ b, b ∈ bs → b < w.heap.size := h.ow.lt
/-- The block is one of them. -/
theorem Gr.block {w : World} {base : Nat} {v : Value} {f : F} {bs : List Nat} (h : Gr w base v f bs) : ∀ g, v.ownBlock = some g → g ∈ bs := by
  rcases h with ⟨rfl, rfl, rfl⟩ | ⟨g, cap, cur, bs', rfl, h1, h2, h3, h4, h5, h6, rfl, h7, h8, h9⟩
  · intro g hg; simp [Value.ownBlock] at hg
  · intro g' hg
    simp only [Value.ownBlock, Option.some.injEq] at hg
    simp [hg]
theorem Gr.same {w w' : World} {base : Nat} {v : Value} {f : F} {bs : List Nat} (h : Gr w base v f bs) (hs : Same w w' bs) : Gr w' base v f bs := by
  rcases h with h | ⟨g, cap, cur, bs', rfl, h1, h2, h3, h4, h5, h6, rfl, h7, h8, h9⟩
  · exact Or.inl h
  · have hg : w'.heap[g]? = w.heap[g]? := hs g (by simp)
    exact Or.inr ⟨g, cap, cur, bs', rfl, h1, hg.trans h2, h3, h4, h5, h6, rfl, h7.same _ _ _ _ (fun i _ => Same.cell hg) (fun x hx => hs x (by simp [hx])), h8, h9⟩
theorem Gr.below {w w' : World} {base : Nat} {v : Value} {f : F} {bs : List Nat} (h : Gr w base v f bs) (hb : Below w.heap.size w w') : Gr w' base v f bs := h.same (Same.of_below hb h.lt)

/-- The cells of the row. -/
def grXs (w : World) (v : Value) (f : F) : List Value :=
  match v with
  | .slice (some a) _ _ => match w.heap[a.block]? with
    | some (.cells cur _ _) => cur.toList.take (f.len * 6)
    | _ => []
  | _ => []
theorem Gr.owns {w : World} {base : Nat} {v : Value} {f : F} {bs : List Nat} (h : Gr w base v f bs) : w.ownsRow base ( /- t -/ 28) 6 v f.len (grXs w v f) := by
  rcases h with ⟨rfl, rfl, rfl⟩ | ⟨g, cap, cur, bs', rfl, h1, h2, h3, h4, h5, h6, rfl, h7, h8, h9⟩
  · exact ⟨by simp [grXs, F.len], Or.inl ⟨rfl, rfl⟩⟩
  · have hx : grXs w (.slice (some ⟨g, 0, none⟩) f.len cap) f = cur.toList.take (f.len * 6) := by
      unfold grXs
      simp only [h2]
    rw [hx]
    refine ⟨?_, Or.inr ⟨g, cap, cur, rfl, h1, h2, h3, h4, h5, rfl⟩⟩
    rw [List.length_take, Array.length_toList, h5]
    omega

theorem ownsRow_cell {w : World} {base e n : Nat} {g cap : Nat} {xs : List Value} (h : w.ownsRow base e 6 (.slice (some ⟨g, 0, none⟩) n cap) n xs) (hn : 0 < n) (i : Nat) (hi : i < n * 6) :
    ∃ cur, w.heap[g]? = some (.cells cur e (0, 0)) ∧ n ≤ cap ∧ cap ≤ maxLen ∧ cur.size = cap * 6 ∧ base ≤ g ∧ w.cell? ⟨g, i, none⟩ = xs[i]? := by
  obtain ⟨hl, h | ⟨g', cap', cur, hv, h1, h2, h3, h4, h5, h6⟩⟩ := h
  · omega
  · simp only [Value.slice.injEq, Option.some.injEq, Addr.mk.injEq, true_and] at hv
    obtain ⟨⟨rfl, _⟩, rfl⟩ := hv
    refine ⟨cur, h2, h3, h4, h5, h1, ?_⟩
    rw [← h6, List.getElem?_take]
    rw [if_pos hi]
    simp [World.cell?, h2]

/-- One branch more. -/
theorem Gr.push {w w' : World} {base : Nat} {v : Value} {f : F} {bs : List Nat} (h : Gr w base v f bs) {lab fr to : ByteArray} {k ix : Int} {u : Value} {kids : F} {ks : List Nat} (hu : Ow w u kids ks) (hks : ∀ b, b ∈ ks → base ≤ b) (hnd : ks.Nodup) (hdj : ∀ b, b ∈ bs → b ∉ ks)
    (hl : lab.size ≤ maxLen) (hf : fr.size ≤ maxLen) (ht : to.size ≤ maxLen) (hk : (Lit.int .i64 k).wf = true) (hi : (Lit.int .i64 ix).wf = true)
    {g cap : Nat} (hw' : w'.ownsRow base ( /- t -/ 28) 6 (.slice (some ⟨g, 0, none⟩) (f.len + 1) cap) (f.len + 1) (grXs w v f ++ [.string lab, .int .i64 k, .string fr, .string to, .int .i64 ix, u]))
    (hgr : w.grownBy w' v.ownBlock) (hg : v.ownBlock = some g ∨ g = w.heap.size) :
    ∃ bs', Gr w' base (.slice (some ⟨g, 0, none⟩) (f.len + 1) cap) (f.app (.cons lab k fr to ix kids .nil)) bs' ∧ (∀ b, b ∈ bs' → b ∈ bs ∨ b ∈ ks ∨ b = w.heap.size) := by
  obtain ⟨cur, c1, c2, c3, c4, c5, _⟩ := ownsRow_cell hw' (by omega) 0 (by omega)
  have hcell : ∀ i, i < (f.len + 1) * 6 → w'.cell? ⟨g, i, none⟩ = (grXs w v f ++ [.string lab, .int .i64 k, .string fr, .string to, .int .i64 ix, u])[i]? := fun i hi => by
    obtain ⟨_, _, _, _, _, _, hh⟩ := ownsRow_cell hw' (by omega) i hi
    exact hh
  have hxl : (grXs w v f).length = f.len * 6 := h.owns.1
  have hn : ∀ j, j < 6 → w'.cell? ⟨g, 0 + f.len * 6 + j, none⟩ = ([.string lab, .int .i64 k, .string fr, .string to, .int .i64 ix, u] : List Value)[j]? := fun j hj => by
    rw [show 0 + f.len * 6 + j = f.len * 6 + j by omega, hcell _ (by omega), List.getElem?_append_right (by omega)]
    rw [show f.len * 6 + j - (grXs w v f).length = j by omega]
  have hsks : Same w w' ks := fun b hb => hgr.block b (hu.lt b hb) (fun e => hdj b (h.block b e.symm) hb)
  have hul := hu.lt
  obtain ⟨ua, uc, rfl, e1, e2, hkk⟩ := hu.same hsks
  have hnew : OwRow w' g (0 + 6 * f.len) (.cons lab k fr to ix kids .nil) ks := by
    rw [show 0 + 6 * f.len = 0 + f.len * 6 by omega]
    exact ⟨hl, hf, ht, hk, hi, hn 0 (by omega), hn 1 (by omega), hn 2 (by omega), hn 3 (by omega), hn 4 (by omega), ks, [], by simp, ⟨ua, uc, hn 5 (by omega), e1, e2, hkk⟩, rfl⟩
  have hlen : (f.app (.cons lab k fr to ix kids .nil)).len = f.len + 1 := by rw [F.len_app]; rfl
  have hne : f.app (.cons lab k fr to ix kids .nil) ≠ .nil := by
    intro e
    rw [e] at hlen
    simp [F.len] at hlen
  rcases h with ⟨rfl, rfl, rfl⟩ | ⟨g0, cap0, cur0, bs0, rfl, h1, h2, h3, h4, h5, h6, rfl, h7, h8, h9⟩
  · have hgg : g = w.heap.size := by
      rcases hg with hg | hg
      · simp [Value.ownBlock] at hg
      · exact hg
    refine ⟨g :: ks, Or.inr ⟨g, cap, cur, ks, by rw [hlen], c5, c1, by rw [hlen]; exact c2, c3, c4, hne, rfl, ?_, hks, List.nodup_cons.2 ⟨fun hm => ?_, hnd⟩⟩, fun b hb => ?_⟩
    · simpa [F.app, F.len] using hnew
    · have := hul g hm
      omega
    · rcases List.mem_cons.1 hb with rfl | hb
      · exact Or.inr (Or.inr hgg)
      · exact Or.inr (Or.inl hb)
  · have hsame : Same w w' bs0 := fun b hb => hgr.block b (h7.lt _ _ _ _ b hb) (fun e => by
      simp only [Value.ownBlock, Option.some.injEq] at e
      subst e
      exact (List.nodup_cons.1 h9).1 hb)
    have hold : OwRow w' g 0 f bs0 := by
      refine h7.moved _ _ _ _ _ _ (fun i hi => ?_) hsame
      rw [Nat.zero_add, hcell i (by omega), List.getElem?_append_left (by omega)]
      have hx : grXs w (.slice (some ⟨g0, 0, none⟩) f.len cap0) f = cur0.toList.take (f.len * 6) := by
        unfold grXs
        simp only [h2]
      rw [hx, List.getElem?_take, if_pos (by omega)]
      simp [World.cell?, h2]
    have hgn : g ∉ bs0 ∧ g ∉ ks := by
      rcases hg with hg | hg
      · simp only [Value.ownBlock, Option.some.injEq] at hg
        subst hg
        exact ⟨(List.nodup_cons.1 h9).1, hdj _ (by simp)⟩
      · constructor
        · intro hm
          have := h7.lt _ _ _ _ g hm
          omega
        · intro hm
          have := hul g hm
          omega
    refine ⟨g :: (bs0 ++ ks), Or.inr ⟨g, cap, cur, bs0 ++ ks, by rw [hlen], c5, c1, by rw [hlen]; exact c2, c3, c4, hne, rfl, OwRow.app _ _ _ _ _ _ hold hnew, fun b hb => ?_, List.nodup_cons.2 ⟨fun hm => ?_, List.nodup_append.2 ⟨(List.nodup_cons.1 h9).2, hnd, fun x hx y hy => ?_⟩⟩⟩, fun b hb => ?_⟩
    · rcases List.mem_append.1 hb with hb | hb
      · exact h8 b hb
      · exact hks b hb
    · rcases List.mem_append.1 hm with hm | hm
      · exact hgn.1 hm
      · exact hgn.2 hm
    · rintro rfl
      exact hdj x (by simp [hx]) hy
    · rcases List.mem_cons.1 hb with rfl | hb
      · rcases hg with hg | hg
        · simp only [Value.ownBlock, Option.some.injEq] at hg
          exact Or.inl (by simp [hg])
        · exact Or.inr (Or.inr hg)
      · rcases List.mem_append.1 hb with hb | hb
        · exact Or.inl (by simp [hb])
        · exact Or.inr (Or.inl hb)
end Go.Proofs.Ytgcefippeokmcaa
