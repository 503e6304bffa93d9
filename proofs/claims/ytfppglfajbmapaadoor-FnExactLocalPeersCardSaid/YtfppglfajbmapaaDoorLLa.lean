/- linkNode of the program: actions. -/
import Derived.Test.YtfppglfajbmapaaDoorLLr
import Derived.OneCell
namespace Go.Proofs.YtfppglfajbmapaaDoor.Lo
open Go.RowKit

theorem Tryd.info178 : (Tryd.prog.info? ( /- t -/ 178)).map (fun i => (i.zero, i.size, i.bytes)) = some (some (.agg #[.string ⟨#[]⟩, .nilIface]), 2, 32) := by kernel_rfl

/-- The branches up to a place are linked. -/
def ActR (w1 : World) (A c : Nat) (k : Int) (fr : ByteArray) (ps : List Nat) (p : F) (mm : Nat) (v : Value) (xs : List Value) (bs : List Nat) (wr : World) : Prop :=
  Ctr wr c mm ∧ Only c w1 wr ∧ Blk wr A #[.int .i64 k, .string fr, v] ∧ wr.ownsRow (A + 1) ( /- t -/ 178) 2 v p.len xs ∧ Lk wr p ps xs bs ∧ (∀ b, b ∈ bs → A < b) ∧ (∀ x, v.ownBlock = some x → x ∉ bs)

theorem act_start {w1 : World} {c mm : Nat} (k : Int) (fr : ByteArray) (ps : List Nat) (hc : Ctr w1 c mm) (t : TypeId) :
    ActR w1 w1.heap.size c k fr ps .nil mm (.slice none 0 0) [] [] (w1.alloc (.cells #[.int .i64 k, .string fr, .slice none 0 0] t)) :=
  ⟨hc.alloc _, (Only.refl c w1).alloc _, Blk.now _ _ _, World.ownsRow_nil _ _ _ _, ⟨rfl, rfl⟩, fun _ h => absurd h (List.not_mem_nil), fun _ h => by simp [Value.ownBlock] at h⟩

theorem act_step {w1 wr w3 W3 w4 : World} {A c mm m' : Nat} {k : Int} {fr : ByteArray} {ps : List Nat} {p : F} {v : Value} {xs : List Value} {bs ks : List Nat} {lab fr' : ByteArray} {kd ix' : Int} {kids' : F} {u : Value} {g cap : Nat}
    (hA : A = w1.heap.size) (hcA : c < A) (h : ActR w1 A c k fr ps p mm v xs bs wr) (o3 : Only c wr w3) (c3 : Ctr w3 c m') (hn : LkN w3 kd fr' ix' kids' ps u ks) (hks : ∀ b, b ∈ ks → wr.heap.size ≤ b) (hb3 : Below w3.heap.size w3 W3)
    (hown : w4.ownsRow (A + 1) ( /- t -/ 178) 2 (.slice (some ⟨g, 0, none⟩) (p.len + 1) cap) (p.len + 1) (xs ++ [.string lab, u])) (hgrow : W3.grownBy w4 v.ownBlock) (hat : v.ownBlock = some g ∨ g = W3.heap.size) :
    ActR w1 A c k fr ps (p.app (.cons lab kd fr' ix' kids' .nil)) m' (.slice (some ⟨g, 0, none⟩) (p.len + 1) cap) (xs ++ [.string lab, u]) (bs ++ ks) (w4.setCell ⟨A, 2, none⟩ (.slice (some ⟨g, 0, none⟩) (p.len + 1) cap)) := by
  obtain ⟨h1, h2, h3, h4, h5, h6, h7⟩ := h
  have hAr := h3.lt
  have hvl : ∀ x, v.ownBlock = some x → A + 1 ≤ x ∧ x < wr.heap.size := h4.lt
  have hgA : A + 1 ≤ g := (hown.lt g rfl).1
  have s3 := o3.size
  have s3' := hb3.size
  have hbl : ∀ b, b ∈ bs → b < wr.heap.size := Lk.lt _ _ _ _ h5
  have hkl : ∀ b, b ∈ ks → b < w3.heap.size := hn.lt
  have hrow : ∀ x, v.ownBlock = some x → x < wr.heap.size := fun x hx => (hvl x hx).2
  have keep : ∀ b, b < wr.heap.size → b ≠ c → v.ownBlock ≠ some b → b ≠ A → (w4.setCell ⟨A, 2, none⟩ (.slice (some ⟨g, 0, none⟩) (p.len + 1) cap)).heap[b]? = wr.heap[b]? := fun b hb hc hv ha => by
    rw [Below.heap_setCell _ _ _ _ (show b ≠ (⟨A, 2, none⟩ : Addr).block from ha), hgrow.block b (by omega) (fun e => hv e.symm), hb3.block b (by omega)]
    exact o3.block b hb hc
  have keep3 : ∀ b, wr.heap.size ≤ b → b < w3.heap.size → (w4.setCell ⟨A, 2, none⟩ (.slice (some ⟨g, 0, none⟩) (p.len + 1) cap)).heap[b]? = w3.heap[b]? := fun b hb hb' => by
    rw [Below.heap_setCell _ _ _ _ (show b ≠ (⟨A, 2, none⟩ : Addr).block by show b ≠ A; omega), hgrow.block b (by omega) (fun e => by have := hrow b e.symm; omega), hb3.block b hb']
  refine ⟨?_, ?_, ?_, ?_, ?_, ?_, ?_⟩
  · refine (c3.same ((hgrow.block c (by have := c3.lt; omega) (fun e => by have := (hvl c e.symm).1; omega)).trans (hb3.block c c3.lt))).setOther (show c ≠ A by omega) _
  · have o4 : Only c w1 w4 := by
      have o := (h2.trans o3).below hb3
      refine ⟨hgrow.os.trans o.os, hgrow.tape.trans o.tape, hgrow.output.trans o.output, Nat.le_trans o.size hgrow.size, fun i hi hic => ?_⟩
      rw [hgrow.block i (Nat.lt_of_lt_of_le hi o.size) (fun e => by have := (hvl i e.symm).1; omega)]
      exact o.block i hi hic
    exact o4.setCell (Or.inr (show w1.heap.size ≤ A by omega)) _
  · have hA4 : w4.heap[A]? = wr.heap[A]? := by
      rw [hgrow.block A (by omega) (fun e => by have := (hvl A e.symm).1; omega), hb3.block A (by omega)]
      exact o3.block A hAr (by omega)
    exact (h3.same hA4).set 2 _
  · have e := F.len_app (.cons lab kd fr' ix' kids' .nil) p
    have : (p.app (.cons lab kd fr' ix' kids' .nil)).len = p.len + 1 := by rw [e]; rfl
    rw [this]
    exact ownsRow_setCell_other hown (fun e => by simp [Value.ownBlock] at e; omega) _
  · refine Lk.snoc p ps xs bs (h5.same _ _ _ _ (fun b hb => keep b (hbl b hb) (by have := h6 b hb; omega) (fun e => h7 b e hb) (by have := h6 b hb; omega))) (hn.same (fun b hb => keep3 b (hks b hb) (hkl b hb)))
  · intro b hb
    rcases List.mem_append.1 hb with hb | hb
    · exact h6 b hb
    · have := hks b hb; omega
  · intro x hx hm
    have hxg : g = x := by simpa [Value.ownBlock] using hx
    subst hxg
    rcases List.mem_append.1 hm with hm | hm
    · rcases hat with hat | hat
      · exact h7 _ hat hm
      · have := hbl _ hm; omega
    · rcases hat with hat | hat
      · have := hrow _ hat; have := hks _ hm; omega
      · have := hkl _ hm; omega

theorem act_end {w w1 wr : World} {A c m mm : Nat} {k : Int} {fr : ByteArray} {ps : List Nat} {p : F} {v : Value} {xs : List Value} {bs : List Nat} {b0 : Bool} (hk : k = 2 ∨ k = 3) (hA : A = w1.heap.size) (ho : Only c w w1)
    (h : ActR w1 A c k fr ps p mm v xs bs wr) (hp : p ≠ .nil) (hm : mm = m + (p.sz + 1)) (hb : b0 = true) (h4 : m + (p.sz + 1) ≤ 400) :
    LiPost c w m k fr 0 p ps b0 (.returned (.tuple #[.iface ( /- t -/ 93) (.pointer (some ⟨A, 0, none⟩)), .bool true])) wr := by
  obtain ⟨h1, h2, h3, h4', h5, h6, h7⟩ := h
  have hpl : p.len ≠ 0 := fun e => hp (nil_of_len e)
  have s1 := ho.size
  obtain ⟨hl, ⟨-, h0⟩ | ⟨g, cp, cur, rfl, hg, hgh, g1, g2, g3, g4⟩⟩ := h4'
  · exact absurd h0 hpl
  refine ⟨mm, _, A :: g :: bs, by rw [hb, decide_eq_true h4]; rfl, Or.inr ⟨_, _, rfl⟩, ho.trans h2, h1, fun _ => ⟨hm, Or.inr (Or.inr (Or.inr ⟨hk, A, g, cp, cur, xs, bs, rfl, h3, g1, g2, ⟨_, hgh⟩, g4, rfl, h5⟩)), fun b hb => ?_⟩⟩
  rcases List.mem_cons.1 hb with rfl | hb
  · omega
  · rcases List.mem_cons.1 hb with rfl | hb
    · omega
    · have := h6 b hb; omega

theorem len_le_sz : ∀ f : F, f.len ≤ f.sz
  | .nil => Nat.le_refl _
  | .cons _ _ _ _ _ rest => by have := len_le_sz rest; simp only [F.len, F.sz]; omega

theorem act_valid {k ix b u d : Int} {fr : ByteArray} {kids : F} (hk : k = 2 ∨ k = 3) (hd : 1 ≤ d) (hsh : shapeB k fr ix kids = true) : vldN k fr ix kids b u d = vldF kids b 0 (d - 1) := by
  conv => lhs; unfold vldN
  rw [nodeB_shape, hsh, decide_eq_true hd, if_neg (by omega), if_neg (by omega), if_pos hk]
  rfl
end Go.Proofs.YtfppglfajbmapaaDoor.Lo
