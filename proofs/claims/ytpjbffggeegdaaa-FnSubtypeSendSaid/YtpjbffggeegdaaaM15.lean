/- LJp, LJq, Law, Or, Eo -/
import Derived.Test.YtpjbffggeegdaaaM14
import Derived.StillTailTactics
import Derived.Test.YtpjbffggeegdaaaM16
import Derived.Test.YtpjbffggeegdaaaRows
import Derived.Test.YtpjbffggeegdaaaM00
import Derived.ProofKit
import Derived.ChangeArms
/- IsSubtype of the program: two closed valid types compared. -/
namespace Go.Proofs.Ytpjbffggeegdaaa.Lo
open Go.RowKit

set_option maxHeartbeats 1000000 in
/-- IsSubtype of the program. -/
theorem implSub (w : World) (a b : Nd) (sa sb : Value) (hs : Sl w sa a.kids) (hs' : Sl w sb b.kids) :
    Calls Try.prog 8 #[.agg #[.int .i64 a.k, .string a.fr, .int .i64 a.ix, sa], .agg #[.int .i64 b.k, .string b.fr, .int .i64 b.ix, sb]] w fun e w' => e = .returned (.bool (cmpB true a b)) ∧ Below w.heap.size w w' := by
  have hb0 := (alloc_below w (.cells #[.int .i64 a.k, .string a.fr, .int .i64 a.ix, sa] ( /- t -/ 25))).alloc (by simp) (.cells #[.int .i64 b.k, .string b.fr, .int .i64 b.ix, sb] ( /- t -/ 25))
  have HS := hide (hs.still (Still.of_below hb0))
  have HS' := hide (hs'.still (Still.of_below hb0))
  obtain ⟨v, hv⟩ : ∃ v, v = cmpB true a b := ⟨_, rfl⟩
  rw [← hv]
  have HV := hide hv
  clear hs hs' hv
  go_enter Try.func8, Try.ntmps8
  go_wp2_with fail
  refine (cmpS_calls _ a b sa sb HS.out HS'.out).mono ?_
  rintro e w1 ⟨rfl, hb⟩
  have hb2 := hb0.trans (hb.mono hb0.size)
  clear hb0 hb
  rw [← HV.out]
  go_wp2_with fail
  go_ret
  exact ⟨rfl, hb2⟩
end Go.Proofs.Ytpjbffggeegdaaa.Lo

/- LocalEquivalent of the program: two closed valid types compared. -/
namespace Go.Proofs.Ytpjbffggeegdaaa.Lo
open Go.RowKit

set_option maxHeartbeats 1000000 in
/-- LocalEquivalent of the program. -/
theorem implEquiv (w : World) (a b : Nd) (sa sb : Value) (hs : Sl w sa a.kids) (hs' : Sl w sb b.kids) :
    Calls Try.prog 9 #[.agg #[.int .i64 a.k, .string a.fr, .int .i64 a.ix, sa], .agg #[.int .i64 b.k, .string b.fr, .int .i64 b.ix, sb]] w fun e w' => e = .returned (.bool (cmpB false a b)) ∧ Below w.heap.size w w' := by
  have hb0 := (alloc_below w (.cells #[.int .i64 a.k, .string a.fr, .int .i64 a.ix, sa] ( /- t -/ 25))).alloc (by simp) (.cells #[.int .i64 b.k, .string b.fr, .int .i64 b.ix, sb] ( /- t -/ 25))
  have HS := hide (hs.still (Still.of_below hb0))
  have HS' := hide (hs'.still (Still.of_below hb0))
  obtain ⟨v, hv⟩ : ∃ v, v = cmpB false a b := ⟨_, rfl⟩
  rw [← hv]
  have HV := hide hv
  clear hs hs' hv
  go_enter Try.func9, Try.ntmps9
  go_wp2_with fail
  refine (cmpE_calls _ a b sa sb HS.out HS'.out).mono ?_
  rintro e w1 ⟨rfl, hb⟩
  have hb2 := hb0.trans (hb.mono hb0.size)
  clear hb0 hb
  rw [← HV.out]
  go_wp2_with fail
  go_ret
  exact ⟨rfl, hb2⟩
end Go.Proofs.Ytpjbffggeegdaaa.Lo

/- What a law's call owes, once it is known that it returns true and has written to no old block. -/
namespace Go.Proofs.Ytpjbffggeegdaaa
open Go.ChangeShapes Go.WideShapes Go.ChangeAt Go.RowKit

theorem Try.own : ownKnob Try.prog.godebug = none := by kernel_rfl
theorem Try.laidOut : laidOutB Try.prog = true := by kernel_rfl

section
variable {H : Type} {enc : TypeId × Value → H} {P : Program}

theorem trodAll_below (hl : laidOutB P = true) {W W' : World} (hb : Below W.heap.size W W') : ∀ (ts : List TypeId) (vs : List Value) (ds : List (DataW H)) (ps : List MemPlace),
    (ts.all fun t => P.readableRec t && decide (t < P.types.size)) = true → DataW.TrodAll enc P W 0 (fun _ => true) true ts vs ds ps → (∀ x ∈ ps, x.block < W.heap.size) →
    DataW.TrodAll enc P W' 0 (fun b => decide (b < W.heap.size)) true ts vs ds ps := by
  intro ts
  induction ts with
  | nil =>
    intro vs ds ps _ h _
    cases vs <;> cases ds <;> first | exact h | exact h.elim
  | cons t ts ih =>
    intro vs ds ps ht h hlt
    cases vs with
    | nil => cases ds <;> exact h.elim
    | cons v vs =>
      cases ds with
      | nil => exact h.elim
      | cons d ds =>
        obtain ⟨p, q, h1, h2, rfl⟩ := h
        simp only [List.all_cons, Bool.and_eq_true, decide_eq_true_eq] at ht
        exact ⟨p, q, Below.trod hl ht.1.1 ht.1.2 h1 hb (fun x hx => hlt x (List.mem_append_left _ hx)), ih vs ds q ht.2 h2 (fun x hx => hlt x (List.mem_append_right _ hx)), rfl⟩

/-- A law that returned true, and below the old heap's size nothing has turned. -/
theorem law_post {f : Func} {s : ChangeSpec} {W W' : World} {args : Array Value} {ds gs : List (DataW H)} {before : List MemPlace} {tb : TypeId} (hl : laidOutB P = true)
    (hp : (f.params.toList.all fun t => P.readableRec t && decide (t < P.types.size)) = true) (hrt : f.resultTypes = #[tb]) (htb : P.underlying tb = some .bool) (hvars : s.vars = [])
    (hfn : s.fn H (ds ++ gs) = { results := [.lit (.bool true)], args := ds }) (hW : DataW.Whole enc P f.params.toList s.vars false W args.toList ds gs before) (hb : Below W.heap.size W W') :
    s.post enc P f false true false false W args (.bool true) W' := by
  have hlt : ∀ p ∈ before, p.block < W.heap.size := fun p hp => hW.lt p hp
  have hW2 := hW
  obtain ⟨p, q, hA, hV, rfl, _, _⟩ := hW2
  rw [hvars] at hV
  obtain ⟨rfl, rfl⟩ := trodVars_none hV
  refine ⟨ds, [], p ++ [], [], p, [], hW, ?_, ?_, ?_, hb.frame _, fun h => by cases h⟩
  · rw [hfn, hrt]
    exact trodAll_mk1 (shut_bool htb true)
  · rw [hfn]
    exact trodAll_below hl hb _ _ _ _ hp hA (fun x hx => hlt x (List.mem_append_left _ hx))
  · rw [hfn, hvars]
    rfl
end
end Go.Proofs.Ytpjbffggeegdaaa

/- Arguments that are slices of any elements, opened. -/
namespace Go.Proofs.Ytpjbffggeegdaaa
open Go.ChangeShapes Go.WideShapes Go.RowKit

section
variable {H : Type} {enc : TypeId × Value → H} {W : World} {sp : Nat → Bool}

theorem add_place (a : Addr) (i : Nat) (v : Value) (h : W.cell? (a.add i) = some v) : (a.add i) = ⟨a.block, a.off + i, none⟩ := by
  obtain ⟨b, o, s⟩ := a
  by_cases hi : i = 0
  · subst hi
    simp only [Addr.add, if_pos] at h ⊢
    cases s with
    | none => rfl
    | some t =>
      exfalso
      simp only [World.cell?] at h
      split at h <;> simp at h
  · simp [Addr.add, hi]

theorem open_rows {α : Type} {E : El α} (hst : 0 < E.st) {ts te : TypeId} (hu : Try.prog.underlying ts = some (.slice te)) (hc : Try.prog.cellsOf te = E.st)
    (hel : ∀ (fuel : Nat) (cs : List Value) (x : DataW H × List MemPlace), DataW.trod enc Try.prog W 0 sp true fuel te cs = some x → cs.length = E.st → ∀ b o, (∀ k, k < E.st → W.cell? ⟨b, o + k, none⟩ = cs[k]?) → ∃ y, E.P W b o y)
    {fuel : Nat} {sv : Value} {x : DataW H × List MemPlace} (h : DataW.trod enc Try.prog W 0 sp true fuel ts [sv] = some x) : ∃ l, SlG E W sv l := by
  rcases DataW.trod_slice hu h with ⟨h0, -⟩ | ⟨a, len, cap, elems, rest, n, rfl, h0, -, -, hl, hm, hlen, hel', -, -⟩
  · simp only [List.cons.injEq, and_true] at h0
    exact ⟨[], h0 ▸ SlG.nil⟩
  · simp only [List.cons.injEq, and_true] at h0
    subst h0
    rw [hc] at hel'
    have one : ∀ i, i < len → (i = 0 → a = ⟨a.block, a.off, none⟩) ∧ ∃ y, E.P W a.block (a.off + i * E.st) y := by
      intro i hi
      have key := hel' i hi
      rw [List.getElem?_eq_getElem (by omega)] at key
      obtain ⟨cs', h1, h2⟩ := Option.bind_eq_some_iff.1 key
      obtain ⟨-, hl6, hat⟩ := World.cells?_some h1
      have a0 := hat 0 hst
      rw [List.getElem?_eq_getElem (by omega)] at a0
      have e := add_place a (i * E.st) _ (show W.cell? (a.add (i * E.st)) = some cs'[0] by simpa [Addr.add] using a0)
      refine ⟨?_, hel n cs' _ h2 hl6 _ _ (fun k hk => ?_)⟩
      · rintro rfl
        simpa [Addr.add] using e
      · have := hat k hk
        rw [e] at this
        simp only [Addr.add] at this
        split at this
        · rename_i hk0
          subst hk0
          exact this
        · exact this
    have down : ∀ j, j ≤ len → ∃ g : List α, g.length = j ∧ RowG E W a.block (a.off + (len - j) * E.st) g := by
      intro j
      induction j with
      | zero => intro _; exact ⟨[], rfl, trivial⟩
      | succ j ihj =>
        intro hj
        obtain ⟨g, hg, hr⟩ := ihj (by omega)
        obtain ⟨-, y, hy⟩ := one (len - (j + 1)) (by omega)
        refine ⟨y :: g, by simp only [List.length_cons]; omega, hy, ?_⟩
        rw [show a.off + (len - (j + 1)) * E.st + E.st = a.off + (len - j) * E.st by rw [show len - j = (len - (j + 1)) + 1 by omega, Nat.succ_mul, Nat.add_assoc]]
        exact hr
    obtain ⟨f, hf, hr⟩ := down len (Nat.le_refl _)
    refine ⟨f, some a, cap, by rw [hf], by omega, hm, ?_⟩
    cases f with
    | nil => exact Or.inl rfl
    | cons y rest' =>
      right
      simp only [List.length_cons] at hf
      obtain ⟨ha, -⟩ := one 0 (by omega)
      refine ⟨a.block, a.off, by rw [← ha rfl], ?_⟩
      simpa using hr

end
end Go.Proofs.Ytpjbffggeegdaaa

/- An argument that is a row of bytes, opened. -/
namespace Go.Proofs.Ytpjbffggeegdaaa
open Go.ChangeShapes Go.WideShapes Go.RowKit

section
variable {H : Type} {enc : TypeId × Value → H} {W : World} {sp : Nat → Bool}

theorem cells_u8 : Try.prog.cellsOf ( /- t -/ 5) = elY.st := by kernel_rfl
theorem open_bytes {v : Value} {d : DataW H} {p : List MemPlace} {ts : TypeId} (hu : Try.prog.underlying ts = some (.slice ( /- t -/ 5))) (hv : ∃ a len cap, v = .slice a len cap)
    (h : DataW.Trod enc Try.prog W 0 sp true ts v d p) : ∃ l, SlG elY W v l := by
  obtain ⟨fuel, hf⟩ := h
  obtain ⟨a, len, cap, rfl⟩ := hv
  refine open_rows (E := elY) (by decide) hu cells_u8 (fun fuel cs x hx hl b o hcell => ?_) hf
  obtain ⟨n, rfl, rfl, hw⟩ := DataW.trod_int (k := .u8) (show Try.prog.underlying ( /- t -/ 5) = some (.int .u8) by kernel_rfl) hx
  have hb : 0 ≤ n ∧ n < 256 := by
    simp [Lit.wf, IntKind.min, IntKind.max, IntKind.bits, IntKind.signed] at hw
    omega
  obtain ⟨m, rfl⟩ : ∃ m : Nat, n = (m : Int) := ⟨n.toNat, by omega⟩
  exact ⟨m, by omega, hcell 0 (by decide)⟩
end
end Go.Proofs.Ytpjbffggeegdaaa
