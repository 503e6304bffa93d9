/- A set of pairs of branch slices in a map that the call makes: what a look-up finds, what a store adds. -/
import Derived.Test.YtfppglfajbmapaaDoorTree
import Derived.Test.YtfppglfajbmapaaDoorRows
import Derived.Test.YtfppglfajbmapaaDoorProg
import Derived.Maps.Own
import Derived.Maps.OwnOps
import Derived.LaidEqlPtr
import Derived.Laws.StructEq
namespace Go.Proofs.YtfppglfajbmapaaDoor
open Go.RowKit

/-- A block of cells that nobody has frozen. -/
def Good (w : World) (b : Nat) : Prop := ∃ cs t, w.heap[b]? = some (.cells cs t (0, 0))
theorem Good.same {w w' : World} {b : Nat} (h : Good w b) (e : w'.heap[b]? = w.heap[b]?) : Good w' b := by
  obtain ⟨cs, t, h⟩ := h
  exact ⟨cs, t, e.trans h⟩
theorem Good.lt {w : World} {b : Nat} (h : Good w b) : b < w.heap.size := by
  obtain ⟨cs, t, h⟩ := h
  exact (Array.getElem?_eq_some_iff.1 h).1
theorem Good.below {w w' : World} {b : Nat} (h : Good w b) (hb : Below w.heap.size w w') : Good w' b := h.same (hb.block _ h.lt)

/-- Two addresses and a length. -/
structure Ky where
  p : Nat
  q : Nat
  n : Nat
def Ky.val (x : Ky) : Value := .agg #[.pointer (some ⟨x.p, 0, none⟩), .pointer (some ⟨x.q, 0, none⟩), .int .i64 x.n]
def Ky.same (x y : Ky) : Bool := (x.p == y.p) && ((x.q == y.q) && (x.n == y.n))
def Ky.Good (w : World) (x : Ky) : Prop := YtfppglfajbmapaaDoor.Good w x.p ∧ YtfppglfajbmapaaDoor.Good w x.q

theorem run_eq_ptr {P : Program} (w : World) (d : Nat) {tp te : TypeId} {j : TypeInfo} (a b : Nat) (hp : P.underlying tp = some (.pointer te)) (hte : P.info? te = some j) (hsz : j.size ≠ 0) (ha : Good w a) (hb : Good w b) :
    (Op.equalIn (d + 1) tp (.pointer (some ⟨a, 0, none⟩)) (.pointer (some ⟨b, 0, none⟩))).run P w = .ok (a == b) w := by
  obtain ⟨ca, ta, ha⟩ := ha
  obtain ⟨cb, tb, hb⟩ := hb
  by_cases h : a = b
  · subst h
    simp [Op.equalIn, run_underlying hp, sizeOf, typeInfo, hte, run_sameAddr_same]
  · have hne : (⟨a, 0, none⟩ : Addr) ≠ ⟨b, 0, none⟩ := by intro e; exact h (by simpa using e)
    simp [Op.equalIn, run_underlying hp, sizeOf, typeInfo, hte, hsz, run_sameAddr_other w hne ha hb, h]

theorem infoB : (Tryd.prog.info? ( /- t -/ 76)).map (fun i => i.size) = some 6 := by kernel_rfl
theorem keyU : Tryd.prog.underlying ( /- t -/ 142) = some (.struct (Tryd.prog.fieldsOf ( /- t -/ 142))) := by kernel_rfl
theorem keyS : Tryd.prog.stoodInHeld ( /- t -/ 142) = false := by kernel_rfl

theorem ky_equal (w : World) (x y : Ky) (hx : x.Good w) (hy : y.Good w) : (Op.equal ( /- t -/ 142) x.val y.val).run Tryd.prog w = .ok (x.same y) w := by
  obtain ⟨j, hj, hs⟩ : ∃ j, Tryd.prog.info? ( /- t -/ 76) = some j ∧ j.size ≠ 0 := by
    have := infoB
    cases h : Tryd.prog.info? ( /- t -/ 76) with
    | none => rw [h] at this; cases this
    | some i => rw [h] at this; exact ⟨i, rfl, by simp at this; omega⟩
  unfold Op.equal Ky.val
  rw [show Op.maxDepth = 9999 + 1 from rfl, run_equalIn_agg w 9999 _ _ _ keyU keyS]
  simp only [Program.fieldsOf, Tryd.underlying142]
  simp only [Op.eqFields]
  go_simp
  rw [run_eq_ptr w 9998 x.p y.p Tryd.underlying140 hj hs hx.1 hy.1]
  simp only [Result.andThen_ok]
  rw [run_eq_ptr w 9998 x.q y.q Tryd.underlying140 hj hs hx.2 hy.2]
  simp only [Result.andThen_ok, Ky.same]
  cases h1 : (x.p == y.p) <;> cases h2 : (x.q == y.q) <;> by_cases h3 : x.n = y.n <;> (have h4 : ((x.n : Int) = y.n) ↔ (x.n = y.n) := by omega) <;> simp [h3, h4]

theorem ky_check (w : World) (x : Ky) (em : Bool) : (Instr.checkKey em 10000 ( /- t -/ 142) x.val).run Tryd.prog w = .ok () w := by
  unfold Ky.val
  kernel_rfl

theorem ky_ask (w : World) (x : Ky) (hx : x.Good w) : ∀ (es : List MapEntry) (S : List Ky) (i : Nat), es.map (·.key) = S.map Ky.val → (∀ y ∈ S, y.Good w) → (∀ e ∈ es, e.val = .bool true) →
    ∃ r, (Instr.findAsking ( /- t -/ 142) x.val es i).run Tryd.prog w = .ok r w ∧ ((r = none ∧ S.any (fun y => x.same y) = false) ∨ (∃ j, r = some (j, .bool true) ∧ S.any (fun y => x.same y) = true)) := by
  intro es
  induction es with
  | nil =>
    intro S i he _ _
    cases S with
    | nil => exact ⟨none, by simp [Instr.findAsking], Or.inl ⟨rfl, rfl⟩⟩
    | cons => simp at he
  | cons e es ih =>
    intro S i he hS hv
    cases S with
    | nil => simp at he
    | cons y S =>
      simp only [List.map_cons, List.cons.injEq] at he
      obtain ⟨he1, he2⟩ := he
      obtain ⟨r, hr, hc⟩ := ih S (i + 1) he2 (fun z hz => hS z (by simp [hz])) (fun z hz => hv z (by simp [hz]))
      have hq := ky_equal w x y hx (hS y (by simp))
      rw [← he1] at hq
      cases hb : x.same y with
      | true => exact ⟨some (i, .bool true), by simp [Instr.findAsking, hq, hb, Result.andThen, hv e (by simp)], Or.inr ⟨i, rfl, by simp [hb]⟩⟩
      | false => exact ⟨r, by simp [Instr.findAsking, hq, hb, Result.andThen, hr], by simpa [hb] using hc⟩

theorem ky_find (w : World) (x : Ky) (hx : x.Good w) (es : List MapEntry) (S : List Ky) (he : es.map (·.key) = S.map Ky.val) (hS : ∀ y ∈ S, y.Good w) (hv : ∀ e ∈ es, e.val = .bool true) :
    ∃ r, (Instr.findKey ( /- t -/ 142) x.val es).run Tryd.prog w = .ok r w ∧ ((r = none ∧ S.any (fun y => x.same y) = false) ∨ (∃ j, r = some (j, .bool true) ∧ S.any (fun y => x.same y) = true)) := by
  obtain ⟨r, hr, hc⟩ := ky_ask w x hx es S 0 he hS hv
  cases es with
  | nil =>
    cases S with
    | nil => exact ⟨none, by simp [Instr.findKey, run_underlying keyU, Instr.findNow], Or.inl ⟨rfl, rfl⟩⟩
    | cons => simp at he
  | cons e es =>
    refine ⟨r, ?_, hc⟩
    cases S with
    | nil => simp at he
    | cons y S =>
      simp only [List.map_cons, List.cons.injEq] at he
      have h0 : Instr.findNow (.struct (Tryd.prog.fieldsOf ( /- t -/ 142))) x.val (e :: es) 0 = none := by
        simp only [Instr.findNow, Instr.sameNow]
      simp [Instr.findKey, run_underlying keyU, h0, hr]

/-- Block m is a map from pairs to true whose keys are these. -/
def MapIs (w : World) (m : Nat) (S : List Ky) : Prop := ∃ es clock, w.heap[m]? = some (.map es clock) ∧ es.toList.map (·.key) = S.map Ky.val ∧ ∀ e ∈ es.toList, e.val = .bool true
theorem MapIs.same {w w' : World} {m : Nat} {S : List Ky} (h : MapIs w m S) (e : w'.heap[m]? = w.heap[m]?) : MapIs w' m S := by
  obtain ⟨es, clock, h1, h2⟩ := h
  exact ⟨es, clock, e.trans h1, h2⟩
theorem MapIs.lt {w : World} {m : Nat} {S : List Ky} (h : MapIs w m S) : m < w.heap.size := by
  obtain ⟨es, clock, h1, h2⟩ := h
  exact (Array.getElem?_eq_some_iff.1 h1).1
theorem MapIs.made (w : World) : MapIs (w.alloc (.map #[] 0)) w.heap.size [] := ⟨#[], 0, (MapKept.heap_alloc w _).1, rfl, by simp⟩

theorem seen_look {w : World} {m : Nat} {S : List Ky} (h : MapIs w m S) (x : Ky) (hx : x.Good w) (hS : ∀ y ∈ S, y.Good w) :
    (Instr.lookup ( /- t -/ 137) (.map (some m)) x.val false).run Tryd.prog w = .ok (.bool (S.any (fun y => x.same y))) w := by
  obtain ⟨es, clock, h1, h2, h3⟩ := h
  obtain ⟨r, hr, hc⟩ := ky_find w x hx es.toList S h2 hS h3
  have hz : (zeroValue ( /- t -/ 4)).run Tryd.prog w = .ok (.bool false) w := by kernel_rfl
  rcases hc with ⟨rfl, hs⟩ | ⟨j, rfl, hs⟩
  · simp [Instr.lookup, run_underlying Tryd.underlying137, MapKept.run_getObj_map h1, ky_check, hr, hz, hs, Result.andThen]
  · simp [Instr.lookup, run_underlying Tryd.underlying137, MapKept.run_getObj_map h1, ky_check, hr, hs, Result.andThen]

theorem seen_store {w : World} {m : Nat} {S : List Ky} (h : MapIs w m S) (x : Ky) (hx : x.Good w) (hS : ∀ y ∈ S, y.Good w) (hn : S.any (fun y => x.same y) = false) :
    ∃ w', (Instr.mapUpdate ( /- t -/ 137) (.map (some m)) x.val (.bool true)).run Tryd.prog w = .ok () w' ∧ MapIs w' m (S ++ [x]) ∧ w.grownBy w' (some m) := by
  obtain ⟨es, clock, h1, h2, h3⟩ := h
  obtain ⟨r, hr, hc⟩ := ky_find w x hx es.toList S h2 hS h3
  rcases hc with ⟨rfl, _⟩ | ⟨j, rfl, hs⟩
  · refine ⟨ChangeMaps.setBlock w m (.map (es.push ⟨x.val, .bool true, clock⟩) (clock + 1)), ?_, ?_, ?_⟩
    · simp [Instr.mapUpdate, run_underlying Tryd.underlying137, MapKept.run_getObj_map h1, ky_check, hr, MapKept.run_setObj_map _ h1, Result.andThen, ChangeMaps.setBlock]
    · exact ⟨_, _, ChangeMaps.heap_setBlock_same h1 _, by simp [h2], fun e he => by
        simp only [Array.toList_push, List.mem_append, List.mem_singleton] at he
        rcases he with he | rfl
        · exact h3 e he
        · rfl⟩
    · exact ⟨rfl, rfl, rfl, by simp [ChangeMaps.setBlock], fun k _ hk => ChangeMaps.heap_setBlock_other h1 _ (fun e => hk (by rw [e]))⟩
  · rw [hn] at hs
    cases hs

theorem wpList_seen_look (w : World) {ops : Array Oper} {rest : List Oper} {o : Oper} {a : Act} {Q : Exit → Act → World → Prop}
    (hg : o.guard = none) (mo xo : Operand) (hop : o.op = Op.lookup ( /- t -/ 137) mo xo false) (m : Nat) (S : List Ky) (h : MapIs w m S) (x : Ky) (hx : x.Good w) (hS : ∀ y ∈ S, y.Good w)
    (hm : a.eval mo = .map (some m)) (hk : a.eval xo = x.val) (hK : wpList Tryd.prog ops Q rest (a.put o.dst (.bool (S.any (fun y => x.same y)))) w) : wpList Tryd.prog ops Q (o :: rest) a w := by
  refine wpList_plain hg fun K' hK' => ?_
  have hrun := seen_look h x hx hS
  unfold Oper.wp
  simp [execOp, hop, hm, hk, hrun, Result.andThen]
  exact hK' _ _ hK

theorem wpList_seen_store (w : World) {ops : Array Oper} {rest : List Oper} {o : Oper} {a : Act} {Q : Exit → Act → World → Prop}
    (hg : o.guard = none) (mo xo vo : Operand) (hop : o.op = Op.mapUpdate ( /- t -/ 137) mo xo vo) (m : Nat) (S : List Ky) (h : MapIs w m S) (x : Ky) (hx : x.Good w) (hS : ∀ y ∈ S, y.Good w) (hn : S.any (fun y => x.same y) = false)
    (hm : a.eval mo = .map (some m)) (hk : a.eval xo = x.val) (hv : a.eval vo = .bool true) (hK : ∀ w', MapIs w' m (S ++ [x]) → w.grownBy w' (some m) → wpList Tryd.prog ops Q rest (a.put o.dst undef) w') : wpList Tryd.prog ops Q (o :: rest) a w := by
  refine wpList_plain hg fun K' hK' => ?_
  obtain ⟨w', hrun, r1, r2⟩ := seen_store h x hx hS hn
  unfold Oper.wp
  simp [execOp, hop, hm, hk, hv, hrun, Result.andThen]
  exact hK' _ _ (hK w' r1 r2)

end Go.Proofs.YtfppglfajbmapaaDoor
