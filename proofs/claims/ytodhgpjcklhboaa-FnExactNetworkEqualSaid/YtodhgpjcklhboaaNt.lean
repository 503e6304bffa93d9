/- toNetwork and what it is made of: copies in new memory. -/
import Derived.Test.YtodhgpjcklhboaaRows
import Derived.Test.YtodhgpjcklhboaaLTo
import Derived.Test.YtodhgpjcklhboaaNr
namespace Go.Proofs.Ytodhgpjcklhboaa.Lo.Ne
open Go.RowKit

/-! ### Rows of strings -/

theorem Try.info9 : (Try.prog.info? ( /- t -/ 9)).map (fun i => (i.zero, i.size, i.bytes)) = some (some (.string ⟨#[]⟩), 1, 16) := by kernel_rfl
def newStrings (n : Nat) : Array Value := madeCells #[.string ⟨#[]⟩] (n * 1)
theorem makeStrings (n : Nat) (hn : n ≤ 1048576) (w : World) : (Instr.makeSlice ( /- t -/ 38) (.int .i64 (n : Int)) (.int .i64 (n : Int))).run Try.prog w = .ok (.slice (some ⟨w.heap.size, 0, none⟩) n n) (w.alloc (.cells (newStrings n) ( /- t -/ 9))) := by
  obtain ⟨i0, hi, hz0, hz1, hz2⟩ := info_parts Try.info9
  have := run_make_rowN (P := Try.prog) ( /- t -/ 38) ( /- t -/ 9) i0 _ Try.underlying38 hi hz0 .i64 .i64 n n (Nat.le_refl _) (by rw [hz2]; omega) (by omega) w
  rw [hz1] at this
  exact this

/-- A slice of strings of the call's own. -/
def MadeQ (l : List ByteArray) (w : World) (e : Ending) (w' : World) : Prop :=
  ∃ u bs, e = .returned u ∧ OwG elS w' u l bs ∧ (∀ b, b ∈ bs → w.heap.size ≤ b) ∧ bs.Nodup ∧ Below w.heap.size w w'

/-- What holds at each round's head: the strings up to the place are copied. -/
def TsRel (w : World) (a : Option Addr) (l : List ByteArray) (iv : Value) (wr : World) : Prop :=
  ∃ p g, l = p ++ g ∧ iv = .int .i64 (p.length : Nat) ∧ AtG elS w a p.length g ∧ Free wr w.heap.size l.length ∧ RowG elS wr w.heap.size 0 p ∧ Below w.heap.size w wr

theorem ts_step {w wr : World} {a : Option Addr} {p rest : List ByteArray} {s : ByteArray} (hs : s.size ≤ maxLen)
    (hat : AtG elS w a p.length (s :: rest)) (hfree : Free wr w.heap.size (p ++ s :: rest).length) (hrow : RowG elS wr w.heap.size 0 p) (hb : Below w.heap.size w wr) :
    TsRel w a (p ++ s :: rest) (.int .i64 ((p.length + 1 : Nat) : Int)) (wr.setCell ⟨w.heap.size, p.length, none⟩ (.string s)) := by
  refine ⟨p ++ [s], rest, by simp, by simp, by simpa using hat.tail, hfree.setCell _ _, ?_, hb.setCell (Nat.le_refl _) _⟩
  obtain ⟨cs, t, hh, hn⟩ := hfree
  have key : (wr.setCell ⟨w.heap.size, p.length, none⟩ (.string s)).heap[w.heap.size]? = some (.cells (cs.setIfInBounds p.length (.string s)) t (0, 0)) := heap_setCell_same hh _
  refine RowG.app (hrow.flat elS_flat (fun i hi => ?_)) ⟨⟨hs, ?_⟩, trivial⟩
  · have hi' : i < p.length := by simpa [elS] using hi
    rw [cell_of_heap key, cell_of_heap hh, Array.getElem?_setIfInBounds, if_neg (by omega)]
  · have : p.length < cs.size := by rw [hn]; simp
    rw [cell_of_heap key, Array.getElem?_setIfInBounds]
    simp [elS, this]

theorem ts_end {w wr : World} {a : Option Addr} {l : List ByteArray} {iv : Value} (h : TsRel w a l iv wr) (hlen : l.length ≤ maxLen) (hge : ∀ k : Nat, iv = .int .i64 k → l.length ≤ k) : MadeQ l w (.returned (.slice (some ⟨w.heap.size, 0, none⟩) l.length l.length)) wr := by
  obtain ⟨p, g, rfl, rfl, hat, hfree, hrow, hb⟩ := h
  have hl := hge _ rfl
  rw [List.length_append] at hl
  have hg : g = [] := by cases g with | nil => rfl | cons => simp only [List.length_cons] at hl; omega
  subst hg
  rw [List.append_nil] at *
  cases p with
  | nil => exact ⟨_, [], rfl, ⟨_, _, rfl, Nat.le_refl _, hlen, Or.inl ⟨rfl, rfl⟩⟩, fun _ h => absurd h (List.not_mem_nil), List.nodup_nil, hb⟩
  | cons s rest =>
    exact ⟨_, [w.heap.size], rfl, ⟨_, _, rfl, Nat.le_refl _, hlen, Or.inr ⟨_, _, rfl, rfl, hfree, by simp, hrow⟩⟩, fun b h => by simp at h; omega, by simp, hb⟩

set_option maxHeartbeats 800000 in
/-- toStringS. -/
theorem toS (l : List ByteArray) (w : World) (v : Value) (hs : SlG elS w v l) (hw : l.length ≤ 1048576) :
    Calls Try.prog 51 #[v] w (MadeQ l w) := by
  obtain ⟨a, cap, rfl, hlen, hat⟩ := hs.at
  have HA := hide hat
  clear hs hat
  have hmk := makeStrings l.length hw
  go_enter Try.func51, Try.ntmps51
  go_wp2_with fail
  clear hmk
  go_loopw [4] (fun iv wr => TsRel w a l iv wr) (fun iv _ => l.length - (intOf iv).toNat)
  case atStart => exact ⟨[], l, rfl, rfl, HA.out, ⟨newStrings l.length, ( /- t -/ 9), by show (w.heap.push _)[w.heap.size]? = _; simp, by unfold newStrings; simpa using size_madeCells _ _⟩, trivial, alloc_below _ _⟩
  case round =>
    obtain ⟨p, g, hle, rfl, hg, hfree, hrow, hb⟩ := hrel
    have HE := hide hle
    have HR := hide hrow
    clear hle hrow
    cases g with
    | nil =>
      have hge : l.length ≤ p.length := by rw [HE.out, List.append_nil]; exact Nat.le_refl _
      go_wp2_with fail
      go_ret
      exact ts_end ⟨p, [], HE.out, rfl, hg, hfree, HR.out, hb⟩ hlen (fun k e => by injection e with _ e; omega)
    | cons s rest =>
      have hlt : p.length < l.length := by rw [HE.out, List.length_append]; simp only [List.length_cons]; omega
      obtain ⟨b, o, rfl, l1, c0⟩ := AtS.head (hg.still (Still.of_below hb))
      have HT := hide hg
      have fz : ∀ o, wr.frozen? ⟨w.heap.size, o, none⟩ = false := fun o => hfree.frozen
      obtain ⟨x0, d0⟩ := hfree.cell (o := p.length) (by omega)
      clear hg
      go_wp2_with fail
      refine ⟨?_, by simp [intOf]; omega⟩
      rw [HE.out] at hfree ⊢
      exact ts_step l1 HT.out hfree HR.out hb

/-! ### Rows of nodes -/

theorem Try.info32 : (Try.prog.info? ( /- t -/ 32)).map (fun i => (i.zero, i.size, i.bytes)) = some (some (.agg #[.int .i64 0, .string ⟨#[]⟩, .int .i64 0, .slice none 0 0]), 4, 56) := by kernel_rfl
def newLocals (n : Nat) : Array Value := madeCells #[.int .i64 0, .string ⟨#[]⟩, .int .i64 0, .slice none 0 0] (n * 4)
theorem makeLocals (n : Nat) (hn : n ≤ 1048576) (w : World) : (Instr.makeSlice ( /- t -/ 43) (.int .i64 (n : Int)) (.int .i64 (n : Int))).run Try.prog w = .ok (.slice (some ⟨w.heap.size, 0, none⟩) n n) (w.alloc (.cells (newLocals n) ( /- t -/ 32))) := by
  obtain ⟨i0, hi, hz0, hz1, hz2⟩ := info_parts Try.info32
  have := run_make_rowN (P := Try.prog) ( /- t -/ 43) ( /- t -/ 32) i0 _ Try.underlying43 hi hz0 .i64 .i64 n n (Nat.le_refl _) (by rw [hz2]; omega) (by omega) w
  rw [hz1] at this
  exact this

/-- A slice of nodes of the call's own. -/
def MadeL (l : List Nd) (w : World) (e : Ending) (w' : World) : Prop :=
  ∃ u bs, e = .returned u ∧ OwS w' u l bs ∧ (∀ b, b ∈ bs → w.heap.size ≤ b) ∧ bs.Nodup ∧ Below w.heap.size w w'

def TlRel (w : World) (a : Option Addr) (l : List Nd) (iv : Value) (wr : World) : Prop :=
  ∃ p g bs, l = p ++ g ∧ iv = .int .i64 (p.length : Nat) ∧ AtG elL w a p.length g ∧ Free wr w.heap.size (l.length * 4) ∧ OwL wr w.heap.size 0 p bs ∧ (∀ b, b ∈ bs → w.heap.size < b) ∧ bs.Nodup ∧ Below w.heap.size w wr

theorem tl_step {w wr w1 : World} {a : Option Addr} {p rest : List Nd} {bs ks : List Nat} {fr : ByteArray} {k ix : Int} {kids : F} {u : Value}
    (hat : AtG elL w a p.length (⟨k, fr, ix, kids⟩ :: rest)) (hfree : Free wr w.heap.size ((p ++ ⟨k, fr, ix, kids⟩ :: rest).length * 4)) (hown : OwL wr w.heap.size 0 p bs) (hgt : ∀ b, b ∈ bs → w.heap.size < b) (hnd : bs.Nodup) (hb : Below w.heap.size w wr)
    (hu : Ow w1 u kids ks) (hks : ∀ b, b ∈ ks → wr.heap.size ≤ b) (hknd : ks.Nodup) (hb1 : Below wr.heap.size wr w1) :
    TlRel w a (p ++ ⟨k, fr, ix, kids⟩ :: rest) (.int .i64 ((p.length + 1 : Nat) : Int)) (set4 w1 w.heap.size (p.length * 4) (.int .i64 k) (.string fr) (.int .i64 ix) u) := by
  have hsz := hb.size
  have hlt : w.heap.size < wr.heap.size := hfree.lt
  have hf1 : Free w1 w.heap.size ((p ++ ⟨k, fr, ix, kids⟩ :: rest).length * 4) := hfree.below hb1
  obtain ⟨s0, c0, c1, c2, c3, hfree2⟩ := set4_heap hf1 (p.length * 4) (by rw [List.length_append]; simp only [List.length_cons]; omega) (.int .i64 k) (.string fr) (.int .i64 ix) u
  have hbs : ∀ b, b ∈ bs → b < wr.heap.size := hown.lt
  have hsame : Same wr (set4 w1 w.heap.size (p.length * 4) (.int .i64 k) (.string fr) (.int .i64 ix) u) bs := fun x hx => by
    rw [set4_other _ _ _ _ _ _ _ _ (by have := hgt x hx; omega)]
    exact hb1.block x (hbs x hx)
  have hsame1 : Same w1 (set4 w1 w.heap.size (p.length * 4) (.int .i64 k) (.string fr) (.int .i64 ix) u) ks := fun x hx =>
    set4_other _ _ _ _ _ _ _ _ (by have := hks x hx; omega)
  obtain ⟨_, _, _, z1, z2, z3, _⟩ := AtL.head hat
  refine ⟨p ++ [⟨k, fr, ix, kids⟩], rest, bs ++ ks, by simp, by simp, ?_, hfree2, ?_, ?_, ?_, ?_⟩
  · simpa using hat.tail
  · refine OwL.app (hown.same (fun i hi => ?_) hsame) ?_
    · rw [s0 _ (by omega)]
      exact hb1.cell (p := ⟨w.heap.size, 0 + i, none⟩) hlt
    · rw [show 0 + 4 * p.length = p.length * 4 by omega]
      exact ⟨z1, z2, z3, c0, c1, c2, ks, [], by simp, ⟨u, c3, hu.same hsame1⟩, rfl⟩
  · intro b hm
    rcases List.mem_append.1 hm with hm | hm
    · exact hgt b hm
    · have := hks b hm
      omega
  · refine List.nodup_append.2 ⟨hnd, hknd, fun x hx y hy => ?_⟩
    have := hbs x hx
    have := hks y hy
    omega
  · exact set4_below (hb.trans (hb1.mono hsz)) _ _ (Nat.le_refl _) _ _ _ _

theorem tl_end {w wr : World} {a : Option Addr} {l : List Nd} {iv : Value} (h : TlRel w a l iv wr) (hlen : l.length ≤ maxLen) (hge : ∀ k : Nat, iv = .int .i64 k → l.length ≤ k) : MadeL l w (.returned (.slice (some ⟨w.heap.size, 0, none⟩) l.length l.length)) wr := by
  obtain ⟨p, g, bs, rfl, rfl, hat, hfree, hown, hgt, hnd, hb⟩ := h
  have hl := hge _ rfl
  rw [List.length_append] at hl
  have hg : g = [] := by cases g with | nil => rfl | cons => simp only [List.length_cons] at hl; omega
  subst hg
  rw [List.append_nil] at *
  cases p with
  | nil => exact ⟨_, [], rfl, ⟨_, _, rfl, Nat.le_refl _, hlen, Or.inl ⟨rfl, rfl⟩⟩, fun _ h => absurd h (List.not_mem_nil), List.nodup_nil, hb⟩
  | cons n rest =>
    refine ⟨_, w.heap.size :: bs, rfl, ⟨_, _, rfl, Nat.le_refl _, hlen, Or.inr ⟨_, _, bs, rfl, rfl, hfree, by simp, hown⟩⟩, fun b h => ?_, List.nodup_cons.2 ⟨fun h => ?_, hnd⟩, hb⟩
    · rcases List.mem_cons.1 h with rfl | h
      · exact Nat.le_refl _
      · exact Nat.le_of_lt (hgt b h)
    · exact absurd (hgt _ h) (Nat.lt_irrefl _)

set_option maxHeartbeats 800000 in
/-- toLocalS. -/
theorem toL (l : List Nd) (w : World) (v : Value) (hs : SlG elL w v l) (hw : l.length + wtL l ≤ 1048576) :
    Calls Try.prog 50 #[v] w (MadeL l w) := by
  obtain ⟨a, cap, rfl, hlen, hat⟩ := hs.at
  have HA := hide hat
  have hl1 : l.length ≤ 1048576 := by omega
  clear hs hat
  have hmk := makeLocals l.length hl1
  go_enter Try.func50, Try.ntmps50
  go_wp2_with fail
  clear hmk
  go_loopw [4] (fun iv wr => TlRel w a l iv wr) (fun iv _ => l.length - (intOf iv).toNat)
  case atStart => exact ⟨[], l, [], rfl, rfl, HA.out, ⟨newLocals l.length, ( /- t -/ 32), by show (w.heap.push _)[w.heap.size]? = _; simp, by unfold newLocals; exact size_madeCells _ _⟩, rfl, fun _ h => absurd h (List.not_mem_nil), List.nodup_nil, alloc_below _ _⟩
  case round =>
    obtain ⟨p, g, bs, hle, rfl, hg, hfree, hown, hgt, hnd, hb⟩ := hrel
    have HE := hide hle
    have HO := hide hown
    have HG := hide hgt
    clear hle hown hgt
    cases g with
    | nil =>
      have hge : l.length ≤ p.length := by rw [HE.out, List.append_nil]; exact Nat.le_refl _
      go_wp2_with fail
      go_ret
      exact tl_end ⟨p, [], bs, HE.out, rfl, hg, hfree, HO.out, HG.out, hnd, hb⟩ hlen (fun k e => by injection e with _ e; omega)
    | cons n rest =>
      obtain ⟨kd, fr, ix, kids⟩ := n
      have hlt : p.length < l.length := by rw [HE.out, List.length_append]; simp only [List.length_cons]; omega
      have hz : kids.len + kids.wt ≤ 1048576 := by
        rw [HE.out, wtL_app] at hw
        simp only [wtL, Nd.wt] at hw
        omega
      have HZ := hide hz
      obtain ⟨b, o, rfl, l1, -, -, c0, c1, c2, sv, c3, hsv⟩ := AtL.head (hg.still (Still.of_below hb))
      have HSV := hide hsv
      have HT := hide hg
      clear hz hsv hg
      go_wp2_with fail
      refine (to_calls kids wr kd ix fr sv HSV.out HZ.out).mono ?_
      rintro e w1 ⟨u, ks, rfl, how, hks, hknd, hb1⟩
      obtain ⟨ua, uc, rfl⟩ := how.val
      have hf1 := hfree.below hb1
      have fz : ∀ o, w1.frozen? ⟨w.heap.size, o, none⟩ = false := fun o => hf1.frozen
      obtain ⟨x0, d0⟩ := hf1.cell (o := p.length * 4) (by omega)
      obtain ⟨x1, d1⟩ := hf1.cell (o := p.length * 4 + 1) (by omega)
      obtain ⟨x2, d2⟩ := hf1.cell (o := p.length * 4 + 2) (by omega)
      obtain ⟨x3, d3⟩ := hf1.cell (o := p.length * 4 + 3) (by omega)
      have HU := hide how
      have HK := hide hks
      clear how hks
      go_wp2_with fail
      refine ⟨?_, by simp [intOf]; omega⟩
      rw [HE.out] at hfree ⊢
      exact tl_step HT.out hfree HO.out HG.out hnd hb HU.out HK.out hknd hb1

/-- A network of the call's own. -/
def MadeNet (l : List Nd) (q : List ByteArray) (w : World) (e : Ending) (w' : World) : Prop :=
  ∃ u v bs cs, e = .returned (.agg #[u, v]) ∧ OwS w' u l bs ∧ OwG elS w' v q cs ∧ (∀ b, b ∈ bs ++ cs → w.heap.size ≤ b) ∧ (bs ++ cs).Nodup ∧ Below w.heap.size w w'

set_option maxHeartbeats 800000 in
/-- toNetwork. -/
theorem toNet (w : World) (lv qv : Value) (l : List Nd) (q : List ByteArray) (hl : SlG elL w lv l) (hq : SlG elS w qv q) (hw : l.length + wtL l ≤ 1048576) (hw2 : q.length ≤ 1048576) :
    Calls Try.prog 20 #[.agg #[lv, qv]] w (MadeNet l q w) := by
  obtain ⟨la, lc, rfl, -, -⟩ := hl.at
  obtain ⟨qa, qc, rfl, -, -⟩ := hq.at
  have HL := hide hl
  have HQ := hide hq
  clear hl hq
  go_enter Try.func20, Try.ntmps20
  go_wp2_with fail
  refine (toL l _ _ (HL.out.still (Still.of_below ?_)) hw).mono ?_
  · exact ((alloc_below _ _).alloc (by simp) _).alloc (by simp; omega) _
  rintro e w1 ⟨u, bs, rfl, how, hge, hnd, hb⟩
  obtain ⟨ua, uc, rfl⟩ := how.val
  have HO := hide how
  have HG := hide hge
  clear how hge
  obtain ⟨hc, hf⟩ := bcell hb
  go_wp2_with fail
  have hz := hb.size
  simp at hz
  have hB : Below w.heap.size w w1 := ((((alloc_below w _).alloc (by simp) _).alloc (by simp; omega) _).trans (hb.mono (by simp; omega)))
  refine (toS q _ _ (HQ.out.still (Still.of_below ?_)) hw2).mono ?_
  · repeat (refine Below.setCell ?_ (by first | (simp; done) | (simp; omega)) _)
    exact hB
  rintro e w2 ⟨v, cs, rfl, how2, hge2, hnd2, hb2⟩
  obtain ⟨va, vc, rfl⟩ := how2.val
  have HO2 := hide how2
  have HG2 := hide hge2
  clear how2 hge2
  have X0 : Box2 w1 (w.heap.size + 1) (.slice none 0 0) (.slice none 0 0) := by
    have := ((Box2.now (w.alloc (.cells #[.slice la l.length lc, .slice qa q.length qc] ( /- t -/ 40))) (.slice none 0 0) (.slice none 0 0) ( /- t -/ 45)).below (alloc_below _ _)).below hb
    simpa using this
  have Y0 : Box2 w1 (w.heap.size + 1 + 1) (.slice none 0 0) (.slice none 0 0) := by
    have := (Box2.now ((w.alloc (.cells #[.slice la l.length lc, .slice qa q.length qc] ( /- t -/ 40))).alloc (.cells #[.slice none 0 0, .slice none 0 0] ( /- t -/ 45))) (.slice none 0 0) (.slice none 0 0) ( /- t -/ 45)).below hb
    simpa using this
  have X2 := (X0.setOther (p := ⟨w.heap.size + 1 + 1, 0, none⟩) (by simp) (.slice ua l.length uc)).below hb2
  have Y2 := (Y0.set0 (.slice ua l.length uc)).below hb2
  have hz2 := hb2.size
  simp at hz2
  have hB2 : Below w.heap.size w w2 := (hB.setCell (p := ⟨w.heap.size + 1 + 1, 0, none⟩) (by simp; omega) (.slice ua l.length uc)).trans (hb2.mono (by simp; omega))
  have HO3 := hide ((HO.out.same (Same.refl _ _ |>.setCell (p := ⟨w.heap.size + 1 + 1, 0, none⟩) (fun b h => by have := HG.out b h; simp at this; simp; omega) (.slice ua l.length uc))).same (Same.of_below hb2 (fun b h => by have := HO.out.lt b h; simpa using this)))
  have HG3 : Hid (∀ b, b ∈ bs → w.heap.size + 3 ≤ b ∧ b < w1.heap.size) := fun b h => ⟨by have := HG.out b h; simp at this; omega, HO.out.lt b h⟩
  have HG4 : Hid (∀ b, b ∈ cs → w1.heap.size ≤ b) := fun b h => by have := HG2.out b h; simpa using this
  obtain ⟨x0, x1⟩ := X2.cells
  obtain ⟨y0, y1⟩ := Y2.cells
  have fx := X2.frozen
  have fy := Y2.frozen
  have HX2 := hide X2
  have HY2 := hide Y2
  have xl := X2.lt
  have yl := Y2.lt
  clear hc hf hb hb2 HO HG HG2 X0 Y0 X2 Y2
  go_wp2_with fail
  have b1 := (HX2.out.setOther (p := ⟨w.heap.size + 1 + 1, 1, none⟩) (by simp) (.slice va q.length vc)).set0 (.slice ua l.length uc)
  have e0 := b1.cells.1
  have e1 := (b1.set1 (.slice va q.length vc)).cells.2
  refine bodyPost_ret (v := .agg #[.slice ua l.length uc, .slice va q.length vc]) (by simp [results, Try.results20, go_sem, e0, e1]) rfl ?_
  refine ⟨_, _, bs, cs, rfl, HO3.out.same ?_, HO2.out.same elS_flat ?_, ?_, ?_, ?_⟩
  · repeat (refine Same.setCell ?_ (fun b h => by have := HG3.out b h; simp; omega) _)
    exact Same.refl _ _
  · repeat (refine Same.setCell ?_ (fun b h => by have := HG4.out b h; simp; omega) _)
    exact Same.refl _ _
  · intro b h
    rcases List.mem_append.1 h with h | h
    · have := HG3.out b h; omega
    · have := HG4.out b h; omega
  · refine List.nodup_append.2 ⟨hnd, hnd2, fun x hx y hy => ?_⟩
    have := HG3.out x hx
    have := HG4.out y hy
    omega
  · repeat (refine Below.setCell ?_ (by first | (simp; done) | (simp; omega)) _)
    exact hB2
end Go.Proofs.Ytodhgpjcklhboaa.Lo.Ne
