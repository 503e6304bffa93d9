/- NetworkFinished answers, for every Network, as the model does and leaves its argument as it was: the law FnExactNetworkFinished returns true; its tied card. No condition. -/
import Derived.Test.YtnlihdcjpeabfaaGreatDoorRows
import Derived.Test.YtnlihdcjpeabfaaGreatDoorLTo
import Derived.Test.YtnlihdcjpeabfaaGreatDoorNr
import Derived.Test.YtnlihdcjpeabfaaGreatDoorLUl
import Derived.Test.YtnlihdcjpeabfaaGreatDoorLUy
import Derived.Test.YtnlihdcjpeabfaaGreatDoorLLk
import Derived.DeepKeys
import Derived.ChangeKeysEq
import Derived.Test.YtnlihdcjpeabfaaGreatDoorGc
import Derived.Deep.RegionHeld3
import Derived.Test.YtnlihdcjpeabfaaGreatDoorGy
import Derived.Test.YtnlihdcjpeabfaaGreatDoorLTree
import Derived.WalkKit
import Derived.WalkSpells
import Derived.WalkLawsBesides
import Derived.StillTailTactics
import Derived.Deep.QuietTactic
import Derived.BigQuiet
import Derived.Test.YtnlihdcjpeabfaaGreatDoorLaw
import Derived.Test.YtnlihdcjpeabfaaGreatDoorRg
import Derived.ChangeArms
import Derived.Test.YtnlihdcjpeabfaaGreatDoorLOpen
import Derived.Test.YtnlihdcjpeabfaaGreatDoorCards
import Derived.Test.YtnlihdcjpeabfaaGreatDoorTie
import Derived.ProofKit
import Derived.OpenShut
import Derived.Deep.DeepHandedRow
import Derived.Lib.LaidTab
/- toNetwork and what it is made of: copies in new memory. -/
namespace Go.Proofs.YtnlihdcjpeabfaaGreatDoor.Lo.Ne
open Go.RowKit

/-! ### Rows of strings -/

theorem Tryz.info9 : (Tryz.prog.info? ( /- t -/ 9)).map (fun i => (i.zero, i.size, i.bytes)) = some (some (.string ⟨#[]⟩), 1, 16) := by kernel_rfl
def newStrings (n : Nat) : Array Value := madeCells #[.string ⟨#[]⟩] (n * 1)
theorem makeStrings (n : Nat) (hn : n ≤ 1048576) (w : World) : (Instr.makeSlice ( /- t -/ 23) (.int .i64 (n : Int)) (.int .i64 (n : Int))).run Tryz.prog w = .ok (.slice (some ⟨w.heap.size, 0, none⟩) n n) (w.alloc (.cells (newStrings n) ( /- t -/ 9))) := by
  obtain ⟨i0, hi, hz0, hz1, hz2⟩ := info_parts Tryz.info9
  have := run_make_rowN (P := Tryz.prog) ( /- t -/ 23) ( /- t -/ 9) i0 _ Tryz.underlying23 hi hz0 .i64 .i64 n n (Nat.le_refl _) (by rw [hz2]; omega) (by omega) w
  rw [hz1] at this
  exact this

/-- A slice of strings of the call's own. -/
def MadeQ (l : List ByteArray) (w : World) (e : Ending) (w' : World) : Prop :=
  ∃ u bs, e = .returned u ∧ OwG elS w' u l bs ∧ (∀ b, b ∈ bs → w.heap.size ≤ b) ∧ bs.Nodup ∧ Below w.heap.size w w'

/-- What holds at each round's head: the strings up to the place are copied. -/
def TsRel (w : World) (a : Option Addr) (l : List ByteArray) (iv : Value) (wr : World) : Prop :=
  ∃ p g, l = p ++ g ∧ iv = .int .i64 (p.length : Nat) ∧ AtG elS w a p.length g ∧ Free wr w.heap.size l.length ∧ RowG elS wr w.heap.size 0 p ∧ Below w.heap.size w wr

theorem ts_step {w wr : World} {a : Option Addr} {p rest : List ByteArray} {s : ByteArray} (hs : s.size ≤ maxLen)
    (hat : AtG elS w a p.length (s :: rest)) (hfree : Free wr w.heap.size (p ++ s :: rest).length) (hrow : RowG elS wr w.heap.size 0 p) (hb : Below w.heap.size w wr) :
    TsRel w a (p ++ s :: rest) (.int .i64 ((p.length + 1 : Nat) : Int)) (wr.setCell ⟨w.heap.size, p.length, none⟩ (.string s)) := by
  refine ⟨p ++ [s], rest, by simp, by simp, by simpa using hat.tail, hfree.setCell _ _, ?_, hb.setCell (Nat.le_refl _) _⟩
  obtain ⟨cs, t, hh, hn⟩ := hfree
  have key : (wr.setCell ⟨w.heap.size, p.length, none⟩ (.string s)).heap[w.heap.size]? = some (.cells (cs.setIfInBounds p.length (.string s)) t (0, 0)) := heap_setCell_same hh _
  refine RowG.app (hrow.flat elS_flat (fun i hi => ?_)) ⟨⟨hs, ?_⟩, trivial⟩
  · have hi' : i < p.length := by simpa [elS] using hi
    rw [cell_of_heap key, cell_of_heap hh, Array.getElem?_setIfInBounds, if_neg (by omega)]
  · have : p.length < cs.size := by rw [hn]; simp
    rw [cell_of_heap key, Array.getElem?_setIfInBounds]
    simp [elS, this]

theorem ts_end {w wr : World} {a : Option Addr} {l : List ByteArray} {iv : Value} (h : TsRel w a l iv wr) (hlen : l.length ≤ maxLen) (hge : ∀ k : Nat, iv = .int .i64 k → l.length ≤ k) : MadeQ l w (.returned (.slice (some ⟨w.heap.size, 0, none⟩) l.length l.length)) wr := by
  obtain ⟨p, g, rfl, rfl, hat, hfree, hrow, hb⟩ := h
  have hl := hge _ rfl
  rw [List.length_append] at hl
  have hg : g = [] := by cases g with | nil => rfl | cons => simp only [List.length_cons] at hl; omega
  subst hg
  rw [List.append_nil] at *
  cases p with
  | nil => exact ⟨_, [], rfl, ⟨_, _, rfl, Nat.le_refl _, hlen, Or.inl ⟨rfl, rfl⟩⟩, fun _ h => absurd h (List.not_mem_nil), List.nodup_nil, hb⟩
  | cons s rest =>
    exact ⟨_, [w.heap.size], rfl, ⟨_, _, rfl, Nat.le_refl _, hlen, Or.inr ⟨_, _, rfl, rfl, hfree, by simp, hrow⟩⟩, fun b h => by simp at h; omega, by simp, hb⟩

set_option maxHeartbeats 800000 in
/-- toStringS. -/
theorem toS (l : List ByteArray) (w : World) (v : Value) (hs : SlG elS w v l) (hw : l.length ≤ 1048576) :
    Calls Tryz.prog 14 #[v] w (MadeQ l w) := by
  obtain ⟨a, cap, rfl, hlen, hat⟩ := hs.at
  have HA := hide hat
  clear hs hat
  have hmk := makeStrings l.length hw
  go_enter Tryz.func14, Tryz.ntmps14
  go_wp2_with fail
  clear hmk
  go_loopw [4] (fun iv wr => TsRel w a l iv wr) (fun iv _ => l.length - (intOf iv).toNat)
  case atStart => exact ⟨[], l, rfl, rfl, HA.out, ⟨newStrings l.length, ( /- t -/ 9), by show (w.heap.push _)[w.heap.size]? = _; simp, by unfold newStrings; simpa using size_madeCells _ _⟩, trivial, alloc_below _ _⟩
  case round =>
    obtain ⟨p, g, hle, rfl, hg, hfree, hrow, hb⟩ := hrel
    have HE := hide hle
    have HR := hide hrow
    clear hle hrow
    cases g with
    | nil =>
      have hge : l.length ≤ p.length := by rw [HE.out, List.append_nil]; exact Nat.le_refl _
      go_wp2_with fail
      go_ret
      exact ts_end ⟨p, [], HE.out, rfl, hg, hfree, HR.out, hb⟩ hlen (fun k e => by injection e with _ e; omega)
    | cons s rest =>
      have hlt : p.length < l.length := by rw [HE.out, List.length_append]; simp only [List.length_cons]; omega
      obtain ⟨b, o, rfl, l1, c0⟩ := AtS.head (hg.still (Still.of_below hb))
      have HT := hide hg
      have fz : ∀ o, wr.frozen? ⟨w.heap.size, o, none⟩ = false := fun o => hfree.frozen
      obtain ⟨x0, d0⟩ := hfree.cell (o := p.length) (by omega)
      clear hg
      go_wp2_with fail
      refine ⟨?_, by simp [intOf]; omega⟩
      rw [HE.out] at hfree ⊢
      exact ts_step l1 HT.out hfree HR.out hb

/-! ### Rows of nodes -/

theorem Tryz.info40 : (Tryz.prog.info? ( /- t -/ 40)).map (fun i => (i.zero, i.size, i.bytes)) = some (some (.agg #[.int .i64 0, .string ⟨#[]⟩, .int .i64 0, .slice none 0 0]), 4, 56) := by kernel_rfl
def newLocals (n : Nat) : Array Value := madeCells #[.int .i64 0, .string ⟨#[]⟩, .int .i64 0, .slice none 0 0] (n * 4)
theorem makeLocals (n : Nat) (hn : n ≤ 1048576) (w : World) : (Instr.makeSlice ( /- t -/ 28) (.int .i64 (n : Int)) (.int .i64 (n : Int))).run Tryz.prog w = .ok (.slice (some ⟨w.heap.size, 0, none⟩) n n) (w.alloc (.cells (newLocals n) ( /- t -/ 40))) := by
  obtain ⟨i0, hi, hz0, hz1, hz2⟩ := info_parts Tryz.info40
  have := run_make_rowN (P := Tryz.prog) ( /- t -/ 28) ( /- t -/ 40) i0 _ Tryz.underlying28 hi hz0 .i64 .i64 n n (Nat.le_refl _) (by rw [hz2]; omega) (by omega) w
  rw [hz1] at this
  exact this

/-- A slice of nodes of the call's own. -/
def MadeL (l : List Nd) (w : World) (e : Ending) (w' : World) : Prop :=
  ∃ u bs, e = .returned u ∧ OwS w' u l bs ∧ (∀ b, b ∈ bs → w.heap.size ≤ b) ∧ bs.Nodup ∧ Below w.heap.size w w'

def TlRel (w : World) (a : Option Addr) (l : List Nd) (iv : Value) (wr : World) : Prop :=
  ∃ p g bs, l = p ++ g ∧ iv = .int .i64 (p.length : Nat) ∧ AtG elL w a p.length g ∧ Free wr w.heap.size (l.length * 4) ∧ OwL wr w.heap.size 0 p bs ∧ (∀ b, b ∈ bs → w.heap.size < b) ∧ bs.Nodup ∧ Below w.heap.size w wr

theorem tl_step {w wr w1 : World} {a : Option Addr} {p rest : List Nd} {bs ks : List Nat} {fr : ByteArray} {k ix : Int} {kids : F} {u : Value}
    (hat : AtG elL w a p.length (⟨k, fr, ix, kids⟩ :: rest)) (hfree : Free wr w.heap.size ((p ++ ⟨k, fr, ix, kids⟩ :: rest).length * 4)) (hown : OwL wr w.heap.size 0 p bs) (hgt : ∀ b, b ∈ bs → w.heap.size < b) (hnd : bs.Nodup) (hb : Below w.heap.size w wr)
    (hu : Ow w1 u kids ks) (hks : ∀ b, b ∈ ks → wr.heap.size ≤ b) (hknd : ks.Nodup) (hb1 : Below wr.heap.size wr w1) :
    TlRel w a (p ++ ⟨k, fr, ix, kids⟩ :: rest) (.int .i64 ((p.length + 1 : Nat) : Int)) (set4 w1 w.heap.size (p.length * 4) (.int .i64 k) (.string fr) (.int .i64 ix) u) := by
  have hsz := hb.size
  have hlt : w.heap.size < wr.heap.size := hfree.lt
  have hf1 : Free w1 w.heap.size ((p ++ ⟨k, fr, ix, kids⟩ :: rest).length * 4) := hfree.below hb1
  obtain ⟨s0, c0, c1, c2, c3, hfree2⟩ := set4_heap hf1 (p.length * 4) (by rw [List.length_append]; simp only [List.length_cons]; omega) (.int .i64 k) (.string fr) (.int .i64 ix) u
  have hbs : ∀ b, b ∈ bs → b < wr.heap.size := hown.lt
  have hsame : Same wr (set4 w1 w.heap.size (p.length * 4) (.int .i64 k) (.string fr) (.int .i64 ix) u) bs := fun x hx => by
    rw [set4_other _ _ _ _ _ _ _ _ (by have := hgt x hx; omega)]
    exact hb1.block x (hbs x hx)
  have hsame1 : Same w1 (set4 w1 w.heap.size (p.length * 4) (.int .i64 k) (.string fr) (.int .i64 ix) u) ks := fun x hx =>
    set4_other _ _ _ _ _ _ _ _ (by have := hks x hx; omega)
  obtain ⟨_, _, _, z1, z2, z3, _⟩ := AtL.head hat
  refine ⟨p ++ [⟨k, fr, ix, kids⟩], rest, bs ++ ks, by simp, by simp, ?_, hfree2, ?_, ?_, ?_, ?_⟩
  · simpa using hat.tail
  · refine OwL.app (hown.same (fun i hi => ?_) hsame) ?_
    · rw [s0 _ (by omega)]
      exact hb1.cell (p := ⟨w.heap.size, 0 + i, none⟩) hlt
    · rw [show 0 + 4 * p.length = p.length * 4 by omega]
      exact ⟨z1, z2, z3, c0, c1, c2, ks, [], by simp, ⟨u, c3, hu.same hsame1⟩, rfl⟩
  · intro b hm
    rcases List.mem_append.1 hm with hm | hm
    · exact hgt b hm
    · have := hks b hm
      omega
  · refine List.nodup_append.2 ⟨hnd, hknd, fun x hx y hy => ?_⟩
    have := hbs x hx
    have := hks y hy
    omega
  · exact set4_below (hb.trans (hb1.mono hsz)) _ _ (Nat.le_refl _) _ _ _ _

theorem tl_end {w wr : World} {a : Option Addr} {l : List Nd} {iv : Value} (h : TlRel w a l iv wr) (hlen : l.length ≤ maxLen) (hge : ∀ k : Nat, iv = .int .i64 k → l.length ≤ k) : MadeL l w (.returned (.slice (some ⟨w.heap.size, 0, none⟩) l.length l.length)) wr := by
  obtain ⟨p, g, bs, rfl, rfl, hat, hfree, hown, hgt, hnd, hb⟩ := h
  have hl := hge _ rfl
  rw [List.length_append] at hl
  have hg : g = [] := by cases g with | nil => rfl | cons => simp only [List.length_cons] at hl; omega
  subst hg
  rw [List.append_nil] at *
  cases p with
  | nil => exact ⟨_, [], rfl, ⟨_, _, rfl, Nat.le_refl _, hlen, Or.inl ⟨rfl, rfl⟩⟩, fun _ h => absurd h (List.not_mem_nil), List.nodup_nil, hb⟩
  | cons n rest =>
    refine ⟨_, w.heap.size :: bs, rfl, ⟨_, _, rfl, Nat.le_refl _, hlen, Or.inr ⟨_, _, bs, rfl, rfl, hfree, by simp, hown⟩⟩, fun b h => ?_, List.nodup_cons.2 ⟨fun h => ?_, hnd⟩, hb⟩
    · rcases List.mem_cons.1 h with rfl | h
      · exact Nat.le_refl _
      · exact Nat.le_of_lt (hgt b h)
    · exact absurd (hgt _ h) (Nat.lt_irrefl _)

set_option maxHeartbeats 800000 in
/-- toLocalS. -/
theorem toL (l : List Nd) (w : World) (v : Value) (hs : SlG elL w v l) (hw : l.length + wtL l ≤ 1048576) :
    Calls Tryz.prog 13 #[v] w (MadeL l w) := by
  obtain ⟨a, cap, rfl, hlen, hat⟩ := hs.at
  have HA := hide hat
  have hl1 : l.length ≤ 1048576 := by omega
  clear hs hat
  have hmk := makeLocals l.length hl1
  go_enter Tryz.func13, Tryz.ntmps13
  go_wp2_with fail
  clear hmk
  go_loopw [4] (fun iv wr => TlRel w a l iv wr) (fun iv _ => l.length - (intOf iv).toNat)
  case atStart => exact ⟨[], l, [], rfl, rfl, HA.out, ⟨newLocals l.length, ( /- t -/ 40), by show (w.heap.push _)[w.heap.size]? = _; simp, by unfold newLocals; exact size_madeCells _ _⟩, rfl, fun _ h => absurd h (List.not_mem_nil), List.nodup_nil, alloc_below _ _⟩
  case round =>
    obtain ⟨p, g, bs, hle, rfl, hg, hfree, hown, hgt, hnd, hb⟩ := hrel
    have HE := hide hle
    have HO := hide hown
    have HG := hide hgt
    clear hle hown hgt
    cases g with
    | nil =>
      have hge : l.length ≤ p.length := by rw [HE.out, List.append_nil]; exact Nat.le_refl _
      go_wp2_with fail
      go_ret
      exact tl_end ⟨p, [], bs, HE.out, rfl, hg, hfree, HO.out, HG.out, hnd, hb⟩ hlen (fun k e => by injection e with _ e; omega)
    | cons n rest =>
      obtain ⟨kd, fr, ix, kids⟩ := n
      have hlt : p.length < l.length := by rw [HE.out, List.length_append]; simp only [List.length_cons]; omega
      have hz : kids.len + kids.wt ≤ 1048576 := by
        rw [HE.out, wtL_app] at hw
        simp only [wtL, Nd.wt] at hw
        omega
      have HZ := hide hz
      obtain ⟨b, o, rfl, l1, -, -, c0, c1, c2, sv, c3, hsv⟩ := AtL.head (hg.still (Still.of_below hb))
      have HSV := hide hsv
      have HT := hide hg
      clear hz hsv hg
      go_wp2_with fail
      refine (to_calls kids wr kd ix fr sv HSV.out HZ.out).mono ?_
      rintro e w1 ⟨u, ks, rfl, how, hks, hknd, hb1⟩
      obtain ⟨ua, uc, rfl⟩ := how.val
      have hf1 := hfree.below hb1
      have fz : ∀ o, w1.frozen? ⟨w.heap.size, o, none⟩ = false := fun o => hf1.frozen
      obtain ⟨x0, d0⟩ := hf1.cell (o := p.length * 4) (by omega)
      obtain ⟨x1, d1⟩ := hf1.cell (o := p.length * 4 + 1) (by omega)
      obtain ⟨x2, d2⟩ := hf1.cell (o := p.length * 4 + 2) (by omega)
      obtain ⟨x3, d3⟩ := hf1.cell (o := p.length * 4 + 3) (by omega)
      have HU := hide how
      have HK := hide hks
      clear how hks
      go_wp2_with fail
      refine ⟨?_, by simp [intOf]; omega⟩
      rw [HE.out] at hfree ⊢
      exact tl_step HT.out hfree HO.out HG.out hnd hb HU.out HK.out hknd hb1

/-- A network of the call's own. -/
def MadeNet (l : List Nd) (q : List ByteArray) (w : World) (e : Ending) (w' : World) : Prop :=
  ∃ u v bs cs, e = .returned (.agg #[u, v]) ∧ OwS w' u l bs ∧ OwG elS w' v q cs ∧ (∀ b, b ∈ bs ++ cs → w.heap.size ≤ b) ∧ (bs ++ cs).Nodup ∧ Below w.heap.size w w'

set_option maxHeartbeats 800000 in
/-- toNetwork. -/
theorem toNet (w : World) (lv qv : Value) (l : List Nd) (q : List ByteArray) (hl : SlG elL w lv l) (hq : SlG elS w qv q) (hw : l.length + wtL l ≤ 1048576) (hw2 : q.length ≤ 1048576) :
    Calls Tryz.prog 6 #[.agg #[lv, qv]] w (MadeNet l q w) := by
  obtain ⟨la, lc, rfl, -, -⟩ := hl.at
  obtain ⟨qa, qc, rfl, -, -⟩ := hq.at
  have HL := hide hl
  have HQ := hide hq
  clear hl hq
  go_enter Tryz.func6, Tryz.ntmps6
  go_wp2_with fail
  refine (toL l _ _ (HL.out.still (Still.of_below ?_)) hw).mono ?_
  · exact ((alloc_below _ _).alloc (by simp) _).alloc (by simp; omega) _
  rintro e w1 ⟨u, bs, rfl, how, hge, hnd, hb⟩
  obtain ⟨ua, uc, rfl⟩ := how.val
  have HO := hide how
  have HG := hide hge
  clear how hge
  obtain ⟨hc, hf⟩ := bcell hb
  go_wp2_with fail
  have hz := hb.size
  simp at hz
  have hB : Below w.heap.size w w1 := ((((alloc_below w _).alloc (by simp) _).alloc (by simp; omega) _).trans (hb.mono (by simp; omega)))
  refine (toS q _ _ (HQ.out.still (Still.of_below ?_)) hw2).mono ?_
  · repeat (refine Below.setCell ?_ (by first | (simp; done) | (simp; omega)) _)
    exact hB
  rintro e w2 ⟨v, cs, rfl, how2, hge2, hnd2, hb2⟩
  obtain ⟨va, vc, rfl⟩ := how2.val
  have HO2 := hide how2
  have HG2 := hide hge2
  clear how2 hge2
  have X0 : Box2 w1 (w.heap.size + 1) (.slice none 0 0) (.slice none 0 0) := by
    have := ((Box2.now (w.alloc (.cells #[.slice la l.length lc, .slice qa q.length qc] ( /- t -/ 25))) (.slice none 0 0) (.slice none 0 0) ( /- t -/ 30)).below (alloc_below _ _)).below hb
    simpa using this
  have Y0 : Box2 w1 (w.heap.size + 1 + 1) (.slice none 0 0) (.slice none 0 0) := by
    have := (Box2.now ((w.alloc (.cells #[.slice la l.length lc, .slice qa q.length qc] ( /- t -/ 25))).alloc (.cells #[.slice none 0 0, .slice none 0 0] ( /- t -/ 30))) (.slice none 0 0) (.slice none 0 0) ( /- t -/ 30)).below hb
    simpa using this
  have X2 := (X0.setOther (p := ⟨w.heap.size + 1 + 1, 0, none⟩) (by simp) (.slice ua l.length uc)).below hb2
  have Y2 := (Y0.set0 (.slice ua l.length uc)).below hb2
  have hz2 := hb2.size
  simp at hz2
  have hB2 : Below w.heap.size w w2 := (hB.setCell (p := ⟨w.heap.size + 1 + 1, 0, none⟩) (by simp; omega) (.slice ua l.length uc)).trans (hb2.mono (by simp; omega))
  have HO3 := hide ((HO.out.same (Same.refl _ _ |>.setCell (p := ⟨w.heap.size + 1 + 1, 0, none⟩) (fun b h => by have := HG.out b h; simp at this; simp; omega) (.slice ua l.length uc))).same (Same.of_below hb2 (fun b h => by have := HO.out.lt b h; simpa using this)))
  have HG3 : Hid (∀ b, b ∈ bs → w.heap.size + 3 ≤ b ∧ b < w1.heap.size) := fun b h => ⟨by have := HG.out b h; simp at this; omega, HO.out.lt b h⟩
  have HG4 : Hid (∀ b, b ∈ cs → w1.heap.size ≤ b) := fun b h => by have := HG2.out b h; simpa using this
  obtain ⟨x0, x1⟩ := X2.cells
  obtain ⟨y0, y1⟩ := Y2.cells
  have fx := X2.frozen
  have fy := Y2.frozen
  have HX2 := hide X2
  have HY2 := hide Y2
  have xl := X2.lt
  have yl := Y2.lt
  clear hc hf hb hb2 HO HG HG2 X0 Y0 X2 Y2
  go_wp2_with fail
  have b1 := (HX2.out.setOther (p := ⟨w.heap.size + 1 + 1, 1, none⟩) (by simp) (.slice va q.length vc)).set0 (.slice ua l.length uc)
  have e0 := b1.cells.1
  have e1 := (b1.set1 (.slice va q.length vc)).cells.2
  refine bodyPost_ret (v := .agg #[.slice ua l.length uc, .slice va q.length vc]) (by simp [results, Tryz.results6, go_sem, e0, e1]) rfl ?_
  refine ⟨_, _, bs, cs, rfl, HO3.out.same ?_, HO2.out.same elS_flat ?_, ?_, ?_, ?_⟩
  · repeat (refine Same.setCell ?_ (fun b h => by have := HG3.out b h; simp; omega) _)
    exact Same.refl _ _
  · repeat (refine Same.setCell ?_ (fun b h => by have := HG4.out b h; simp; omega) _)
    exact Same.refl _ _
  · intro b h
    rcases List.mem_append.1 h with h | h
    · have := HG3.out b h; omega
    · have := HG4.out b h; omega
  · refine List.nodup_append.2 ⟨hnd, hnd2, fun x hx y hy => ?_⟩
    have := HG3.out x hx
    have := HG4.out y hy
    omega
  · repeat (refine Below.setCell ?_ (by first | (simp; done) | (simp; omega)) _)
    exact hB2
end Go.Proofs.YtnlihdcjpeabfaaGreatDoor.Lo.Ne

/- l4Finished of the model; configuration.finished of the program. -/
namespace Go.Proofs.YtnlihdcjpeabfaaGreatDoor.Lo.Ne
open Go.RowKit

/-- A role whose current type is the end. -/
def endB (g : Nd) : Bool := decide ((unf ⟨g.k, g.fr, g.ix, g.kids⟩).k = 1)
def emptyB (s : ByteArray) : Bool := s.toList.isEmpty
def finB (l : List Nd) (q : List ByteArray) : Bool := l.all endB && q.all emptyB

set_option maxHeartbeats 2000000 in
set_option maxRecDepth 100000 in
/-- l4Finished of the model. -/
theorem specFin (w : World) (l : List Nd) (q : List ByteArray) (lv qv : Value) (hl : SlG elL w lv l) (hq : SlG elS w qv q) (h3 : l.length = 3) (h9 : q.length = 9) (hok : ∀ g, g ∈ l → okG ⟨g.k, g.fr, g.ix, g.kids⟩ = true) (hfit : ∀ g, g ∈ l → Lo.Fit ⟨g.k, g.fr, g.ix, g.kids⟩) :
    Calls Tryz.prog 12 #[.agg #[lv, qv]] w fun e w' => e = .returned (.bool (finB l q)) ∧ Below w.heap.size w w' := by
  obtain ⟨la, lc, rfl, hll, hal⟩ := hl.at
  obtain ⟨qa, qc, rfl, hlq, haq⟩ := hq.at
  unfold maxLen at hll hlq
  have hB := alloc_below w (.cells #[.slice la l.length lc, .slice qa q.length qc] ( /- t -/ 30))
  have HBX := hide (Box2.now w (.slice la l.length lc) (.slice qa q.length qc) ( /- t -/ 30))
  have HAL := hide (hal.still (Still.of_below hB))
  have HAQ := hide (haq.still (Still.of_below hB))
  have HHB := hide hB
  have HFS := hide (And.intro hok hfit)
  have HLN := hide (And.intro h3 h9)
  obtain ⟨fb, hfb⟩ : ∃ fb, fb = finB l q := ⟨_, rfl⟩
  have HFB := hide (show fb = (l.all endB && q.all emptyB) from hfb)
  rw [← hfb]
  clear hl hq hal haq hB hok hfit h3 h9 hfb
  go_enter Tryz.func12, Tryz.ntmps12
  go_wp2_with fail
  generalize w.alloc (.cells #[.slice la l.length lc, .slice qa q.length qc] ( /- t -/ 30)) = W at *
  go_loopw [3] (fun iv wr => ∃ (gs : List Nd) (j : Nat), j + gs.length = l.length ∧ iv = .int .i64 j ∧ AtG elL W la j gs ∧ l.all endB = gs.all endB ∧ (∀ g, g ∈ gs → g ∈ l) ∧ Below W.heap.size W wr) (fun iv _ => 3 - (intOf iv).toNat)
  case atStart => exact ⟨l, 0, by omega, rfl, HAL.out, rfl, fun _ h => h, Below.refl _ _⟩
  case round =>
    obtain ⟨gs, j, hj, rfl, hg, hv, hmem, hbw⟩ := hrel
    have HV0 := hide hv
    have HBW := hide hbw
    have HMEM := hide hmem
    have HJ := hide hj
    clear hv hbw hmem hj
    cases gs with
    | nil =>
      have hj3 : ¬ (j : Int) < 3 := by have := HJ.out; have := HLN.out.1; simp only [List.length_nil] at *; omega
      clear hg
      go_wp2_with fail
      go_loopw [4] (fun iv wr => ∃ (g : List ByteArray) (k : Nat), k + g.length = q.length ∧ iv = .int .i64 k ∧ AtG elS W qa k g ∧ q.all emptyB = g.all emptyB ∧ Below W.heap.size W wr) (fun iv _ => 9 - (intOf iv).toNat)
      case atStart => exact ⟨q, 0, by omega, rfl, HAQ.out, rfl, HBW.out⟩
      case round =>
        have HVL : Hid (l.all endB = true) := hide HV0.out
        clear HBW HV0 HJ HMEM hj3
        obtain ⟨g, k, hk, rfl, hg, hv, hbw⟩ := hrel
        have HV1 := hide hv
        have HK := hide hk
        have HBB := hide (HHB.out.trans (hbw.mono HHB.out.size))
        obtain ⟨x0, x1⟩ := (HBX.out.below hbw).cells
        have xl := (HBX.out.below hbw).lt
        cases g with
        | nil =>
          have hk9 : ¬ (k : Int) < 9 := by have := HK.out; have := HLN.out.2; simp only [List.length_nil] at *; omega
          clear hv hbw hk
          go_wp2_with fail
          go_ret
          exact ⟨ret_bool (by rw [HFB.out, HVL.out, HV1.out]; rfl), HBB.out⟩
        | cons s rest =>
          have hk9 : (k : Int) < 9 := by have := HK.out; have := HLN.out.2; simp only [List.length_cons] at *; omega
          have hkq : k < q.length := by have := HK.out; simp only [List.length_cons] at *; omega
          obtain ⟨b1, o1, rfl, -, c0⟩ := AtS.head (hg.still (Still.of_below hbw))
          have HG := hide hg.tail
          have HBW := hide hbw
          clear hg hv hbw hk
          cases hb : s.toList.isEmpty with
          | true =>
            have HE := hide (show q.all emptyB = rest.all emptyB by rw [HV1.out, List.all_cons, show emptyB s = true from hb, Bool.true_and])
            go_wp2_with fail
            go_roundw
            case rel => exact ⟨rest, k + 1, by have := HK.out; simp only [List.length_cons] at this; omega, by go_num, HG.out, HE.out, HBW.out⟩
            case measure => simp [intOf]; omega
          | false =>
            have HE := hide (show q.all emptyB = false by rw [HV1.out, List.all_cons, show emptyB s = false from hb, Bool.false_and])
            go_wp2_with fail
            go_ret
            exact ⟨ret_bool (by rw [HFB.out, HE.out, Bool.and_false]), HBB.out⟩
    | cons g rest =>
      have hj3 : (j : Int) < 3 := by have := HJ.out; have := HLN.out.1; simp only [List.length_cons] at *; omega
      have hjl : j < l.length := by have := HJ.out; simp only [List.length_cons] at *; omega
      obtain ⟨k, fr, ix, kids⟩ := g
      have hokg := HFS.out.1 _ (HMEM.out ⟨k, fr, ix, kids⟩ (by simp))
      have hfitg := HFS.out.2 _ (HMEM.out ⟨k, fr, ix, kids⟩ (by simp))
      have HREST := hide (fun x (hx : x ∈ rest) => HMEM.out x (by simp [hx]))
      have HJ1 := hide (show j + 1 + rest.length = l.length by have := HJ.out; simp only [List.length_cons] at this; omega)
      obtain ⟨b1, o1, rfl, -, -, -, c0, c1, c2, sv, c3, hsl⟩ := AtL.head (hg.still (Still.of_below HBW.out))
      obtain ⟨hww, hh, -⟩ := okG_w hokg
      have HU := hide (unf_calls wr ⟨k, fr, ix, kids⟩ sv hsl hww hh hfitg)
      have HG := hide hg.tail
      have HBB := hide (HHB.out.trans (HBW.out.mono HHB.out.size))
      obtain ⟨U, hU⟩ : ∃ U, U = unf ⟨k, fr, ix, kids⟩ := ⟨_, rfl⟩
      have HUE := hide (show endB ⟨k, fr, ix, kids⟩ = decide (U.k = 1) by rw [hU]; rfl)
      rw [← hU] at HU
      obtain ⟨x0, x1⟩ := (HBX.out.below HBW.out).cells
      have xl := (HBX.out.below HBW.out).lt
      clear hg hsl hww hh hokg hfitg HMEM HJ hU
      go_wp2_with fail
      (with_reducible refine HU.out.mono ?_)
      rintro e wC ⟨u, ks, rfl, how, -, -, hbC⟩
      obtain ⟨ua, uc, rfl⟩ := how.val
      have HBC := hide (HBW.out.trans (hbC.mono HBW.out.size))
      have hfd : ∀ W : World, (Instr.field ( /- t -/ 40) (.agg #[.int .i64 U.k, .string U.fr, .int .i64 U.ix, .slice ua U.kids.len uc]) 0).run Tryz.prog W = .ok (.int .i64 U.k) W := fun W => by kernel_rfl
      clear how hbC
      by_cases hk : U.k = 1
      · have HE := hide (show l.all endB = rest.all endB by rw [HV0.out, List.all_cons, HUE.out, decide_eq_true hk, Bool.true_and])
        simp only [hk] at hfd
        go_wp2_with fail
        go_roundw
        case rel => exact ⟨rest, j + 1, HJ1.out, by go_num, HG.out, HE.out, HREST.out, HBC.out⟩
        case measure => simp [intOf]; omega
      · have HE := hide (show l.all endB = false by rw [HV0.out, List.all_cons, HUE.out, decide_eq_false hk, Bool.false_and])
        go_wp2_with fail
        go_ret
        exact ⟨ret_bool (by rw [HFB.out, HE.out, Bool.false_and]), HHB.out.trans (HBC.out.mono HHB.out.size)⟩
theorem eq_item (e : TypeId) (xs ys : Array Value) (j : Nat) (is : List Nat) (s : ByteArray) (w : World) (he : Tryz.prog.plainKey e = true) (hu : Tryz.prog.underlying e = some .string) (hx : xs[j]? = some (.string s)) (hy : ys[j]? = some (.string ⟨#[]⟩)) :
    (Op.eqItems 9999 e 1 xs ys (j :: is)).run Tryz.prog w = if emptyB s then (Op.eqItems 9999 e 1 xs ys is).run Tryz.prog w else .ok false w := by
  have h1 : (part e xs (j * 1)).run Tryz.prog w = .ok (.string s) w := run_part_plain w he (by rw [Nat.mul_one]; exact hx)
  have h2 : (part e ys (j * 1)).run Tryz.prog w = .ok (.string ⟨#[]⟩) w := run_part_plain w he (by rw [Nat.mul_one]; exact hy)
  have h4 : (Op.equalIn 9999 e (.string s) (.string ⟨#[]⟩)).run Tryz.prog w = .ok (s.toList == (⟨#[]⟩ : ByteArray).toList) w := run_equalIn_string w 9998 e s ⟨#[]⟩ hu
  simp only [Op.eqItems, Sem.run_bind, h1, h2, Result.andThen_ok, h4]
  have h3 : (s.toList == (⟨#[]⟩ : ByteArray).toList) = emptyB s := by
    unfold emptyB
    simp only [ByteArray.toList_eq]
    cases s.data.toList <;> rfl
  rw [h3]
  cases emptyB s <;> rfl
set_option maxRecDepth 100000 in
/-- Nine strings are nine empty ones. -/
theorem eq_nine (q0 q1 q2 q3 q4 q5 q6 q7 q8 : ByteArray) (w : World) : (binOp .eql ( /- t -/ 42) (.agg #[.string q0, .string q1, .string q2, .string q3, .string q4, .string q5, .string q6, .string q7, .string q8]) (.agg #[.string ⟨#[]⟩, .string ⟨#[]⟩, .string ⟨#[]⟩, .string ⟨#[]⟩, .string ⟨#[]⟩, .string ⟨#[]⟩, .string ⟨#[]⟩, .string ⟨#[]⟩, .string ⟨#[]⟩])).run Tryz.prog w = .ok (.bool ([q0, q1, q2, q3, q4, q5, q6, q7, q8].all emptyB)) w := by
  obtain ⟨i0, hi, -, -, -⟩ := info_parts Tryz.info9
  have hu := Tryz.underlying9
  have he : Tryz.prog.plainKey ( /- t -/ 9) = true := by kernel_rfl
  rw [run_eql_struct, run_equalIn_array w 9999 _ _ (show Tryz.prog.underlying ( /- t -/ 42) = some (.array 9 ( /- t -/ 9)) from Tryz.underlying42) hi, show Tryz.prog.cellsOf ( /- t -/ 9) = 1 from by kernel_rfl, show List.range 9 = [0, 1, 2, 3, 4, 5, 6, 7, 8] from by decide]
  have hn : ∀ xs ys, (Op.eqItems 9999 ( /- t -/ 9) 1 xs ys []).run Tryz.prog w = .ok true w := fun xs ys => by simp [Op.eqItems]
  simp only [eq_item ( /- t -/ 9) _ _ 0 _ q0 w he hu (show (#[.string q0, .string q1, .string q2, .string q3, .string q4, .string q5, .string q6, .string q7, .string q8] : Array Value)[0]? = some (.string q0) from rfl) (show (#[.string ⟨#[]⟩, .string ⟨#[]⟩, .string ⟨#[]⟩, .string ⟨#[]⟩, .string ⟨#[]⟩, .string ⟨#[]⟩, .string ⟨#[]⟩, .string ⟨#[]⟩, .string ⟨#[]⟩] : Array Value)[0]? = some (.string ⟨#[]⟩) from rfl), eq_item ( /- t -/ 9) _ _ 1 _ q1 w he hu (show (#[.string q0, .string q1, .string q2, .string q3, .string q4, .string q5, .string q6, .string q7, .string q8] : Array Value)[1]? = some (.string q1) from rfl) (show (#[.string ⟨#[]⟩, .string ⟨#[]⟩, .string ⟨#[]⟩, .string ⟨#[]⟩, .string ⟨#[]⟩, .string ⟨#[]⟩, .string ⟨#[]⟩, .string ⟨#[]⟩, .string ⟨#[]⟩] : Array Value)[1]? = some (.string ⟨#[]⟩) from rfl), eq_item ( /- t -/ 9) _ _ 2 _ q2 w he hu (show (#[.string q0, .string q1, .string q2, .string q3, .string q4, .string q5, .string q6, .string q7, .string q8] : Array Value)[2]? = some (.string q2) from rfl) (show (#[.string ⟨#[]⟩, .string ⟨#[]⟩, .string ⟨#[]⟩, .string ⟨#[]⟩, .string ⟨#[]⟩, .string ⟨#[]⟩, .string ⟨#[]⟩, .string ⟨#[]⟩, .string ⟨#[]⟩] : Array Value)[2]? = some (.string ⟨#[]⟩) from rfl), eq_item ( /- t -/ 9) _ _ 3 _ q3 w he hu (show (#[.string q0, .string q1, .string q2, .string q3, .string q4, .string q5, .string q6, .string q7, .string q8] : Array Value)[3]? = some (.string q3) from rfl) (show (#[.string ⟨#[]⟩, .string ⟨#[]⟩, .string ⟨#[]⟩, .string ⟨#[]⟩, .string ⟨#[]⟩, .string ⟨#[]⟩, .string ⟨#[]⟩, .string ⟨#[]⟩, .string ⟨#[]⟩] : Array Value)[3]? = some (.string ⟨#[]⟩) from rfl), eq_item ( /- t -/ 9) _ _ 4 _ q4 w he hu (show (#[.string q0, .string q1, .string q2, .string q3, .string q4, .string q5, .string q6, .string q7, .string q8] : Array Value)[4]? = some (.string q4) from rfl) (show (#[.string ⟨#[]⟩, .string ⟨#[]⟩, .string ⟨#[]⟩, .string ⟨#[]⟩, .string ⟨#[]⟩, .string ⟨#[]⟩, .string ⟨#[]⟩, .string ⟨#[]⟩, .string ⟨#[]⟩] : Array Value)[4]? = some (.string ⟨#[]⟩) from rfl), eq_item ( /- t -/ 9) _ _ 5 _ q5 w he hu (show (#[.string q0, .string q1, .string q2, .string q3, .string q4, .string q5, .string q6, .string q7, .string q8] : Array Value)[5]? = some (.string q5) from rfl) (show (#[.string ⟨#[]⟩, .string ⟨#[]⟩, .string ⟨#[]⟩, .string ⟨#[]⟩, .string ⟨#[]⟩, .string ⟨#[]⟩, .string ⟨#[]⟩, .string ⟨#[]⟩, .string ⟨#[]⟩] : Array Value)[5]? = some (.string ⟨#[]⟩) from rfl), eq_item ( /- t -/ 9) _ _ 6 _ q6 w he hu (show (#[.string q0, .string q1, .string q2, .string q3, .string q4, .string q5, .string q6, .string q7, .string q8] : Array Value)[6]? = some (.string q6) from rfl) (show (#[.string ⟨#[]⟩, .string ⟨#[]⟩, .string ⟨#[]⟩, .string ⟨#[]⟩, .string ⟨#[]⟩, .string ⟨#[]⟩, .string ⟨#[]⟩, .string ⟨#[]⟩, .string ⟨#[]⟩] : Array Value)[6]? = some (.string ⟨#[]⟩) from rfl), eq_item ( /- t -/ 9) _ _ 7 _ q7 w he hu (show (#[.string q0, .string q1, .string q2, .string q3, .string q4, .string q5, .string q6, .string q7, .string q8] : Array Value)[7]? = some (.string q7) from rfl) (show (#[.string ⟨#[]⟩, .string ⟨#[]⟩, .string ⟨#[]⟩, .string ⟨#[]⟩, .string ⟨#[]⟩, .string ⟨#[]⟩, .string ⟨#[]⟩, .string ⟨#[]⟩, .string ⟨#[]⟩] : Array Value)[7]? = some (.string ⟨#[]⟩) from rfl), eq_item ( /- t -/ 9) _ _ 8 _ q8 w he hu (show (#[.string q0, .string q1, .string q2, .string q3, .string q4, .string q5, .string q6, .string q7, .string q8] : Array Value)[8]? = some (.string q8) from rfl) (show (#[.string ⟨#[]⟩, .string ⟨#[]⟩, .string ⟨#[]⟩, .string ⟨#[]⟩, .string ⟨#[]⟩, .string ⟨#[]⟩, .string ⟨#[]⟩, .string ⟨#[]⟩, .string ⟨#[]⟩] : Array Value)[8]? = some (.string ⟨#[]⟩) from rfl), hn]
  simp only [List.all_cons, List.all_nil]
  generalize emptyB q0 = z0
  generalize emptyB q1 = z1
  generalize emptyB q2 = z2
  generalize emptyB q3 = z3
  generalize emptyB q4 = z4
  generalize emptyB q5 = z5
  generalize emptyB q6 = z6
  generalize emptyB q7 = z7
  generalize emptyB q8 = z8
  cases z0 <;> cases z1 <;> cases z2 <;> cases z3 <;> cases z4 <;> cases z5 <;> cases z6 <;> cases z7 <;> cases z8 <;> rfl

set_option maxHeartbeats 2000000 in
set_option maxRecDepth 100000 in
/-- configuration.finished. -/
theorem implFin (w : World) (a0 a1 a2 d0 d1 d2 c0 c1 c2 i0 i1 i2 : Int) (b0 b1 b2 f0 f1 f2 q0 q1 q2 q3 q4 q5 q6 q7 q8 : ByteArray) (y0 y1 y2 x0 x1 x2 : Option Addr) (p0 p1 p2 r0 r1 r2 m0 m1 m2 n0 n1 n2 : Nat) :
    Calls Tryz.prog 16 #[.agg #[.int .i64 a0, .string b0, .int .i64 d0, .slice y0 p0 r0, .int .i64 a1, .string b1, .int .i64 d1, .slice y1 p1 r1, .int .i64 a2, .string b2, .int .i64 d2, .slice y2 p2 r2, .int .i64 c0, .string f0, .int .i64 i0, .slice x0 m0 n0, .int .i64 c1, .string f1, .int .i64 i1, .slice x1 m1 n1, .int .i64 c2, .string f2, .int .i64 i2, .slice x2 m2 n2, .string q0, .string q1, .string q2, .string q3, .string q4, .string q5, .string q6, .string q7, .string q8]] w fun e w' => e = .returned (.bool ((decide (c0 = 1) && (decide (c1 = 1) && decide (c2 = 1))) && [q0, q1, q2, q3, q4, q5, q6, q7, q8].all emptyB)) ∧ Below w.heap.size w w' := by
  have HB := hide (alloc_below w (.cells #[.int .i64 a0, .string b0, .int .i64 d0, .slice y0 p0 r0, .int .i64 a1, .string b1, .int .i64 d1, .slice y1 p1 r1, .int .i64 a2, .string b2, .int .i64 d2, .slice y2 p2 r2, .int .i64 c0, .string f0, .int .i64 i0, .slice x0 m0 n0, .int .i64 c1, .string f1, .int .i64 i1, .slice x1 m1 n1, .int .i64 c2, .string f2, .int .i64 i2, .slice x2 m2 n2, .string q0, .string q1, .string q2, .string q3, .string q4, .string q5, .string q6, .string q7, .string q8] ( /- t -/ 44)))
  have HC := hide (Blk.now w #[.int .i64 a0, .string b0, .int .i64 d0, .slice y0 p0 r0, .int .i64 a1, .string b1, .int .i64 d1, .slice y1 p1 r1, .int .i64 a2, .string b2, .int .i64 d2, .slice y2 p2 r2, .int .i64 c0, .string f0, .int .i64 i0, .slice x0 m0 n0, .int .i64 c1, .string f1, .int .i64 i1, .slice x1 m1 n1, .int .i64 c2, .string f2, .int .i64 i2, .slice x2 m2 n2, .string q0, .string q1, .string q2, .string q3, .string q4, .string q5, .string q6, .string q7, .string q8] ( /- t -/ 44))
  have heq := eq_nine q0 q1 q2 q3 q4 q5 q6 q7 q8
  obtain ⟨qb, hqb⟩ : ∃ qb, qb = [q0, q1, q2, q3, q4, q5, q6, q7, q8].all emptyB := ⟨_, rfl⟩
  rw [← hqb] at heq ⊢
  clear hqb
  have HEQ := hide heq
  clear heq
  go_enter Tryz.func16, Tryz.ntmps16
  go_wp2_with fail
  generalize w.alloc (.cells #[.int .i64 a0, .string b0, .int .i64 d0, .slice y0 p0 r0, .int .i64 a1, .string b1, .int .i64 d1, .slice y1 p1 r1, .int .i64 a2, .string b2, .int .i64 d2, .slice y2 p2 r2, .int .i64 c0, .string f0, .int .i64 i0, .slice x0 m0 n0, .int .i64 c1, .string f1, .int .i64 i1, .slice x1 m1 n1, .int .i64 c2, .string f2, .int .i64 i2, .slice x2 m2 n2, .string q0, .string q1, .string q2, .string q3, .string q4, .string q5, .string q6, .string q7, .string q8] ( /- t -/ 44)) = W at *
  go_loopw [7] (fun iv wr => ((iv = .int .i64 0) ∨ (iv = .int .i64 1 ∧ c0 = 1) ∨ (iv = .int .i64 2 ∧ c0 = 1 ∧ c1 = 1) ∨ (iv = .int .i64 3 ∧ c0 = 1 ∧ c1 = 1 ∧ c2 = 1)) ∧ Below W.heap.size W wr) (fun iv _ => 3 - (intOf iv).toNat)
  case atStart => exact ⟨.inl rfl, Below.refl _ _⟩
  case round =>
    obtain ⟨hcase, hbw⟩ := hrel
    have HBW := hide hbw
    have HBB := hide (HB.out.trans (hbw.mono HB.out.size))
    have HCC := hide (HC.out.below hbw)
    clear hbw
    rcases hcase with rfl | ⟨rfl, hc0⟩ | ⟨rfl, hc0, hc1⟩ | ⟨rfl, hc0, hc1, hc2⟩
    · have hix : ∀ W : World, (Instr.index ( /- t -/ 41) (.agg #[.int .i64 c0, .string f0, .int .i64 i0, .slice x0 m0 n0, .int .i64 c1, .string f1, .int .i64 i1, .slice x1 m1 n1, .int .i64 c2, .string f2, .int .i64 i2, .slice x2 m2 n2]) (.int .i64 0)).run Tryz.prog W = .ok (.agg #[.int .i64 c0, .string f0, .int .i64 i0, .slice x0 m0 n0]) W := fun W => by kernel_rfl
      by_cases hk : c0 = 1
      · have HK := hide hk
        simp only [hk] at hix
        go_wp2_with fail
        refine ⟨⟨.inr (.inl ⟨rfl, hk⟩), HBW.out.alloc HBW.out.size _⟩, by decide⟩
      · go_wp2_with fail
        go_ret
        exact ⟨ret_bool (by rw [decide_eq_false hk]; rfl), HBB.out.alloc HBB.out.size _⟩
    · have hix : ∀ W : World, (Instr.index ( /- t -/ 41) (.agg #[.int .i64 c0, .string f0, .int .i64 i0, .slice x0 m0 n0, .int .i64 c1, .string f1, .int .i64 i1, .slice x1 m1 n1, .int .i64 c2, .string f2, .int .i64 i2, .slice x2 m2 n2]) (.int .i64 1)).run Tryz.prog W = .ok (.agg #[.int .i64 c1, .string f1, .int .i64 i1, .slice x1 m1 n1]) W := fun W => by kernel_rfl
      have HP := hide hc0
      clear hc0
      by_cases hk : c1 = 1
      · have HK := hide hk
        simp only [hk] at hix
        go_wp2_with fail
        refine ⟨⟨.inr (.inr (.inl ⟨rfl, HP.out, hk⟩)), HBW.out.alloc HBW.out.size _⟩, by decide⟩
      · go_wp2_with fail
        go_ret
        exact ⟨ret_bool (by rw [decide_eq_true HP.out, decide_eq_false hk]; rfl), HBB.out.alloc HBB.out.size _⟩
    · have hix : ∀ W : World, (Instr.index ( /- t -/ 41) (.agg #[.int .i64 c0, .string f0, .int .i64 i0, .slice x0 m0 n0, .int .i64 c1, .string f1, .int .i64 i1, .slice x1 m1 n1, .int .i64 c2, .string f2, .int .i64 i2, .slice x2 m2 n2]) (.int .i64 2)).run Tryz.prog W = .ok (.agg #[.int .i64 c2, .string f2, .int .i64 i2, .slice x2 m2 n2]) W := fun W => by kernel_rfl
      have HP := hide (And.intro hc0 hc1)
      clear hc0 hc1
      by_cases hk : c2 = 1
      · have HK := hide hk
        simp only [hk] at hix
        go_wp2_with fail
        refine ⟨⟨.inr (.inr (.inr ⟨rfl, HP.out.1, HP.out.2, hk⟩)), HBW.out.alloc HBW.out.size _⟩, by decide⟩
      · go_wp2_with fail
        go_ret
        exact ⟨ret_bool (by rw [decide_eq_true HP.out.1, decide_eq_true HP.out.2, decide_eq_false hk]; rfl), HBB.out.alloc HBB.out.size _⟩
    · have HP := hide (And.intro hc0 (And.intro hc1 hc2))
      have heq := HEQ.out
      clear hc0 hc1 hc2
      have z24 := HCC.out.cell 24
      have z25 := HCC.out.cell 25
      have z26 := HCC.out.cell 26
      have z27 := HCC.out.cell 27
      have z28 := HCC.out.cell 28
      have z29 := HCC.out.cell 29
      have z30 := HCC.out.cell 30
      have z31 := HCC.out.cell 31
      have z32 := HCC.out.cell 32
      simp only [List.getElem?_toArray, List.getElem?_cons_succ, List.getElem?_cons_zero] at z24 z25 z26 z27 z28 z29 z30 z31 z32
      have hcl := HCC.out.lt
      go_wp2_with fail
      go_ret
      exact ⟨ret_bool (by rw [decide_eq_true HP.out.1, decide_eq_true HP.out.2.1, decide_eq_true HP.out.2.2]; rfl), HBB.out⟩
end Go.Proofs.YtnlihdcjpeabfaaGreatDoor.Lo.Ne

/- NetworkValid of the model. -/
namespace Go.Proofs.YtnlihdcjpeabfaaGreatDoor.Lo.Ne
open Go.RowKit

def Nd.up (g : Nd) : Lo.Nd := ⟨g.k, g.fr, g.ix, g.kids⟩
/-- A queue that is valid. -/
def queB (s : ByteArray) : Bool := Tk.labsB s && decide (s.size ≤ 3)
/-- A role's letter. -/
def lett (j : Nat) : UInt8 := if j = 0 then 65 else if j = 1 then 66 else 67
/-- The queue from a role to itself is empty. -/
def selfB (q : List ByteArray) (j : Nat) : Bool := (q.getD (4 * j) ⟨#[]⟩).toList.isEmpty
/-- The local types from a role on. -/
def allL (q : List ByteArray) : Nat → List Nd → Bool
  | _, [] => true
  | j, g :: r => (curOk g.up (lett j) && selfB q j) && allL q (j + 1) r
/-- A valid network. -/
def netB (l : List Nd) (q : List ByteArray) : Bool := decide (l.length = 3) && (decide (q.length = 9) && (allL q 0 l && q.all queB))
def AllFit (l : List Nd) : Prop := ∀ g, g ∈ l → Lo.Fit g.up

set_option maxHeartbeats 400000 in
theorem specLett (j : Nat) (hj : j < 3) (w : World) : Calls Tryz.prog 24 #[.int .i64 (j : Int)] w fun e w' => e = .returned (.string ⟨#[lett j]⟩) ∧ w = w' := by
  obtain rfl | rfl | rfl : j = 0 ∨ j = 1 ∨ j = 2 := by omega
  all_goals
    go_enter Tryz.func24, Tryz.ntmps24
    go_wp2_with fail
    go_ret
    exact ⟨rfl, rfl⟩

set_option maxHeartbeats 800000 in
/-- l4QueueValid of the model. -/
theorem specQue (s : ByteArray) (w : World) (hs : s.size ≤ 1048576) :
    Calls Tryz.prog 25 #[.string s] w fun e w' => e = .returned (.bool (queB s)) ∧ w' = w := by
  obtain ⟨ok, hok⟩ : ∃ ok, ok = queB s := ⟨_, rfl⟩
  have HOK := hide hok
  rw [← hok]
  clear hok
  go_enter Tryz.func25, Tryz.ntmps25
  go_wp2_with fail
  go_loopw [3] (fun iv wr => ∃ k : Nat, iv = .int .i64 k ∧ k ≤ s.size ∧ (s.data.toList.drop k).all Tk.labC = Tk.labsB s ∧ wr = w) (fun iv _ => s.size - (intOf iv).toNat)
  case atStart => exact ⟨0, rfl, Nat.zero_le _, rfl, rfl⟩
  case round =>
    obtain ⟨k, rfl, hk, hc, rfl⟩ := hrel
    have HC := hide hc
    clear hc
    by_cases hlt : k < s.size
    · have hl : (k : Int) < (s.size : Int) := by omega
      have he := extract_byte hlt
      have hd := drop_byte hlt
      generalize s[k]'hlt = x at *
      cases hx : Tk.labC x with
      | false =>
        have HR := hide (show ok = false by rw [HOK.out]; unfold queB; rw [← HC.out, hd]; simp [hx])
        have HX := hide (show labB ⟨#[x]⟩ = false by rw [Tk.labB_one]; exact hx)
        clear hd hx
        go_wp2_with (go_at_call 37; refine (specLab _ _).mono ?_; rintro e w' ⟨rfl, rfl⟩; rw [HX.out])
        go_ret
        exact ⟨by rw [HR.out]; rfl, rfl⟩
      | true =>
        have HR := hide (show (s.data.toList.drop (k + 1)).all Tk.labC = Tk.labsB s by
          rw [← HC.out, hd, List.all_cons, hx, Bool.true_and])
        have HX := hide (show labB ⟨#[x]⟩ = true by rw [Tk.labB_one]; exact hx)
        clear hd hx
        go_wp2_with (go_at_call 37; refine (specLab _ _).mono ?_; rintro e w' ⟨rfl, rfl⟩; rw [HX.out])
        exact ⟨⟨k + 1, by go_num, by omega, HR.out, trivial⟩, by simp [intOf]; omega⟩
    · have hl : ¬ (k : Int) < (s.size : Int) := by omega
      have HR := hide (show Tk.labsB s = true by
        rw [← HC.out, List.drop_eq_nil_of_le (by rw [Array.length_toList]; show s.size ≤ k; omega)]
        rfl)
      by_cases h3 : s.size ≤ 3
      · have h3' : (s.size : Int) ≤ 3 := by omega
        have H3 := hide h3
        clear h3
        go_wp2_with fail
        go_ret
        exact ⟨ret_bool (by rw [HOK.out]; unfold queB; rw [HR.out, decide_eq_true H3.out]; rfl), rfl⟩
      · have h3' : ¬ (s.size : Int) ≤ 3 := by omega
        have h3'' : 3 < (s.size : Int) := by omega
        have H3 := hide h3
        clear h3
        go_wp2_with fail
        go_ret
        exact ⟨ret_bool (by rw [HOK.out]; unfold queB; rw [decide_eq_false H3.out, Bool.and_false]), rfl⟩

/-- What the round reads: the network's box, the local type at the place, the queue from the role to itself. -/
structure RQ (nb : Nat) (lv qv : Value) (b1 o1 j b2 o2 m : Nat) (g : Nd) (sv : Value) (s : ByteArray) (W : World) : Prop where
  box : Box2 W nb lv qv
  c0 : W.cell? ⟨b1, o1 + j * 4, none⟩ = some (.int .i64 g.k)
  c1 : W.cell? ⟨b1, o1 + j * 4 + 1, none⟩ = some (.string g.fr)
  c2 : W.cell? ⟨b1, o1 + j * 4 + 2, none⟩ = some (.int .i64 g.ix)
  c3 : W.cell? ⟨b1, o1 + j * 4 + 3, none⟩ = some sv
  sl : Sl W sv g.kids
  qc : W.cell? ⟨b2, o2 + m, none⟩ = some (.string s)
theorem RQ.still {nb : Nat} {lv qv : Value} {b1 o1 j b2 o2 m : Nat} {g : Nd} {sv : Value} {s : ByteArray} {W W' : World} (h : RQ nb lv qv b1 o1 j b2 o2 m g sv s W) (hb : Below W.heap.size W W') : RQ nb lv qv b1 o1 j b2 o2 m g sv s W' :=
  have st := Still.of_below hb
  ⟨h.box.below hb, st _ _ h.c0, st _ _ h.c1, st _ _ h.c2, st _ _ h.c3, h.sl.still st, st _ _ h.qc⟩
theorem RQ.drew {nb : Nat} {lv qv : Value} {b1 o1 j b2 o2 m : Nat} {g : Nd} {sv : Value} {s : ByteArray} {W : World} (h : RQ nb lv qv b1 o1 j b2 o2 m g sv s W) : RQ nb lv qv b1 o1 j b2 o2 m g sv s W.drew :=
  have st := still_drew W
  ⟨h.box.drew, st _ _ h.c0, st _ _ h.c1, st _ _ h.c2, st _ _ h.c3, h.sl.still st, st _ _ h.qc⟩
theorem up_k (g : Nd) : g.up.k = g.k := rfl
theorem getD_some {q : List ByteArray} {m : Nat} (h : m < q.length) : q[m]? = some (q.getD m ⟨#[]⟩) := by
  rw [List.getD_eq_getElem?_getD, List.getElem?_eq_getElem h]
  rfl

set_option maxHeartbeats 16000000 in
set_option maxRecDepth 100000 in
/-- NetworkValid of the model at three local types and nine queues. -/
theorem specNetIn (w : World) (l : List Nd) (q : List ByteArray) (lv qv : Value) (hl : SlG elL w lv l) (hq : SlG elS w qv q) (hfit : AllFit l) (hsz : ∀ g, g ∈ l → g.kids.sz ≤ 1048576) (hqs : ∀ s, s ∈ q → s.size ≤ 1048576) (h3 : l.length = 3) (h9 : q.length = 9) :
    Calls Tryz.prog 11 #[.agg #[lv, qv]] w fun e w' => e = .returned (.bool (netB l q)) ∧ Below w.heap.size w w' := by
  obtain ⟨la, lc, rfl, hll, hal⟩ := hl.at
  obtain ⟨qa, qc, rfl, hlq, haq⟩ := hq.at
  unfold maxLen at hll hlq
  have hB := alloc_below w (.cells #[.slice la l.length lc, .slice qa q.length qc] ( /- t -/ 30))
  have HBX := hide (Box2.now w (.slice la l.length lc) (.slice qa q.length qc) ( /- t -/ 30))
  have HAL := hide (hal.still (Still.of_below hB))
  have HAQ := hide (haq.still (Still.of_below hB))
  have HSQ := hide (hq.still (Still.of_below hB))
  have HHB := hide hB
  have HFS := hide (And.intro hfit (And.intro hsz hqs))
  have HLN := hide (And.intro h3 h9)
  have hl3 : ((l.length : Int) != 3) = false := by rw [h3]; rfl
  have hq9 : ((q.length : Int) != 9) = false := by rw [h9]; rfl
  obtain ⟨ok, hok⟩ : ∃ ok, ok = netB l q := ⟨_, rfl⟩
  have HOK := hide (show ok = (allL q 0 l && q.all queB) by rw [hok]; unfold netB; rw [decide_eq_true h3, decide_eq_true h9, Bool.true_and, Bool.true_and])
  rw [← hok]
  clear hl hq hal haq hB hfit hsz hqs h3 h9 hok
  go_enter Tryz.func11, Tryz.ntmps11
  go_wp2_with fail
  generalize w.alloc (.cells #[.slice la l.length lc, .slice qa q.length qc] ( /- t -/ 30)) = W at *
  go_loopw [3] (fun iv wr => ∃ (gs : List Nd) (j : Nat), j + gs.length = l.length ∧ iv = .int .i64 j ∧ AtG elL W la j gs ∧ allL q j gs = allL q 0 l ∧ (∀ g, g ∈ gs → g ∈ l) ∧ Below W.heap.size W wr) (fun iv _ => 3 - (intOf iv).toNat)
  case atStart => exact ⟨l, 0, by omega, rfl, HAL.out, rfl, fun _ h => h, Below.refl _ _⟩
  case round =>
    obtain ⟨gs, j, hj, rfl, hg, hv, hmem, hbw⟩ := hrel
    have HV0 := hide hv
    have HBW := hide hbw
    have HMEM := hide hmem
    have HJ := hide hj
    clear hv hbw hmem hj
    cases gs with
    | nil =>
      have hj3 : ¬ (j : Int) < 3 := by have := HJ.out; have := HLN.out.1; simp only [List.length_nil] at *; omega
      have HVL : Hid (allL q 0 l = true) := hide HV0.out.symm
      clear hg
      go_wp2_with fail
      go_loopw [4] (fun iv wr => ∃ (g : List ByteArray) (k : Nat), k + g.length = q.length ∧ iv = .int .i64 k ∧ AtG elS W qa k g ∧ g.all queB = q.all queB ∧ (∀ s, s ∈ g → s ∈ q) ∧ Below W.heap.size W wr) (fun iv _ => 9 - (intOf iv).toNat)
      case atStart => exact ⟨q, 0, by omega, rfl, HAQ.out, rfl, fun _ h => h, HBW.out⟩
      case round =>
        clear HBW HV0 HJ HMEM hj3
        obtain ⟨g, k, hk, rfl, hg, hv, hmem, hbw⟩ := hrel
        have HV1 := hide hv
        have HK := hide hk
        have HBW := hide hbw
        have HMEM := hide hmem
        have HBB := hide (HHB.out.trans (hbw.mono HHB.out.size))
        obtain ⟨x0, x1⟩ := (HBX.out.below hbw).cells
        have xl := (HBX.out.below hbw).lt
        clear hv hbw hmem hk
        cases g with
        | nil =>
          have hk9 : ¬ (k : Int) < 9 := by have := HK.out; have := HLN.out.2; simp only [List.length_nil] at *; omega
          go_wp2_with fail
          go_ret
          exact ⟨ret_bool (by rw [HOK.out, HVL.out, ← HV1.out]; rfl), HBB.out⟩
        | cons s rest =>
          have hk9 : (k : Int) < 9 := by have := HK.out; have := HLN.out.2; simp only [List.length_cons] at *; omega
          have hkq : k < q.length := by have := HK.out; simp only [List.length_cons] at *; omega
          obtain ⟨b1, o1, rfl, hs1, c0⟩ := AtS.head (hg.still (Still.of_below HBW.out))
          have HG := hide hg.tail
          have HS := hide (HFS.out.2.2 s (HMEM.out s (by simp)))
          clear hg
          cases hb : queB s with
          | false =>
            have HE := hide (show q.all queB = false by rw [← HV1.out, List.all_cons, hb, Bool.false_and])
            have HQ := hide (fun (W : World) => (show Calls Tryz.prog 25 #[.string s] W (fun e w' => e = .returned (.bool false) ∧ w' = W) by have := specQue s W HS.out; rw [hb] at this; exact this))
            clear hb
            go_wp2_with (go_at_call 25; refine (HQ.out _).mono ?_; rintro e wQ ⟨rfl, rfl⟩)
            go_ret
            exact ⟨ret_bool (by rw [HOK.out, HE.out, Bool.and_false]), HBB.out⟩
          | true =>
            have HE := hide (show rest.all queB = q.all queB by rw [← HV1.out, List.all_cons, hb, Bool.true_and])
            have HQ := hide (fun (W : World) => (show Calls Tryz.prog 25 #[.string s] W (fun e w' => e = .returned (.bool true) ∧ w' = W) by have := specQue s W HS.out; rw [hb] at this; exact this))
            clear hb
            go_wp2_with (go_at_call 25; refine (HQ.out _).mono ?_; rintro e wQ ⟨rfl, rfl⟩)
            go_roundw
            case rel => exact ⟨rest, k + 1, by have := HK.out; simp only [List.length_cons] at this; omega, by go_num, HG.out, HE.out, fun x hx => HMEM.out x (by simp [hx]), HBW.out⟩
            case measure => simp [intOf]; omega
    | cons g rest =>
      have hj3 : (j : Int) < 3 := by have := HJ.out; have := HLN.out.1; simp only [List.length_cons] at *; omega
      have hjn : j < 3 := by omega
      have hjl : j < l.length := by have := HJ.out; simp only [List.length_cons] at *; omega
      obtain ⟨m, hm⟩ : ∃ m : Nat, m = 4 * j := ⟨_, rfl⟩
      have hm1 : 4 * (j : Int) = (m : Int) := by omega
      have hm9 : m < q.length := by have := HLN.out.2; omega
      have hm9' : (m : Int) < (q.length : Int) := by omega
      have hw : IntKind.i64.wrap (m : Int) = (m : Int) := by rw [IntKind.wrap_i64]; omega
      obtain ⟨s, hs⟩ : ∃ s, s = q.getD (4 * j) ⟨#[]⟩ := ⟨_, rfl⟩
      have hgs : q[m]? = some s := by rw [hs, ← hm]; exact getD_some hm9
      obtain ⟨b2, o2, rfl, -, hqc⟩ := (HSQ.out.still (Still.of_below HBW.out)).get hgs
      have hqc : wr.cell? ⟨b2, o2 + m, none⟩ = some (.string s) := by simpa [elS] using hqc
      have HSF := hide (show selfB q j = s.toList.isEmpty by unfold selfB; rw [← hs])
      clear hs hgs hm
      have hfit := HFS.out.1 g (HMEM.out g (by simp))
      have hsz := HFS.out.2.1 g (HMEM.out g (by simp))
      have HREST := hide (fun x (hx : x ∈ rest) => HMEM.out x (by simp [hx]))
      have HJ1 := hide (show j + 1 + rest.length = l.length by have := HJ.out; simp only [List.length_cons] at this; omega)
      obtain ⟨b1, o1, rfl, -, -, -, c0, c1, c2, sv, c3, hsl⟩ := (hg.still (Still.of_below HBW.out)).head
      have HR : Hid (RQ w.heap.size (.slice (some ⟨b1, o1, none⟩) l.length lc) (.slice (some ⟨b2, o2, none⟩) q.length qc) b1 o1 j b2 o2 m g sv s wr) := ⟨HBX.out.below HBW.out, c0, c1, c2, c3, hsl, hqc⟩
      have HG := hide hg.tail
      have HAQ' := HAQ
      clear hg c0 c1 c2 c3 hsl hqc HMEM HJ
      have HV0' := HV0.out
      have HCUR := hide (show allL q 0 l = ((curOk g.up (lett j) && selfB q j) && allL q (j + 1) rest) from HV0'.symm)
      clear HV0 HV0'
      cases hv : okN g.k g.fr g.ix g.kids with
      | false =>
        have HV := hide (fun (W : World) (hs : Sl W sv g.kids) => (show Calls Tryz.prog 20 #[.agg #[.int .i64 g.k, .string g.fr, .int .i64 g.ix, sv]] W (fun e w' => e = .returned (.bool false) ∧ Below W.heap.size W w') by have := specValidBig W g.k g.ix g.fr sv g.kids hs (fun _ => by omega); rw [hv] at this; exact this))
        have HE := hide (show ok = false by rw [HOK.out, HCUR.out, show curOk g.up (lett j) = false by (show (!(hasB (peersN g.k g.fr g.ix g.kids) (lett j)) && (okN g.k g.fr g.ix g.kids && okG (unf g.up))) = false); rw [hv]; simp]; simp)
        clear hv
        (have x0 := HR.out.box.cells.1)
        (have x1 := HR.out.box.cells.2)
        (have xl := HR.out.box.lt)
        (have c0 := HR.out.c0)
        (have c1 := HR.out.c1)
        (have c2 := HR.out.c2)
        (have c3 := HR.out.c3)
        (have c4 := HR.out.qc)
        go_wp2_with (first | (go_at_call 20; (with_reducible refine (HV.out _ HR.out.sl).mono ?_); rintro e wA ⟨rfl, hbA⟩; (have HR := hide (HR.out.still hbA)); (have HBW := hide (HBW.out.trans (hbA.mono HBW.out.size))); (have x0 := HR.out.box.cells.1); (have x1 := HR.out.box.cells.2); (have xl := HR.out.box.lt); (have c0 := HR.out.c0); (have c1 := HR.out.c1); (have c2 := HR.out.c2); (have c3 := HR.out.c3); (have c4 := HR.out.qc)) | fail)
        go_ret
        exact ⟨ret_bool HE.out.symm, HHB.out.trans (HBW.out.mono HHB.out.size)⟩
      | true =>
        obtain ⟨hww, hh, hz⟩ := okG_w (g := g.up) hv
        have HV := hide (fun (W : World) (hs : Sl W sv g.kids) => (show Calls Tryz.prog 20 #[.agg #[.int .i64 g.k, .string g.fr, .int .i64 g.ix, sv]] W (fun e w' => e = .returned (.bool true) ∧ Below W.heap.size W w') by have := specValidBig W g.k g.ix g.fr sv g.kids hs (fun _ => by omega); rw [hv] at this; exact this))
        have HU := hide (fun (W : World) (hs : Sl W sv g.kids) => (show Calls Tryz.prog 21 #[.agg #[.int .i64 g.k, .string g.fr, .int .i64 g.ix, sv]] W (MadeN (unf g.up).k (unf g.up).fr (unf g.up).ix (unf g.up).kids W) from unf_calls W g.up sv hs hww hh hfit))
        obtain ⟨U, hU⟩ : ∃ U, U = unf g.up := ⟨_, rfl⟩
        cases hv2 : okG (unf g.up) with
        | false =>
          have HV2 := hide (fun (W : World) (u : Value) (hs : Sl W u (unf g.up).kids) => (show Calls Tryz.prog 20 #[.agg #[.int .i64 (unf g.up).k, .string (unf g.up).fr, .int .i64 (unf g.up).ix, u]] W (fun e w' => e = .returned (.bool false) ∧ Below W.heap.size W w') by have := specValidBig W (unf g.up).k (unf g.up).ix (unf g.up).fr u (unf g.up).kids hs (fun hv => unf_bound hww hz hv); rw [show okN _ _ _ _ = false from hv2] at this; exact this))
          have HE := hide (show ok = false by rw [HOK.out, HCUR.out, show curOk g.up (lett j) = false by (show (!(hasB (peersN g.k g.fr g.ix g.kids) (lett j)) && (okN g.k g.fr g.ix g.kids && okG (unf g.up))) = false); rw [hv2]; simp]; simp)
          rw [← hU] at HU HV2
          clear hv hv2 hww hh hz hU
          (have x0 := HR.out.box.cells.1)
          (have x1 := HR.out.box.cells.2)
          (have xl := HR.out.box.lt)
          (have c0 := HR.out.c0)
          (have c1 := HR.out.c1)
          (have c2 := HR.out.c2)
          (have c3 := HR.out.c3)
          (have c4 := HR.out.qc)
          go_wp2_with (first | (go_at_call 21; (with_reducible refine (HU.out _ HR.out.sl).mono ?_); rintro e wC ⟨u, ks, rfl, how, -, -, hbC⟩; obtain ⟨ua, uc, rfl⟩ := how.val; (have HR := hide (HR.out.still hbC)); (have HBW := hide (HBW.out.trans (hbC.mono HBW.out.size))); (have x0 := HR.out.box.cells.1); (have x1 := HR.out.box.cells.2); (have xl := HR.out.box.lt); (have c0 := HR.out.c0); (have c1 := HR.out.c1); (have c2 := HR.out.c2); (have c3 := HR.out.c3); (have c4 := HR.out.qc); (have HO := hide how.sl)) | (go_at_call 20; (with_reducible refine (HV2.out _ _ HO.out).mono ?_); rintro e wD ⟨rfl, hbD⟩; (have HR := hide (HR.out.still hbD)); (have HBW := hide (HBW.out.trans (hbD.mono HBW.out.size))); (have x0 := HR.out.box.cells.1); (have x1 := HR.out.box.cells.2); (have xl := HR.out.box.lt); (have c0 := HR.out.c0); (have c1 := HR.out.c1); (have c2 := HR.out.c2); (have c3 := HR.out.c3); (have c4 := HR.out.qc)) | (go_at_call 20; (with_reducible refine (HV.out _ HR.out.sl).mono ?_); rintro e wA ⟨rfl, hbA⟩; (have HR := hide (HR.out.still hbA)); (have HBW := hide (HBW.out.trans (hbA.mono HBW.out.size))); (have x0 := HR.out.box.cells.1); (have x1 := HR.out.box.cells.2); (have xl := HR.out.box.lt); (have c0 := HR.out.c0); (have c1 := HR.out.c1); (have c2 := HR.out.c2); (have c3 := HR.out.c3); (have c4 := HR.out.qc)) | fail)
          go_ret
          exact ⟨ret_bool HE.out.symm, HHB.out.trans (HBW.out.mono HHB.out.size)⟩
        | true =>
          have HV2 := hide (fun (W : World) (u : Value) (hs : Sl W u (unf g.up).kids) => (show Calls Tryz.prog 20 #[.agg #[.int .i64 (unf g.up).k, .string (unf g.up).fr, .int .i64 (unf g.up).ix, u]] W (fun e w' => e = .returned (.bool true) ∧ Below W.heap.size W w') by have := specValidBig W (unf g.up).k (unf g.up).ix (unf g.up).fr u (unf g.up).kids hs (fun hv => unf_bound hww hz hv); rw [show okN _ _ _ _ = true from hv2] at this; exact this))
          have HCU := hide (show curOk g.up (lett j) = !(hasB (peersN g.k g.fr g.ix g.kids) (lett j)) by (show (!(hasB (peersN g.k g.fr g.ix g.kids) (lett j)) && (okN g.k g.fr g.ix g.kids && okG (unf g.up))) = _); rw [hv, hv2]; simp)
          rw [← hU] at HU HV2
          clear hv hv2 hww hh hz hU
          cases hsf : s.toList.isEmpty with
          | false =>
            have HE := hide (show ok = false by rw [HOK.out, HCUR.out, HSF.out, hsf]; simp)
            (have x0 := HR.out.box.cells.1)
            (have x1 := HR.out.box.cells.2)
            (have xl := HR.out.box.lt)
            (have c0 := HR.out.c0)
            (have c1 := HR.out.c1)
            (have c2 := HR.out.c2)
            (have c3 := HR.out.c3)
            (have c4 := HR.out.qc)
            go_wp2_with (first | (go_at_call 21; (with_reducible refine (HU.out _ HR.out.sl).mono ?_); rintro e wC ⟨u, ks, rfl, how, -, -, hbC⟩; obtain ⟨ua, uc, rfl⟩ := how.val; (have HR := hide (HR.out.still hbC)); (have HBW := hide (HBW.out.trans (hbC.mono HBW.out.size))); (have x0 := HR.out.box.cells.1); (have x1 := HR.out.box.cells.2); (have xl := HR.out.box.lt); (have c0 := HR.out.c0); (have c1 := HR.out.c1); (have c2 := HR.out.c2); (have c3 := HR.out.c3); (have c4 := HR.out.qc); (have HO := hide how.sl)) | (go_at_call 20; (with_reducible refine (HV2.out _ _ HO.out).mono ?_); rintro e wD ⟨rfl, hbD⟩; (have HR := hide (HR.out.still hbD)); (have HBW := hide (HBW.out.trans (hbD.mono HBW.out.size))); (have x0 := HR.out.box.cells.1); (have x1 := HR.out.box.cells.2); (have xl := HR.out.box.lt); (have c0 := HR.out.c0); (have c1 := HR.out.c1); (have c2 := HR.out.c2); (have c3 := HR.out.c3); (have c4 := HR.out.qc)) | (go_at_call 20; (with_reducible refine (HV.out _ HR.out.sl).mono ?_); rintro e wA ⟨rfl, hbA⟩; (have HR := hide (HR.out.still hbA)); (have HBW := hide (HBW.out.trans (hbA.mono HBW.out.size))); (have x0 := HR.out.box.cells.1); (have x1 := HR.out.box.cells.2); (have xl := HR.out.box.lt); (have c0 := HR.out.c0); (have c1 := HR.out.c1); (have c2 := HR.out.c2); (have c3 := HR.out.c3); (have c4 := HR.out.qc)) | fail)
            go_ret
            exact ⟨ret_bool HE.out.symm, HHB.out.trans (HBW.out.mono HHB.out.size)⟩
          | true =>
            obtain ⟨c, hcc⟩ : ∃ c, c = lett j := ⟨_, rfl⟩
            obtain ⟨ps, hps⟩ : ∃ ps, ps = peersN g.k g.fr g.ix g.kids := ⟨_, rfl⟩
            obtain ⟨b, hb⟩ : ∃ b, b = hasB ps c := ⟨_, rfl⟩
            have HP := hide (fun (W : World) (hs : Sl W sv g.kids) => (show Calls Tryz.prog 23 #[.agg #[.int .i64 g.k, .string g.fr, .int .i64 g.ix, sv]] W (fun e w' => e = .returned (.string ps) ∧ Below W.heap.size W w') by have := specPeers W g.k g.ix g.fr sv g.kids hs hsz; rw [← hps] at this; exact this))
            have HL3 := hide (fun (W : World) => (show Calls Tryz.prog 24 #[.int .i64 (j : Int)] W (fun e w' => e = .returned (.string ⟨#[c]⟩) ∧ W = w') by have := specLett j hjn W; rw [← hcc] at this; exact this))
            have HC := hide (fun (W : World) => (show Calls Tryz.prog 22 #[.string ps, .string ⟨#[c]⟩] W (fun e w' => e = .returned (.bool b) ∧ W = w') by have := specContains ps c W (by rw [hps]; exact peers_small _ _ _ _); rw [← hb] at this; exact this))
            have HE := hide (show ok = ((!b && allL q (j + 1) rest) && q.all queB) by rw [HOK.out, HCUR.out, HSF.out, hsf, HCU.out, hb, hps, hcc, Bool.and_true])
            have HE2 := hide (show b = false → allL q (j + 1) rest = allL q 0 l by intro h; rw [HCUR.out, HSF.out, hsf, HCU.out, ← hps, ← hcc, ← hb, h]; rfl)
            clear hcc hps hb
            cases b with
            | true =>
              (have x0 := HR.out.box.cells.1)
              (have x1 := HR.out.box.cells.2)
              (have xl := HR.out.box.lt)
              (have c0 := HR.out.c0)
              (have c1 := HR.out.c1)
              (have c2 := HR.out.c2)
              (have c3 := HR.out.c3)
              (have c4 := HR.out.qc)
              go_wp2_with (first | (go_at_call 21; (with_reducible refine (HU.out _ HR.out.sl).mono ?_); rintro e wC ⟨u, ks, rfl, how, -, -, hbC⟩; obtain ⟨ua, uc, rfl⟩ := how.val; (have HR := hide (HR.out.still hbC)); (have HBW := hide (HBW.out.trans (hbC.mono HBW.out.size))); (have x0 := HR.out.box.cells.1); (have x1 := HR.out.box.cells.2); (have xl := HR.out.box.lt); (have c0 := HR.out.c0); (have c1 := HR.out.c1); (have c2 := HR.out.c2); (have c3 := HR.out.c3); (have c4 := HR.out.qc); (have HO := hide how.sl)) | (go_at_call 20; (with_reducible refine (HV2.out _ _ HO.out).mono ?_); rintro e wD ⟨rfl, hbD⟩; (have HR := hide (HR.out.still hbD)); (have HBW := hide (HBW.out.trans (hbD.mono HBW.out.size))); (have x0 := HR.out.box.cells.1); (have x1 := HR.out.box.cells.2); (have xl := HR.out.box.lt); (have c0 := HR.out.c0); (have c1 := HR.out.c1); (have c2 := HR.out.c2); (have c3 := HR.out.c3); (have c4 := HR.out.qc)) | (go_at_call 20; (with_reducible refine (HV.out _ HR.out.sl).mono ?_); rintro e wA ⟨rfl, hbA⟩; (have HR := hide (HR.out.still hbA)); (have HBW := hide (HBW.out.trans (hbA.mono HBW.out.size))); (have x0 := HR.out.box.cells.1); (have x1 := HR.out.box.cells.2); (have xl := HR.out.box.lt); (have c0 := HR.out.c0); (have c1 := HR.out.c1); (have c2 := HR.out.c2); (have c3 := HR.out.c3); (have c4 := HR.out.qc)) | (go_at_call 23; (with_reducible refine (HP.out _ HR.out.sl).mono ?_); rintro e wE ⟨rfl, hbE⟩; (have HR := hide (HR.out.still hbE)); (have HBW := hide (HBW.out.trans (hbE.mono HBW.out.size))); (have x0 := HR.out.box.cells.1); (have x1 := HR.out.box.cells.2); (have xl := HR.out.box.lt); (have c0 := HR.out.c0); (have c1 := HR.out.c1); (have c2 := HR.out.c2); (have c3 := HR.out.c3); (have c4 := HR.out.qc)) | (go_at_call 24; (with_reducible refine (HL3.out _).mono ?_); rintro e wF ⟨rfl, rfl⟩) | (go_at_call 22; (with_reducible refine (HC.out _).mono ?_); rintro e wG ⟨rfl, rfl⟩) | fail)
              go_ret
              exact ⟨ret_bool (by rw [HE.out]; rfl), HHB.out.trans (HBW.out.mono HHB.out.size)⟩
            | false =>
              (have x0 := HR.out.box.cells.1)
              (have x1 := HR.out.box.cells.2)
              (have xl := HR.out.box.lt)
              (have c0 := HR.out.c0)
              (have c1 := HR.out.c1)
              (have c2 := HR.out.c2)
              (have c3 := HR.out.c3)
              (have c4 := HR.out.qc)
              go_wp2_with (first | (go_at_call 21; (with_reducible refine (HU.out _ HR.out.sl).mono ?_); rintro e wC ⟨u, ks, rfl, how, -, -, hbC⟩; obtain ⟨ua, uc, rfl⟩ := how.val; (have HR := hide (HR.out.still hbC)); (have HBW := hide (HBW.out.trans (hbC.mono HBW.out.size))); (have x0 := HR.out.box.cells.1); (have x1 := HR.out.box.cells.2); (have xl := HR.out.box.lt); (have c0 := HR.out.c0); (have c1 := HR.out.c1); (have c2 := HR.out.c2); (have c3 := HR.out.c3); (have c4 := HR.out.qc); (have HO := hide how.sl)) | (go_at_call 20; (with_reducible refine (HV2.out _ _ HO.out).mono ?_); rintro e wD ⟨rfl, hbD⟩; (have HR := hide (HR.out.still hbD)); (have HBW := hide (HBW.out.trans (hbD.mono HBW.out.size))); (have x0 := HR.out.box.cells.1); (have x1 := HR.out.box.cells.2); (have xl := HR.out.box.lt); (have c0 := HR.out.c0); (have c1 := HR.out.c1); (have c2 := HR.out.c2); (have c3 := HR.out.c3); (have c4 := HR.out.qc)) | (go_at_call 20; (with_reducible refine (HV.out _ HR.out.sl).mono ?_); rintro e wA ⟨rfl, hbA⟩; (have HR := hide (HR.out.still hbA)); (have HBW := hide (HBW.out.trans (hbA.mono HBW.out.size))); (have x0 := HR.out.box.cells.1); (have x1 := HR.out.box.cells.2); (have xl := HR.out.box.lt); (have c0 := HR.out.c0); (have c1 := HR.out.c1); (have c2 := HR.out.c2); (have c3 := HR.out.c3); (have c4 := HR.out.qc)) | (go_at_call 23; (with_reducible refine (HP.out _ HR.out.sl).mono ?_); rintro e wE ⟨rfl, hbE⟩; (have HR := hide (HR.out.still hbE)); (have HBW := hide (HBW.out.trans (hbE.mono HBW.out.size))); (have x0 := HR.out.box.cells.1); (have x1 := HR.out.box.cells.2); (have xl := HR.out.box.lt); (have c0 := HR.out.c0); (have c1 := HR.out.c1); (have c2 := HR.out.c2); (have c3 := HR.out.c3); (have c4 := HR.out.qc)) | (go_at_call 24; (with_reducible refine (HL3.out _).mono ?_); rintro e wF ⟨rfl, rfl⟩) | (go_at_call 22; (with_reducible refine (HC.out _).mono ?_); rintro e wG ⟨rfl, rfl⟩) | fail)
              go_roundw
              case rel => exact ⟨rest, j + 1, HJ1.out, by go_num, HG.out, HE2.out (by first | exact trivial | rfl), HREST.out, HBW.out⟩
              case measure => simp [intOf]; omega

/-- NetworkValid of the model. -/
theorem specNetValid (w : World) (l : List Nd) (q : List ByteArray) (lv qv : Value) (hl : SlG elL w lv l) (hq : SlG elS w qv q) (hfit : AllFit l) (hsz : ∀ g, g ∈ l → g.kids.sz ≤ 1048576) (hqs : ∀ s, s ∈ q → s.size ≤ 1048576) :
    Calls Tryz.prog 11 #[.agg #[lv, qv]] w fun e w' => e = .returned (.bool (netB l q)) ∧ Below w.heap.size w w' := by
  by_cases h3 : l.length = 3
  case neg =>
    obtain ⟨la, lc, rfl, -, -⟩ := hl.at
    obtain ⟨qa, qc, rfl, -, -⟩ := hq.at
    have hB := alloc_below w (.cells #[.slice la l.length lc, .slice qa q.length qc] ( /- t -/ 30))
    have h3' : ((l.length : Int) != 3) = true := bne_iff_ne.2 (by omega)
    have HE := hide (show netB l q = false by unfold netB; rw [decide_eq_false h3, Bool.false_and])
    rw [HE.out]
    clear h3
    go_enter Tryz.func11, Tryz.ntmps11
    go_wp2_with fail
    go_ret
    exact ⟨rfl, hB⟩
  by_cases h9 : q.length = 9
  case neg =>
    obtain ⟨la, lc, rfl, -, -⟩ := hl.at
    obtain ⟨qa, qc, rfl, -, -⟩ := hq.at
    have hB := alloc_below w (.cells #[.slice la l.length lc, .slice qa q.length qc] ( /- t -/ 30))
    have h3' : ((l.length : Int) != 3) = false := by rw [h3]; rfl
    have h9' : ((q.length : Int) != 9) = true := bne_iff_ne.2 (by omega)
    have HE := hide (show netB l q = false by unfold netB; rw [decide_eq_false h9, Bool.false_and, Bool.and_false])
    rw [HE.out]
    clear h3 h9
    go_enter Tryz.func11, Tryz.ntmps11
    go_wp2_with fail
    go_ret
    exact ⟨rfl, hB⟩
  exact specNetIn w l q lv qv hl hq hfit hsz hqs h3 h9
end Go.Proofs.YtnlihdcjpeabfaaGreatDoor.Lo.Ne

/- configurationOf at any network. -/
namespace Go.Proofs.YtnlihdcjpeabfaaGreatDoor.Lo.Ne
open Go.RowKit

/-- At three local types and nine queues a network is valid just if configurationOf says so. -/
theorem netB_conf (g0 g1 g2 : Nd) (q0 q1 q2 q3 q4 q5 q6 q7 q8 : ByteArray) : netB [g0, g1, g2] [q0, q1, q2, q3, q4, q5, q6, q7, q8] = ((quB 0 q0 && (quB 1 q1 && (quB 2 q2 && (quB 3 q3 && (quB 4 q4 && (quB 5 q5 && (quB 6 q6 && (quB 7 q7 && (quB 8 q8))))))))) && (cuB g0 65 && (cuB g1 66 && cuB g2 67))) := by
  have e0 : curOk g0.up (lett 0) = cuB g0 65 := rfl
  have e1 : curOk g1.up (lett 1) = cuB g1 66 := rfl
  have e2 : curOk g2.up (lett 2) = cuB g2 67 := rfl
  have s0 : selfB [q0, q1, q2, q3, q4, q5, q6, q7, q8] 0 = q0.toList.isEmpty := rfl
  have s1 : selfB [q0, q1, q2, q3, q4, q5, q6, q7, q8] 1 = q4.toList.isEmpty := rfl
  have s2 : selfB [q0, q1, q2, q3, q4, q5, q6, q7, q8] 2 = q8.toList.isEmpty := rfl
  unfold netB
  rw [show decide ([g0, g1, g2].length = 3) = true from rfl, show decide ([q0, q1, q2, q3, q4, q5, q6, q7, q8].length = 9) = true from rfl]
  simp only [allL, e0, e1, e2, s0, s1, s2, List.all_cons, List.all_nil, Bool.true_and, Bool.and_true]
  generalize cuB g0 65 = c0
  generalize cuB g1 66 = c1
  generalize cuB g2 67 = c2
  have f0 : quB 0 q0 = (decide (q0.size ≤ 3) && (q0.toList.isEmpty && Tk.labsB q0)) := rfl
  have f1 : quB 1 q1 = (decide (q1.size ≤ 3) && Tk.labsB q1) := rfl
  have f2 : quB 2 q2 = (decide (q2.size ≤ 3) && Tk.labsB q2) := rfl
  have f3 : quB 3 q3 = (decide (q3.size ≤ 3) && Tk.labsB q3) := rfl
  have f4 : quB 4 q4 = (decide (q4.size ≤ 3) && (q4.toList.isEmpty && Tk.labsB q4)) := rfl
  have f5 : quB 5 q5 = (decide (q5.size ≤ 3) && Tk.labsB q5) := rfl
  have f6 : quB 6 q6 = (decide (q6.size ≤ 3) && Tk.labsB q6) := rfl
  have f7 : quB 7 q7 = (decide (q7.size ≤ 3) && Tk.labsB q7) := rfl
  have f8 : quB 8 q8 = (decide (q8.size ≤ 3) && (q8.toList.isEmpty && Tk.labsB q8)) := rfl
  simp only [f0, f1, f2, f3, f4, f5, f6, f7, f8, queB]
  ac_rfl

theorem rowL_fit {w : World} {b : Nat} : ∀ {l : List Nd} {o : Nat}, RowG elL w b o l → AllFit l
  | [], _, _ => fun g h => by cases h
  | x :: r, o, h => fun g hg => by
    rcases List.mem_cons.1 hg with rfl | hg
    · exact ⟨h.1.1, h.1.2.1, h.1.2.2.1⟩
    · exact rowL_fit h.2 g hg
theorem slL_fit {w : World} {v : Value} {l : List Nd} (h : SlG elL w v l) : AllFit l := by
  obtain ⟨a, cap, -, -, -, h⟩ := h
  rcases h with rfl | ⟨b, o, -, h⟩
  · intro g hg; cases hg
  · exact rowL_fit h
theorem kids_le {g : Nd} {l : List Nd} {n : Nat} (h : wtL l ≤ n) (hg : g ∈ l) : g.kids.sz ≤ n := by
  have h1 := wt_mem hg
  have h2 := F.sz_le g.kids
  unfold Nd.wt at h1
  omega
theorem strs_le {s : ByteArray} : ∀ {q : List ByteArray} {n : Nat}, wtS q ≤ n → s ∈ q → s.size ≤ n
  | x :: r, n, h, hs => by
    simp only [wtS] at h
    rcases List.mem_cons.1 hs with rfl | hs
    · omega
    · exact strs_le (by omega) hs

/-- A network's arguments read as three local types and nine queues. -/
theorem open_cf {w : World} {g0 g1 g2 : Nd} {q0 q1 q2 q3 q4 q5 q6 q7 q8 : ByteArray} {lv qv : Value} (hl : SlG elL w lv [g0, g1, g2]) (hq : SlG elS w qv [q0, q1, q2, q3, q4, q5, q6, q7, q8]) :
    ∃ (lb lo qb qo lc qc : Nat) (t0 t1 t2 : Option Addr) (k0 k1 k2 : Nat), lv = .slice (some ⟨lb, lo, none⟩) 3 lc ∧ qv = .slice (some ⟨qb, qo, none⟩) 9 qc ∧ CF lb lo qb qo g0 g1 g2 t0 t1 t2 k0 k1 k2 q0 q1 q2 q3 q4 q5 q6 q7 q8 w := by
  obtain ⟨a, lc, rfl, -, -, hr⟩ := hl
  obtain ⟨a', qc, rfl, -, -, hr'⟩ := hq
  rcases hr with hr | ⟨lb, lo, rfl, ⟨-, -, -, a0, a1, a2, v0, a3, s0⟩, ⟨-, -, -, a4, a5, a6, v1, a7, s1⟩, ⟨-, -, -, a8, a9, a10, v2, a11, s2⟩, -⟩
  · cases hr
  rcases hr' with hr' | ⟨qb, qo, rfl, ⟨-, b0⟩, ⟨-, b1⟩, ⟨-, b2⟩, ⟨-, b3⟩, ⟨-, b4⟩, ⟨-, b5⟩, ⟨-, b6⟩, ⟨-, b7⟩, ⟨-, b8⟩, -⟩
  · cases hr'
  obtain ⟨t0, k0, rfl, -⟩ := (show ∃ a c, v0 = .slice a g0.kids.len c ∧ True by obtain ⟨a, c, e, -⟩ := s0; exact ⟨a, c, e, trivial⟩)
  obtain ⟨t1, k1, rfl, -⟩ := (show ∃ a c, v1 = .slice a g1.kids.len c ∧ True by obtain ⟨a, c, e, -⟩ := s1; exact ⟨a, c, e, trivial⟩)
  obtain ⟨t2, k2, rfl, -⟩ := (show ∃ a c, v2 = .slice a g2.kids.len c ∧ True by obtain ⟨a, c, e, -⟩ := s2; exact ⟨a, c, e, trivial⟩)
  refine ⟨lb, lo, qb, qo, lc, qc, t0, t1, t2, k0, k1, k2, rfl, rfl, ⟨a0, a1, a2, a3, a4, a5, a6, a7, a8, a9, a10, a11, b0, b1, b2, b3, b4, b5, b6, b7, b8, s0, s1, s2⟩⟩

set_option maxHeartbeats 1600000 in
set_option maxRecDepth 100000 in
/-- configurationOf where there are not three local types or not nine queues. -/
theorem implConfNo (w : World) (l : List Nd) (q : List ByteArray) (lv qv : Value) (hl : SlG elL w lv l) (hq : SlG elS w qv q) (hn : ¬ (l.length = 3 ∧ q.length = 9)) :
    Calls Tryz.prog 15 #[.agg #[lv, qv]] w fun e w' => e = .returned (.tuple #[.agg #[.int .i64 0, .string ⟨#[]⟩, .int .i64 0, .slice none 0 0, .int .i64 0, .string ⟨#[]⟩, .int .i64 0, .slice none 0 0, .int .i64 0, .string ⟨#[]⟩, .int .i64 0, .slice none 0 0, .int .i64 0, .string ⟨#[]⟩, .int .i64 0, .slice none 0 0, .int .i64 0, .string ⟨#[]⟩, .int .i64 0, .slice none 0 0, .int .i64 0, .string ⟨#[]⟩, .int .i64 0, .slice none 0 0, .string ⟨#[]⟩, .string ⟨#[]⟩, .string ⟨#[]⟩, .string ⟨#[]⟩, .string ⟨#[]⟩, .string ⟨#[]⟩, .string ⟨#[]⟩, .string ⟨#[]⟩, .string ⟨#[]⟩], .bool false]) ∧ Below w.heap.size w w' := by
  obtain ⟨la, lc, rfl, -, -⟩ := hl.at
  obtain ⟨qa, qc, rfl, -, -⟩ := hq.at
  have hB := (alloc_below w (.cells #[.slice la l.length lc, .slice qa q.length qc] ( /- t -/ 30))).alloc (by simp) (.cells #[.int .i64 0, .string ⟨#[]⟩, .int .i64 0, .slice none 0 0, .int .i64 0, .string ⟨#[]⟩, .int .i64 0, .slice none 0 0, .int .i64 0, .string ⟨#[]⟩, .int .i64 0, .slice none 0 0, .int .i64 0, .string ⟨#[]⟩, .int .i64 0, .slice none 0 0, .int .i64 0, .string ⟨#[]⟩, .int .i64 0, .slice none 0 0, .int .i64 0, .string ⟨#[]⟩, .int .i64 0, .slice none 0 0, .string ⟨#[]⟩, .string ⟨#[]⟩, .string ⟨#[]⟩, .string ⟨#[]⟩, .string ⟨#[]⟩, .string ⟨#[]⟩, .string ⟨#[]⟩, .string ⟨#[]⟩, .string ⟨#[]⟩] ( /- t -/ 44))
  have HRB0 := Blk.now (w.alloc (.cells #[.slice la l.length lc, .slice qa q.length qc] ( /- t -/ 30))) #[.int .i64 0, .string ⟨#[]⟩, .int .i64 0, .slice none 0 0, .int .i64 0, .string ⟨#[]⟩, .int .i64 0, .slice none 0 0, .int .i64 0, .string ⟨#[]⟩, .int .i64 0, .slice none 0 0, .int .i64 0, .string ⟨#[]⟩, .int .i64 0, .slice none 0 0, .int .i64 0, .string ⟨#[]⟩, .int .i64 0, .slice none 0 0, .int .i64 0, .string ⟨#[]⟩, .int .i64 0, .slice none 0 0, .string ⟨#[]⟩, .string ⟨#[]⟩, .string ⟨#[]⟩, .string ⟨#[]⟩, .string ⟨#[]⟩, .string ⟨#[]⟩, .string ⟨#[]⟩, .string ⟨#[]⟩, .string ⟨#[]⟩] ( /- t -/ 44)
  rw [show (w.alloc (.cells #[.slice la l.length lc, .slice qa q.length qc] ( /- t -/ 30))).heap.size = w.heap.size + 1 from by simp] at HRB0
  have HRB := hide HRB0
  have HBL := hide hB
  clear hl hq HRB0 hB
  by_cases h3 : l.length = 3
  case neg =>
    have h3' : ((l.length : Int) != 3) = true := bne_iff_ne.2 (by omega)
    clear h3 hn
    go_enter Tryz.func15, Tryz.ntmps15
    go_wp2_with (first | (refine wpList_store_blk (b := w.heap.size + 1) (c := #[.int .i64 0, .string ⟨#[]⟩, .int .i64 0, .slice none 0 0, .int .i64 0, .string ⟨#[]⟩, .int .i64 0, .slice none 0 0, .int .i64 0, .string ⟨#[]⟩, .int .i64 0, .slice none 0 0, .int .i64 0, .string ⟨#[]⟩, .int .i64 0, .slice none 0 0, .int .i64 0, .string ⟨#[]⟩, .int .i64 0, .slice none 0 0, .int .i64 0, .string ⟨#[]⟩, .int .i64 0, .slice none 0 0, .string ⟨#[]⟩, .string ⟨#[]⟩, .string ⟨#[]⟩, .string ⟨#[]⟩, .string ⟨#[]⟩, .string ⟨#[]⟩, .string ⟨#[]⟩, .string ⟨#[]⟩, .string ⟨#[]⟩]) (c' := #[.int .i64 0, .string ⟨#[]⟩, .int .i64 0, .slice none 0 0, .int .i64 0, .string ⟨#[]⟩, .int .i64 0, .slice none 0 0, .int .i64 0, .string ⟨#[]⟩, .int .i64 0, .slice none 0 0, .int .i64 0, .string ⟨#[]⟩, .int .i64 0, .slice none 0 0, .int .i64 0, .string ⟨#[]⟩, .int .i64 0, .slice none 0 0, .int .i64 0, .string ⟨#[]⟩, .int .i64 0, .slice none 0 0, .string ⟨#[]⟩, .string ⟨#[]⟩, .string ⟨#[]⟩, .string ⟨#[]⟩, .string ⟨#[]⟩, .string ⟨#[]⟩, .string ⟨#[]⟩, .string ⟨#[]⟩, .string ⟨#[]⟩]) rfl rfl HRB.out rfl rfl (by kernel_rfl) rfl (by kernel_rfl) ?_) | fail)
    refine bodyPost_ret (v := .tuple #[.agg #[.int .i64 0, .string ⟨#[]⟩, .int .i64 0, .slice none 0 0, .int .i64 0, .string ⟨#[]⟩, .int .i64 0, .slice none 0 0, .int .i64 0, .string ⟨#[]⟩, .int .i64 0, .slice none 0 0, .int .i64 0, .string ⟨#[]⟩, .int .i64 0, .slice none 0 0, .int .i64 0, .string ⟨#[]⟩, .int .i64 0, .slice none 0 0, .int .i64 0, .string ⟨#[]⟩, .int .i64 0, .slice none 0 0, .string ⟨#[]⟩, .string ⟨#[]⟩, .string ⟨#[]⟩, .string ⟨#[]⟩, .string ⟨#[]⟩, .string ⟨#[]⟩, .string ⟨#[]⟩, .string ⟨#[]⟩, .string ⟨#[]⟩], .bool false]) (results_blk Tryz.results15 rfl (HRB.out.setRow #[.int .i64 0, .string ⟨#[]⟩, .int .i64 0, .slice none 0 0, .int .i64 0, .string ⟨#[]⟩, .int .i64 0, .slice none 0 0, .int .i64 0, .string ⟨#[]⟩, .int .i64 0, .slice none 0 0, .int .i64 0, .string ⟨#[]⟩, .int .i64 0, .slice none 0 0, .int .i64 0, .string ⟨#[]⟩, .int .i64 0, .slice none 0 0, .int .i64 0, .string ⟨#[]⟩, .int .i64 0, .slice none 0 0, .string ⟨#[]⟩, .string ⟨#[]⟩, .string ⟨#[]⟩, .string ⟨#[]⟩, .string ⟨#[]⟩, .string ⟨#[]⟩, .string ⟨#[]⟩, .string ⟨#[]⟩, .string ⟨#[]⟩]) Tryz.underlying44 rfl (by kernel_rfl)) rfl ?_
    exact ⟨rfl, below_setRow HBL.out (by omega) _⟩
  have h3' : ((l.length : Int) != 3) = false := by rw [h3]; rfl
  have h9' : ((q.length : Int) != 9) = true := bne_iff_ne.2 (by omega)
  clear hn h3
  go_enter Tryz.func15, Tryz.ntmps15
  go_wp2_with (first | (refine wpList_store_blk (b := w.heap.size + 1) (c := #[.int .i64 0, .string ⟨#[]⟩, .int .i64 0, .slice none 0 0, .int .i64 0, .string ⟨#[]⟩, .int .i64 0, .slice none 0 0, .int .i64 0, .string ⟨#[]⟩, .int .i64 0, .slice none 0 0, .int .i64 0, .string ⟨#[]⟩, .int .i64 0, .slice none 0 0, .int .i64 0, .string ⟨#[]⟩, .int .i64 0, .slice none 0 0, .int .i64 0, .string ⟨#[]⟩, .int .i64 0, .slice none 0 0, .string ⟨#[]⟩, .string ⟨#[]⟩, .string ⟨#[]⟩, .string ⟨#[]⟩, .string ⟨#[]⟩, .string ⟨#[]⟩, .string ⟨#[]⟩, .string ⟨#[]⟩, .string ⟨#[]⟩]) (c' := #[.int .i64 0, .string ⟨#[]⟩, .int .i64 0, .slice none 0 0, .int .i64 0, .string ⟨#[]⟩, .int .i64 0, .slice none 0 0, .int .i64 0, .string ⟨#[]⟩, .int .i64 0, .slice none 0 0, .int .i64 0, .string ⟨#[]⟩, .int .i64 0, .slice none 0 0, .int .i64 0, .string ⟨#[]⟩, .int .i64 0, .slice none 0 0, .int .i64 0, .string ⟨#[]⟩, .int .i64 0, .slice none 0 0, .string ⟨#[]⟩, .string ⟨#[]⟩, .string ⟨#[]⟩, .string ⟨#[]⟩, .string ⟨#[]⟩, .string ⟨#[]⟩, .string ⟨#[]⟩, .string ⟨#[]⟩, .string ⟨#[]⟩]) rfl rfl HRB.out rfl rfl (by kernel_rfl) rfl (by kernel_rfl) ?_) | fail)
  refine bodyPost_ret (v := .tuple #[.agg #[.int .i64 0, .string ⟨#[]⟩, .int .i64 0, .slice none 0 0, .int .i64 0, .string ⟨#[]⟩, .int .i64 0, .slice none 0 0, .int .i64 0, .string ⟨#[]⟩, .int .i64 0, .slice none 0 0, .int .i64 0, .string ⟨#[]⟩, .int .i64 0, .slice none 0 0, .int .i64 0, .string ⟨#[]⟩, .int .i64 0, .slice none 0 0, .int .i64 0, .string ⟨#[]⟩, .int .i64 0, .slice none 0 0, .string ⟨#[]⟩, .string ⟨#[]⟩, .string ⟨#[]⟩, .string ⟨#[]⟩, .string ⟨#[]⟩, .string ⟨#[]⟩, .string ⟨#[]⟩, .string ⟨#[]⟩, .string ⟨#[]⟩], .bool false]) (results_blk Tryz.results15 rfl (HRB.out.setRow #[.int .i64 0, .string ⟨#[]⟩, .int .i64 0, .slice none 0 0, .int .i64 0, .string ⟨#[]⟩, .int .i64 0, .slice none 0 0, .int .i64 0, .string ⟨#[]⟩, .int .i64 0, .slice none 0 0, .int .i64 0, .string ⟨#[]⟩, .int .i64 0, .slice none 0 0, .int .i64 0, .string ⟨#[]⟩, .int .i64 0, .slice none 0 0, .int .i64 0, .string ⟨#[]⟩, .int .i64 0, .slice none 0 0, .string ⟨#[]⟩, .string ⟨#[]⟩, .string ⟨#[]⟩, .string ⟨#[]⟩, .string ⟨#[]⟩, .string ⟨#[]⟩, .string ⟨#[]⟩, .string ⟨#[]⟩, .string ⟨#[]⟩]) Tryz.underlying44 rfl (by kernel_rfl)) rfl ?_
  exact ⟨rfl, below_setRow HBL.out (by omega) _⟩

end Go.Proofs.YtnlihdcjpeabfaaGreatDoor.Lo.Ne

/- NetworkFinished of both sides. -/
namespace Go.Proofs.YtnlihdcjpeabfaaGreatDoor.Lo.Ne
open Go.RowKit

section
variable {P : Program} {o : Oper} {a : Act} {Q : Exit → Act → World → Prop} {w : World} {b : Nat} {c : Array Value} {t : TypeId} {p : Operand}
/-- A block loaded whole, under a guard that holds. -/
theorem wpList_load_blkG {ops : Array Oper} {rest : List Oper} {d : TypeDesc} (hw : Region.wanted o (yielded ops a.tmps) = true) (hop : o.op = .load t p) (hb : Blk w b c) (hp : a.eval p = .pointer (some ⟨b, 0, none⟩))
    (hu : P.underlying t = some d) (hd : (match d with | .struct _ | .array _ _ => true | _ => false) = true) (hi : (P.info? t).map (·.size) = some c.size) (h : wpList P ops Q rest (a.put o.dst (.agg c)) w) : wpList P ops Q (o :: rest) a w := by
  refine wpList_step fun K' hK' => ?_
  rw [if_pos hw]
  unfold Oper.wp
  simp only [execOp, hop, hp, run_load_blk hb hu hd hi, Sem.run_bind, Sem.run_pure, Result.andThen]
  exact hK' _ _ h
end

/-- What NetworkFinished answers. -/
def nfB (l : List Nd) (q : List ByteArray) : Bool := netB l q && finB l q
theorem allL_ok {q : List ByteArray} : ∀ {l : List Nd} {j : Nat}, allL q j l = true → ∀ g, g ∈ l → okG g.up = true
  | [], _, _ => fun g h => by cases h
  | x :: r, j, h => fun g hg => by
    simp only [allL, Bool.and_eq_true] at h
    rcases List.mem_cons.1 hg with rfl | hg
    · have h1 := h.1.1
      unfold curOk unfOk at h1
      simp only [Bool.and_eq_true] at h1
      exact h1.2.1
    · exact allL_ok h.2 g hg
theorem netB_ok {l : List Nd} {q : List ByteArray} (h : netB l q = true) : l.length = 3 ∧ q.length = 9 ∧ ∀ g, g ∈ l → okG g.up = true := by
  unfold netB at h
  simp only [Bool.and_eq_true, decide_eq_true_eq] at h
  exact ⟨h.1, h.2.1, allL_ok h.2.2.1⟩
theorem l3 {α : Type} {l : List α} (h : l.length = 3) : ∃ a b c, l = [a, b, c] := by
  match l, h with
  | [a, b, c], _ => exact ⟨a, b, c, rfl⟩
theorem l9 {α : Type} {l : List α} (h : l.length = 9) : ∃ a b c d e f g i j, l = [a, b, c, d, e, f, g, i, j] := by
  match l, h with
  | [a, b, c, d, e, f, g, i, j], _ => exact ⟨a, b, c, d, e, f, g, i, j, rfl⟩

set_option maxHeartbeats 800000 in
/-- NetworkFinished of the model. -/
theorem specNF (w : World) (l : List Nd) (q : List ByteArray) (lv qv : Value) (hl : SlG elL w lv l) (hq : SlG elS w qv q) (hfit : AllFit l) (hsz : ∀ g, g ∈ l → g.kids.sz ≤ 1048576) (hqs : ∀ s, s ∈ q → s.size ≤ 1048576) :
    Calls Tryz.prog 5 #[.agg #[lv, qv]] w fun e w' => e = .returned (.bool (nfB l q)) ∧ Below w.heap.size w w' := by
  obtain ⟨la, lc, rfl, -, -⟩ := hl.at
  obtain ⟨qa, qc, rfl, -, -⟩ := hq.at
  have hb0 := alloc_below w (.cells #[.slice la l.length lc, .slice qa q.length qc] ( /- t -/ 30))
  have HP := hide (Box2.now w (.slice la l.length lc) (.slice qa q.length qc) ( /- t -/ 30))
  have HV := hide (specNetValid _ l q _ _ (hl.still (Still.of_below hb0)) (hq.still (Still.of_below hb0)) hfit hsz hqs)
  have HB := hide hb0
  have HL := hide hl
  have HQ := hide hq
  have HF := hide hfit
  clear hl hq hfit hsz hqs hb0
  cases hok : netB l q with
  | false =>
    rw [hok] at HV
    have HR := hide (show nfB l q = false by unfold nfB; rw [hok]; rfl)
    rw [HR.out]
    go_enter Tryz.func5, Tryz.ntmps5
    go_wp2_with (go_at_call 11; (with_reducible refine HV.out.mono ?_); rintro e w1 ⟨rfl, hb1⟩)
    go_ret
    exact ⟨rfl, HB.out.trans (hb1.mono HB.out.size)⟩
  | true =>
    rw [hok] at HV
    have HR := hide (show nfB l q = finB l q by unfold nfB; rw [hok]; rfl)
    have h39 := netB_ok hok
    have HN := hide (fun (W : World) (hb : Below w.heap.size w W) => specFin W l q (.slice la l.length lc) (.slice qa q.length qc) (HL.out.still (Still.of_below hb)) (HQ.out.still (Still.of_below hb)) h39.1 h39.2.1 h39.2.2 HF.out)
    rw [HR.out]
    clear hok h39
    go_enter Tryz.func5, Tryz.ntmps5
    go_wp2_with (first
      | (go_at_call 11; (with_reducible refine HV.out.mono ?_); rintro e w1 ⟨rfl, hb1⟩; (obtain ⟨p0, p1⟩ := (HP.out.below hb1).cells); (have hpl := (HP.out.below hb1).lt); (have HB1 := hide (HB.out.trans (hb1.mono HB.out.size))); clear hb1)
      | (go_at_call 12; (with_reducible refine (HN.out _ HB1.out).mono ?_); rintro e w2 ⟨rfl, hb2⟩)
      | fail)
    go_ret
    exact ⟨rfl, HB1.out.trans (hb2.mono HB1.out.size)⟩

set_option maxHeartbeats 1600000 in
set_option maxRecDepth 100000 in
theorem implNFno (w : World) (lv qv : Value) (hlv : ∃ a n c, lv = .slice a n c) (hqv : ∃ a n c, qv = .slice a n c) (hc : ∀ W, Below w.heap.size w W → Calls Tryz.prog 15 #[.agg #[lv, qv]] W (fun e w' => e = .returned (.tuple #[.agg #[.int .i64 0, .string ⟨#[]⟩, .int .i64 0, .slice none 0 0, .int .i64 0, .string ⟨#[]⟩, .int .i64 0, .slice none 0 0, .int .i64 0, .string ⟨#[]⟩, .int .i64 0, .slice none 0 0, .int .i64 0, .string ⟨#[]⟩, .int .i64 0, .slice none 0 0, .int .i64 0, .string ⟨#[]⟩, .int .i64 0, .slice none 0 0, .int .i64 0, .string ⟨#[]⟩, .int .i64 0, .slice none 0 0, .string ⟨#[]⟩, .string ⟨#[]⟩, .string ⟨#[]⟩, .string ⟨#[]⟩, .string ⟨#[]⟩, .string ⟨#[]⟩, .string ⟨#[]⟩, .string ⟨#[]⟩, .string ⟨#[]⟩], .bool false]) ∧ Below W.heap.size W w')) :
    Calls Tryz.prog 7 #[.agg #[lv, qv]] w fun e w' => e = .returned (.bool false) ∧ Below w.heap.size w w' := by
  obtain ⟨la, ln, lc, rfl⟩ := hlv
  obtain ⟨qa, qn, qc, rfl⟩ := hqv
  have hb0 := alloc_below w (.cells #[.slice la ln lc, .slice qa qn qc] ( /- t -/ 30))
  have HCT := hide (hc _ hb0)
  have HB0 := hide hb0
  clear hc hb0
  go_enter Tryz.func7, Tryz.ntmps7
  go_wp2_with (first
    | (go_at_call 15; (with_reducible refine HCT.out.mono ?_); rintro e w1 ⟨rfl, hb1⟩)
    | (refine wpList_store_blk (b := w1.heap.size) (c := #[.int .i64 0, .string ⟨#[]⟩, .int .i64 0, .slice none 0 0, .int .i64 0, .string ⟨#[]⟩, .int .i64 0, .slice none 0 0, .int .i64 0, .string ⟨#[]⟩, .int .i64 0, .slice none 0 0, .int .i64 0, .string ⟨#[]⟩, .int .i64 0, .slice none 0 0, .int .i64 0, .string ⟨#[]⟩, .int .i64 0, .slice none 0 0, .int .i64 0, .string ⟨#[]⟩, .int .i64 0, .slice none 0 0, .string ⟨#[]⟩, .string ⟨#[]⟩, .string ⟨#[]⟩, .string ⟨#[]⟩, .string ⟨#[]⟩, .string ⟨#[]⟩, .string ⟨#[]⟩, .string ⟨#[]⟩, .string ⟨#[]⟩]) (c' := #[.int .i64 0, .string ⟨#[]⟩, .int .i64 0, .slice none 0 0, .int .i64 0, .string ⟨#[]⟩, .int .i64 0, .slice none 0 0, .int .i64 0, .string ⟨#[]⟩, .int .i64 0, .slice none 0 0, .int .i64 0, .string ⟨#[]⟩, .int .i64 0, .slice none 0 0, .int .i64 0, .string ⟨#[]⟩, .int .i64 0, .slice none 0 0, .int .i64 0, .string ⟨#[]⟩, .int .i64 0, .slice none 0 0, .string ⟨#[]⟩, .string ⟨#[]⟩, .string ⟨#[]⟩, .string ⟨#[]⟩, .string ⟨#[]⟩, .string ⟨#[]⟩, .string ⟨#[]⟩, .string ⟨#[]⟩, .string ⟨#[]⟩]) rfl rfl (Blk.now w1 _ _) rfl rfl (by kernel_rfl) rfl (by kernel_rfl) ?_)
    | fail)
  go_ret
  exact ⟨rfl, below_setRow ((HB0.out.trans (hb1.mono HB0.out.size)).alloc (HB0.out.trans (hb1.mono HB0.out.size)).size _) (HB0.out.trans (hb1.mono HB0.out.size)).size _⟩

set_option maxHeartbeats 1600000 in
set_option maxRecDepth 100000 in
theorem implNFyes (w : World) (lv qv : Value) (hlv : ∃ a n c, lv = .slice a n c) (hqv : ∃ a n c, qv = .slice a n c) (g0 g1 g2 : Nd) (q0 q1 q2 q3 q4 q5 q6 q7 q8 : ByteArray)
    (hc : ∀ W, Below w.heap.size w W → Calls Tryz.prog 15 #[.agg #[lv, qv]] W (fun e w' => ∃ (t0 t1 t2 : Option Addr) (k0 k1 k2 : Nat) (u0 u1 u2 : Value) (x0 x1 x2 : Option Addr) (m0 m1 m2 n0 n1 n2 : Nat), u0 = .slice x0 m0 n0 ∧ u1 = .slice x1 m1 n1 ∧ u2 = .slice x2 m2 n2 ∧ e = .returned (.tuple #[.agg #[.int .i64 g0.k, .string g0.fr, .int .i64 g0.ix, .slice t0 g0.kids.len k0, .int .i64 g1.k, .string g1.fr, .int .i64 g1.ix, .slice t1 g1.kids.len k1, .int .i64 g2.k, .string g2.fr, .int .i64 g2.ix, .slice t2 g2.kids.len k2, .int .i64 (unf ⟨g0.k, g0.fr, g0.ix, g0.kids⟩).k, .string (unf ⟨g0.k, g0.fr, g0.ix, g0.kids⟩).fr, .int .i64 (unf ⟨g0.k, g0.fr, g0.ix, g0.kids⟩).ix, u0, .int .i64 (unf ⟨g1.k, g1.fr, g1.ix, g1.kids⟩).k, .string (unf ⟨g1.k, g1.fr, g1.ix, g1.kids⟩).fr, .int .i64 (unf ⟨g1.k, g1.fr, g1.ix, g1.kids⟩).ix, u1, .int .i64 (unf ⟨g2.k, g2.fr, g2.ix, g2.kids⟩).k, .string (unf ⟨g2.k, g2.fr, g2.ix, g2.kids⟩).fr, .int .i64 (unf ⟨g2.k, g2.fr, g2.ix, g2.kids⟩).ix, u2, .string q0, .string q1, .string q2, .string q3, .string q4, .string q5, .string q6, .string q7, .string q8], .bool true]) ∧ Below W.heap.size W w')) :
    Calls Tryz.prog 7 #[.agg #[lv, qv]] w fun e w' => e = .returned (.bool (finB [g0, g1, g2] [q0, q1, q2, q3, q4, q5, q6, q7, q8])) ∧ Below w.heap.size w w' := by
  obtain ⟨la, ln, lc, rfl⟩ := hlv
  obtain ⟨qa, qn, qc, rfl⟩ := hqv
  have hb0 := alloc_below w (.cells #[.slice la ln lc, .slice qa qn qc] ( /- t -/ 30))
  have HCT := hide (hc _ hb0)
  have HB0 := hide hb0
  obtain ⟨fb, hfb⟩ : ∃ fb, fb = finB [g0, g1, g2] [q0, q1, q2, q3, q4, q5, q6, q7, q8] := ⟨_, rfl⟩
  have HFB := hide (show fb = ((decide ((unf ⟨g0.k, g0.fr, g0.ix, g0.kids⟩).k = 1) && (decide ((unf ⟨g1.k, g1.fr, g1.ix, g1.kids⟩).k = 1) && decide ((unf ⟨g2.k, g2.fr, g2.ix, g2.kids⟩).k = 1))) && [q0, q1, q2, q3, q4, q5, q6, q7, q8].all emptyB) by rw [hfb]; unfold finB endB; simp only [List.all_cons, List.all_nil, Bool.and_true])
  rw [← hfb]
  clear hc hb0 hfb
  go_enter Tryz.func7, Tryz.ntmps7
  go_wp2_with (first
    | (go_at_call 15; (with_reducible refine HCT.out.mono ?_); rintro e w1 ⟨t0, t1, t2, k0, k1, k2, u0, u1, u2, x0, x1, x2, m0, m1, m2, n0, n1, n2, rfl, rfl, rfl, rfl, hb1⟩)
    | (refine wpList_store_blk (b := w1.heap.size) (c := #[.int .i64 0, .string ⟨#[]⟩, .int .i64 0, .slice none 0 0, .int .i64 0, .string ⟨#[]⟩, .int .i64 0, .slice none 0 0, .int .i64 0, .string ⟨#[]⟩, .int .i64 0, .slice none 0 0, .int .i64 0, .string ⟨#[]⟩, .int .i64 0, .slice none 0 0, .int .i64 0, .string ⟨#[]⟩, .int .i64 0, .slice none 0 0, .int .i64 0, .string ⟨#[]⟩, .int .i64 0, .slice none 0 0, .string ⟨#[]⟩, .string ⟨#[]⟩, .string ⟨#[]⟩, .string ⟨#[]⟩, .string ⟨#[]⟩, .string ⟨#[]⟩, .string ⟨#[]⟩, .string ⟨#[]⟩, .string ⟨#[]⟩]) (c' := #[.int .i64 g0.k, .string g0.fr, .int .i64 g0.ix, .slice t0 g0.kids.len k0, .int .i64 g1.k, .string g1.fr, .int .i64 g1.ix, .slice t1 g1.kids.len k1, .int .i64 g2.k, .string g2.fr, .int .i64 g2.ix, .slice t2 g2.kids.len k2, .int .i64 (unf ⟨g0.k, g0.fr, g0.ix, g0.kids⟩).k, .string (unf ⟨g0.k, g0.fr, g0.ix, g0.kids⟩).fr, .int .i64 (unf ⟨g0.k, g0.fr, g0.ix, g0.kids⟩).ix, .slice x0 m0 n0, .int .i64 (unf ⟨g1.k, g1.fr, g1.ix, g1.kids⟩).k, .string (unf ⟨g1.k, g1.fr, g1.ix, g1.kids⟩).fr, .int .i64 (unf ⟨g1.k, g1.fr, g1.ix, g1.kids⟩).ix, .slice x1 m1 n1, .int .i64 (unf ⟨g2.k, g2.fr, g2.ix, g2.kids⟩).k, .string (unf ⟨g2.k, g2.fr, g2.ix, g2.kids⟩).fr, .int .i64 (unf ⟨g2.k, g2.fr, g2.ix, g2.kids⟩).ix, .slice x2 m2 n2, .string q0, .string q1, .string q2, .string q3, .string q4, .string q5, .string q6, .string q7, .string q8]) rfl rfl (Blk.now w1 _ _) rfl rfl (by kernel_rfl) rfl (by kernel_rfl) ?_; (have HBK := hide ((Blk.now w1 #[.int .i64 0, .string ⟨#[]⟩, .int .i64 0, .slice none 0 0, .int .i64 0, .string ⟨#[]⟩, .int .i64 0, .slice none 0 0, .int .i64 0, .string ⟨#[]⟩, .int .i64 0, .slice none 0 0, .int .i64 0, .string ⟨#[]⟩, .int .i64 0, .slice none 0 0, .int .i64 0, .string ⟨#[]⟩, .int .i64 0, .slice none 0 0, .int .i64 0, .string ⟨#[]⟩, .int .i64 0, .slice none 0 0, .string ⟨#[]⟩, .string ⟨#[]⟩, .string ⟨#[]⟩, .string ⟨#[]⟩, .string ⟨#[]⟩, .string ⟨#[]⟩, .string ⟨#[]⟩, .string ⟨#[]⟩, .string ⟨#[]⟩] ( /- t -/ 44)).setRow #[.int .i64 g0.k, .string g0.fr, .int .i64 g0.ix, .slice t0 g0.kids.len k0, .int .i64 g1.k, .string g1.fr, .int .i64 g1.ix, .slice t1 g1.kids.len k1, .int .i64 g2.k, .string g2.fr, .int .i64 g2.ix, .slice t2 g2.kids.len k2, .int .i64 (unf ⟨g0.k, g0.fr, g0.ix, g0.kids⟩).k, .string (unf ⟨g0.k, g0.fr, g0.ix, g0.kids⟩).fr, .int .i64 (unf ⟨g0.k, g0.fr, g0.ix, g0.kids⟩).ix, .slice x0 m0 n0, .int .i64 (unf ⟨g1.k, g1.fr, g1.ix, g1.kids⟩).k, .string (unf ⟨g1.k, g1.fr, g1.ix, g1.kids⟩).fr, .int .i64 (unf ⟨g1.k, g1.fr, g1.ix, g1.kids⟩).ix, .slice x1 m1 n1, .int .i64 (unf ⟨g2.k, g2.fr, g2.ix, g2.kids⟩).k, .string (unf ⟨g2.k, g2.fr, g2.ix, g2.kids⟩).fr, .int .i64 (unf ⟨g2.k, g2.fr, g2.ix, g2.kids⟩).ix, .slice x2 m2 n2, .string q0, .string q1, .string q2, .string q3, .string q4, .string q5, .string q6, .string q7, .string q8])); (have HB2 := hide (below_setRow ((HB0.out.trans (hb1.mono HB0.out.size)).alloc (HB0.out.trans (hb1.mono HB0.out.size)).size (.cells #[.int .i64 0, .string ⟨#[]⟩, .int .i64 0, .slice none 0 0, .int .i64 0, .string ⟨#[]⟩, .int .i64 0, .slice none 0 0, .int .i64 0, .string ⟨#[]⟩, .int .i64 0, .slice none 0 0, .int .i64 0, .string ⟨#[]⟩, .int .i64 0, .slice none 0 0, .int .i64 0, .string ⟨#[]⟩, .int .i64 0, .slice none 0 0, .int .i64 0, .string ⟨#[]⟩, .int .i64 0, .slice none 0 0, .string ⟨#[]⟩, .string ⟨#[]⟩, .string ⟨#[]⟩, .string ⟨#[]⟩, .string ⟨#[]⟩, .string ⟨#[]⟩, .string ⟨#[]⟩, .string ⟨#[]⟩, .string ⟨#[]⟩] ( /- t -/ 44))) (HB0.out.trans (hb1.mono HB0.out.size)).size #[.int .i64 g0.k, .string g0.fr, .int .i64 g0.ix, .slice t0 g0.kids.len k0, .int .i64 g1.k, .string g1.fr, .int .i64 g1.ix, .slice t1 g1.kids.len k1, .int .i64 g2.k, .string g2.fr, .int .i64 g2.ix, .slice t2 g2.kids.len k2, .int .i64 (unf ⟨g0.k, g0.fr, g0.ix, g0.kids⟩).k, .string (unf ⟨g0.k, g0.fr, g0.ix, g0.kids⟩).fr, .int .i64 (unf ⟨g0.k, g0.fr, g0.ix, g0.kids⟩).ix, .slice x0 m0 n0, .int .i64 (unf ⟨g1.k, g1.fr, g1.ix, g1.kids⟩).k, .string (unf ⟨g1.k, g1.fr, g1.ix, g1.kids⟩).fr, .int .i64 (unf ⟨g1.k, g1.fr, g1.ix, g1.kids⟩).ix, .slice x1 m1 n1, .int .i64 (unf ⟨g2.k, g2.fr, g2.ix, g2.kids⟩).k, .string (unf ⟨g2.k, g2.fr, g2.ix, g2.kids⟩).fr, .int .i64 (unf ⟨g2.k, g2.fr, g2.ix, g2.kids⟩).ix, .slice x2 m2 n2, .string q0, .string q1, .string q2, .string q3, .string q4, .string q5, .string q6, .string q7, .string q8])))
    | (refine wpList_load_blkG (b := w1.heap.size) (c := #[.int .i64 g0.k, .string g0.fr, .int .i64 g0.ix, .slice t0 g0.kids.len k0, .int .i64 g1.k, .string g1.fr, .int .i64 g1.ix, .slice t1 g1.kids.len k1, .int .i64 g2.k, .string g2.fr, .int .i64 g2.ix, .slice t2 g2.kids.len k2, .int .i64 (unf ⟨g0.k, g0.fr, g0.ix, g0.kids⟩).k, .string (unf ⟨g0.k, g0.fr, g0.ix, g0.kids⟩).fr, .int .i64 (unf ⟨g0.k, g0.fr, g0.ix, g0.kids⟩).ix, .slice x0 m0 n0, .int .i64 (unf ⟨g1.k, g1.fr, g1.ix, g1.kids⟩).k, .string (unf ⟨g1.k, g1.fr, g1.ix, g1.kids⟩).fr, .int .i64 (unf ⟨g1.k, g1.fr, g1.ix, g1.kids⟩).ix, .slice x1 m1 n1, .int .i64 (unf ⟨g2.k, g2.fr, g2.ix, g2.kids⟩).k, .string (unf ⟨g2.k, g2.fr, g2.ix, g2.kids⟩).fr, .int .i64 (unf ⟨g2.k, g2.fr, g2.ix, g2.kids⟩).ix, .slice x2 m2 n2, .string q0, .string q1, .string q2, .string q3, .string q4, .string q5, .string q6, .string q7, .string q8]) (by kernel_rfl) rfl HBK.out rfl Tryz.underlying44 rfl (by kernel_rfl) ?_)
    | (go_at_call 16; (with_reducible refine (implFin _ _ _ _ _ _ _ _ _ _ _ _ _ _ _ _ _ _ _ q0 q1 q2 q3 q4 q5 q6 q7 q8 _ _ _ _ _ _ _ _ _ _ _ _ _ _ _ _ _ _).mono ?_); rw [← HFB.out]; rintro e w3 ⟨rfl, hb3⟩)
    | fail)
  go_ret
  exact ⟨rfl, HB2.out.trans (hb3.mono HB2.out.size)⟩

/-- NetworkFinished of the program. -/
theorem implNF (w : World) (l : List Nd) (q : List ByteArray) (lv qv : Value) (hl : SlG elL w lv l) (hq : SlG elS w qv q) (hqs : ∀ s, s ∈ q → s.size ≤ 1048576) :
    Calls Tryz.prog 7 #[.agg #[lv, qv]] w fun e w' => e = .returned (.bool (nfB l q)) ∧ Below w.heap.size w w' := by
  have hlv : ∃ a n c, lv = .slice a n c := by obtain ⟨a, c, e, -⟩ := hl.at; exact ⟨a, _, c, e⟩
  have hqv : ∃ a n c, qv = .slice a n c := by obtain ⟨a, c, e, -⟩ := hq.at; exact ⟨a, _, c, e⟩
  have hno : netB l q = false → nfB l q = false := fun h => by unfold nfB; rw [h]; rfl
  by_cases hn : l.length = 3 ∧ q.length = 9
  case neg =>
    rw [hno (by
      cases h : netB l q with
      | false => rfl
      | true => exact absurd ⟨(netB_ok h).1, (netB_ok h).2.1⟩ hn)]
    exact implNFno w lv qv hlv hqv (fun W hb => implConfNo W l q lv qv (hl.still (Still.of_below hb)) (hq.still (Still.of_below hb)) hn)
  · obtain ⟨g0, g1, g2, rfl⟩ := l3 hn.1
    obtain ⟨q0, q1, q2, q3, q4, q5, q6, q7, q8, rfl⟩ := l9 hn.2
    obtain ⟨lb, lo, qb, qo, lc, qc, t0, t1, t2, k0, k1, k2, rfl, rfl, hcf⟩ := open_cf hl hq
    have hs : ∀ s, s ∈ [q0, q1, q2, q3, q4, q5, q6, q7, q8] → s.size ≤ 9223372036854775807 := fun s h => Nat.le_trans (hqs s h) (by omega)
    have hc := fun (W : World) (hb : Below w.heap.size w W) => implConf W lb lo qb qo lc qc g0 g1 g2 t0 t1 t2 k0 k1 k2 q0 q1 q2 q3 q4 q5 q6 q7 q8 (hcf.still (Still.of_below hb)) _ (netB_conf g0 g1 g2 q0 q1 q2 q3 q4 q5 q6 q7 q8) (hs _ (by simp)) (hs _ (by simp)) (hs _ (by simp)) (hs _ (by simp)) (hs _ (by simp)) (hs _ (by simp)) (hs _ (by simp)) (hs _ (by simp)) (hs _ (by simp))
    cases hok : netB [g0, g1, g2] [q0, q1, q2, q3, q4, q5, q6, q7, q8] with
    | false => rw [hno hok]; exact implNFno w _ _ hlv hqv (fun W hb => (hc W hb).mono fun e w' h => ⟨h.2.1 hok, h.1⟩)
    | true =>
      rw [show nfB [g0, g1, g2] [q0, q1, q2, q3, q4, q5, q6, q7, q8] = finB [g0, g1, g2] [q0, q1, q2, q3, q4, q5, q6, q7, q8] by unfold nfB; rw [hok]; rfl]
      refine implNFyes w _ _ hlv hqv g0 g1 g2 q0 q1 q2 q3 q4 q5 q6 q7 q8 (fun W hb => (hc W hb).mono fun e w' h => ?_)
      obtain ⟨u0, u1, u2, he, h0, h1, h2⟩ := h.2.2 hok
      obtain ⟨x0, n0, e0, -⟩ := h0
      obtain ⟨x1, n1, e1, -⟩ := h1
      obtain ⟨x2, n2, e2, -⟩ := h2
      exact ⟨t0, t1, t2, k0, k1, k2, u0, u1, u2, x0, x1, x2, _, _, _, n0, n1, n2, e0, e1, e2, he, h.1⟩
end Go.Proofs.YtnlihdcjpeabfaaGreatDoor.Lo.Ne

/- szLocal. -/
namespace Go.Proofs.YtnlihdcjpeabfaaGreatDoor.Lo
open Go.RowKit

/-- The number that is left, or -1. -/
def left0 (l : Int) (n : Nat) : Int := if l < n then -1 else l - n

/-- What szLocalBranchS is for: a slice. -/
def SzS (f : F) : Prop := ∀ (w : World) (v : Value) (left : Int), Sl w v f → 0 ≤ left → left ≤ 1048576 →
  Calls Tryz.prog 31 #[v, .int .i64 left] w fun e w' => e = .returned (.int .i64 (left0 left (f.len + f.wt))) ∧ Below w.heap.size w w'

set_option maxHeartbeats 400000 in
theorem sz_node (kids : F) (hk : SzS kids) (w : World) (k ix : Int) (fr : ByteArray) (sv : Value) (left : Int) (hs : Sl w sv kids) (hl0 : 0 ≤ left) (hl1 : left ≤ 1048576)
    (hfr : fr.size ≤ maxLen) :
    Calls Tryz.prog 19 #[.agg #[.int .i64 k, .string fr, .int .i64 ix, sv], .int .i64 left] w
      fun e w' => e = .returned (.int .i64 (left0 left (fr.size + (kids.len + kids.wt)))) ∧ Below w.heap.size w w' := by
  unfold maxLen at hfr
  have HS := hide hs
  clear hs
  go_enter Tryz.func19, Tryz.ntmps19
  go_wp2_with fail
  · go_ret
    exact ⟨ret_int (by unfold left0; rw [if_pos (by omega)]), alloc_below _ _⟩
  · have h1 : 0 ≤ left - fr.size := by assumption
    refine (hk _ _ _ (HS.out.still (Still.of_below (alloc_below _ _))) h1 (by omega)).mono ?_
    rintro e w1 ⟨rfl, hb⟩
    obtain ⟨r, hr⟩ : ∃ r, r = left0 (left - fr.size) (kids.len + kids.wt) := ⟨_, rfl⟩
    have HR := hide hr
    rw [← hr]
    clear hr
    go_wp2_with fail
    · go_ret
      refine ⟨ret_int ?_, alloc_then hb⟩
      have := HR.out
      unfold left0 at *
      split at this <;> (try split) <;> omega
    · go_ret
      refine ⟨ret_int ?_, alloc_then hb⟩
      have := HR.out
      unfold left0 at *
      split at this <;> (try split) <;> omega

set_option maxHeartbeats 400000 in
theorem sz_branch (kids : F) (hk : SzS kids) (w : World) (lab : ByteArray) (k ix : Int) (fr : ByteArray) (sv : Value) (left : Int) (hs : Sl w sv kids) (hl0 : 0 ≤ left) (hl1 : left ≤ 1048576)
    (hlab : lab.size ≤ maxLen) (hfr : fr.size ≤ maxLen) :
    Calls Tryz.prog 44 #[.agg #[.string lab, .int .i64 k, .string fr, .int .i64 ix, sv], .int .i64 left] w
      fun e w' => e = .returned (.int .i64 (left0 left (lab.size + (fr.size + (kids.len + kids.wt))))) ∧ Below w.heap.size w w' := by
  have HS := hide hs
  have h2 := hide hfr
  clear hs hfr
  unfold maxLen at hlab
  go_enter Tryz.func44, Tryz.ntmps44
  go_wp2_with fail
  · go_ret
    exact ⟨ret_int (by unfold left0; rw [if_pos (by omega)]), alloc_below _ _⟩
  · have h1 : 0 ≤ left - lab.size := by assumption
    refine (sz_node kids hk _ k ix fr sv _ (HS.out.still (Still.of_below (alloc_below _ _))) h1 (by omega) h2.out).mono ?_
    rintro e w1 ⟨rfl, hb⟩
    obtain ⟨r, hr⟩ : ∃ r, r = left0 (left - lab.size) (fr.size + (kids.len + kids.wt)) := ⟨_, rfl⟩
    have HR := hide hr
    rw [← hr]
    clear hr
    go_wp2_with fail
    · go_ret
      refine ⟨ret_int ?_, alloc_then hb⟩
      have := HR.out
      unfold left0 at *
      split at this <;> (try split) <;> omega
    · go_ret
      refine ⟨ret_int ?_, alloc_then hb⟩
      have := HR.out
      unfold left0 at *
      split at this <;> (try split) <;> omega

set_option maxHeartbeats 800000 in
theorem sz_slice_lt : ∀ (n : Nat) (f : F), f.sz < n → SzS f := by
  intro n
  induction n with
  | zero => intro f hf; omega
  | succ n ih => 
    intro f hf w v left hs hl0 hl1
    obtain ⟨a, cap, rfl, hlen, hat⟩ := hs.at
    have HA := hide hat
    clear hs hat
    unfold maxLen at hlen
    go_enter Tryz.func31, Tryz.ntmps31
    go_wp2_with fail
    · have h1 : left - f.len < 0 := by assumption
      go_ret
      exact ⟨ret_int (by unfold left0; rw [if_pos (by omega)]), Below.refl _ _⟩
    · have h1 : 0 ≤ left - f.len := by assumption
      go_loopw [1, 5] (fun lv iv wr => ∃ (g : F) (k : Nat) (l : Int), k + g.len = f.len ∧ lv = .int .i64 l ∧ iv = .int .i64 k ∧ 0 ≤ l ∧ l ≤ 1048576 ∧ left0 l g.wt = left0 left (f.len + f.wt) ∧ g.sz ≤ f.sz ∧ At w a k g ∧ Below w.heap.size w wr) (fun _ iv _ => f.len - (intOf iv).toNat)
      case atStart => 
        refine ⟨f, 0, left - f.len, by omega, rfl, rfl, by omega, by omega, ?_, Nat.le_refl _, HA.out, Below.refl _ _⟩
        unfold left0
        split <;> split <;> omega
      case round =>
        obtain ⟨g, k, l, hk, rfl, rfl, h2, h3, h4, h5, h6, hb⟩ := hrel
        have H4 := hide h4
        clear h4
        cases g with
        | nil =>
          have H5 : Hid (k = f.len) := by unfold Hid; simpa [F.len] using hk
          have hge : f.len ≤ k := Nat.le_of_eq H5.out.symm
          clear hk
          go_wp2_with fail
          go_ret
          refine ⟨ret_int ?_, hb⟩
          have := H4.out
          simp only [F.wt] at this
          rw [← this]
          unfold left0
          rw [if_neg (by omega)]
          omega
        | cons lab kd fr ix kids rest =>
          have HK : Hid (k + 1 + rest.len = f.len) := by unfold Hid; simp only [F.len] at hk; omega
          have hlt : k < f.len := by have := HK.out; omega
          have hz : kids.sz < n ∧ rest.sz ≤ f.sz := by simp only [F.sz] at h5; omega
          have HZ := hide hz
          obtain ⟨b, o, rfl, l1, l2, _, _, c0, c1, c2, c3, ⟨sv, c4, hsv⟩, _⟩ := (h6.still (Still.of_below hb)).head
          have HSV := hide hsv
          have HRE := hide h6.tail
          clear hk h5 h6 hz hsv
          go_wp2_with fail
          refine (sz_branch kids (ih kids HZ.out.1) _ lab kd ix fr sv l HSV.out h2 h3 l1 l2).mono ?_
          rintro e w1 ⟨rfl, hb1⟩
          obtain ⟨r, hr⟩ : ∃ r, r = left0 l (lab.size + (fr.size + (kids.len + kids.wt))) := ⟨_, rfl⟩
          have HR := hide hr
          rw [← hr]
          clear hr
          have hb2 : Below w.heap.size w w1 := hb.trans (hb1.mono hb.size)
          go_wp2_with fail
          · go_ret
            refine ⟨ret_int ?_, hb2⟩
            have := HR.out
            have h4 := H4.out
            simp only [F.wt] at h4
            rw [← h4]
            unfold left0 at *
            split at this <;> (try split) <;> omega
          · have h7 : 0 ≤ r := by assumption
            go_roundw
            case rel =>
              refine ⟨rest, k + 1, r, by have := HK.out; omega, rfl, by go_num, h7, ?_, ?_, HZ.out.2, HRE.out, hb2⟩
              · have := HR.out
                unfold left0 at this
                split at this <;> omega
              · have := HR.out
                have h4 := H4.out
                simp only [F.wt] at h4
                rw [← h4]
                unfold left0 at *
                split at this <;> (try split) <;> (try split) <;> omega
            case measure => simp [intOf]; omega

/-- szLocal. -/
theorem sz_calls (kids : F) (w : World) (k ix : Int) (fr : ByteArray) (sv : Value) (left : Int) (hs : Sl w sv kids) (hl0 : 0 ≤ left) (hl1 : left ≤ 1048576)
    (hfr : fr.size ≤ maxLen) :
    Calls Tryz.prog 19 #[.agg #[.int .i64 k, .string fr, .int .i64 ix, sv], .int .i64 left] w
      fun e w' => e = .returned (.int .i64 (left0 left (fr.size + (kids.len + kids.wt)))) ∧ Below w.heap.size w w' :=
  sz_node kids (sz_slice_lt _ kids (Nat.lt_succ_self _)) w k ix fr sv left hs hl0 hl1 hfr

end Go.Proofs.YtnlihdcjpeabfaaGreatDoor.Lo

/- szNetwork and what it is made of. -/
namespace Go.Proofs.YtnlihdcjpeabfaaGreatDoor.Lo.Ne
open Go.RowKit

set_option maxHeartbeats 800000 in
theorem szL (l : List Nd) (w : World) (v : Value) (left : Int) (hs : SlG elL w v l) (hl0 : 0 ≤ left) (hl1 : left ≤ 1048576) :
    Calls Tryz.prog 9 #[v, .int .i64 left] w fun e w' => e = .returned (.int .i64 (left0 left (l.length + wtL l))) ∧ Below w.heap.size w w' := by
  obtain ⟨a, cap, rfl, hlen, hat⟩ := hs.at
  have HA := hide hat
  clear hs hat
  unfold maxLen at hlen
  go_enter Tryz.func9, Tryz.ntmps9
  go_wp2_with fail
  · have h1 : left - l.length < 0 := by assumption
    go_ret
    exact ⟨ret_int (by unfold left0; rw [if_pos (by omega)]), Below.refl _ _⟩
  · have h1 : 0 ≤ left - l.length := by assumption
    go_loopw [1, 5] (fun lv iv wr => ∃ (g : List Nd) (k : Nat) (m : Int), k + g.length = l.length ∧ lv = .int .i64 m ∧ iv = .int .i64 k ∧ 0 ≤ m ∧ m ≤ 1048576 ∧ left0 m (wtL g) = left0 left (l.length + wtL l) ∧ AtG elL w a k g ∧ Below w.heap.size w wr) (fun _ iv _ => l.length - (intOf iv).toNat)
    case atStart =>
      refine ⟨l, 0, left - l.length, by omega, rfl, rfl, by omega, by omega, ?_, HA.out, Below.refl _ _⟩
      unfold left0
      split <;> split <;> omega
    case round =>
      obtain ⟨g, k, m, hk, rfl, rfl, h2, h3, h4, h6, hb⟩ := hrel
      have H4 := hide h4
      clear h4
      cases g with
      | nil =>
        have H5 : Hid (k = l.length) := by unfold Hid; simpa using hk
        have hge : l.length ≤ k := Nat.le_of_eq H5.out.symm
        clear hk
        go_wp2_with fail
        go_ret
        refine ⟨ret_int ?_, hb⟩
        have := H4.out
        simp only [wtL] at this
        rw [← this]
        unfold left0
        rw [if_neg (by omega)]
        omega
      | cons n rest =>
        obtain ⟨kd, fr, ix, kids⟩ := n
        have HK : Hid (k + 1 + rest.length = l.length) := by unfold Hid; simp only [List.length_cons] at hk; omega
        have hlt : k < l.length := by have := HK.out; omega
        obtain ⟨b, o, rfl, l1, -, -, c0, c1, c2, sv, c3, hsv⟩ := AtL.head (h6.still (Still.of_below hb))
        have HSV := hide hsv
        have HRE := hide h6.tail
        clear hk h6 hsv
        go_wp2_with fail
        refine (sz_calls kids wr kd ix fr sv m HSV.out h2 h3 l1).mono ?_
        rintro e w1 ⟨rfl, hb1⟩
        obtain ⟨r, hr⟩ : ∃ r, r = left0 m (fr.size + (kids.len + kids.wt)) := ⟨_, rfl⟩
        have HR := hide hr
        rw [← hr]
        clear hr
        have hb2 : Below w.heap.size w w1 := hb.trans (hb1.mono hb.size)
        go_wp2_with fail
        · go_ret
          refine ⟨ret_int ?_, hb2⟩
          have := HR.out
          have h4 := H4.out
          simp only [wtL, Nd.wt] at h4
          rw [← h4]
          unfold left0 at *
          split at this <;> (try split) <;> omega
        · have h7 : 0 ≤ r := by assumption
          go_roundw
          case rel =>
            refine ⟨rest, k + 1, r, by have := HK.out; omega, rfl, by go_num, h7, ?_, ?_, HRE.out, hb2⟩
            · have := HR.out
              unfold left0 at this
              split at this <;> omega
            · have := HR.out
              have h4 := H4.out
              simp only [wtL, Nd.wt] at h4
              rw [← h4]
              unfold left0 at *
              split at this <;> (try split) <;> (try split) <;> omega
          case measure => simp [intOf]; omega

set_option maxHeartbeats 800000 in
theorem szS (l : List ByteArray) (w : World) (v : Value) (left : Int) (hs : SlG elS w v l) (hl0 : 0 ≤ left) (hl1 : left ≤ 1048576) :
    Calls Tryz.prog 10 #[v, .int .i64 left] w fun e w' => e = .returned (.int .i64 (left0 left (l.length + wtS l))) ∧ w' = w := by
  obtain ⟨a, cap, rfl, hlen, hat⟩ := hs.at
  have HA := hide hat
  clear hs hat
  unfold maxLen at hlen
  go_enter Tryz.func10, Tryz.ntmps10
  go_wp2_with fail
  · have h1 : left - l.length < 0 := by assumption
    go_ret
    exact ⟨ret_int (by unfold left0; rw [if_pos (by omega)]), rfl⟩
  · have h1 : 0 ≤ left - l.length := by assumption
    go_loopw [1, 5] (fun lv iv wr => ∃ (g : List ByteArray) (k : Nat) (m : Int), k + g.length = l.length ∧ lv = .int .i64 m ∧ iv = .int .i64 k ∧ 0 ≤ m ∧ m ≤ 1048576 ∧ left0 m (wtS g) = left0 left (l.length + wtS l) ∧ AtG elS w a k g ∧ wr = w) (fun _ iv _ => l.length - (intOf iv).toNat)
    case atStart =>
      refine ⟨l, 0, left - l.length, by omega, rfl, rfl, by omega, by omega, ?_, HA.out, rfl⟩
      unfold left0
      split <;> split <;> omega
    case round =>
      obtain ⟨g, k, m, hk, rfl, rfl, h2, h3, h4, h6, rfl⟩ := hrel
      have H4 := hide h4
      clear h4
      cases g with
      | nil =>
        have H5 : Hid (k = l.length) := by unfold Hid; simpa using hk
        have hge : l.length ≤ k := Nat.le_of_eq H5.out.symm
        clear hk
        go_wp2_with fail
        go_ret
        refine ⟨ret_int ?_, rfl⟩
        have := H4.out
        simp only [wtS] at this
        rw [← this]
        unfold left0
        rw [if_neg (by omega)]
        omega
      | cons s rest =>
        have HK : Hid (k + 1 + rest.length = l.length) := by unfold Hid; simp only [List.length_cons] at hk; omega
        have hlt : k < l.length := by have := HK.out; omega
        obtain ⟨b, o, rfl, l1, c0⟩ := AtS.head h6
        unfold maxLen at l1
        have HRE := hide h6.tail
        clear hk h6
        go_wp2_with fail
        · have h7 : m - s.size < 0 := by assumption
          go_ret
          refine ⟨ret_int ?_, rfl⟩
          have h4 := H4.out
          simp only [wtS] at h4
          rw [← h4]
          unfold left0 at *
          rw [if_pos (by omega)]
        · have h7 : 0 ≤ m - s.size := by assumption
          go_roundw
          case rel =>
            refine ⟨rest, k + 1, m - s.size, by have := HK.out; omega, rfl, by go_num, h7, by omega, ?_, HRE.out, by first | rfl | trivial⟩
            have h4 := H4.out
            simp only [wtS] at h4
            rw [← h4]
            unfold left0
            split <;> split <;> omega
          case measure => simp [intOf]; omega

set_option maxHeartbeats 800000 in
/-- szNetwork. -/
theorem szNet (w : World) (lv qv : Value) (l : List Nd) (q : List ByteArray) (left : Int) (hl : SlG elL w lv l) (hq : SlG elS w qv q) (hl0 : 0 ≤ left) (hl1 : left ≤ 1048576) :
    Calls Tryz.prog 4 #[.agg #[lv, qv], .int .i64 left] w fun e w' => e = .returned (.int .i64 (left0 left (l.length + wtL l + (q.length + wtS q)))) ∧ Below w.heap.size w w' := by
  obtain ⟨la, lc, rfl, -, -⟩ := hl.at
  obtain ⟨qa, qc, rfl, -, -⟩ := hq.at
  have hb0 := alloc_below w (.cells #[.slice la l.length lc, .slice qa q.length qc] ( /- t -/ 25))
  have HL := hide (hl.still (Still.of_below hb0))
  have HQ := hide (hq.still (Still.of_below hb0))
  clear hl hq
  go_enter Tryz.func4, Tryz.ntmps4
  go_wp2_with fail
  refine (szL l _ _ left HL.out hl0 hl1).mono ?_
  rintro e w1 ⟨rfl, hb⟩
  have hc1' := ((Box2.now w (.slice la l.length lc) (.slice qa q.length qc) ( /- t -/ 25)).below hb).cells.2
  have hlt : w.heap.size < w1.heap.size := World.block_lt_of_cell? _ _ hc1'
  have HQ1 := hide (HQ.out.still (Still.of_below hb))
  have hb2 := alloc_then hb
  obtain ⟨r, hr⟩ : ∃ r, r = left0 left (l.length + wtL l) := ⟨_, rfl⟩
  have HR := hide hr
  rw [← hr]
  clear hr hb hb0
  go_wp2_with fail
  · go_ret
    refine ⟨ret_int ?_, hb2⟩
    have := HR.out
    unfold left0 at *
    split at this <;> (try split) <;> omega
  · have h7 : 0 ≤ r := by assumption
    refine (szS q _ _ r HQ1.out h7 (by have := HR.out; unfold left0 at this; split at this <;> omega)).mono ?_
    rintro e w2 ⟨rfl, rfl⟩
    obtain ⟨r2, hr2⟩ : ∃ r2, r2 = left0 r (q.length + wtS q) := ⟨_, rfl⟩
    have HR2 := hide hr2
    rw [← hr2]
    clear hr2
    go_wp2_with fail
    all_goals
      go_ret
      refine ⟨ret_int ?_, hb2⟩
      have h1 := HR.out
      have h2 := HR2.out
      unfold left0 at *
      split at h1 <;> split at h2 <;> (try split) <;> omega
end Go.Proofs.YtnlihdcjpeabfaaGreatDoor.Lo.Ne

/- eqLocal: two values that read alike are equal. -/
namespace Go.Proofs.YtnlihdcjpeabfaaGreatDoor.Lo
open Go.RowKit

def EqS (f : F) : Prop := ∀ (w : World) (u v : Value), Sl w u f → Sl w v f → Calls Tryz.prog 43 #[u, v] w fun e w' => e = .returned (.bool true) ∧ Below w.heap.size w w'

set_option maxHeartbeats 400000 in
theorem eq_node (kids : F) (hk : EqS kids) (w : World) (k ix : Int) (fr : ByteArray) (su sv : Value) (hu : Sl w su kids) (hv : Sl w sv kids) :
    Calls Tryz.prog 30 #[.agg #[.int .i64 k, .string fr, .int .i64 ix, su], .agg #[.int .i64 k, .string fr, .int .i64 ix, sv]] w
      fun e w' => e = .returned (.bool true) ∧ Below w.heap.size w w' := by
  have HU := hide hu
  have HV := hide hv
  clear hu hv
  go_enter Tryz.func30, Tryz.ntmps30
  go_wp2_with fail
  have hB := (alloc_below w (.cells #[.int .i64 k, .string fr, .int .i64 ix, su] ( /- t -/ 40))).alloc (by simp) (.cells #[.int .i64 k, .string fr, .int .i64 ix, sv] ( /- t -/ 40))
  refine (hk _ _ _ (HU.out.still (Still.of_below hB)) (HV.out.still (Still.of_below hB))).mono ?_
  rintro e w1 ⟨rfl, hb⟩
  have hb2 := hB.trans (hb.mono (by simp; omega))
  clear hB hb
  go_wp2_with fail
  go_ret
  exact ⟨rfl, hb2⟩

set_option maxHeartbeats 400000 in
theorem eq_branch (kids : F) (hk : EqS kids) (w : World) (lab : ByteArray) (k ix : Int) (fr : ByteArray) (su sv : Value) (hu : Sl w su kids) (hv : Sl w sv kids) :
    Calls Tryz.prog 63 #[.agg #[.string lab, .int .i64 k, .string fr, .int .i64 ix, su], .agg #[.string lab, .int .i64 k, .string fr, .int .i64 ix, sv]] w
      fun e w' => e = .returned (.bool true) ∧ Below w.heap.size w w' := by
  have HU := hide hu
  have HV := hide hv
  clear hu hv
  go_enter Tryz.func63, Tryz.ntmps63
  go_wp2_with fail
  have hB := (alloc_below w (.cells #[.string lab, .int .i64 k, .string fr, .int .i64 ix, su] ( /- t -/ 69))).alloc (by simp) (.cells #[.string lab, .int .i64 k, .string fr, .int .i64 ix, sv] ( /- t -/ 69))
  refine (eq_node kids hk _ k ix fr _ _ (HU.out.still (Still.of_below hB)) (HV.out.still (Still.of_below hB))).mono ?_
  rintro e w1 ⟨rfl, hb⟩
  have hb2 := hB.trans (hb.mono (by simp; omega))
  clear hB hb
  go_wp2_with fail
  go_ret
  exact ⟨rfl, hb2⟩

set_option maxHeartbeats 800000 in
set_option maxRecDepth 100000 in
theorem eq_slice_lt : ∀ (n : Nat) (f : F), f.sz < n → EqS f := by
  intro n
  induction n with
  | zero => intro f hf; omega
  | succ n ih => 
    intro f hf w u v hu hv
    obtain ⟨a, cap, rfl, hlen, hat⟩ := hu.at
    obtain ⟨a', cap', rfl, _, hat'⟩ := hv.at
    have HA := hide hat
    have HA' := hide hat'
    have HF := hide hf
    clear hu hv hat hat' hf
    unfold maxLen at hlen
    go_enter Tryz.func43, Tryz.ntmps43
    go_wp2_with fail
    go_loopw [5] (fun iv wr => ∃ (g : F) (k : Nat), k + g.len = f.len ∧ iv = .int .i64 k ∧ g.sz ≤ f.sz ∧ At w a k g ∧ At w a' k g ∧ Below w.heap.size w wr) (fun iv _ => f.len - (intOf iv).toNat)
    case atStart => exact ⟨f, 0, by omega, rfl, Nat.le_refl _, HA.out, HA'.out, Below.refl _ _⟩
    case round =>
      obtain ⟨g, k, hk, rfl, h5, h6, h7, hb⟩ := hrel
      cases g with
      | nil =>
        have H5 : Hid (k = f.len) := by unfold Hid; simpa [F.len] using hk
        have hge : f.len ≤ k := Nat.le_of_eq H5.out.symm
        clear hk
        go_wp2_with fail
        go_ret
        exact ⟨rfl, hb⟩
      | cons lab kd fr ix kids rest =>
        have HK : Hid (k + 1 + rest.len = f.len) := by unfold Hid; simp only [F.len] at hk; omega
        have hlt : k < f.len := by have := HK.out; omega
        have hz : kids.sz < n ∧ rest.sz ≤ f.sz := by have := HF.out; simp only [F.sz] at h5; omega
        have HZ := hide hz
        obtain ⟨b, o, rfl, l1, l2, _, _, c0, c1, c2, c3, ⟨su, c4, hsu⟩, _⟩ := (h6.still (Still.of_below hb)).head
        obtain ⟨b', o', rfl, _, _, _, _, d0, d1, d2, d3, ⟨sv, d4, hsv⟩, _⟩ := (h7.still (Still.of_below hb)).head
        have HSU := hide hsu
        have HSV := hide hsv
        have HRE := hide h6.tail
        have HRE' := hide h7.tail
        clear hk h5 h6 h7 hz hsu hsv
        go_wp2_with fail
        go_still_tail 8, (by kernel_rfl)
        change wpList _ _ _ _ _ wr.drew
        have hbd : Below w.heap.size w wr.drew := hb.drew
        have hst : Still wr wr.drew := fun _ _ h => h
        have HSU' := hide (HSU.out.still hst)
        have HSV' := hide (HSV.out.still hst)
        clear hst
        generalize wr.drew = w2 at *
        go_wp2_with fail
        refine (eq_branch kids (ih kids HZ.out.1) _ lab kd ix fr su sv HSU'.out HSV'.out).mono ?_
        rintro e w1 ⟨rfl, hb1⟩
        have hb2 : Below w.heap.size w w1 := hbd.trans (hb1.mono hbd.size)
        go_wp2_with fail
        go_roundw
        case rel => exact ⟨rest, k + 1, by have := HK.out; omega, by go_num, HZ.out.2, HRE.out, HRE'.out, hb2⟩
        case measure => simp [intOf]; omega

/-- eqLocal at two values that read alike. -/
theorem eq_calls (kids : F) (w : World) (k ix : Int) (fr : ByteArray) (su sv : Value) (hu : Sl w su kids) (hv : Sl w sv kids) :
    Calls Tryz.prog 30 #[.agg #[.int .i64 k, .string fr, .int .i64 ix, su], .agg #[.int .i64 k, .string fr, .int .i64 ix, sv]] w
      fun e w' => e = .returned (.bool true) ∧ Below w.heap.size w w' :=
  eq_node kids (eq_slice_lt _ kids (Nat.lt_succ_self _)) w k ix fr su sv hu hv

end Go.Proofs.YtnlihdcjpeabfaaGreatDoor.Lo

/- eqNetwork and what it is made of: two values that read alike are equal. -/
namespace Go.Proofs.YtnlihdcjpeabfaaGreatDoor.Lo.Ne
open Go.RowKit

set_option maxHeartbeats 800000 in
/-- eqStringS. -/
theorem eqS (l : List ByteArray) (w : World) (u v : Value) (hu : SlG elS w u l) (hv : SlG elS w v l) :
    Calls Tryz.prog 18 #[u, v] w fun e w' => e = .returned (.bool true) ∧ Below w.heap.size w w' := by
  obtain ⟨a, cap, rfl, hlen, hat⟩ := hu.at
  obtain ⟨a', cap', rfl, _, hat'⟩ := hv.at
  have HA := hide hat
  have HA' := hide hat'
  clear hu hv hat hat'
  unfold maxLen at hlen
  go_enter Tryz.func18, Tryz.ntmps18
  go_wp2_with fail
  go_loopw [5] (fun iv wr => ∃ (g : List ByteArray) (k : Nat), k + g.length = l.length ∧ iv = .int .i64 k ∧ AtG elS w a k g ∧ AtG elS w a' k g ∧ Below w.heap.size w wr) (fun iv _ => l.length - (intOf iv).toNat)
  case atStart => exact ⟨l, 0, by omega, rfl, HA.out, HA'.out, Below.refl _ _⟩
  case round =>
    obtain ⟨g, k, hk, rfl, h6, h7, hb⟩ := hrel
    cases g with
    | nil =>
      have H5 : Hid (k = l.length) := by unfold Hid; simpa using hk
      have hge : l.length ≤ k := Nat.le_of_eq H5.out.symm
      clear hk
      go_wp2_with fail
      go_ret
      exact ⟨rfl, hb⟩
    | cons s rest =>
      have HK : Hid (k + 1 + rest.length = l.length) := by unfold Hid; simp only [List.length_cons] at hk; omega
      have hlt : k < l.length := by have := HK.out; omega
      obtain ⟨b, o, rfl, l1, c0⟩ := AtS.head (h6.still (Still.of_below hb))
      obtain ⟨b', o', rfl, -, d0⟩ := AtS.head (h7.still (Still.of_below hb))
      have HRE := hide h6.tail
      have HRE' := hide h7.tail
      clear hk h6 h7
      go_wp2_with fail
      go_quiet (fail)
      go_wp2_with fail
      go_roundw
      case rel => exact ⟨rest, k + 1, by have := HK.out; omega, by go_num, HRE.out, HRE'.out, ⟨hb.os, hb.tape, hb.output, hb.size, hb.block⟩⟩
      case measure => simp [intOf]; omega

set_option maxHeartbeats 800000 in
set_option maxRecDepth 100000 in
/-- eqLocalS. -/
theorem eqL (l : List Nd) (w : World) (u v : Value) (hu : SlG elL w u l) (hv : SlG elL w v l) :
    Calls Tryz.prog 17 #[u, v] w fun e w' => e = .returned (.bool true) ∧ Below w.heap.size w w' := by
  obtain ⟨a, cap, rfl, hlen, hat⟩ := hu.at
  obtain ⟨a', cap', rfl, _, hat'⟩ := hv.at
  have HA := hide hat
  have HA' := hide hat'
  clear hu hv hat hat'
  unfold maxLen at hlen
  go_enter Tryz.func17, Tryz.ntmps17
  go_wp2_with fail
  go_loopw [5] (fun iv wr => ∃ (g : List Nd) (k : Nat), k + g.length = l.length ∧ iv = .int .i64 k ∧ AtG elL w a k g ∧ AtG elL w a' k g ∧ Below w.heap.size w wr) (fun iv _ => l.length - (intOf iv).toNat)
  case atStart => exact ⟨l, 0, by omega, rfl, HA.out, HA'.out, Below.refl _ _⟩
  case round =>
    obtain ⟨g, k, hk, rfl, h6, h7, hb⟩ := hrel
    cases g with
    | nil =>
      have H5 : Hid (k = l.length) := by unfold Hid; simpa using hk
      have hge : l.length ≤ k := Nat.le_of_eq H5.out.symm
      clear hk
      go_wp2_with fail
      go_ret
      exact ⟨rfl, hb⟩
    | cons n rest =>
      obtain ⟨kd, fr, ix, kids⟩ := n
      have HK : Hid (k + 1 + rest.length = l.length) := by unfold Hid; simp only [List.length_cons] at hk; omega
      have hlt : k < l.length := by have := HK.out; omega
      obtain ⟨b, o, rfl, l1, -, -, c0, c1, c2, su, c3, hsu⟩ := AtL.head (h6.still (Still.of_below hb))
      obtain ⟨b', o', rfl, -, -, -, d0, d1, d2, sv, d3, hsv⟩ := AtL.head (h7.still (Still.of_below hb))
      have HSU := hide hsu
      have HSV := hide hsv
      have HRE := hide h6.tail
      have HRE' := hide h7.tail
      clear hk h6 h7 hsu hsv
      go_wp2_with fail
      go_still_tail 8, (by kernel_rfl)
      change wpList _ _ _ _ _ wr.drew
      have hbd : Below w.heap.size w wr.drew := hb.drew
      have hst : Still wr wr.drew := fun _ _ h => h
      have HSU' := hide (HSU.out.still hst)
      have HSV' := hide (HSV.out.still hst)
      clear hst
      generalize wr.drew = w2 at *
      go_wp2_with fail
      refine (eq_calls kids w2 kd ix fr su sv HSU'.out HSV'.out).mono ?_
      rintro e w1 ⟨rfl, hb1⟩
      have hb2 : Below w.heap.size w w1 := hbd.trans (hb1.mono hbd.size)
      go_wp2_with fail
      go_roundw
      case rel => exact ⟨rest, k + 1, by have := HK.out; omega, by go_num, HRE.out, HRE'.out, hb2⟩
      case measure => simp [intOf]; omega

set_option maxHeartbeats 800000 in
/-- eqNetwork at two networks that read alike. -/
theorem eqNet (w : World) (lu qu lv qv : Value) (l : List Nd) (q : List ByteArray) (hlu : SlG elL w lu l) (hqu : SlG elS w qu q) (hlv : SlG elL w lv l) (hqv : SlG elS w qv q) :
    Calls Tryz.prog 8 #[.agg #[lu, qu], .agg #[lv, qv]] w fun e w' => e = .returned (.bool true) ∧ Below w.heap.size w w' := by
  obtain ⟨la, lc, rfl, -, -⟩ := hlu.at
  obtain ⟨la', lc', rfl, -, -⟩ := hlv.at
  obtain ⟨qa, qc, rfl, -, -⟩ := hqu.at
  obtain ⟨qa', qc', rfl, -, -⟩ := hqv.at
  have hB := (alloc_below w (.cells #[.slice la l.length lc, .slice qa q.length qc] ( /- t -/ 30))).alloc (by simp) (.cells #[.slice la' l.length lc', .slice qa' q.length qc'] ( /- t -/ 30))
  have HU := hide (hlu.still (Still.of_below hB))
  have HV := hide (hlv.still (Still.of_below hB))
  have HUq := hide (hqu.still (Still.of_below hB))
  have HVq := hide (hqv.still (Still.of_below hB))
  clear hlu hqu hlv hqv
  go_enter Tryz.func8, Tryz.ntmps8
  go_wp2_with fail
  refine (eqL l _ _ _ HU.out HV.out).mono ?_
  rintro e w1 ⟨rfl, hb⟩
  have hb2 := hB.trans (hb.mono (by simp; omega))
  have hx1 := (((Box2.now w (.slice la l.length lc) (.slice qa q.length qc) ( /- t -/ 30)).below (alloc_below _ (.cells #[.slice la' l.length lc', .slice qa' q.length qc'] ( /- t -/ 30)))).below hb)
  have hx2 := ((Box2.now (w.alloc (.cells #[.slice la l.length lc, .slice qa q.length qc] ( /- t -/ 30))) (.slice la' l.length lc') (.slice qa' q.length qc') ( /- t -/ 30)).below hb)
  rw [show (w.alloc (.cells #[.slice la l.length lc, .slice qa q.length qc] ( /- t -/ 30))).heap.size = w.heap.size + 1 from by simp] at hx2
  have hl1 := hx1.lt
  have hl2 := hx2.lt
  have d1 := hx1.cells.2
  have d2 := hx2.cells.2
  have HUq1 := hide (HUq.out.still (Still.of_below hb))
  have HVq1 := hide (HVq.out.still (Still.of_below hb))
  clear hb hB hx1 hx2
  go_wp2_with fail
  refine (eqS q _ _ _ HUq1.out HVq1.out).mono ?_
  rintro e w2 ⟨rfl, hb⟩
  have hb3 := hb2.trans (hb.mono hb2.size)
  clear hb
  go_wp2_with fail
  go_ret
  exact ⟨rfl, hb3⟩
end Go.Proofs.YtnlihdcjpeabfaaGreatDoor.Lo.Ne

/- What a law's walk knows of a network argument: its box and what it reads as; of a network of the call's own. -/
namespace Go.Proofs.YtnlihdcjpeabfaaGreatDoor.Lo.Ne
open Go.RowKit

/-- A network in box b: what its slices read as. -/
structure NA (b : Nat) (lv qv : Value) (l : List Nd) (q : List ByteArray) (W : World) : Prop where
  box : Box2 W b lv qv
  sl : SlG elL W lv l
  sq : SlG elS W qv q
theorem NA.go {b : Nat} {lv qv : Value} {l : List Nd} {q : List ByteArray} {W W' : World} (h : NA b lv qv l q W) (hb : Below W.heap.size W W') : NA b lv qv l q W' :=
  ⟨h.box.below hb, h.sl.still (Still.of_below hb), h.sq.still (Still.of_below hb)⟩
theorem NA.drew {b : Nat} {lv qv : Value} {l : List Nd} {q : List ByteArray} {W : World} (h : NA b lv qv l q W) : NA b lv qv l q W.drew :=
  ⟨h.box.drew, h.sl.still (still_drew W), h.sq.still (still_drew W)⟩

/-- A network whose memory is the call's own. -/
structure NO (u v : Value) (l : List Nd) (q : List ByteArray) (bs cs : List Nat) (W : World) : Prop where
  ol : OwS W u l bs
  oq : OwG elS W v q cs
theorem NO.go {u v : Value} {l : List Nd} {q : List ByteArray} {bs cs : List Nat} {W W' : World} (h : NO u v l q bs cs W) (hb : Below W.heap.size W W') : NO u v l q bs cs W' :=
  ⟨h.ol.same (Same.of_below hb h.ol.lt), h.oq.same elS_flat (Same.of_below hb h.oq.lt)⟩
theorem NO.drew {u v : Value} {l : List Nd} {q : List ByteArray} {bs cs : List Nat} {W : World} (h : NO u v l q bs cs W) : NO u v l q bs cs W.drew :=
  ⟨h.ol.same (w' := W.drew) (Same.refl W _), h.oq.same (w' := W.drew) elS_flat (Same.refl W _)⟩
theorem NO.vals {u v : Value} {l : List Nd} {q : List ByteArray} {bs cs : List Nat} {W : World} (h : NO u v l q bs cs W) : ∃ a c a' c', u = .slice a l.length c ∧ v = .slice a' q.length c' := by
  obtain ⟨a, c, e⟩ := h.ol.val
  obtain ⟨a', c', e'⟩ := h.oq.val
  exact ⟨a, c, a', c', e, e'⟩
theorem NO.na {u v : Value} {l : List Nd} {q : List ByteArray} {bs cs : List Nat} {W : World} (h : NO u v l q bs cs W) {b : Nat} (hb : Box2 W b u v) : NA b u v l q W := ⟨hb, h.ol.sl, h.oq.sl⟩

/-- How much of its budget the law spends on a network. -/
def wtNet (l : List Nd) (q : List ByteArray) : Nat := l.length + wtL l + (q.length + wtS q)
theorem wtNet_l {l : List Nd} {q : List ByteArray} {n : Nat} (h : wtNet l q ≤ n) : l.length + wtL l ≤ n ∧ q.length ≤ n := by unfold wtNet at h; omega
end Go.Proofs.YtnlihdcjpeabfaaGreatDoor.Lo.Ne

/- The law on NetworkFinished: the walk. -/
namespace Go.Proofs.YtnlihdcjpeabfaaGreatDoor.Lo.Ne
open Go.RowKit

set_option maxHeartbeats 800000 in
theorem nf_big (w : World) (lv qv : Value) (l : List Nd) (q : List ByteArray) (h1 : SlG elL w lv l) (h2 : SlG elS w qv q) (hbig : 1048576 < wtNet l q) :
    Calls Tryz.prog 3 #[.agg #[lv, qv]] w fun e w' => e = .returned (.bool true) ∧ Below w.heap.size w w' := by
  obtain ⟨la, lc, rfl, -, -⟩ := h1.at
  obtain ⟨qa, qc, rfl, -, -⟩ := h2.at
  have hB := alloc_below w (.cells #[.slice la l.length lc, .slice qa q.length qc] ( /- t -/ 25))
  have HP := hide (h1.still (Still.of_below hB))
  have HA := hide (h2.still (Still.of_below hB))
  have HB := hide hB
  have HH := hide hbig
  clear h1 h2 hB hbig
  go_enter Tryz.func3, Tryz.ntmps3
  go_wp2_with fail
  refine (szNet _ _ _ l q 1048576 HP.out HA.out (by omega) (by omega)).mono ?_
  rintro e w1 ⟨rfl, hb⟩
  have hb1 := HB.out.trans (hb.mono HB.out.size)
  rw [show left0 1048576 (l.length + wtL l + (q.length + wtS q)) = -1 by have := HH.out; unfold wtNet at this; unfold left0; rw [if_pos (by omega)]]
  clear hb
  go_wp2_with fail
  go_ret
  exact ⟨rfl, hb1⟩

set_option maxHeartbeats 3000000 in
set_option maxRecDepth 100000 in
theorem nf_small (w : World) (lv qv : Value) (l : List Nd) (q : List ByteArray) (h1 : SlG elL w lv l) (h2 : SlG elS w qv q) (hsm : wtNet l q ≤ 1048576) :
    Calls Tryz.prog 3 #[.agg #[lv, qv]] w fun e w' => e = .returned (.bool true) ∧ Below w.heap.size w w' := by
  obtain ⟨la, lc, rfl, -, -⟩ := h1.at
  obtain ⟨qa, qc, rfl, -, -⟩ := h2.at
  have hB := alloc_below w (.cells #[.slice la l.length lc, .slice qa q.length qc] ( /- t -/ 25))
  have A : NA w.heap.size (.slice la l.length lc) (.slice qa q.length qc) l q (w.alloc (.cells #[.slice la l.length lc, .slice qa q.length qc] ( /- t -/ 25))) := ⟨Box2.now w _ _ _, h1.still (Still.of_below hB), h2.still (Still.of_below hB)⟩
  have HB := hide hB
  have HN := hide (wtNet_l hsm)
  have HH := hide hsm
  have HFIT := hide (slL_fit h1)
  have HKS := hide (fun (g : Nd) (hg : g ∈ l) => kids_le (show wtL l ≤ 1048576 by unfold wtNet at hsm; omega) hg)
  have HQS := hide (fun (s : ByteArray) (hs : s ∈ q) => strs_le (show wtS q ≤ 1048576 by unfold wtNet at hsm; omega) hs)
  obtain ⟨ok, hok⟩ : ∃ ok, ok = nfB l q := ⟨_, rfl⟩
  have HOK := hide hok
  clear h1 h2 hB hsm hok
  go_enter Tryz.func3, Tryz.ntmps3
  go_wp2_with fail
  generalize w.alloc (.cells #[.slice la l.length lc, .slice qa q.length qc] ( /- t -/ 25)) = W at *
  refine (szNet W _ _ l q 1048576 A.sl A.sq (by omega) (by omega)).mono ?_
  rintro e w1 ⟨rfl, hb⟩
  have HB := hide (HB.out.trans (hb.mono HB.out.size))
  have A := A.go hb
  obtain ⟨r, hr⟩ : ∃ r : Nat, left0 1048576 (l.length + wtL l + (q.length + wtS q)) = (r : Int) := ⟨1048576 - wtNet l q, by have := HH.out; unfold wtNet at *; unfold left0; rw [if_neg (by omega)]; omega⟩
  rw [hr]
  obtain ⟨x0, x1⟩ := A.box.cells
  have hxl := A.box.lt
  clear hr hb
  go_wp2_with fail
  refine (toNet _ _ _ l q A.sl A.sq HN.out.1 HN.out.2).mono ?_
  rintro e w2 ⟨u, v, bs, cs, rfl, ou, ov, -, -, hb⟩
  have O : NO u v l q bs cs w2 := ⟨ou, ov⟩
  obtain ⟨ua, uc, va, vc, rfl, rfl⟩ := O.vals
  have HB := hide (HB.out.trans (hb.mono HB.out.size))
  have A := A.go hb
  clear hb ou ov x0 x1 hxl
  go_wp2_with fail
  refine (specNF w2 l q _ _ O.ol.sl O.oq.sl HFIT.out HKS.out HQS.out).mono ?_
  rw [← HOK.out]
  rintro e w3 ⟨rfl, hb⟩
  have HB := hide (HB.out.trans (hb.mono HB.out.size))
  have A := A.go hb
  obtain ⟨x0, x1⟩ := A.box.cells
  have hxl := A.box.lt
  clear hb O
  go_wp2_with fail
  refine (toNet _ _ _ l q A.sl A.sq HN.out.1 HN.out.2).mono ?_
  rintro e w4 ⟨u1, v1, bs1, cs1, rfl, ou1, ov1, -, -, hb4⟩
  have O1 : NO u1 v1 l q bs1 cs1 w4 := ⟨ou1, ov1⟩
  obtain ⟨ua1, uc1, va1, vc1, rfl, rfl⟩ := O1.vals
  have hb5 : Below w4.heap.size w4 (w4.alloc (.cells #[.slice ua1 l.length uc1, .slice va1 q.length vc1] ( /- t -/ 30))) := alloc_below w4 _
  have A := (A.go hb4).go hb5
  have P1 := Box2.now w4 (.slice ua1 l.length uc1) (.slice va1 q.length vc1) ( /- t -/ 30)
  have O1 := O1.go hb5
  have hbc := HB.out.trans (hb4.mono HB.out.size)
  have HB := hide (hbc.trans (hb5.mono hbc.size))
  clear hb4 hb5 hbc ou1 ov1 x0 x1 hxl
  obtain ⟨p0, p1⟩ := P1.cells
  have hpl := P1.lt
  go_wp2_with fail
  refine (implNF _ l q _ _ O1.ol.sl O1.oq.sl HQS.out).mono ?_
  rw [← HOK.out]
  rintro e w5 ⟨rfl, hb⟩
  have A := A.go hb
  have P1 := P1.below hb
  have U1 := (O1.go hb).ol.sl
  have V1 := (O1.go hb).oq.sl
  have HB := hide (HB.out.trans (hb.mono HB.out.size))
  clear hb O1 p0 p1 hpl
  obtain ⟨p0, p1⟩ := P1.cells
  obtain ⟨x0, x1⟩ := A.box.cells
  have hpl := P1.lt
  have hxl := A.box.lt
  go_wp2_with fail
  have hbc := HB.out.drew
  have A := A.drew
  have P1 := P1.drew
  have hst := still_drew w5
  have U1 := U1.still hst
  have V1 := V1.still hst
  clear hst HB
  go_region_held3 (fun w' => w'.cell? ⟨w4.heap.size, 0, none⟩ = some (.slice ua1 l.length uc1) ∧ w'.cell? ⟨w4.heap.size, 1, none⟩ = some (.slice va1 q.length vc1) ∧ w'.cell? ⟨w.heap.size, 0, none⟩ = some (.slice la l.length lc) ∧ w'.cell? ⟨w.heap.size, 1, none⟩ = some (.slice qa q.length qc))
    (first | exact ⟨p0, p1, x0, x1⟩)
    ((first
      | (go_at_call 6; (with_reducible refine (toNet _ (.slice la l.length lc) (.slice qa q.length qc) l q ?_ ?_ HN.out.1 HN.out.2).mono ?_); (exact A.sl); (exact A.sq); rintro e wA ⟨u3, v3, bs3, cs3, rfl, ou3, ov3, -, -, hbA⟩; (have hbc := hbc.trans (hbA.mono hbc.size)); (have A := A.go hbA); (have P1 := P1.below hbA); (have U1 := U1.still (Still.of_below hbA)); (have V1 := V1.still (Still.of_below hbA)); (have U3 := ou3.sl); (have V3 := ov3.sl); (obtain ⟨p0, p1⟩ := P1.cells); (obtain ⟨x0, x1⟩ := A.box.cells))
      | (go_at_call 8; refine (eqNet _ _ _ _ _ l q U1 V1 U3 V3).mono ?_; rintro e wD ⟨rfl, hbD⟩; (have hbc := hbc.trans (hbD.mono hbc.size)); (have A := A.go hbD); (have P1 := P1.below hbD); (obtain ⟨p0, p1⟩ := P1.cells); (obtain ⟨x0, x1⟩ := A.box.cells))))
  go_wp2_with fail
  go_ret
  exact ⟨rfl, hbc⟩

/-- FnExactNetworkFinished returns true. -/
theorem nf_walk (w : World) (lv qv : Value) (l : List Nd) (q : List ByteArray) (h1 : SlG elL w lv l) (h2 : SlG elS w qv q) :
    Calls Tryz.prog 3 #[.agg #[lv, qv]] w fun e w' => e = .returned (.bool true) ∧ Below w.heap.size w w' := by
  by_cases h : wtNet l q ≤ 1048576
  · exact nf_small w lv qv l q h1 h2 h
  · exact nf_big w lv qv l q h1 h2 (by omega)
end Go.Proofs.YtnlihdcjpeabfaaGreatDoor.Lo.Ne

/- Arguments that are slices of any elements, opened. -/
namespace Go.Proofs.YtnlihdcjpeabfaaGreatDoor
open Go.ChangeShapes Go.WideShapes Go.RowKit

section
variable {H : Type} {enc : TypeId × Value → H} {W : World} {sp : Nat → Bool}

theorem add_place (a : Addr) (i : Nat) (v : Value) (h : W.cell? (a.add i) = some v) : (a.add i) = ⟨a.block, a.off + i, none⟩ := by
  obtain ⟨b, o, s⟩ := a
  by_cases hi : i = 0
  · subst hi
    simp only [Addr.add, if_pos] at h ⊢
    cases s with
    | none => rfl
    | some t =>
      exfalso
      simp only [World.cell?] at h
      split at h <;> simp at h
  · simp [Addr.add, hi]

theorem open_rows {α : Type} {E : El α} (hst : 0 < E.st) {ts te : TypeId} (hu : Tryz.prog.underlying ts = some (.slice te)) (hc : Tryz.prog.cellsOf te = E.st)
    (hel : ∀ (fuel : Nat) (cs : List Value) (x : DataW H × List MemPlace), DataW.trod enc Tryz.prog W 0 sp true fuel te cs = some x → cs.length = E.st → ∀ b o, (∀ k, k < E.st → W.cell? ⟨b, o + k, none⟩ = cs[k]?) → ∃ y, E.P W b o y)
    {fuel : Nat} {sv : Value} {x : DataW H × List MemPlace} (h : DataW.trod enc Tryz.prog W 0 sp true fuel ts [sv] = some x) : ∃ l, SlG E W sv l := by
  rcases DataW.trod_slice hu h with ⟨h0, -⟩ | ⟨a, len, cap, elems, rest, n, rfl, h0, -, -, hl, hm, hlen, hel', -, -⟩
  · simp only [List.cons.injEq, and_true] at h0
    exact ⟨[], h0 ▸ SlG.nil⟩
  · simp only [List.cons.injEq, and_true] at h0
    subst h0
    rw [hc] at hel'
    have one : ∀ i, i < len → (i = 0 → a = ⟨a.block, a.off, none⟩) ∧ ∃ y, E.P W a.block (a.off + i * E.st) y := by
      intro i hi
      have key := hel' i hi
      rw [List.getElem?_eq_getElem (by omega)] at key
      obtain ⟨cs', h1, h2⟩ := Option.bind_eq_some_iff.1 key
      obtain ⟨-, hl6, hat⟩ := World.cells?_some h1
      have a0 := hat 0 hst
      rw [List.getElem?_eq_getElem (by omega)] at a0
      have e := add_place a (i * E.st) _ (show W.cell? (a.add (i * E.st)) = some cs'[0] by simpa [Addr.add] using a0)
      refine ⟨?_, hel n cs' _ h2 hl6 _ _ (fun k hk => ?_)⟩
      · rintro rfl
        simpa [Addr.add] using e
      · have := hat k hk
        rw [e] at this
        simp only [Addr.add] at this
        split at this
        · rename_i hk0
          subst hk0
          exact this
        · exact this
    have down : ∀ j, j ≤ len → ∃ g : List α, g.length = j ∧ RowG E W a.block (a.off + (len - j) * E.st) g := by
      intro j
      induction j with
      | zero => intro _; exact ⟨[], rfl, trivial⟩
      | succ j ihj =>
        intro hj
        obtain ⟨g, hg, hr⟩ := ihj (by omega)
        obtain ⟨-, y, hy⟩ := one (len - (j + 1)) (by omega)
        refine ⟨y :: g, by simp only [List.length_cons]; omega, hy, ?_⟩
        rw [show a.off + (len - (j + 1)) * E.st + E.st = a.off + (len - j) * E.st by rw [show len - j = (len - (j + 1)) + 1 by omega, Nat.succ_mul, Nat.add_assoc]]
        exact hr
    obtain ⟨f, hf, hr⟩ := down len (Nat.le_refl _)
    refine ⟨f, some a, cap, by rw [hf], by omega, hm, ?_⟩
    cases f with
    | nil => exact Or.inl rfl
    | cons y rest' =>
      right
      simp only [List.length_cons] at hf
      obtain ⟨ha, -⟩ := one 0 (by omega)
      refine ⟨a.block, a.off, by rw [← ha rfl], ?_⟩
      simpa using hr

end
end Go.Proofs.YtnlihdcjpeabfaaGreatDoor

/- Arguments that are networks, opened. -/
namespace Go.Proofs.YtnlihdcjpeabfaaGreatDoor.Lo.Ne
open Go.ChangeShapes Go.WideShapes Go.RowKit

section
variable {H : Type} {enc : TypeId × Value → H} {W : World} {sp : Nat → Bool}

theorem Tryz.cells22 : Tryz.prog.cellsOf ( /- t -/ 22) = 1 := by kernel_rfl
theorem Tryz.cells23 : Tryz.prog.cellsOf ( /- t -/ 23) = 1 := by kernel_rfl
theorem Tryz.cells25 : Tryz.prog.cellsOf ( /- t -/ 25) = 2 := by kernel_rfl

theorem open_locals {fuel : Nat} {sv : Value} {x : DataW H × List MemPlace} (h : DataW.trod enc Tryz.prog W 0 sp true fuel ( /- t -/ 22) [sv] = some x) : ∃ l, SlG elL W sv l := by
  refine open_rows (by decide) Tryz.underlying22 (by exact Tryz.cells53) (fun fuel cs x hx hl b o hc => ?_) h
  obtain ⟨k, fr, ix, sv, n, y, -, rfl, w1, w3, w4, g⟩ := open_node hx
  obtain ⟨kids, hk⟩ := open_tree n sv y g
  exact ⟨⟨k, fr, ix, kids⟩, w1, w3, w4, hc 0 (by decide), hc 1 (by decide), hc 2 (by decide), sv, hc 3 (by decide), hk⟩
theorem open_strings {fuel : Nat} {sv : Value} {x : DataW H × List MemPlace} (h : DataW.trod enc Tryz.prog W 0 sp true fuel ( /- t -/ 23) [sv] = some x) : ∃ l, SlG elS W sv l := by
  refine open_rows (by decide) Tryz.underlying23 (by exact Tryz.cells9) (fun fuel cs x hx hl b o hc => ?_) h
  obtain ⟨s, rfl, -, w1⟩ := DataW.trod_string Tryz.underlying9 hx
  exact ⟨s, w1, hc 0 (by decide)⟩

set_option maxRecDepth 100000 in
/-- An argument of the type laws.Network. -/
theorem open_network {b0 : Nat} {v : Value} {d : DataW H} {p : List MemPlace} (hv : Value.okWide Tryz.prog W .any b0 ( /- t -/ 25) v) (h : DataW.Trod enc Tryz.prog W 0 sp true ( /- t -/ 25) v d p) :
    ∃ (lv qv : Value) (l : List Nd) (q : List ByteArray), v = .agg #[lv, qv] ∧ SlG elL W lv l ∧ SlG elS W qv q := by
  obtain ⟨cs, rfl, hsz⟩ := okWide_struct Tryz.underlying25 hv
  obtain ⟨fuel, hf⟩ := h
  obtain ⟨xs, n, rfl, -, hlen, hxl, hf⟩ := DataW.trod_struct Tryz.underlying25 hf
  rw [Tryz.cells25] at hlen
  obtain ⟨l⟩ := cs
  simp only [Value.cells] at hlen hf
  match l, hlen, xs, hxl with
  | [c0, c1], _, [x0, x1], _ =>
    have g0 : DataW.trod enc Tryz.prog W 0 sp true n ( /- t -/ 22) (([c0, c1].drop 0).take (Tryz.prog.cellsOf ( /- t -/ 22))) = some x0 := hf 0 _ rfl
    have g1 : DataW.trod enc Tryz.prog W 0 sp true n ( /- t -/ 23) (([c0, c1].drop 1).take (Tryz.prog.cellsOf ( /- t -/ 23))) = some x1 := hf 1 _ rfl
    simp only [Tryz.cells22, Tryz.cells23] at g0 g1
    obtain ⟨ll, hl⟩ := open_locals (show DataW.trod enc Tryz.prog W 0 sp true n ( /- t -/ 22) [c0] = some x0 from g0)
    obtain ⟨q, hq⟩ := open_strings (show DataW.trod enc Tryz.prog W 0 sp true n ( /- t -/ 23) [c1] = some x1 from g1)
    exact ⟨c0, c1, ll, q, rfl, hl, hq⟩
end
end Go.Proofs.YtnlihdcjpeabfaaGreatDoor.Lo.Ne

namespace Go.Proofs.YtnlihdcjpeabfaaGreatDoor
open Go.ChangeShapes Go.WideShapes Go.ChangeAt Go.RowKit

/-- The cells of a table of numbers. -/
def nflitVal {H : Type} : DataW H → Value
  | .lit (.int k n) => .int k n
  | _ => .nilIface
def nftabCells {H : Type} : DataW H → Array Value
  | .agg l => (l.map nflitVal).toArray
  | _ => #[]
def nfrelay (cs : Array Value) : Obj → Obj
  | .cells _ t frozen => .cells cs t frozen
  | o => o

/-- The cells of a table of pairs of numbers. -/
def nfpairCells {H : Type} : DataW H → Array Value
  | .agg l => (l.flatMap fun x => match x with | .agg y => y.map nflitVal | _ => []).toArray
  | _ => #[]
/-- A world that holds the five tables: the witness. -/
noncomputable def nflaidWorld (os : Os) : World :=
  { World.holding Tryz.prog os ⟨#[], #[], []⟩ with heap := (((((World.holding Tryz.prog os ⟨#[], #[], []⟩).heap.modify 3 (nfrelay (nftabCells (H := Unit) Rows.laid_internal_strconv_uint64pow10))).modify 4 (nfrelay (nftabCells (H := Unit) Rows.laid_math_bits_deBruijn32tab))).modify 5 (nfrelay (nftabCells (H := Unit) Rows.laid_math_bits_deBruijn64tab))).modify 2 (nfrelay (nfpairCells (H := Unit) Rows.laid_unicode_utf8_acceptRanges))).modify 1 (nfrelay (nftabCells (H := Unit) Rows.laid_unicode_utf8_first)) }
def nfzero : Value := .agg #[.slice none 0 0, .slice none 0 0]
theorem nflaid_met (os : Os) : laidMet Tryz.prog Rows.fnExactNetworkFinishedRow.laid ((nflaidWorld os).forCall (fun _ _ => 0) ⟨#[], #[nfzero], []⟩).memory :=
  laidMet_of_run' 200 (by kernel_rfl) (by kernel_rfl)
/-- One datum was read, and no variable. -/
def nfoneOf {H : Type} : Option (List (DataW H) × List (DataW H) × List MemPlace) → Bool
  | some ([_], [], _) => true
  | _ => false
theorem nfoneOf_some {H : Type} {x : Option (List (DataW H) × List (DataW H) × List MemPlace)} (h : nfoneOf x = true) : ∃ d places, x = some ([d], [], places) := by
  unfold nfoneOf at h
  split at h
  · exact ⟨_, _, rfl⟩
  · cases h
theorem nfreads (os : Os) {H : Type} (enc : TypeId × Value → H) : ∃ d places, DataW.whole enc Tryz.prog ((nflaidWorld os).forCall (fun _ _ => 0) ⟨#[], #[nfzero], []⟩).memory Tryz.f3.params.toList Rows.fnExactNetworkFinishedSpec.vars false #[nfzero].toList 8 = some ([d], [], places) :=
  nfoneOf_some (by kernel_rfl)

set_option maxRecDepth 100000 in
theorem nf_lifted (os : Os) (started : os.Started) (H : Type) (enc : TypeId × Value → H) (F : Stop.Interp) :
    ReturnsInHanded {} Tryz.checked os 3 .any ((OpenSpec.ofChange Rows.fnExactNetworkFinishedSpec).preRow enc Tryz.prog Tryz.f3 Rows.fnExactNetworkFinishedRow.domain false Rows.fnExactNetworkFinishedRow.laid) (((OpenSpec.ofChange Rows.fnExactNetworkFinishedSpec).at F).post enc Tryz.prog Tryz.f3 false true false false) := by
  obtain ⟨d, places, hx⟩ := nfreads os enc
  refine returnsInHanded_of_row (C := Tryz.checked) (s := OpenSpec.ofChange Rows.fnExactNetworkFinishedSpec) Tryz.own started (by kernel_rfl) Tryz.func3
    (witness_row_at (enc := enc) (C := Tryz.checked) false (nflaidWorld os) #[nfzero] rfl (by kernel_rfl) (by kernel_rfl) (by kernel_rfl)
      (OpenSpec.preRow_of_cond 8 hx (by kernel_rfl) (fun k hk => by cases hk) (by kernel_rfl) (nflaid_met os))) ?_
  intro W base args ds gs before hval0 hW hcnd _ _ hL _ _
  have hval : ∀ (j : Nat) t v, Tryz.f3.params[j]? = some t → args[j]? = some v → Value.okWide Tryz.prog W .any base t v := hval0
  have hW' := hW
  obtain ⟨p, q, hA0, hV, rfl, hfz, hnd⟩ := hW
  have hA : DataW.TrodAll enc Tryz.prog W 0 (fun _ => true) true Tryz.f3.params.toList args.toList ds p := hA0
  rw [Tryz.params3] at hA hval
  obtain ⟨v0, d0, rfl, rfl, h0⟩ := trodAll_one hA
  obtain ⟨lv, qv, l, qs, rfl, hl, hq⟩ := Lo.Ne.open_network (hval 0 ( /- t -/ 25) v0 rfl rfl) h0
  refine (Lo.Ne.nf_walk W lv qv l qs hl hq).mono fun e W' ⟨he, hb⟩ => ?_
  subst he
  exact ⟨_, rfl, law_post (s := Rows.fnExactNetworkFinishedSpec) Tryz.laidOut (by kernel_rfl) (by kernel_rfl) Tryz.underlying4 rfl (by cases gs with | nil => rfl | cons => exact hV.elim) hW' hb⟩

theorem nf_said : Rows.FnExactNetworkFinishedSaid :=
  OpenClaim.holds_of_cond 3 Tryz.f3 rfl rfl rfl rfl rfl rfl rfl ⟨rfl, rfl, rfl, rfl, rfl⟩ rfl rfl rfl rfl rfl (by kernel_rfl) Tryz.func3 (by kernel_rfl)
    (of_decide_eq_true (by kernel_rfl)) (by unfold Func.isWrapper; first | (rw [if_pos (by decide +kernel)]; kernel_rfl) | (rw [if_neg (by decide +kernel)]; exact ⟨rfl, rfl⟩))
    (fun os started H enc _ F => by rw [OpenClaim.pre_eq_preRow]; exact nf_lifted os started H enc F)

/-- No parameter wants a stand-in; the program's own looks are on. -/
theorem nf_plain (f : FuncId) (fn : Func) (hf : Tryz.pinned.checked.prog.funcNamed "loop.example/sessiontypes/laws.FnExactNetworkFinished" = some f) (hfn : Tryz.pinned.checked.prog.funcs[f]? = some fn) :
    true = Tryz.pinned.checked.prog.looks [] ∧ ∀ (j : Nat) t, fn.params[j]? = some t → Tryz.pinned.checked.prog.wantsStandIn t = false := by
  obtain rfl : f = 3 := Option.some.inj ((show Tryz.prog.funcNamed "loop.example/sessiontypes/laws.FnExactNetworkFinished" = some 3 by kernel_rfl).symm.trans hf) |>.symm
  obtain rfl : fn = Tryz.f3 := (Option.some.inj (Tryz.func3.symm.trans hfn)).symm
  refine ⟨by kernel_rfl, fun j t ht => ?_⟩
  rw [Tryz.params3] at ht
  obtain rfl : t = ( /- t -/ 25) := by simpa using Array.mem_of_getElem? ht
  exact (show Tryz.prog.wantsStandIn ( /- t -/ 25) = false by kernel_rfl)

/-- The card. -/
theorem nf_holds : Rows.FnExactNetworkFinishedCardSaid :=
  Claim7.holds_tied_plain_at .later [] _ _ _ _ nf_said (fun _ h => by cases h) (by kernel_rfl) (fun _ h => by cases h) fnExactNetworkFinished_row_tie rfl ⟨rfl, rfl⟩ (by kernel_rfl) rfl nf_plain (by kernel_rfl)

#print axioms nf_holds
end Go.Proofs.YtnlihdcjpeabfaaGreatDoor
