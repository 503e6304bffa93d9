/- Mt, LMk, LHe -/
import Derived.Test.YtbonmdkfmgahbaaGreatDoorRows
import Derived.Test.YtbonmdkfmgahbaaGreatDoorTree
import Derived.WalkKit
import Derived.WalkSpells
import Derived.WalkLawsBesides
import Derived.Test.YtbonmdkfmgahbaaGreatDoorLTree
import Derived.Deep.RegionHeld3
/- markText of the laws. -/
namespace Go.Proofs.YtbonmdkfmgahbaaGreatDoor
open Go.RowKit

/-- The last digit's byte. -/
def dgB (k : Nat) : UInt8 := UInt8.ofNat (48 + k % 10)
theorem dgB_toNat (k : Nat) : (dgB k).toNat = 48 + k % 10 := by
  unfold dgB
  rw [UInt8.toNat_ofNat']
  omega
theorem ba_cons (x : UInt8) (l : List UInt8) : ((⟨#[x]⟩ : ByteArray) ++ ⟨l.toArray⟩) = ⟨(x :: l).toArray⟩ := by
  apply ByteArray.ext
  simp
def mtLoop : Nat → Nat → List UInt8 → List UInt8
  | 0, _, acc => acc
  | n + 1, k, acc => if k = 0 then acc else mtLoop n (k / 10) (dgB k :: acc)
/-- The text of a mark. -/
def MT (k : Nat) : ByteArray := ⟨(109 :: mtLoop k k []).toArray⟩

/-- One byte in a box, made into a string. -/
theorem conv_one (w : World) (c : UInt8) (n : Int) (hn : n = (c.toNat : Int)) (cap : Nat) (a : Addr) (hc : w.cell? a = some (.int .u8 n)) :
    (convert ( /- t -/ 96) ( /- t -/ 9) (.slice (some a) 1 cap)).run Tryz.prog w = .ok (.string ⟨#[c]⟩) w := by
  have h := run_convert_bytes_back (P := Tryz.prog) w ( /- t -/ 96) ( /- t -/ 9) ( /- t -/ 5) a cap [c] Tryz.underlying96 Tryz.underlying5 Tryz.underlying9
  refine h (fun j hj => ?_)
  have hj0 : j = 0 := by simp at hj; exact hj
  subst hj0
  rw [hn] at hc
  exact hc

theorem mtLoop_done (acc : List UInt8) : ∀ n, mtLoop n 0 acc = acc
  | 0 => rfl
  | n + 1 => by simp [mtLoop]

set_option maxHeartbeats 800000 in
set_option maxRecDepth 100000 in
theorem mt_calls (k : Nat) (hk : 1 ≤ k) (hk2 : k ≤ 16777216) (w : World) : Calls Tryz.prog 44 #[.int .i64 (k : Int)] w fun e w' => e = .returned (.string (MT k)) ∧ Below w.heap.size w w' := by
  go_enter Tryz.func44, Tryz.ntmps44
  go_wp2_with fail
  go_loopw [0, 3] (fun kv ov wr => ∃ (kk n : Nat) (acc : List UInt8), kv = .int .i64 kk ∧ ov = .string ⟨acc.toArray⟩ ∧ kk ≤ n ∧ kk ≤ k ∧ acc.length + n ≤ k ∧ mtLoop n kk acc = mtLoop k k [] ∧ Below w.heap.size w wr) (fun kv _ _ => (intOf kv).toNat)
  case atStart => exact ⟨k, k, [], rfl, rfl, Nat.le_refl _, Nat.le_refl _, by simp, rfl, Below.refl _ _⟩
  case round =>
    obtain ⟨kk, n, acc, rfl, rfl, h1, h2, h3, h4, hb⟩ := hrel
    have H4 := hide h4
    clear h4
    by_cases hz : 0 < kk
    · have hcv : (convert ( /- t -/ 96) ( /- t -/ 9) (.slice (some ⟨wr.heap.size, 0, none⟩) 1 1)).run Tryz.prog (wr.alloc (.cells #[.int .u8 (48 + (kk : Int) % 10)] ( /- t -/ 5))) =
          .ok (.string ⟨#[dgB kk]⟩) (wr.alloc (.cells #[.int .u8 (48 + (kk : Int) % 10)] ( /- t -/ 5))) := by
        refine conv_one _ (dgB kk) (48 + (kk : Int) % 10) ?_ 1 _ ?_
        · rw [dgB_toNat]
          omega
        · go_simp
      go_wp2_with fail
      rw [ba_cons]
      cases n with
      | zero => omega
      | succ n =>
        refine ⟨⟨kk / 10, n, dgB kk :: acc, by go_num, rfl, by omega, by omega, by simp only [List.length_cons]; omega, ?_, hb.alloc hb.size _⟩, by simp [intOf]; omega⟩
        rw [← H4.out, mtLoop, if_neg (by omega)]
    · have h0 : kk = 0 := by omega
      subst h0
      go_wp2_with fail
      go_ret
      have := H4.out
      rw [mtLoop_done] at this
      refine ⟨?_, hb⟩
      show Ending.returned (.string (⟨#[109]⟩ ++ ⟨acc.toArray⟩)) = _
      unfold MT
      rw [← this, ba_cons]
theorem MT_size (k : Nat) (hk : k ≤ 16777216) : (MT k).size ≤ maxLen := by
  have h : ∀ n kk acc, (mtLoop n kk acc).length ≤ acc.length + n := by
    intro n
    induction n with
    | zero => intro kk acc; simp [mtLoop]
    | succ n ih =>
      intro kk acc
      unfold mtLoop
      split
      · omega
      · have := ih (kk / 10) (dgB kk :: acc)
        simp only [List.length_cons] at this
        omega
  have h2 := h k k []
  have h3 : (MT k).size = (mtLoop k k []).length + 1 := by
    unfold MT
    show (List.toArray (109 :: mtLoop k k [])).size = _
    simp
  rw [h3]
  unfold maxLen
  simp only [List.length_nil] at h2
  omega
end Go.Proofs.YtbonmdkfmgahbaaGreatDoor

/- markLocal: every place below the root is written, each with a mark of its own. -/
namespace Go.Proofs.YtbonmdkfmgahbaaGreatDoor.Lo
open Go.RowKit

/-- But for the blocks named, what was there is as it was. -/
structure Wr (bs : List Nat) (w w' : World) : Prop where
  os : w'.os = w.os
  tape : w'.tape = w.tape
  output : w'.output = w.output
  size : w.heap.size ≤ w'.heap.size
  block : ∀ k, k < w.heap.size → k ∉ bs → w'.heap[k]? = w.heap[k]?

theorem Wr.refl (bs : List Nat) (w : World) : Wr bs w w := ⟨rfl, rfl, rfl, Nat.le_refl _, fun _ _ _ => rfl⟩
theorem Wr.trans {bs : List Nat} {a b c : World} (h : Wr bs a b) (k : Wr bs b c) : Wr bs a c :=
  ⟨k.os.trans h.os, k.tape.trans h.tape, k.output.trans h.output, Nat.le_trans h.size k.size, fun i hi hc => (k.block i (Nat.lt_of_lt_of_le hi h.size) hc).trans (h.block i hi hc)⟩
theorem Wr.mono {bs cs : List Nat} {a b : World} (h : Wr bs a b) (hs : ∀ x, x ∈ bs → x ∈ cs) : Wr cs a b :=
  ⟨h.os, h.tape, h.output, h.size, fun i hi hc => h.block i hi (fun hm => hc (hs i hm))⟩
theorem Wr.of_below {bs : List Nat} {a b : World} (k : Below a.heap.size a b) : Wr bs a b := ⟨k.os, k.tape, k.output, k.size, fun i hi _ => k.block i hi⟩
theorem Wr.setCell {bs : List Nat} {a b : World} (h : Wr bs a b) {p : Addr} (hp : p.block ∈ bs) (u : Value) : Wr bs a (b.setCell p u) :=
  ⟨h.os, h.tape, h.output, by simpa using h.size, fun i hi hc => (Below.heap_setCell _ _ _ _ (by rintro rfl; exact hc hp)).trans (h.block i hi hc)⟩
theorem Wr.to_below {bs : List Nat} {B : Nat} {a b : World} (h : Wr bs a b) (hB : ∀ x, x ∈ bs → B ≤ x) (hs : B ≤ a.heap.size) : Below B a b :=
  ⟨h.os, h.tape, h.output, h.size, fun k hk => h.block k (by omega) (fun hm => by have := hB k hm; omega)⟩

/-- The list with a mark at every place, from k on. -/
def mkF : F → Nat → F
  | .nil, _ => .nil
  | .cons _ _ _ _ kids rest, k => .cons (MT k) (((k + 1 : Nat) : Int)) (MT (k + 2)) (((k + 3 : Nat) : Int)) (mkF kids (k + 4)) (mkF rest (k + 4 + 4 * kids.sz))

theorem mkF_len : ∀ (f : F) (k : Nat), (mkF f k).len = f.len
  | .nil, _ => rfl
  | .cons _ _ _ _ kids rest, k => by simp only [mkF, F.len, mkF_len rest]
theorem mkF_app (g : F) : ∀ (f : F) (k : Nat), mkF (f.app g) k = (mkF f k).app (mkF g (k + 4 * f.sz))
  | .nil, k => by simp [F.app, mkF, F.sz]
  | .cons _ _ _ _ kids rest, k => by
    simp only [F.app, mkF, mkF_app g rest, F.sz]
    rw [show k + 4 + 4 * kids.sz + 4 * rest.sz = k + 4 * (kids.sz + rest.sz + 1) by omega]
theorem mkF_nil {f : F} (k : Nat) (h : mkF f k = .nil) : f = .nil := by
  cases f with
  | nil => rfl
  | cons => simp [mkF] at h

theorem OwRow.split {w : World} : ∀ (f g : F) (b o : Nat) (bs : List Nat), OwRow w b o (f.app g) bs → ∃ b1 b2, bs = b1 ++ b2 ∧ OwRow w b o f b1 ∧ OwRow w b (o + 5 * f.len) g b2 := by
  intro f
  induction f with
  | nil => intro g b o bs h; exact ⟨[], bs, rfl, rfl, by simpa [F.app, F.len] using h⟩
  | cons lab k fr ix kids rest ihk ihr =>
    intro g b o bs hr
    obtain ⟨h2, h3, h5, h6, c0, c1, c2, c3, ks, rs, rfl, hs, hrest⟩ := hr
    obtain ⟨b1, b2, rfl, q1, q2⟩ := ihr _ _ _ _ hrest
    exact ⟨ks ++ b1, b2, by rw [List.append_assoc], ⟨h2, h3, h5, h6, c0, c1, c2, c3, ks, b1, rfl, hs, q1⟩, by simp only [F.len]; rw [show o + 5 * (rest.len + 1) = o + 5 + 5 * rest.len by omega]; exact q2⟩

theorem Free.lt_cell {w : World} {b n o : Nat} {v : Value} (h : Free w b n) (hc : w.cell? ⟨b, o, none⟩ = some v) : o < n := by
  obtain ⟨cs, t, hh, hn⟩ := h
  rw [cell_of_heap hh] at hc
  have := (Array.getElem?_eq_some_iff.1 hc).1
  omega

/-- The four marks of one branch: the world ahead of the branches below it. -/
theorem mark_mid {wr w1 w2 : World} {b n o : Nat} {s0 s1 s2 s3 v4 : Value} (hf : Free wr b n) (h4 : wr.cell? ⟨b, o + 4, none⟩ = some v4)
    (hb1 : Below wr.heap.size wr w1) (hb2 : Below (((w1.setCell ⟨b, o, none⟩ s0).setCell ⟨b, o + 1, none⟩ s1)).heap.size ((w1.setCell ⟨b, o, none⟩ s0).setCell ⟨b, o + 1, none⟩ s1) w2) :
    Wr [b] wr ((w2.setCell ⟨b, o + 2, none⟩ s2).setCell ⟨b, o + 3, none⟩ s3) ∧ Free ((w2.setCell ⟨b, o + 2, none⟩ s2).setCell ⟨b, o + 3, none⟩ s3) b n ∧
    (∀ off, off < o ∨ o + 4 ≤ off → ((w2.setCell ⟨b, o + 2, none⟩ s2).setCell ⟨b, o + 3, none⟩ s3).cell? ⟨b, off, none⟩ = wr.cell? ⟨b, off, none⟩) ∧
    ((w2.setCell ⟨b, o + 2, none⟩ s2).setCell ⟨b, o + 3, none⟩ s3).cell? ⟨b, o, none⟩ = some s0 ∧ ((w2.setCell ⟨b, o + 2, none⟩ s2).setCell ⟨b, o + 3, none⟩ s3).cell? ⟨b, o + 1, none⟩ = some s1 ∧
    ((w2.setCell ⟨b, o + 2, none⟩ s2).setCell ⟨b, o + 3, none⟩ s3).cell? ⟨b, o + 2, none⟩ = some s2 ∧ ((w2.setCell ⟨b, o + 2, none⟩ s2).setCell ⟨b, o + 3, none⟩ s3).cell? ⟨b, o + 3, none⟩ = some s3 := by
  have ho := Free.lt_cell hf h4
  have hlt := hf.lt
  obtain ⟨cs, t, hh, hn⟩ := hf
  have e1 : w1.heap[b]? = some (.cells cs t (0, 0)) := (hb1.block b hlt).trans hh
  have hlt1 : b < w1.heap.size := Nat.lt_of_lt_of_le hlt hb1.size
  have e2 := heap_setCell_same (o := o + 1) (heap_setCell_same (o := o) e1 s0) s1
  have e3 : w2.heap[b]? = _ := (hb2.block b (by simpa using hlt1)).trans e2
  have key := heap_setCell_same (o := o + 3) (heap_setCell_same (o := o + 2) e3 s2) s3
  have r1 : Wr [b] wr w1 := Wr.of_below hb1
  have r2 : Wr [b] wr w2 := ((r1.setCell (p := ⟨b, o, none⟩) (by simp) s0).setCell (p := ⟨b, o + 1, none⟩) (by simp) s1).trans (Wr.of_below hb2)
  refine ⟨(r2.setCell (p := ⟨b, o + 2, none⟩) (by simp) s2).setCell (p := ⟨b, o + 3, none⟩) (by simp) s3, ⟨_, t, key, by simp [hn]⟩, fun off hoff => ?_, ?_, ?_, ?_, ?_⟩
  · rw [cell_of_heap key, cell_of_heap hh]
    simp only [Array.getElem?_setIfInBounds]
    repeat rw [if_neg (by omega)]
  all_goals
    rw [cell_of_heap key]
    simp [Array.getElem?_setIfInBounds]
    omega

def MkPost (f : F) (v : Value) (bs : List Nat) (k : Nat) (w : World) (e : Ending) (w' : World) : Prop :=
  e = .returned (.int .i64 ((k + 4 * f.sz : Nat) : Int)) ∧ Ow w' v (mkF f k) bs ∧ Wr bs w w'
def MkS (f : F) : Prop := ∀ (w : World) (v : Value) (bs : List Nat) (k : Nat), Ow w v f bs → bs.Nodup → 1 ≤ k → k + 4 * f.sz ≤ 16777216 → Calls Tryz.prog 27 #[v, .int .i64 (k : Int)] w (MkPost f v bs k w)

def MkRel (w : World) (b n : Nat) (f : F) (bs : List Nat) (k : Nat) (kv iv : Value) (wr : World) : Prop :=
  ∃ p g b1 b2, f = p.app g ∧ bs = b1 ++ b2 ∧ kv = .int .i64 ((k + 4 * p.sz : Nat) : Int) ∧ iv = .int .i64 (p.len : Nat) ∧ OwRow wr b 0 (mkF p k) b1 ∧ OwRow wr b (p.len * 5) g b2 ∧ Free wr b n ∧ Wr (b :: b1) w wr

/-- One round more. -/
theorem mark_step {w wr C w4 : World} {b n k : Nat} {p kids rest : F} {b1 ks rs : List Nat} {lab fr : ByteArray} {kd ix : Int} {a5 : Option Addr} {cap5 : Nat} (hk : k + 4 * ((p.app (.cons lab kd fr ix kids rest)).sz) ≤ 16777216)
    (hnd : (b :: (b1 ++ (ks ++ rs))).Nodup) (hp : OwRow wr b 0 (mkF p k) b1) (hrest : OwRow wr b (p.len * 5 + 5) rest rs) (hfree : Free wr b n) (hw : Wr (b :: b1) w wr)
    (hC : Wr [b] wr C) (hCf : Free C b n) (hCo : ∀ off, off < p.len * 5 ∨ p.len * 5 + 4 ≤ off → C.cell? ⟨b, off, none⟩ = wr.cell? ⟨b, off, none⟩) (h5 : wr.cell? ⟨b, p.len * 5 + 4, none⟩ = some (.slice a5 kids.len cap5))
    (m0 : C.cell? ⟨b, p.len * 5, none⟩ = some (.string (MT (k + 4 * p.sz)))) (m1 : C.cell? ⟨b, p.len * 5 + 1, none⟩ = some (.int .i64 ((k + 4 * p.sz + 1 : Nat) : Int))) (m2 : C.cell? ⟨b, p.len * 5 + 2, none⟩ = some (.string (MT (k + 4 * p.sz + 2))))
    (m3 : C.cell? ⟨b, p.len * 5 + 3, none⟩ = some (.int .i64 ((k + 4 * p.sz + 3 : Nat) : Int)))
    (how : Ow w4 (.slice a5 kids.len cap5) (mkF kids (k + 4 * p.sz + 4)) ks) (h4 : Wr ks C w4) :
    MkRel w b n (p.app (.cons lab kd fr ix kids rest)) (b1 ++ (ks ++ rs)) k (.int .i64 ((k + 4 * p.sz + 4 + 4 * kids.sz : Nat) : Int)) (.int .i64 ((p.len + 1 : Nat) : Int)) w4 := by
  have hlb := hfree.lt
  have hlp := hp.lt _ _ _ _
  have hlr := hrest.lt _ _ _ _
  obtain ⟨hnb, hnd2⟩ := List.nodup_cons.1 hnd
  obtain ⟨hn1, hn23, hd1⟩ := List.nodup_append.1 hnd2
  obtain ⟨hn2, hn3, hd2⟩ := List.nodup_append.1 hn23
  have nb1 : ∀ x, x ∈ b1 → x ≠ b := fun x hx e => hnb (by rw [← e]; exact List.mem_append_left _ hx)
  have nbk : b ∉ ks := fun h => hnb (List.mem_append_right _ (List.mem_append_left _ h))
  have nbr : ∀ x, x ∈ rs → x ≠ b := fun x hx e => hnb (by rw [← e]; exact List.mem_append_right _ (List.mem_append_right _ hx))
  have e1k : ∀ x, x ∈ b1 → x ∉ ks := fun x hx hk => hd1 x hx x (List.mem_append_left _ hk) rfl
  have erk : ∀ x, x ∈ rs → x ∉ ks := fun x hx hk => hd2 x hk x hx rfl
  have hb4 : w4.heap[b]? = C.heap[b]? := h4.block b (Nat.lt_of_lt_of_le hlb hC.size) nbk
  have hcell : ∀ off, w4.cell? ⟨b, off, none⟩ = C.cell? ⟨b, off, none⟩ := fun off => Same.cell hb4
  have same1 : Same wr w4 b1 := fun x hx => (h4.block x (Nat.lt_of_lt_of_le (hlp x hx) hC.size) (e1k x hx)).trans (hC.block x (hlp x hx) (by simpa using nb1 x hx))
  have same3 : Same wr w4 rs := fun x hx => (h4.block x (Nat.lt_of_lt_of_le (hlr x hx) hC.size) (erk x hx)).trans (hC.block x (hlr x hx) (by simpa using nbr x hx))
  have hs0 : k + 4 * p.sz + 4 ≤ 16777216 := by rw [F.sz_app] at hk; simp only [F.sz] at hk; omega
  obtain ⟨a, cap, e, q1, q2, q3⟩ := how
  refine ⟨p.app (.cons lab kd fr ix kids .nil), rest, b1 ++ ks, rs, by rw [F.app_assoc]; rfl, by rw [List.append_assoc], ?_, by rw [F.len_app]; rfl, ?_, ?_, hCf.same hb4, ?_⟩
  · rw [F.sz_app]
    simp only [F.sz]
    rw [show k + 4 * (p.sz + (kids.sz + 0 + 1)) = k + 4 * p.sz + 4 + 4 * kids.sz by omega]
  · rw [mkF_app]
    refine OwRow.app _ _ _ _ _ _ (hp.same _ _ _ _ (fun i hi => ?_) same1) ?_
    · rw [mkF_len] at hi
      rw [hcell, hCo _ (by omega)]
    · rw [mkF_len, show 0 + 5 * p.len = p.len * 5 by omega]
      refine ⟨MT_size _ (by omega), MT_size _ (by omega), WalkArith.wf_i64 (by omega), WalkArith.wf_i64 (by omega), (hcell _).trans m0, (hcell _).trans m1, (hcell _).trans m2, (hcell _).trans m3, ks, [], by simp, ⟨a, cap, ?_, q1, q2, q3⟩, rfl⟩
      rw [hcell, hCo _ (by omega), h5, e]
  · rw [F.len_app]
    simp only [F.len]
    rw [show (p.len + (0 + 1)) * 5 = p.len * 5 + 5 by omega]
    refine hrest.same _ _ _ _ (fun i hi => ?_) same3
    rw [hcell, hCo _ (by omega)]
  · refine ((hw.mono (fun x hx => ?_)).trans (hC.mono (fun x hx => ?_))).trans (h4.mono (fun x hx => ?_))
    · rcases List.mem_cons.1 hx with rfl | hx
      · simp
      · simp [hx]
    · simp at hx
      simp [hx]
    · simp [hx]

theorem mt_int (z : Int) (h1 : 1 ≤ z) (h2 : z ≤ 16777216) (w : World) : Calls Tryz.prog 44 #[.int .i64 z] w fun e w' => e = .returned (.string (MT z.toNat)) ∧ Below w.heap.size w w' := by
  obtain ⟨k, rfl⟩ := Int.eq_ofNat_of_zero_le (show 0 ≤ z by omega)
  exact mt_calls k (by omega) (by omega) w

set_option maxHeartbeats 1000000 in
set_option maxRecDepth 100000 in
theorem mark_slice_lt : ∀ (n : Nat) (f : F), f.sz < n → MkS f := by
  intro n
  induction n with
  | zero => intro f hf; omega
  | succ n ih =>
    intro f hf w v bs k how hnd hk1 hk2
    obtain ⟨a, cap, rfl, hlc, hcm, hs⟩ := how
    have hfl : f.len ≤ maxLen := Nat.le_trans hlc hcm
    unfold maxLen at hfl
    rcases hs with ⟨rfl, rfl⟩ | ⟨b, N, bs', rfl, rfl, hfree, hne, hrow⟩
    · change Calls Tryz.prog 27 #[.slice a 0 cap, .int .i64 (k : Int)] w _
      have HLC := hide hlc
      have HCM := hide hcm
      clear hlc hcm hfl hf hnd
      go_enter Tryz.func27, Tryz.ntmps27
      go_wp2_with fail
      go_loopw [1, 5] (fun kv iv wr => kv = .int .i64 (k : Int) ∧ iv = .int .i64 0 ∧ wr = w) (fun _ _ _ => 0)
      case atStart => exact ⟨rfl, rfl, rfl⟩
      case round =>
        obtain ⟨rfl, rfl, rfl⟩ := hrel
        go_wp2_with fail
        go_ret
        exact ⟨rfl, ⟨a, cap, rfl, HLC.out, HCM.out, Or.inl ⟨rfl, rfl⟩⟩, Wr.refl _ _⟩
    · have HF := hide hf
      have HND := hide hnd
      have HROW := hide hrow
      have HFR := hide hfree
      have HNE := hide hne
      have HK2 := hide hk2
      have HLC := hide hlc
      have HCM := hide hcm
      have hbw := hfree.lt
      clear hf hnd hrow hfree hne hk2 hlc hcm
      go_enter Tryz.func27, Tryz.ntmps27
      go_wp2_with fail
      go_loopw [1, 5] (fun kv iv wr => MkRel w b N f bs' k kv iv wr) (fun _ iv _ => f.len - (intOf iv).toNat)
      case atStart => exact ⟨.nil, f, [], bs', rfl, rfl, rfl, rfl, rfl, by rw [show F.nil.len * 5 = 0 from rfl]; exact HROW.out, HFR.out, Wr.refl _ _⟩
      case round =>
        obtain ⟨p, g, b1, b2, hfe, hbe, rfl, rfl, hp, hg, hfree, hw⟩ := hrel
        have HE := hide hfe
        have HBE := hide hbe
        have HP := hide hp
        have HW := hide hw
        have hbr := hfree.lt
        clear hfe hbe hp hw
        cases g with
        | nil =>
          have hge : f.len ≤ p.len := by rw [HE.out, F.app_nil]; exact Nat.le_refl _
          have HG := hide hg
          clear hg
          go_wp2_with fail
          go_ret
          have h1 := HE.out
          rw [F.app_nil] at h1
          have h2 : b2 = [] := HG.out
          have h3 := HBE.out
          rw [h2, List.append_nil] at h3
          refine ⟨ret_int (by rw [h1]), ⟨some ⟨b, 0, none⟩, cap, by rw [mkF_len], by rw [mkF_len]; exact HLC.out, HCM.out, Or.inr ⟨b, N, bs', rfl, rfl, hfree, fun h => HNE.out (mkF_nil k h), ?_⟩⟩, ?_⟩
          · rw [h1, h3]
            exact HP.out
          · rw [h3]
            exact HW.out
        | cons lab kd fr ix kids rest =>
          have hlt : p.len < f.len := by rw [HE.out, F.len_app]; simp only [F.len]; omega
          have hkk : 1 ≤ k + 4 * p.sz ∧ k + 4 * p.sz + 4 + 4 * kids.sz ≤ 16777216 := by
            have := HK2.out
            rw [HE.out, F.sz_app] at this
            simp only [F.sz] at this
            omega
          obtain ⟨hka, hkb⟩ := hkk
          have HZ : Hid (kids.sz < n) := by have := HF.out; unfold Hid; rw [HE.out, F.sz_app] at this; simp only [F.sz] at this; omega
          obtain ⟨-, -, -, -, c0, c1, c2, c3, ks, rs, hb2e, ⟨a5, cap5, c5, l1, l2, l3⟩, hrest⟩ := hg
          have HB2 := hide hb2e
          have HL : Hid (Ow wr (.slice a5 kids.len cap5) kids ks) := ⟨a5, cap5, rfl, l1, l2, l3⟩
          have HR := hide hrest
          have C5 := hide c5
          have hN := Free.lt_cell hfree c5
          clear hb2e l3 hrest l1 l2
          generalize hK : k + 4 * p.sz = K at *
          have HK := hide hK
          clear hK
          go_wp2_with fail
          refine (mt_int K (by omega) (by omega) _).mono ?_
          rintro e w1 ⟨rfl, hb1⟩
          rw [show ((K : Int)).toNat = K from by omega]
          have f1 := hfree.below hb1
          have z1 : ∀ o, w1.frozen? ⟨b, o, none⟩ = false := fun o => f1.frozen
          obtain ⟨x0, d0⟩ := f1.cell (o := p.len * 5) (by omega)
          obtain ⟨x1, d1⟩ := f1.cell (o := p.len * 5 + 1) (by omega)
          have l1 := f1.lt
          clear c0 c1 c2 c3 c5
          go_wp2_with fail
          refine (mt_int _ (by omega) (by omega) _).mono ?_
          rintro e w2 ⟨rfl, hb2⟩
          rw [show ((K : Int) + 1 + 1).toNat = K + 2 from by omega]
          have f2 := ((f1.setCell ⟨b, p.len * 5, none⟩ (.string (MT K))).setCell ⟨b, p.len * 5 + 1, none⟩ (.int .i64 ((K : Int) + 1))).below hb2
          have z2 : ∀ o, w2.frozen? ⟨b, o, none⟩ = false := fun o => f2.frozen
          obtain ⟨x2, d2⟩ := f2.cell (o := p.len * 5 + 2) (by omega)
          obtain ⟨x3, d3⟩ := f2.cell (o := p.len * 5 + 3) (by omega)
          have l2 := f2.lt
          obtain ⟨M1, M2, M3, M4, M5, M6, M7⟩ := mark_mid (s0 := .string (MT K)) (s1 := .int .i64 ((K : Int) + 1)) (s2 := .string (MT (K + 2))) (s3 := .int .i64 ((K : Int) + 1 + 1 + 1)) hfree C5.out hb1 hb2
          have M9 := (M3 (p.len * 5 + 4) (Or.inr (Nat.le_refl _))).trans C5.out
          have g4 : w2.cell? ⟨b, p.len * 5 + 4, none⟩ = some (.slice a5 kids.len cap5) := by
            have q : ∀ (X : World) (x y : Nat) (u : Value), x ≠ y → (X.setCell ⟨b, x, none⟩ u).cell? ⟨b, y, none⟩ = X.cell? ⟨b, y, none⟩ := fun X x y u h => World.cell?_setCell_other _ _ _ _ (fun e => h (by injection e))
            rw [q _ _ _ _ (by omega), q _ _ _ _ (by omega)] at M9
            exact M9
          have HM := hide (And.intro M1 (And.intro M2 (And.intro M3 (And.intro M4 (And.intro M5 (And.intro M6 M7))))))
          clear d0 d1 z1 M1 M2 M3 M4 M5 M6 M7 M9
          go_wp2_with fail
          obtain ⟨M1, M2, M3, M4, M5, M6, M7⟩ := HM.out
          have hnd := HND.out
          rw [HBE.out, HB2.out] at hnd
          have nbk : ∀ x, x ∈ ks → x ≠ b := fun x hx e => (List.nodup_cons.1 hnd).1 (by rw [← e]; exact List.mem_append_right _ (List.mem_append_left _ hx))
          have hknd : ks.Nodup := (List.nodup_append.1 (List.nodup_append.1 (List.nodup_cons.1 hnd).2).2.1).1
          have hlk := HL.out.lt
          have howC := HL.out.same (fun x hx => M1.block x (hlk x hx) (by simpa using nbk x hx))
          rw [show (K : Int) + 1 + 1 + 1 + 1 = ((K + 4 : Nat) : Int) from by omega]
          refine (ih kids HZ.out _ _ ks (K + 4) howC hknd (by omega) (by omega)).mono ?_
          rintro e w4 ⟨rfl, how4, hw4⟩
          have hstep : MkRel w b N f bs' k (.int .i64 ((K + 4 + 4 * kids.sz : Nat) : Int)) (.int .i64 ((p.len + 1 : Nat) : Int)) w4 := by
            rw [HBE.out, HB2.out, HE.out]
            have hK := HK.out
            subst hK
            have hk3 := HK2.out
            rw [HE.out] at hk3
            exact mark_step hk3 hnd HP.out HR.out hfree HW.out M1 M2 M3 C5.out M4 M5 M6 M7 how4 hw4
          have HST := hide hstep
          clear hstep M1 M2 M3 M4 M5 M6 M7 howC how4 hw4 hnd nbk hknd hlk
          go_wp2_with fail
          refine ⟨?_, by simp [intOf]; omega⟩
          have h := HST.out
          rw [show ((K + 4 + 4 * kids.sz : Nat) : Int) = (K : Int) + 4 + 4 * (kids.sz : Int) from by omega, show ((p.len + 1 : Nat) : Int) = (p.len : Int) + 1 from by omega] at h
          exact h

set_option maxHeartbeats 400000 in
/-- markLocal. -/
theorem mark_calls (f : F) (w : World) (u : Value) (bs : List Nat) (k ix : Int) (fr : ByteArray) (m : Nat) (how : Ow w u f bs) (hnd : bs.Nodup) (hm1 : 1 ≤ m) (hm2 : m + 4 * f.sz ≤ 16777216) :
    Calls Tryz.prog 11 #[.agg #[.int .i64 k, .string fr, .int .i64 ix, u], .int .i64 (m : Int)] w (MkPost f u bs m w) := by
  obtain ⟨ua, uc, rfl⟩ := how.val
  have hb := alloc_below w (.cells #[.int .i64 k, .string fr, .int .i64 ix, .slice ua f.len uc] ( /- t -/ 28))
  have HO := hide (how.same (Same.of_below hb (fun x hx => how.lt x hx)))
  have HL := hide how.lt
  have HND := hide hnd
  have HB := hide hb
  clear how hnd hb
  go_enter Tryz.func11, Tryz.ntmps11
  go_wp2_with fail
  refine (mark_slice_lt _ f (Nat.lt_succ_self _) _ _ bs m HO.out HND.out hm1 hm2).mono ?_
  rintro e w1 ⟨rfl, how1, hw1⟩
  have HO1 := hide how1
  have HW := hide ((Wr.of_below HB.out).trans hw1)
  clear how1 hw1
  go_wp2_with fail
  go_ret
  exact ⟨rfl, HO1.out, HW.out⟩
end Go.Proofs.YtbonmdkfmgahbaaGreatDoor.Lo

/- heldLocal: at a tree that bears the marks it counts them. -/
namespace Go.Proofs.YtbonmdkfmgahbaaGreatDoor.Lo
open Go.RowKit

def HeS (f : F) : Prop := ∀ (w : World) (v : Value) (k : Nat), Sl w v (mkF f k) → 1 ≤ k → k + 4 * f.sz ≤ 16777216 →
  Calls Tryz.prog 45 #[v, .int .i64 (k : Int)] w fun e w' => e = .returned (.int .i64 ((k + 4 * f.sz : Nat) : Int)) ∧ Below w.heap.size w w'

set_option maxHeartbeats 1000000 in
set_option maxRecDepth 100000 in
theorem held_slice_lt : ∀ (n : Nat) (f : F), f.sz < n → HeS f := by
  intro n
  induction n with
  | zero => intro f hf; omega
  | succ n ih =>
    intro f hf w v k hs hk1 hk2
    obtain ⟨a, cap, rfl, hlen, hat⟩ := hs.at
    rw [mkF_len] at hlen ⊢
    unfold maxLen at hlen
    have HA := hide hat
    have HF := hide hf
    have HK2 := hide hk2
    clear hs hat hf hk2
    go_enter Tryz.func45, Tryz.ntmps45
    go_wp2_with fail
    go_loopw [1, 5] (fun kv iv wr => ∃ (g : F) (j kc : Nat), j + g.len = f.len ∧ kv = .int .i64 (kc : Int) ∧ iv = .int .i64 (j : Int) ∧ g.sz ≤ f.sz ∧ kc + 4 * g.sz = k + 4 * f.sz ∧ 1 ≤ kc ∧ At w a j (mkF g kc) ∧ Below w.heap.size w wr) (fun _ iv _ => f.len - (intOf iv).toNat)
    case atStart => exact ⟨f, 0, k, by omega, rfl, rfl, Nat.le_refl _, rfl, hk1, HA.out, Below.refl _ _⟩
    case round =>
      obtain ⟨g, j, kc, hj, rfl, rfl, h5, hsum, hkc, hg, hb⟩ := hrel
      have HS := hide hsum
      cases g with
      | nil =>
        have H5 : Hid (j = f.len) := by unfold Hid; simpa [F.len] using hj
        have hge : f.len ≤ j := Nat.le_of_eq H5.out.symm
        clear hj hsum
        go_wp2_with fail
        go_ret
        refine ⟨ret_int ?_, hb⟩
        have := HS.out
        simp only [F.sz] at this
        omega
      | cons lab kd fr ix kids rest =>
        have HJ : Hid (j + 1 + rest.len = f.len) := by unfold Hid; simp only [F.len] at hj; omega
        have hlt : j < f.len := by have := HJ.out; omega
        have hz : kids.sz < n ∧ rest.sz ≤ f.sz ∧ kc + 4 + 4 * kids.sz + 4 * rest.sz = k + 4 * f.sz := by have := HF.out; simp only [F.sz] at h5 hsum; omega
        have HZ := hide hz
        have hkb : kc + 4 + 4 * kids.sz ≤ 16777216 := by have := HK2.out; omega
        have hkb5 : kc + 4 ≤ 16777216 := by omega
        have hg2 : At w a j (.cons (MT kc) (((kc + 1 : Nat) : Int)) (MT (kc + 2)) (((kc + 3 : Nat) : Int)) (mkF kids (kc + 4)) (mkF rest (kc + 4 + 4 * kids.sz))) := hg
        obtain ⟨b, o, rfl, -, -, -, -, c0, c1, c2, c3, ⟨sv, c4, hsv⟩, -⟩ := (hg2.still (Still.of_below hb)).head
        rw [show ((kc + 1 : Nat) : Int) = (kc : Int) + 1 from by omega] at c1
        rw [show ((kc + 3 : Nat) : Int) = (kc : Int) + 1 + 1 + 1 from by omega] at c3
        have HSV := hide hsv
        have HRE := hide hg2.tail
        clear hj h5 hsum hz hg hg2 hsv
        go_wp2_with fail
        go_region_held3 (fun w' => w'.cell? ⟨b, o + j * 5, none⟩ = some (.string (MT kc)))
          (first | exact c0 | exact d0)
          ((first | (go_at_call 44; refine (mt_int _ (by omega) (by omega) _).mono ?_; (rintro e w1 ⟨rfl, hb1⟩); (rw [show ((kc : Int)).toNat = kc from by omega]); (have d0 := (Still.of_below hb1) _ _ c0))))
        have hbb1 : Below w.heap.size w w1 := hb.drew.trans (hb1.mono hb.size)
        have st1 : Still wr w1 := fun p v h => Still.of_below hb1 p v h
        have e1 := st1 _ _ c1
        have e2 := st1 _ _ c2
        have e3 := st1 _ _ c3
        have e4 := st1 _ _ c4
        have HSV1 := hide (HSV.out.still st1)
        clear c0 c1 c2 c3 c4 d0 st1 hb1 hb HSV
        go_wp2_with fail
        go_region_held3 (fun w' => w'.cell? ⟨b, o + j * 5 + 1 + 1, none⟩ = some (.string (MT (kc + 2))))
          (first | exact e2 | exact d2)
          ((first | (go_at_call 44; refine (mt_int _ (by omega) (by omega) _).mono ?_; (rintro e w2 ⟨rfl, hb2⟩); (rw [show ((kc : Int) + 1 + 1).toNat = kc + 2 from by omega]); (have d2 := (Still.of_below hb2) _ _ e2))))
        have hbb3 : Below w.heap.size w w2 := hbb1.drew.trans (hb2.mono hbb1.size)
        have st2 : Still w1 w2 := fun p v h => Still.of_below hb2 p v h
        have g3 := st2 _ _ e3
        have g4 := st2 _ _ e4
        have HSV3 := hide (HSV1.out.still st2)
        clear e1 e2 e3 e4 d2 st2 hb2 hbb1 HSV1
        go_wp2_with fail
        rw [show (kc : Int) + 1 + 1 + 1 + 1 = ((kc + 4 : Nat) : Int) from by omega]
        refine (ih kids HZ.out.1 _ _ (kc + 4) HSV3.out (by omega) (by omega)).mono ?_
        rintro e w4 ⟨rfl, hb4⟩
        have hbb4 : Below w.heap.size w w4 := hbb3.trans (hb4.mono hbb3.size)
        clear hb4 hbb3 HSV3
        generalize hQ : kc + 4 + 4 * kids.sz = Q at *
        have HQ := hide hQ
        clear hQ
        go_wp2_with fail
        refine ⟨⟨rest, j + 1, Q, by have := HJ.out; omega, rfl, by go_num, HZ.out.2.1, ?_, by have := HQ.out; omega, HRE.out, hbb4⟩, by simp [intOf]; omega⟩
        have h1 := HZ.out.2.2
        have h2 := HQ.out
        omega

set_option maxHeartbeats 400000 in
/-- heldLocal. -/
theorem held_calls (f : F) (w : World) (u : Value) (k ix : Int) (fr : ByteArray) (m : Nat) (hs : Sl w u (mkF f m)) (hm1 : 1 ≤ m) (hm2 : m + 4 * f.sz ≤ 16777216) :
    Calls Tryz.prog 28 #[.agg #[.int .i64 k, .string fr, .int .i64 ix, u], .int .i64 (m : Int)] w fun e w' => e = .returned (.int .i64 ((m + 4 * f.sz : Nat) : Int)) ∧ Below w.heap.size w w' := by
  have hb := alloc_below w (.cells #[.int .i64 k, .string fr, .int .i64 ix, u] ( /- t -/ 28))
  have HS := hide (hs.still (Still.of_below hb))
  clear hs
  go_enter Tryz.func28, Tryz.ntmps28
  go_wp2_with fail
  refine (held_slice_lt _ f (Nat.lt_succ_self _) _ _ m HS.out hm1 hm2).mono ?_
  rintro e w1 ⟨rfl, hb1⟩
  have hb2 := hb.trans (hb1.mono hb.size)
  clear hb hb1
  go_wp2_with fail
  go_ret
  exact ⟨ret_int (by omega), hb2⟩
end Go.Proofs.YtbonmdkfmgahbaaGreatDoor.Lo
