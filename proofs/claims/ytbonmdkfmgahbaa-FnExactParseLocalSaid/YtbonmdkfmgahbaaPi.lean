/- readLocal of the program: what it owes; an end, a variable. -/
import Derived.Test.YtbonmdkfmgahbaaPv
import Derived.Test.YtbonmdkfmgahbaaLGr
import Derived.Test.YtbonmdkfmgahbaaTg
namespace Go.Proofs.Ytbonmdkfmgahbaa.Lo.Ne
open Go.RowKit

theorem hdB_eq (s : List UInt8) : hdB s = hdC s := by cases s <;> rfl
theorem nxt_eq (s : List UInt8) (d : UInt8) : nxt s d = nxC s d := by cases s <;> rfl

def RlPost (n c : Nat) (s : List UInt8) (w : World) (e : Ending) (w' : World) : Prop :=
  Only c w w' ∧ (∀ N t, rl n s = some (N, t) → ∃ u bs, e = .returned (.tuple #[.agg #[.int .i64 N.k, .string N.fr, .int .i64 N.ix, u], .bool true]) ∧ Ow w' u N.kids bs ∧ (∀ b, b ∈ bs → w.heap.size ≤ b) ∧ bs.Nodup ∧ Rd w' c t) ∧
  (rl n s = none → ∃ k fr ix a m cp, e = .returned (.tuple #[.agg #[.int .i64 k, .string fr, .int .i64 ix, .slice a m cp], .bool false]))
theorem rl_yes {n c : Nat} {s t : List UInt8} {N : Nd} (h : rl n s = some (N, t)) {w w' : World} {u : Value} {bs : List Nat} (ho : Only c w w') (how : Ow w' u N.kids bs) (hge : ∀ b, b ∈ bs → w.heap.size ≤ b) (hnd : bs.Nodup) (hr : Rd w' c t) :
    RlPost n c s w (.returned (.tuple #[.agg #[.int .i64 N.k, .string N.fr, .int .i64 N.ix, u], .bool true])) w' := by
  refine ⟨ho, fun N' t' h' => ?_, fun h' => by rw [h] at h'; cases h'⟩
  rw [h] at h'
  injection h' with h'
  injection h' with h1 h2
  subst h1 h2
  exact ⟨u, bs, rfl, how, hge, hnd, hr⟩
theorem rl_not {n c : Nat} {s : List UInt8} (h : rl n s = none) {w w' : World} {k ix : Int} {fr : ByteArray} {a : Option Addr} {m cp : Nat} (ho : Only c w w') :
    RlPost n c s w (.returned (.tuple #[.agg #[.int .i64 k, .string fr, .int .i64 ix, .slice a m cp], .bool false])) w' := by
  refine ⟨ho, fun N t h' => ?_, fun _ => ⟨k, fr, ix, a, m, cp, rfl⟩⟩
  rw [h] at h'
  cases h'

def RlAt (n : Nat) : Prop := ∀ (w : World) (c : Nat) (s : List UInt8), s.length < n → s.length ≤ 1048576 → Rd w c s → Calls Try.prog 25 #[.pointer (some ⟨c, 0, none⟩)] w (RlPost n c s w)

/-- skip at a byte written out. -/
theorem sk46 (w : World) (c : Nat) (s : List UInt8) (hs : s.length ≤ 1048576) (h : Rd w c s) :
    Calls Try.prog 42 #[.pointer (some ⟨c, 0, none⟩), .int .u8 46] w fun e w' => e = .returned (.bool (nxC s 46)) ∧ Rd w' c (if nxC s 46 then s.tail else s) ∧ Only c w w' := by
  rw [← nxt_eq]
  exact rd_skip w c s 46 hs h
theorem sk35 (w : World) (c : Nat) (s : List UInt8) (hs : s.length ≤ 1048576) (h : Rd w c s) :
    Calls Try.prog 42 #[.pointer (some ⟨c, 0, none⟩), .int .u8 35] w fun e w' => e = .returned (.bool (nxC s 35)) ∧ Rd w' c (if nxC s 35 then s.tail else s) ∧ Only c w w' := by
  rw [← nxt_eq]
  exact rd_skip w c s 35 hs h
theorem sk64 (w : World) (c : Nat) (s : List UInt8) (hs : s.length ≤ 1048576) (h : Rd w c s) :
    Calls Try.prog 42 #[.pointer (some ⟨c, 0, none⟩), .int .u8 64] w fun e w' => e = .returned (.bool (nxC s 64)) ∧ Rd w' c (if nxC s 64 then s.tail else s) ∧ Only c w w' := by
  rw [← nxt_eq]
  exact rd_skip w c s 64 hs h
theorem sk125 (w : World) (c : Nat) (s : List UInt8) (hs : s.length ≤ 1048576) (h : Rd w c s) :
    Calls Try.prog 42 #[.pointer (some ⟨c, 0, none⟩), .int .u8 125] w fun e w' => e = .returned (.bool (nxC s 125)) ∧ Rd w' c (if nxC s 125 then s.tail else s) ∧ Only c w w' := by
  rw [← nxt_eq]
  exact rd_skip w c s 125 hs h

set_option maxHeartbeats 400000 in
/-- takeIndex. -/
theorem rd_index (w : World) (c : Nat) (s : List UInt8) (hs : s.length ≤ 1048576) (h : Rd w c s) :
    Calls Try.prog 43 #[.pointer (some ⟨c, 0, none⟩)] w fun e w' => e = .returned (.tuple #[.int .i64 (((hdC s).toNat : Int) - 48), .bool (decide (48 ≤ (hdC s).toNat ∧ (hdC s).toNat ≤ 57))]) ∧ Rd w' c s.tail ∧ Only c w w' := by
  have H := hide h
  clear h
  generalize hd : hdC s = d
  generalize hq : decide (48 ≤ d.toNat ∧ d.toNat ≤ 57) = q
  have HD := hide hd
  have HQ := hide hq
  have hd2 := d.toNat_lt
  clear hd hq
  go_enter Try.func43, Try.ntmps43
  go_wp2_with fail
  refine (rd_take w c s hs H.out).mono ?_
  rintro e w1 ⟨rfl, hr, ho⟩
  rw [hdB_eq, HD.out]
  by_cases h1 : 48 ≤ d.toNat
  · have h1' : (48 : Int) ≤ (d.toNat : Int) := by omega
    by_cases h2 : d.toNat ≤ 57
    · have h2' : (d.toNat : Int) ≤ 57 := by omega
      have HT : Hid (q = true) := by unfold Hid; rw [← HQ.out]; exact decide_eq_true ⟨h1, h2⟩
      clear h1 h2
      go_wp2_with fail
      go_ret2
      exact ⟨by rw [HT.out]; rfl, hr, ho⟩
    · have h2' : decide ((d.toNat : Int) ≤ 57) = false := decide_eq_false (by omega)
      have HT : Hid (q = false) := by unfold Hid; rw [← HQ.out]; exact decide_eq_false (fun h => h2 h.2)
      clear h1 h2
      go_wp2_with fail
      go_ret2
      exact ⟨by rw [HT.out]; rfl, hr, ho⟩
  · have h1' : decide ((48 : Int) ≤ (d.toNat : Int)) = false := decide_eq_false (by omega)
    have HT : Hid (q = false) := by unfold Hid; rw [← HQ.out]; exact decide_eq_false (fun h => h1 h.1)
    clear h1
    go_wp2_with fail
    go_ret2
    exact ⟨by rw [HT.out]; rfl, hr, ho⟩

/-- The result's box and the reader at the start. -/
theorem rl_start {w : World} {c : Nat} {s : List UInt8} (hr : Rd w c s) (t : TypeId) :
    Box4 (w.alloc (.cells #[.int .i64 0, .string ⟨#[]⟩, .int .i64 0, .slice none 0 0] t)) w.heap.size (.int .i64 0) (.string ⟨#[]⟩) (.int .i64 0) (.slice none 0 0) ∧
    Rd (w.alloc (.cells #[.int .i64 0, .string ⟨#[]⟩, .int .i64 0, .slice none 0 0] t)) c s ∧ Only c w (w.alloc (.cells #[.int .i64 0, .string ⟨#[]⟩, .int .i64 0, .slice none 0 0] t)) ∧ w.heap.size ≠ c :=
  ⟨Box4.now _ _ _ _ _ _, hr.below (alloc_below _ _), (Only.refl c w).below (alloc_below _ _), by have := hr.lt; omega⟩
theorem ow_set4 {w' : World} {b : Nat} {u : Value} {f : F} {bs : List Nat} (h : Ow w' u f bs) (hb : ∀ x, x ∈ bs → x ≠ b) (u0 u1 u2 u3 : Value) : Ow ((((w'.setCell ⟨b, 0, none⟩ u0).setCell ⟨b, 1, none⟩ u1).setCell ⟨b, 2, none⟩ u2).setCell ⟨b, 3, none⟩ u3) u f bs :=
  h.same ((((Same.refl _ _).setCell hb _).setCell hb _).setCell hb _ |>.setCell hb _)

set_option maxHeartbeats 800000 in
set_option maxRecDepth 100000 in
theorem rl_dot (n : Nat) (w : World) (c : Nat) (s : List UInt8) (hs : s.length ≤ 1048576) (hr : Rd w c s) (h46 : nxC s 46 = true) :
    Calls Try.prog 25 #[.pointer (some ⟨c, 0, none⟩)] w (RlPost (n + 1) c s w) := by
  obtain ⟨hx, hr0, ho, hne⟩ := rl_start hr ( /- t -/ 24)
  have HX := hide hx
  have HR := hide hr0
  have HO := hide ho
  have H46 := hide h46
  clear hr hx hr0 ho h46
  go_enter Try.func25, Try.ntmps25
  go_wp2_with fail
  generalize w.alloc (.cells #[.int .i64 0, .string ⟨#[]⟩, .int .i64 0, .slice none 0 0] ( /- t -/ 24)) = W at *
  refine (sk46 W c s hs HR.out).mono ?_
  rintro e w1 ⟨rfl, hr1, ho1⟩
  rw [H46.out] at hr1 ⊢
  have HR1 := hide hr1
  have hx1 := box4_only HX.out ho1 hne
  have HO1 := hide (HO.out.trans ho1)
  obtain ⟨y0, y1, y2, y3⟩ := hx1.cells
  have hf := box4_frozen hx1
  have hl := hx1.lt
  clear hr1 ho1 hx1
  go_wp2_with fail
  refine bodyPost_ret (v := .tuple #[.agg #[.int .i64 1, .string ⟨#[]⟩, .int .i64 0, .slice none 0 0], .bool true]) (by simp [results, Try.results25, go_sem, *]) rfl ?_
  exact rl_yes (N := ndEnd) (rl_end H46.out) (only_set4 HO1.out _ _ _ _) (bs := []) ⟨none, 0, rfl, Nat.le_refl _, Nat.zero_le _, Or.inl ⟨rfl, rfl⟩⟩ (fun _ h => absurd h (List.not_mem_nil)) List.nodup_nil (rd_set4 HR1.out hne _ _ _ _)

set_option maxHeartbeats 800000 in
set_option maxRecDepth 100000 in
theorem rl_hash (n : Nat) (w : World) (c : Nat) (s : List UInt8) (hs : s.length ≤ 1048576) (hr : Rd w c s) (h46 : nxC s 46 = false) (h35 : nxC s 35 = true) :
    Calls Try.prog 25 #[.pointer (some ⟨c, 0, none⟩)] w (RlPost (n + 1) c s w) := by
  obtain ⟨hx, hr0, ho, hne⟩ := rl_start hr ( /- t -/ 24)
  have HX := hide hx
  have HR := hide hr0
  have HO := hide ho
  have H46 := hide h46
  have H35 := hide h35
  clear hr hx hr0 ho h46 h35
  go_enter Try.func25, Try.ntmps25
  go_wp2_with fail
  generalize w.alloc (.cells #[.int .i64 0, .string ⟨#[]⟩, .int .i64 0, .slice none 0 0] ( /- t -/ 24)) = W at *
  refine (sk46 W c s hs HR.out).mono ?_
  rintro e w1 ⟨rfl, hr1, ho1⟩
  rw [H46.out] at hr1 ⊢
  have HR1 : Hid (Rd w1 c s) := hide hr1
  have HX1 := hide (box4_only HX.out ho1 hne)
  have HO1 := hide (HO.out.trans ho1)
  clear hr1 ho1
  go_wp2_with fail
  refine (sk35 w1 c s hs HR1.out).mono ?_
  rintro e w2 ⟨rfl, hr2, ho2⟩
  rw [H35.out] at hr2 ⊢
  have HR2 : Hid (Rd w2 c s.tail) := hide hr2
  have HX2 := hide (box4_only HX1.out ho2 hne)
  have HO2 := hide (HO1.out.trans ho2)
  have hst : s.tail.length ≤ 1048576 := by have := tail_le s; omega
  clear hr2 ho2
  go_wp2_with fail
  refine (rd_index w2 c s.tail hst HR2.out).mono ?_
  rintro e w3 ⟨rfl, hr3, ho3⟩
  have HR3 := hide hr3
  have hx3 := box4_only HX2.out ho3 hne
  have HO3 := hide (HO2.out.trans ho3)
  obtain ⟨y0, y1, y2, y3⟩ := hx3.cells
  have hf := box4_frozen hx3
  have hl := hx3.lt
  clear hr3 ho3 hx3
  by_cases hd : 48 ≤ (hdC s.tail).toNat ∧ (hdC s.tail).toNat ≤ 57
  · rw [decide_eq_true hd]
    have HD := hide hd
    clear hd
    go_wp2_with fail
    refine bodyPost_ret (v := .tuple #[.agg #[.int .i64 5, .string ⟨#[]⟩, .int .i64 (((hdC s.tail).toNat : Int) - 48), .slice none 0 0], .bool true]) (by simp [results, Try.results25, go_sem, *]) rfl ?_
    exact rl_yes (N := ndVar (hdC s.tail)) (rl_var H46.out H35.out HD.out) (only_set4 HO3.out _ _ _ _) (bs := []) ⟨none, 0, rfl, Nat.le_refl _, Nat.zero_le _, Or.inl ⟨rfl, rfl⟩⟩ (fun _ h => absurd h (List.not_mem_nil)) List.nodup_nil (rd_set4 HR3.out hne _ _ _ _)
  · rw [decide_eq_false hd]
    have HD := hide hd
    clear hd
    go_wp2_with fail
    refine bodyPost_ret (v := .tuple #[.agg #[.int .i64 5, .string ⟨#[]⟩, .int .i64 (((hdC s.tail).toNat : Int) - 48), .slice none 0 0], .bool false]) (by simp [results, Try.results25, go_sem, *]) rfl ?_
    exact rl_not (rl_var_no H46.out H35.out HD.out) (only_set4 HO3.out _ _ _ _)
end Go.Proofs.Ytbonmdkfmgahbaa.Lo.Ne
