/- NewNetwork answers, for every slice of Local, as the model does, leaves its argument as it was, and its answer owns its memory: the law FnExactNewNetwork returns true; its tied card. No condition. -/
import Derived.Test.YtmkjipnemapdeaaGreatDoorGc
import Derived.Deep.RegionHeld3
import Derived.Test.YtmkjipnemapdeaaGreatDoorNr
import Derived.Test.YtmkjipnemapdeaaGreatDoorRows
import Derived.Test.YtmkjipnemapdeaaGreatDoorLTo
import Derived.Deep.AppendLies
import Derived.Test.YtmkjipnemapdeaaGreatDoorLUl
import Derived.WalkKit
import Derived.Test.YtmkjipnemapdeaaGreatDoorGy
import Derived.Lib.SliceRun
import Derived.Deep.LoopGhost
import Derived.Test.YtmkjipnemapdeaaGreatDoorTree
import Derived.WalkSpells
import Derived.WalkLawsBesides
import Derived.Test.YtmkjipnemapdeaaGreatDoorLTree
import Derived.StillTailTactics
import Derived.Deep.QuietTactic
import Derived.BigQuiet
import Derived.Test.YtmkjipnemapdeaaGreatDoorLaw
import Derived.Test.YtmkjipnemapdeaaGreatDoorRg
import Derived.ChangeArms
import Derived.Test.YtmkjipnemapdeaaGreatDoorLOpen
import Derived.Test.YtmkjipnemapdeaaGreatDoorCards
import Derived.Test.YtmkjipnemapdeaaGreatDoorTie
import Derived.ProofKit
import Derived.OpenShut
import Derived.Deep.DeepHandedRow
import Derived.Lib.LaidTab
/- NetworkValid of the model. -/
namespace Go.Proofs.YtmkjipnemapdeaaGreatDoor.Lo.Ne
open Go.RowKit

def Nd.up (g : Nd) : Lo.Nd := ⟨g.k, g.fr, g.ix, g.kids⟩
/-- A queue that is valid. -/
def queB (s : ByteArray) : Bool := Tk.labsB s && decide (s.size ≤ 3)
/-- A role's letter. -/
def lett (j : Nat) : UInt8 := if j = 0 then 65 else if j = 1 then 66 else 67
/-- The queue from a role to itself is empty. -/
def selfB (q : List ByteArray) (j : Nat) : Bool := (q.getD (4 * j) ⟨#[]⟩).toList.isEmpty
/-- The local types from a role on. -/
def allL (q : List ByteArray) : Nat → List Nd → Bool
  | _, [] => true
  | j, g :: r => (curOk g.up (lett j) && selfB q j) && allL q (j + 1) r
/-- A valid network. -/
def netB (l : List Nd) (q : List ByteArray) : Bool := decide (l.length = 3) && (decide (q.length = 9) && (allL q 0 l && q.all queB))
def AllFit (l : List Nd) : Prop := ∀ g, g ∈ l → Lo.Fit g.up

set_option maxHeartbeats 400000 in
theorem specLett (j : Nat) (hj : j < 3) (w : World) : Calls Tryz.prog 46 #[.int .i64 (j : Int)] w fun e w' => e = .returned (.string ⟨#[lett j]⟩) ∧ w = w' := by
  obtain rfl | rfl | rfl : j = 0 ∨ j = 1 ∨ j = 2 := by omega
  all_goals
    go_enter Tryz.func46, Tryz.ntmps46
    go_wp2_with fail
    go_ret
    exact ⟨rfl, rfl⟩

set_option maxHeartbeats 800000 in
/-- l4QueueValid of the model. -/
theorem specQue (s : ByteArray) (w : World) (hs : s.size ≤ 1048576) :
    Calls Tryz.prog 47 #[.string s] w fun e w' => e = .returned (.bool (queB s)) ∧ w' = w := by
  obtain ⟨ok, hok⟩ : ∃ ok, ok = queB s := ⟨_, rfl⟩
  have HOK := hide hok
  rw [← hok]
  clear hok
  go_enter Tryz.func47, Tryz.ntmps47
  go_wp2_with fail
  go_loopw [3] (fun iv wr => ∃ k : Nat, iv = .int .i64 k ∧ k ≤ s.size ∧ (s.data.toList.drop k).all Tk.labC = Tk.labsB s ∧ wr = w) (fun iv _ => s.size - (intOf iv).toNat)
  case atStart => exact ⟨0, rfl, Nat.zero_le _, rfl, rfl⟩
  case round =>
    obtain ⟨k, rfl, hk, hc, rfl⟩ := hrel
    have HC := hide hc
    clear hc
    by_cases hlt : k < s.size
    · have hl : (k : Int) < (s.size : Int) := by omega
      have he := extract_byte hlt
      have hd := drop_byte hlt
      generalize s[k]'hlt = x at *
      cases hx : Tk.labC x with
      | false =>
        have HR := hide (show ok = false by rw [HOK.out]; unfold queB; rw [← HC.out, hd]; simp [hx])
        have HX := hide (show labB ⟨#[x]⟩ = false by rw [Tk.labB_one]; exact hx)
        clear hd hx
        go_wp2_with (go_at_call 73; refine (specLab _ _).mono ?_; rintro e w' ⟨rfl, rfl⟩; rw [HX.out])
        go_ret
        exact ⟨by rw [HR.out]; rfl, rfl⟩
      | true =>
        have HR := hide (show (s.data.toList.drop (k + 1)).all Tk.labC = Tk.labsB s by
          rw [← HC.out, hd, List.all_cons, hx, Bool.true_and])
        have HX := hide (show labB ⟨#[x]⟩ = true by rw [Tk.labB_one]; exact hx)
        clear hd hx
        go_wp2_with (go_at_call 73; refine (specLab _ _).mono ?_; rintro e w' ⟨rfl, rfl⟩; rw [HX.out])
        exact ⟨⟨k + 1, by go_num, by omega, HR.out, trivial⟩, by simp [intOf]; omega⟩
    · have hl : ¬ (k : Int) < (s.size : Int) := by omega
      have HR := hide (show Tk.labsB s = true by
        rw [← HC.out, List.drop_eq_nil_of_le (by rw [Array.length_toList]; show s.size ≤ k; omega)]
        rfl)
      by_cases h3 : s.size ≤ 3
      · have h3' : (s.size : Int) ≤ 3 := by omega
        have H3 := hide h3
        clear h3
        go_wp2_with fail
        go_ret
        exact ⟨ret_bool (by rw [HOK.out]; unfold queB; rw [HR.out, decide_eq_true H3.out]; rfl), rfl⟩
      · have h3' : ¬ (s.size : Int) ≤ 3 := by omega
        have h3'' : 3 < (s.size : Int) := by omega
        have H3 := hide h3
        clear h3
        go_wp2_with fail
        go_ret
        exact ⟨ret_bool (by rw [HOK.out]; unfold queB; rw [decide_eq_false H3.out, Bool.and_false]), rfl⟩

/-- What the round reads: the network's box, the local type at the place, the queue from the role to itself. -/
structure RQ (nb : Nat) (lv qv : Value) (b1 o1 j b2 o2 m : Nat) (g : Nd) (sv : Value) (s : ByteArray) (W : World) : Prop where
  box : Box2 W nb lv qv
  c0 : W.cell? ⟨b1, o1 + j * 4, none⟩ = some (.int .i64 g.k)
  c1 : W.cell? ⟨b1, o1 + j * 4 + 1, none⟩ = some (.string g.fr)
  c2 : W.cell? ⟨b1, o1 + j * 4 + 2, none⟩ = some (.int .i64 g.ix)
  c3 : W.cell? ⟨b1, o1 + j * 4 + 3, none⟩ = some sv
  sl : Sl W sv g.kids
  qc : W.cell? ⟨b2, o2 + m, none⟩ = some (.string s)
theorem RQ.still {nb : Nat} {lv qv : Value} {b1 o1 j b2 o2 m : Nat} {g : Nd} {sv : Value} {s : ByteArray} {W W' : World} (h : RQ nb lv qv b1 o1 j b2 o2 m g sv s W) (hb : Below W.heap.size W W') : RQ nb lv qv b1 o1 j b2 o2 m g sv s W' :=
  have st := Still.of_below hb
  ⟨h.box.below hb, st _ _ h.c0, st _ _ h.c1, st _ _ h.c2, st _ _ h.c3, h.sl.still st, st _ _ h.qc⟩
theorem RQ.drew {nb : Nat} {lv qv : Value} {b1 o1 j b2 o2 m : Nat} {g : Nd} {sv : Value} {s : ByteArray} {W : World} (h : RQ nb lv qv b1 o1 j b2 o2 m g sv s W) : RQ nb lv qv b1 o1 j b2 o2 m g sv s W.drew :=
  have st := still_drew W
  ⟨h.box.drew, st _ _ h.c0, st _ _ h.c1, st _ _ h.c2, st _ _ h.c3, h.sl.still st, st _ _ h.qc⟩
theorem up_k (g : Nd) : g.up.k = g.k := rfl
theorem getD_some {q : List ByteArray} {m : Nat} (h : m < q.length) : q[m]? = some (q.getD m ⟨#[]⟩) := by
  rw [List.getD_eq_getElem?_getD, List.getElem?_eq_getElem h]
  rfl

set_option maxHeartbeats 16000000 in
set_option maxRecDepth 100000 in
/-- NetworkValid of the model at three local types and nine queues. -/
theorem specNetIn (w : World) (l : List Nd) (q : List ByteArray) (lv qv : Value) (hl : SlG elL w lv l) (hq : SlG elS w qv q) (hfit : AllFit l) (hsz : ∀ g, g ∈ l → g.kids.sz ≤ 1048576) (hqs : ∀ s, s ∈ q → s.size ≤ 1048576) (h3 : l.length = 3) (h9 : q.length = 9) :
    Calls Tryz.prog 17 #[.agg #[lv, qv]] w fun e w' => e = .returned (.bool (netB l q)) ∧ Below w.heap.size w w' := by
  obtain ⟨la, lc, rfl, hll, hal⟩ := hl.at
  obtain ⟨qa, qc, rfl, hlq, haq⟩ := hq.at
  unfold maxLen at hll hlq
  have hB := alloc_below w (.cells #[.slice la l.length lc, .slice qa q.length qc] ( /- t -/ 52))
  have HBX := hide (Box2.now w (.slice la l.length lc) (.slice qa q.length qc) ( /- t -/ 52))
  have HAL := hide (hal.still (Still.of_below hB))
  have HAQ := hide (haq.still (Still.of_below hB))
  have HSQ := hide (hq.still (Still.of_below hB))
  have HHB := hide hB
  have HFS := hide (And.intro hfit (And.intro hsz hqs))
  have HLN := hide (And.intro h3 h9)
  have hl3 : ((l.length : Int) != 3) = false := by rw [h3]; rfl
  have hq9 : ((q.length : Int) != 9) = false := by rw [h9]; rfl
  obtain ⟨ok, hok⟩ : ∃ ok, ok = netB l q := ⟨_, rfl⟩
  have HOK := hide (show ok = (allL q 0 l && q.all queB) by rw [hok]; unfold netB; rw [decide_eq_true h3, decide_eq_true h9, Bool.true_and, Bool.true_and])
  rw [← hok]
  clear hl hq hal haq hB hfit hsz hqs h3 h9 hok
  go_enter Tryz.func17, Tryz.ntmps17
  go_wp2_with fail
  generalize w.alloc (.cells #[.slice la l.length lc, .slice qa q.length qc] ( /- t -/ 52)) = W at *
  go_loopw [3] (fun iv wr => ∃ (gs : List Nd) (j : Nat), j + gs.length = l.length ∧ iv = .int .i64 j ∧ AtG elL W la j gs ∧ allL q j gs = allL q 0 l ∧ (∀ g, g ∈ gs → g ∈ l) ∧ Below W.heap.size W wr) (fun iv _ => 3 - (intOf iv).toNat)
  case atStart => exact ⟨l, 0, by omega, rfl, HAL.out, rfl, fun _ h => h, Below.refl _ _⟩
  case round =>
    obtain ⟨gs, j, hj, rfl, hg, hv, hmem, hbw⟩ := hrel
    have HV0 := hide hv
    have HBW := hide hbw
    have HMEM := hide hmem
    have HJ := hide hj
    clear hv hbw hmem hj
    cases gs with
    | nil =>
      have hj3 : ¬ (j : Int) < 3 := by have := HJ.out; have := HLN.out.1; simp only [List.length_nil] at *; omega
      have HVL : Hid (allL q 0 l = true) := hide HV0.out.symm
      clear hg
      go_wp2_with fail
      go_loopw [4] (fun iv wr => ∃ (g : List ByteArray) (k : Nat), k + g.length = q.length ∧ iv = .int .i64 k ∧ AtG elS W qa k g ∧ g.all queB = q.all queB ∧ (∀ s, s ∈ g → s ∈ q) ∧ Below W.heap.size W wr) (fun iv _ => 9 - (intOf iv).toNat)
      case atStart => exact ⟨q, 0, by omega, rfl, HAQ.out, rfl, fun _ h => h, HBW.out⟩
      case round =>
        clear HBW HV0 HJ HMEM hj3
        obtain ⟨g, k, hk, rfl, hg, hv, hmem, hbw⟩ := hrel
        have HV1 := hide hv
        have HK := hide hk
        have HBW := hide hbw
        have HMEM := hide hmem
        have HBB := hide (HHB.out.trans (hbw.mono HHB.out.size))
        obtain ⟨x0, x1⟩ := (HBX.out.below hbw).cells
        have xl := (HBX.out.below hbw).lt
        clear hv hbw hmem hk
        cases g with
        | nil =>
          have hk9 : ¬ (k : Int) < 9 := by have := HK.out; have := HLN.out.2; simp only [List.length_nil] at *; omega
          go_wp2_with fail
          go_ret
          exact ⟨ret_bool (by rw [HOK.out, HVL.out, ← HV1.out]; rfl), HBB.out⟩
        | cons s rest =>
          have hk9 : (k : Int) < 9 := by have := HK.out; have := HLN.out.2; simp only [List.length_cons] at *; omega
          have hkq : k < q.length := by have := HK.out; simp only [List.length_cons] at *; omega
          obtain ⟨b1, o1, rfl, hs1, c0⟩ := AtS.head (hg.still (Still.of_below HBW.out))
          have HG := hide hg.tail
          have HS := hide (HFS.out.2.2 s (HMEM.out s (by simp)))
          clear hg
          cases hb : queB s with
          | false =>
            have HE := hide (show q.all queB = false by rw [← HV1.out, List.all_cons, hb, Bool.false_and])
            have HQ := hide (fun (W : World) => (show Calls Tryz.prog 47 #[.string s] W (fun e w' => e = .returned (.bool false) ∧ w' = W) by have := specQue s W HS.out; rw [hb] at this; exact this))
            clear hb
            go_wp2_with (go_at_call 47; refine (HQ.out _).mono ?_; rintro e wQ ⟨rfl, rfl⟩)
            go_ret
            exact ⟨ret_bool (by rw [HOK.out, HE.out, Bool.and_false]), HBB.out⟩
          | true =>
            have HE := hide (show rest.all queB = q.all queB by rw [← HV1.out, List.all_cons, hb, Bool.true_and])
            have HQ := hide (fun (W : World) => (show Calls Tryz.prog 47 #[.string s] W (fun e w' => e = .returned (.bool true) ∧ w' = W) by have := specQue s W HS.out; rw [hb] at this; exact this))
            clear hb
            go_wp2_with (go_at_call 47; refine (HQ.out _).mono ?_; rintro e wQ ⟨rfl, rfl⟩)
            go_roundw
            case rel => exact ⟨rest, k + 1, by have := HK.out; simp only [List.length_cons] at this; omega, by go_num, HG.out, HE.out, fun x hx => HMEM.out x (by simp [hx]), HBW.out⟩
            case measure => simp [intOf]; omega
    | cons g rest =>
      have hj3 : (j : Int) < 3 := by have := HJ.out; have := HLN.out.1; simp only [List.length_cons] at *; omega
      have hjn : j < 3 := by omega
      have hjl : j < l.length := by have := HJ.out; simp only [List.length_cons] at *; omega
      obtain ⟨m, hm⟩ : ∃ m : Nat, m = 4 * j := ⟨_, rfl⟩
      have hm1 : 4 * (j : Int) = (m : Int) := by omega
      have hm9 : m < q.length := by have := HLN.out.2; omega
      have hm9' : (m : Int) < (q.length : Int) := by omega
      have hw : IntKind.i64.wrap (m : Int) = (m : Int) := by rw [IntKind.wrap_i64]; omega
      obtain ⟨s, hs⟩ : ∃ s, s = q.getD (4 * j) ⟨#[]⟩ := ⟨_, rfl⟩
      have hgs : q[m]? = some s := by rw [hs, ← hm]; exact getD_some hm9
      obtain ⟨b2, o2, rfl, -, hqc⟩ := (HSQ.out.still (Still.of_below HBW.out)).get hgs
      have hqc : wr.cell? ⟨b2, o2 + m, none⟩ = some (.string s) := by simpa [elS] using hqc
      have HSF := hide (show selfB q j = s.toList.isEmpty by unfold selfB; rw [← hs])
      clear hs hgs hm
      have hfit := HFS.out.1 g (HMEM.out g (by simp))
      have hsz := HFS.out.2.1 g (HMEM.out g (by simp))
      have HREST := hide (fun x (hx : x ∈ rest) => HMEM.out x (by simp [hx]))
      have HJ1 := hide (show j + 1 + rest.length = l.length by have := HJ.out; simp only [List.length_cons] at this; omega)
      obtain ⟨b1, o1, rfl, -, -, -, c0, c1, c2, sv, c3, hsl⟩ := (hg.still (Still.of_below HBW.out)).head
      have HR : Hid (RQ w.heap.size (.slice (some ⟨b1, o1, none⟩) l.length lc) (.slice (some ⟨b2, o2, none⟩) q.length qc) b1 o1 j b2 o2 m g sv s wr) := ⟨HBX.out.below HBW.out, c0, c1, c2, c3, hsl, hqc⟩
      have HG := hide hg.tail
      have HAQ' := HAQ
      clear hg c0 c1 c2 c3 hsl hqc HMEM HJ
      have HV0' := HV0.out
      have HCUR := hide (show allL q 0 l = ((curOk g.up (lett j) && selfB q j) && allL q (j + 1) rest) from HV0'.symm)
      clear HV0 HV0'
      cases hv : okN g.k g.fr g.ix g.kids with
      | false =>
        have HV := hide (fun (W : World) (hs : Sl W sv g.kids) => (show Calls Tryz.prog 43 #[.agg #[.int .i64 g.k, .string g.fr, .int .i64 g.ix, sv]] W (fun e w' => e = .returned (.bool false) ∧ Below W.heap.size W w') by have := specValidBig W g.k g.ix g.fr sv g.kids hs (fun _ => by omega); rw [hv] at this; exact this))
        have HE := hide (show ok = false by rw [HOK.out, HCUR.out, show curOk g.up (lett j) = false by (show (!(hasB (peersN g.k g.fr g.ix g.kids) (lett j)) && (okN g.k g.fr g.ix g.kids && okG (unf g.up))) = false); rw [hv]; simp]; simp)
        clear hv
        (have x0 := HR.out.box.cells.1)
        (have x1 := HR.out.box.cells.2)
        (have xl := HR.out.box.lt)
        (have c0 := HR.out.c0)
        (have c1 := HR.out.c1)
        (have c2 := HR.out.c2)
        (have c3 := HR.out.c3)
        (have c4 := HR.out.qc)
        go_wp2_with (first | (go_at_call 43; (with_reducible refine (HV.out _ HR.out.sl).mono ?_); rintro e wA ⟨rfl, hbA⟩; (have HR := hide (HR.out.still hbA)); (have HBW := hide (HBW.out.trans (hbA.mono HBW.out.size))); (have x0 := HR.out.box.cells.1); (have x1 := HR.out.box.cells.2); (have xl := HR.out.box.lt); (have c0 := HR.out.c0); (have c1 := HR.out.c1); (have c2 := HR.out.c2); (have c3 := HR.out.c3); (have c4 := HR.out.qc)) | fail)
        go_ret
        exact ⟨ret_bool HE.out.symm, HHB.out.trans (HBW.out.mono HHB.out.size)⟩
      | true =>
        obtain ⟨hww, hh, hz⟩ := okG_w (g := g.up) hv
        have HV := hide (fun (W : World) (hs : Sl W sv g.kids) => (show Calls Tryz.prog 43 #[.agg #[.int .i64 g.k, .string g.fr, .int .i64 g.ix, sv]] W (fun e w' => e = .returned (.bool true) ∧ Below W.heap.size W w') by have := specValidBig W g.k g.ix g.fr sv g.kids hs (fun _ => by omega); rw [hv] at this; exact this))
        have HU := hide (fun (W : World) (hs : Sl W sv g.kids) => (show Calls Tryz.prog 35 #[.agg #[.int .i64 g.k, .string g.fr, .int .i64 g.ix, sv]] W (MadeN (unf g.up).k (unf g.up).fr (unf g.up).ix (unf g.up).kids W) from unf_calls W g.up sv hs hww hh hfit))
        obtain ⟨U, hU⟩ : ∃ U, U = unf g.up := ⟨_, rfl⟩
        cases hv2 : okG (unf g.up) with
        | false =>
          have HV2 := hide (fun (W : World) (u : Value) (hs : Sl W u (unf g.up).kids) => (show Calls Tryz.prog 43 #[.agg #[.int .i64 (unf g.up).k, .string (unf g.up).fr, .int .i64 (unf g.up).ix, u]] W (fun e w' => e = .returned (.bool false) ∧ Below W.heap.size W w') by have := specValidBig W (unf g.up).k (unf g.up).ix (unf g.up).fr u (unf g.up).kids hs (fun hv => unf_bound hww hz hv); rw [show okN _ _ _ _ = false from hv2] at this; exact this))
          have HE := hide (show ok = false by rw [HOK.out, HCUR.out, show curOk g.up (lett j) = false by (show (!(hasB (peersN g.k g.fr g.ix g.kids) (lett j)) && (okN g.k g.fr g.ix g.kids && okG (unf g.up))) = false); rw [hv2]; simp]; simp)
          rw [← hU] at HU HV2
          clear hv hv2 hww hh hz hU
          (have x0 := HR.out.box.cells.1)
          (have x1 := HR.out.box.cells.2)
          (have xl := HR.out.box.lt)
          (have c0 := HR.out.c0)
          (have c1 := HR.out.c1)
          (have c2 := HR.out.c2)
          (have c3 := HR.out.c3)
          (have c4 := HR.out.qc)
          go_wp2_with (first | (go_at_call 35; (with_reducible refine (HU.out _ HR.out.sl).mono ?_); rintro e wC ⟨u, ks, rfl, how, -, -, hbC⟩; obtain ⟨ua, uc, rfl⟩ := how.val; (have HR := hide (HR.out.still hbC)); (have HBW := hide (HBW.out.trans (hbC.mono HBW.out.size))); (have x0 := HR.out.box.cells.1); (have x1 := HR.out.box.cells.2); (have xl := HR.out.box.lt); (have c0 := HR.out.c0); (have c1 := HR.out.c1); (have c2 := HR.out.c2); (have c3 := HR.out.c3); (have c4 := HR.out.qc); (have HO := hide how.sl)) | (go_at_call 43; (with_reducible refine (HV2.out _ _ HO.out).mono ?_); rintro e wD ⟨rfl, hbD⟩; (have HR := hide (HR.out.still hbD)); (have HBW := hide (HBW.out.trans (hbD.mono HBW.out.size))); (have x0 := HR.out.box.cells.1); (have x1 := HR.out.box.cells.2); (have xl := HR.out.box.lt); (have c0 := HR.out.c0); (have c1 := HR.out.c1); (have c2 := HR.out.c2); (have c3 := HR.out.c3); (have c4 := HR.out.qc)) | (go_at_call 43; (with_reducible refine (HV.out _ HR.out.sl).mono ?_); rintro e wA ⟨rfl, hbA⟩; (have HR := hide (HR.out.still hbA)); (have HBW := hide (HBW.out.trans (hbA.mono HBW.out.size))); (have x0 := HR.out.box.cells.1); (have x1 := HR.out.box.cells.2); (have xl := HR.out.box.lt); (have c0 := HR.out.c0); (have c1 := HR.out.c1); (have c2 := HR.out.c2); (have c3 := HR.out.c3); (have c4 := HR.out.qc)) | fail)
          go_ret
          exact ⟨ret_bool HE.out.symm, HHB.out.trans (HBW.out.mono HHB.out.size)⟩
        | true =>
          have HV2 := hide (fun (W : World) (u : Value) (hs : Sl W u (unf g.up).kids) => (show Calls Tryz.prog 43 #[.agg #[.int .i64 (unf g.up).k, .string (unf g.up).fr, .int .i64 (unf g.up).ix, u]] W (fun e w' => e = .returned (.bool true) ∧ Below W.heap.size W w') by have := specValidBig W (unf g.up).k (unf g.up).ix (unf g.up).fr u (unf g.up).kids hs (fun hv => unf_bound hww hz hv); rw [show okN _ _ _ _ = true from hv2] at this; exact this))
          have HCU := hide (show curOk g.up (lett j) = !(hasB (peersN g.k g.fr g.ix g.kids) (lett j)) by (show (!(hasB (peersN g.k g.fr g.ix g.kids) (lett j)) && (okN g.k g.fr g.ix g.kids && okG (unf g.up))) = _); rw [hv, hv2]; simp)
          rw [← hU] at HU HV2
          clear hv hv2 hww hh hz hU
          cases hsf : s.toList.isEmpty with
          | false =>
            have HE := hide (show ok = false by rw [HOK.out, HCUR.out, HSF.out, hsf]; simp)
            (have x0 := HR.out.box.cells.1)
            (have x1 := HR.out.box.cells.2)
            (have xl := HR.out.box.lt)
            (have c0 := HR.out.c0)
            (have c1 := HR.out.c1)
            (have c2 := HR.out.c2)
            (have c3 := HR.out.c3)
            (have c4 := HR.out.qc)
            go_wp2_with (first | (go_at_call 35; (with_reducible refine (HU.out _ HR.out.sl).mono ?_); rintro e wC ⟨u, ks, rfl, how, -, -, hbC⟩; obtain ⟨ua, uc, rfl⟩ := how.val; (have HR := hide (HR.out.still hbC)); (have HBW := hide (HBW.out.trans (hbC.mono HBW.out.size))); (have x0 := HR.out.box.cells.1); (have x1 := HR.out.box.cells.2); (have xl := HR.out.box.lt); (have c0 := HR.out.c0); (have c1 := HR.out.c1); (have c2 := HR.out.c2); (have c3 := HR.out.c3); (have c4 := HR.out.qc); (have HO := hide how.sl)) | (go_at_call 43; (with_reducible refine (HV2.out _ _ HO.out).mono ?_); rintro e wD ⟨rfl, hbD⟩; (have HR := hide (HR.out.still hbD)); (have HBW := hide (HBW.out.trans (hbD.mono HBW.out.size))); (have x0 := HR.out.box.cells.1); (have x1 := HR.out.box.cells.2); (have xl := HR.out.box.lt); (have c0 := HR.out.c0); (have c1 := HR.out.c1); (have c2 := HR.out.c2); (have c3 := HR.out.c3); (have c4 := HR.out.qc)) | (go_at_call 43; (with_reducible refine (HV.out _ HR.out.sl).mono ?_); rintro e wA ⟨rfl, hbA⟩; (have HR := hide (HR.out.still hbA)); (have HBW := hide (HBW.out.trans (hbA.mono HBW.out.size))); (have x0 := HR.out.box.cells.1); (have x1 := HR.out.box.cells.2); (have xl := HR.out.box.lt); (have c0 := HR.out.c0); (have c1 := HR.out.c1); (have c2 := HR.out.c2); (have c3 := HR.out.c3); (have c4 := HR.out.qc)) | fail)
            go_ret
            exact ⟨ret_bool HE.out.symm, HHB.out.trans (HBW.out.mono HHB.out.size)⟩
          | true =>
            obtain ⟨c, hcc⟩ : ∃ c, c = lett j := ⟨_, rfl⟩
            obtain ⟨ps, hps⟩ : ∃ ps, ps = peersN g.k g.fr g.ix g.kids := ⟨_, rfl⟩
            obtain ⟨b, hb⟩ : ∃ b, b = hasB ps c := ⟨_, rfl⟩
            have HP := hide (fun (W : World) (hs : Sl W sv g.kids) => (show Calls Tryz.prog 45 #[.agg #[.int .i64 g.k, .string g.fr, .int .i64 g.ix, sv]] W (fun e w' => e = .returned (.string ps) ∧ Below W.heap.size W w') by have := specPeers W g.k g.ix g.fr sv g.kids hs hsz; rw [← hps] at this; exact this))
            have HL3 := hide (fun (W : World) => (show Calls Tryz.prog 46 #[.int .i64 (j : Int)] W (fun e w' => e = .returned (.string ⟨#[c]⟩) ∧ W = w') by have := specLett j hjn W; rw [← hcc] at this; exact this))
            have HC := hide (fun (W : World) => (show Calls Tryz.prog 44 #[.string ps, .string ⟨#[c]⟩] W (fun e w' => e = .returned (.bool b) ∧ W = w') by have := specContains ps c W (by rw [hps]; exact peers_small _ _ _ _); rw [← hb] at this; exact this))
            have HE := hide (show ok = ((!b && allL q (j + 1) rest) && q.all queB) by rw [HOK.out, HCUR.out, HSF.out, hsf, HCU.out, hb, hps, hcc, Bool.and_true])
            have HE2 := hide (show b = false → allL q (j + 1) rest = allL q 0 l by intro h; rw [HCUR.out, HSF.out, hsf, HCU.out, ← hps, ← hcc, ← hb, h]; rfl)
            clear hcc hps hb
            cases b with
            | true =>
              (have x0 := HR.out.box.cells.1)
              (have x1 := HR.out.box.cells.2)
              (have xl := HR.out.box.lt)
              (have c0 := HR.out.c0)
              (have c1 := HR.out.c1)
              (have c2 := HR.out.c2)
              (have c3 := HR.out.c3)
              (have c4 := HR.out.qc)
              go_wp2_with (first | (go_at_call 35; (with_reducible refine (HU.out _ HR.out.sl).mono ?_); rintro e wC ⟨u, ks, rfl, how, -, -, hbC⟩; obtain ⟨ua, uc, rfl⟩ := how.val; (have HR := hide (HR.out.still hbC)); (have HBW := hide (HBW.out.trans (hbC.mono HBW.out.size))); (have x0 := HR.out.box.cells.1); (have x1 := HR.out.box.cells.2); (have xl := HR.out.box.lt); (have c0 := HR.out.c0); (have c1 := HR.out.c1); (have c2 := HR.out.c2); (have c3 := HR.out.c3); (have c4 := HR.out.qc); (have HO := hide how.sl)) | (go_at_call 43; (with_reducible refine (HV2.out _ _ HO.out).mono ?_); rintro e wD ⟨rfl, hbD⟩; (have HR := hide (HR.out.still hbD)); (have HBW := hide (HBW.out.trans (hbD.mono HBW.out.size))); (have x0 := HR.out.box.cells.1); (have x1 := HR.out.box.cells.2); (have xl := HR.out.box.lt); (have c0 := HR.out.c0); (have c1 := HR.out.c1); (have c2 := HR.out.c2); (have c3 := HR.out.c3); (have c4 := HR.out.qc)) | (go_at_call 43; (with_reducible refine (HV.out _ HR.out.sl).mono ?_); rintro e wA ⟨rfl, hbA⟩; (have HR := hide (HR.out.still hbA)); (have HBW := hide (HBW.out.trans (hbA.mono HBW.out.size))); (have x0 := HR.out.box.cells.1); (have x1 := HR.out.box.cells.2); (have xl := HR.out.box.lt); (have c0 := HR.out.c0); (have c1 := HR.out.c1); (have c2 := HR.out.c2); (have c3 := HR.out.c3); (have c4 := HR.out.qc)) | (go_at_call 45; (with_reducible refine (HP.out _ HR.out.sl).mono ?_); rintro e wE ⟨rfl, hbE⟩; (have HR := hide (HR.out.still hbE)); (have HBW := hide (HBW.out.trans (hbE.mono HBW.out.size))); (have x0 := HR.out.box.cells.1); (have x1 := HR.out.box.cells.2); (have xl := HR.out.box.lt); (have c0 := HR.out.c0); (have c1 := HR.out.c1); (have c2 := HR.out.c2); (have c3 := HR.out.c3); (have c4 := HR.out.qc)) | (go_at_call 46; (with_reducible refine (HL3.out _).mono ?_); rintro e wF ⟨rfl, rfl⟩) | (go_at_call 44; (with_reducible refine (HC.out _).mono ?_); rintro e wG ⟨rfl, rfl⟩) | fail)
              go_ret
              exact ⟨ret_bool (by rw [HE.out]; rfl), HHB.out.trans (HBW.out.mono HHB.out.size)⟩
            | false =>
              (have x0 := HR.out.box.cells.1)
              (have x1 := HR.out.box.cells.2)
              (have xl := HR.out.box.lt)
              (have c0 := HR.out.c0)
              (have c1 := HR.out.c1)
              (have c2 := HR.out.c2)
              (have c3 := HR.out.c3)
              (have c4 := HR.out.qc)
              go_wp2_with (first | (go_at_call 35; (with_reducible refine (HU.out _ HR.out.sl).mono ?_); rintro e wC ⟨u, ks, rfl, how, -, -, hbC⟩; obtain ⟨ua, uc, rfl⟩ := how.val; (have HR := hide (HR.out.still hbC)); (have HBW := hide (HBW.out.trans (hbC.mono HBW.out.size))); (have x0 := HR.out.box.cells.1); (have x1 := HR.out.box.cells.2); (have xl := HR.out.box.lt); (have c0 := HR.out.c0); (have c1 := HR.out.c1); (have c2 := HR.out.c2); (have c3 := HR.out.c3); (have c4 := HR.out.qc); (have HO := hide how.sl)) | (go_at_call 43; (with_reducible refine (HV2.out _ _ HO.out).mono ?_); rintro e wD ⟨rfl, hbD⟩; (have HR := hide (HR.out.still hbD)); (have HBW := hide (HBW.out.trans (hbD.mono HBW.out.size))); (have x0 := HR.out.box.cells.1); (have x1 := HR.out.box.cells.2); (have xl := HR.out.box.lt); (have c0 := HR.out.c0); (have c1 := HR.out.c1); (have c2 := HR.out.c2); (have c3 := HR.out.c3); (have c4 := HR.out.qc)) | (go_at_call 43; (with_reducible refine (HV.out _ HR.out.sl).mono ?_); rintro e wA ⟨rfl, hbA⟩; (have HR := hide (HR.out.still hbA)); (have HBW := hide (HBW.out.trans (hbA.mono HBW.out.size))); (have x0 := HR.out.box.cells.1); (have x1 := HR.out.box.cells.2); (have xl := HR.out.box.lt); (have c0 := HR.out.c0); (have c1 := HR.out.c1); (have c2 := HR.out.c2); (have c3 := HR.out.c3); (have c4 := HR.out.qc)) | (go_at_call 45; (with_reducible refine (HP.out _ HR.out.sl).mono ?_); rintro e wE ⟨rfl, hbE⟩; (have HR := hide (HR.out.still hbE)); (have HBW := hide (HBW.out.trans (hbE.mono HBW.out.size))); (have x0 := HR.out.box.cells.1); (have x1 := HR.out.box.cells.2); (have xl := HR.out.box.lt); (have c0 := HR.out.c0); (have c1 := HR.out.c1); (have c2 := HR.out.c2); (have c3 := HR.out.c3); (have c4 := HR.out.qc)) | (go_at_call 46; (with_reducible refine (HL3.out _).mono ?_); rintro e wF ⟨rfl, rfl⟩) | (go_at_call 44; (with_reducible refine (HC.out _).mono ?_); rintro e wG ⟨rfl, rfl⟩) | fail)
              go_roundw
              case rel => exact ⟨rest, j + 1, HJ1.out, by go_num, HG.out, HE2.out (by first | exact trivial | rfl), HREST.out, HBW.out⟩
              case measure => simp [intOf]; omega

/-- NetworkValid of the model. -/
theorem specNetValid (w : World) (l : List Nd) (q : List ByteArray) (lv qv : Value) (hl : SlG elL w lv l) (hq : SlG elS w qv q) (hfit : AllFit l) (hsz : ∀ g, g ∈ l → g.kids.sz ≤ 1048576) (hqs : ∀ s, s ∈ q → s.size ≤ 1048576) :
    Calls Tryz.prog 17 #[.agg #[lv, qv]] w fun e w' => e = .returned (.bool (netB l q)) ∧ Below w.heap.size w w' := by
  by_cases h3 : l.length = 3
  case neg =>
    obtain ⟨la, lc, rfl, -, -⟩ := hl.at
    obtain ⟨qa, qc, rfl, -, -⟩ := hq.at
    have hB := alloc_below w (.cells #[.slice la l.length lc, .slice qa q.length qc] ( /- t -/ 52))
    have h3' : ((l.length : Int) != 3) = true := bne_iff_ne.2 (by omega)
    have HE := hide (show netB l q = false by unfold netB; rw [decide_eq_false h3, Bool.false_and])
    rw [HE.out]
    clear h3
    go_enter Tryz.func17, Tryz.ntmps17
    go_wp2_with fail
    go_ret
    exact ⟨rfl, hB⟩
  by_cases h9 : q.length = 9
  case neg =>
    obtain ⟨la, lc, rfl, -, -⟩ := hl.at
    obtain ⟨qa, qc, rfl, -, -⟩ := hq.at
    have hB := alloc_below w (.cells #[.slice la l.length lc, .slice qa q.length qc] ( /- t -/ 52))
    have h3' : ((l.length : Int) != 3) = false := by rw [h3]; rfl
    have h9' : ((q.length : Int) != 9) = true := bne_iff_ne.2 (by omega)
    have HE := hide (show netB l q = false by unfold netB; rw [decide_eq_false h9, Bool.false_and, Bool.and_false])
    rw [HE.out]
    clear h3 h9
    go_enter Tryz.func17, Tryz.ntmps17
    go_wp2_with fail
    go_ret
    exact ⟨rfl, hB⟩
  exact specNetIn w l q lv qv hl hq hfit hsz hqs h3 h9
end Go.Proofs.YtmkjipnemapdeaaGreatDoor.Lo.Ne

/- What a law's walk knows of a network argument: its box and what it reads as; of a network of the call's own. -/
namespace Go.Proofs.YtmkjipnemapdeaaGreatDoor.Lo.Ne
open Go.RowKit

/-- A network in box b: what its slices read as. -/
structure NA (b : Nat) (lv qv : Value) (l : List Nd) (q : List ByteArray) (W : World) : Prop where
  box : Box2 W b lv qv
  sl : SlG elL W lv l
  sq : SlG elS W qv q
theorem NA.go {b : Nat} {lv qv : Value} {l : List Nd} {q : List ByteArray} {W W' : World} (h : NA b lv qv l q W) (hb : Below W.heap.size W W') : NA b lv qv l q W' :=
  ⟨h.box.below hb, h.sl.still (Still.of_below hb), h.sq.still (Still.of_below hb)⟩
theorem NA.drew {b : Nat} {lv qv : Value} {l : List Nd} {q : List ByteArray} {W : World} (h : NA b lv qv l q W) : NA b lv qv l q W.drew :=
  ⟨h.box.drew, h.sl.still (still_drew W), h.sq.still (still_drew W)⟩

/-- A network whose memory is the call's own. -/
structure NO (u v : Value) (l : List Nd) (q : List ByteArray) (bs cs : List Nat) (W : World) : Prop where
  ol : OwS W u l bs
  oq : OwG elS W v q cs
theorem NO.go {u v : Value} {l : List Nd} {q : List ByteArray} {bs cs : List Nat} {W W' : World} (h : NO u v l q bs cs W) (hb : Below W.heap.size W W') : NO u v l q bs cs W' :=
  ⟨h.ol.same (Same.of_below hb h.ol.lt), h.oq.same elS_flat (Same.of_below hb h.oq.lt)⟩
theorem NO.drew {u v : Value} {l : List Nd} {q : List ByteArray} {bs cs : List Nat} {W : World} (h : NO u v l q bs cs W) : NO u v l q bs cs W.drew :=
  ⟨h.ol.same (w' := W.drew) (Same.refl W _), h.oq.same (w' := W.drew) elS_flat (Same.refl W _)⟩
theorem NO.vals {u v : Value} {l : List Nd} {q : List ByteArray} {bs cs : List Nat} {W : World} (h : NO u v l q bs cs W) : ∃ a c a' c', u = .slice a l.length c ∧ v = .slice a' q.length c' := by
  obtain ⟨a, c, e⟩ := h.ol.val
  obtain ⟨a', c', e'⟩ := h.oq.val
  exact ⟨a, c, a', c', e, e'⟩
theorem NO.na {u v : Value} {l : List Nd} {q : List ByteArray} {bs cs : List Nat} {W : World} (h : NO u v l q bs cs W) {b : Nat} (hb : Box2 W b u v) : NA b u v l q W := ⟨hb, h.ol.sl, h.oq.sl⟩

/-- How much of its budget the law spends on a network. -/
def wtNet (l : List Nd) (q : List ByteArray) : Nat := l.length + wtL l + (q.length + wtS q)
theorem wtNet_l {l : List Nd} {q : List ByteArray} {n : Nat} (h : wtNet l q ≤ n) : l.length + wtL l ≤ n ∧ q.length ≤ n := by unfold wtNet at h; omega
end Go.Proofs.YtmkjipnemapdeaaGreatDoor.Lo.Ne

/- toNetwork and what it is made of: copies in new memory. -/
namespace Go.Proofs.YtmkjipnemapdeaaGreatDoor.Lo.Ne
open Go.RowKit

/-! ### Rows of strings -/

theorem Tryz.info9 : (Tryz.prog.info? ( /- t -/ 9)).map (fun i => (i.zero, i.size, i.bytes)) = some (some (.string ⟨#[]⟩), 1, 16) := by kernel_rfl
def newStrings (n : Nat) : Array Value := madeCells #[.string ⟨#[]⟩] (n * 1)
theorem makeStrings (n : Nat) (hn : n ≤ 1048576) (w : World) : (Instr.makeSlice ( /- t -/ 45) (.int .i64 (n : Int)) (.int .i64 (n : Int))).run Tryz.prog w = .ok (.slice (some ⟨w.heap.size, 0, none⟩) n n) (w.alloc (.cells (newStrings n) ( /- t -/ 9))) := by
  obtain ⟨i0, hi, hz0, hz1, hz2⟩ := info_parts Tryz.info9
  have := run_make_rowN (P := Tryz.prog) ( /- t -/ 45) ( /- t -/ 9) i0 _ Tryz.underlying45 hi hz0 .i64 .i64 n n (Nat.le_refl _) (by rw [hz2]; omega) (by omega) w
  rw [hz1] at this
  exact this

/-- A slice of strings of the call's own. -/
def MadeQ (l : List ByteArray) (w : World) (e : Ending) (w' : World) : Prop :=
  ∃ u bs, e = .returned u ∧ OwG elS w' u l bs ∧ (∀ b, b ∈ bs → w.heap.size ≤ b) ∧ bs.Nodup ∧ Below w.heap.size w w'

/-- What holds at each round's head: the strings up to the place are copied. -/
def TsRel (w : World) (a : Option Addr) (l : List ByteArray) (iv : Value) (wr : World) : Prop :=
  ∃ p g, l = p ++ g ∧ iv = .int .i64 (p.length : Nat) ∧ AtG elS w a p.length g ∧ Free wr w.heap.size l.length ∧ RowG elS wr w.heap.size 0 p ∧ Below w.heap.size w wr

theorem ts_step {w wr : World} {a : Option Addr} {p rest : List ByteArray} {s : ByteArray} (hs : s.size ≤ maxLen)
    (hat : AtG elS w a p.length (s :: rest)) (hfree : Free wr w.heap.size (p ++ s :: rest).length) (hrow : RowG elS wr w.heap.size 0 p) (hb : Below w.heap.size w wr) :
    TsRel w a (p ++ s :: rest) (.int .i64 ((p.length + 1 : Nat) : Int)) (wr.setCell ⟨w.heap.size, p.length, none⟩ (.string s)) := by
  refine ⟨p ++ [s], rest, by simp, by simp, by simpa using hat.tail, hfree.setCell _ _, ?_, hb.setCell (Nat.le_refl _) _⟩
  obtain ⟨cs, t, hh, hn⟩ := hfree
  have key : (wr.setCell ⟨w.heap.size, p.length, none⟩ (.string s)).heap[w.heap.size]? = some (.cells (cs.setIfInBounds p.length (.string s)) t (0, 0)) := heap_setCell_same hh _
  refine RowG.app (hrow.flat elS_flat (fun i hi => ?_)) ⟨⟨hs, ?_⟩, trivial⟩
  · have hi' : i < p.length := by simpa [elS] using hi
    rw [cell_of_heap key, cell_of_heap hh, Array.getElem?_setIfInBounds, if_neg (by omega)]
  · have : p.length < cs.size := by rw [hn]; simp
    rw [cell_of_heap key, Array.getElem?_setIfInBounds]
    simp [elS, this]

theorem ts_end {w wr : World} {a : Option Addr} {l : List ByteArray} {iv : Value} (h : TsRel w a l iv wr) (hlen : l.length ≤ maxLen) (hge : ∀ k : Nat, iv = .int .i64 k → l.length ≤ k) : MadeQ l w (.returned (.slice (some ⟨w.heap.size, 0, none⟩) l.length l.length)) wr := by
  obtain ⟨p, g, rfl, rfl, hat, hfree, hrow, hb⟩ := h
  have hl := hge _ rfl
  rw [List.length_append] at hl
  have hg : g = [] := by cases g with | nil => rfl | cons => simp only [List.length_cons] at hl; omega
  subst hg
  rw [List.append_nil] at *
  cases p with
  | nil => exact ⟨_, [], rfl, ⟨_, _, rfl, Nat.le_refl _, hlen, Or.inl ⟨rfl, rfl⟩⟩, fun _ h => absurd h (List.not_mem_nil), List.nodup_nil, hb⟩
  | cons s rest =>
    exact ⟨_, [w.heap.size], rfl, ⟨_, _, rfl, Nat.le_refl _, hlen, Or.inr ⟨_, _, rfl, rfl, hfree, by simp, hrow⟩⟩, fun b h => by simp at h; omega, by simp, hb⟩

set_option maxHeartbeats 800000 in
/-- toStringS. -/
theorem toS (l : List ByteArray) (w : World) (v : Value) (hs : SlG elS w v l) (hw : l.length ≤ 1048576) :
    Calls Tryz.prog 48 #[v] w (MadeQ l w) := by
  obtain ⟨a, cap, rfl, hlen, hat⟩ := hs.at
  have HA := hide hat
  clear hs hat
  have hmk := makeStrings l.length hw
  go_enter Tryz.func48, Tryz.ntmps48
  go_wp2_with fail
  clear hmk
  go_loopw [4] (fun iv wr => TsRel w a l iv wr) (fun iv _ => l.length - (intOf iv).toNat)
  case atStart => exact ⟨[], l, rfl, rfl, HA.out, ⟨newStrings l.length, ( /- t -/ 9), by show (w.heap.push _)[w.heap.size]? = _; simp, by unfold newStrings; simpa using size_madeCells _ _⟩, trivial, alloc_below _ _⟩
  case round =>
    obtain ⟨p, g, hle, rfl, hg, hfree, hrow, hb⟩ := hrel
    have HE := hide hle
    have HR := hide hrow
    clear hle hrow
    cases g with
    | nil =>
      have hge : l.length ≤ p.length := by rw [HE.out, List.append_nil]; exact Nat.le_refl _
      go_wp2_with fail
      go_ret
      exact ts_end ⟨p, [], HE.out, rfl, hg, hfree, HR.out, hb⟩ hlen (fun k e => by injection e with _ e; omega)
    | cons s rest =>
      have hlt : p.length < l.length := by rw [HE.out, List.length_append]; simp only [List.length_cons]; omega
      obtain ⟨b, o, rfl, l1, c0⟩ := AtS.head (hg.still (Still.of_below hb))
      have HT := hide hg
      have fz : ∀ o, wr.frozen? ⟨w.heap.size, o, none⟩ = false := fun o => hfree.frozen
      obtain ⟨x0, d0⟩ := hfree.cell (o := p.length) (by omega)
      clear hg
      go_wp2_with fail
      refine ⟨?_, by simp [intOf]; omega⟩
      rw [HE.out] at hfree ⊢
      exact ts_step l1 HT.out hfree HR.out hb

/-! ### Rows of nodes -/

theorem Tryz.info33 : (Tryz.prog.info? ( /- t -/ 33)).map (fun i => (i.zero, i.size, i.bytes)) = some (some (.agg #[.int .i64 0, .string ⟨#[]⟩, .int .i64 0, .slice none 0 0]), 4, 56) := by kernel_rfl
def newLocals (n : Nat) : Array Value := madeCells #[.int .i64 0, .string ⟨#[]⟩, .int .i64 0, .slice none 0 0] (n * 4)
theorem makeLocals (n : Nat) (hn : n ≤ 1048576) (w : World) : (Instr.makeSlice ( /- t -/ 50) (.int .i64 (n : Int)) (.int .i64 (n : Int))).run Tryz.prog w = .ok (.slice (some ⟨w.heap.size, 0, none⟩) n n) (w.alloc (.cells (newLocals n) ( /- t -/ 33))) := by
  obtain ⟨i0, hi, hz0, hz1, hz2⟩ := info_parts Tryz.info33
  have := run_make_rowN (P := Tryz.prog) ( /- t -/ 50) ( /- t -/ 33) i0 _ Tryz.underlying50 hi hz0 .i64 .i64 n n (Nat.le_refl _) (by rw [hz2]; omega) (by omega) w
  rw [hz1] at this
  exact this

/-- A slice of nodes of the call's own. -/
def MadeL (l : List Nd) (w : World) (e : Ending) (w' : World) : Prop :=
  ∃ u bs, e = .returned u ∧ OwS w' u l bs ∧ (∀ b, b ∈ bs → w.heap.size ≤ b) ∧ bs.Nodup ∧ Below w.heap.size w w'

def TlRel (w : World) (a : Option Addr) (l : List Nd) (iv : Value) (wr : World) : Prop :=
  ∃ p g bs, l = p ++ g ∧ iv = .int .i64 (p.length : Nat) ∧ AtG elL w a p.length g ∧ Free wr w.heap.size (l.length * 4) ∧ OwL wr w.heap.size 0 p bs ∧ (∀ b, b ∈ bs → w.heap.size < b) ∧ bs.Nodup ∧ Below w.heap.size w wr

theorem tl_step {w wr w1 : World} {a : Option Addr} {p rest : List Nd} {bs ks : List Nat} {fr : ByteArray} {k ix : Int} {kids : F} {u : Value}
    (hat : AtG elL w a p.length (⟨k, fr, ix, kids⟩ :: rest)) (hfree : Free wr w.heap.size ((p ++ ⟨k, fr, ix, kids⟩ :: rest).length * 4)) (hown : OwL wr w.heap.size 0 p bs) (hgt : ∀ b, b ∈ bs → w.heap.size < b) (hnd : bs.Nodup) (hb : Below w.heap.size w wr)
    (hu : Ow w1 u kids ks) (hks : ∀ b, b ∈ ks → wr.heap.size ≤ b) (hknd : ks.Nodup) (hb1 : Below wr.heap.size wr w1) :
    TlRel w a (p ++ ⟨k, fr, ix, kids⟩ :: rest) (.int .i64 ((p.length + 1 : Nat) : Int)) (set4 w1 w.heap.size (p.length * 4) (.int .i64 k) (.string fr) (.int .i64 ix) u) := by
  have hsz := hb.size
  have hlt : w.heap.size < wr.heap.size := hfree.lt
  have hf1 : Free w1 w.heap.size ((p ++ ⟨k, fr, ix, kids⟩ :: rest).length * 4) := hfree.below hb1
  obtain ⟨s0, c0, c1, c2, c3, hfree2⟩ := set4_heap hf1 (p.length * 4) (by rw [List.length_append]; simp only [List.length_cons]; omega) (.int .i64 k) (.string fr) (.int .i64 ix) u
  have hbs : ∀ b, b ∈ bs → b < wr.heap.size := hown.lt
  have hsame : Same wr (set4 w1 w.heap.size (p.length * 4) (.int .i64 k) (.string fr) (.int .i64 ix) u) bs := fun x hx => by
    rw [set4_other _ _ _ _ _ _ _ _ (by have := hgt x hx; omega)]
    exact hb1.block x (hbs x hx)
  have hsame1 : Same w1 (set4 w1 w.heap.size (p.length * 4) (.int .i64 k) (.string fr) (.int .i64 ix) u) ks := fun x hx =>
    set4_other _ _ _ _ _ _ _ _ (by have := hks x hx; omega)
  obtain ⟨_, _, _, z1, z2, z3, _⟩ := AtL.head hat
  refine ⟨p ++ [⟨k, fr, ix, kids⟩], rest, bs ++ ks, by simp, by simp, ?_, hfree2, ?_, ?_, ?_, ?_⟩
  · simpa using hat.tail
  · refine OwL.app (hown.same (fun i hi => ?_) hsame) ?_
    · rw [s0 _ (by omega)]
      exact hb1.cell (p := ⟨w.heap.size, 0 + i, none⟩) hlt
    · rw [show 0 + 4 * p.length = p.length * 4 by omega]
      exact ⟨z1, z2, z3, c0, c1, c2, ks, [], by simp, ⟨u, c3, hu.same hsame1⟩, rfl⟩
  · intro b hm
    rcases List.mem_append.1 hm with hm | hm
    · exact hgt b hm
    · have := hks b hm
      omega
  · refine List.nodup_append.2 ⟨hnd, hknd, fun x hx y hy => ?_⟩
    have := hbs x hx
    have := hks y hy
    omega
  · exact set4_below (hb.trans (hb1.mono hsz)) _ _ (Nat.le_refl _) _ _ _ _

theorem tl_end {w wr : World} {a : Option Addr} {l : List Nd} {iv : Value} (h : TlRel w a l iv wr) (hlen : l.length ≤ maxLen) (hge : ∀ k : Nat, iv = .int .i64 k → l.length ≤ k) : MadeL l w (.returned (.slice (some ⟨w.heap.size, 0, none⟩) l.length l.length)) wr := by
  obtain ⟨p, g, bs, rfl, rfl, hat, hfree, hown, hgt, hnd, hb⟩ := h
  have hl := hge _ rfl
  rw [List.length_append] at hl
  have hg : g = [] := by cases g with | nil => rfl | cons => simp only [List.length_cons] at hl; omega
  subst hg
  rw [List.append_nil] at *
  cases p with
  | nil => exact ⟨_, [], rfl, ⟨_, _, rfl, Nat.le_refl _, hlen, Or.inl ⟨rfl, rfl⟩⟩, fun _ h => absurd h (List.not_mem_nil), List.nodup_nil, hb⟩
  | cons n rest =>
    refine ⟨_, w.heap.size :: bs, rfl, ⟨_, _, rfl, Nat.le_refl _, hlen, Or.inr ⟨_, _, bs, rfl, rfl, hfree, by simp, hown⟩⟩, fun b h => ?_, List.nodup_cons.2 ⟨fun h => ?_, hnd⟩, hb⟩
    · rcases List.mem_cons.1 h with rfl | h
      · exact Nat.le_refl _
      · exact Nat.le_of_lt (hgt b h)
    · exact absurd (hgt _ h) (Nat.lt_irrefl _)

set_option maxHeartbeats 800000 in
/-- toLocalS. -/
theorem toL (l : List Nd) (w : World) (v : Value) (hs : SlG elL w v l) (hw : l.length + wtL l ≤ 1048576) :
    Calls Tryz.prog 25 #[v] w (MadeL l w) := by
  obtain ⟨a, cap, rfl, hlen, hat⟩ := hs.at
  have HA := hide hat
  have hl1 : l.length ≤ 1048576 := by omega
  clear hs hat
  have hmk := makeLocals l.length hl1
  go_enter Tryz.func25, Tryz.ntmps25
  go_wp2_with fail
  clear hmk
  go_loopw [4] (fun iv wr => TlRel w a l iv wr) (fun iv _ => l.length - (intOf iv).toNat)
  case atStart => exact ⟨[], l, [], rfl, rfl, HA.out, ⟨newLocals l.length, ( /- t -/ 33), by show (w.heap.push _)[w.heap.size]? = _; simp, by unfold newLocals; exact size_madeCells _ _⟩, rfl, fun _ h => absurd h (List.not_mem_nil), List.nodup_nil, alloc_below _ _⟩
  case round =>
    obtain ⟨p, g, bs, hle, rfl, hg, hfree, hown, hgt, hnd, hb⟩ := hrel
    have HE := hide hle
    have HO := hide hown
    have HG := hide hgt
    clear hle hown hgt
    cases g with
    | nil =>
      have hge : l.length ≤ p.length := by rw [HE.out, List.append_nil]; exact Nat.le_refl _
      go_wp2_with fail
      go_ret
      exact tl_end ⟨p, [], bs, HE.out, rfl, hg, hfree, HO.out, HG.out, hnd, hb⟩ hlen (fun k e => by injection e with _ e; omega)
    | cons n rest =>
      obtain ⟨kd, fr, ix, kids⟩ := n
      have hlt : p.length < l.length := by rw [HE.out, List.length_append]; simp only [List.length_cons]; omega
      have hz : kids.len + kids.wt ≤ 1048576 := by
        rw [HE.out, wtL_app] at hw
        simp only [wtL, Nd.wt] at hw
        omega
      have HZ := hide hz
      obtain ⟨b, o, rfl, l1, -, -, c0, c1, c2, sv, c3, hsv⟩ := AtL.head (hg.still (Still.of_below hb))
      have HSV := hide hsv
      have HT := hide hg
      clear hz hsv hg
      go_wp2_with fail
      refine (to_calls kids wr kd ix fr sv HSV.out HZ.out).mono ?_
      rintro e w1 ⟨u, ks, rfl, how, hks, hknd, hb1⟩
      obtain ⟨ua, uc, rfl⟩ := how.val
      have hf1 := hfree.below hb1
      have fz : ∀ o, w1.frozen? ⟨w.heap.size, o, none⟩ = false := fun o => hf1.frozen
      obtain ⟨x0, d0⟩ := hf1.cell (o := p.length * 4) (by omega)
      obtain ⟨x1, d1⟩ := hf1.cell (o := p.length * 4 + 1) (by omega)
      obtain ⟨x2, d2⟩ := hf1.cell (o := p.length * 4 + 2) (by omega)
      obtain ⟨x3, d3⟩ := hf1.cell (o := p.length * 4 + 3) (by omega)
      have HU := hide how
      have HK := hide hks
      clear how hks
      go_wp2_with fail
      refine ⟨?_, by simp [intOf]; omega⟩
      rw [HE.out] at hfree ⊢
      exact tl_step HT.out hfree HO.out HG.out hnd hb HU.out HK.out hknd hb1

/-- A network of the call's own. -/
def MadeNet (l : List Nd) (q : List ByteArray) (w : World) (e : Ending) (w' : World) : Prop :=
  ∃ u v bs cs, e = .returned (.agg #[u, v]) ∧ OwS w' u l bs ∧ OwG elS w' v q cs ∧ (∀ b, b ∈ bs ++ cs → w.heap.size ≤ b) ∧ (bs ++ cs).Nodup ∧ Below w.heap.size w w'

set_option maxHeartbeats 800000 in
/-- toNetwork. -/
theorem toNet (w : World) (lv qv : Value) (l : List Nd) (q : List ByteArray) (hl : SlG elL w lv l) (hq : SlG elS w qv q) (hw : l.length + wtL l ≤ 1048576) (hw2 : q.length ≤ 1048576) :
    Calls Tryz.prog 18 #[.agg #[lv, qv]] w (MadeNet l q w) := by
  obtain ⟨la, lc, rfl, -, -⟩ := hl.at
  obtain ⟨qa, qc, rfl, -, -⟩ := hq.at
  have HL := hide hl
  have HQ := hide hq
  clear hl hq
  go_enter Tryz.func18, Tryz.ntmps18
  go_wp2_with fail
  refine (toL l _ _ (HL.out.still (Still.of_below ?_)) hw).mono ?_
  · exact ((alloc_below _ _).alloc (by simp) _).alloc (by simp; omega) _
  rintro e w1 ⟨u, bs, rfl, how, hge, hnd, hb⟩
  obtain ⟨ua, uc, rfl⟩ := how.val
  have HO := hide how
  have HG := hide hge
  clear how hge
  obtain ⟨hc, hf⟩ := bcell hb
  go_wp2_with fail
  have hz := hb.size
  simp at hz
  have hB : Below w.heap.size w w1 := ((((alloc_below w _).alloc (by simp) _).alloc (by simp; omega) _).trans (hb.mono (by simp; omega)))
  refine (toS q _ _ (HQ.out.still (Still.of_below ?_)) hw2).mono ?_
  · repeat (refine Below.setCell ?_ (by first | (simp; done) | (simp; omega)) _)
    exact hB
  rintro e w2 ⟨v, cs, rfl, how2, hge2, hnd2, hb2⟩
  obtain ⟨va, vc, rfl⟩ := how2.val
  have HO2 := hide how2
  have HG2 := hide hge2
  clear how2 hge2
  have X0 : Box2 w1 (w.heap.size + 1) (.slice none 0 0) (.slice none 0 0) := by
    have := ((Box2.now (w.alloc (.cells #[.slice la l.length lc, .slice qa q.length qc] ( /- t -/ 47))) (.slice none 0 0) (.slice none 0 0) ( /- t -/ 52)).below (alloc_below _ _)).below hb
    simpa using this
  have Y0 : Box2 w1 (w.heap.size + 1 + 1) (.slice none 0 0) (.slice none 0 0) := by
    have := (Box2.now ((w.alloc (.cells #[.slice la l.length lc, .slice qa q.length qc] ( /- t -/ 47))).alloc (.cells #[.slice none 0 0, .slice none 0 0] ( /- t -/ 52))) (.slice none 0 0) (.slice none 0 0) ( /- t -/ 52)).below hb
    simpa using this
  have X2 := (X0.setOther (p := ⟨w.heap.size + 1 + 1, 0, none⟩) (by simp) (.slice ua l.length uc)).below hb2
  have Y2 := (Y0.set0 (.slice ua l.length uc)).below hb2
  have hz2 := hb2.size
  simp at hz2
  have hB2 : Below w.heap.size w w2 := (hB.setCell (p := ⟨w.heap.size + 1 + 1, 0, none⟩) (by simp; omega) (.slice ua l.length uc)).trans (hb2.mono (by simp; omega))
  have HO3 := hide ((HO.out.same (Same.refl _ _ |>.setCell (p := ⟨w.heap.size + 1 + 1, 0, none⟩) (fun b h => by have := HG.out b h; simp at this; simp; omega) (.slice ua l.length uc))).same (Same.of_below hb2 (fun b h => by have := HO.out.lt b h; simpa using this)))
  have HG3 : Hid (∀ b, b ∈ bs → w.heap.size + 3 ≤ b ∧ b < w1.heap.size) := fun b h => ⟨by have := HG.out b h; simp at this; omega, HO.out.lt b h⟩
  have HG4 : Hid (∀ b, b ∈ cs → w1.heap.size ≤ b) := fun b h => by have := HG2.out b h; simpa using this
  obtain ⟨x0, x1⟩ := X2.cells
  obtain ⟨y0, y1⟩ := Y2.cells
  have fx := X2.frozen
  have fy := Y2.frozen
  have HX2 := hide X2
  have HY2 := hide Y2
  have xl := X2.lt
  have yl := Y2.lt
  clear hc hf hb hb2 HO HG HG2 X0 Y0 X2 Y2
  go_wp2_with fail
  have b1 := (HX2.out.setOther (p := ⟨w.heap.size + 1 + 1, 1, none⟩) (by simp) (.slice va q.length vc)).set0 (.slice ua l.length uc)
  have e0 := b1.cells.1
  have e1 := (b1.set1 (.slice va q.length vc)).cells.2
  refine bodyPost_ret (v := .agg #[.slice ua l.length uc, .slice va q.length vc]) (by simp [results, Tryz.results18, go_sem, e0, e1]) rfl ?_
  refine ⟨_, _, bs, cs, rfl, HO3.out.same ?_, HO2.out.same elS_flat ?_, ?_, ?_, ?_⟩
  · repeat (refine Same.setCell ?_ (fun b h => by have := HG3.out b h; simp; omega) _)
    exact Same.refl _ _
  · repeat (refine Same.setCell ?_ (fun b h => by have := HG4.out b h; simp; omega) _)
    exact Same.refl _ _
  · intro b h
    rcases List.mem_append.1 h with h | h
    · have := HG3.out b h; omega
    · have := HG4.out b h; omega
  · refine List.nodup_append.2 ⟨hnd, hnd2, fun x hx y hy => ?_⟩
    have := HG3.out x hx
    have := HG4.out y hy
    omega
  · repeat (refine Below.setCell ?_ (by first | (simp; done) | (simp; omega)) _)
    exact hB2
end Go.Proofs.YtmkjipnemapdeaaGreatDoor.Lo.Ne

/- A slice of local types of the call's own that grows by append: its cells and the nodes that it reads as. -/
namespace Go.Proofs.YtmkjipnemapdeaaGreatDoor.Lo.Ne
open Go.RowKit

/-- The row's cells stand at another place. -/
theorem OwL.moved {w w' : World} {b b' : Nat} : ∀ {l : List Nd} {o o' : Nat} {bs : List Nat}, OwL w b o l bs → (∀ i, i < 4 * l.length → w'.cell? ⟨b', o' + i, none⟩ = w.cell? ⟨b, o + i, none⟩) → Same w w' bs → OwL w' b' o' l bs
  | [], _, _, _, h, _, _ => h
  | n :: r, o, o', bs, ⟨l1, l2, l3, c0, c1, c2, ks, rs, e, ⟨sv, c3, hs⟩, hr⟩, hc, hsame => by
    subst e
    have q : ∀ i, i < 4 → w'.cell? ⟨b', o' + i, none⟩ = w.cell? ⟨b, o + i, none⟩ := fun i hi => hc i (by simp only [List.length_cons]; omega)
    exact ⟨l1, l2, l3, (q 0 (by omega)).trans c0, (q 1 (by omega)).trans c1, (q 2 (by omega)).trans c2, ks, rs, rfl, ⟨sv, (q 3 (by omega)).trans c3, hs.same (fun x hx => hsame x (List.mem_append_left _ hx))⟩,
      OwL.moved hr (fun i hi => by rw [Nat.add_assoc, Nat.add_assoc]; exact hc (4 + i) (by simp only [List.length_cons]; omega)) (fun x hx => hsame x (List.mem_append_right _ hx))⟩

/-- The slice that grows: nil, or a row of its own block, from base on, the blocks below it from base on too, each named once. -/
def GrL (w : World) (base : Nat) (v : Value) (f : List Nd) (bs : List Nat) : Prop :=
  (f = [] ∧ v = .slice none 0 0 ∧ bs = []) ∨
  ∃ g cap cur bs', v = .slice (some ⟨g, 0, none⟩) f.length cap ∧ base ≤ g ∧ w.heap[g]? = some (.cells cur ( /- t -/ 33) (0, 0)) ∧ f.length ≤ cap ∧ cap ≤ maxLen ∧ cur.size = cap * 4 ∧
    f ≠ [] ∧ bs = g :: bs' ∧ OwL w g 0 f bs' ∧ (∀ b, b ∈ bs' → base ≤ b) ∧ (g :: bs').Nodup

theorem GrL.nil (w : World) (base : Nat) : GrL w base (.slice none 0 0) [] [] := Or.inl ⟨rfl, rfl, rfl⟩
theorem GrL.ow {w : World} {base : Nat} {v : Value} {f : List Nd} {bs : List Nat} (h : GrL w base v f bs) : OwS w v f bs := by
  rcases h with ⟨rfl, rfl, rfl⟩ | ⟨g, cap, cur, bs', rfl, h1, h2, h3, h4, h5, h6, rfl, h7, h8, h9⟩
  · exact ⟨none, 0, rfl, Nat.le_refl _, Nat.zero_le _, Or.inl ⟨rfl, rfl⟩⟩
  · exact ⟨_, cap, rfl, h3, h4, Or.inr ⟨g, cap * 4, bs', rfl, rfl, ⟨cur, _, h2, h5⟩, h6, h7⟩⟩
theorem GrL.ge {w : World} {base : Nat} {v : Value} {f : List Nd} {bs : List Nat} (h : GrL w base v f bs) : ∀ b, b ∈ bs → base ≤ b := by
  rcases h with ⟨rfl, rfl, rfl⟩ | ⟨g, cap, cur, bs', rfl, h1, h2, h3, h4, h5, h6, rfl, h7, h8, h9⟩
  · intro b hb; simp at hb
  · intro b hb
    rcases List.mem_cons.1 hb with rfl | hb
    · exact h1
    · exact h8 b hb
theorem GrL.nodup {w : World} {base : Nat} {v : Value} {f : List Nd} {bs : List Nat} (h : GrL w base v f bs) : bs.Nodup := by
  rcases h with ⟨rfl, rfl, rfl⟩ | ⟨g, cap, cur, bs', rfl, h1, h2, h3, h4, h5, h6, rfl, h7, h8, h9⟩
  · exact List.nodup_nil
  · exact h9
theorem GrL.val {w : World} {base : Nat} {v : Value} {f : List Nd} {bs : List Nat} (h : GrL w base v f bs) : ∃ a cap, v = .slice a f.length cap := h.ow.val
theorem GrL.lt {w : World} {base : Nat} {v : Value} {f : List Nd} {bs : List Nat} (h : GrL w base v f bs) : ∀ b, b ∈ bs → b < w.heap.size := h.ow.lt
/-- The block is one of them. -/
theorem GrL.block {w : World} {base : Nat} {v : Value} {f : List Nd} {bs : List Nat} (h : GrL w base v f bs) : ∀ g, v.ownBlock = some g → g ∈ bs := by
  rcases h with ⟨rfl, rfl, rfl⟩ | ⟨g, cap, cur, bs', rfl, h1, h2, h3, h4, h5, h6, rfl, h7, h8, h9⟩
  · intro g hg; simp [Value.ownBlock] at hg
  · intro g' hg
    simp only [Value.ownBlock, Option.some.injEq] at hg
    simp [hg]
theorem GrL.same {w w' : World} {base : Nat} {v : Value} {f : List Nd} {bs : List Nat} (h : GrL w base v f bs) (hs : Same w w' bs) : GrL w' base v f bs := by
  rcases h with h | ⟨g, cap, cur, bs', rfl, h1, h2, h3, h4, h5, h6, rfl, h7, h8, h9⟩
  · exact Or.inl h
  · have hg : w'.heap[g]? = w.heap[g]? := hs g (by simp)
    exact Or.inr ⟨g, cap, cur, bs', rfl, h1, hg.trans h2, h3, h4, h5, h6, rfl, h7.same (fun i _ => Same.cell hg) (fun x hx => hs x (by simp [hx])), h8, h9⟩
theorem GrL.below {w w' : World} {base : Nat} {v : Value} {f : List Nd} {bs : List Nat} (h : GrL w base v f bs) (hb : Below w.heap.size w w') : GrL w' base v f bs := h.same (Same.of_below hb h.lt)

/-- The cells of the row. -/
def grXl (w : World) (v : Value) (f : List Nd) : List Value :=
  match v with
  | .slice (some a) _ _ => match w.heap[a.block]? with
    | some (.cells cur _ _) => cur.toList.take (f.length * 4)
    | _ => []
  | _ => []
theorem GrL.owns {w : World} {base : Nat} {v : Value} {f : List Nd} {bs : List Nat} (h : GrL w base v f bs) : w.ownsRow base ( /- t -/ 33) 4 v f.length (grXl w v f) := by
  rcases h with ⟨rfl, rfl, rfl⟩ | ⟨g, cap, cur, bs', rfl, h1, h2, h3, h4, h5, h6, rfl, h7, h8, h9⟩
  · exact ⟨by simp [grXl], Or.inl ⟨rfl, rfl⟩⟩
  · have hx : grXl w (.slice (some ⟨g, 0, none⟩) f.length cap) f = cur.toList.take (f.length * 4) := by
      unfold grXl
      simp only [h2]
    rw [hx]
    refine ⟨?_, Or.inr ⟨g, cap, cur, rfl, h1, h2, h3, h4, h5, rfl⟩⟩
    have h10 : cur.toList.length = cap * 4 := by simpa using h5
    rw [List.length_take, h10]
    omega

theorem ownsRowL_cell {w : World} {base e n : Nat} {g cap : Nat} {xs : List Value} (h : w.ownsRow base e 4 (.slice (some ⟨g, 0, none⟩) n cap) n xs) (hn : 0 < n) (i : Nat) (hi : i < n * 4) :
    ∃ cur, w.heap[g]? = some (.cells cur e (0, 0)) ∧ n ≤ cap ∧ cap ≤ maxLen ∧ cur.size = cap * 4 ∧ base ≤ g ∧ w.cell? ⟨g, i, none⟩ = xs[i]? := by
  obtain ⟨hl, h | ⟨g', cap', cur, hv, h1, h2, h3, h4, h5, h6⟩⟩ := h
  · omega
  · simp only [Value.slice.injEq, Option.some.injEq, Addr.mk.injEq, true_and] at hv
    obtain ⟨⟨rfl, _⟩, rfl⟩ := hv
    refine ⟨cur, h2, h3, h4, h5, h1, ?_⟩
    rw [← h6, List.getElem?_take]
    rw [if_pos hi]
    simp [World.cell?, h2]

/-- One branch more. -/
theorem GrL.push {w w' : World} {base : Nat} {v : Value} {f : List Nd} {bs : List Nat} (h : GrL w base v f bs) {fr : ByteArray} {k ix : Int} {u : Value} {kids : F} {ks : List Nat} (hu : Ow w u kids ks) (hks : ∀ b, b ∈ ks → base ≤ b) (hnd : ks.Nodup) (hdj : ∀ b, b ∈ bs → b ∉ ks)
    (hf : fr.size ≤ maxLen) (hk : (Lit.int .i64 k).wf = true) (hi : (Lit.int .i64 ix).wf = true)
    {g cap : Nat} (hw' : w'.ownsRow base ( /- t -/ 33) 4 (.slice (some ⟨g, 0, none⟩) (f.length + 1) cap) (f.length + 1) (grXl w v f ++ [.int .i64 k, .string fr, .int .i64 ix, u]))
    (hgr : w.grownBy w' v.ownBlock) (hg : v.ownBlock = some g ∨ g = w.heap.size) :
    ∃ bs', GrL w' base (.slice (some ⟨g, 0, none⟩) (f.length + 1) cap) (f ++ [(⟨k, fr, ix, kids⟩ : Nd)]) bs' ∧ (∀ b, b ∈ bs' → b ∈ bs ∨ b ∈ ks ∨ b = w.heap.size) := by
  obtain ⟨cur, c1, c2, c3, c4, c5, _⟩ := ownsRowL_cell hw' (by omega) 0 (by omega)
  have hcell : ∀ i, i < (f.length + 1) * 4 → w'.cell? ⟨g, i, none⟩ = (grXl w v f ++ [.int .i64 k, .string fr, .int .i64 ix, u])[i]? := fun i hi => by
    obtain ⟨_, _, _, _, _, _, hh⟩ := ownsRowL_cell hw' (by omega) i hi
    exact hh
  have hxl : (grXl w v f).length = f.length * 4 := h.owns.1
  have hn : ∀ j, j < 4 → w'.cell? ⟨g, 0 + f.length * 4 + j, none⟩ = ([.int .i64 k, .string fr, .int .i64 ix, u] : List Value)[j]? := fun j hj => by
    rw [show 0 + f.length * 4 + j = f.length * 4 + j by omega, hcell _ (by omega), List.getElem?_append_right (by omega)]
    rw [show f.length * 4 + j - (grXl w v f).length = j by omega]
  have hsks : Same w w' ks := fun b hb => hgr.block b (hu.lt b hb) (fun e => hdj b (h.block b e.symm) hb)
  have hul := hu.lt
  obtain ⟨ua, uc, rfl, e1, e2, hkk⟩ := hu.same hsks
  have hnew : OwL w' g (0 + 4 * f.length) [(⟨k, fr, ix, kids⟩ : Nd)] ks := by
    rw [show 0 + 4 * f.length = 0 + f.length * 4 by omega]
    exact ⟨hf, hk, hi, hn 0 (by omega), hn 1 (by omega), hn 2 (by omega), ks, [], by simp, ⟨.slice ua kids.len uc, hn 3 (by omega), ⟨ua, uc, rfl, e1, e2, hkk⟩⟩, rfl⟩
  have hlen : (f ++ [(⟨k, fr, ix, kids⟩ : Nd)]).length = f.length + 1 := by simp
  have hne : f ++ [(⟨k, fr, ix, kids⟩ : Nd)] ≠ [] := by
    intro e
    rw [e] at hlen
    simp at hlen
  rcases h with ⟨rfl, rfl, rfl⟩ | ⟨g0, cap0, cur0, bs0, rfl, h1, h2, h3, h4, h5, h6, rfl, h7, h8, h9⟩
  · have hgg : g = w.heap.size := by
      rcases hg with hg | hg
      · simp [Value.ownBlock] at hg
      · exact hg
    refine ⟨g :: ks, Or.inr ⟨g, cap, cur, ks, by rw [hlen], c5, c1, by rw [hlen]; exact c2, c3, c4, hne, rfl, ?_, hks, List.nodup_cons.2 ⟨fun hm => ?_, hnd⟩⟩, fun b hb => ?_⟩
    · simpa using hnew
    · have := hul g hm
      omega
    · rcases List.mem_cons.1 hb with rfl | hb
      · exact Or.inr (Or.inr hgg)
      · exact Or.inr (Or.inl hb)
  · have hsame : Same w w' bs0 := fun b hb => hgr.block b (h7.lt b hb) (fun e => by
      simp only [Value.ownBlock, Option.some.injEq] at e
      subst e
      exact (List.nodup_cons.1 h9).1 hb)
    have hold : OwL w' g 0 f bs0 := by
      refine h7.moved (fun i hi => ?_) hsame
      rw [Nat.zero_add, hcell i (by omega), List.getElem?_append_left (by omega)]
      have hx : grXl w (.slice (some ⟨g0, 0, none⟩) f.length cap0) f = cur0.toList.take (f.length * 4) := by
        unfold grXl
        simp only [h2]
      rw [hx, List.getElem?_take, if_pos (by omega)]
      simp [World.cell?, h2]
    have hgn : g ∉ bs0 ∧ g ∉ ks := by
      rcases hg with hg | hg
      · simp only [Value.ownBlock, Option.some.injEq] at hg
        subst hg
        exact ⟨(List.nodup_cons.1 h9).1, hdj _ (by simp)⟩
      · constructor
        · intro hm
          have := h7.lt g hm
          omega
        · intro hm
          have := hul g hm
          omega
    refine ⟨g :: (bs0 ++ ks), Or.inr ⟨g, cap, cur, bs0 ++ ks, by rw [hlen], c5, c1, by rw [hlen]; exact c2, c3, c4, hne, rfl, OwL.app hold hnew, fun b hb => ?_, List.nodup_cons.2 ⟨fun hm => ?_, List.nodup_append.2 ⟨(List.nodup_cons.1 h9).2, hnd, fun x hx y hy => ?_⟩⟩⟩, fun b hb => ?_⟩
    · rcases List.mem_append.1 hb with hb | hb
      · exact h8 b hb
      · exact hks b hb
    · rcases List.mem_append.1 hm with hm | hm
      · exact hgn.1 hm
      · exact hgn.2 hm
    · rintro rfl
      exact hdj x (by simp [hx]) hy
    · rcases List.mem_cons.1 hb with rfl | hb
      · rcases hg with hg | hg
        · simp only [Value.ownBlock, Option.some.injEq] at hg
          exact Or.inl (by simp [hg])
        · exact Or.inr (Or.inr hg)
      · rcases List.mem_append.1 hb with hb | hb
        · exact Or.inl (by simp [hb])
        · exact Or.inr (Or.inl hb)
end Go.Proofs.YtmkjipnemapdeaaGreatDoor.Lo.Ne

/- NewNetwork of the model. -/
namespace Go.Proofs.YtmkjipnemapdeaaGreatDoor.Lo.Ne
open Go.RowKit

/-- A row of strings out of its cells. -/
theorem rowS_cells {w : World} {b : Nat} : ∀ {q : List ByteArray} {o : Nat}, (∀ s, s ∈ q → s.size ≤ maxLen) → (∀ (i : Nat) s, q[i]? = some s → w.cell? ⟨b, o + i, none⟩ = some (.string s)) → RowG elS w b o q
  | [], _, _, _ => trivial
  | s :: r, o, hm, h => ⟨⟨hm s (by simp), by simpa using h 0 s rfl⟩, rowS_cells (fun x hx => hm x (by simp [hx])) (fun i x hx => by
      have := h (i + 1) x (by simpa using hx)
      rw [show o + (i + 1) = o + elS.st + i by simp [elS]; omega] at this
      exact this)⟩
/-- A slice of strings that the call owns. -/
theorem owQ_owns {w : World} {base : Nat} {v : Value} {q : List ByteArray} (hne : q ≠ []) (hm : ∀ s, s ∈ q → s.size ≤ maxLen) (h : w.ownsRow base ( /- t -/ 9) 1 v q.length (q.map Value.string)) :
    ∃ g cap, v = .slice (some ⟨g, 0, none⟩) q.length cap ∧ base ≤ g ∧ OwG elS w v q [g] := by
  obtain ⟨hl, h | ⟨g, cap, cur, rfl, h1, h2, h3, h4, h5, h6⟩⟩ := h
  · exact absurd (List.length_eq_zero_iff.1 h.2) hne
  · refine ⟨g, cap, rfl, h1, ⟨_, cap, rfl, h3, h4, Or.inr ⟨g, cap, rfl, rfl, ⟨cur, _, h2, by simpa using h5⟩, hne, rowS_cells hm (fun i s hi => ?_)⟩⟩⟩
    rw [cell_of_heap h2]
    have hx : (q.map Value.string)[i]? = some (.string s) := by simp [hi]
    rw [← h6, List.getElem?_take] at hx
    split at hx
    · simpa using hx
    · cases hx

theorem rowS_small {w : World} {b : Nat} : ∀ {q : List ByteArray} {o : Nat}, RowG elS w b o q → ∀ s, s ∈ q → s.size ≤ maxLen
  | [], _, _ => fun s h => by cases h
  | x :: r, o, h => fun s hs => by
    rcases List.mem_cons.1 hs with rfl | hs
    · exact h.1.1
    · exact rowS_small h.2 s hs
theorem rowS_cell {w : World} {b o : Nat} {q : List ByteArray} (h : RowG elS w b o q) (j : Nat) (u : Value) (hj : (q.map Value.string)[j]? = some u) : w.cell? ⟨b, o + j, none⟩ = some u := by
  rw [List.getElem?_map] at hj
  cases hs : q[j]? with
  | none => rw [hs] at hj; cases hj
  | some s =>
    rw [hs] at hj
    cases hj
    have := (h.get hs).2
    simpa [elS] using this
/-- Nine empty strings. -/
def noQ : List ByteArray := List.replicate 9 ⟨#[]⟩

/-- What holds at each round's head of l4Copy. -/
def CnRel (w : World) (l : List Nd) (q : List ByteArray) (la : Option Addr) (lv qv qn : Value) (gq bo : Nat) (iv : Value) (wr : World) : Prop :=
  ∃ p g v bs, l = p ++ g ∧ iv = .int .i64 (p.length : Nat) ∧ AtG elL w la p.length g ∧ Box2 wr w.heap.size lv qv ∧ Box2 wr (w.heap.size + 1) (.slice none 0 0) (.slice none 0 0) ∧ Box2 wr bo v qn ∧ GrL wr (bo + 1) v p bs ∧ OwG elS wr qn q [gq] ∧ gq < bo ∧ w.heap.size + 2 ≤ gq ∧ Below w.heap.size w wr

/-- One round more. -/
theorem cn_step {w wr w5 w6 : World} {q : List ByteArray} {la : Option Addr} {lv qv qn v : Value} {gq bo gg cp uc : Nat} {p rest : List Nd} {bs ks : List Nat} {k ix : Int} {fr : ByteArray} {kids : F} {ua : Option Addr}
    (hg : AtG elL w la p.length (⟨k, fr, ix, kids⟩ :: rest)) (hX : Box2 wr w.heap.size lv qv) (hY : Box2 wr (w.heap.size + 1) (.slice none 0 0) (.slice none 0 0)) (hO : Box2 wr bo v qn) (hG : GrL wr (bo + 1) v p bs) (hQ : OwG elS wr qn q [gq]) (hgb : gq < bo) (hg2 : w.heap.size + 2 ≤ gq) (hb : Below w.heap.size w wr)
    (hb5 : Below wr.heap.size wr w5) (hu : Ow w5 (.slice ua kids.len uc) kids ks) (hks : ∀ b, b ∈ ks → wr.heap.size ≤ b) (hnd : ks.Nodup) (hf : fr.size ≤ maxLen) (hk : (Lit.int .i64 k).wf = true) (hi : (Lit.int .i64 ix).wf = true)
    (hown : w6.ownsRow (bo + 1) ( /- t -/ 33) 4 (.slice (some ⟨gg, 0, none⟩) (p.length + 1) cp) (p.length + 1) (grXl (w5.alloc (.cells #[.int .i64 k, .string fr, .int .i64 ix, .slice ua kids.len uc] ( /- t -/ 33))) v p ++ [.int .i64 k, .string fr, .int .i64 ix, .slice ua kids.len uc]))
    (hgr : (w5.alloc (.cells #[.int .i64 k, .string fr, .int .i64 ix, .slice ua kids.len uc] ( /- t -/ 33))).grownBy w6 v.ownBlock) (hat : v.ownBlock = some gg ∨ gg = (w5.alloc (.cells #[.int .i64 k, .string fr, .int .i64 ix, .slice ua kids.len uc] ( /- t -/ 33))).heap.size) :
    CnRel w (p ++ ⟨k, fr, ix, kids⟩ :: rest) q la lv qv qn gq bo (.int .i64 ((p.length + 1 : Nat) : Int)) (w6.setCell ⟨bo, 0, none⟩ (.slice (some ⟨gg, 0, none⟩) (p.length + 1) cp)) := by
  have hG5 := (hG.below hb5).below (alloc_below w5 (.cells #[.int .i64 k, .string fr, .int .i64 ix, .slice ua kids.len uc] ( /- t -/ 33)))
  have hbo := hO.lt
  have h5 := hb5.size
  obtain ⟨bs', hpush, -⟩ := GrL.push hG5 (k := k) (ix := ix) (hu.same (Same.of_below (alloc_below w5 (.cells #[.int .i64 k, .string fr, .int .i64 ix, .slice ua kids.len uc] ( /- t -/ 33))) hu.lt)) (fun b hb => by have := hks b hb; omega) hnd (fun b h1 h2 => by have := hG.lt b h1; have := hks b h2; omega) hf hk hi hown hgr hat
  have hvb : ∀ b, some b = v.ownBlock → bo + 1 ≤ b := fun b e => hG5.ge b (hG5.block b e.symm)
  have far : ∀ b, b ≤ bo → w6.heap[b]? = wr.heap[b]? := fun b h => by
    rw [hgr.block b (by simp; omega) (fun e => by have := hvb b e; omega), Below.heap_alloc _ _ _ (by omega), hb5.block b (by omega)]
  have hs := hb.size
  have hD : Below w.heap.size w w6 := by
    have h2 := hb.trans (hb5.mono hb.size)
    have h3 := h2.alloc h2.size (.cells #[.int .i64 k, .string fr, .int .i64 ix, .slice ua kids.len uc] ( /- t -/ 33))
    exact ⟨hgr.os.trans h3.os, hgr.tape.trans h3.tape, hgr.output.trans h3.output, Nat.le_trans h3.size hgr.size, fun b hb => (hgr.block b (Nat.lt_of_lt_of_le hb h3.size) (fun e => by have := hvb b e; omega)).trans (h3.block b hb)⟩
  refine ⟨p ++ [⟨k, fr, ix, kids⟩], rest, _, bs', by simp, by simp, by simpa using hg.tail, (hX.same (far _ (by omega))).setOther (by simp; omega) _, (hY.same (far _ (by omega))).setOther (by simp; omega) _, (hO.same (far _ (Nat.le_refl _))).set0 _,
    hpush.same (fun b hb => Below.heap_setCell _ _ _ _ (by have := hpush.ge b hb; simp; omega)), (hQ.same elS_flat (fun b hb => ?_)).same elS_flat (fun b hb => Below.heap_setCell _ _ _ _ ?_), hgb, hg2, hD.setCell (by simp; omega) _⟩
  · obtain rfl : b = gq := by simpa using hb
    exact far _ (by omega)
  · obtain rfl : b = gq := by simpa using hb
    simp
    omega

set_option maxHeartbeats 4000000 in
set_option maxRecDepth 100000 in
/-- l4Copy. -/
theorem specCopyNet (w : World) (l : List Nd) (q : List ByteArray) (lv qv : Value) (hl : SlG elL w lv l) (hq : SlG elS w qv q) (hll : l.length ≤ 3) (hqn : q ≠ []) (hql : q.length ≤ 9) (hcp : ∀ g, g ∈ l → CopyOk g.up) :
    Calls Tryz.prog 54 #[.agg #[lv, qv]] w (MadeNet l q w) := by
  obtain ⟨la, lc, rfl, -, hat⟩ := hl.at
  obtain ⟨qa, qc, hqv, hqc, hqm, hqr⟩ := hq
  rcases hqr with hqr | ⟨qb, qo, rfl, hrow⟩
  · exact absurd hqr hqn
  subst hqv
  have HA := hide hat
  have HQM := hide (rowS_small hrow)
  have HC := hide hcp
  have hb0 : Below w.heap.size w (((w.alloc (.cells #[.slice la l.length lc, .slice (some ⟨qb, qo, none⟩) q.length qc] ( /- t -/ 52))).alloc (.cells #[.slice none 0 0, .slice none 0 0] ( /- t -/ 52))).alloc (.cells #[] ( /- t -/ 9))) := ((alloc_below w _).alloc (by simp) _).alloc (by simp; omega) _
  have hx0 := ((Box2.now w (.slice la l.length lc) (.slice (some ⟨qb, qo, none⟩) q.length qc) ( /- t -/ 52)).below (alloc_below _ (.cells #[.slice none 0 0, .slice none 0 0] ( /- t -/ 52)))).below (alloc_below _ (.cells #[] ( /- t -/ 9)))
  have hy0 := (Box2.now (w.alloc (.cells #[.slice la l.length lc, .slice (some ⟨qb, qo, none⟩) q.length qc] ( /- t -/ 52))) (.slice none 0 0) (.slice none 0 0) ( /- t -/ 52)).below (alloc_below _ (.cells #[] ( /- t -/ 9)))
  rw [show (w.alloc (.cells #[.slice la l.length lc, .slice (some ⟨qb, qo, none⟩) q.length qc] ( /- t -/ 52))).heap.size = w.heap.size + 1 from by simp] at hy0
  have hcell : ∀ (j : Nat) u, (q.map Value.string)[j]? = some u → (((w.alloc (.cells #[.slice la l.length lc, .slice (some ⟨qb, qo, none⟩) q.length qc] ( /- t -/ 52))).alloc (.cells #[.slice none 0 0, .slice none 0 0] ( /- t -/ 52))).alloc (.cells #[] ( /- t -/ 9))).cell? ((⟨qb, qo, none⟩ : Addr).add j) = some u := fun j u hj => by
    rw [Addr.add_lit]
    exact Still.of_below hb0 _ _ (rowS_cell hrow j u hj)
  have hmade := World.ownsRow_made (base := w.heap.size + 2) (e := ( /- t -/ 9)) (size := 1) ((w.alloc (.cells #[.slice la l.length lc, .slice (some ⟨qb, qo, none⟩) q.length qc] ( /- t -/ 52))).alloc (.cells #[.slice none 0 0, .slice none 0 0] ( /- t -/ 52))) #[] 0 (by simp) (Nat.zero_le _) rfl
  rw [show ((w.alloc (.cells #[.slice la l.length lc, .slice (some ⟨qb, qo, none⟩) q.length qc] ( /- t -/ 52))).alloc (.cells #[.slice none 0 0, .slice none 0 0] ( /- t -/ 52))).heap.size = w.heap.size + 1 + 1 from by simp] at hmade
  have HMD := hide hmade
  have HB0 := hide hb0
  have HX0 := hide hx0
  have HY0 := hide hy0
  have HCL := hide hcell
  clear hl hat hrow hcp hb0 hx0 hy0 hcell hmade
  obtain ⟨i0, hi, hz0, hz1, hz2⟩ := info_parts Tryz.info9
  obtain ⟨iL, hiL, hL0, hL1, hL2⟩ := info_parts Tryz.info33
  go_enter Tryz.func54, Tryz.ntmps54
  go_wp2_with (at_builtin; refine wpList_append_own _ rfl _ _ ( /- t -/ 45) rfl (w.heap.size + 2) ( /- t -/ 9) i0 (.string ⟨#[]⟩) 1 16 Tryz.underlying45 hi hz0 hz1 hz2 rfl (by decide) _ _ _ rfl HMD.out ⟨qb, qo, none⟩ q.length qc (q.map Value.string) rfl ?qc1 ?qc2 ?qc3 ?qc4 ?qc5 ?qc6 ?_)
  case qc1 => simp
  case qc2 => exact HCL.out
  case qc3 => intro u hu; obtain ⟨x, _, rfl⟩ := List.mem_map.1 hu; rfl
  case qc4 => unfold maxLen; omega
  case qc5 => omega
  case qc6 => simp
  intro v' w1 hown hgrow _
  obtain ⟨gq, qcap, rfl, hgq, how⟩ := owQ_owns hqn HQM.out hown
  have hX := HX0.out.same (hgrow.block _ HX0.out.lt (by simp [Value.ownBlock]; omega))
  have hY := HY0.out.same (hgrow.block _ HY0.out.lt (by simp [Value.ownBlock]))
  have hB : Below w.heap.size w w1 := HB0.out.grown hgrow (by simp; omega) (by intro k hk; simp [Value.ownBlock] at hk; omega)
  have hs1 := hgrow.size
  simp at hs1
  have HW := hide how
  have HXX := hide hX
  have HYY := hide hY
  have HBB := hide hB
  clear hown hgrow how hX hY hB
  go_wp2_with fail
  go_loopw [4] (fun iv wr => CnRel w l q la (.slice la l.length lc) (.slice (some ⟨qb, qo, none⟩) q.length qc) (.slice (some ⟨gq, 0, none⟩) q.length qcap) gq w1.heap.size iv wr) (fun iv _ => l.length - (intOf iv).toNat)
  case atStart =>
    have hba := alloc_below w1 (.cells #[.slice none 0 0, .slice (some ⟨gq, 0, none⟩) q.length qcap] ( /- t -/ 52))
    exact ⟨[], l, _, [], rfl, rfl, HA.out, HXX.out.below hba, HYY.out.below hba, Box2.now w1 _ _ ( /- t -/ 52), GrL.nil _ _, HW.out.same elS_flat (Same.of_below hba HW.out.lt), HW.out.lt gq (by simp), hgq, HBB.out.trans (hba.mono HBB.out.size)⟩
  case round =>
    obtain ⟨p, g, v, bs, hle, rfl, hg, hX, hY, hO, hG, hQ, hgb, hg2, hb⟩ := hrel
    have HE := hide hle
    have HG := hide hG
    have HQQ := hide hQ
    clear hle hG hQ
    obtain ⟨x0, x1⟩ := hX.cells
    obtain ⟨o0, o1⟩ := hO.cells
    obtain ⟨va, vc, rfl⟩ := HG.out.val
    have hxl := hX.lt
    have hol := hO.lt
    cases g with
    | nil =>
      have hge : l.length ≤ p.length := by rw [HE.out, List.append_nil]; exact Nat.le_refl _
      obtain ⟨y0, y1⟩ := hY.cells
      have fy := hY.frozen
      have hyl := hY.lt
      go_wp2_with fail
      have b2 := (hY.set0 (.slice va p.length vc)).set1 (.slice (some ⟨gq, 0, none⟩) q.length qcap)
      have e0 := b2.cells.1
      have e1 := b2.cells.2
      refine bodyPost_ret (v := .agg #[.slice va p.length vc, .slice (some ⟨gq, 0, none⟩) q.length qcap]) (by simp [results, Tryz.results54, go_sem, e0, e1]) rfl ?_
      have hlp : l = p := by rw [HE.out, List.append_nil]
      subst hlp
      refine ⟨_, _, bs, [gq], rfl, HG.out.ow.same (fun b h => ?_), HQQ.out.same elS_flat (fun b h => ?_), fun b h => ?_, ?_, (hb.setCell (by simp) _).setCell (by simp) _⟩
      · have := HG.out.ge b h
        rw [Below.heap_setCell _ _ _ _ (by simp; omega), Below.heap_setCell _ _ _ _ (by simp; omega)]
      · obtain rfl : b = gq := by simpa using h
        rw [Below.heap_setCell _ _ _ _ (by simp; omega), Below.heap_setCell _ _ _ _ (by simp; omega)]
      · rcases List.mem_append.1 h with h | h
        · have := HG.out.ge b h; omega
        · obtain rfl : b = gq := by simpa using h
          omega
      · refine List.nodup_append.2 ⟨HG.out.nodup, by simp, fun x hx y hy => ?_⟩
        have := HG.out.ge x hx
        obtain rfl : y = gq := by simpa using hy
        omega
    | cons nd rest =>
      obtain ⟨k, fr, ix, kids⟩ := nd
      have hlt : p.length < l.length := by rw [HE.out, List.length_append]; simp only [List.length_cons]; omega
      have hcop : CopyOk ⟨k, fr, ix, kids⟩ := HC.out ⟨k, fr, ix, kids⟩ (by rw [HE.out]; simp)
      obtain ⟨b, o, rfl, l1, l2, l3, c0, c1, c2, sv, c3, hsv⟩ := AtL.head (hg.still (Still.of_below hb))
      have HSV := hide (hsv.still (still_drew wr))
      have HCOP := hide hcop
      have HF := hide (And.intro l1 (And.intro l2 l3))
      have HR := hide (And.intro hX.drew (And.intro hY.drew (And.intro hO.drew (And.intro hgb (And.intro hg2 (And.intro hb.drew hg))))))
      clear hsv hcop l1 l2 l3 hX hY hO hg
      go_wp2_with fail
      refine wp_region_T (fun w' => w'.cell? ⟨w.heap.size, 0, none⟩ = some (.slice (some ⟨b, o, none⟩) l.length lc) ∧ w'.cell? ⟨w1.heap.size, 0, none⟩ = some (.slice va p.length vc) ∧
          w'.cell? ⟨b, o + p.length * 4, none⟩ = some (.int .i64 k) ∧ w'.cell? ⟨b, o + p.length * 4 + 1, none⟩ = some (.string fr) ∧ w'.cell? ⟨b, o + p.length * 4 + 2, none⟩ = some (.int .i64 ix) ∧ w'.cell? ⟨b, o + p.length * 4 + 3, none⟩ = some sv) 11 (by kernel_rfl) ⟨x0, o0, c0, c1, c2, c3⟩ (fun hHeld => ?_)
      refine wpAnyT_take (L := 11) (i := 0) (v := ?v0) rfl (by kernel_rfl) (by kernel_rfl) (by kernel_rfl) (by kernel_rfl) (fun _ _ _ h => h) hHeld (Or.inl ⟨by rfl, ?hy0⟩) ?rest0
      case hy0 => ((intro w' hw'); (try dsimp only at hw'); (go_simp); (try with_reducible rfl))
      (try simp only [Act.put]); (try simp only [List.setIfInBounds_toArray]); (try simp only [List.set_cons_zero]); (try simp only [List.set_cons_succ])
      refine wpAnyT_take (L := 11) (i := 1) (v := ?v1) rfl (by kernel_rfl) (by kernel_rfl) (by kernel_rfl) (by kernel_rfl) (fun _ _ _ h => h) hHeld (Or.inl ⟨by rfl, ?hy1⟩) ?rest1
      case hy1 => ((intro w' hw'); (try dsimp only at hw'); (go_simp); (try with_reducible rfl))
      (try simp only [Act.put]); (try simp only [List.setIfInBounds_toArray]); (try simp only [List.set_cons_zero]); (try simp only [List.set_cons_succ])
      refine wpAnyT_take (L := 11) (i := 2) (v := ?v2) rfl (by kernel_rfl) (by kernel_rfl) (by kernel_rfl) (by kernel_rfl) (fun _ _ _ h => h) hHeld (Or.inl ⟨by rfl, ?hy2⟩) ?rest2
      case hy2 => ((intro w' hw'); (try dsimp only at hw'); (go_simp); (try with_reducible rfl))
      (try simp only [Act.put]); (try simp only [List.setIfInBounds_toArray]); (try simp only [List.set_cons_zero]); (try simp only [List.set_cons_succ])
      refine wpAnyT_take (L := 11) (i := 3) (v := ?v3) rfl (by kernel_rfl) (by kernel_rfl) (by kernel_rfl) (by kernel_rfl) (fun _ _ _ h => h) hHeld (Or.inl ⟨by rfl, ?hy3⟩) ?rest3
      case hy3 => ((intro w' hw'); (try dsimp only at hw'); (go_simp); (try with_reducible rfl))
      (try simp only [Act.put]); (try simp only [List.setIfInBounds_toArray]); (try simp only [List.set_cons_zero]); (try simp only [List.set_cons_succ])
      refine wpAnyT_take (L := 11) (i := 4) (v := ?v4) rfl (by kernel_rfl) (by kernel_rfl) (by kernel_rfl) (by kernel_rfl) (fun _ _ _ h => h) hHeld (Or.inl ⟨by rfl, ?hy4⟩) ?rest4
      case hy4 => ((intro w' hw'); (try dsimp only at hw'); (go_simp); (try with_reducible rfl))
      (try simp only [Act.put]); (try simp only [List.setIfInBounds_toArray]); (try simp only [List.set_cons_zero]); (try simp only [List.set_cons_succ])
      refine wpAnyT_take (L := 11) (i := 5) (v := ?v5) rfl (by kernel_rfl) (by kernel_rfl) (by kernel_rfl) (by kernel_rfl) (fun _ _ _ h => h) hHeld (Or.inl ⟨by rfl, ?hy5⟩) ?rest5
      case hy5 => ((intro w' hw'); (try dsimp only at hw'); (go_simp); (try with_reducible rfl))
      (try simp only [Act.put]); (try simp only [List.setIfInBounds_toArray]); (try simp only [List.set_cons_zero]); (try simp only [List.set_cons_succ])
      refine wpAnyT_take (L := 11) (i := 6) (v := ?v6) rfl (by kernel_rfl) (by kernel_rfl) (by kernel_rfl) (by kernel_rfl) (fun _ _ _ h => h) hHeld (Or.inl ⟨by rfl, ?hy6⟩) ?rest6
      case hy6 => ((intro w' hw'); (try dsimp only at hw'); (go_simp); (try with_reducible rfl))
      (try simp only [Act.put]); (try simp only [List.setIfInBounds_toArray]); (try simp only [List.set_cons_zero]); (try simp only [List.set_cons_succ])
      refine wpAnyT_one (L := 11) (i := 7) (by kernel_rfl) rfl (fun K hK => ?_)
      go_simp
      go_at_call 64
      (with_reducible refine (copy_calls _ ⟨k, fr, ix, kids⟩ sv HSV.out HCOP.out).mono ?_)
      rintro e w5 ⟨u, ks, rfl, how, hks, hknd, hb5⟩
      obtain ⟨ua, uc, rfl⟩ := how.val
      have hst := Still.of_below hb5
      obtain ⟨s0, s1, s2, s3, s4, s5⟩ := hHeld
      have HD5 := hide (And.intro (hst _ _ s0) (And.intro (hst _ _ s1) (And.intro (hst _ _ s2) (And.intro (hst _ _ s3) (And.intro (hst _ _ s4) (hst _ _ s5))))))
      refine hK.out _ _ (fun _ => HD5.out) ?_
      clear hK K s0 s1 s2 s3 s4 s5
      refine wpAnyT_one (L := 11) (i := 8) (by kernel_rfl) rfl (fun K hK => ?_)
      go_simp
      have hst2 := Still.of_below (alloc_below w5 (.cells #[.int .i64 k, .string fr, .int .i64 ix, .slice ua kids.len uc] ( /- t -/ 33)))
      obtain ⟨s0, s1, s2, s3, s4, s5⟩ := HD5.out
      have HD6 := hide (And.intro (hst2 _ _ s0) (And.intro (hst2 _ _ s1) (And.intro (hst2 _ _ s2) (And.intro (hst2 _ _ s3) (And.intro (hst2 _ _ s4) (hst2 _ _ s5))))))
      refine hK.out _ _ (fun _ => HD6.out) ?_
      clear hK K
      (try simp only [Act.put]); (try simp only [List.setIfInBounds_toArray]); (try simp only [List.set_cons_zero]); (try simp only [List.set_cons_succ])
      refine wpAnyT_one (L := 11) (i := 9) (by kernel_rfl) rfl (fun K hK => ?_)
      have hgD := HG.out.below (w' := wr.drew) (Below.refl _ _).drew
      have hgr5 := (hgD.below hb5).below (alloc_below w5 (.cells #[.int .i64 k, .string fr, .int .i64 ix, .slice ua kids.len uc] ( /- t -/ 33)))
      have hz5 : w1.heap.size + 1 ≤ w5.heap.size := by have := hb5.size; simp at this; omega
      refine step_append_lies _ (by rfl) _ _ _ (by rfl) (w1.heap.size + 1) ( /- t -/ 33) iL _ 4 56 Tryz.underlying50 hiL hL0 hL1 hL2 rfl (by omega) (.slice va p.length vc) p.length (grXl (w5.alloc (.cells #[.int .i64 k, .string fr, .int .i64 ix, .slice ua kids.len uc] ( /- t -/ 33))) (.slice va p.length vc) p) (by rfl) hgr5.owns
        ⟨w5.heap.size, 0, none⟩ 1 1 [.int .i64 k, .string fr, .int .i64 ix, .slice ua kids.len uc] (by rfl) (by rfl) (World.news_of_block (cs := #[.int .i64 k, .string fr, .int .i64 ix, .slice ua kids.len uc]) (t := ( /- t -/ 33)) (fr := (0, 0)) (heap_alloc_new w5 _)) (by simp [Value.oneCell'])
        (by omega) (by unfold maxLen; omega) (by omega) (by simp; omega) _ rfl ?_
      intro gg cp w6 hown6 hgrow6 hat6 hlt6
      have hvb : ∀ b, some b = (Value.slice va p.length vc).ownBlock → w1.heap.size + 1 ≤ b := fun b e => hgr5.ge b (hgr5.block b e.symm)
      have hxw : w.heap.size ≤ w1.heap.size := by omega
      have hcb : b < w.heap.size := by
        obtain ⟨b2, o2, e2, -, -, -, q0, -⟩ := AtL.head HR.out.2.2.2.2.2.2
        simp only [Option.some.injEq, Addr.mk.injEq, and_true] at e2
        rw [e2.1]
        exact World.block_lt_of_cell? _ _ q0
      have hfar : ∀ (b o : Nat) (x : Value), b ≤ w1.heap.size → (w5.alloc (.cells #[.int .i64 k, .string fr, .int .i64 ix, .slice ua kids.len uc] ( /- t -/ 33))).cell? ⟨b, o, none⟩ = some x → w6.cell? ⟨b, o, none⟩ = some x := fun b o x hb he => by
        rw [hgrow6.cell_far ⟨b, o, none⟩ (World.block_lt_of_cell? _ _ he) (fun e => by have := hvb b e; omega)]
        exact he
      obtain ⟨s0, s1, s2, s3, s4, s5⟩ := HD6.out
      have HD7 := hide (And.intro (hfar _ _ _ (by omega) s0) (And.intro (hfar _ _ _ (by omega) s1) (And.intro (hfar _ _ _ (by omega) s2) (And.intro (hfar _ _ _ (by omega) s3) (And.intro (hfar _ _ _ (by omega) s4) (hfar _ _ _ (by omega) s5))))))
      refine hK.out _ _ (fun _ => HD7.out) ?_
      clear hK K
      (try simp only [Act.put]); (try simp only [List.setIfInBounds_toArray]); (try simp only [List.set_cons_zero]); (try simp only [List.set_cons_succ])
      refine wpAnyT_take (L := 11) (i := 10) (v := ?v10) rfl (by kernel_rfl) (by kernel_rfl) (by kernel_rfl) (by kernel_rfl) (fun _ _ _ h => h) HD7.out (Or.inl ⟨by rfl, ?hy10⟩) ?rest10
      case hy10 => ((intro w' hw'); (try dsimp only at hw'); (go_simp); (try with_reducible rfl))
      (try simp only [Act.put]); (try simp only [List.setIfInBounds_toArray]); (try simp only [List.set_cons_zero]); (try simp only [List.set_cons_succ])
      have ho6 : Box2 w6 w1.heap.size (.slice va p.length vc) (.slice (some ⟨gq, 0, none⟩) q.length qcap) := ((HR.out.2.2.1.below hb5).below (alloc_below w5 (.cells #[.int .i64 k, .string fr, .int .i64 ix, .slice ua kids.len uc] ( /- t -/ 33)))).same (hgrow6.block _ (by simp; omega) (fun e => by have := hvb _ e; omega))
      have o4 := ho6.cells.1
      have fo := ho6.frozen
      refine wpAnyT_one (L := 11) (i := 11) (by kernel_rfl) rfl (fun K hK => ?_)
      go_simp
      refine hK.out _ _ (fun h => absurd rfl h) ?_
      refine wpAnyT_done (by kernel_rfl) ?_ _
      clear hK K
      have hstep := cn_step HR.out.2.2.2.2.2.2 HR.out.1 HR.out.2.1 HR.out.2.2.1 hgD (HQQ.out.same (w' := wr.drew) elS_flat (Same.refl _ _)) HR.out.2.2.2.1 HR.out.2.2.2.2.1 HR.out.2.2.2.2.2.1 hb5 how hks hknd HF.out.1 HF.out.2.1 HF.out.2.2 hown6 hgrow6 hat6
      rw [← HE.out] at hstep
      have HST := hide hstep
      clear hstep how hks hknd hown6 hgrow6 hat6 hgr5 hgD
      go_wp2_with fail
      go_roundw
      case rel => exact HST.out
      case measure => simp [intOf]; omega
theorem newStrings9 : newStrings 9 = Array.replicate 9 (.string ⟨#[]⟩) := by kernel_rfl
theorem noQ_get {i : Nat} {s : ByteArray} (h : noQ[i]? = some s) : i < 9 ∧ s = ⟨#[]⟩ := by
  unfold noQ at h
  rw [List.getElem?_replicate] at h
  split at h
  · cases h; exact ⟨by assumption, rfl⟩
  · cases h
/-- Nine new strings read as nine empty ones. -/
theorem newStrings_sl {w : World} {b : Nat} {t : TypeId} (h : w.heap[b]? = some (.cells (newStrings 9) t (0, 0))) : SlG elS w (.slice (some ⟨b, 0, none⟩) 9 9) noQ := by
  refine SlG.of_row (l := noQ) (rowS_cells (fun s hs => ?_) (fun i s hi => ?_)) (by decide) (by unfold maxLen; omega)
  · unfold noQ at hs
    obtain rfl := (List.mem_replicate.1 hs).2
    exact Nat.zero_le _
  · obtain ⟨h1, rfl⟩ := noQ_get hi
    rw [cell_of_heap h, newStrings9, Nat.zero_add, Array.getElem?_replicate, if_pos h1]

/-- What NewNetwork answers. -/
def newL (l : List Nd) : List Nd := if netB l noQ then l else []
def newQ (l : List Nd) : List ByteArray := if netB l noQ then noQ else []
/-- A network in new memory, and a flag. -/
def MadeNN (l : List Nd) (q : List ByteArray) (ok : Bool) (w : World) (e : Ending) (w' : World) : Prop :=
  ∃ u v bs cs, e = .returned (.tuple #[.agg #[u, v], .bool ok]) ∧ OwS w' u l bs ∧ OwG elS w' v q cs ∧ (∀ b, b ∈ bs ++ cs → w.heap.size ≤ b) ∧ (bs ++ cs).Nodup ∧ Below w.heap.size w w'
theorem MadeNN.zero {w w' : World} (h : Below w.heap.size w w') : MadeNN [] [] false w (.returned (.tuple #[.agg #[.slice none 0 0, .slice none 0 0], .bool false])) w' :=
  ⟨_, _, [], [], rfl, ⟨none, 0, rfl, Nat.le_refl _, Nat.zero_le _, Or.inl ⟨rfl, rfl⟩⟩, ⟨none, 0, rfl, Nat.le_refl _, Nat.zero_le _, Or.inl ⟨rfl, rfl⟩⟩, fun _ h => absurd h (List.not_mem_nil), List.nodup_nil, h⟩
theorem allL_okG {q : List ByteArray} : ∀ {l : List Nd} {j : Nat}, allL q j l = true → ∀ g, g ∈ l → okG g.up = true
  | [], _, _ => fun g h => by cases h
  | x :: r, j, h => fun g hg => by
    simp only [allL, Bool.and_eq_true] at h
    rcases List.mem_cons.1 hg with rfl | hg
    · have h1 := h.1.1
      unfold curOk unfOk at h1
      simp only [Bool.and_eq_true] at h1
      exact h1.2.1
    · exact allL_okG h.2 g hg
theorem netB_parts {l : List Nd} {q : List ByteArray} (h : netB l q = true) : l.length = 3 ∧ q.length = 9 ∧ ∀ g, g ∈ l → okG g.up = true := by
  unfold netB at h
  simp only [Bool.and_eq_true, decide_eq_true_eq] at h
  exact ⟨h.1, h.2.1, allL_okG h.2.2.1⟩

set_option maxHeartbeats 2000000 in
set_option maxRecDepth 100000 in
/-- NewNetwork of the model. -/
theorem specNewNet (w : World) (l : List Nd) (lv : Value) (hl : SlG elL w lv l) (hfit : AllFit l) (hsz : ∀ g, g ∈ l → g.kids.sz ≤ 1048576) :
    Calls Tryz.prog 24 #[lv] w (MadeNN (newL l) (newQ l) (netB l noQ) w) := by
  obtain ⟨la, lc, rfl, -, -⟩ := hl.at
  have hmk : ∀ w, (Instr.makeSlice ( /- t -/ 45) (.int .i64 9) (.int .i64 9)).run Tryz.prog w = .ok (.slice (some ⟨w.heap.size, 0, none⟩) 9 9) (w.alloc (.cells (newStrings 9) ( /- t -/ 9))) := fun w => makeStrings 9 (by omega) w
  have hb0 : Below w.heap.size w (((w.alloc (.cells #[.slice none 0 0, .slice none 0 0] ( /- t -/ 52))).alloc (.cells (newStrings 9) ( /- t -/ 9))).alloc (.cells #[.slice la l.length lc, .slice (some ⟨w.heap.size + 1, 0, none⟩) 9 9] ( /- t -/ 52))) := ((alloc_below w _).alloc (by simp) _).alloc (by simp; omega) _
  have hz0 := ((Box2.now w (.slice none 0 0) (.slice none 0 0) ( /- t -/ 52)).below (alloc_below _ (.cells (newStrings 9) ( /- t -/ 9)))).below (alloc_below _ (.cells #[.slice la l.length lc, .slice (some ⟨w.heap.size + 1, 0, none⟩) 9 9] ( /- t -/ 52)))
  have hp0 := Box2.now ((w.alloc (.cells #[.slice none 0 0, .slice none 0 0] ( /- t -/ 52))).alloc (.cells (newStrings 9) ( /- t -/ 9))) (.slice la l.length lc) (.slice (some ⟨w.heap.size + 1, 0, none⟩) 9 9) ( /- t -/ 52)
  rw [show ((w.alloc (.cells #[.slice none 0 0, .slice none 0 0] ( /- t -/ 52))).alloc (.cells (newStrings 9) ( /- t -/ 9))).heap.size = w.heap.size + 2 from by simp] at hp0
  have hq0 : SlG elS (((w.alloc (.cells #[.slice none 0 0, .slice none 0 0] ( /- t -/ 52))).alloc (.cells (newStrings 9) ( /- t -/ 9))).alloc (.cells #[.slice la l.length lc, .slice (some ⟨w.heap.size + 1, 0, none⟩) 9 9] ( /- t -/ 52))) (.slice (some ⟨w.heap.size + 1, 0, none⟩) 9 9) noQ := by
    refine newStrings_sl (t := ( /- t -/ 9)) ?_
    rw [Below.heap_alloc _ _ _ (by simp)]
    have := heap_alloc_new (w.alloc (.cells #[.slice none 0 0, .slice none 0 0] ( /- t -/ 52))) (.cells (newStrings 9) ( /- t -/ 9))
    simpa using this
  have HSL := hide (hl.still (Still.of_below hb0))
  have HSQ := hide hq0
  have HB0 := hide hb0
  have HZ0 := hide hz0
  have HP0 := hide hp0
  have HF := hide (And.intro hfit hsz)
  clear hl hfit hsz hb0 hz0 hp0 hq0
  go_enter Tryz.func24, Tryz.ntmps24
  go_wp2_with fail
  clear hmk
  generalize (((w.alloc (.cells #[.slice none 0 0, .slice none 0 0] ( /- t -/ 52))).alloc (.cells (newStrings 9) ( /- t -/ 9))).alloc (.cells #[.slice la l.length lc, .slice (some ⟨w.heap.size + 1, 0, none⟩) 9 9] ( /- t -/ 52))) = W at *
  refine (specNetValid W l noQ _ _ HSL.out HSQ.out HF.out.1 HF.out.2 (fun s hs => by unfold noQ at hs; rw [(List.mem_replicate.1 hs).2]; exact Nat.zero_le _)).mono ?_
  rintro e w1 ⟨rfl, hb⟩
  have HZ1 := hide (HZ0.out.below hb)
  have HP1 := hide (HP0.out.below hb)
  have HSL1 := hide (HSL.out.still (Still.of_below hb))
  have HSQ1 := hide (HSQ.out.still (Still.of_below hb))
  have HBW := hide (HB0.out.trans (hb.mono HB0.out.size))
  have hsz0 := HP0.out.lt
  have hs1 := hb.size
  clear hb HZ0 HP0
  cases hok : netB l noQ with
  | false =>
    have HR := hide (show newL l = [] ∧ newQ l = [] ∧ netB l noQ = false by unfold newL newQ; rw [hok]; exact ⟨rfl, rfl, rfl⟩)
    obtain ⟨z0, z1⟩ := HZ1.out.cells
    have fz := HZ1.out.frozen
    have hzl := HZ1.out.lt
    clear hok
    go_wp2_with fail
    refine bodyPost_ret (v := .tuple #[.agg #[.slice none 0 0, .slice none 0 0], .bool false]) (by simp [results, Tryz.results24, go_sem, *]) rfl ?_
    rw [HR.out.1, HR.out.2.1, HR.out.2.2]
    refine MadeNN.zero ?_
    repeat (refine Below.setCell ?_ (by first | (simp; done) | (simp; omega)) _)
    exact HBW.out
  | true =>
    have HR := hide (show newL l = l ∧ newQ l = noQ ∧ netB l noQ = true by unfold newL newQ; rw [hok]; exact ⟨rfl, rfl, rfl⟩)
    have HG := hide (netB_parts hok)
    obtain ⟨p0, p1⟩ := HP1.out.cells
    have hpl := HP1.out.lt
    clear hok
    go_wp2_with fail
    have hcp : ∀ g, g ∈ l → CopyOk g.up := fun g hg => copy_ok g.up 0 0 (by omega) (by omega) (okG_w (HG.out.2.2 g hg)).1 (HF.out.1 g hg) (by have := (okG_w (HG.out.2.2 g hg)).2.1; omega)
    refine (specCopyNet w1 l noQ _ _ HSL1.out HSQ1.out (by have := HG.out.1; omega) (by decide) (by decide) hcp).mono ?_
    rintro e w2 ⟨u, v, bs, cs, rfl, ou, ov, hge, hnd, hb2⟩
    obtain ⟨ua, uc, rfl⟩ := ou.val
    obtain ⟨va, vc, rfl⟩ := ov.val
    have HOU := hide ou
    have HOV := hide ov
    have HGE := hide hge
    have HZ2 := hide (HZ1.out.below hb2)
    have HB2 := hide (HBW.out.trans (hb2.mono (by have := HBW.out.size; omega)))
    clear ou ov hge hb2 p0 p1 hpl
    obtain ⟨z0, z1⟩ := HZ2.out.cells
    have fz := HZ2.out.frozen
    have hzl := HZ2.out.lt
    go_wp2_with fail
    refine bodyPost_ret (v := .tuple #[.agg #[.slice ua l.length uc, .slice va noQ.length vc], .bool true]) (by simp [results, Tryz.results24, go_sem, *]) rfl ?_
    rw [HR.out.1, HR.out.2.1, HR.out.2.2]
    refine ⟨_, _, bs, cs, rfl, HOU.out.same ?_, HOV.out.same elS_flat ?_, fun x hx => by have := HGE.out x hx; omega, hnd, ?_⟩
    · repeat (refine Same.setCell ?_ (fun x hx => by have := HGE.out x (List.mem_append_left _ hx); simp; omega) _)
      exact Same.refl _ _
    · repeat (refine Same.setCell ?_ (fun x hx => by have := HGE.out x (List.mem_append_right _ hx); simp; omega) _)
      exact Same.refl _ _
    · repeat (refine Below.setCell ?_ (by first | (simp; done) | (simp; omega)) _)
      exact HB2.out
end Go.Proofs.YtmkjipnemapdeaaGreatDoor.Lo.Ne

/- configurationOf at any network; NetworkValid of the program. -/
namespace Go.Proofs.YtmkjipnemapdeaaGreatDoor.Lo.Ne
open Go.RowKit

/-- At three local types and nine queues a network is valid just if configurationOf says so. -/
theorem netB_conf (g0 g1 g2 : Nd) (q0 q1 q2 q3 q4 q5 q6 q7 q8 : ByteArray) : netB [g0, g1, g2] [q0, q1, q2, q3, q4, q5, q6, q7, q8] = ((quB 0 q0 && (quB 1 q1 && (quB 2 q2 && (quB 3 q3 && (quB 4 q4 && (quB 5 q5 && (quB 6 q6 && (quB 7 q7 && (quB 8 q8))))))))) && (cuB g0 65 && (cuB g1 66 && cuB g2 67))) := by
  have e0 : curOk g0.up (lett 0) = cuB g0 65 := rfl
  have e1 : curOk g1.up (lett 1) = cuB g1 66 := rfl
  have e2 : curOk g2.up (lett 2) = cuB g2 67 := rfl
  have s0 : selfB [q0, q1, q2, q3, q4, q5, q6, q7, q8] 0 = q0.toList.isEmpty := rfl
  have s1 : selfB [q0, q1, q2, q3, q4, q5, q6, q7, q8] 1 = q4.toList.isEmpty := rfl
  have s2 : selfB [q0, q1, q2, q3, q4, q5, q6, q7, q8] 2 = q8.toList.isEmpty := rfl
  unfold netB
  rw [show decide ([g0, g1, g2].length = 3) = true from rfl, show decide ([q0, q1, q2, q3, q4, q5, q6, q7, q8].length = 9) = true from rfl]
  simp only [allL, e0, e1, e2, s0, s1, s2, List.all_cons, List.all_nil, Bool.true_and, Bool.and_true]
  generalize cuB g0 65 = c0
  generalize cuB g1 66 = c1
  generalize cuB g2 67 = c2
  have f0 : quB 0 q0 = (decide (q0.size ≤ 3) && (q0.toList.isEmpty && Tk.labsB q0)) := rfl
  have f1 : quB 1 q1 = (decide (q1.size ≤ 3) && Tk.labsB q1) := rfl
  have f2 : quB 2 q2 = (decide (q2.size ≤ 3) && Tk.labsB q2) := rfl
  have f3 : quB 3 q3 = (decide (q3.size ≤ 3) && Tk.labsB q3) := rfl
  have f4 : quB 4 q4 = (decide (q4.size ≤ 3) && (q4.toList.isEmpty && Tk.labsB q4)) := rfl
  have f5 : quB 5 q5 = (decide (q5.size ≤ 3) && Tk.labsB q5) := rfl
  have f6 : quB 6 q6 = (decide (q6.size ≤ 3) && Tk.labsB q6) := rfl
  have f7 : quB 7 q7 = (decide (q7.size ≤ 3) && Tk.labsB q7) := rfl
  have f8 : quB 8 q8 = (decide (q8.size ≤ 3) && (q8.toList.isEmpty && Tk.labsB q8)) := rfl
  simp only [f0, f1, f2, f3, f4, f5, f6, f7, f8, queB]
  ac_rfl

theorem rowL_fit {w : World} {b : Nat} : ∀ {l : List Nd} {o : Nat}, RowG elL w b o l → AllFit l
  | [], _, _ => fun g h => by cases h
  | x :: r, o, h => fun g hg => by
    rcases List.mem_cons.1 hg with rfl | hg
    · exact ⟨h.1.1, h.1.2.1, h.1.2.2.1⟩
    · exact rowL_fit h.2 g hg
theorem slL_fit {w : World} {v : Value} {l : List Nd} (h : SlG elL w v l) : AllFit l := by
  obtain ⟨a, cap, -, -, -, h⟩ := h
  rcases h with rfl | ⟨b, o, -, h⟩
  · intro g hg; cases hg
  · exact rowL_fit h
theorem kids_le {g : Nd} {l : List Nd} {n : Nat} (h : wtL l ≤ n) (hg : g ∈ l) : g.kids.sz ≤ n := by
  have h1 := wt_mem hg
  have h2 := F.sz_le g.kids
  unfold Nd.wt at h1
  omega
theorem strs_le {s : ByteArray} : ∀ {q : List ByteArray} {n : Nat}, wtS q ≤ n → s ∈ q → s.size ≤ n
  | x :: r, n, h, hs => by
    simp only [wtS] at h
    rcases List.mem_cons.1 hs with rfl | hs
    · omega
    · exact strs_le (by omega) hs

/-- A network's arguments read as three local types and nine queues. -/
theorem open_cf {w : World} {g0 g1 g2 : Nd} {q0 q1 q2 q3 q4 q5 q6 q7 q8 : ByteArray} {lv qv : Value} (hl : SlG elL w lv [g0, g1, g2]) (hq : SlG elS w qv [q0, q1, q2, q3, q4, q5, q6, q7, q8]) :
    ∃ (lb lo qb qo lc qc : Nat) (t0 t1 t2 : Option Addr) (k0 k1 k2 : Nat), lv = .slice (some ⟨lb, lo, none⟩) 3 lc ∧ qv = .slice (some ⟨qb, qo, none⟩) 9 qc ∧ CF lb lo qb qo g0 g1 g2 t0 t1 t2 k0 k1 k2 q0 q1 q2 q3 q4 q5 q6 q7 q8 w := by
  obtain ⟨a, lc, rfl, -, -, hr⟩ := hl
  obtain ⟨a', qc, rfl, -, -, hr'⟩ := hq
  rcases hr with hr | ⟨lb, lo, rfl, ⟨-, -, -, a0, a1, a2, v0, a3, s0⟩, ⟨-, -, -, a4, a5, a6, v1, a7, s1⟩, ⟨-, -, -, a8, a9, a10, v2, a11, s2⟩, -⟩
  · cases hr
  rcases hr' with hr' | ⟨qb, qo, rfl, ⟨-, b0⟩, ⟨-, b1⟩, ⟨-, b2⟩, ⟨-, b3⟩, ⟨-, b4⟩, ⟨-, b5⟩, ⟨-, b6⟩, ⟨-, b7⟩, ⟨-, b8⟩, -⟩
  · cases hr'
  obtain ⟨t0, k0, rfl, -⟩ := (show ∃ a c, v0 = .slice a g0.kids.len c ∧ True by obtain ⟨a, c, e, -⟩ := s0; exact ⟨a, c, e, trivial⟩)
  obtain ⟨t1, k1, rfl, -⟩ := (show ∃ a c, v1 = .slice a g1.kids.len c ∧ True by obtain ⟨a, c, e, -⟩ := s1; exact ⟨a, c, e, trivial⟩)
  obtain ⟨t2, k2, rfl, -⟩ := (show ∃ a c, v2 = .slice a g2.kids.len c ∧ True by obtain ⟨a, c, e, -⟩ := s2; exact ⟨a, c, e, trivial⟩)
  refine ⟨lb, lo, qb, qo, lc, qc, t0, t1, t2, k0, k1, k2, rfl, rfl, ⟨a0, a1, a2, a3, a4, a5, a6, a7, a8, a9, a10, a11, b0, b1, b2, b3, b4, b5, b6, b7, b8, s0, s1, s2⟩⟩

set_option maxHeartbeats 1600000 in
set_option maxRecDepth 100000 in
/-- configurationOf where there are not three local types or not nine queues. -/
theorem implConfNo (w : World) (l : List Nd) (q : List ByteArray) (lv qv : Value) (hl : SlG elL w lv l) (hq : SlG elS w qv q) (hn : ¬ (l.length = 3 ∧ q.length = 9)) :
    Calls Tryz.prog 49 #[.agg #[lv, qv]] w fun e w' => e = .returned (.tuple #[.agg #[.int .i64 0, .string ⟨#[]⟩, .int .i64 0, .slice none 0 0, .int .i64 0, .string ⟨#[]⟩, .int .i64 0, .slice none 0 0, .int .i64 0, .string ⟨#[]⟩, .int .i64 0, .slice none 0 0, .int .i64 0, .string ⟨#[]⟩, .int .i64 0, .slice none 0 0, .int .i64 0, .string ⟨#[]⟩, .int .i64 0, .slice none 0 0, .int .i64 0, .string ⟨#[]⟩, .int .i64 0, .slice none 0 0, .string ⟨#[]⟩, .string ⟨#[]⟩, .string ⟨#[]⟩, .string ⟨#[]⟩, .string ⟨#[]⟩, .string ⟨#[]⟩, .string ⟨#[]⟩, .string ⟨#[]⟩, .string ⟨#[]⟩], .bool false]) ∧ Below w.heap.size w w' := by
  obtain ⟨la, lc, rfl, -, -⟩ := hl.at
  obtain ⟨qa, qc, rfl, -, -⟩ := hq.at
  have hB := (alloc_below w (.cells #[.slice la l.length lc, .slice qa q.length qc] ( /- t -/ 52))).alloc (by simp) (.cells #[.int .i64 0, .string ⟨#[]⟩, .int .i64 0, .slice none 0 0, .int .i64 0, .string ⟨#[]⟩, .int .i64 0, .slice none 0 0, .int .i64 0, .string ⟨#[]⟩, .int .i64 0, .slice none 0 0, .int .i64 0, .string ⟨#[]⟩, .int .i64 0, .slice none 0 0, .int .i64 0, .string ⟨#[]⟩, .int .i64 0, .slice none 0 0, .int .i64 0, .string ⟨#[]⟩, .int .i64 0, .slice none 0 0, .string ⟨#[]⟩, .string ⟨#[]⟩, .string ⟨#[]⟩, .string ⟨#[]⟩, .string ⟨#[]⟩, .string ⟨#[]⟩, .string ⟨#[]⟩, .string ⟨#[]⟩, .string ⟨#[]⟩] ( /- t -/ 93))
  have HRB0 := Blk.now (w.alloc (.cells #[.slice la l.length lc, .slice qa q.length qc] ( /- t -/ 52))) #[.int .i64 0, .string ⟨#[]⟩, .int .i64 0, .slice none 0 0, .int .i64 0, .string ⟨#[]⟩, .int .i64 0, .slice none 0 0, .int .i64 0, .string ⟨#[]⟩, .int .i64 0, .slice none 0 0, .int .i64 0, .string ⟨#[]⟩, .int .i64 0, .slice none 0 0, .int .i64 0, .string ⟨#[]⟩, .int .i64 0, .slice none 0 0, .int .i64 0, .string ⟨#[]⟩, .int .i64 0, .slice none 0 0, .string ⟨#[]⟩, .string ⟨#[]⟩, .string ⟨#[]⟩, .string ⟨#[]⟩, .string ⟨#[]⟩, .string ⟨#[]⟩, .string ⟨#[]⟩, .string ⟨#[]⟩, .string ⟨#[]⟩] ( /- t -/ 93)
  rw [show (w.alloc (.cells #[.slice la l.length lc, .slice qa q.length qc] ( /- t -/ 52))).heap.size = w.heap.size + 1 from by simp] at HRB0
  have HRB := hide HRB0
  have HBL := hide hB
  clear hl hq HRB0 hB
  by_cases h3 : l.length = 3
  case neg =>
    have h3' : ((l.length : Int) != 3) = true := bne_iff_ne.2 (by omega)
    clear h3 hn
    go_enter Tryz.func49, Tryz.ntmps49
    go_wp2_with (first | (refine wpList_store_blk (b := w.heap.size + 1) (c := #[.int .i64 0, .string ⟨#[]⟩, .int .i64 0, .slice none 0 0, .int .i64 0, .string ⟨#[]⟩, .int .i64 0, .slice none 0 0, .int .i64 0, .string ⟨#[]⟩, .int .i64 0, .slice none 0 0, .int .i64 0, .string ⟨#[]⟩, .int .i64 0, .slice none 0 0, .int .i64 0, .string ⟨#[]⟩, .int .i64 0, .slice none 0 0, .int .i64 0, .string ⟨#[]⟩, .int .i64 0, .slice none 0 0, .string ⟨#[]⟩, .string ⟨#[]⟩, .string ⟨#[]⟩, .string ⟨#[]⟩, .string ⟨#[]⟩, .string ⟨#[]⟩, .string ⟨#[]⟩, .string ⟨#[]⟩, .string ⟨#[]⟩]) (c' := #[.int .i64 0, .string ⟨#[]⟩, .int .i64 0, .slice none 0 0, .int .i64 0, .string ⟨#[]⟩, .int .i64 0, .slice none 0 0, .int .i64 0, .string ⟨#[]⟩, .int .i64 0, .slice none 0 0, .int .i64 0, .string ⟨#[]⟩, .int .i64 0, .slice none 0 0, .int .i64 0, .string ⟨#[]⟩, .int .i64 0, .slice none 0 0, .int .i64 0, .string ⟨#[]⟩, .int .i64 0, .slice none 0 0, .string ⟨#[]⟩, .string ⟨#[]⟩, .string ⟨#[]⟩, .string ⟨#[]⟩, .string ⟨#[]⟩, .string ⟨#[]⟩, .string ⟨#[]⟩, .string ⟨#[]⟩, .string ⟨#[]⟩]) rfl rfl HRB.out rfl rfl (by kernel_rfl) rfl (by kernel_rfl) ?_) | fail)
    refine bodyPost_ret (v := .tuple #[.agg #[.int .i64 0, .string ⟨#[]⟩, .int .i64 0, .slice none 0 0, .int .i64 0, .string ⟨#[]⟩, .int .i64 0, .slice none 0 0, .int .i64 0, .string ⟨#[]⟩, .int .i64 0, .slice none 0 0, .int .i64 0, .string ⟨#[]⟩, .int .i64 0, .slice none 0 0, .int .i64 0, .string ⟨#[]⟩, .int .i64 0, .slice none 0 0, .int .i64 0, .string ⟨#[]⟩, .int .i64 0, .slice none 0 0, .string ⟨#[]⟩, .string ⟨#[]⟩, .string ⟨#[]⟩, .string ⟨#[]⟩, .string ⟨#[]⟩, .string ⟨#[]⟩, .string ⟨#[]⟩, .string ⟨#[]⟩, .string ⟨#[]⟩], .bool false]) (results_blk Tryz.results49 rfl (HRB.out.setRow #[.int .i64 0, .string ⟨#[]⟩, .int .i64 0, .slice none 0 0, .int .i64 0, .string ⟨#[]⟩, .int .i64 0, .slice none 0 0, .int .i64 0, .string ⟨#[]⟩, .int .i64 0, .slice none 0 0, .int .i64 0, .string ⟨#[]⟩, .int .i64 0, .slice none 0 0, .int .i64 0, .string ⟨#[]⟩, .int .i64 0, .slice none 0 0, .int .i64 0, .string ⟨#[]⟩, .int .i64 0, .slice none 0 0, .string ⟨#[]⟩, .string ⟨#[]⟩, .string ⟨#[]⟩, .string ⟨#[]⟩, .string ⟨#[]⟩, .string ⟨#[]⟩, .string ⟨#[]⟩, .string ⟨#[]⟩, .string ⟨#[]⟩]) Tryz.underlying93 rfl (by kernel_rfl)) rfl ?_
    exact ⟨rfl, below_setRow HBL.out (by omega) _⟩
  have h3' : ((l.length : Int) != 3) = false := by rw [h3]; rfl
  have h9' : ((q.length : Int) != 9) = true := bne_iff_ne.2 (by omega)
  clear hn h3
  go_enter Tryz.func49, Tryz.ntmps49
  go_wp2_with (first | (refine wpList_store_blk (b := w.heap.size + 1) (c := #[.int .i64 0, .string ⟨#[]⟩, .int .i64 0, .slice none 0 0, .int .i64 0, .string ⟨#[]⟩, .int .i64 0, .slice none 0 0, .int .i64 0, .string ⟨#[]⟩, .int .i64 0, .slice none 0 0, .int .i64 0, .string ⟨#[]⟩, .int .i64 0, .slice none 0 0, .int .i64 0, .string ⟨#[]⟩, .int .i64 0, .slice none 0 0, .int .i64 0, .string ⟨#[]⟩, .int .i64 0, .slice none 0 0, .string ⟨#[]⟩, .string ⟨#[]⟩, .string ⟨#[]⟩, .string ⟨#[]⟩, .string ⟨#[]⟩, .string ⟨#[]⟩, .string ⟨#[]⟩, .string ⟨#[]⟩, .string ⟨#[]⟩]) (c' := #[.int .i64 0, .string ⟨#[]⟩, .int .i64 0, .slice none 0 0, .int .i64 0, .string ⟨#[]⟩, .int .i64 0, .slice none 0 0, .int .i64 0, .string ⟨#[]⟩, .int .i64 0, .slice none 0 0, .int .i64 0, .string ⟨#[]⟩, .int .i64 0, .slice none 0 0, .int .i64 0, .string ⟨#[]⟩, .int .i64 0, .slice none 0 0, .int .i64 0, .string ⟨#[]⟩, .int .i64 0, .slice none 0 0, .string ⟨#[]⟩, .string ⟨#[]⟩, .string ⟨#[]⟩, .string ⟨#[]⟩, .string ⟨#[]⟩, .string ⟨#[]⟩, .string ⟨#[]⟩, .string ⟨#[]⟩, .string ⟨#[]⟩]) rfl rfl HRB.out rfl rfl (by kernel_rfl) rfl (by kernel_rfl) ?_) | fail)
  refine bodyPost_ret (v := .tuple #[.agg #[.int .i64 0, .string ⟨#[]⟩, .int .i64 0, .slice none 0 0, .int .i64 0, .string ⟨#[]⟩, .int .i64 0, .slice none 0 0, .int .i64 0, .string ⟨#[]⟩, .int .i64 0, .slice none 0 0, .int .i64 0, .string ⟨#[]⟩, .int .i64 0, .slice none 0 0, .int .i64 0, .string ⟨#[]⟩, .int .i64 0, .slice none 0 0, .int .i64 0, .string ⟨#[]⟩, .int .i64 0, .slice none 0 0, .string ⟨#[]⟩, .string ⟨#[]⟩, .string ⟨#[]⟩, .string ⟨#[]⟩, .string ⟨#[]⟩, .string ⟨#[]⟩, .string ⟨#[]⟩, .string ⟨#[]⟩, .string ⟨#[]⟩], .bool false]) (results_blk Tryz.results49 rfl (HRB.out.setRow #[.int .i64 0, .string ⟨#[]⟩, .int .i64 0, .slice none 0 0, .int .i64 0, .string ⟨#[]⟩, .int .i64 0, .slice none 0 0, .int .i64 0, .string ⟨#[]⟩, .int .i64 0, .slice none 0 0, .int .i64 0, .string ⟨#[]⟩, .int .i64 0, .slice none 0 0, .int .i64 0, .string ⟨#[]⟩, .int .i64 0, .slice none 0 0, .int .i64 0, .string ⟨#[]⟩, .int .i64 0, .slice none 0 0, .string ⟨#[]⟩, .string ⟨#[]⟩, .string ⟨#[]⟩, .string ⟨#[]⟩, .string ⟨#[]⟩, .string ⟨#[]⟩, .string ⟨#[]⟩, .string ⟨#[]⟩, .string ⟨#[]⟩]) Tryz.underlying93 rfl (by kernel_rfl)) rfl ?_
  exact ⟨rfl, below_setRow HBL.out (by omega) _⟩

set_option maxHeartbeats 1600000 in
set_option maxRecDepth 100000 in
theorem implNetNo (w : World) (lv qv : Value) (hlv : ∃ a n c, lv = .slice a n c) (hqv : ∃ a n c, qv = .slice a n c) (hc : ∀ W, Below w.heap.size w W → Calls Tryz.prog 49 #[.agg #[lv, qv]] W (fun e w' => e = .returned (.tuple #[.agg #[.int .i64 0, .string ⟨#[]⟩, .int .i64 0, .slice none 0 0, .int .i64 0, .string ⟨#[]⟩, .int .i64 0, .slice none 0 0, .int .i64 0, .string ⟨#[]⟩, .int .i64 0, .slice none 0 0, .int .i64 0, .string ⟨#[]⟩, .int .i64 0, .slice none 0 0, .int .i64 0, .string ⟨#[]⟩, .int .i64 0, .slice none 0 0, .int .i64 0, .string ⟨#[]⟩, .int .i64 0, .slice none 0 0, .string ⟨#[]⟩, .string ⟨#[]⟩, .string ⟨#[]⟩, .string ⟨#[]⟩, .string ⟨#[]⟩, .string ⟨#[]⟩, .string ⟨#[]⟩, .string ⟨#[]⟩, .string ⟨#[]⟩], .bool false]) ∧ Below W.heap.size W w')) :
    Calls Tryz.prog 19 #[.agg #[lv, qv]] w fun e w' => e = .returned (.bool false) ∧ Below w.heap.size w w' := by
  obtain ⟨la, ln, lc, rfl⟩ := hlv
  obtain ⟨qa, qn, qc, rfl⟩ := hqv
  have hb0 := alloc_below w (.cells #[.slice la ln lc, .slice qa qn qc] ( /- t -/ 52))
  have HCT := hide (hc _ hb0)
  have HB0 := hide hb0
  clear hc hb0
  go_enter Tryz.func19, Tryz.ntmps19
  go_wp2_with (first
    | (go_at_call 49; (with_reducible refine HCT.out.mono ?_); rintro e w1 ⟨rfl, hb1⟩)
    | (refine wpList_store_blk (b := w1.heap.size) (c := #[.int .i64 0, .string ⟨#[]⟩, .int .i64 0, .slice none 0 0, .int .i64 0, .string ⟨#[]⟩, .int .i64 0, .slice none 0 0, .int .i64 0, .string ⟨#[]⟩, .int .i64 0, .slice none 0 0, .int .i64 0, .string ⟨#[]⟩, .int .i64 0, .slice none 0 0, .int .i64 0, .string ⟨#[]⟩, .int .i64 0, .slice none 0 0, .int .i64 0, .string ⟨#[]⟩, .int .i64 0, .slice none 0 0, .string ⟨#[]⟩, .string ⟨#[]⟩, .string ⟨#[]⟩, .string ⟨#[]⟩, .string ⟨#[]⟩, .string ⟨#[]⟩, .string ⟨#[]⟩, .string ⟨#[]⟩, .string ⟨#[]⟩]) (c' := #[.int .i64 0, .string ⟨#[]⟩, .int .i64 0, .slice none 0 0, .int .i64 0, .string ⟨#[]⟩, .int .i64 0, .slice none 0 0, .int .i64 0, .string ⟨#[]⟩, .int .i64 0, .slice none 0 0, .int .i64 0, .string ⟨#[]⟩, .int .i64 0, .slice none 0 0, .int .i64 0, .string ⟨#[]⟩, .int .i64 0, .slice none 0 0, .int .i64 0, .string ⟨#[]⟩, .int .i64 0, .slice none 0 0, .string ⟨#[]⟩, .string ⟨#[]⟩, .string ⟨#[]⟩, .string ⟨#[]⟩, .string ⟨#[]⟩, .string ⟨#[]⟩, .string ⟨#[]⟩, .string ⟨#[]⟩, .string ⟨#[]⟩]) rfl rfl (Blk.now w1 _ _) rfl rfl (by kernel_rfl) rfl (by kernel_rfl) ?_)
    | fail)
  go_ret
  exact ⟨rfl, below_setRow ((HB0.out.trans (hb1.mono HB0.out.size)).alloc (HB0.out.trans (hb1.mono HB0.out.size)).size _) (HB0.out.trans (hb1.mono HB0.out.size)).size _⟩

set_option maxHeartbeats 1600000 in
set_option maxRecDepth 100000 in
theorem implNetYes (w : World) (lv qv : Value) (hlv : ∃ a n c, lv = .slice a n c) (hqv : ∃ a n c, qv = .slice a n c) (hc : ∀ W, Below w.heap.size w W → Calls Tryz.prog 49 #[.agg #[lv, qv]] W (fun e w' => ∃ (t0 t1 t2 : Option Addr) (k0 k1 k2 : Nat) (g0 g1 g2 : Nd) (q0 q1 q2 q3 q4 q5 q6 q7 q8 : ByteArray) (u0 u1 u2 : Value) (x0 x1 x2 : Option Addr) (m0 m1 m2 n0 n1 n2 : Nat), u0 = .slice x0 m0 n0 ∧ u1 = .slice x1 m1 n1 ∧ u2 = .slice x2 m2 n2 ∧ e = .returned (.tuple #[.agg #[.int .i64 g0.k, .string g0.fr, .int .i64 g0.ix, .slice t0 g0.kids.len k0, .int .i64 g1.k, .string g1.fr, .int .i64 g1.ix, .slice t1 g1.kids.len k1, .int .i64 g2.k, .string g2.fr, .int .i64 g2.ix, .slice t2 g2.kids.len k2, .int .i64 (unf ⟨g0.k, g0.fr, g0.ix, g0.kids⟩).k, .string (unf ⟨g0.k, g0.fr, g0.ix, g0.kids⟩).fr, .int .i64 (unf ⟨g0.k, g0.fr, g0.ix, g0.kids⟩).ix, u0, .int .i64 (unf ⟨g1.k, g1.fr, g1.ix, g1.kids⟩).k, .string (unf ⟨g1.k, g1.fr, g1.ix, g1.kids⟩).fr, .int .i64 (unf ⟨g1.k, g1.fr, g1.ix, g1.kids⟩).ix, u1, .int .i64 (unf ⟨g2.k, g2.fr, g2.ix, g2.kids⟩).k, .string (unf ⟨g2.k, g2.fr, g2.ix, g2.kids⟩).fr, .int .i64 (unf ⟨g2.k, g2.fr, g2.ix, g2.kids⟩).ix, u2, .string q0, .string q1, .string q2, .string q3, .string q4, .string q5, .string q6, .string q7, .string q8], .bool true]) ∧ Below W.heap.size W w')) :
    Calls Tryz.prog 19 #[.agg #[lv, qv]] w fun e w' => e = .returned (.bool true) ∧ Below w.heap.size w w' := by
  obtain ⟨la, ln, lc, rfl⟩ := hlv
  obtain ⟨qa, qn, qc, rfl⟩ := hqv
  have hb0 := alloc_below w (.cells #[.slice la ln lc, .slice qa qn qc] ( /- t -/ 52))
  have HCT := hide (hc _ hb0)
  have HB0 := hide hb0
  clear hc hb0
  go_enter Tryz.func19, Tryz.ntmps19
  go_wp2_with (first
    | (go_at_call 49; (with_reducible refine HCT.out.mono ?_); rintro e w1 ⟨t0, t1, t2, k0, k1, k2, g0, g1, g2, q0, q1, q2, q3, q4, q5, q6, q7, q8, u0, u1, u2, x0, x1, x2, m0, m1, m2, n0, n1, n2, rfl, rfl, rfl, rfl, hb1⟩)
    | (refine wpList_store_blk (b := w1.heap.size) (c := #[.int .i64 0, .string ⟨#[]⟩, .int .i64 0, .slice none 0 0, .int .i64 0, .string ⟨#[]⟩, .int .i64 0, .slice none 0 0, .int .i64 0, .string ⟨#[]⟩, .int .i64 0, .slice none 0 0, .int .i64 0, .string ⟨#[]⟩, .int .i64 0, .slice none 0 0, .int .i64 0, .string ⟨#[]⟩, .int .i64 0, .slice none 0 0, .int .i64 0, .string ⟨#[]⟩, .int .i64 0, .slice none 0 0, .string ⟨#[]⟩, .string ⟨#[]⟩, .string ⟨#[]⟩, .string ⟨#[]⟩, .string ⟨#[]⟩, .string ⟨#[]⟩, .string ⟨#[]⟩, .string ⟨#[]⟩, .string ⟨#[]⟩]) (c' := #[.int .i64 g0.k, .string g0.fr, .int .i64 g0.ix, .slice t0 g0.kids.len k0, .int .i64 g1.k, .string g1.fr, .int .i64 g1.ix, .slice t1 g1.kids.len k1, .int .i64 g2.k, .string g2.fr, .int .i64 g2.ix, .slice t2 g2.kids.len k2, .int .i64 (unf ⟨g0.k, g0.fr, g0.ix, g0.kids⟩).k, .string (unf ⟨g0.k, g0.fr, g0.ix, g0.kids⟩).fr, .int .i64 (unf ⟨g0.k, g0.fr, g0.ix, g0.kids⟩).ix, .slice x0 m0 n0, .int .i64 (unf ⟨g1.k, g1.fr, g1.ix, g1.kids⟩).k, .string (unf ⟨g1.k, g1.fr, g1.ix, g1.kids⟩).fr, .int .i64 (unf ⟨g1.k, g1.fr, g1.ix, g1.kids⟩).ix, .slice x1 m1 n1, .int .i64 (unf ⟨g2.k, g2.fr, g2.ix, g2.kids⟩).k, .string (unf ⟨g2.k, g2.fr, g2.ix, g2.kids⟩).fr, .int .i64 (unf ⟨g2.k, g2.fr, g2.ix, g2.kids⟩).ix, .slice x2 m2 n2, .string q0, .string q1, .string q2, .string q3, .string q4, .string q5, .string q6, .string q7, .string q8]) rfl rfl (Blk.now w1 _ _) rfl rfl (by kernel_rfl) rfl (by kernel_rfl) ?_)
    | fail)
  go_ret
  exact ⟨rfl, below_setRow ((HB0.out.trans (hb1.mono HB0.out.size)).alloc (HB0.out.trans (hb1.mono HB0.out.size)).size _) (HB0.out.trans (hb1.mono HB0.out.size)).size _⟩

/-- NetworkValid of the program. -/
theorem implNetValid (w : World) (l : List Nd) (q : List ByteArray) (lv qv : Value) (hl : SlG elL w lv l) (hq : SlG elS w qv q) (hqs : ∀ s, s ∈ q → s.size ≤ 1048576) :
    Calls Tryz.prog 19 #[.agg #[lv, qv]] w fun e w' => e = .returned (.bool (netB l q)) ∧ Below w.heap.size w w' := by
  have hlv : ∃ a n c, lv = .slice a n c := by obtain ⟨a, c, e, -⟩ := hl.at; exact ⟨a, _, c, e⟩
  have hqv : ∃ a n c, qv = .slice a n c := by obtain ⟨a, c, e, -⟩ := hq.at; exact ⟨a, _, c, e⟩
  by_cases hn : l.length = 3 ∧ q.length = 9
  case neg =>
    rw [show netB l q = false by
      unfold netB
      by_cases h3 : l.length = 3
      · rw [decide_eq_false (show ¬ q.length = 9 from fun h9 => hn ⟨h3, h9⟩)]; simp
      · rw [decide_eq_false h3]; rfl]
    exact implNetNo w lv qv hlv hqv (fun W hb => implConfNo W l q lv qv (hl.still (Still.of_below hb)) (hq.still (Still.of_below hb)) hn)
  obtain ⟨h3, h9⟩ := hn
  match l, h3, q, h9 with
  | [g0, g1, g2], _, [q0, q1, q2, q3, q4, q5, q6, q7, q8], _ =>
    obtain ⟨lb, lo, qb, qo, lc, qc, t0, t1, t2, k0, k1, k2, rfl, rfl, hcf⟩ := open_cf hl hq
    have hs : ∀ s, s ∈ [q0, q1, q2, q3, q4, q5, q6, q7, q8] → s.size ≤ 9223372036854775807 := fun s h => Nat.le_trans (hqs s h) (by omega)
    have hc := fun (W : World) (hb : Below w.heap.size w W) => implConf W lb lo qb qo lc qc g0 g1 g2 t0 t1 t2 k0 k1 k2 q0 q1 q2 q3 q4 q5 q6 q7 q8 (hcf.still (Still.of_below hb)) _ (netB_conf g0 g1 g2 q0 q1 q2 q3 q4 q5 q6 q7 q8) (hs _ (by simp)) (hs _ (by simp)) (hs _ (by simp)) (hs _ (by simp)) (hs _ (by simp)) (hs _ (by simp)) (hs _ (by simp)) (hs _ (by simp)) (hs _ (by simp))
    cases hok : netB [g0, g1, g2] [q0, q1, q2, q3, q4, q5, q6, q7, q8] with
    | false => exact implNetNo w _ _ hlv hqv (fun W hb => (hc W hb).mono fun e w' h => ⟨h.2.1 hok, h.1⟩)
    | true =>
      refine implNetYes w _ _ hlv hqv (fun W hb => (hc W hb).mono fun e w' h => ?_)
      obtain ⟨u0, u1, u2, he, h0, h1, h2⟩ := h.2.2 hok
      obtain ⟨x0, n0, e0, -⟩ := h0
      obtain ⟨x1, n1, e1, -⟩ := h1
      obtain ⟨x2, n2, e2, -⟩ := h2
      exact ⟨t0, t1, t2, k0, k1, k2, g0, g1, g2, q0, q1, q2, q3, q4, q5, q6, q7, q8, u0, u1, u2, x0, x1, x2, _, _, _, n0, n1, n2, e0, e1, e2, he, h.1⟩
end Go.Proofs.YtmkjipnemapdeaaGreatDoor.Lo.Ne

/- copyLocal of the program. -/
namespace Go.Proofs.YtmkjipnemapdeaaGreatDoor.Lo
open Go.RowKit

def cpyR (g : Nd) : Nd := if okG g then g else zeroNd

set_option maxHeartbeats 2000000 in
set_option maxRecDepth 100000 in
/-- copyLocal of the program. -/
theorem implCopy (w : World) (g : Nd) (sv : Value) (hs : Sl w sv g.kids) :
    Calls Tryz.prog 79 #[.agg #[.int .i64 g.k, .string g.fr, .int .i64 g.ix, sv]] w (MadeR (cpyR g) (okG g) w) := by
  have HS := hide hs
  have hb0 := (alloc_below w (.cells #[.int .i64 g.k, .string g.fr, .int .i64 g.ix, sv] ( /- t -/ 33))).alloc (by simp) (.cells #[.int .i64 0, .string ⟨#[]⟩, .int .i64 0, .slice none 0 0] ( /- t -/ 33))
  have hz0 := Box4.now (w.alloc (.cells #[.int .i64 g.k, .string g.fr, .int .i64 g.ix, sv] ( /- t -/ 33))) (.int .i64 0) (.string ⟨#[]⟩) (.int .i64 0) (.slice none 0 0) ( /- t -/ 33)
  rw [show (w.alloc (.cells #[.int .i64 g.k, .string g.fr, .int .i64 g.ix, sv] ( /- t -/ 33))).heap.size = w.heap.size + 1 from by simp] at hz0
  have HB0 := hide hb0
  have HZ0 := hide hz0
  obtain ⟨ok, hok⟩ : ∃ ok, ok = okG g := ⟨_, rfl⟩
  obtain ⟨R, hR⟩ : ∃ R, R = cpyR g := ⟨_, rfl⟩
  rw [← hR, ← hok]
  have HRK := hide (And.intro hok hR)
  clear hs hb0 hz0 hok hR
  go_enter Tryz.func79, Tryz.ntmps79
  go_wp2_with fail
  generalize (w.alloc (.cells #[.int .i64 g.k, .string g.fr, .int .i64 g.ix, sv] ( /- t -/ 33))).alloc (.cells #[.int .i64 0, .string ⟨#[]⟩, .int .i64 0, .slice none 0 0] ( /- t -/ 33)) = W at *
  refine (implLink W g.k g.ix g.fr sv g.kids (HS.out.still (Still.of_below HB0.out))).mono ?_
  rintro e w1 ⟨u, bs, rfl, hu, hb, hok⟩
  have HZ1 := hide (HZ0.out.below hb)
  have HB1 := hide (HB0.out.trans (hb.mono HB0.out.size))
  have HOK := hide hok
  clear hb HZ0 HB0 hok
  cases hok : okN g.k g.fr g.ix g.kids with
  | false =>
    have hr : okG g = false := hok
    have HR := hide hr
    obtain ⟨z0, z1, z2, z3⟩ := HZ1.out.cells
    have fz := HZ1.out.frozen
    have hzl := HZ1.out.lt
    clear hok hr HOK
    rcases hu with rfl | ⟨T, x, rfl⟩
    all_goals
      go_wp2_with fail
      refine bodyPost_ret (v := .tuple #[.agg #[.int .i64 0, .string ⟨#[]⟩, .int .i64 0, .slice none 0 0], .bool false]) (by simp [results, Tryz.results79, go_sem, *]) rfl ?_
      have e1 : cpyR g = zeroNd := by unfold cpyR; rw [HR.out]; rfl
      rw [HRK.out.1, HRK.out.2, HR.out, e1]
      refine MadeR.zero ?_
      repeat (refine Below.setCell ?_ (by first | (simp; done) | (simp; omega)) _)
      exact HB1.out
  | true =>
    have hg : okG g = true := hok
    obtain ⟨hw, hh, hsz⟩ := okG_w hg
    have hln := (HOK.out hok).1
    obtain ⟨T, x, rfl⟩ := hln.val
    have hOK : okG g = smallN g := by unfold smallN; rw [okG_of_w hw]
    have hRR : cpyR g = if smallN g = true then g else zeroNd := by unfold cpyR; rw [hOK]
    have HL := hide (And.intro hln hw)
    have HRR := hide (And.intro (HRK.out.1.trans hOK) (HRK.out.2.trans hRR))
    clear hok hg hw hh hsz hln hOK hRR HOK hu
    go_wp2_with fail
    refine (unlinkL_calls w1 w1 g g _ [] bs (by simp) HL.out.1 (by trivial) HL.out.2 (Below.refl _ _) ⟨_, _, rfl⟩ (cpN_nil g)).mono ?_
    rw [← HRR.out.2, ← HRR.out.1]
    rintro e w3 ⟨u3, bs3, rfl, how, hge, hnd, hb3⟩
    obtain ⟨ua, uc, rfl⟩ := how.val
    have hz3 := HZ1.out.below hb3
    have hw2l := HZ1.out.lt
    have HB3 := hide (HB1.out.trans (hb3.mono HB1.out.size))
    obtain ⟨z0, z1, z2, z3⟩ := hz3.cells
    have fz := hz3.frozen
    have hzl := hz3.lt
    have HOW := hide how
    have HGE := hide hge
    clear how hge hb3 hz3 HL HB1
    go_wp2_with fail
    refine bodyPost_ret (v := .tuple #[.agg #[.int .i64 R.k, .string R.fr, .int .i64 R.ix, .slice ua R.kids.len uc], .bool ok]) (by simp [results, Tryz.results79, go_sem, *]) rfl ?_
    have q : ∀ b, b ∈ bs3 → w.heap.size + 1 < b := fun b h => by have := HGE.out b h; omega
    refine ⟨_, bs3, rfl, HOW.out.same (same_setAll (fun b hb => Nat.ne_of_gt (q b hb)) _ _ _ _), fun b hb => by have := q b hb; omega, hnd, ?_⟩
    repeat (refine Below.setCell ?_ (by first | (simp; done) | (simp; omega)) _)
    exact HB3.out
end Go.Proofs.YtmkjipnemapdeaaGreatDoor.Lo

/- slices.Clone at a row of strings; the network of a configuration; NewNetwork of the program. -/
namespace Go.Proofs.YtmkjipnemapdeaaGreatDoor.Lo.Ne
open Go.RowKit

set_option maxHeartbeats 2000000 in
set_option maxRecDepth 100000 in
/-- slices.Clone. -/
theorem implClone (w : World) (b o : Nat) (q : List ByteArray) (h9 : q.length = 9) (hm : ∀ s, s ∈ q → s.size ≤ maxLen) (hc : ∀ (j : Nat) u, (q.map Value.string)[j]? = some u → w.cell? ((⟨b, o, none⟩ : Addr).add j) = some u) :
    Calls Tryz.prog 78 #[.slice (some ⟨b, o, none⟩) 9 9] w fun e w' => ∃ g cap, e = .returned (.slice (some ⟨g, 0, none⟩) 9 cap) ∧ w.heap.size ≤ g ∧ OwG elS w' (.slice (some ⟨g, 0, none⟩) 9 cap) q [g] ∧ Below w.heap.size w w' := by
  have hne : q ≠ [] := by intro e; rw [e] at h9; cases h9
  have q45 : ∀ (w : World) (a : Option Addr) (n c n' c' : Nat), (binOp .eql ( /- t -/ 45) (.slice a n c) (.slice none n' c')).run Tryz.prog w = .ok (.bool a.isNone) w := fun w a n c n' c' => Lib.run_eql_slice_nil w _ _ a n c n' c' Tryz.underlying45
  have hmade := World.ownsRow_made (base := w.heap.size) (e := ( /- t -/ 9)) (size := 1) w #[] 0 (Nat.le_refl _) (Nat.zero_le _) rfl
  have hb0 := alloc_below w (.cells #[] ( /- t -/ 9))
  have hcell : ∀ (j : Nat) u, (q.map Value.string)[j]? = some u → (w.alloc (.cells #[] ( /- t -/ 9))).cell? ((⟨b, o, none⟩ : Addr).add j) = some u := fun j u hj => by
    have := hc j u hj
    rw [Addr.add_lit] at this ⊢
    exact Still.of_below hb0 _ _ this
  have HC := hide hcell
  have HM := hide hm
  have HMD := hide hmade
  have HB0 := hide hb0
  clear hc hm hmade hb0 hcell
  obtain ⟨i0, hi, hz0, hz1, hz2⟩ := info_parts Tryz.info9
  go_enter Tryz.func78, Tryz.ntmps78
  go_wp2_with (at_builtin; refine wpList_append_own _ rfl _ _ ( /- t -/ 45) rfl w.heap.size ( /- t -/ 9) i0 (.string ⟨#[]⟩) 1 16 Tryz.underlying45 hi hz0 hz1 hz2 rfl (by decide) _ _ _ rfl HMD.out ⟨b, o, none⟩ 9 9 (q.map Value.string) rfl ?qc1 ?qc2 ?qc3 ?qc4 ?qc5 ?qc6 ?_)
  case qc1 => simp [h9]
  case qc2 => exact HC.out
  case qc3 => intro u hu; obtain ⟨x, _, rfl⟩ := List.mem_map.1 hu; rfl
  case qc4 => unfold maxLen; omega
  case qc5 => omega
  case qc6 => simp
  intro v' w1 hown hgrow _
  have hown : w1.ownsRow w.heap.size ( /- t -/ 9) 1 v' q.length (q.map Value.string) := by rw [h9]; exact hown
  obtain ⟨gq, qcap, rfl, hgq, how⟩ := owQ_owns hne HM.out hown
  rw [h9] at how ⊢
  have HW := hide how
  have hB : Below w.heap.size w w1 := HB0.out.grown hgrow (by simp) (by intro k hk; simp [Value.ownBlock] at hk; omega)
  clear hown hgrow how q45
  go_wp2_with fail
  go_ret
  exact ⟨gq, qcap, rfl, hgq, HW.out, hB⟩

/-- What holds at each round's head of configuration.network. -/
def NwRel (w : World) (l : List Nd) (q : List ByteArray) (qn : Value) (gq bo : Nat) (iv : Value) (wr : World) : Prop :=
  ∃ p g v bs, l = p ++ g ∧ iv = .int .i64 (p.length : Nat) ∧ Box2 wr (w.heap.size + 1) (.slice none 0 0) (.slice none 0 0) ∧ Box2 wr bo v qn ∧ GrL wr (bo + 1) v p bs ∧ OwG elS wr qn q [gq] ∧ gq < bo ∧ w.heap.size + 2 ≤ gq ∧ Below w.heap.size w wr
/-- One round more. -/
theorem nw_step {w wr w5 w6 : World} {q : List ByteArray} {qn v : Value} {gq bo gg cp uc : Nat} {p rest : List Nd} {bs ks : List Nat} {k ix : Int} {fr : ByteArray} {kids : F} {ua : Option Addr}
    (hY : Box2 wr (w.heap.size + 1) (.slice none 0 0) (.slice none 0 0)) (hO : Box2 wr bo v qn) (hG : GrL wr (bo + 1) v p bs) (hQ : OwG elS wr qn q [gq]) (hgb : gq < bo) (hg2 : w.heap.size + 2 ≤ gq) (hb : Below w.heap.size w wr)
    (hb5 : Below wr.heap.size wr w5) (hu : Ow w5 (.slice ua kids.len uc) kids ks) (hks : ∀ b, b ∈ ks → wr.heap.size ≤ b) (hnd : ks.Nodup) (hf : fr.size ≤ maxLen) (hk : (Lit.int .i64 k).wf = true) (hi : (Lit.int .i64 ix).wf = true)
    (hown : w6.ownsRow (bo + 1) ( /- t -/ 33) 4 (.slice (some ⟨gg, 0, none⟩) (p.length + 1) cp) (p.length + 1) (grXl (w5.alloc (.cells #[.int .i64 k, .string fr, .int .i64 ix, .slice ua kids.len uc] ( /- t -/ 33))) v p ++ [.int .i64 k, .string fr, .int .i64 ix, .slice ua kids.len uc]))
    (hgr : (w5.alloc (.cells #[.int .i64 k, .string fr, .int .i64 ix, .slice ua kids.len uc] ( /- t -/ 33))).grownBy w6 v.ownBlock) (hat : v.ownBlock = some gg ∨ gg = (w5.alloc (.cells #[.int .i64 k, .string fr, .int .i64 ix, .slice ua kids.len uc] ( /- t -/ 33))).heap.size) :
    NwRel w (p ++ ⟨k, fr, ix, kids⟩ :: rest) q qn gq bo (.int .i64 ((p.length + 1 : Nat) : Int)) (w6.setCell ⟨bo, 0, none⟩ (.slice (some ⟨gg, 0, none⟩) (p.length + 1) cp)) := by
  have hG5 := (hG.below hb5).below (alloc_below w5 (.cells #[.int .i64 k, .string fr, .int .i64 ix, .slice ua kids.len uc] ( /- t -/ 33)))
  have hbo := hO.lt
  have h5 := hb5.size
  obtain ⟨bs', hpush, -⟩ := GrL.push hG5 (k := k) (ix := ix) (hu.same (Same.of_below (alloc_below w5 (.cells #[.int .i64 k, .string fr, .int .i64 ix, .slice ua kids.len uc] ( /- t -/ 33))) hu.lt)) (fun b hb => by have := hks b hb; omega) hnd (fun b h1 h2 => by have := hG.lt b h1; have := hks b h2; omega) hf hk hi hown hgr hat
  have hvb : ∀ b, some b = v.ownBlock → bo + 1 ≤ b := fun b e => hG5.ge b (hG5.block b e.symm)
  have far : ∀ b, b ≤ bo → w6.heap[b]? = wr.heap[b]? := fun b h => by
    rw [hgr.block b (by simp; omega) (fun e => by have := hvb b e; omega), Below.heap_alloc _ _ _ (by omega), hb5.block b (by omega)]
  have hs := hb.size
  have hD : Below w.heap.size w w6 := by
    have h2 := hb.trans (hb5.mono hb.size)
    have h3 := h2.alloc h2.size (.cells #[.int .i64 k, .string fr, .int .i64 ix, .slice ua kids.len uc] ( /- t -/ 33))
    exact ⟨hgr.os.trans h3.os, hgr.tape.trans h3.tape, hgr.output.trans h3.output, Nat.le_trans h3.size hgr.size, fun b hb => (hgr.block b (Nat.lt_of_lt_of_le hb h3.size) (fun e => by have := hvb b e; omega)).trans (h3.block b hb)⟩
  refine ⟨p ++ [⟨k, fr, ix, kids⟩], rest, _, bs', by simp, by simp, (hY.same (far _ (by omega))).setOther (by simp; omega) _, (hO.same (far _ (Nat.le_refl _))).set0 _,
    hpush.same (fun b hb => Below.heap_setCell _ _ _ _ (by have := hpush.ge b hb; simp; omega)), (hQ.same elS_flat (fun b hb => ?_)).same elS_flat (fun b hb => Below.heap_setCell _ _ _ _ ?_), hgb, hg2, hD.setCell (by simp; omega) _⟩
  · obtain rfl : b = gq := by simpa using hb
    exact far _ (by omega)
  · obtain rfl : b = gq := by simpa using hb
    simp
    omega

theorem pre3 {a b c : Nd} {p g : List Nd} (h : [a, b, c] = p ++ g) : (p = [] ∧ g = [a, b, c]) ∨ (p = [a] ∧ g = [b, c]) ∨ (p = [a, b] ∧ g = [c]) ∨ (p = [a, b, c] ∧ g = []) := by
  rcases p with _ | ⟨x, _ | ⟨y, _ | ⟨z, _ | ⟨d, p⟩⟩⟩⟩ <;> simp at h
  · exact .inl ⟨rfl, h.symm⟩
  · obtain ⟨rfl, rfl⟩ := h; exact .inr (.inl ⟨rfl, rfl⟩)
  · obtain ⟨rfl, rfl, rfl⟩ := h; exact .inr (.inr (.inl ⟨rfl, rfl⟩))
  · obtain ⟨rfl, rfl, rfl, rfl⟩ := h; exact .inr (.inr (.inr ⟨rfl, rfl⟩))

set_option maxHeartbeats 4000000 in
set_option maxRecDepth 100000 in
/-- configuration.network. -/
theorem implNetw (w : World) (g0 g1 g2 : Nd) (q0 q1 q2 q3 q4 q5 q6 q7 q8 : ByteArray) (t0 t1 t2 x0 x1 x2 : Option Addr) (k0 k1 k2 m0 m1 m2 n0 n1 n2 : Nat)
    (h0 : Sl w (.slice t0 g0.kids.len k0) g0.kids) (h1 : Sl w (.slice t1 g1.kids.len k1) g1.kids) (h2 : Sl w (.slice t2 g2.kids.len k2) g2.kids) (hok : ∀ g, g ∈ [g0, g1, g2] → okG g.up = true) (hfit : AllFit [g0, g1, g2]) (hqm : ∀ s, s ∈ [q0, q1, q2, q3, q4, q5, q6, q7, q8] → s.size ≤ maxLen) :
    Calls Tryz.prog 55 #[.agg #[.int .i64 g0.k, .string g0.fr, .int .i64 g0.ix, .slice t0 g0.kids.len k0, .int .i64 g1.k, .string g1.fr, .int .i64 g1.ix, .slice t1 g1.kids.len k1, .int .i64 g2.k, .string g2.fr, .int .i64 g2.ix, .slice t2 g2.kids.len k2, .int .i64 (unf ⟨g0.k, g0.fr, g0.ix, g0.kids⟩).k, .string (unf ⟨g0.k, g0.fr, g0.ix, g0.kids⟩).fr, .int .i64 (unf ⟨g0.k, g0.fr, g0.ix, g0.kids⟩).ix, .slice x0 m0 n0, .int .i64 (unf ⟨g1.k, g1.fr, g1.ix, g1.kids⟩).k, .string (unf ⟨g1.k, g1.fr, g1.ix, g1.kids⟩).fr, .int .i64 (unf ⟨g1.k, g1.fr, g1.ix, g1.kids⟩).ix, .slice x1 m1 n1, .int .i64 (unf ⟨g2.k, g2.fr, g2.ix, g2.kids⟩).k, .string (unf ⟨g2.k, g2.fr, g2.ix, g2.kids⟩).fr, .int .i64 (unf ⟨g2.k, g2.fr, g2.ix, g2.kids⟩).ix, .slice x2 m2 n2, .string q0, .string q1, .string q2, .string q3, .string q4, .string q5, .string q6, .string q7, .string q8]] w (MadeNet [g0, g1, g2] [q0, q1, q2, q3, q4, q5, q6, q7, q8] w) := by
  have hb0 : Below w.heap.size w ((w.alloc (.cells #[.int .i64 g0.k, .string g0.fr, .int .i64 g0.ix, .slice t0 g0.kids.len k0, .int .i64 g1.k, .string g1.fr, .int .i64 g1.ix, .slice t1 g1.kids.len k1, .int .i64 g2.k, .string g2.fr, .int .i64 g2.ix, .slice t2 g2.kids.len k2, .int .i64 (unf ⟨g0.k, g0.fr, g0.ix, g0.kids⟩).k, .string (unf ⟨g0.k, g0.fr, g0.ix, g0.kids⟩).fr, .int .i64 (unf ⟨g0.k, g0.fr, g0.ix, g0.kids⟩).ix, .slice x0 m0 n0, .int .i64 (unf ⟨g1.k, g1.fr, g1.ix, g1.kids⟩).k, .string (unf ⟨g1.k, g1.fr, g1.ix, g1.kids⟩).fr, .int .i64 (unf ⟨g1.k, g1.fr, g1.ix, g1.kids⟩).ix, .slice x1 m1 n1, .int .i64 (unf ⟨g2.k, g2.fr, g2.ix, g2.kids⟩).k, .string (unf ⟨g2.k, g2.fr, g2.ix, g2.kids⟩).fr, .int .i64 (unf ⟨g2.k, g2.fr, g2.ix, g2.kids⟩).ix, .slice x2 m2 n2, .string q0, .string q1, .string q2, .string q3, .string q4, .string q5, .string q6, .string q7, .string q8] ( /- t -/ 93))).alloc (.cells #[.slice none 0 0, .slice none 0 0] ( /- t -/ 52))) := (alloc_below w _).alloc (by simp) _
  have hc0 := (Blk.now w #[.int .i64 g0.k, .string g0.fr, .int .i64 g0.ix, .slice t0 g0.kids.len k0, .int .i64 g1.k, .string g1.fr, .int .i64 g1.ix, .slice t1 g1.kids.len k1, .int .i64 g2.k, .string g2.fr, .int .i64 g2.ix, .slice t2 g2.kids.len k2, .int .i64 (unf ⟨g0.k, g0.fr, g0.ix, g0.kids⟩).k, .string (unf ⟨g0.k, g0.fr, g0.ix, g0.kids⟩).fr, .int .i64 (unf ⟨g0.k, g0.fr, g0.ix, g0.kids⟩).ix, .slice x0 m0 n0, .int .i64 (unf ⟨g1.k, g1.fr, g1.ix, g1.kids⟩).k, .string (unf ⟨g1.k, g1.fr, g1.ix, g1.kids⟩).fr, .int .i64 (unf ⟨g1.k, g1.fr, g1.ix, g1.kids⟩).ix, .slice x1 m1 n1, .int .i64 (unf ⟨g2.k, g2.fr, g2.ix, g2.kids⟩).k, .string (unf ⟨g2.k, g2.fr, g2.ix, g2.kids⟩).fr, .int .i64 (unf ⟨g2.k, g2.fr, g2.ix, g2.kids⟩).ix, .slice x2 m2 n2, .string q0, .string q1, .string q2, .string q3, .string q4, .string q5, .string q6, .string q7, .string q8] ( /- t -/ 93)).below (alloc_below _ (.cells #[.slice none 0 0, .slice none 0 0] ( /- t -/ 52)))
  have hy0 := Box2.now (w.alloc (.cells #[.int .i64 g0.k, .string g0.fr, .int .i64 g0.ix, .slice t0 g0.kids.len k0, .int .i64 g1.k, .string g1.fr, .int .i64 g1.ix, .slice t1 g1.kids.len k1, .int .i64 g2.k, .string g2.fr, .int .i64 g2.ix, .slice t2 g2.kids.len k2, .int .i64 (unf ⟨g0.k, g0.fr, g0.ix, g0.kids⟩).k, .string (unf ⟨g0.k, g0.fr, g0.ix, g0.kids⟩).fr, .int .i64 (unf ⟨g0.k, g0.fr, g0.ix, g0.kids⟩).ix, .slice x0 m0 n0, .int .i64 (unf ⟨g1.k, g1.fr, g1.ix, g1.kids⟩).k, .string (unf ⟨g1.k, g1.fr, g1.ix, g1.kids⟩).fr, .int .i64 (unf ⟨g1.k, g1.fr, g1.ix, g1.kids⟩).ix, .slice x1 m1 n1, .int .i64 (unf ⟨g2.k, g2.fr, g2.ix, g2.kids⟩).k, .string (unf ⟨g2.k, g2.fr, g2.ix, g2.kids⟩).fr, .int .i64 (unf ⟨g2.k, g2.fr, g2.ix, g2.kids⟩).ix, .slice x2 m2 n2, .string q0, .string q1, .string q2, .string q3, .string q4, .string q5, .string q6, .string q7, .string q8] ( /- t -/ 93))) (.slice none 0 0) (.slice none 0 0) ( /- t -/ 52)
  rw [show (w.alloc (.cells #[.int .i64 g0.k, .string g0.fr, .int .i64 g0.ix, .slice t0 g0.kids.len k0, .int .i64 g1.k, .string g1.fr, .int .i64 g1.ix, .slice t1 g1.kids.len k1, .int .i64 g2.k, .string g2.fr, .int .i64 g2.ix, .slice t2 g2.kids.len k2, .int .i64 (unf ⟨g0.k, g0.fr, g0.ix, g0.kids⟩).k, .string (unf ⟨g0.k, g0.fr, g0.ix, g0.kids⟩).fr, .int .i64 (unf ⟨g0.k, g0.fr, g0.ix, g0.kids⟩).ix, .slice x0 m0 n0, .int .i64 (unf ⟨g1.k, g1.fr, g1.ix, g1.kids⟩).k, .string (unf ⟨g1.k, g1.fr, g1.ix, g1.kids⟩).fr, .int .i64 (unf ⟨g1.k, g1.fr, g1.ix, g1.kids⟩).ix, .slice x1 m1 n1, .int .i64 (unf ⟨g2.k, g2.fr, g2.ix, g2.kids⟩).k, .string (unf ⟨g2.k, g2.fr, g2.ix, g2.kids⟩).fr, .int .i64 (unf ⟨g2.k, g2.fr, g2.ix, g2.kids⟩).ix, .slice x2 m2 n2, .string q0, .string q1, .string q2, .string q3, .string q4, .string q5, .string q6, .string q7, .string q8] ( /- t -/ 93))).heap.size = w.heap.size + 1 from by simp] at hy0
  have HS := hide (And.intro h0 (And.intro h1 h2))
  have HOKG := hide hok
  have HFIT := hide hfit
  have HQM := hide hqm
  have HB0 := hide hb0
  have HC0 := hide hc0
  have HY0 := hide hy0
  clear h0 h1 h2 hok hfit hqm hb0 hc0 hy0
  obtain ⟨iL, hiL, hL0, hL1, hL2⟩ := info_parts Tryz.info33
  go_enter Tryz.func55, Tryz.ntmps55
  go_wp2_with fail
  generalize (w.alloc (.cells #[.int .i64 g0.k, .string g0.fr, .int .i64 g0.ix, .slice t0 g0.kids.len k0, .int .i64 g1.k, .string g1.fr, .int .i64 g1.ix, .slice t1 g1.kids.len k1, .int .i64 g2.k, .string g2.fr, .int .i64 g2.ix, .slice t2 g2.kids.len k2, .int .i64 (unf ⟨g0.k, g0.fr, g0.ix, g0.kids⟩).k, .string (unf ⟨g0.k, g0.fr, g0.ix, g0.kids⟩).fr, .int .i64 (unf ⟨g0.k, g0.fr, g0.ix, g0.kids⟩).ix, .slice x0 m0 n0, .int .i64 (unf ⟨g1.k, g1.fr, g1.ix, g1.kids⟩).k, .string (unf ⟨g1.k, g1.fr, g1.ix, g1.kids⟩).fr, .int .i64 (unf ⟨g1.k, g1.fr, g1.ix, g1.kids⟩).ix, .slice x1 m1 n1, .int .i64 (unf ⟨g2.k, g2.fr, g2.ix, g2.kids⟩).k, .string (unf ⟨g2.k, g2.fr, g2.ix, g2.kids⟩).fr, .int .i64 (unf ⟨g2.k, g2.fr, g2.ix, g2.kids⟩).ix, .slice x2 m2 n2, .string q0, .string q1, .string q2, .string q3, .string q4, .string q5, .string q6, .string q7, .string q8] ( /- t -/ 93))).alloc (.cells #[.slice none 0 0, .slice none 0 0] ( /- t -/ 52)) = W at *
  refine (implClone W w.heap.size 24 [q0, q1, q2, q3, q4, q5, q6, q7, q8] rfl HQM.out (fun j u hj => ?_)).mono ?_
  · rw [Addr.add_lit, HC0.out.cell]
    have hj9 := (List.getElem?_eq_some_iff.1 hj).1
    simp at hj9
    rw [← hj]
    rcases j with _ | _ | _ | _ | _ | _ | _ | _ | _ | j
    all_goals first | rfl | omega
  rintro e w1 ⟨gq, qcap, rfl, hgq, hq, hb1⟩
  have hsz : w.heap.size + 2 ≤ W.heap.size := HY0.out.lt
  have hs1 := hb1.size
  have HQQ := hide hq
  have HY1 := hide (HY0.out.below hb1)
  have HB1 := hide (HB0.out.trans (hb1.mono HB0.out.size))
  have HCC := hide (HC0.out.below hb1)
  clear hq hb1
  have z0 := HCC.out.cell 0
  have z1 := HCC.out.cell 1
  have z2 := HCC.out.cell 2
  have z3 := HCC.out.cell 3
  have z4 := HCC.out.cell 4
  have z5 := HCC.out.cell 5
  have z6 := HCC.out.cell 6
  have z7 := HCC.out.cell 7
  have z8 := HCC.out.cell 8
  have z9 := HCC.out.cell 9
  have z10 := HCC.out.cell 10
  have z11 := HCC.out.cell 11
  simp only [List.getElem?_toArray, List.getElem?_cons_succ, List.getElem?_cons_zero] at z0 z1 z2 z3 z4 z5 z6 z7 z8 z9 z10 z11
  have hcl : w.heap.size < w1.heap.size := HCC.out.lt
  go_wp2_with fail
  go_loopw [14] (fun iv wr => NwRel w [g0, g1, g2] [q0, q1, q2, q3, q4, q5, q6, q7, q8] (.slice (some ⟨gq, 0, none⟩) 9 qcap) gq w1.heap.size iv wr) (fun iv _ => 3 - (intOf iv).toNat)
  case atStart =>
    have hba := alloc_below w1 (.cells #[.slice none 0 0, .slice (some ⟨gq, 0, none⟩) 9 qcap] ( /- t -/ 52))
    exact ⟨[], [g0, g1, g2], _, [], rfl, rfl, HY1.out.below hba, Box2.now w1 _ _ ( /- t -/ 52), GrL.nil _ _, HQQ.out.same elS_flat (Same.of_below hba HQQ.out.lt), HQQ.out.lt gq (by simp), by omega, HB1.out.trans (hba.mono HB1.out.size)⟩
  case round =>
    obtain ⟨p, g, v, bs, hle, hiv, hY, hO, hG, hQ, hgb, hg2, hb⟩ := hrel
    clear z0 z1 z2 z3 z4 z5 z6 z7 z8 z9 z10 z11 hcl
    rcases pre3 hle with ⟨rfl, rfl⟩ | ⟨rfl, rfl⟩ | ⟨rfl, rfl⟩ | ⟨rfl, rfl⟩
    · obtain rfl : _ = Value.int .i64 (0 : Int) := hiv
      have hix : ∀ W : World, (Instr.index ( /- t -/ 90) (.agg #[.int .i64 g0.k, .string g0.fr, .int .i64 g0.ix, .slice t0 g0.kids.len k0, .int .i64 g1.k, .string g1.fr, .int .i64 g1.ix, .slice t1 g1.kids.len k1, .int .i64 g2.k, .string g2.fr, .int .i64 g2.ix, .slice t2 g2.kids.len k2]) (.int .i64 0)).run Tryz.prog W = .ok (.agg #[.int .i64 g0.k, .string g0.fr, .int .i64 g0.ix, .slice t0 g0.kids.len k0]) W := fun W => by kernel_rfl
      obtain ⟨va, vc, hv⟩ := hG.val
      change v = .slice va 0 vc at hv
      subst hv
      have HGR := hide hG
      have HQ := hide hQ
      have HYO := hide (And.intro hY (And.intro hO (And.intro hgb hg2)))
      have HBB := hide hb
      have hol := hO.lt
      have HFI := hide (HFIT.out g0 (by simp))
      have hba := alloc_below wr (.cells #[.int .i64 g0.k, .string g0.fr, .int .i64 g0.ix, .slice t0 g0.kids.len k0] ( /- t -/ 33))
      have hO0 := hide ((Still.of_below hba) _ _ hO.cells.1)
      have HCI := hide (fun (W : World) (hbW : Below w.heap.size w W) => (show Calls Tryz.prog 79 #[.agg #[.int .i64 g0.k, .string g0.fr, .int .i64 g0.ix, .slice t0 g0.kids.len k0]] W (fun e w' => ∃ u bs, e = .returned (.tuple #[.agg #[.int .i64 g0.k, .string g0.fr, .int .i64 g0.ix, u], .bool true]) ∧ Ow w' u g0.kids bs ∧ (∀ b, b ∈ bs → W.heap.size ≤ b) ∧ bs.Nodup ∧ Below W.heap.size W w') from by
        have h := implCopy W g0.up (.slice t0 g0.kids.len k0) (HS.out.1.still (Still.of_below hbW))
        have hok := HOKG.out g0 (by simp)
        rw [show cpyR g0.up = g0.up by unfold cpyR; rw [hok]; rfl, hok] at h
        exact h))
      clear hG hQ hY hO hb hba hle
      go_wp2_with (first
        | (go_at_call 79; (with_reducible refine (HCI.out _ (HBB.out.alloc HBB.out.size _)).mono ?_); rintro e w5 ⟨u, ks, rfl, how, hks, hknd, hb5⟩; (obtain ⟨ua, uc, rfl⟩ := how.val); (have o0 := (Still.of_below hb5) _ _ hO0.out); (have hz5 := hb5.size); (simp only [World.size_alloc] at hz5); (have hbo5 : w1.heap.size < w5.heap.size := by omega); (have HW5 := hide (And.intro how (And.intro hks (And.intro hknd hb5)))); (have hgc := (((HGR.out.below (alloc_below wr (.cells #[.int .i64 g0.k, .string g0.fr, .int .i64 g0.ix, .slice t0 g0.kids.len k0] ( /- t -/ 33)))).below hb5).below (alloc_below w5 (.cells #[.int .i64 g0.k, .string g0.fr, .int .i64 g0.ix, .slice ua g0.kids.len uc] ( /- t -/ 33)))).below (alloc_below _ (.cells #[.int .i64 g0.k, .string g0.fr, .int .i64 g0.ix, .slice ua g0.kids.len uc] ( /- t -/ 33)))); (have HGC := hide hgc); (have hnew : ((w5.alloc (.cells #[.int .i64 g0.k, .string g0.fr, .int .i64 g0.ix, .slice ua g0.kids.len uc] ( /- t -/ 33))).alloc (.cells #[.int .i64 g0.k, .string g0.fr, .int .i64 g0.ix, .slice ua g0.kids.len uc] ( /- t -/ 33))).heap[w5.heap.size + 1]? = some (.cells #[.int .i64 g0.k, .string g0.fr, .int .i64 g0.ix, .slice ua g0.kids.len uc] ( /- t -/ 33) (0, 0)) := by (have := heap_alloc_new (w5.alloc (.cells #[.int .i64 g0.k, .string g0.fr, .int .i64 g0.ix, .slice ua g0.kids.len uc] ( /- t -/ 33))) (.cells #[.int .i64 g0.k, .string g0.fr, .int .i64 g0.ix, .slice ua g0.kids.len uc] ( /- t -/ 33))); simpa using this); (have HNW := hide hnew); clear how hks hknd hb5 hgc hnew)
        | (at_builtin; refine wpList_append_lies _ rfl _ _ ( /- t -/ 50) rfl (w1.heap.size + 1) ( /- t -/ 33) iL _ 4 56 Tryz.underlying50 hiL hL0 hL1 hL2 rfl (by omega) (.slice va 0 vc) 0 (grXl ((w5.alloc (.cells #[.int .i64 g0.k, .string g0.fr, .int .i64 g0.ix, .slice ua g0.kids.len uc] ( /- t -/ 33))).alloc (.cells #[.int .i64 g0.k, .string g0.fr, .int .i64 g0.ix, .slice ua g0.kids.len uc] ( /- t -/ 33))) (.slice va 0 vc) ([] : List Nd)) rfl HGC.out.owns ⟨w5.heap.size + 1, 0, none⟩ 1 1 [.int .i64 g0.k, .string g0.fr, .int .i64 g0.ix, .slice ua g0.kids.len uc] rfl rfl (World.news_of_block (cs := #[.int .i64 g0.k, .string g0.fr, .int .i64 g0.ix, .slice ua g0.kids.len uc]) (t := ( /- t -/ 33)) (fr := (0, 0)) HNW.out) (by simp [Value.oneCell']) (by omega) (by unfold maxLen; omega) (by omega) (by simp; omega) _ rfl ?_; intro gg cp w6 hown6 hgrow6 hat6 hlt6; (have hvb : ∀ b, some b = (Value.slice va 0 vc).ownBlock → w1.heap.size + 1 ≤ b := fun b e => HGC.out.ge b (HGC.out.block b e.symm)); (have ho6 : Box2 w6 w1.heap.size (.slice va 0 vc) (.slice (some ⟨gq, 0, none⟩) 9 qcap) := ((((HYO.out.2.1.below (alloc_below wr (.cells #[.int .i64 g0.k, .string g0.fr, .int .i64 g0.ix, .slice t0 g0.kids.len k0] ( /- t -/ 33)))).below HW5.out.2.2.2).below (alloc_below w5 (.cells #[.int .i64 g0.k, .string g0.fr, .int .i64 g0.ix, .slice ua g0.kids.len uc] ( /- t -/ 33)))).below (alloc_below _ (.cells #[.int .i64 g0.k, .string g0.fr, .int .i64 g0.ix, .slice ua g0.kids.len uc] ( /- t -/ 33)))).same (hgrow6.block _ (by simp; omega) (fun e => by have := hvb _ e; omega))); (have o4 := ho6.cells.1); (have fo := ho6.frozen); (have hol6 := ho6.lt); (have HST := hide (nw_step (p := ([] : List Nd)) (rest := [g1, g2]) (HYO.out.1.below (alloc_below wr (.cells #[.int .i64 g0.k, .string g0.fr, .int .i64 g0.ix, .slice t0 g0.kids.len k0] ( /- t -/ 33)))) (HYO.out.2.1.below (alloc_below wr (.cells #[.int .i64 g0.k, .string g0.fr, .int .i64 g0.ix, .slice t0 g0.kids.len k0] ( /- t -/ 33)))) (HGR.out.below (alloc_below wr (.cells #[.int .i64 g0.k, .string g0.fr, .int .i64 g0.ix, .slice t0 g0.kids.len k0] ( /- t -/ 33)))) (HQ.out.same elS_flat (Same.of_below (alloc_below wr (.cells #[.int .i64 g0.k, .string g0.fr, .int .i64 g0.ix, .slice t0 g0.kids.len k0] ( /- t -/ 33))) HQ.out.lt)) HYO.out.2.2.1 HYO.out.2.2.2 (HBB.out.alloc HBB.out.size _) (HW5.out.2.2.2.alloc HW5.out.2.2.2.size (.cells #[.int .i64 g0.k, .string g0.fr, .int .i64 g0.ix, .slice ua g0.kids.len uc] ( /- t -/ 33))) (HW5.out.1.same (Same.of_below (alloc_below w5 (.cells #[.int .i64 g0.k, .string g0.fr, .int .i64 g0.ix, .slice ua g0.kids.len uc] ( /- t -/ 33))) HW5.out.1.lt)) HW5.out.2.1 HW5.out.2.2.1 HFI.out.1 HFI.out.2.1 HFI.out.2.2 hown6 hgrow6 hat6)); clear hown6 hgrow6 hat6)
        | fail)
      exact ⟨HST.out, by decide⟩
    · obtain rfl : _ = Value.int .i64 (1 : Int) := hiv
      have hix : ∀ W : World, (Instr.index ( /- t -/ 90) (.agg #[.int .i64 g0.k, .string g0.fr, .int .i64 g0.ix, .slice t0 g0.kids.len k0, .int .i64 g1.k, .string g1.fr, .int .i64 g1.ix, .slice t1 g1.kids.len k1, .int .i64 g2.k, .string g2.fr, .int .i64 g2.ix, .slice t2 g2.kids.len k2]) (.int .i64 1)).run Tryz.prog W = .ok (.agg #[.int .i64 g1.k, .string g1.fr, .int .i64 g1.ix, .slice t1 g1.kids.len k1]) W := fun W => by kernel_rfl
      obtain ⟨va, vc, hv⟩ := hG.val
      change v = .slice va 1 vc at hv
      subst hv
      have HGR := hide hG
      have HQ := hide hQ
      have HYO := hide (And.intro hY (And.intro hO (And.intro hgb hg2)))
      have HBB := hide hb
      have hol := hO.lt
      have HFI := hide (HFIT.out g1 (by simp))
      have hba := alloc_below wr (.cells #[.int .i64 g1.k, .string g1.fr, .int .i64 g1.ix, .slice t1 g1.kids.len k1] ( /- t -/ 33))
      have hO0 := hide ((Still.of_below hba) _ _ hO.cells.1)
      have HCI := hide (fun (W : World) (hbW : Below w.heap.size w W) => (show Calls Tryz.prog 79 #[.agg #[.int .i64 g1.k, .string g1.fr, .int .i64 g1.ix, .slice t1 g1.kids.len k1]] W (fun e w' => ∃ u bs, e = .returned (.tuple #[.agg #[.int .i64 g1.k, .string g1.fr, .int .i64 g1.ix, u], .bool true]) ∧ Ow w' u g1.kids bs ∧ (∀ b, b ∈ bs → W.heap.size ≤ b) ∧ bs.Nodup ∧ Below W.heap.size W w') from by
        have h := implCopy W g1.up (.slice t1 g1.kids.len k1) (HS.out.2.1.still (Still.of_below hbW))
        have hok := HOKG.out g1 (by simp)
        rw [show cpyR g1.up = g1.up by unfold cpyR; rw [hok]; rfl, hok] at h
        exact h))
      clear hG hQ hY hO hb hba hle
      go_wp2_with (first
        | (go_at_call 79; (with_reducible refine (HCI.out _ (HBB.out.alloc HBB.out.size _)).mono ?_); rintro e w5 ⟨u, ks, rfl, how, hks, hknd, hb5⟩; (obtain ⟨ua, uc, rfl⟩ := how.val); (have o0 := (Still.of_below hb5) _ _ hO0.out); (have hz5 := hb5.size); (simp only [World.size_alloc] at hz5); (have hbo5 : w1.heap.size < w5.heap.size := by omega); (have HW5 := hide (And.intro how (And.intro hks (And.intro hknd hb5)))); (have hgc := (((HGR.out.below (alloc_below wr (.cells #[.int .i64 g1.k, .string g1.fr, .int .i64 g1.ix, .slice t1 g1.kids.len k1] ( /- t -/ 33)))).below hb5).below (alloc_below w5 (.cells #[.int .i64 g1.k, .string g1.fr, .int .i64 g1.ix, .slice ua g1.kids.len uc] ( /- t -/ 33)))).below (alloc_below _ (.cells #[.int .i64 g1.k, .string g1.fr, .int .i64 g1.ix, .slice ua g1.kids.len uc] ( /- t -/ 33)))); (have HGC := hide hgc); (have hnew : ((w5.alloc (.cells #[.int .i64 g1.k, .string g1.fr, .int .i64 g1.ix, .slice ua g1.kids.len uc] ( /- t -/ 33))).alloc (.cells #[.int .i64 g1.k, .string g1.fr, .int .i64 g1.ix, .slice ua g1.kids.len uc] ( /- t -/ 33))).heap[w5.heap.size + 1]? = some (.cells #[.int .i64 g1.k, .string g1.fr, .int .i64 g1.ix, .slice ua g1.kids.len uc] ( /- t -/ 33) (0, 0)) := by (have := heap_alloc_new (w5.alloc (.cells #[.int .i64 g1.k, .string g1.fr, .int .i64 g1.ix, .slice ua g1.kids.len uc] ( /- t -/ 33))) (.cells #[.int .i64 g1.k, .string g1.fr, .int .i64 g1.ix, .slice ua g1.kids.len uc] ( /- t -/ 33))); simpa using this); (have HNW := hide hnew); clear how hks hknd hb5 hgc hnew)
        | (at_builtin; refine wpList_append_lies _ rfl _ _ ( /- t -/ 50) rfl (w1.heap.size + 1) ( /- t -/ 33) iL _ 4 56 Tryz.underlying50 hiL hL0 hL1 hL2 rfl (by omega) (.slice va 1 vc) 1 (grXl ((w5.alloc (.cells #[.int .i64 g1.k, .string g1.fr, .int .i64 g1.ix, .slice ua g1.kids.len uc] ( /- t -/ 33))).alloc (.cells #[.int .i64 g1.k, .string g1.fr, .int .i64 g1.ix, .slice ua g1.kids.len uc] ( /- t -/ 33))) (.slice va 1 vc) [g0]) rfl HGC.out.owns ⟨w5.heap.size + 1, 0, none⟩ 1 1 [.int .i64 g1.k, .string g1.fr, .int .i64 g1.ix, .slice ua g1.kids.len uc] rfl rfl (World.news_of_block (cs := #[.int .i64 g1.k, .string g1.fr, .int .i64 g1.ix, .slice ua g1.kids.len uc]) (t := ( /- t -/ 33)) (fr := (0, 0)) HNW.out) (by simp [Value.oneCell']) (by omega) (by unfold maxLen; omega) (by omega) (by simp; omega) _ rfl ?_; intro gg cp w6 hown6 hgrow6 hat6 hlt6; (have hvb : ∀ b, some b = (Value.slice va 1 vc).ownBlock → w1.heap.size + 1 ≤ b := fun b e => HGC.out.ge b (HGC.out.block b e.symm)); (have ho6 : Box2 w6 w1.heap.size (.slice va 1 vc) (.slice (some ⟨gq, 0, none⟩) 9 qcap) := ((((HYO.out.2.1.below (alloc_below wr (.cells #[.int .i64 g1.k, .string g1.fr, .int .i64 g1.ix, .slice t1 g1.kids.len k1] ( /- t -/ 33)))).below HW5.out.2.2.2).below (alloc_below w5 (.cells #[.int .i64 g1.k, .string g1.fr, .int .i64 g1.ix, .slice ua g1.kids.len uc] ( /- t -/ 33)))).below (alloc_below _ (.cells #[.int .i64 g1.k, .string g1.fr, .int .i64 g1.ix, .slice ua g1.kids.len uc] ( /- t -/ 33)))).same (hgrow6.block _ (by simp; omega) (fun e => by have := hvb _ e; omega))); (have o4 := ho6.cells.1); (have fo := ho6.frozen); (have hol6 := ho6.lt); (have HST := hide (nw_step (p := [g0]) (rest := [g2]) (HYO.out.1.below (alloc_below wr (.cells #[.int .i64 g1.k, .string g1.fr, .int .i64 g1.ix, .slice t1 g1.kids.len k1] ( /- t -/ 33)))) (HYO.out.2.1.below (alloc_below wr (.cells #[.int .i64 g1.k, .string g1.fr, .int .i64 g1.ix, .slice t1 g1.kids.len k1] ( /- t -/ 33)))) (HGR.out.below (alloc_below wr (.cells #[.int .i64 g1.k, .string g1.fr, .int .i64 g1.ix, .slice t1 g1.kids.len k1] ( /- t -/ 33)))) (HQ.out.same elS_flat (Same.of_below (alloc_below wr (.cells #[.int .i64 g1.k, .string g1.fr, .int .i64 g1.ix, .slice t1 g1.kids.len k1] ( /- t -/ 33))) HQ.out.lt)) HYO.out.2.2.1 HYO.out.2.2.2 (HBB.out.alloc HBB.out.size _) (HW5.out.2.2.2.alloc HW5.out.2.2.2.size (.cells #[.int .i64 g1.k, .string g1.fr, .int .i64 g1.ix, .slice ua g1.kids.len uc] ( /- t -/ 33))) (HW5.out.1.same (Same.of_below (alloc_below w5 (.cells #[.int .i64 g1.k, .string g1.fr, .int .i64 g1.ix, .slice ua g1.kids.len uc] ( /- t -/ 33))) HW5.out.1.lt)) HW5.out.2.1 HW5.out.2.2.1 HFI.out.1 HFI.out.2.1 HFI.out.2.2 hown6 hgrow6 hat6)); clear hown6 hgrow6 hat6)
        | fail)
      exact ⟨HST.out, by decide⟩
    · obtain rfl : _ = Value.int .i64 (2 : Int) := hiv
      have hix : ∀ W : World, (Instr.index ( /- t -/ 90) (.agg #[.int .i64 g0.k, .string g0.fr, .int .i64 g0.ix, .slice t0 g0.kids.len k0, .int .i64 g1.k, .string g1.fr, .int .i64 g1.ix, .slice t1 g1.kids.len k1, .int .i64 g2.k, .string g2.fr, .int .i64 g2.ix, .slice t2 g2.kids.len k2]) (.int .i64 2)).run Tryz.prog W = .ok (.agg #[.int .i64 g2.k, .string g2.fr, .int .i64 g2.ix, .slice t2 g2.kids.len k2]) W := fun W => by kernel_rfl
      obtain ⟨va, vc, hv⟩ := hG.val
      change v = .slice va 2 vc at hv
      subst hv
      have HGR := hide hG
      have HQ := hide hQ
      have HYO := hide (And.intro hY (And.intro hO (And.intro hgb hg2)))
      have HBB := hide hb
      have hol := hO.lt
      have HFI := hide (HFIT.out g2 (by simp))
      have hba := alloc_below wr (.cells #[.int .i64 g2.k, .string g2.fr, .int .i64 g2.ix, .slice t2 g2.kids.len k2] ( /- t -/ 33))
      have hO0 := hide ((Still.of_below hba) _ _ hO.cells.1)
      have HCI := hide (fun (W : World) (hbW : Below w.heap.size w W) => (show Calls Tryz.prog 79 #[.agg #[.int .i64 g2.k, .string g2.fr, .int .i64 g2.ix, .slice t2 g2.kids.len k2]] W (fun e w' => ∃ u bs, e = .returned (.tuple #[.agg #[.int .i64 g2.k, .string g2.fr, .int .i64 g2.ix, u], .bool true]) ∧ Ow w' u g2.kids bs ∧ (∀ b, b ∈ bs → W.heap.size ≤ b) ∧ bs.Nodup ∧ Below W.heap.size W w') from by
        have h := implCopy W g2.up (.slice t2 g2.kids.len k2) (HS.out.2.2.still (Still.of_below hbW))
        have hok := HOKG.out g2 (by simp)
        rw [show cpyR g2.up = g2.up by unfold cpyR; rw [hok]; rfl, hok] at h
        exact h))
      clear hG hQ hY hO hb hba hle
      go_wp2_with (first
        | (go_at_call 79; (with_reducible refine (HCI.out _ (HBB.out.alloc HBB.out.size _)).mono ?_); rintro e w5 ⟨u, ks, rfl, how, hks, hknd, hb5⟩; (obtain ⟨ua, uc, rfl⟩ := how.val); (have o0 := (Still.of_below hb5) _ _ hO0.out); (have hz5 := hb5.size); (simp only [World.size_alloc] at hz5); (have hbo5 : w1.heap.size < w5.heap.size := by omega); (have HW5 := hide (And.intro how (And.intro hks (And.intro hknd hb5)))); (have hgc := (((HGR.out.below (alloc_below wr (.cells #[.int .i64 g2.k, .string g2.fr, .int .i64 g2.ix, .slice t2 g2.kids.len k2] ( /- t -/ 33)))).below hb5).below (alloc_below w5 (.cells #[.int .i64 g2.k, .string g2.fr, .int .i64 g2.ix, .slice ua g2.kids.len uc] ( /- t -/ 33)))).below (alloc_below _ (.cells #[.int .i64 g2.k, .string g2.fr, .int .i64 g2.ix, .slice ua g2.kids.len uc] ( /- t -/ 33)))); (have HGC := hide hgc); (have hnew : ((w5.alloc (.cells #[.int .i64 g2.k, .string g2.fr, .int .i64 g2.ix, .slice ua g2.kids.len uc] ( /- t -/ 33))).alloc (.cells #[.int .i64 g2.k, .string g2.fr, .int .i64 g2.ix, .slice ua g2.kids.len uc] ( /- t -/ 33))).heap[w5.heap.size + 1]? = some (.cells #[.int .i64 g2.k, .string g2.fr, .int .i64 g2.ix, .slice ua g2.kids.len uc] ( /- t -/ 33) (0, 0)) := by (have := heap_alloc_new (w5.alloc (.cells #[.int .i64 g2.k, .string g2.fr, .int .i64 g2.ix, .slice ua g2.kids.len uc] ( /- t -/ 33))) (.cells #[.int .i64 g2.k, .string g2.fr, .int .i64 g2.ix, .slice ua g2.kids.len uc] ( /- t -/ 33))); simpa using this); (have HNW := hide hnew); clear how hks hknd hb5 hgc hnew)
        | (at_builtin; refine wpList_append_lies _ rfl _ _ ( /- t -/ 50) rfl (w1.heap.size + 1) ( /- t -/ 33) iL _ 4 56 Tryz.underlying50 hiL hL0 hL1 hL2 rfl (by omega) (.slice va 2 vc) 2 (grXl ((w5.alloc (.cells #[.int .i64 g2.k, .string g2.fr, .int .i64 g2.ix, .slice ua g2.kids.len uc] ( /- t -/ 33))).alloc (.cells #[.int .i64 g2.k, .string g2.fr, .int .i64 g2.ix, .slice ua g2.kids.len uc] ( /- t -/ 33))) (.slice va 2 vc) [g0, g1]) rfl HGC.out.owns ⟨w5.heap.size + 1, 0, none⟩ 1 1 [.int .i64 g2.k, .string g2.fr, .int .i64 g2.ix, .slice ua g2.kids.len uc] rfl rfl (World.news_of_block (cs := #[.int .i64 g2.k, .string g2.fr, .int .i64 g2.ix, .slice ua g2.kids.len uc]) (t := ( /- t -/ 33)) (fr := (0, 0)) HNW.out) (by simp [Value.oneCell']) (by omega) (by unfold maxLen; omega) (by omega) (by simp; omega) _ rfl ?_; intro gg cp w6 hown6 hgrow6 hat6 hlt6; (have hvb : ∀ b, some b = (Value.slice va 2 vc).ownBlock → w1.heap.size + 1 ≤ b := fun b e => HGC.out.ge b (HGC.out.block b e.symm)); (have ho6 : Box2 w6 w1.heap.size (.slice va 2 vc) (.slice (some ⟨gq, 0, none⟩) 9 qcap) := ((((HYO.out.2.1.below (alloc_below wr (.cells #[.int .i64 g2.k, .string g2.fr, .int .i64 g2.ix, .slice t2 g2.kids.len k2] ( /- t -/ 33)))).below HW5.out.2.2.2).below (alloc_below w5 (.cells #[.int .i64 g2.k, .string g2.fr, .int .i64 g2.ix, .slice ua g2.kids.len uc] ( /- t -/ 33)))).below (alloc_below _ (.cells #[.int .i64 g2.k, .string g2.fr, .int .i64 g2.ix, .slice ua g2.kids.len uc] ( /- t -/ 33)))).same (hgrow6.block _ (by simp; omega) (fun e => by have := hvb _ e; omega))); (have o4 := ho6.cells.1); (have fo := ho6.frozen); (have hol6 := ho6.lt); (have HST := hide (nw_step (p := [g0, g1]) (rest := ([] : List Nd)) (HYO.out.1.below (alloc_below wr (.cells #[.int .i64 g2.k, .string g2.fr, .int .i64 g2.ix, .slice t2 g2.kids.len k2] ( /- t -/ 33)))) (HYO.out.2.1.below (alloc_below wr (.cells #[.int .i64 g2.k, .string g2.fr, .int .i64 g2.ix, .slice t2 g2.kids.len k2] ( /- t -/ 33)))) (HGR.out.below (alloc_below wr (.cells #[.int .i64 g2.k, .string g2.fr, .int .i64 g2.ix, .slice t2 g2.kids.len k2] ( /- t -/ 33)))) (HQ.out.same elS_flat (Same.of_below (alloc_below wr (.cells #[.int .i64 g2.k, .string g2.fr, .int .i64 g2.ix, .slice t2 g2.kids.len k2] ( /- t -/ 33))) HQ.out.lt)) HYO.out.2.2.1 HYO.out.2.2.2 (HBB.out.alloc HBB.out.size _) (HW5.out.2.2.2.alloc HW5.out.2.2.2.size (.cells #[.int .i64 g2.k, .string g2.fr, .int .i64 g2.ix, .slice ua g2.kids.len uc] ( /- t -/ 33))) (HW5.out.1.same (Same.of_below (alloc_below w5 (.cells #[.int .i64 g2.k, .string g2.fr, .int .i64 g2.ix, .slice ua g2.kids.len uc] ( /- t -/ 33))) HW5.out.1.lt)) HW5.out.2.1 HW5.out.2.2.1 HFI.out.1 HFI.out.2.1 HFI.out.2.2 hown6 hgrow6 hat6)); clear hown6 hgrow6 hat6)
        | fail)
      exact ⟨HST.out, by decide⟩
    · obtain rfl : _ = Value.int .i64 (3 : Int) := hiv
      obtain ⟨va, vc, hv⟩ := hG.val
      change v = .slice va 3 vc at hv
      subst hv
      obtain ⟨o0, o1⟩ := hO.cells
      have hol := hO.lt
      obtain ⟨y0, y1⟩ := hY.cells
      have fy := hY.frozen
      have hyl := hY.lt
      have HGR := hide hG
      have HQ := hide hQ
      clear hG hQ hle
      go_wp2_with fail
      have b2 := (hY.set0 (.slice va 3 vc)).set1 (.slice (some ⟨gq, 0, none⟩) 9 qcap)
      have e0 := b2.cells.1
      have e1 := b2.cells.2
      refine bodyPost_ret (v := .agg #[.slice va 3 vc, .slice (some ⟨gq, 0, none⟩) 9 qcap]) (by simp [results, Tryz.results55, go_sem, e0, e1]) rfl ?_
      refine ⟨_, _, bs, [gq], rfl, HGR.out.ow.same (fun b h => ?_), HQ.out.same elS_flat (fun b h => ?_), fun b h => ?_, ?_, (hb.setCell (by simp) _).setCell (by simp) _⟩
      · have := HGR.out.ge b h
        rw [Below.heap_setCell _ _ _ _ (by simp; omega), Below.heap_setCell _ _ _ _ (by simp; omega)]
      · obtain rfl : b = gq := by simpa using h
        rw [Below.heap_setCell _ _ _ _ (by simp; omega), Below.heap_setCell _ _ _ _ (by simp; omega)]
      · rcases List.mem_append.1 h with h | h
        · have := HGR.out.ge b h; omega
        · obtain rfl : b = gq := by simpa using h
          omega
      · refine List.nodup_append.2 ⟨HGR.out.nodup, by simp, fun x hx y hy => ?_⟩
        have := HGR.out.ge x hx
        obtain rfl : y = gq := by simpa using hy
        omega
theorem eQ : ∀ s : ByteArray, s ∈ ([⟨#[]⟩, ⟨#[]⟩, ⟨#[]⟩, ⟨#[]⟩, ⟨#[]⟩, ⟨#[]⟩, ⟨#[]⟩, ⟨#[]⟩, ⟨#[]⟩] : List ByteArray) → s.size ≤ maxLen := by
  intro s hs
  simp at hs
  subst hs
  exact Nat.zero_le _

set_option maxHeartbeats 4000000 in
set_option maxRecDepth 100000 in
theorem implNNno (w : World) (la : Option Addr) (ln lc : Nat) 
    (hc : Calls Tryz.prog 49 #[.agg #[.slice la ln lc, .slice (some ⟨w.heap.size + 1, 0, none⟩) 9 9]] ((w.alloc (.cells #[.slice none 0 0, .slice none 0 0] ( /- t -/ 52))).alloc (.cells (newStrings 9) ( /- t -/ 9))) (fun e w' => e = .returned (.tuple #[.agg #[.int .i64 0, .string ⟨#[]⟩, .int .i64 0, .slice none 0 0, .int .i64 0, .string ⟨#[]⟩, .int .i64 0, .slice none 0 0, .int .i64 0, .string ⟨#[]⟩, .int .i64 0, .slice none 0 0, .int .i64 0, .string ⟨#[]⟩, .int .i64 0, .slice none 0 0, .int .i64 0, .string ⟨#[]⟩, .int .i64 0, .slice none 0 0, .int .i64 0, .string ⟨#[]⟩, .int .i64 0, .slice none 0 0, .string ⟨#[]⟩, .string ⟨#[]⟩, .string ⟨#[]⟩, .string ⟨#[]⟩, .string ⟨#[]⟩, .string ⟨#[]⟩, .string ⟨#[]⟩, .string ⟨#[]⟩, .string ⟨#[]⟩], .bool false]) ∧ Below ((w.alloc (.cells #[.slice none 0 0, .slice none 0 0] ( /- t -/ 52))).alloc (.cells (newStrings 9) ( /- t -/ 9))).heap.size ((w.alloc (.cells #[.slice none 0 0, .slice none 0 0] ( /- t -/ 52))).alloc (.cells (newStrings 9) ( /- t -/ 9))) w')) :
    Calls Tryz.prog 26 #[.slice la ln lc] w (MadeNN [] [] false w) := by
  have hmk : ∀ w, (Instr.makeSlice ( /- t -/ 45) (.int .i64 9) (.int .i64 9)).run Tryz.prog w = .ok (.slice (some ⟨w.heap.size, 0, none⟩) 9 9) (w.alloc (.cells (newStrings 9) ( /- t -/ 9))) := fun w => makeStrings 9 (by omega) w
  have hb0 : Below w.heap.size w ((w.alloc (.cells #[.slice none 0 0, .slice none 0 0] ( /- t -/ 52))).alloc (.cells (newStrings 9) ( /- t -/ 9))) := (alloc_below w _).alloc (by simp) _
  have hz0 := (Box2.now w (.slice none 0 0) (.slice none 0 0) ( /- t -/ 52)).below (alloc_below _ (.cells (newStrings 9) ( /- t -/ 9)))
  have HC := hide hc
  have HB0 := hide hb0
  have HZ0 := hide hz0
  clear hc hb0 hz0
  go_enter Tryz.func26, Tryz.ntmps26
  go_wp2_with (first
    | (go_at_call 49; (with_reducible refine HC.out.mono ?_); rintro e w1 ⟨rfl, hb1⟩; (have hbw := HB0.out.trans (hb1.mono HB0.out.size)); (have HZ1 := hide ((HZ0.out.below hb1).below (alloc_below w1 (.cells #[.int .i64 0, .string ⟨#[]⟩, .int .i64 0, .slice none 0 0, .int .i64 0, .string ⟨#[]⟩, .int .i64 0, .slice none 0 0, .int .i64 0, .string ⟨#[]⟩, .int .i64 0, .slice none 0 0, .int .i64 0, .string ⟨#[]⟩, .int .i64 0, .slice none 0 0, .int .i64 0, .string ⟨#[]⟩, .int .i64 0, .slice none 0 0, .int .i64 0, .string ⟨#[]⟩, .int .i64 0, .slice none 0 0, .string ⟨#[]⟩, .string ⟨#[]⟩, .string ⟨#[]⟩, .string ⟨#[]⟩, .string ⟨#[]⟩, .string ⟨#[]⟩, .string ⟨#[]⟩, .string ⟨#[]⟩, .string ⟨#[]⟩] ( /- t -/ 93))))); (have HBW := hide hbw); (have hwl := hbw.size); clear hbw)
    | (refine wpList_store_blk (b := w1.heap.size) (c := #[.int .i64 0, .string ⟨#[]⟩, .int .i64 0, .slice none 0 0, .int .i64 0, .string ⟨#[]⟩, .int .i64 0, .slice none 0 0, .int .i64 0, .string ⟨#[]⟩, .int .i64 0, .slice none 0 0, .int .i64 0, .string ⟨#[]⟩, .int .i64 0, .slice none 0 0, .int .i64 0, .string ⟨#[]⟩, .int .i64 0, .slice none 0 0, .int .i64 0, .string ⟨#[]⟩, .int .i64 0, .slice none 0 0, .string ⟨#[]⟩, .string ⟨#[]⟩, .string ⟨#[]⟩, .string ⟨#[]⟩, .string ⟨#[]⟩, .string ⟨#[]⟩, .string ⟨#[]⟩, .string ⟨#[]⟩, .string ⟨#[]⟩]) (c' := #[.int .i64 0, .string ⟨#[]⟩, .int .i64 0, .slice none 0 0, .int .i64 0, .string ⟨#[]⟩, .int .i64 0, .slice none 0 0, .int .i64 0, .string ⟨#[]⟩, .int .i64 0, .slice none 0 0, .int .i64 0, .string ⟨#[]⟩, .int .i64 0, .slice none 0 0, .int .i64 0, .string ⟨#[]⟩, .int .i64 0, .slice none 0 0, .int .i64 0, .string ⟨#[]⟩, .int .i64 0, .slice none 0 0, .string ⟨#[]⟩, .string ⟨#[]⟩, .string ⟨#[]⟩, .string ⟨#[]⟩, .string ⟨#[]⟩, .string ⟨#[]⟩, .string ⟨#[]⟩, .string ⟨#[]⟩, .string ⟨#[]⟩]) rfl rfl (Blk.now w1 _ _) rfl rfl (by kernel_rfl) rfl (by kernel_rfl) ?_; (have hzl1 : w.heap.size < w1.heap.size := by (have := HZ0.out.lt; have := hb1.size; omega)); (have hz2 := HZ1.out.same (setRow_other _ _ _ #[.int .i64 0, .string ⟨#[]⟩, .int .i64 0, .slice none 0 0, .int .i64 0, .string ⟨#[]⟩, .int .i64 0, .slice none 0 0, .int .i64 0, .string ⟨#[]⟩, .int .i64 0, .slice none 0 0, .int .i64 0, .string ⟨#[]⟩, .int .i64 0, .slice none 0 0, .int .i64 0, .string ⟨#[]⟩, .int .i64 0, .slice none 0 0, .int .i64 0, .string ⟨#[]⟩, .int .i64 0, .slice none 0 0, .string ⟨#[]⟩, .string ⟨#[]⟩, .string ⟨#[]⟩, .string ⟨#[]⟩, .string ⟨#[]⟩, .string ⟨#[]⟩, .string ⟨#[]⟩, .string ⟨#[]⟩, .string ⟨#[]⟩] (Nat.ne_of_lt hzl1))); (have hb2 := below_setRow (HBW.out.alloc HBW.out.size (.cells #[.int .i64 0, .string ⟨#[]⟩, .int .i64 0, .slice none 0 0, .int .i64 0, .string ⟨#[]⟩, .int .i64 0, .slice none 0 0, .int .i64 0, .string ⟨#[]⟩, .int .i64 0, .slice none 0 0, .int .i64 0, .string ⟨#[]⟩, .int .i64 0, .slice none 0 0, .int .i64 0, .string ⟨#[]⟩, .int .i64 0, .slice none 0 0, .int .i64 0, .string ⟨#[]⟩, .int .i64 0, .slice none 0 0, .string ⟨#[]⟩, .string ⟨#[]⟩, .string ⟨#[]⟩, .string ⟨#[]⟩, .string ⟨#[]⟩, .string ⟨#[]⟩, .string ⟨#[]⟩, .string ⟨#[]⟩, .string ⟨#[]⟩] ( /- t -/ 93))) HBW.out.size #[.int .i64 0, .string ⟨#[]⟩, .int .i64 0, .slice none 0 0, .int .i64 0, .string ⟨#[]⟩, .int .i64 0, .slice none 0 0, .int .i64 0, .string ⟨#[]⟩, .int .i64 0, .slice none 0 0, .int .i64 0, .string ⟨#[]⟩, .int .i64 0, .slice none 0 0, .int .i64 0, .string ⟨#[]⟩, .int .i64 0, .slice none 0 0, .int .i64 0, .string ⟨#[]⟩, .int .i64 0, .slice none 0 0, .string ⟨#[]⟩, .string ⟨#[]⟩, .string ⟨#[]⟩, .string ⟨#[]⟩, .string ⟨#[]⟩, .string ⟨#[]⟩, .string ⟨#[]⟩, .string ⟨#[]⟩, .string ⟨#[]⟩]); (obtain ⟨z0, z1⟩ := hz2.cells); (have fz := hz2.frozen); (have hzl := hz2.lt); (have HB2 := hide hb2); (have HB3 := hide (below_setRow (hb1.alloc hb1.size (.cells #[.int .i64 0, .string ⟨#[]⟩, .int .i64 0, .slice none 0 0, .int .i64 0, .string ⟨#[]⟩, .int .i64 0, .slice none 0 0, .int .i64 0, .string ⟨#[]⟩, .int .i64 0, .slice none 0 0, .int .i64 0, .string ⟨#[]⟩, .int .i64 0, .slice none 0 0, .int .i64 0, .string ⟨#[]⟩, .int .i64 0, .slice none 0 0, .int .i64 0, .string ⟨#[]⟩, .int .i64 0, .slice none 0 0, .string ⟨#[]⟩, .string ⟨#[]⟩, .string ⟨#[]⟩, .string ⟨#[]⟩, .string ⟨#[]⟩, .string ⟨#[]⟩, .string ⟨#[]⟩, .string ⟨#[]⟩, .string ⟨#[]⟩] ( /- t -/ 93))) hb1.size #[.int .i64 0, .string ⟨#[]⟩, .int .i64 0, .slice none 0 0, .int .i64 0, .string ⟨#[]⟩, .int .i64 0, .slice none 0 0, .int .i64 0, .string ⟨#[]⟩, .int .i64 0, .slice none 0 0, .int .i64 0, .string ⟨#[]⟩, .int .i64 0, .slice none 0 0, .int .i64 0, .string ⟨#[]⟩, .int .i64 0, .slice none 0 0, .int .i64 0, .string ⟨#[]⟩, .int .i64 0, .slice none 0 0, .string ⟨#[]⟩, .string ⟨#[]⟩, .string ⟨#[]⟩, .string ⟨#[]⟩, .string ⟨#[]⟩, .string ⟨#[]⟩, .string ⟨#[]⟩, .string ⟨#[]⟩, .string ⟨#[]⟩])); (have HZ2 := hide hz2); clear hb2 hz2)
    
    | fail)
  refine bodyPost_ret (v := .tuple #[.agg #[.slice none 0 0, .slice none 0 0], .bool false]) (by simp [results, Tryz.results26, go_sem, z0, z1]) rfl ?_
  refine MadeNN.zero ?_
  repeat (refine Below.setCell ?_ (by first | (simp; done) | (simp; omega)) _)
  exact HB2.out

set_option maxHeartbeats 4000000 in
set_option maxRecDepth 100000 in
theorem implNNyes (w : World) (la : Option Addr) (ln lc : Nat) (g0 g1 g2 : Nd) (t0 t1 t2 : Option Addr) (k0 k1 k2 : Nat) (h0 : Sl ((w.alloc (.cells #[.slice none 0 0, .slice none 0 0] ( /- t -/ 52))).alloc (.cells (newStrings 9) ( /- t -/ 9))) (.slice t0 g0.kids.len k0) g0.kids) (h1 : Sl ((w.alloc (.cells #[.slice none 0 0, .slice none 0 0] ( /- t -/ 52))).alloc (.cells (newStrings 9) ( /- t -/ 9))) (.slice t1 g1.kids.len k1) g1.kids) (h2 : Sl ((w.alloc (.cells #[.slice none 0 0, .slice none 0 0] ( /- t -/ 52))).alloc (.cells (newStrings 9) ( /- t -/ 9))) (.slice t2 g2.kids.len k2) g2.kids) (hok : ∀ g, g ∈ [g0, g1, g2] → okG g.up = true) (hfit : AllFit [g0, g1, g2])
    (hc : Calls Tryz.prog 49 #[.agg #[.slice la ln lc, .slice (some ⟨w.heap.size + 1, 0, none⟩) 9 9]] ((w.alloc (.cells #[.slice none 0 0, .slice none 0 0] ( /- t -/ 52))).alloc (.cells (newStrings 9) ( /- t -/ 9))) (fun e w' => ∃ (u0 u1 u2 : Value) (x0 x1 x2 : Option Addr) (m0 m1 m2 n0 n1 n2 : Nat), u0 = .slice x0 m0 n0 ∧ u1 = .slice x1 m1 n1 ∧ u2 = .slice x2 m2 n2 ∧ e = .returned (.tuple #[.agg #[.int .i64 g0.k, .string g0.fr, .int .i64 g0.ix, .slice t0 g0.kids.len k0, .int .i64 g1.k, .string g1.fr, .int .i64 g1.ix, .slice t1 g1.kids.len k1, .int .i64 g2.k, .string g2.fr, .int .i64 g2.ix, .slice t2 g2.kids.len k2, .int .i64 (unf ⟨g0.k, g0.fr, g0.ix, g0.kids⟩).k, .string (unf ⟨g0.k, g0.fr, g0.ix, g0.kids⟩).fr, .int .i64 (unf ⟨g0.k, g0.fr, g0.ix, g0.kids⟩).ix, u0, .int .i64 (unf ⟨g1.k, g1.fr, g1.ix, g1.kids⟩).k, .string (unf ⟨g1.k, g1.fr, g1.ix, g1.kids⟩).fr, .int .i64 (unf ⟨g1.k, g1.fr, g1.ix, g1.kids⟩).ix, u1, .int .i64 (unf ⟨g2.k, g2.fr, g2.ix, g2.kids⟩).k, .string (unf ⟨g2.k, g2.fr, g2.ix, g2.kids⟩).fr, .int .i64 (unf ⟨g2.k, g2.fr, g2.ix, g2.kids⟩).ix, u2, .string ⟨#[]⟩, .string ⟨#[]⟩, .string ⟨#[]⟩, .string ⟨#[]⟩, .string ⟨#[]⟩, .string ⟨#[]⟩, .string ⟨#[]⟩, .string ⟨#[]⟩, .string ⟨#[]⟩], .bool true]) ∧ Below ((w.alloc (.cells #[.slice none 0 0, .slice none 0 0] ( /- t -/ 52))).alloc (.cells (newStrings 9) ( /- t -/ 9))).heap.size ((w.alloc (.cells #[.slice none 0 0, .slice none 0 0] ( /- t -/ 52))).alloc (.cells (newStrings 9) ( /- t -/ 9))) w')) :
    Calls Tryz.prog 26 #[.slice la ln lc] w (MadeNN [g0, g1, g2] noQ true w) := by
  have hmk : ∀ w, (Instr.makeSlice ( /- t -/ 45) (.int .i64 9) (.int .i64 9)).run Tryz.prog w = .ok (.slice (some ⟨w.heap.size, 0, none⟩) 9 9) (w.alloc (.cells (newStrings 9) ( /- t -/ 9))) := fun w => makeStrings 9 (by omega) w
  have hb0 : Below w.heap.size w ((w.alloc (.cells #[.slice none 0 0, .slice none 0 0] ( /- t -/ 52))).alloc (.cells (newStrings 9) ( /- t -/ 9))) := (alloc_below w _).alloc (by simp) _
  have hz0 := (Box2.now w (.slice none 0 0) (.slice none 0 0) ( /- t -/ 52)).below (alloc_below _ (.cells (newStrings 9) ( /- t -/ 9)))
  have HC := hide hc
  have HB0 := hide hb0
  have HZ0 := hide hz0
  clear hc hb0 hz0
  go_enter Tryz.func26, Tryz.ntmps26
  go_wp2_with (first
    | (go_at_call 49; (with_reducible refine HC.out.mono ?_); rintro e w1 ⟨u0, u1, u2, x0, x1, x2, m0, m1, m2, n0, n1, n2, rfl, rfl, rfl, rfl, hb1⟩; (have hbw := HB0.out.trans (hb1.mono HB0.out.size)); (have HZ1 := hide ((HZ0.out.below hb1).below (alloc_below w1 (.cells #[.int .i64 0, .string ⟨#[]⟩, .int .i64 0, .slice none 0 0, .int .i64 0, .string ⟨#[]⟩, .int .i64 0, .slice none 0 0, .int .i64 0, .string ⟨#[]⟩, .int .i64 0, .slice none 0 0, .int .i64 0, .string ⟨#[]⟩, .int .i64 0, .slice none 0 0, .int .i64 0, .string ⟨#[]⟩, .int .i64 0, .slice none 0 0, .int .i64 0, .string ⟨#[]⟩, .int .i64 0, .slice none 0 0, .string ⟨#[]⟩, .string ⟨#[]⟩, .string ⟨#[]⟩, .string ⟨#[]⟩, .string ⟨#[]⟩, .string ⟨#[]⟩, .string ⟨#[]⟩, .string ⟨#[]⟩, .string ⟨#[]⟩] ( /- t -/ 93))))); (have HBW := hide hbw); (have hwl := hbw.size); clear hbw)
    | (refine wpList_store_blk (b := w1.heap.size) (c := #[.int .i64 0, .string ⟨#[]⟩, .int .i64 0, .slice none 0 0, .int .i64 0, .string ⟨#[]⟩, .int .i64 0, .slice none 0 0, .int .i64 0, .string ⟨#[]⟩, .int .i64 0, .slice none 0 0, .int .i64 0, .string ⟨#[]⟩, .int .i64 0, .slice none 0 0, .int .i64 0, .string ⟨#[]⟩, .int .i64 0, .slice none 0 0, .int .i64 0, .string ⟨#[]⟩, .int .i64 0, .slice none 0 0, .string ⟨#[]⟩, .string ⟨#[]⟩, .string ⟨#[]⟩, .string ⟨#[]⟩, .string ⟨#[]⟩, .string ⟨#[]⟩, .string ⟨#[]⟩, .string ⟨#[]⟩, .string ⟨#[]⟩]) (c' := #[.int .i64 g0.k, .string g0.fr, .int .i64 g0.ix, .slice t0 g0.kids.len k0, .int .i64 g1.k, .string g1.fr, .int .i64 g1.ix, .slice t1 g1.kids.len k1, .int .i64 g2.k, .string g2.fr, .int .i64 g2.ix, .slice t2 g2.kids.len k2, .int .i64 (unf ⟨g0.k, g0.fr, g0.ix, g0.kids⟩).k, .string (unf ⟨g0.k, g0.fr, g0.ix, g0.kids⟩).fr, .int .i64 (unf ⟨g0.k, g0.fr, g0.ix, g0.kids⟩).ix, .slice x0 m0 n0, .int .i64 (unf ⟨g1.k, g1.fr, g1.ix, g1.kids⟩).k, .string (unf ⟨g1.k, g1.fr, g1.ix, g1.kids⟩).fr, .int .i64 (unf ⟨g1.k, g1.fr, g1.ix, g1.kids⟩).ix, .slice x1 m1 n1, .int .i64 (unf ⟨g2.k, g2.fr, g2.ix, g2.kids⟩).k, .string (unf ⟨g2.k, g2.fr, g2.ix, g2.kids⟩).fr, .int .i64 (unf ⟨g2.k, g2.fr, g2.ix, g2.kids⟩).ix, .slice x2 m2 n2, .string ⟨#[]⟩, .string ⟨#[]⟩, .string ⟨#[]⟩, .string ⟨#[]⟩, .string ⟨#[]⟩, .string ⟨#[]⟩, .string ⟨#[]⟩, .string ⟨#[]⟩, .string ⟨#[]⟩]) rfl rfl (Blk.now w1 _ _) rfl rfl (by kernel_rfl) rfl (by kernel_rfl) ?_; (have hzl1 : w.heap.size < w1.heap.size := by (have := HZ0.out.lt; have := hb1.size; omega)); (have hz2 := HZ1.out.same (setRow_other _ _ _ #[.int .i64 g0.k, .string g0.fr, .int .i64 g0.ix, .slice t0 g0.kids.len k0, .int .i64 g1.k, .string g1.fr, .int .i64 g1.ix, .slice t1 g1.kids.len k1, .int .i64 g2.k, .string g2.fr, .int .i64 g2.ix, .slice t2 g2.kids.len k2, .int .i64 (unf ⟨g0.k, g0.fr, g0.ix, g0.kids⟩).k, .string (unf ⟨g0.k, g0.fr, g0.ix, g0.kids⟩).fr, .int .i64 (unf ⟨g0.k, g0.fr, g0.ix, g0.kids⟩).ix, .slice x0 m0 n0, .int .i64 (unf ⟨g1.k, g1.fr, g1.ix, g1.kids⟩).k, .string (unf ⟨g1.k, g1.fr, g1.ix, g1.kids⟩).fr, .int .i64 (unf ⟨g1.k, g1.fr, g1.ix, g1.kids⟩).ix, .slice x1 m1 n1, .int .i64 (unf ⟨g2.k, g2.fr, g2.ix, g2.kids⟩).k, .string (unf ⟨g2.k, g2.fr, g2.ix, g2.kids⟩).fr, .int .i64 (unf ⟨g2.k, g2.fr, g2.ix, g2.kids⟩).ix, .slice x2 m2 n2, .string ⟨#[]⟩, .string ⟨#[]⟩, .string ⟨#[]⟩, .string ⟨#[]⟩, .string ⟨#[]⟩, .string ⟨#[]⟩, .string ⟨#[]⟩, .string ⟨#[]⟩, .string ⟨#[]⟩] (Nat.ne_of_lt hzl1))); (have hb2 := below_setRow (HBW.out.alloc HBW.out.size (.cells #[.int .i64 0, .string ⟨#[]⟩, .int .i64 0, .slice none 0 0, .int .i64 0, .string ⟨#[]⟩, .int .i64 0, .slice none 0 0, .int .i64 0, .string ⟨#[]⟩, .int .i64 0, .slice none 0 0, .int .i64 0, .string ⟨#[]⟩, .int .i64 0, .slice none 0 0, .int .i64 0, .string ⟨#[]⟩, .int .i64 0, .slice none 0 0, .int .i64 0, .string ⟨#[]⟩, .int .i64 0, .slice none 0 0, .string ⟨#[]⟩, .string ⟨#[]⟩, .string ⟨#[]⟩, .string ⟨#[]⟩, .string ⟨#[]⟩, .string ⟨#[]⟩, .string ⟨#[]⟩, .string ⟨#[]⟩, .string ⟨#[]⟩] ( /- t -/ 93))) HBW.out.size #[.int .i64 g0.k, .string g0.fr, .int .i64 g0.ix, .slice t0 g0.kids.len k0, .int .i64 g1.k, .string g1.fr, .int .i64 g1.ix, .slice t1 g1.kids.len k1, .int .i64 g2.k, .string g2.fr, .int .i64 g2.ix, .slice t2 g2.kids.len k2, .int .i64 (unf ⟨g0.k, g0.fr, g0.ix, g0.kids⟩).k, .string (unf ⟨g0.k, g0.fr, g0.ix, g0.kids⟩).fr, .int .i64 (unf ⟨g0.k, g0.fr, g0.ix, g0.kids⟩).ix, .slice x0 m0 n0, .int .i64 (unf ⟨g1.k, g1.fr, g1.ix, g1.kids⟩).k, .string (unf ⟨g1.k, g1.fr, g1.ix, g1.kids⟩).fr, .int .i64 (unf ⟨g1.k, g1.fr, g1.ix, g1.kids⟩).ix, .slice x1 m1 n1, .int .i64 (unf ⟨g2.k, g2.fr, g2.ix, g2.kids⟩).k, .string (unf ⟨g2.k, g2.fr, g2.ix, g2.kids⟩).fr, .int .i64 (unf ⟨g2.k, g2.fr, g2.ix, g2.kids⟩).ix, .slice x2 m2 n2, .string ⟨#[]⟩, .string ⟨#[]⟩, .string ⟨#[]⟩, .string ⟨#[]⟩, .string ⟨#[]⟩, .string ⟨#[]⟩, .string ⟨#[]⟩, .string ⟨#[]⟩, .string ⟨#[]⟩]); (obtain ⟨z0, z1⟩ := hz2.cells); (have fz := hz2.frozen); (have hzl := hz2.lt); (have HB2 := hide hb2); (have HB3 := hide (below_setRow (hb1.alloc hb1.size (.cells #[.int .i64 0, .string ⟨#[]⟩, .int .i64 0, .slice none 0 0, .int .i64 0, .string ⟨#[]⟩, .int .i64 0, .slice none 0 0, .int .i64 0, .string ⟨#[]⟩, .int .i64 0, .slice none 0 0, .int .i64 0, .string ⟨#[]⟩, .int .i64 0, .slice none 0 0, .int .i64 0, .string ⟨#[]⟩, .int .i64 0, .slice none 0 0, .int .i64 0, .string ⟨#[]⟩, .int .i64 0, .slice none 0 0, .string ⟨#[]⟩, .string ⟨#[]⟩, .string ⟨#[]⟩, .string ⟨#[]⟩, .string ⟨#[]⟩, .string ⟨#[]⟩, .string ⟨#[]⟩, .string ⟨#[]⟩, .string ⟨#[]⟩] ( /- t -/ 93))) hb1.size #[.int .i64 g0.k, .string g0.fr, .int .i64 g0.ix, .slice t0 g0.kids.len k0, .int .i64 g1.k, .string g1.fr, .int .i64 g1.ix, .slice t1 g1.kids.len k1, .int .i64 g2.k, .string g2.fr, .int .i64 g2.ix, .slice t2 g2.kids.len k2, .int .i64 (unf ⟨g0.k, g0.fr, g0.ix, g0.kids⟩).k, .string (unf ⟨g0.k, g0.fr, g0.ix, g0.kids⟩).fr, .int .i64 (unf ⟨g0.k, g0.fr, g0.ix, g0.kids⟩).ix, .slice x0 m0 n0, .int .i64 (unf ⟨g1.k, g1.fr, g1.ix, g1.kids⟩).k, .string (unf ⟨g1.k, g1.fr, g1.ix, g1.kids⟩).fr, .int .i64 (unf ⟨g1.k, g1.fr, g1.ix, g1.kids⟩).ix, .slice x1 m1 n1, .int .i64 (unf ⟨g2.k, g2.fr, g2.ix, g2.kids⟩).k, .string (unf ⟨g2.k, g2.fr, g2.ix, g2.kids⟩).fr, .int .i64 (unf ⟨g2.k, g2.fr, g2.ix, g2.kids⟩).ix, .slice x2 m2 n2, .string ⟨#[]⟩, .string ⟨#[]⟩, .string ⟨#[]⟩, .string ⟨#[]⟩, .string ⟨#[]⟩, .string ⟨#[]⟩, .string ⟨#[]⟩, .string ⟨#[]⟩, .string ⟨#[]⟩])); (have HZ2 := hide hz2); clear hb2 hz2; (have HBK := hide ((Blk.now w1 #[.int .i64 0, .string ⟨#[]⟩, .int .i64 0, .slice none 0 0, .int .i64 0, .string ⟨#[]⟩, .int .i64 0, .slice none 0 0, .int .i64 0, .string ⟨#[]⟩, .int .i64 0, .slice none 0 0, .int .i64 0, .string ⟨#[]⟩, .int .i64 0, .slice none 0 0, .int .i64 0, .string ⟨#[]⟩, .int .i64 0, .slice none 0 0, .int .i64 0, .string ⟨#[]⟩, .int .i64 0, .slice none 0 0, .string ⟨#[]⟩, .string ⟨#[]⟩, .string ⟨#[]⟩, .string ⟨#[]⟩, .string ⟨#[]⟩, .string ⟨#[]⟩, .string ⟨#[]⟩, .string ⟨#[]⟩, .string ⟨#[]⟩] ( /- t -/ 93)).setRow #[.int .i64 g0.k, .string g0.fr, .int .i64 g0.ix, .slice t0 g0.kids.len k0, .int .i64 g1.k, .string g1.fr, .int .i64 g1.ix, .slice t1 g1.kids.len k1, .int .i64 g2.k, .string g2.fr, .int .i64 g2.ix, .slice t2 g2.kids.len k2, .int .i64 (unf ⟨g0.k, g0.fr, g0.ix, g0.kids⟩).k, .string (unf ⟨g0.k, g0.fr, g0.ix, g0.kids⟩).fr, .int .i64 (unf ⟨g0.k, g0.fr, g0.ix, g0.kids⟩).ix, .slice x0 m0 n0, .int .i64 (unf ⟨g1.k, g1.fr, g1.ix, g1.kids⟩).k, .string (unf ⟨g1.k, g1.fr, g1.ix, g1.kids⟩).fr, .int .i64 (unf ⟨g1.k, g1.fr, g1.ix, g1.kids⟩).ix, .slice x1 m1 n1, .int .i64 (unf ⟨g2.k, g2.fr, g2.ix, g2.kids⟩).k, .string (unf ⟨g2.k, g2.fr, g2.ix, g2.kids⟩).fr, .int .i64 (unf ⟨g2.k, g2.fr, g2.ix, g2.kids⟩).ix, .slice x2 m2 n2, .string ⟨#[]⟩, .string ⟨#[]⟩, .string ⟨#[]⟩, .string ⟨#[]⟩, .string ⟨#[]⟩, .string ⟨#[]⟩, .string ⟨#[]⟩, .string ⟨#[]⟩, .string ⟨#[]⟩])))
    | (refine wpList_load_blk (b := w1.heap.size) (c := #[.int .i64 g0.k, .string g0.fr, .int .i64 g0.ix, .slice t0 g0.kids.len k0, .int .i64 g1.k, .string g1.fr, .int .i64 g1.ix, .slice t1 g1.kids.len k1, .int .i64 g2.k, .string g2.fr, .int .i64 g2.ix, .slice t2 g2.kids.len k2, .int .i64 (unf ⟨g0.k, g0.fr, g0.ix, g0.kids⟩).k, .string (unf ⟨g0.k, g0.fr, g0.ix, g0.kids⟩).fr, .int .i64 (unf ⟨g0.k, g0.fr, g0.ix, g0.kids⟩).ix, .slice x0 m0 n0, .int .i64 (unf ⟨g1.k, g1.fr, g1.ix, g1.kids⟩).k, .string (unf ⟨g1.k, g1.fr, g1.ix, g1.kids⟩).fr, .int .i64 (unf ⟨g1.k, g1.fr, g1.ix, g1.kids⟩).ix, .slice x1 m1 n1, .int .i64 (unf ⟨g2.k, g2.fr, g2.ix, g2.kids⟩).k, .string (unf ⟨g2.k, g2.fr, g2.ix, g2.kids⟩).fr, .int .i64 (unf ⟨g2.k, g2.fr, g2.ix, g2.kids⟩).ix, .slice x2 m2 n2, .string ⟨#[]⟩, .string ⟨#[]⟩, .string ⟨#[]⟩, .string ⟨#[]⟩, .string ⟨#[]⟩, .string ⟨#[]⟩, .string ⟨#[]⟩, .string ⟨#[]⟩, .string ⟨#[]⟩]) rfl rfl HBK.out rfl Tryz.underlying93 rfl (by kernel_rfl) ?_)
    | (go_at_call 55; (with_reducible refine (implNetw _ g0 g1 g2 ⟨#[]⟩ ⟨#[]⟩ ⟨#[]⟩ ⟨#[]⟩ ⟨#[]⟩ ⟨#[]⟩ ⟨#[]⟩ ⟨#[]⟩ ⟨#[]⟩ t0 t1 t2 x0 x1 x2 k0 k1 k2 m0 m1 m2 n0 n1 n2 (h0.still (Still.of_below HB3.out)) (h1.still (Still.of_below HB3.out)) (h2.still (Still.of_below HB3.out)) hok hfit eQ).mono ?_); rintro e w3 ⟨u, v, bs, cs, rfl, ou, ov, hge, hnd, hb3⟩; (obtain ⟨ua, uc, rfl⟩ := ou.val); (obtain ⟨va, vc, rfl⟩ := ov.val); (have hz3 := HZ2.out.below hb3); (obtain ⟨z0, z1⟩ := hz3.cells); (have fz := hz3.frozen); (have hzl := hz3.lt); (have HO := hide (And.intro ou (And.intro ov (And.intro hge (And.intro hnd (HB2.out.trans (hb3.mono HB2.out.size))))))); (have hsz := HB2.out.size); clear ou ov hge hnd hb3 hz3)
    | fail)
  refine bodyPost_ret (v := .tuple #[.agg #[.slice ua 3 uc, .slice va 9 vc], .bool true]) (by simp [results, Tryz.results26, go_sem, z0, z1]) rfl ?_
  refine ⟨_, _, bs, cs, rfl, HO.out.1.same ?_, HO.out.2.1.same elS_flat ?_, fun x hx => by have := HO.out.2.2.1 x hx; omega, HO.out.2.2.2.1, ?_⟩
  · repeat (refine Same.setCell ?_ (fun x hx => by have := HO.out.2.2.1 x (List.mem_append_left _ hx); simp at this ⊢; omega) _)
    exact Same.refl _ _
  · repeat (refine Same.setCell ?_ (fun x hx => by have := HO.out.2.2.1 x (List.mem_append_right _ hx); simp at this ⊢; omega) _)
    exact Same.refl _ _
  · repeat (refine Below.setCell ?_ (by first | (simp; done) | (simp; omega)) _)
    exact HO.out.2.2.2.2

theorem nd3 {α : Type} {l : List α} (h : l.length = 3) : ∃ a b c, l = [a, b, c] := by
  match l, h with
  | [a, b, c], _ => exact ⟨a, b, c, rfl⟩
/-- NewNetwork of the program. -/
theorem implNewNet (w : World) (l : List Nd) (lv : Value) (hl : SlG elL w lv l) (hfit : AllFit l) :
    Calls Tryz.prog 26 #[lv] w (MadeNN (newL l) (newQ l) (netB l noQ) w) := by
  have hb0 : Below w.heap.size w ((w.alloc (.cells #[.slice none 0 0, .slice none 0 0] ( /- t -/ 52))).alloc (.cells (newStrings 9) ( /- t -/ 9))) := (alloc_below w _).alloc (by simp) _
  have hq0 : SlG elS ((w.alloc (.cells #[.slice none 0 0, .slice none 0 0] ( /- t -/ 52))).alloc (.cells (newStrings 9) ( /- t -/ 9))) (.slice (some ⟨w.heap.size + 1, 0, none⟩) 9 9) noQ := by
    refine newStrings_sl (t := ( /- t -/ 9)) ?_
    have := heap_alloc_new (w.alloc (.cells #[.slice none 0 0, .slice none 0 0] ( /- t -/ 52))) (.cells (newStrings 9) ( /- t -/ 9))
    simpa using this
  have hl0 := hl.still (Still.of_below hb0)
  have hno : netB l noQ = false → newL l = [] ∧ newQ l = [] := fun h => by unfold newL newQ; rw [h]; exact ⟨rfl, rfl⟩
  by_cases h3 : l.length = 3
  case neg =>
    have hok : netB l noQ = false := by unfold netB; rw [decide_eq_false h3]; rfl
    obtain ⟨la, lc, rfl, -, -⟩ := hl.at
    rw [(hno hok).1, (hno hok).2, hok]
    exact implNNno w la _ lc (implConfNo _ l noQ _ _ hl0 hq0 (fun h => h3 h.1))
  · obtain ⟨g0, g1, g2, rfl⟩ := nd3 h3
    have hq1 : SlG elS ((w.alloc (.cells #[.slice none 0 0, .slice none 0 0] ( /- t -/ 52))).alloc (.cells (newStrings 9) ( /- t -/ 9))) (.slice (some ⟨w.heap.size + 1, 0, none⟩) 9 9) [⟨#[]⟩, ⟨#[]⟩, ⟨#[]⟩, ⟨#[]⟩, ⟨#[]⟩, ⟨#[]⟩, ⟨#[]⟩, ⟨#[]⟩, ⟨#[]⟩] := hq0
    obtain ⟨lb, lo, qb, qo, lc, qc, t0, t1, t2, k0, k1, k2, rfl, hqe, hcf⟩ := open_cf hl0 hq1
    have hc := implConf _ lb lo qb qo lc qc g0 g1 g2 t0 t1 t2 k0 k1 k2 ⟨#[]⟩ ⟨#[]⟩ ⟨#[]⟩ ⟨#[]⟩ ⟨#[]⟩ ⟨#[]⟩ ⟨#[]⟩ ⟨#[]⟩ ⟨#[]⟩ hcf _ (netB_conf g0 g1 g2 ⟨#[]⟩ ⟨#[]⟩ ⟨#[]⟩ ⟨#[]⟩ ⟨#[]⟩ ⟨#[]⟩ ⟨#[]⟩ ⟨#[]⟩ ⟨#[]⟩) (Nat.zero_le _) (Nat.zero_le _) (Nat.zero_le _) (Nat.zero_le _) (Nat.zero_le _) (Nat.zero_le _) (Nat.zero_le _) (Nat.zero_le _) (Nat.zero_le _)
    rw [← hqe] at hc
    cases hok : netB [g0, g1, g2] noQ with
    | false =>
      rw [(hno hok).1, (hno hok).2]
      exact implNNno w _ _ lc (hc.mono fun e w' h => ⟨h.2.1 hok, h.1⟩)
    | true =>
      rw [show newL [g0, g1, g2] = [g0, g1, g2] by unfold newL; rw [hok]; rfl, show newQ [g0, g1, g2] = noQ by unfold newQ; rw [hok]; rfl]
      refine implNNyes w _ _ lc g0 g1 g2 t0 t1 t2 k0 k1 k2 hcf.l0 hcf.l1 hcf.l2 (netB_parts hok).2.2 hfit (hc.mono fun e w' h => ?_)
      obtain ⟨u0, u1, u2, he, h0, h1, h2⟩ := h.2.2 hok
      obtain ⟨x0, n0, e0, -⟩ := h0
      obtain ⟨x1, n1, e1, -⟩ := h1
      obtain ⟨x2, n2, e2, -⟩ := h2
      exact ⟨u0, u1, u2, x0, x1, x2, _, _, _, n0, n1, n2, e0, e1, e2, he, h.1⟩
end Go.Proofs.YtmkjipnemapdeaaGreatDoor.Lo.Ne

/- markText of the laws. -/
namespace Go.Proofs.YtmkjipnemapdeaaGreatDoor
open Go.RowKit

/-- The last digit's byte. -/
def dgB (k : Nat) : UInt8 := UInt8.ofNat (48 + k % 10)
theorem dgB_toNat (k : Nat) : (dgB k).toNat = 48 + k % 10 := by
  unfold dgB
  rw [UInt8.toNat_ofNat']
  omega
theorem ba_cons (x : UInt8) (l : List UInt8) : ((⟨#[x]⟩ : ByteArray) ++ ⟨l.toArray⟩) = ⟨(x :: l).toArray⟩ := by
  apply ByteArray.ext
  simp
def mtLoop : Nat → Nat → List UInt8 → List UInt8
  | 0, _, acc => acc
  | n + 1, k, acc => if k = 0 then acc else mtLoop n (k / 10) (dgB k :: acc)
/-- The text of a mark. -/
def MT (k : Nat) : ByteArray := ⟨(109 :: mtLoop k k []).toArray⟩

/-- One byte in a box, made into a string. -/
theorem conv_one (w : World) (c : UInt8) (n : Int) (hn : n = (c.toNat : Int)) (cap : Nat) (a : Addr) (hc : w.cell? a = some (.int .u8 n)) :
    (convert ( /- t -/ 113) ( /- t -/ 9) (.slice (some a) 1 cap)).run Tryz.prog w = .ok (.string ⟨#[c]⟩) w := by
  have h := run_convert_bytes_back (P := Tryz.prog) w ( /- t -/ 113) ( /- t -/ 9) ( /- t -/ 5) a cap [c] Tryz.underlying113 Tryz.underlying5 Tryz.underlying9
  refine h (fun j hj => ?_)
  have hj0 : j = 0 := by simp at hj; exact hj
  subst hj0
  rw [hn] at hc
  exact hc

theorem mtLoop_done (acc : List UInt8) : ∀ n, mtLoop n 0 acc = acc
  | 0 => rfl
  | n + 1 => by simp [mtLoop]

set_option maxHeartbeats 800000 in
set_option maxRecDepth 100000 in
theorem mt_calls (k : Nat) (hk : 1 ≤ k) (hk2 : k ≤ 16777216) (w : World) : Calls Tryz.prog 56 #[.int .i64 (k : Int)] w fun e w' => e = .returned (.string (MT k)) ∧ Below w.heap.size w w' := by
  go_enter Tryz.func56, Tryz.ntmps56
  go_wp2_with fail
  go_loopw [0, 3] (fun kv ov wr => ∃ (kk n : Nat) (acc : List UInt8), kv = .int .i64 kk ∧ ov = .string ⟨acc.toArray⟩ ∧ kk ≤ n ∧ kk ≤ k ∧ acc.length + n ≤ k ∧ mtLoop n kk acc = mtLoop k k [] ∧ Below w.heap.size w wr) (fun kv _ _ => (intOf kv).toNat)
  case atStart => exact ⟨k, k, [], rfl, rfl, Nat.le_refl _, Nat.le_refl _, by simp, rfl, Below.refl _ _⟩
  case round =>
    obtain ⟨kk, n, acc, rfl, rfl, h1, h2, h3, h4, hb⟩ := hrel
    have H4 := hide h4
    clear h4
    by_cases hz : 0 < kk
    · have hcv : (convert ( /- t -/ 113) ( /- t -/ 9) (.slice (some ⟨wr.heap.size, 0, none⟩) 1 1)).run Tryz.prog (wr.alloc (.cells #[.int .u8 (48 + (kk : Int) % 10)] ( /- t -/ 5))) =
          .ok (.string ⟨#[dgB kk]⟩) (wr.alloc (.cells #[.int .u8 (48 + (kk : Int) % 10)] ( /- t -/ 5))) := by
        refine conv_one _ (dgB kk) (48 + (kk : Int) % 10) ?_ 1 _ ?_
        · rw [dgB_toNat]
          omega
        · go_simp
      go_wp2_with fail
      rw [ba_cons]
      cases n with
      | zero => omega
      | succ n =>
        refine ⟨⟨kk / 10, n, dgB kk :: acc, by go_num, rfl, by omega, by omega, by simp only [List.length_cons]; omega, ?_, hb.alloc hb.size _⟩, by simp [intOf]; omega⟩
        rw [← H4.out, mtLoop, if_neg (by omega)]
    · have h0 : kk = 0 := by omega
      subst h0
      go_wp2_with fail
      go_ret
      have := H4.out
      rw [mtLoop_done] at this
      refine ⟨?_, hb⟩
      show Ending.returned (.string (⟨#[109]⟩ ++ ⟨acc.toArray⟩)) = _
      unfold MT
      rw [← this, ba_cons]
theorem MT_size (k : Nat) (hk : k ≤ 16777216) : (MT k).size ≤ maxLen := by
  have h : ∀ n kk acc, (mtLoop n kk acc).length ≤ acc.length + n := by
    intro n
    induction n with
    | zero => intro kk acc; simp [mtLoop]
    | succ n ih =>
      intro kk acc
      unfold mtLoop
      split
      · omega
      · have := ih (kk / 10) (dgB kk :: acc)
        simp only [List.length_cons] at this
        omega
  have h2 := h k k []
  have h3 : (MT k).size = (mtLoop k k []).length + 1 := by
    unfold MT
    show (List.toArray (109 :: mtLoop k k [])).size = _
    simp
  rw [h3]
  unfold maxLen
  simp only [List.length_nil] at h2
  omega
end Go.Proofs.YtmkjipnemapdeaaGreatDoor

/- markLocal: every place below the root is written, each with a mark of its own. -/
namespace Go.Proofs.YtmkjipnemapdeaaGreatDoor.Lo
open Go.RowKit

/-- But for the blocks named, what was there is as it was. -/
structure Wr (bs : List Nat) (w w' : World) : Prop where
  os : w'.os = w.os
  tape : w'.tape = w.tape
  output : w'.output = w.output
  size : w.heap.size ≤ w'.heap.size
  block : ∀ k, k < w.heap.size → k ∉ bs → w'.heap[k]? = w.heap[k]?

theorem Wr.refl (bs : List Nat) (w : World) : Wr bs w w := ⟨rfl, rfl, rfl, Nat.le_refl _, fun _ _ _ => rfl⟩
theorem Wr.trans {bs : List Nat} {a b c : World} (h : Wr bs a b) (k : Wr bs b c) : Wr bs a c :=
  ⟨k.os.trans h.os, k.tape.trans h.tape, k.output.trans h.output, Nat.le_trans h.size k.size, fun i hi hc => (k.block i (Nat.lt_of_lt_of_le hi h.size) hc).trans (h.block i hi hc)⟩
theorem Wr.mono {bs cs : List Nat} {a b : World} (h : Wr bs a b) (hs : ∀ x, x ∈ bs → x ∈ cs) : Wr cs a b :=
  ⟨h.os, h.tape, h.output, h.size, fun i hi hc => h.block i hi (fun hm => hc (hs i hm))⟩
theorem Wr.of_below {bs : List Nat} {a b : World} (k : Below a.heap.size a b) : Wr bs a b := ⟨k.os, k.tape, k.output, k.size, fun i hi _ => k.block i hi⟩
theorem Wr.setCell {bs : List Nat} {a b : World} (h : Wr bs a b) {p : Addr} (hp : p.block ∈ bs) (u : Value) : Wr bs a (b.setCell p u) :=
  ⟨h.os, h.tape, h.output, by simpa using h.size, fun i hi hc => (Below.heap_setCell _ _ _ _ (by rintro rfl; exact hc hp)).trans (h.block i hi hc)⟩
theorem Wr.to_below {bs : List Nat} {B : Nat} {a b : World} (h : Wr bs a b) (hB : ∀ x, x ∈ bs → B ≤ x) (hs : B ≤ a.heap.size) : Below B a b :=
  ⟨h.os, h.tape, h.output, h.size, fun k hk => h.block k (by omega) (fun hm => by have := hB k hm; omega)⟩

/-- The list with a mark at every place, from k on. -/
def mkF : F → Nat → F
  | .nil, _ => .nil
  | .cons _ _ _ _ kids rest, k => .cons (MT k) (((k + 1 : Nat) : Int)) (MT (k + 2)) (((k + 3 : Nat) : Int)) (mkF kids (k + 4)) (mkF rest (k + 4 + 4 * kids.sz))

theorem mkF_len : ∀ (f : F) (k : Nat), (mkF f k).len = f.len
  | .nil, _ => rfl
  | .cons _ _ _ _ kids rest, k => by simp only [mkF, F.len, mkF_len rest]
theorem mkF_app (g : F) : ∀ (f : F) (k : Nat), mkF (f.app g) k = (mkF f k).app (mkF g (k + 4 * f.sz))
  | .nil, k => by simp [F.app, mkF, F.sz]
  | .cons _ _ _ _ kids rest, k => by
    simp only [F.app, mkF, mkF_app g rest, F.sz]
    rw [show k + 4 + 4 * kids.sz + 4 * rest.sz = k + 4 * (kids.sz + rest.sz + 1) by omega]
theorem mkF_nil {f : F} (k : Nat) (h : mkF f k = .nil) : f = .nil := by
  cases f with
  | nil => rfl
  | cons => simp [mkF] at h

theorem OwRow.split {w : World} : ∀ (f g : F) (b o : Nat) (bs : List Nat), OwRow w b o (f.app g) bs → ∃ b1 b2, bs = b1 ++ b2 ∧ OwRow w b o f b1 ∧ OwRow w b (o + 5 * f.len) g b2 := by
  intro f
  induction f with
  | nil => intro g b o bs h; exact ⟨[], bs, rfl, rfl, by simpa [F.app, F.len] using h⟩
  | cons lab k fr ix kids rest ihk ihr =>
    intro g b o bs hr
    obtain ⟨h2, h3, h5, h6, c0, c1, c2, c3, ks, rs, rfl, hs, hrest⟩ := hr
    obtain ⟨b1, b2, rfl, q1, q2⟩ := ihr _ _ _ _ hrest
    exact ⟨ks ++ b1, b2, by rw [List.append_assoc], ⟨h2, h3, h5, h6, c0, c1, c2, c3, ks, b1, rfl, hs, q1⟩, by simp only [F.len]; rw [show o + 5 * (rest.len + 1) = o + 5 + 5 * rest.len by omega]; exact q2⟩

theorem Free.lt_cell {w : World} {b n o : Nat} {v : Value} (h : Free w b n) (hc : w.cell? ⟨b, o, none⟩ = some v) : o < n := by
  obtain ⟨cs, t, hh, hn⟩ := h
  rw [cell_of_heap hh] at hc
  have := (Array.getElem?_eq_some_iff.1 hc).1
  omega

/-- The four marks of one branch: the world ahead of the branches below it. -/
theorem mark_mid {wr w1 w2 : World} {b n o : Nat} {s0 s1 s2 s3 v4 : Value} (hf : Free wr b n) (h4 : wr.cell? ⟨b, o + 4, none⟩ = some v4)
    (hb1 : Below wr.heap.size wr w1) (hb2 : Below (((w1.setCell ⟨b, o, none⟩ s0).setCell ⟨b, o + 1, none⟩ s1)).heap.size ((w1.setCell ⟨b, o, none⟩ s0).setCell ⟨b, o + 1, none⟩ s1) w2) :
    Wr [b] wr ((w2.setCell ⟨b, o + 2, none⟩ s2).setCell ⟨b, o + 3, none⟩ s3) ∧ Free ((w2.setCell ⟨b, o + 2, none⟩ s2).setCell ⟨b, o + 3, none⟩ s3) b n ∧
    (∀ off, off < o ∨ o + 4 ≤ off → ((w2.setCell ⟨b, o + 2, none⟩ s2).setCell ⟨b, o + 3, none⟩ s3).cell? ⟨b, off, none⟩ = wr.cell? ⟨b, off, none⟩) ∧
    ((w2.setCell ⟨b, o + 2, none⟩ s2).setCell ⟨b, o + 3, none⟩ s3).cell? ⟨b, o, none⟩ = some s0 ∧ ((w2.setCell ⟨b, o + 2, none⟩ s2).setCell ⟨b, o + 3, none⟩ s3).cell? ⟨b, o + 1, none⟩ = some s1 ∧
    ((w2.setCell ⟨b, o + 2, none⟩ s2).setCell ⟨b, o + 3, none⟩ s3).cell? ⟨b, o + 2, none⟩ = some s2 ∧ ((w2.setCell ⟨b, o + 2, none⟩ s2).setCell ⟨b, o + 3, none⟩ s3).cell? ⟨b, o + 3, none⟩ = some s3 := by
  have ho := Free.lt_cell hf h4
  have hlt := hf.lt
  obtain ⟨cs, t, hh, hn⟩ := hf
  have e1 : w1.heap[b]? = some (.cells cs t (0, 0)) := (hb1.block b hlt).trans hh
  have hlt1 : b < w1.heap.size := Nat.lt_of_lt_of_le hlt hb1.size
  have e2 := heap_setCell_same (o := o + 1) (heap_setCell_same (o := o) e1 s0) s1
  have e3 : w2.heap[b]? = _ := (hb2.block b (by simpa using hlt1)).trans e2
  have key := heap_setCell_same (o := o + 3) (heap_setCell_same (o := o + 2) e3 s2) s3
  have r1 : Wr [b] wr w1 := Wr.of_below hb1
  have r2 : Wr [b] wr w2 := ((r1.setCell (p := ⟨b, o, none⟩) (by simp) s0).setCell (p := ⟨b, o + 1, none⟩) (by simp) s1).trans (Wr.of_below hb2)
  refine ⟨(r2.setCell (p := ⟨b, o + 2, none⟩) (by simp) s2).setCell (p := ⟨b, o + 3, none⟩) (by simp) s3, ⟨_, t, key, by simp [hn]⟩, fun off hoff => ?_, ?_, ?_, ?_, ?_⟩
  · rw [cell_of_heap key, cell_of_heap hh]
    simp only [Array.getElem?_setIfInBounds]
    repeat rw [if_neg (by omega)]
  all_goals
    rw [cell_of_heap key]
    simp [Array.getElem?_setIfInBounds]
    omega

def MkPost (f : F) (v : Value) (bs : List Nat) (k : Nat) (w : World) (e : Ending) (w' : World) : Prop :=
  e = .returned (.int .i64 ((k + 4 * f.sz : Nat) : Int)) ∧ Ow w' v (mkF f k) bs ∧ Wr bs w w'
def MkS (f : F) : Prop := ∀ (w : World) (v : Value) (bs : List Nat) (k : Nat), Ow w v f bs → bs.Nodup → 1 ≤ k → k + 4 * f.sz ≤ 16777216 → Calls Tryz.prog 57 #[v, .int .i64 (k : Int)] w (MkPost f v bs k w)

def MkRel (w : World) (b n : Nat) (f : F) (bs : List Nat) (k : Nat) (kv iv : Value) (wr : World) : Prop :=
  ∃ p g b1 b2, f = p.app g ∧ bs = b1 ++ b2 ∧ kv = .int .i64 ((k + 4 * p.sz : Nat) : Int) ∧ iv = .int .i64 (p.len : Nat) ∧ OwRow wr b 0 (mkF p k) b1 ∧ OwRow wr b (p.len * 5) g b2 ∧ Free wr b n ∧ Wr (b :: b1) w wr

/-- One round more. -/
theorem mark_step {w wr C w4 : World} {b n k : Nat} {p kids rest : F} {b1 ks rs : List Nat} {lab fr : ByteArray} {kd ix : Int} {a5 : Option Addr} {cap5 : Nat} (hk : k + 4 * ((p.app (.cons lab kd fr ix kids rest)).sz) ≤ 16777216)
    (hnd : (b :: (b1 ++ (ks ++ rs))).Nodup) (hp : OwRow wr b 0 (mkF p k) b1) (hrest : OwRow wr b (p.len * 5 + 5) rest rs) (hfree : Free wr b n) (hw : Wr (b :: b1) w wr)
    (hC : Wr [b] wr C) (hCf : Free C b n) (hCo : ∀ off, off < p.len * 5 ∨ p.len * 5 + 4 ≤ off → C.cell? ⟨b, off, none⟩ = wr.cell? ⟨b, off, none⟩) (h5 : wr.cell? ⟨b, p.len * 5 + 4, none⟩ = some (.slice a5 kids.len cap5))
    (m0 : C.cell? ⟨b, p.len * 5, none⟩ = some (.string (MT (k + 4 * p.sz)))) (m1 : C.cell? ⟨b, p.len * 5 + 1, none⟩ = some (.int .i64 ((k + 4 * p.sz + 1 : Nat) : Int))) (m2 : C.cell? ⟨b, p.len * 5 + 2, none⟩ = some (.string (MT (k + 4 * p.sz + 2))))
    (m3 : C.cell? ⟨b, p.len * 5 + 3, none⟩ = some (.int .i64 ((k + 4 * p.sz + 3 : Nat) : Int)))
    (how : Ow w4 (.slice a5 kids.len cap5) (mkF kids (k + 4 * p.sz + 4)) ks) (h4 : Wr ks C w4) :
    MkRel w b n (p.app (.cons lab kd fr ix kids rest)) (b1 ++ (ks ++ rs)) k (.int .i64 ((k + 4 * p.sz + 4 + 4 * kids.sz : Nat) : Int)) (.int .i64 ((p.len + 1 : Nat) : Int)) w4 := by
  have hlb := hfree.lt
  have hlp := hp.lt _ _ _ _
  have hlr := hrest.lt _ _ _ _
  obtain ⟨hnb, hnd2⟩ := List.nodup_cons.1 hnd
  obtain ⟨hn1, hn23, hd1⟩ := List.nodup_append.1 hnd2
  obtain ⟨hn2, hn3, hd2⟩ := List.nodup_append.1 hn23
  have nb1 : ∀ x, x ∈ b1 → x ≠ b := fun x hx e => hnb (by rw [← e]; exact List.mem_append_left _ hx)
  have nbk : b ∉ ks := fun h => hnb (List.mem_append_right _ (List.mem_append_left _ h))
  have nbr : ∀ x, x ∈ rs → x ≠ b := fun x hx e => hnb (by rw [← e]; exact List.mem_append_right _ (List.mem_append_right _ hx))
  have e1k : ∀ x, x ∈ b1 → x ∉ ks := fun x hx hk => hd1 x hx x (List.mem_append_left _ hk) rfl
  have erk : ∀ x, x ∈ rs → x ∉ ks := fun x hx hk => hd2 x hk x hx rfl
  have hb4 : w4.heap[b]? = C.heap[b]? := h4.block b (Nat.lt_of_lt_of_le hlb hC.size) nbk
  have hcell : ∀ off, w4.cell? ⟨b, off, none⟩ = C.cell? ⟨b, off, none⟩ := fun off => Same.cell hb4
  have same1 : Same wr w4 b1 := fun x hx => (h4.block x (Nat.lt_of_lt_of_le (hlp x hx) hC.size) (e1k x hx)).trans (hC.block x (hlp x hx) (by simpa using nb1 x hx))
  have same3 : Same wr w4 rs := fun x hx => (h4.block x (Nat.lt_of_lt_of_le (hlr x hx) hC.size) (erk x hx)).trans (hC.block x (hlr x hx) (by simpa using nbr x hx))
  have hs0 : k + 4 * p.sz + 4 ≤ 16777216 := by rw [F.sz_app] at hk; simp only [F.sz] at hk; omega
  obtain ⟨a, cap, e, q1, q2, q3⟩ := how
  refine ⟨p.app (.cons lab kd fr ix kids .nil), rest, b1 ++ ks, rs, by rw [F.app_assoc]; rfl, by rw [List.append_assoc], ?_, by rw [F.len_app]; rfl, ?_, ?_, hCf.same hb4, ?_⟩
  · rw [F.sz_app]
    simp only [F.sz]
    rw [show k + 4 * (p.sz + (kids.sz + 0 + 1)) = k + 4 * p.sz + 4 + 4 * kids.sz by omega]
  · rw [mkF_app]
    refine OwRow.app _ _ _ _ _ _ (hp.same _ _ _ _ (fun i hi => ?_) same1) ?_
    · rw [mkF_len] at hi
      rw [hcell, hCo _ (by omega)]
    · rw [mkF_len, show 0 + 5 * p.len = p.len * 5 by omega]
      refine ⟨MT_size _ (by omega), MT_size _ (by omega), WalkArith.wf_i64 (by omega), WalkArith.wf_i64 (by omega), (hcell _).trans m0, (hcell _).trans m1, (hcell _).trans m2, (hcell _).trans m3, ks, [], by simp, ⟨a, cap, ?_, q1, q2, q3⟩, rfl⟩
      rw [hcell, hCo _ (by omega), h5, e]
  · rw [F.len_app]
    simp only [F.len]
    rw [show (p.len + (0 + 1)) * 5 = p.len * 5 + 5 by omega]
    refine hrest.same _ _ _ _ (fun i hi => ?_) same3
    rw [hcell, hCo _ (by omega)]
  · refine ((hw.mono (fun x hx => ?_)).trans (hC.mono (fun x hx => ?_))).trans (h4.mono (fun x hx => ?_))
    · rcases List.mem_cons.1 hx with rfl | hx
      · simp
      · simp [hx]
    · simp at hx
      simp [hx]
    · simp [hx]

theorem mt_int (z : Int) (h1 : 1 ≤ z) (h2 : z ≤ 16777216) (w : World) : Calls Tryz.prog 56 #[.int .i64 z] w fun e w' => e = .returned (.string (MT z.toNat)) ∧ Below w.heap.size w w' := by
  obtain ⟨k, rfl⟩ := Int.eq_ofNat_of_zero_le (show 0 ≤ z by omega)
  exact mt_calls k (by omega) (by omega) w

set_option maxHeartbeats 1000000 in
set_option maxRecDepth 100000 in
theorem mark_slice_lt : ∀ (n : Nat) (f : F), f.sz < n → MkS f := by
  intro n
  induction n with
  | zero => intro f hf; omega
  | succ n ih =>
    intro f hf w v bs k how hnd hk1 hk2
    obtain ⟨a, cap, rfl, hlc, hcm, hs⟩ := how
    have hfl : f.len ≤ maxLen := Nat.le_trans hlc hcm
    unfold maxLen at hfl
    rcases hs with ⟨rfl, rfl⟩ | ⟨b, N, bs', rfl, rfl, hfree, hne, hrow⟩
    · change Calls Tryz.prog 57 #[.slice a 0 cap, .int .i64 (k : Int)] w _
      have HLC := hide hlc
      have HCM := hide hcm
      clear hlc hcm hfl hf hnd
      go_enter Tryz.func57, Tryz.ntmps57
      go_wp2_with fail
      go_loopw [1, 5] (fun kv iv wr => kv = .int .i64 (k : Int) ∧ iv = .int .i64 0 ∧ wr = w) (fun _ _ _ => 0)
      case atStart => exact ⟨rfl, rfl, rfl⟩
      case round =>
        obtain ⟨rfl, rfl, rfl⟩ := hrel
        go_wp2_with fail
        go_ret
        exact ⟨rfl, ⟨a, cap, rfl, HLC.out, HCM.out, Or.inl ⟨rfl, rfl⟩⟩, Wr.refl _ _⟩
    · have HF := hide hf
      have HND := hide hnd
      have HROW := hide hrow
      have HFR := hide hfree
      have HNE := hide hne
      have HK2 := hide hk2
      have HLC := hide hlc
      have HCM := hide hcm
      have hbw := hfree.lt
      clear hf hnd hrow hfree hne hk2 hlc hcm
      go_enter Tryz.func57, Tryz.ntmps57
      go_wp2_with fail
      go_loopw [1, 5] (fun kv iv wr => MkRel w b N f bs' k kv iv wr) (fun _ iv _ => f.len - (intOf iv).toNat)
      case atStart => exact ⟨.nil, f, [], bs', rfl, rfl, rfl, rfl, rfl, by rw [show F.nil.len * 5 = 0 from rfl]; exact HROW.out, HFR.out, Wr.refl _ _⟩
      case round =>
        obtain ⟨p, g, b1, b2, hfe, hbe, rfl, rfl, hp, hg, hfree, hw⟩ := hrel
        have HE := hide hfe
        have HBE := hide hbe
        have HP := hide hp
        have HW := hide hw
        have hbr := hfree.lt
        clear hfe hbe hp hw
        cases g with
        | nil =>
          have hge : f.len ≤ p.len := by rw [HE.out, F.app_nil]; exact Nat.le_refl _
          have HG := hide hg
          clear hg
          go_wp2_with fail
          go_ret
          have h1 := HE.out
          rw [F.app_nil] at h1
          have h2 : b2 = [] := HG.out
          have h3 := HBE.out
          rw [h2, List.append_nil] at h3
          refine ⟨ret_int (by rw [h1]), ⟨some ⟨b, 0, none⟩, cap, by rw [mkF_len], by rw [mkF_len]; exact HLC.out, HCM.out, Or.inr ⟨b, N, bs', rfl, rfl, hfree, fun h => HNE.out (mkF_nil k h), ?_⟩⟩, ?_⟩
          · rw [h1, h3]
            exact HP.out
          · rw [h3]
            exact HW.out
        | cons lab kd fr ix kids rest =>
          have hlt : p.len < f.len := by rw [HE.out, F.len_app]; simp only [F.len]; omega
          have hkk : 1 ≤ k + 4 * p.sz ∧ k + 4 * p.sz + 4 + 4 * kids.sz ≤ 16777216 := by
            have := HK2.out
            rw [HE.out, F.sz_app] at this
            simp only [F.sz] at this
            omega
          obtain ⟨hka, hkb⟩ := hkk
          have HZ : Hid (kids.sz < n) := by have := HF.out; unfold Hid; rw [HE.out, F.sz_app] at this; simp only [F.sz] at this; omega
          obtain ⟨-, -, -, -, c0, c1, c2, c3, ks, rs, hb2e, ⟨a5, cap5, c5, l1, l2, l3⟩, hrest⟩ := hg
          have HB2 := hide hb2e
          have HL : Hid (Ow wr (.slice a5 kids.len cap5) kids ks) := ⟨a5, cap5, rfl, l1, l2, l3⟩
          have HR := hide hrest
          have C5 := hide c5
          have hN := Free.lt_cell hfree c5
          clear hb2e l3 hrest l1 l2
          generalize hK : k + 4 * p.sz = K at *
          have HK := hide hK
          clear hK
          go_wp2_with fail
          refine (mt_int K (by omega) (by omega) _).mono ?_
          rintro e w1 ⟨rfl, hb1⟩
          rw [show ((K : Int)).toNat = K from by omega]
          have f1 := hfree.below hb1
          have z1 : ∀ o, w1.frozen? ⟨b, o, none⟩ = false := fun o => f1.frozen
          obtain ⟨x0, d0⟩ := f1.cell (o := p.len * 5) (by omega)
          obtain ⟨x1, d1⟩ := f1.cell (o := p.len * 5 + 1) (by omega)
          have l1 := f1.lt
          clear c0 c1 c2 c3 c5
          go_wp2_with fail
          refine (mt_int _ (by omega) (by omega) _).mono ?_
          rintro e w2 ⟨rfl, hb2⟩
          rw [show ((K : Int) + 1 + 1).toNat = K + 2 from by omega]
          have f2 := ((f1.setCell ⟨b, p.len * 5, none⟩ (.string (MT K))).setCell ⟨b, p.len * 5 + 1, none⟩ (.int .i64 ((K : Int) + 1))).below hb2
          have z2 : ∀ o, w2.frozen? ⟨b, o, none⟩ = false := fun o => f2.frozen
          obtain ⟨x2, d2⟩ := f2.cell (o := p.len * 5 + 2) (by omega)
          obtain ⟨x3, d3⟩ := f2.cell (o := p.len * 5 + 3) (by omega)
          have l2 := f2.lt
          obtain ⟨M1, M2, M3, M4, M5, M6, M7⟩ := mark_mid (s0 := .string (MT K)) (s1 := .int .i64 ((K : Int) + 1)) (s2 := .string (MT (K + 2))) (s3 := .int .i64 ((K : Int) + 1 + 1 + 1)) hfree C5.out hb1 hb2
          have M9 := (M3 (p.len * 5 + 4) (Or.inr (Nat.le_refl _))).trans C5.out
          have g4 : w2.cell? ⟨b, p.len * 5 + 4, none⟩ = some (.slice a5 kids.len cap5) := by
            have q : ∀ (X : World) (x y : Nat) (u : Value), x ≠ y → (X.setCell ⟨b, x, none⟩ u).cell? ⟨b, y, none⟩ = X.cell? ⟨b, y, none⟩ := fun X x y u h => World.cell?_setCell_other _ _ _ _ (fun e => h (by injection e))
            rw [q _ _ _ _ (by omega), q _ _ _ _ (by omega)] at M9
            exact M9
          have HM := hide (And.intro M1 (And.intro M2 (And.intro M3 (And.intro M4 (And.intro M5 (And.intro M6 M7))))))
          clear d0 d1 z1 M1 M2 M3 M4 M5 M6 M7 M9
          go_wp2_with fail
          obtain ⟨M1, M2, M3, M4, M5, M6, M7⟩ := HM.out
          have hnd := HND.out
          rw [HBE.out, HB2.out] at hnd
          have nbk : ∀ x, x ∈ ks → x ≠ b := fun x hx e => (List.nodup_cons.1 hnd).1 (by rw [← e]; exact List.mem_append_right _ (List.mem_append_left _ hx))
          have hknd : ks.Nodup := (List.nodup_append.1 (List.nodup_append.1 (List.nodup_cons.1 hnd).2).2.1).1
          have hlk := HL.out.lt
          have howC := HL.out.same (fun x hx => M1.block x (hlk x hx) (by simpa using nbk x hx))
          rw [show (K : Int) + 1 + 1 + 1 + 1 = ((K + 4 : Nat) : Int) from by omega]
          refine (ih kids HZ.out _ _ ks (K + 4) howC hknd (by omega) (by omega)).mono ?_
          rintro e w4 ⟨rfl, how4, hw4⟩
          have hstep : MkRel w b N f bs' k (.int .i64 ((K + 4 + 4 * kids.sz : Nat) : Int)) (.int .i64 ((p.len + 1 : Nat) : Int)) w4 := by
            rw [HBE.out, HB2.out, HE.out]
            have hK := HK.out
            subst hK
            have hk3 := HK2.out
            rw [HE.out] at hk3
            exact mark_step hk3 hnd HP.out HR.out hfree HW.out M1 M2 M3 C5.out M4 M5 M6 M7 how4 hw4
          have HST := hide hstep
          clear hstep M1 M2 M3 M4 M5 M6 M7 howC how4 hw4 hnd nbk hknd hlk
          go_wp2_with fail
          refine ⟨?_, by simp [intOf]; omega⟩
          have h := HST.out
          rw [show ((K + 4 + 4 * kids.sz : Nat) : Int) = (K : Int) + 4 + 4 * (kids.sz : Int) from by omega, show ((p.len + 1 : Nat) : Int) = (p.len : Int) + 1 from by omega] at h
          exact h

set_option maxHeartbeats 400000 in
/-- markLocal. -/
theorem mark_calls (f : F) (w : World) (u : Value) (bs : List Nat) (k ix : Int) (fr : ByteArray) (m : Nat) (how : Ow w u f bs) (hnd : bs.Nodup) (hm1 : 1 ≤ m) (hm2 : m + 4 * f.sz ≤ 16777216) :
    Calls Tryz.prog 40 #[.agg #[.int .i64 k, .string fr, .int .i64 ix, u], .int .i64 (m : Int)] w (MkPost f u bs m w) := by
  obtain ⟨ua, uc, rfl⟩ := how.val
  have hb := alloc_below w (.cells #[.int .i64 k, .string fr, .int .i64 ix, .slice ua f.len uc] ( /- t -/ 33))
  have HO := hide (how.same (Same.of_below hb (fun x hx => how.lt x hx)))
  have HL := hide how.lt
  have HND := hide hnd
  have HB := hide hb
  clear how hnd hb
  go_enter Tryz.func40, Tryz.ntmps40
  go_wp2_with fail
  refine (mark_slice_lt _ f (Nat.lt_succ_self _) _ _ bs m HO.out HND.out hm1 hm2).mono ?_
  rintro e w1 ⟨rfl, how1, hw1⟩
  have HO1 := hide how1
  have HW := hide ((Wr.of_below HB.out).trans hw1)
  clear how1 hw1
  go_wp2_with fail
  go_ret
  exact ⟨rfl, HO1.out, HW.out⟩
end Go.Proofs.YtmkjipnemapdeaaGreatDoor.Lo

/- heldLocal: at a tree that bears the marks it counts them. -/
namespace Go.Proofs.YtmkjipnemapdeaaGreatDoor.Lo
open Go.RowKit

def HeS (f : F) : Prop := ∀ (w : World) (v : Value) (k : Nat), Sl w v (mkF f k) → 1 ≤ k → k + 4 * f.sz ≤ 16777216 →
  Calls Tryz.prog 69 #[v, .int .i64 (k : Int)] w fun e w' => e = .returned (.int .i64 ((k + 4 * f.sz : Nat) : Int)) ∧ Below w.heap.size w w'

set_option maxHeartbeats 1000000 in
set_option maxRecDepth 100000 in
theorem held_slice_lt : ∀ (n : Nat) (f : F), f.sz < n → HeS f := by
  intro n
  induction n with
  | zero => intro f hf; omega
  | succ n ih =>
    intro f hf w v k hs hk1 hk2
    obtain ⟨a, cap, rfl, hlen, hat⟩ := hs.at
    rw [mkF_len] at hlen ⊢
    unfold maxLen at hlen
    have HA := hide hat
    have HF := hide hf
    have HK2 := hide hk2
    clear hs hat hf hk2
    go_enter Tryz.func69, Tryz.ntmps69
    go_wp2_with fail
    go_loopw [1, 5] (fun kv iv wr => ∃ (g : F) (j kc : Nat), j + g.len = f.len ∧ kv = .int .i64 (kc : Int) ∧ iv = .int .i64 (j : Int) ∧ g.sz ≤ f.sz ∧ kc + 4 * g.sz = k + 4 * f.sz ∧ 1 ≤ kc ∧ At w a j (mkF g kc) ∧ Below w.heap.size w wr) (fun _ iv _ => f.len - (intOf iv).toNat)
    case atStart => exact ⟨f, 0, k, by omega, rfl, rfl, Nat.le_refl _, rfl, hk1, HA.out, Below.refl _ _⟩
    case round =>
      obtain ⟨g, j, kc, hj, rfl, rfl, h5, hsum, hkc, hg, hb⟩ := hrel
      have HS := hide hsum
      cases g with
      | nil =>
        have H5 : Hid (j = f.len) := by unfold Hid; simpa [F.len] using hj
        have hge : f.len ≤ j := Nat.le_of_eq H5.out.symm
        clear hj hsum
        go_wp2_with fail
        go_ret
        refine ⟨ret_int ?_, hb⟩
        have := HS.out
        simp only [F.sz] at this
        omega
      | cons lab kd fr ix kids rest =>
        have HJ : Hid (j + 1 + rest.len = f.len) := by unfold Hid; simp only [F.len] at hj; omega
        have hlt : j < f.len := by have := HJ.out; omega
        have hz : kids.sz < n ∧ rest.sz ≤ f.sz ∧ kc + 4 + 4 * kids.sz + 4 * rest.sz = k + 4 * f.sz := by have := HF.out; simp only [F.sz] at h5 hsum; omega
        have HZ := hide hz
        have hkb : kc + 4 + 4 * kids.sz ≤ 16777216 := by have := HK2.out; omega
        have hkb5 : kc + 4 ≤ 16777216 := by omega
        have hg2 : At w a j (.cons (MT kc) (((kc + 1 : Nat) : Int)) (MT (kc + 2)) (((kc + 3 : Nat) : Int)) (mkF kids (kc + 4)) (mkF rest (kc + 4 + 4 * kids.sz))) := hg
        obtain ⟨b, o, rfl, -, -, -, -, c0, c1, c2, c3, ⟨sv, c4, hsv⟩, -⟩ := (hg2.still (Still.of_below hb)).head
        rw [show ((kc + 1 : Nat) : Int) = (kc : Int) + 1 from by omega] at c1
        rw [show ((kc + 3 : Nat) : Int) = (kc : Int) + 1 + 1 + 1 from by omega] at c3
        have HSV := hide hsv
        have HRE := hide hg2.tail
        clear hj h5 hsum hz hg hg2 hsv
        go_wp2_with fail
        go_region_held3 (fun w' => w'.cell? ⟨b, o + j * 5, none⟩ = some (.string (MT kc)))
          (first | exact c0 | exact d0)
          ((first | (go_at_call 56; refine (mt_int _ (by omega) (by omega) _).mono ?_; (rintro e w1 ⟨rfl, hb1⟩); (rw [show ((kc : Int)).toNat = kc from by omega]); (have d0 := (Still.of_below hb1) _ _ c0))))
        have hbb1 : Below w.heap.size w w1 := hb.drew.trans (hb1.mono hb.size)
        have st1 : Still wr w1 := fun p v h => Still.of_below hb1 p v h
        have e1 := st1 _ _ c1
        have e2 := st1 _ _ c2
        have e3 := st1 _ _ c3
        have e4 := st1 _ _ c4
        have HSV1 := hide (HSV.out.still st1)
        clear c0 c1 c2 c3 c4 d0 st1 hb1 hb HSV
        go_wp2_with fail
        go_region_held3 (fun w' => w'.cell? ⟨b, o + j * 5 + 1 + 1, none⟩ = some (.string (MT (kc + 2))))
          (first | exact e2 | exact d2)
          ((first | (go_at_call 56; refine (mt_int _ (by omega) (by omega) _).mono ?_; (rintro e w2 ⟨rfl, hb2⟩); (rw [show ((kc : Int) + 1 + 1).toNat = kc + 2 from by omega]); (have d2 := (Still.of_below hb2) _ _ e2))))
        have hbb3 : Below w.heap.size w w2 := hbb1.drew.trans (hb2.mono hbb1.size)
        have st2 : Still w1 w2 := fun p v h => Still.of_below hb2 p v h
        have g3 := st2 _ _ e3
        have g4 := st2 _ _ e4
        have HSV3 := hide (HSV1.out.still st2)
        clear e1 e2 e3 e4 d2 st2 hb2 hbb1 HSV1
        go_wp2_with fail
        rw [show (kc : Int) + 1 + 1 + 1 + 1 = ((kc + 4 : Nat) : Int) from by omega]
        refine (ih kids HZ.out.1 _ _ (kc + 4) HSV3.out (by omega) (by omega)).mono ?_
        rintro e w4 ⟨rfl, hb4⟩
        have hbb4 : Below w.heap.size w w4 := hbb3.trans (hb4.mono hbb3.size)
        clear hb4 hbb3 HSV3
        generalize hQ : kc + 4 + 4 * kids.sz = Q at *
        have HQ := hide hQ
        clear hQ
        go_wp2_with fail
        refine ⟨⟨rest, j + 1, Q, by have := HJ.out; omega, rfl, by go_num, HZ.out.2.1, ?_, by have := HQ.out; omega, HRE.out, hbb4⟩, by simp [intOf]; omega⟩
        have h1 := HZ.out.2.2
        have h2 := HQ.out
        omega

set_option maxHeartbeats 400000 in
/-- heldLocal. -/
theorem held_calls (f : F) (w : World) (u : Value) (k ix : Int) (fr : ByteArray) (m : Nat) (hs : Sl w u (mkF f m)) (hm1 : 1 ≤ m) (hm2 : m + 4 * f.sz ≤ 16777216) :
    Calls Tryz.prog 41 #[.agg #[.int .i64 k, .string fr, .int .i64 ix, u], .int .i64 (m : Int)] w fun e w' => e = .returned (.int .i64 ((m + 4 * f.sz : Nat) : Int)) ∧ Below w.heap.size w w' := by
  have hb := alloc_below w (.cells #[.int .i64 k, .string fr, .int .i64 ix, u] ( /- t -/ 33))
  have HS := hide (hs.still (Still.of_below hb))
  clear hs
  go_enter Tryz.func41, Tryz.ntmps41
  go_wp2_with fail
  refine (held_slice_lt _ f (Nat.lt_succ_self _) _ _ m HS.out hm1 hm2).mono ?_
  rintro e w1 ⟨rfl, hb1⟩
  have hb2 := hb.trans (hb1.mono hb.size)
  clear hb hb1
  go_wp2_with fail
  go_ret
  exact ⟨ret_int (by omega), hb2⟩
end Go.Proofs.YtmkjipnemapdeaaGreatDoor.Lo

/- markLocalS, markStringS, markNetwork: every place of a network of the call's own is written, each with a mark of its own. -/
namespace Go.Proofs.YtmkjipnemapdeaaGreatDoor.Lo.Ne
open Go.RowKit

/-- How many marks a row of nodes takes. -/
def mzL : List Nd → Nat
  | [] => 0
  | n :: r => 3 + 4 * n.kids.sz + mzL r
theorem mzL_app (g : List Nd) : ∀ l : List Nd, mzL (l ++ g) = mzL l + mzL g
  | [] => by simp [mzL]
  | n :: r => by simp only [List.cons_append, mzL, mzL_app g r]; omega
def mkL : List Nd → Nat → List Nd
  | [], _ => []
  | n :: r, m => ⟨(m : Int), MT (m + 1), ((m + 2 : Nat) : Int), mkF n.kids (m + 3)⟩ :: mkL r (m + 3 + 4 * n.kids.sz)
theorem mkL_len : ∀ (l : List Nd) (m : Nat), (mkL l m).length = l.length
  | [], _ => rfl
  | n :: r, m => by simp only [mkL, List.length_cons, mkL_len r]
theorem mkL_app (g : List Nd) : ∀ (l : List Nd) (m : Nat), mkL (l ++ g) m = mkL l m ++ mkL g (m + mzL l)
  | [], m => by simp [mkL, mzL]
  | n :: r, m => by
    simp only [List.cons_append, mkL, mkL_app g r, mzL]
    rw [show m + 3 + 4 * n.kids.sz + mzL r = m + (3 + 4 * n.kids.sz + mzL r) by omega]
theorem mkL_nil {l : List Nd} (m : Nat) (h : mkL l m = []) : l = [] := by
  cases l with
  | nil => rfl
  | cons => simp [mkL] at h

/-- The three marks of one node: the world ahead of the branches below it. -/
theorem mark_mid4 {wr w2 : World} {b n o : Nat} {s0 s1 s2 v3 : Value} (hf : Free wr b n) (h3 : wr.cell? ⟨b, o + 3, none⟩ = some v3)
    (hb2 : Below (wr.setCell ⟨b, o, none⟩ s0).heap.size (wr.setCell ⟨b, o, none⟩ s0) w2) :
    Wr [b] wr ((w2.setCell ⟨b, o + 1, none⟩ s1).setCell ⟨b, o + 2, none⟩ s2) ∧ Free ((w2.setCell ⟨b, o + 1, none⟩ s1).setCell ⟨b, o + 2, none⟩ s2) b n ∧
    (∀ off, off < o ∨ o + 3 ≤ off → ((w2.setCell ⟨b, o + 1, none⟩ s1).setCell ⟨b, o + 2, none⟩ s2).cell? ⟨b, off, none⟩ = wr.cell? ⟨b, off, none⟩) ∧
    ((w2.setCell ⟨b, o + 1, none⟩ s1).setCell ⟨b, o + 2, none⟩ s2).cell? ⟨b, o, none⟩ = some s0 ∧ ((w2.setCell ⟨b, o + 1, none⟩ s1).setCell ⟨b, o + 2, none⟩ s2).cell? ⟨b, o + 1, none⟩ = some s1 ∧
    ((w2.setCell ⟨b, o + 1, none⟩ s1).setCell ⟨b, o + 2, none⟩ s2).cell? ⟨b, o + 2, none⟩ = some s2 := by
  have ho := Free.lt_cell hf h3
  have hlt := hf.lt
  obtain ⟨cs, t, hh, hn⟩ := hf
  have e2 := heap_setCell_same (o := o) hh s0
  have e3 : w2.heap[b]? = _ := (hb2.block b (by simpa using hlt)).trans e2
  have key := heap_setCell_same (o := o + 2) (heap_setCell_same (o := o + 1) e3 s1) s2
  have r2 : Wr [b] wr w2 := ((Wr.refl [b] wr).setCell (p := ⟨b, o, none⟩) (by simp) s0).trans (Wr.of_below hb2)
  refine ⟨(r2.setCell (p := ⟨b, o + 1, none⟩) (by simp) s1).setCell (p := ⟨b, o + 2, none⟩) (by simp) s2, ⟨_, t, key, by simp [hn]⟩, fun off hoff => ?_, ?_, ?_, ?_⟩
  · rw [cell_of_heap key, cell_of_heap hh]
    simp only [Array.getElem?_setIfInBounds]
    repeat rw [if_neg (by omega)]
  all_goals
    rw [cell_of_heap key]
    simp [Array.getElem?_setIfInBounds]
    omega

def MkPostL (l : List Nd) (v : Value) (bs : List Nat) (k : Nat) (w : World) (e : Ending) (w' : World) : Prop :=
  e = .returned (.int .i64 ((k + mzL l : Nat) : Int)) ∧ OwS w' v (mkL l k) bs ∧ Wr bs w w'

def MkRelL (w : World) (b n : Nat) (l : List Nd) (bs : List Nat) (k : Nat) (kv iv : Value) (wr : World) : Prop :=
  ∃ p g b1 b2, l = p ++ g ∧ bs = b1 ++ b2 ∧ kv = .int .i64 ((k + mzL p : Nat) : Int) ∧ iv = .int .i64 (p.length : Nat) ∧ OwL wr b 0 (mkL p k) b1 ∧ OwL wr b (p.length * 4) g b2 ∧ Free wr b n ∧ Wr (b :: b1) w wr

/-- One round more. -/
theorem mark_stepL {w wr C w4 : World} {b n k : Nat} {p rest : List Nd} {b1 ks rs : List Nat} {kd ix : Int} {fr : ByteArray} {kids : F} {a5 : Option Addr} {cap5 : Nat} (hk : k + mzL (p ++ ⟨kd, fr, ix, kids⟩ :: rest) ≤ 16777216)
    (hnd : (b :: (b1 ++ (ks ++ rs))).Nodup) (hp : OwL wr b 0 (mkL p k) b1) (hrest : OwL wr b (p.length * 4 + 4) rest rs) (hfree : Free wr b n) (hw : Wr (b :: b1) w wr)
    (hC : Wr [b] wr C) (hCf : Free C b n) (hCo : ∀ off, off < p.length * 4 ∨ p.length * 4 + 3 ≤ off → C.cell? ⟨b, off, none⟩ = wr.cell? ⟨b, off, none⟩) (h5 : wr.cell? ⟨b, p.length * 4 + 3, none⟩ = some (.slice a5 kids.len cap5))
    (m0 : C.cell? ⟨b, p.length * 4, none⟩ = some (.int .i64 ((k + mzL p : Nat) : Int))) (m1 : C.cell? ⟨b, p.length * 4 + 1, none⟩ = some (.string (MT (k + mzL p + 1)))) (m2 : C.cell? ⟨b, p.length * 4 + 2, none⟩ = some (.int .i64 ((k + mzL p + 2 : Nat) : Int)))
    (how : Ow w4 (.slice a5 kids.len cap5) (mkF kids (k + mzL p + 3)) ks) (h4 : Wr ks C w4) :
    MkRelL w b n (p ++ ⟨kd, fr, ix, kids⟩ :: rest) (b1 ++ (ks ++ rs)) k (.int .i64 ((k + mzL p + 3 + 4 * kids.sz : Nat) : Int)) (.int .i64 ((p.length + 1 : Nat) : Int)) w4 := by
  have hlb := hfree.lt
  have hlp := hp.lt
  have hlr := hrest.lt
  obtain ⟨hnb, hnd2⟩ := List.nodup_cons.1 hnd
  obtain ⟨hn1, hn23, hd1⟩ := List.nodup_append.1 hnd2
  obtain ⟨hn2, hn3, hd2⟩ := List.nodup_append.1 hn23
  have nb1 : ∀ x, x ∈ b1 → x ≠ b := fun x hx e => hnb (by rw [← e]; exact List.mem_append_left _ hx)
  have nbk : b ∉ ks := fun h => hnb (List.mem_append_right _ (List.mem_append_left _ h))
  have nbr : ∀ x, x ∈ rs → x ≠ b := fun x hx e => hnb (by rw [← e]; exact List.mem_append_right _ (List.mem_append_right _ hx))
  have e1k : ∀ x, x ∈ b1 → x ∉ ks := fun x hx hk => hd1 x hx x (List.mem_append_left _ hk) rfl
  have erk : ∀ x, x ∈ rs → x ∉ ks := fun x hx hk => hd2 x hk x hx rfl
  have hb4 : w4.heap[b]? = C.heap[b]? := h4.block b (Nat.lt_of_lt_of_le hlb hC.size) nbk
  have hcell : ∀ off, w4.cell? ⟨b, off, none⟩ = C.cell? ⟨b, off, none⟩ := fun off => Same.cell hb4
  have same1 : Same wr w4 b1 := fun x hx => (h4.block x (Nat.lt_of_lt_of_le (hlp x hx) hC.size) (e1k x hx)).trans (hC.block x (hlp x hx) (by simpa using nb1 x hx))
  have same3 : Same wr w4 rs := fun x hx => (h4.block x (Nat.lt_of_lt_of_le (hlr x hx) hC.size) (erk x hx)).trans (hC.block x (hlr x hx) (by simpa using nbr x hx))
  have hs0 : k + mzL p + 3 ≤ 16777216 := by rw [mzL_app] at hk; simp only [mzL] at hk; omega
  obtain ⟨a, cap, e, q1, q2, q3⟩ := how
  refine ⟨p ++ [⟨kd, fr, ix, kids⟩], rest, b1 ++ ks, rs, by simp, by rw [List.append_assoc], ?_, by simp, ?_, ?_, hCf.same hb4, ?_⟩
  · rw [mzL_app]
    simp only [mzL]
    rw [show k + (mzL p + (3 + 4 * kids.sz + 0)) = k + mzL p + 3 + 4 * kids.sz by omega]
  · rw [mkL_app]
    refine OwL.app (hp.same (fun i hi => ?_) same1) ?_
    · rw [mkL_len] at hi
      rw [hcell, hCo _ (by omega)]
    · rw [mkL_len, show 0 + 4 * p.length = p.length * 4 by omega]
      refine ⟨MT_size _ (by omega), WalkArith.wf_i64 (by dsimp only; omega), WalkArith.wf_i64 (by dsimp only; omega), (hcell _).trans m0, (hcell _).trans m1, (hcell _).trans m2, ks, [], by simp, ⟨.slice a5 kids.len cap5, ?_, ⟨a, cap, e, q1, q2, q3⟩⟩, rfl⟩
      rw [hcell, hCo _ (by omega), h5]
  · rw [List.length_append, List.length_singleton]
    rw [show (p.length + 1) * 4 = p.length * 4 + 4 by omega]
    refine hrest.same (fun i hi => ?_) same3
    rw [hcell, hCo _ (by omega)]
  · refine ((hw.mono (fun x hx => ?_)).trans (hC.mono (fun x hx => ?_))).trans (h4.mono (fun x hx => ?_))
    · rcases List.mem_cons.1 hx with rfl | hx
      · simp
      · simp [hx]
    · simp at hx
      simp [hx]
    · simp [hx]

set_option maxHeartbeats 1000000 in
set_option maxRecDepth 100000 in
/-- markLocalS. -/
theorem markL (l : List Nd) (w : World) (v : Value) (bs : List Nat) (k : Nat) (how : OwS w v l bs) (hnd : bs.Nodup) (hk1 : 1 ≤ k) (hk2 : k + mzL l ≤ 16777216) :
    Calls Tryz.prog 28 #[v, .int .i64 (k : Int)] w (MkPostL l v bs k w) := by
  obtain ⟨a, cap, rfl, hlc, hcm, hs⟩ := how
  have hfl : l.length ≤ maxLen := Nat.le_trans hlc hcm
  unfold maxLen at hfl
  rcases hs with ⟨rfl, rfl⟩ | ⟨b, N, bs', rfl, rfl, hfree, hne, hrow⟩
  · change Calls Tryz.prog 28 #[.slice a 0 cap, .int .i64 (k : Int)] w _
    have HLC := hide hlc
    have HCM := hide hcm
    clear hlc hcm hfl hnd
    go_enter Tryz.func28, Tryz.ntmps28
    go_wp2_with fail
    go_loopw [1, 5] (fun kv iv wr => kv = .int .i64 (k : Int) ∧ iv = .int .i64 0 ∧ wr = w) (fun _ _ _ => 0)
    case atStart => exact ⟨rfl, rfl, rfl⟩
    case round =>
      obtain ⟨rfl, rfl, rfl⟩ := hrel
      go_wp2_with fail
      go_ret
      exact ⟨rfl, ⟨a, cap, rfl, HLC.out, HCM.out, Or.inl ⟨rfl, rfl⟩⟩, Wr.refl _ _⟩
  · have HND := hide hnd
    have HROW := hide hrow
    have HFR := hide hfree
    have HNE := hide hne
    have HK2 := hide hk2
    have HLC := hide hlc
    have HCM := hide hcm
    have hbw := hfree.lt
    clear hnd hrow hfree hne hk2 hlc hcm
    go_enter Tryz.func28, Tryz.ntmps28
    go_wp2_with fail
    go_loopw [1, 5] (fun kv iv wr => MkRelL w b N l bs' k kv iv wr) (fun _ iv _ => l.length - (intOf iv).toNat)
    case atStart => exact ⟨[], l, [], bs', rfl, rfl, rfl, rfl, rfl, by rw [show ([] : List Nd).length * 4 = 0 from rfl]; exact HROW.out, HFR.out, Wr.refl _ _⟩
    case round =>
      obtain ⟨p, g, b1, b2, hfe, hbe, rfl, rfl, hp, hg, hfree, hw⟩ := hrel
      have HE := hide hfe
      have HBE := hide hbe
      have HP := hide hp
      have HW := hide hw
      have hbr := hfree.lt
      clear hfe hbe hp hw
      cases g with
      | nil =>
        have hge : l.length ≤ p.length := by rw [HE.out, List.append_nil]; exact Nat.le_refl _
        have HG := hide hg
        clear hg
        go_wp2_with fail
        go_ret
        have h1 := HE.out
        rw [List.append_nil] at h1
        have h2 : b2 = [] := HG.out
        have h3 := HBE.out
        rw [h2, List.append_nil] at h3
        refine ⟨ret_int (by rw [h1]), ⟨some ⟨b, 0, none⟩, cap, by rw [mkL_len], by rw [mkL_len]; exact HLC.out, HCM.out, Or.inr ⟨b, N, bs', rfl, rfl, hfree, fun h => HNE.out (mkL_nil k h), ?_⟩⟩, ?_⟩
        · rw [h1, h3]
          exact HP.out
        · rw [h3]
          exact HW.out
      | cons nd rest =>
        obtain ⟨kd, fr, ix, kids⟩ := nd
        have hlt : p.length < l.length := by rw [HE.out, List.length_append]; simp only [List.length_cons]; omega
        have hkk : 1 ≤ k + mzL p ∧ k + mzL p + 3 + 4 * kids.sz ≤ 16777216 := by
          have := HK2.out
          rw [HE.out, mzL_app] at this
          simp only [mzL] at this
          omega
        obtain ⟨hka, hkb⟩ := hkk
        obtain ⟨-, -, -, c0, c1, c2, ks, rs, hb2e, ⟨sv, c3, hsv⟩, hrest⟩ := hg
        obtain ⟨a5, cap5, rfl⟩ := hsv.val
        have HB2 := hide hb2e
        have HL := hide hsv
        have HR := hide hrest
        have C5 := hide c3
        have hN := Free.lt_cell hfree c3
        clear hb2e hsv hrest
        generalize hK : k + mzL p = K at *
        have HK := hide hK
        clear hK
        have z0 : ∀ o, wr.frozen? ⟨b, o, none⟩ = false := fun o => hfree.frozen
        go_wp2_with fail
        refine (mt_int _ (by omega) (by omega) _).mono ?_
        rintro e w2 ⟨rfl, hb2⟩
        rw [show ((K : Int) + 1).toNat = K + 1 from by omega]
        have f2 := (hfree.setCell ⟨b, p.length * 4, none⟩ (.int .i64 (K : Int))).below hb2
        have z2 : ∀ o, w2.frozen? ⟨b, o, none⟩ = false := fun o => f2.frozen
        obtain ⟨x1, d1⟩ := f2.cell (o := p.length * 4 + 1) (by omega)
        obtain ⟨x2, d2⟩ := f2.cell (o := p.length * 4 + 2) (by omega)
        have l2 := f2.lt
        obtain ⟨M1, M2, M3, M4, M5, M6⟩ := mark_mid4 (s0 := .int .i64 (K : Int)) (s1 := .string (MT (K + 1))) (s2 := .int .i64 ((K : Int) + 1 + 1)) hfree C5.out hb2
        have M9 := (M3 (p.length * 4 + 3) (Or.inr (Nat.le_refl _))).trans C5.out
        have g4 : w2.cell? ⟨b, p.length * 4 + 3, none⟩ = some (.slice a5 kids.len cap5) := by
          have q : ∀ (X : World) (x y : Nat) (u : Value), x ≠ y → (X.setCell ⟨b, x, none⟩ u).cell? ⟨b, y, none⟩ = X.cell? ⟨b, y, none⟩ := fun X x y u h => World.cell?_setCell_other _ _ _ _ (fun e => h (by injection e))
          rw [q _ _ _ _ (by omega), q _ _ _ _ (by omega)] at M9
          exact M9
        have HM := hide (And.intro M1 (And.intro M2 (And.intro M3 (And.intro M4 (And.intro M5 M6)))))
        clear c0 c1 c2 c3 z0 M1 M2 M3 M4 M5 M6 M9
        go_wp2_with fail
        obtain ⟨M1, M2, M3, M4, M5, M6⟩ := HM.out
        have hnd := HND.out
        rw [HBE.out, HB2.out] at hnd
        have nbk : ∀ x, x ∈ ks → x ≠ b := fun x hx e => (List.nodup_cons.1 hnd).1 (by rw [← e]; exact List.mem_append_right _ (List.mem_append_left _ hx))
        have hknd : ks.Nodup := (List.nodup_append.1 (List.nodup_append.1 (List.nodup_cons.1 hnd).2).2.1).1
        have hlk := HL.out.lt
        have howC := HL.out.same (fun x hx => M1.block x (hlk x hx) (by simpa using nbk x hx))
        rw [show (K : Int) + 1 + 1 + 1 = ((K + 3 : Nat) : Int) from by omega]
        refine (mark_slice_lt _ kids (Nat.lt_succ_self _) _ _ ks (K + 3) howC hknd (by omega) (by omega)).mono ?_
        rintro e w4 ⟨rfl, how4, hw4⟩
        have hstep : MkRelL w b N l bs' k (.int .i64 ((K + 3 + 4 * kids.sz : Nat) : Int)) (.int .i64 ((p.length + 1 : Nat) : Int)) w4 := by
          rw [HBE.out, HB2.out, HE.out]
          have hK := HK.out
          subst hK
          have hk3 := HK2.out
          rw [HE.out] at hk3
          exact mark_stepL hk3 hnd HP.out HR.out hfree HW.out M1 M2 M3 C5.out M4 M5 M6 how4 hw4
        have HST := hide hstep
        clear hstep M1 M2 M3 M4 M5 M6 howC how4 hw4 hnd nbk hknd hlk
        go_wp2_with fail
        refine ⟨?_, by simp [intOf]; omega⟩
        have h := HST.out
        rw [show ((K + 3 + 4 * kids.sz : Nat) : Int) = (K : Int) + 3 + 4 * (kids.sz : Int) from by omega, show ((p.length + 1 : Nat) : Int) = (p.length : Int) + 1 from by omega] at h
        exact h

/-! ### Rows of strings -/

def mkQ : List ByteArray → Nat → List ByteArray
  | [], _ => []
  | _ :: r, m => MT m :: mkQ r (m + 1)
theorem mkQ_len : ∀ (l : List ByteArray) (m : Nat), (mkQ l m).length = l.length
  | [], _ => rfl
  | _ :: r, m => by simp only [mkQ, List.length_cons, mkQ_len r]
theorem mkQ_app (g : List ByteArray) : ∀ (l : List ByteArray) (m : Nat), mkQ (l ++ g) m = mkQ l m ++ mkQ g (m + l.length)
  | [], m => by simp [mkQ]
  | _ :: r, m => by
    simp only [List.cons_append, mkQ, mkQ_app g r, List.length_cons]
    rw [show m + 1 + r.length = m + (r.length + 1) by omega]
theorem mkQ_nil {l : List ByteArray} (m : Nat) (h : mkQ l m = []) : l = [] := by
  cases l with
  | nil => rfl
  | cons => simp [mkQ] at h

def MkPostQ (l : List ByteArray) (v : Value) (bs : List Nat) (k : Nat) (w : World) (e : Ending) (w' : World) : Prop :=
  e = .returned (.int .i64 ((k + l.length : Nat) : Int)) ∧ OwG elS w' v (mkQ l k) bs ∧ Wr bs w w'
def MkRelQ (w : World) (b n : Nat) (l : List ByteArray) (k : Nat) (kv iv : Value) (wr : World) : Prop :=
  ∃ p g, l = p ++ g ∧ kv = .int .i64 ((k + p.length : Nat) : Int) ∧ iv = .int .i64 (p.length : Nat) ∧ RowG elS wr b 0 (mkQ p k) ∧ RowG elS wr b p.length g ∧ Free wr b n ∧ Wr [b] w wr
theorem mark_stepQ {w wr w2 : World} {b n k : Nat} {p rest : List ByteArray} {s : ByteArray} (hk : k + (p ++ s :: rest).length ≤ 16777216) (hp : RowG elS wr b 0 (mkQ p k)) (hrest : RowG elS wr b (p.length + 1) rest)
    (hfree : Free wr b n) (hw : Wr [b] w wr) (hb : Below wr.heap.size wr w2) (hN : p.length < n) :
    MkRelQ w b n (p ++ s :: rest) k (.int .i64 ((k + p.length + 1 : Nat) : Int)) (.int .i64 ((p.length + 1 : Nat) : Int)) (w2.setCell ⟨b, p.length, none⟩ (.string (MT (k + p.length)))) := by
  have hl : k + p.length + 1 ≤ 16777216 := by rw [List.length_append] at hk; simp only [List.length_cons] at hk; omega
  have f2 := hfree.below hb
  have f3 := f2.setCell ⟨b, p.length, none⟩ (.string (MT (k + p.length)))
  have st := Still.of_below hb
  have hlt := hfree.lt
  obtain ⟨cs, t, hh, hn⟩ := f2
  have key : (w2.setCell ⟨b, p.length, none⟩ (.string (MT (k + p.length)))).heap[b]? = some (.cells (cs.setIfInBounds p.length (.string (MT (k + p.length)))) t (0, 0)) := heap_setCell_same hh _
  have oth : ∀ off, off ≠ p.length → (w2.setCell ⟨b, p.length, none⟩ (.string (MT (k + p.length)))).cell? ⟨b, off, none⟩ = w2.cell? ⟨b, off, none⟩ := fun off h => by
    rw [cell_of_heap key, cell_of_heap hh, Array.getElem?_setIfInBounds, if_neg (by omega)]
  refine ⟨p ++ [s], rest, by simp, by simp [Nat.add_assoc], by simp, ?_, ?_, f3, (hw.trans (Wr.of_below hb)).setCell (by simp) _⟩
  · rw [mkQ_app]
    refine RowG.app ((hp.still st).flat elS_flat (fun i hi => ?_)) ⟨⟨MT_size _ (by omega), ?_⟩, trivial⟩
    · rw [mkQ_len] at hi
      have hi' : i < p.length := by simpa [elS] using hi
      exact oth _ (by omega)
    · rw [mkQ_len, cell_of_heap key, Array.getElem?_setIfInBounds]
      simp [elS, hn, hN]
  · rw [List.length_append, List.length_singleton]
    refine (hrest.still st).flat elS_flat (fun i hi => oth _ (by omega))

set_option maxHeartbeats 1000000 in
/-- markStringS. -/
theorem markQ (l : List ByteArray) (w : World) (v : Value) (bs : List Nat) (k : Nat) (how : OwG elS w v l bs) (hk1 : 1 ≤ k) (hk2 : k + l.length ≤ 16777216) :
    Calls Tryz.prog 58 #[v, .int .i64 (k : Int)] w (MkPostQ l v bs k w) := by
  obtain ⟨a, cap, rfl, hlc, hcm, hs⟩ := how
  have hfl : l.length ≤ maxLen := Nat.le_trans hlc hcm
  unfold maxLen at hfl
  rcases hs with ⟨rfl, rfl⟩ | ⟨b, N, rfl, rfl, hfree, hne, hrow⟩
  · change Calls Tryz.prog 58 #[.slice a 0 cap, .int .i64 (k : Int)] w _
    have HLC := hide hlc
    have HCM := hide hcm
    clear hlc hcm hfl
    go_enter Tryz.func58, Tryz.ntmps58
    go_wp2_with fail
    go_loopw [1, 5] (fun kv iv wr => kv = .int .i64 (k : Int) ∧ iv = .int .i64 0 ∧ wr = w) (fun _ _ _ => 0)
    case atStart => exact ⟨rfl, rfl, rfl⟩
    case round =>
      obtain ⟨rfl, rfl, rfl⟩ := hrel
      go_wp2_with fail
      go_ret
      exact ⟨rfl, ⟨a, cap, rfl, HLC.out, HCM.out, Or.inl ⟨rfl, rfl⟩⟩, Wr.refl _ _⟩
  · have HROW := hide hrow
    have HFR := hide hfree
    have HNE := hide hne
    have HK2 := hide hk2
    have HLC := hide hlc
    have HCM := hide hcm
    have hbw := hfree.lt
    clear hrow hfree hne hk2 hlc hcm
    go_enter Tryz.func58, Tryz.ntmps58
    go_wp2_with fail
    go_loopw [1, 5] (fun kv iv wr => MkRelQ w b N l k kv iv wr) (fun _ iv _ => l.length - (intOf iv).toNat)
    case atStart => exact ⟨[], l, rfl, rfl, rfl, trivial, HROW.out, HFR.out, Wr.refl _ _⟩
    case round =>
      obtain ⟨p, g, hfe, rfl, rfl, hp, hg, hfree, hw⟩ := hrel
      have HE := hide hfe
      have HP := hide hp
      have HW := hide hw
      have hbr := hfree.lt
      clear hfe hp hw
      cases g with
      | nil =>
        have hge : l.length ≤ p.length := by rw [HE.out, List.append_nil]; exact Nat.le_refl _
        clear hg
        go_wp2_with fail
        go_ret
        have h1 := HE.out
        rw [List.append_nil] at h1
        refine ⟨ret_int (by rw [h1]), ⟨some ⟨b, 0, none⟩, cap, by rw [mkQ_len], by rw [mkQ_len]; exact HLC.out, HCM.out, Or.inr ⟨b, N, rfl, rfl, hfree, fun h => HNE.out (mkQ_nil k h), ?_⟩⟩, HW.out⟩
        rw [h1]
        exact HP.out
      | cons s rest =>
        have hlt : p.length < l.length := by rw [HE.out, List.length_append]; simp only [List.length_cons]; omega
        have hkk : 1 ≤ k + p.length ∧ k + p.length + 1 ≤ 16777216 := by
          have := HK2.out
          omega
        obtain ⟨hka, hkb⟩ := hkk
        obtain ⟨⟨-, c0⟩, hrest⟩ := hg
        have HR := hide hrest
        have hN := Free.lt_cell hfree c0
        clear hrest
        generalize hK : k + p.length = K at *
        have HK := hide hK
        clear hK
        go_wp2_with fail
        refine (mt_int _ (by omega) (by omega) _).mono ?_
        rintro e w2 ⟨rfl, hb2⟩
        rw [show ((K : Int)).toNat = K from by omega]
        have f2 := hfree.below hb2
        have z2 : ∀ o, w2.frozen? ⟨b, o, none⟩ = false := fun o => f2.frozen
        obtain ⟨x1, d1⟩ := f2.cell (o := p.length) (by omega)
        have l2 := f2.lt
        have hstep : MkRelQ w b N l k (.int .i64 ((K + 1 : Nat) : Int)) (.int .i64 ((p.length + 1 : Nat) : Int)) (w2.setCell ⟨b, p.length, none⟩ (.string (MT K))) := by
          rw [HE.out]
          have hK := HK.out
          subst hK
          have hk3 := HK2.out
          rw [HE.out] at hk3
          exact mark_stepQ hk3 HP.out HR.out hfree HW.out hb2 hN
        have HST := hide hstep
        clear hstep c0
        go_wp2_with fail
        refine ⟨?_, by simp [intOf]; omega⟩
        have h := HST.out
        rw [show ((K + 1 : Nat) : Int) = (K : Int) + 1 from by omega, show ((p.length + 1 : Nat) : Int) = (p.length : Int) + 1 from by omega] at h
        exact h

set_option maxHeartbeats 400000 in
/-- markNetwork. -/
theorem markNet (w : World) (u v : Value) (l : List Nd) (q : List ByteArray) (bs cs : List Nat) (m : Nat) (ol : OwS w u l bs) (oq : OwG elS w v q cs) (hnd : (bs ++ cs).Nodup) (hm1 : 1 ≤ m) (hm2 : m + mzL l + q.length ≤ 16777216) :
    Calls Tryz.prog 29 #[.agg #[u, v], .int .i64 (m : Int)] w
      fun e w' => e = .returned (.int .i64 ((m + mzL l + q.length : Nat) : Int)) ∧ OwS w' u (mkL l m) bs ∧ OwG elS w' v (mkQ q (m + mzL l)) cs ∧ Wr (bs ++ cs) w w' := by
  obtain ⟨ua, uc, rfl⟩ := ol.val
  obtain ⟨va, vc, rfl⟩ := oq.val
  obtain ⟨n1, n2, n3⟩ := List.nodup_append.1 hnd
  have hb := alloc_below w (.cells #[.slice ua l.length uc, .slice va q.length vc] ( /- t -/ 52))
  have HO := hide (ol.same (Same.of_below hb ol.lt))
  have HQ := hide (oq.same elS_flat (Same.of_below hb oq.lt))
  have HX := hide (Box2.now w (.slice ua l.length uc) (.slice va q.length vc) ( /- t -/ 52))
  have HLB := hide (show ∀ x, x ∈ bs → x < w.heap.size from ol.lt)
  have HLC := hide (show ∀ x, x ∈ cs → x < w.heap.size from oq.lt)
  have HB := hide hb
  have HN := hide n1
  have HD := hide n3
  clear ol oq hb n1 n3
  go_enter Tryz.func29, Tryz.ntmps29
  go_wp2_with fail
  refine (markL l _ _ bs m HO.out HN.out hm1 (by omega)).mono ?_
  rintro e w1 ⟨rfl, ol1, hw1⟩
  have X1 := HX.out.same (hw1.block _ HX.out.lt (fun h => Nat.lt_irrefl _ (HLB.out _ h)))
  have HQ1 := hide (HQ.out.same elS_flat (fun x hx => hw1.block x (HQ.out.lt x hx) (fun h => HD.out x h x hx rfl)))
  have HO1 := hide ol1
  have HW1 := hide ((Wr.of_below HB.out).trans hw1)
  obtain ⟨x0, x1⟩ := X1.cells
  have xl := X1.lt
  clear ol1 hw1 X1
  go_wp2_with fail
  refine (markQ q _ _ cs (m + mzL l) HQ1.out (by omega) (by omega)).mono ?_
  rintro e w2 ⟨rfl, oq2, hw2⟩
  have HO2 := hide (HO1.out.same (fun x hx => hw2.block x (HO1.out.lt x hx) (fun h => HD.out x hx x h rfl)))
  have HQ2 := hide oq2
  have HW2 := hide ((HW1.out.mono (fun x hx => List.mem_append_left cs hx)).trans (hw2.mono (fun x hx => List.mem_append_right bs hx)))
  clear oq2 hw2 x0 x1
  go_wp2_with fail
  go_ret
  exact ⟨rfl, HO2.out, HQ2.out, HW2.out⟩
end Go.Proofs.YtmkjipnemapdeaaGreatDoor.Lo.Ne

/- heldLocalS, heldStringS, heldNetwork: at a network that bears the marks they count them. -/
namespace Go.Proofs.YtmkjipnemapdeaaGreatDoor.Lo.Ne
open Go.RowKit

set_option maxHeartbeats 1000000 in
set_option maxRecDepth 100000 in
/-- heldLocalS. -/
theorem heldL (l : List Nd) (w : World) (v : Value) (k : Nat) (hs : SlG elL w v (mkL l k)) (hk1 : 1 ≤ k) (hk2 : k + mzL l ≤ 16777216) :
    Calls Tryz.prog 59 #[v, .int .i64 (k : Int)] w fun e w' => e = .returned (.int .i64 ((k + mzL l : Nat) : Int)) ∧ Below w.heap.size w w' := by
  obtain ⟨a, cap, rfl, hlen, hat⟩ := hs.at
  rw [mkL_len] at hlen ⊢
  unfold maxLen at hlen
  have HA := hide hat
  have HK2 := hide hk2
  clear hs hat hk2
  go_enter Tryz.func59, Tryz.ntmps59
  go_wp2_with fail
  go_loopw [1, 5] (fun kv iv wr => ∃ (g : List Nd) (j kc : Nat), j + g.length = l.length ∧ kv = .int .i64 (kc : Int) ∧ iv = .int .i64 (j : Int) ∧ kc + mzL g = k + mzL l ∧ 1 ≤ kc ∧ AtG elL w a j (mkL g kc) ∧ Below w.heap.size w wr) (fun _ iv _ => l.length - (intOf iv).toNat)
  case atStart => exact ⟨l, 0, k, by omega, rfl, rfl, rfl, hk1, HA.out, Below.refl _ _⟩
  case round =>
    obtain ⟨g, j, kc, hj, rfl, rfl, hsum, hkc, hg, hb⟩ := hrel
    have HS := hide hsum
    cases g with
    | nil =>
      have H5 : Hid (j = l.length) := by unfold Hid; simpa using hj
      have hge : l.length ≤ j := Nat.le_of_eq H5.out.symm
      clear hj hsum
      go_wp2_with fail
      go_ret
      refine ⟨ret_int ?_, hb⟩
      have := HS.out
      simp only [mzL] at this
      omega
    | cons nd rest =>
      obtain ⟨kd, fr, ix, kids⟩ := nd
      have HJ : Hid (j + 1 + rest.length = l.length) := by unfold Hid; simp only [List.length_cons] at hj; omega
      have hlt : j < l.length := by have := HJ.out; omega
      have hz : kc + 3 + 4 * kids.sz + mzL rest = k + mzL l := by simp only [mzL] at hsum; omega
      have HZ := hide hz
      have hkb : kc + 3 + 4 * kids.sz ≤ 16777216 := by have := HK2.out; omega
      have hkb5 : kc + 3 ≤ 16777216 := by omega
      have hg2 : AtG elL w a j (⟨((kc : Nat) : Int), MT (kc + 1), (((kc + 2 : Nat) : Int)), mkF kids (kc + 3)⟩ :: mkL rest (kc + 3 + 4 * kids.sz)) := hg
      obtain ⟨b, o, rfl, -, -, -, c0, c1, c2, sv, c3, hsv⟩ := AtL.head (hg2.still (Still.of_below hb))
      rw [show ((kc + 2 : Nat) : Int) = (kc : Int) + 1 + 1 from by omega] at c2
      have HSV := hide hsv
      have HRE := hide hg2.tail
      clear hj hsum hz hg hg2 hsv
      go_wp2_with fail
      go_region_held3 (fun w' => w'.cell? ⟨b, o + j * 4 + 1, none⟩ = some (.string (MT (kc + 1))))
        (first | exact c1 | exact d1)
        ((first | (go_at_call 56; refine (mt_int _ (by omega) (by omega) _).mono ?_; (rintro e w1 ⟨rfl, hb1⟩); (rw [show ((kc : Int) + 1).toNat = kc + 1 from by omega]); (have d1 := (Still.of_below hb1) _ _ c1))))
      have hbb1 : Below w.heap.size w w1 := hb.drew.trans (hb1.mono hb.size)
      have st1 : Still wr w1 := fun p v h => Still.of_below hb1 p v h
      have e2 := st1 _ _ c2
      have e3 := st1 _ _ c3
      have HSV1 := hide (HSV.out.still st1)
      clear c0 c1 c2 c3 d1 st1 hb1 hb HSV
      go_wp2_with fail
      rw [show (kc : Int) + 1 + 1 + 1 = ((kc + 3 : Nat) : Int) from by omega]
      refine (held_slice_lt _ kids (Nat.lt_succ_self _) _ _ (kc + 3) HSV1.out (by omega) (by omega)).mono ?_
      rintro e w4 ⟨rfl, hb4⟩
      have hbb4 : Below w.heap.size w w4 := hbb1.trans (hb4.mono hbb1.size)
      clear hb4 hbb1 HSV1
      generalize hQ : kc + 3 + 4 * kids.sz = Q at *
      have HQ := hide hQ
      clear hQ
      go_wp2_with fail
      refine ⟨⟨rest, j + 1, Q, by have := HJ.out; omega, rfl, by go_num, HZ.out, by have := HQ.out; omega, HRE.out, hbb4⟩, by simp [intOf]; omega⟩

set_option maxHeartbeats 1000000 in
set_option maxRecDepth 100000 in
/-- heldStringS. -/
theorem heldQ (l : List ByteArray) (w : World) (v : Value) (k : Nat) (hs : SlG elS w v (mkQ l k)) (hk1 : 1 ≤ k) (hk2 : k + l.length ≤ 16777216) :
    Calls Tryz.prog 60 #[v, .int .i64 (k : Int)] w fun e w' => e = .returned (.int .i64 ((k + l.length : Nat) : Int)) ∧ Below w.heap.size w w' := by
  obtain ⟨a, cap, rfl, hlen, hat⟩ := hs.at
  rw [mkQ_len] at hlen ⊢
  unfold maxLen at hlen
  have HA := hide hat
  have HK2 := hide hk2
  clear hs hat hk2
  go_enter Tryz.func60, Tryz.ntmps60
  go_wp2_with fail
  go_loopw [1, 5] (fun kv iv wr => ∃ (g : List ByteArray) (j kc : Nat), j + g.length = l.length ∧ kv = .int .i64 (kc : Int) ∧ iv = .int .i64 (j : Int) ∧ kc + g.length = k + l.length ∧ 1 ≤ kc ∧ AtG elS w a j (mkQ g kc) ∧ Below w.heap.size w wr) (fun _ iv _ => l.length - (intOf iv).toNat)
  case atStart => exact ⟨l, 0, k, by omega, rfl, rfl, rfl, hk1, HA.out, Below.refl _ _⟩
  case round =>
    obtain ⟨g, j, kc, hj, rfl, rfl, hsum, hkc, hg, hb⟩ := hrel
    have HS := hide hsum
    cases g with
    | nil =>
      have H5 : Hid (j = l.length) := by unfold Hid; simpa using hj
      have hge : l.length ≤ j := Nat.le_of_eq H5.out.symm
      clear hj hsum
      go_wp2_with fail
      go_ret
      refine ⟨ret_int ?_, hb⟩
      have := HS.out
      simp only [List.length_nil] at this
      omega
    | cons s rest =>
      have HJ : Hid (j + 1 + rest.length = l.length) := by unfold Hid; simp only [List.length_cons] at hj; omega
      have hlt : j < l.length := by have := HJ.out; omega
      have HZ : Hid (kc + 1 + rest.length = k + l.length) := by unfold Hid; simp only [List.length_cons] at hsum; omega
      have hkb : kc + 1 ≤ 16777216 := by have := HK2.out; have := HZ.out; omega
      have hg2 : AtG elS w a j (MT kc :: mkQ rest (kc + 1)) := hg
      obtain ⟨b, o, rfl, -, c0⟩ := AtS.head (hg2.still (Still.of_below hb))
      have HRE := hide hg2.tail
      clear hj hsum hg hg2
      go_wp2_with fail
      go_region_held3 (fun w' => w'.cell? ⟨b, o + j, none⟩ = some (.string (MT kc)))
        (first | exact c0 | exact d0)
        ((first | (go_at_call 56; refine (mt_int _ (by omega) (by omega) _).mono ?_; (rintro e w1 ⟨rfl, hb1⟩); (rw [show ((kc : Int)).toNat = kc from by omega]); (have d0 := (Still.of_below hb1) _ _ c0))))
      have hbb1 : Below w.heap.size w w1 := hb.drew.trans (hb1.mono hb.size)
      clear c0 d0 hb1 hb
      go_wp2_with fail
      refine ⟨⟨rest, j + 1, kc + 1, by have := HJ.out; omega, by go_num, by go_num, HZ.out, by omega, HRE.out, hbb1⟩, by simp [intOf]; omega⟩

set_option maxHeartbeats 400000 in
/-- heldNetwork. -/
theorem heldNet (w : World) (u v : Value) (l : List Nd) (q : List ByteArray) (m : Nat) (hl : SlG elL w u (mkL l m)) (hq : SlG elS w v (mkQ q (m + mzL l))) (hm1 : 1 ≤ m) (hm2 : m + mzL l + q.length ≤ 16777216) :
    Calls Tryz.prog 30 #[.agg #[u, v], .int .i64 (m : Int)] w
      fun e w' => e = .returned (.int .i64 ((m + mzL l + q.length : Nat) : Int)) ∧ Below w.heap.size w w' := by
  obtain ⟨ua, uc, rfl, -, -⟩ := hl.at
  obtain ⟨va, vc, rfl, -, -⟩ := hq.at
  have hb := alloc_below w (.cells #[.slice ua (mkL l m).length uc, .slice va (mkQ q (m + mzL l)).length vc] ( /- t -/ 52))
  have HL := hide (hl.still (Still.of_below hb))
  have HQ := hide (hq.still (Still.of_below hb))
  have HX := hide (Box2.now w (.slice ua (mkL l m).length uc) (.slice va (mkQ q (m + mzL l)).length vc) ( /- t -/ 52))
  have HB := hide hb
  clear hl hq hb
  go_enter Tryz.func30, Tryz.ntmps30
  go_wp2_with fail
  refine (heldL l _ _ m HL.out hm1 (by omega)).mono ?_
  rintro e w1 ⟨rfl, hb1⟩
  have X1 := HX.out.below hb1
  have HQ1 := hide (HQ.out.still (Still.of_below hb1))
  have HB1 := hide (HB.out.trans (hb1.mono HB.out.size))
  obtain ⟨x0, x1⟩ := X1.cells
  have xl := X1.lt
  obtain ⟨K, hK, hK0⟩ : ∃ K : Int, K = ((m + mzL l : Nat) : Int) ∧ 0 ≤ K := ⟨_, rfl, by omega⟩
  have HK := hide hK
  rw [← hK]
  clear hb1 X1 hK
  go_wp2_with fail
  rw [HK.out]
  refine (heldQ q _ _ (m + mzL l) HQ1.out (by omega) (by omega)).mono ?_
  rintro e w2 ⟨rfl, hb2⟩
  have HB2 := hide (HB1.out.trans (hb2.mono HB1.out.size))
  obtain ⟨L, hL, hL0⟩ : ∃ L : Int, L = ((m + mzL l + q.length : Nat) : Int) ∧ 0 ≤ L := ⟨_, rfl, by omega⟩
  have HLL := hide hL
  rw [← hL]
  clear hb2 hL x0 x1 xl
  go_wp2_with fail
  go_ret
  exact ⟨by rw [← HLL.out]; rfl, HB2.out⟩
end Go.Proofs.YtmkjipnemapdeaaGreatDoor.Lo.Ne

/- szLocal. -/
namespace Go.Proofs.YtmkjipnemapdeaaGreatDoor.Lo
open Go.RowKit

/-- The number that is left, or -1. -/
def left0 (l : Int) (n : Nat) : Int := if l < n then -1 else l - n

/-- What szLocalBranchS is for: a slice. -/
def SzS (f : F) : Prop := ∀ (w : World) (v : Value) (left : Int), Sl w v f → 0 ≤ left → left ≤ 1048576 →
  Calls Tryz.prog 61 #[v, .int .i64 left] w fun e w' => e = .returned (.int .i64 (left0 left (f.len + f.wt))) ∧ Below w.heap.size w w'

set_option maxHeartbeats 400000 in
theorem sz_node (kids : F) (hk : SzS kids) (w : World) (k ix : Int) (fr : ByteArray) (sv : Value) (left : Int) (hs : Sl w sv kids) (hl0 : 0 ≤ left) (hl1 : left ≤ 1048576)
    (hfr : fr.size ≤ maxLen) :
    Calls Tryz.prog 31 #[.agg #[.int .i64 k, .string fr, .int .i64 ix, sv], .int .i64 left] w
      fun e w' => e = .returned (.int .i64 (left0 left (fr.size + (kids.len + kids.wt)))) ∧ Below w.heap.size w w' := by
  unfold maxLen at hfr
  have HS := hide hs
  clear hs
  go_enter Tryz.func31, Tryz.ntmps31
  go_wp2_with fail
  · go_ret
    exact ⟨ret_int (by unfold left0; rw [if_pos (by omega)]), alloc_below _ _⟩
  · have h1 : 0 ≤ left - fr.size := by assumption
    refine (hk _ _ _ (HS.out.still (Still.of_below (alloc_below _ _))) h1 (by omega)).mono ?_
    rintro e w1 ⟨rfl, hb⟩
    obtain ⟨r, hr⟩ : ∃ r, r = left0 (left - fr.size) (kids.len + kids.wt) := ⟨_, rfl⟩
    have HR := hide hr
    rw [← hr]
    clear hr
    go_wp2_with fail
    · go_ret
      refine ⟨ret_int ?_, alloc_then hb⟩
      have := HR.out
      unfold left0 at *
      split at this <;> (try split) <;> omega
    · go_ret
      refine ⟨ret_int ?_, alloc_then hb⟩
      have := HR.out
      unfold left0 at *
      split at this <;> (try split) <;> omega

set_option maxHeartbeats 400000 in
theorem sz_branch (kids : F) (hk : SzS kids) (w : World) (lab : ByteArray) (k ix : Int) (fr : ByteArray) (sv : Value) (left : Int) (hs : Sl w sv kids) (hl0 : 0 ≤ left) (hl1 : left ≤ 1048576)
    (hlab : lab.size ≤ maxLen) (hfr : fr.size ≤ maxLen) :
    Calls Tryz.prog 80 #[.agg #[.string lab, .int .i64 k, .string fr, .int .i64 ix, sv], .int .i64 left] w
      fun e w' => e = .returned (.int .i64 (left0 left (lab.size + (fr.size + (kids.len + kids.wt))))) ∧ Below w.heap.size w w' := by
  have HS := hide hs
  have h2 := hide hfr
  clear hs hfr
  unfold maxLen at hlab
  go_enter Tryz.func80, Tryz.ntmps80
  go_wp2_with fail
  · go_ret
    exact ⟨ret_int (by unfold left0; rw [if_pos (by omega)]), alloc_below _ _⟩
  · have h1 : 0 ≤ left - lab.size := by assumption
    refine (sz_node kids hk _ k ix fr sv _ (HS.out.still (Still.of_below (alloc_below _ _))) h1 (by omega) h2.out).mono ?_
    rintro e w1 ⟨rfl, hb⟩
    obtain ⟨r, hr⟩ : ∃ r, r = left0 (left - lab.size) (fr.size + (kids.len + kids.wt)) := ⟨_, rfl⟩
    have HR := hide hr
    rw [← hr]
    clear hr
    go_wp2_with fail
    · go_ret
      refine ⟨ret_int ?_, alloc_then hb⟩
      have := HR.out
      unfold left0 at *
      split at this <;> (try split) <;> omega
    · go_ret
      refine ⟨ret_int ?_, alloc_then hb⟩
      have := HR.out
      unfold left0 at *
      split at this <;> (try split) <;> omega

set_option maxHeartbeats 800000 in
theorem sz_slice_lt : ∀ (n : Nat) (f : F), f.sz < n → SzS f := by
  intro n
  induction n with
  | zero => intro f hf; omega
  | succ n ih => 
    intro f hf w v left hs hl0 hl1
    obtain ⟨a, cap, rfl, hlen, hat⟩ := hs.at
    have HA := hide hat
    clear hs hat
    unfold maxLen at hlen
    go_enter Tryz.func61, Tryz.ntmps61
    go_wp2_with fail
    · have h1 : left - f.len < 0 := by assumption
      go_ret
      exact ⟨ret_int (by unfold left0; rw [if_pos (by omega)]), Below.refl _ _⟩
    · have h1 : 0 ≤ left - f.len := by assumption
      go_loopw [1, 5] (fun lv iv wr => ∃ (g : F) (k : Nat) (l : Int), k + g.len = f.len ∧ lv = .int .i64 l ∧ iv = .int .i64 k ∧ 0 ≤ l ∧ l ≤ 1048576 ∧ left0 l g.wt = left0 left (f.len + f.wt) ∧ g.sz ≤ f.sz ∧ At w a k g ∧ Below w.heap.size w wr) (fun _ iv _ => f.len - (intOf iv).toNat)
      case atStart => 
        refine ⟨f, 0, left - f.len, by omega, rfl, rfl, by omega, by omega, ?_, Nat.le_refl _, HA.out, Below.refl _ _⟩
        unfold left0
        split <;> split <;> omega
      case round =>
        obtain ⟨g, k, l, hk, rfl, rfl, h2, h3, h4, h5, h6, hb⟩ := hrel
        have H4 := hide h4
        clear h4
        cases g with
        | nil =>
          have H5 : Hid (k = f.len) := by unfold Hid; simpa [F.len] using hk
          have hge : f.len ≤ k := Nat.le_of_eq H5.out.symm
          clear hk
          go_wp2_with fail
          go_ret
          refine ⟨ret_int ?_, hb⟩
          have := H4.out
          simp only [F.wt] at this
          rw [← this]
          unfold left0
          rw [if_neg (by omega)]
          omega
        | cons lab kd fr ix kids rest =>
          have HK : Hid (k + 1 + rest.len = f.len) := by unfold Hid; simp only [F.len] at hk; omega
          have hlt : k < f.len := by have := HK.out; omega
          have hz : kids.sz < n ∧ rest.sz ≤ f.sz := by simp only [F.sz] at h5; omega
          have HZ := hide hz
          obtain ⟨b, o, rfl, l1, l2, _, _, c0, c1, c2, c3, ⟨sv, c4, hsv⟩, _⟩ := (h6.still (Still.of_below hb)).head
          have HSV := hide hsv
          have HRE := hide h6.tail
          clear hk h5 h6 hz hsv
          go_wp2_with fail
          refine (sz_branch kids (ih kids HZ.out.1) _ lab kd ix fr sv l HSV.out h2 h3 l1 l2).mono ?_
          rintro e w1 ⟨rfl, hb1⟩
          obtain ⟨r, hr⟩ : ∃ r, r = left0 l (lab.size + (fr.size + (kids.len + kids.wt))) := ⟨_, rfl⟩
          have HR := hide hr
          rw [← hr]
          clear hr
          have hb2 : Below w.heap.size w w1 := hb.trans (hb1.mono hb.size)
          go_wp2_with fail
          · go_ret
            refine ⟨ret_int ?_, hb2⟩
            have := HR.out
            have h4 := H4.out
            simp only [F.wt] at h4
            rw [← h4]
            unfold left0 at *
            split at this <;> (try split) <;> omega
          · have h7 : 0 ≤ r := by assumption
            go_roundw
            case rel =>
              refine ⟨rest, k + 1, r, by have := HK.out; omega, rfl, by go_num, h7, ?_, ?_, HZ.out.2, HRE.out, hb2⟩
              · have := HR.out
                unfold left0 at this
                split at this <;> omega
              · have := HR.out
                have h4 := H4.out
                simp only [F.wt] at h4
                rw [← h4]
                unfold left0 at *
                split at this <;> (try split) <;> (try split) <;> omega
            case measure => simp [intOf]; omega

/-- szLocal. -/
theorem sz_calls (kids : F) (w : World) (k ix : Int) (fr : ByteArray) (sv : Value) (left : Int) (hs : Sl w sv kids) (hl0 : 0 ≤ left) (hl1 : left ≤ 1048576)
    (hfr : fr.size ≤ maxLen) :
    Calls Tryz.prog 31 #[.agg #[.int .i64 k, .string fr, .int .i64 ix, sv], .int .i64 left] w
      fun e w' => e = .returned (.int .i64 (left0 left (fr.size + (kids.len + kids.wt)))) ∧ Below w.heap.size w w' :=
  sz_node kids (sz_slice_lt _ kids (Nat.lt_succ_self _)) w k ix fr sv left hs hl0 hl1 hfr

end Go.Proofs.YtmkjipnemapdeaaGreatDoor.Lo

/- szNetwork and what it is made of. -/
namespace Go.Proofs.YtmkjipnemapdeaaGreatDoor.Lo.Ne
open Go.RowKit

set_option maxHeartbeats 800000 in
theorem szL (l : List Nd) (w : World) (v : Value) (left : Int) (hs : SlG elL w v l) (hl0 : 0 ≤ left) (hl1 : left ≤ 1048576) :
    Calls Tryz.prog 23 #[v, .int .i64 left] w fun e w' => e = .returned (.int .i64 (left0 left (l.length + wtL l))) ∧ Below w.heap.size w w' := by
  obtain ⟨a, cap, rfl, hlen, hat⟩ := hs.at
  have HA := hide hat
  clear hs hat
  unfold maxLen at hlen
  go_enter Tryz.func23, Tryz.ntmps23
  go_wp2_with fail
  · have h1 : left - l.length < 0 := by assumption
    go_ret
    exact ⟨ret_int (by unfold left0; rw [if_pos (by omega)]), Below.refl _ _⟩
  · have h1 : 0 ≤ left - l.length := by assumption
    go_loopw [1, 5] (fun lv iv wr => ∃ (g : List Nd) (k : Nat) (m : Int), k + g.length = l.length ∧ lv = .int .i64 m ∧ iv = .int .i64 k ∧ 0 ≤ m ∧ m ≤ 1048576 ∧ left0 m (wtL g) = left0 left (l.length + wtL l) ∧ AtG elL w a k g ∧ Below w.heap.size w wr) (fun _ iv _ => l.length - (intOf iv).toNat)
    case atStart =>
      refine ⟨l, 0, left - l.length, by omega, rfl, rfl, by omega, by omega, ?_, HA.out, Below.refl _ _⟩
      unfold left0
      split <;> split <;> omega
    case round =>
      obtain ⟨g, k, m, hk, rfl, rfl, h2, h3, h4, h6, hb⟩ := hrel
      have H4 := hide h4
      clear h4
      cases g with
      | nil =>
        have H5 : Hid (k = l.length) := by unfold Hid; simpa using hk
        have hge : l.length ≤ k := Nat.le_of_eq H5.out.symm
        clear hk
        go_wp2_with fail
        go_ret
        refine ⟨ret_int ?_, hb⟩
        have := H4.out
        simp only [wtL] at this
        rw [← this]
        unfold left0
        rw [if_neg (by omega)]
        omega
      | cons n rest =>
        obtain ⟨kd, fr, ix, kids⟩ := n
        have HK : Hid (k + 1 + rest.length = l.length) := by unfold Hid; simp only [List.length_cons] at hk; omega
        have hlt : k < l.length := by have := HK.out; omega
        obtain ⟨b, o, rfl, l1, -, -, c0, c1, c2, sv, c3, hsv⟩ := AtL.head (h6.still (Still.of_below hb))
        have HSV := hide hsv
        have HRE := hide h6.tail
        clear hk h6 hsv
        go_wp2_with fail
        refine (sz_calls kids wr kd ix fr sv m HSV.out h2 h3 l1).mono ?_
        rintro e w1 ⟨rfl, hb1⟩
        obtain ⟨r, hr⟩ : ∃ r, r = left0 m (fr.size + (kids.len + kids.wt)) := ⟨_, rfl⟩
        have HR := hide hr
        rw [← hr]
        clear hr
        have hb2 : Below w.heap.size w w1 := hb.trans (hb1.mono hb.size)
        go_wp2_with fail
        · go_ret
          refine ⟨ret_int ?_, hb2⟩
          have := HR.out
          have h4 := H4.out
          simp only [wtL, Nd.wt] at h4
          rw [← h4]
          unfold left0 at *
          split at this <;> (try split) <;> omega
        · have h7 : 0 ≤ r := by assumption
          go_roundw
          case rel =>
            refine ⟨rest, k + 1, r, by have := HK.out; omega, rfl, by go_num, h7, ?_, ?_, HRE.out, hb2⟩
            · have := HR.out
              unfold left0 at this
              split at this <;> omega
            · have := HR.out
              have h4 := H4.out
              simp only [wtL, Nd.wt] at h4
              rw [← h4]
              unfold left0 at *
              split at this <;> (try split) <;> (try split) <;> omega
          case measure => simp [intOf]; omega

set_option maxHeartbeats 800000 in
theorem szS (l : List ByteArray) (w : World) (v : Value) (left : Int) (hs : SlG elS w v l) (hl0 : 0 ≤ left) (hl1 : left ≤ 1048576) :
    Calls Tryz.prog 42 #[v, .int .i64 left] w fun e w' => e = .returned (.int .i64 (left0 left (l.length + wtS l))) ∧ w' = w := by
  obtain ⟨a, cap, rfl, hlen, hat⟩ := hs.at
  have HA := hide hat
  clear hs hat
  unfold maxLen at hlen
  go_enter Tryz.func42, Tryz.ntmps42
  go_wp2_with fail
  · have h1 : left - l.length < 0 := by assumption
    go_ret
    exact ⟨ret_int (by unfold left0; rw [if_pos (by omega)]), rfl⟩
  · have h1 : 0 ≤ left - l.length := by assumption
    go_loopw [1, 5] (fun lv iv wr => ∃ (g : List ByteArray) (k : Nat) (m : Int), k + g.length = l.length ∧ lv = .int .i64 m ∧ iv = .int .i64 k ∧ 0 ≤ m ∧ m ≤ 1048576 ∧ left0 m (wtS g) = left0 left (l.length + wtS l) ∧ AtG elS w a k g ∧ wr = w) (fun _ iv _ => l.length - (intOf iv).toNat)
    case atStart =>
      refine ⟨l, 0, left - l.length, by omega, rfl, rfl, by omega, by omega, ?_, HA.out, rfl⟩
      unfold left0
      split <;> split <;> omega
    case round =>
      obtain ⟨g, k, m, hk, rfl, rfl, h2, h3, h4, h6, rfl⟩ := hrel
      have H4 := hide h4
      clear h4
      cases g with
      | nil =>
        have H5 : Hid (k = l.length) := by unfold Hid; simpa using hk
        have hge : l.length ≤ k := Nat.le_of_eq H5.out.symm
        clear hk
        go_wp2_with fail
        go_ret
        refine ⟨ret_int ?_, rfl⟩
        have := H4.out
        simp only [wtS] at this
        rw [← this]
        unfold left0
        rw [if_neg (by omega)]
        omega
      | cons s rest =>
        have HK : Hid (k + 1 + rest.length = l.length) := by unfold Hid; simp only [List.length_cons] at hk; omega
        have hlt : k < l.length := by have := HK.out; omega
        obtain ⟨b, o, rfl, l1, c0⟩ := AtS.head h6
        unfold maxLen at l1
        have HRE := hide h6.tail
        clear hk h6
        go_wp2_with fail
        · have h7 : m - s.size < 0 := by assumption
          go_ret
          refine ⟨ret_int ?_, rfl⟩
          have h4 := H4.out
          simp only [wtS] at h4
          rw [← h4]
          unfold left0 at *
          rw [if_pos (by omega)]
        · have h7 : 0 ≤ m - s.size := by assumption
          go_roundw
          case rel =>
            refine ⟨rest, k + 1, m - s.size, by have := HK.out; omega, rfl, by go_num, h7, by omega, ?_, HRE.out, by first | rfl | trivial⟩
            have h4 := H4.out
            simp only [wtS] at h4
            rw [← h4]
            unfold left0
            split <;> split <;> omega
          case measure => simp [intOf]; omega

set_option maxHeartbeats 800000 in
/-- szNetwork. -/
theorem szNet (w : World) (lv qv : Value) (l : List Nd) (q : List ByteArray) (left : Int) (hl : SlG elL w lv l) (hq : SlG elS w qv q) (hl0 : 0 ≤ left) (hl1 : left ≤ 1048576) :
    Calls Tryz.prog 16 #[.agg #[lv, qv], .int .i64 left] w fun e w' => e = .returned (.int .i64 (left0 left (l.length + wtL l + (q.length + wtS q)))) ∧ Below w.heap.size w w' := by
  obtain ⟨la, lc, rfl, -, -⟩ := hl.at
  obtain ⟨qa, qc, rfl, -, -⟩ := hq.at
  have hb0 := alloc_below w (.cells #[.slice la l.length lc, .slice qa q.length qc] ( /- t -/ 47))
  have HL := hide (hl.still (Still.of_below hb0))
  have HQ := hide (hq.still (Still.of_below hb0))
  clear hl hq
  go_enter Tryz.func16, Tryz.ntmps16
  go_wp2_with fail
  refine (szL l _ _ left HL.out hl0 hl1).mono ?_
  rintro e w1 ⟨rfl, hb⟩
  have hc1' := ((Box2.now w (.slice la l.length lc) (.slice qa q.length qc) ( /- t -/ 47)).below hb).cells.2
  have hlt : w.heap.size < w1.heap.size := World.block_lt_of_cell? _ _ hc1'
  have HQ1 := hide (HQ.out.still (Still.of_below hb))
  have hb2 := alloc_then hb
  obtain ⟨r, hr⟩ : ∃ r, r = left0 left (l.length + wtL l) := ⟨_, rfl⟩
  have HR := hide hr
  rw [← hr]
  clear hr hb hb0
  go_wp2_with fail
  · go_ret
    refine ⟨ret_int ?_, hb2⟩
    have := HR.out
    unfold left0 at *
    split at this <;> (try split) <;> omega
  · have h7 : 0 ≤ r := by assumption
    refine (szS q _ _ r HQ1.out h7 (by have := HR.out; unfold left0 at this; split at this <;> omega)).mono ?_
    rintro e w2 ⟨rfl, rfl⟩
    obtain ⟨r2, hr2⟩ : ∃ r2, r2 = left0 r (q.length + wtS q) := ⟨_, rfl⟩
    have HR2 := hide hr2
    rw [← hr2]
    clear hr2
    go_wp2_with fail
    all_goals
      go_ret
      refine ⟨ret_int ?_, hb2⟩
      have h1 := HR.out
      have h2 := HR2.out
      unfold left0 at *
      split at h1 <;> split at h2 <;> (try split) <;> omega
end Go.Proofs.YtmkjipnemapdeaaGreatDoor.Lo.Ne

/- eqLocal: two values that read alike are equal. -/
namespace Go.Proofs.YtmkjipnemapdeaaGreatDoor.Lo
open Go.RowKit

def EqS (f : F) : Prop := ∀ (w : World) (u v : Value), Sl w u f → Sl w v f → Calls Tryz.prog 68 #[u, v] w fun e w' => e = .returned (.bool true) ∧ Below w.heap.size w w'

set_option maxHeartbeats 400000 in
theorem eq_node (kids : F) (hk : EqS kids) (w : World) (k ix : Int) (fr : ByteArray) (su sv : Value) (hu : Sl w su kids) (hv : Sl w sv kids) :
    Calls Tryz.prog 39 #[.agg #[.int .i64 k, .string fr, .int .i64 ix, su], .agg #[.int .i64 k, .string fr, .int .i64 ix, sv]] w
      fun e w' => e = .returned (.bool true) ∧ Below w.heap.size w w' := by
  have HU := hide hu
  have HV := hide hv
  clear hu hv
  go_enter Tryz.func39, Tryz.ntmps39
  go_wp2_with fail
  have hB := (alloc_below w (.cells #[.int .i64 k, .string fr, .int .i64 ix, su] ( /- t -/ 33))).alloc (by simp) (.cells #[.int .i64 k, .string fr, .int .i64 ix, sv] ( /- t -/ 33))
  refine (hk _ _ _ (HU.out.still (Still.of_below hB)) (HV.out.still (Still.of_below hB))).mono ?_
  rintro e w1 ⟨rfl, hb⟩
  have hb2 := hB.trans (hb.mono (by simp; omega))
  clear hB hb
  go_wp2_with fail
  go_ret
  exact ⟨rfl, hb2⟩

set_option maxHeartbeats 400000 in
theorem eq_branch (kids : F) (hk : EqS kids) (w : World) (lab : ByteArray) (k ix : Int) (fr : ByteArray) (su sv : Value) (hu : Sl w su kids) (hv : Sl w sv kids) :
    Calls Tryz.prog 84 #[.agg #[.string lab, .int .i64 k, .string fr, .int .i64 ix, su], .agg #[.string lab, .int .i64 k, .string fr, .int .i64 ix, sv]] w
      fun e w' => e = .returned (.bool true) ∧ Below w.heap.size w w' := by
  have HU := hide hu
  have HV := hide hv
  clear hu hv
  go_enter Tryz.func84, Tryz.ntmps84
  go_wp2_with fail
  have hB := (alloc_below w (.cells #[.string lab, .int .i64 k, .string fr, .int .i64 ix, su] ( /- t -/ 104))).alloc (by simp) (.cells #[.string lab, .int .i64 k, .string fr, .int .i64 ix, sv] ( /- t -/ 104))
  refine (eq_node kids hk _ k ix fr _ _ (HU.out.still (Still.of_below hB)) (HV.out.still (Still.of_below hB))).mono ?_
  rintro e w1 ⟨rfl, hb⟩
  have hb2 := hB.trans (hb.mono (by simp; omega))
  clear hB hb
  go_wp2_with fail
  go_ret
  exact ⟨rfl, hb2⟩

set_option maxHeartbeats 800000 in
set_option maxRecDepth 100000 in
theorem eq_slice_lt : ∀ (n : Nat) (f : F), f.sz < n → EqS f := by
  intro n
  induction n with
  | zero => intro f hf; omega
  | succ n ih => 
    intro f hf w u v hu hv
    obtain ⟨a, cap, rfl, hlen, hat⟩ := hu.at
    obtain ⟨a', cap', rfl, _, hat'⟩ := hv.at
    have HA := hide hat
    have HA' := hide hat'
    have HF := hide hf
    clear hu hv hat hat' hf
    unfold maxLen at hlen
    go_enter Tryz.func68, Tryz.ntmps68
    go_wp2_with fail
    go_loopw [5] (fun iv wr => ∃ (g : F) (k : Nat), k + g.len = f.len ∧ iv = .int .i64 k ∧ g.sz ≤ f.sz ∧ At w a k g ∧ At w a' k g ∧ Below w.heap.size w wr) (fun iv _ => f.len - (intOf iv).toNat)
    case atStart => exact ⟨f, 0, by omega, rfl, Nat.le_refl _, HA.out, HA'.out, Below.refl _ _⟩
    case round =>
      obtain ⟨g, k, hk, rfl, h5, h6, h7, hb⟩ := hrel
      cases g with
      | nil =>
        have H5 : Hid (k = f.len) := by unfold Hid; simpa [F.len] using hk
        have hge : f.len ≤ k := Nat.le_of_eq H5.out.symm
        clear hk
        go_wp2_with fail
        go_ret
        exact ⟨rfl, hb⟩
      | cons lab kd fr ix kids rest =>
        have HK : Hid (k + 1 + rest.len = f.len) := by unfold Hid; simp only [F.len] at hk; omega
        have hlt : k < f.len := by have := HK.out; omega
        have hz : kids.sz < n ∧ rest.sz ≤ f.sz := by have := HF.out; simp only [F.sz] at h5; omega
        have HZ := hide hz
        obtain ⟨b, o, rfl, l1, l2, _, _, c0, c1, c2, c3, ⟨su, c4, hsu⟩, _⟩ := (h6.still (Still.of_below hb)).head
        obtain ⟨b', o', rfl, _, _, _, _, d0, d1, d2, d3, ⟨sv, d4, hsv⟩, _⟩ := (h7.still (Still.of_below hb)).head
        have HSU := hide hsu
        have HSV := hide hsv
        have HRE := hide h6.tail
        have HRE' := hide h7.tail
        clear hk h5 h6 h7 hz hsu hsv
        go_wp2_with fail
        go_still_tail 8, (by kernel_rfl)
        change wpList _ _ _ _ _ wr.drew
        have hbd : Below w.heap.size w wr.drew := hb.drew
        have hst : Still wr wr.drew := fun _ _ h => h
        have HSU' := hide (HSU.out.still hst)
        have HSV' := hide (HSV.out.still hst)
        clear hst
        generalize wr.drew = w2 at *
        go_wp2_with fail
        refine (eq_branch kids (ih kids HZ.out.1) _ lab kd ix fr su sv HSU'.out HSV'.out).mono ?_
        rintro e w1 ⟨rfl, hb1⟩
        have hb2 : Below w.heap.size w w1 := hbd.trans (hb1.mono hbd.size)
        go_wp2_with fail
        go_roundw
        case rel => exact ⟨rest, k + 1, by have := HK.out; omega, by go_num, HZ.out.2, HRE.out, HRE'.out, hb2⟩
        case measure => simp [intOf]; omega

/-- eqLocal at two values that read alike. -/
theorem eq_calls (kids : F) (w : World) (k ix : Int) (fr : ByteArray) (su sv : Value) (hu : Sl w su kids) (hv : Sl w sv kids) :
    Calls Tryz.prog 39 #[.agg #[.int .i64 k, .string fr, .int .i64 ix, su], .agg #[.int .i64 k, .string fr, .int .i64 ix, sv]] w
      fun e w' => e = .returned (.bool true) ∧ Below w.heap.size w w' :=
  eq_node kids (eq_slice_lt _ kids (Nat.lt_succ_self _)) w k ix fr su sv hu hv

end Go.Proofs.YtmkjipnemapdeaaGreatDoor.Lo

/- eqNetwork and what it is made of: two values that read alike are equal. -/
namespace Go.Proofs.YtmkjipnemapdeaaGreatDoor.Lo.Ne
open Go.RowKit

set_option maxHeartbeats 800000 in
/-- eqStringS. -/
theorem eqS (l : List ByteArray) (w : World) (u v : Value) (hu : SlG elS w u l) (hv : SlG elS w v l) :
    Calls Tryz.prog 50 #[u, v] w fun e w' => e = .returned (.bool true) ∧ Below w.heap.size w w' := by
  obtain ⟨a, cap, rfl, hlen, hat⟩ := hu.at
  obtain ⟨a', cap', rfl, _, hat'⟩ := hv.at
  have HA := hide hat
  have HA' := hide hat'
  clear hu hv hat hat'
  unfold maxLen at hlen
  go_enter Tryz.func50, Tryz.ntmps50
  go_wp2_with fail
  go_loopw [5] (fun iv wr => ∃ (g : List ByteArray) (k : Nat), k + g.length = l.length ∧ iv = .int .i64 k ∧ AtG elS w a k g ∧ AtG elS w a' k g ∧ Below w.heap.size w wr) (fun iv _ => l.length - (intOf iv).toNat)
  case atStart => exact ⟨l, 0, by omega, rfl, HA.out, HA'.out, Below.refl _ _⟩
  case round =>
    obtain ⟨g, k, hk, rfl, h6, h7, hb⟩ := hrel
    cases g with
    | nil =>
      have H5 : Hid (k = l.length) := by unfold Hid; simpa using hk
      have hge : l.length ≤ k := Nat.le_of_eq H5.out.symm
      clear hk
      go_wp2_with fail
      go_ret
      exact ⟨rfl, hb⟩
    | cons s rest =>
      have HK : Hid (k + 1 + rest.length = l.length) := by unfold Hid; simp only [List.length_cons] at hk; omega
      have hlt : k < l.length := by have := HK.out; omega
      obtain ⟨b, o, rfl, l1, c0⟩ := AtS.head (h6.still (Still.of_below hb))
      obtain ⟨b', o', rfl, -, d0⟩ := AtS.head (h7.still (Still.of_below hb))
      have HRE := hide h6.tail
      have HRE' := hide h7.tail
      clear hk h6 h7
      go_wp2_with fail
      go_quiet (fail)
      go_wp2_with fail
      go_roundw
      case rel => exact ⟨rest, k + 1, by have := HK.out; omega, by go_num, HRE.out, HRE'.out, ⟨hb.os, hb.tape, hb.output, hb.size, hb.block⟩⟩
      case measure => simp [intOf]; omega

set_option maxHeartbeats 800000 in
set_option maxRecDepth 100000 in
/-- eqLocalS. -/
theorem eqL (l : List Nd) (w : World) (u v : Value) (hu : SlG elL w u l) (hv : SlG elL w v l) :
    Calls Tryz.prog 27 #[u, v] w fun e w' => e = .returned (.bool true) ∧ Below w.heap.size w w' := by
  obtain ⟨a, cap, rfl, hlen, hat⟩ := hu.at
  obtain ⟨a', cap', rfl, _, hat'⟩ := hv.at
  have HA := hide hat
  have HA' := hide hat'
  clear hu hv hat hat'
  unfold maxLen at hlen
  go_enter Tryz.func27, Tryz.ntmps27
  go_wp2_with fail
  go_loopw [5] (fun iv wr => ∃ (g : List Nd) (k : Nat), k + g.length = l.length ∧ iv = .int .i64 k ∧ AtG elL w a k g ∧ AtG elL w a' k g ∧ Below w.heap.size w wr) (fun iv _ => l.length - (intOf iv).toNat)
  case atStart => exact ⟨l, 0, by omega, rfl, HA.out, HA'.out, Below.refl _ _⟩
  case round =>
    obtain ⟨g, k, hk, rfl, h6, h7, hb⟩ := hrel
    cases g with
    | nil =>
      have H5 : Hid (k = l.length) := by unfold Hid; simpa using hk
      have hge : l.length ≤ k := Nat.le_of_eq H5.out.symm
      clear hk
      go_wp2_with fail
      go_ret
      exact ⟨rfl, hb⟩
    | cons n rest =>
      obtain ⟨kd, fr, ix, kids⟩ := n
      have HK : Hid (k + 1 + rest.length = l.length) := by unfold Hid; simp only [List.length_cons] at hk; omega
      have hlt : k < l.length := by have := HK.out; omega
      obtain ⟨b, o, rfl, l1, -, -, c0, c1, c2, su, c3, hsu⟩ := AtL.head (h6.still (Still.of_below hb))
      obtain ⟨b', o', rfl, -, -, -, d0, d1, d2, sv, d3, hsv⟩ := AtL.head (h7.still (Still.of_below hb))
      have HSU := hide hsu
      have HSV := hide hsv
      have HRE := hide h6.tail
      have HRE' := hide h7.tail
      clear hk h6 h7 hsu hsv
      go_wp2_with fail
      go_still_tail 8, (by kernel_rfl)
      change wpList _ _ _ _ _ wr.drew
      have hbd : Below w.heap.size w wr.drew := hb.drew
      have hst : Still wr wr.drew := fun _ _ h => h
      have HSU' := hide (HSU.out.still hst)
      have HSV' := hide (HSV.out.still hst)
      clear hst
      generalize wr.drew = w2 at *
      go_wp2_with fail
      refine (eq_calls kids w2 kd ix fr su sv HSU'.out HSV'.out).mono ?_
      rintro e w1 ⟨rfl, hb1⟩
      have hb2 : Below w.heap.size w w1 := hbd.trans (hb1.mono hbd.size)
      go_wp2_with fail
      go_roundw
      case rel => exact ⟨rest, k + 1, by have := HK.out; omega, by go_num, HRE.out, HRE'.out, hb2⟩
      case measure => simp [intOf]; omega

set_option maxHeartbeats 800000 in
/-- eqNetwork at two networks that read alike. -/
theorem eqNet (w : World) (lu qu lv qv : Value) (l : List Nd) (q : List ByteArray) (hlu : SlG elL w lu l) (hqu : SlG elS w qu q) (hlv : SlG elL w lv l) (hqv : SlG elS w qv q) :
    Calls Tryz.prog 20 #[.agg #[lu, qu], .agg #[lv, qv]] w fun e w' => e = .returned (.bool true) ∧ Below w.heap.size w w' := by
  obtain ⟨la, lc, rfl, -, -⟩ := hlu.at
  obtain ⟨la', lc', rfl, -, -⟩ := hlv.at
  obtain ⟨qa, qc, rfl, -, -⟩ := hqu.at
  obtain ⟨qa', qc', rfl, -, -⟩ := hqv.at
  have hB := (alloc_below w (.cells #[.slice la l.length lc, .slice qa q.length qc] ( /- t -/ 52))).alloc (by simp) (.cells #[.slice la' l.length lc', .slice qa' q.length qc'] ( /- t -/ 52))
  have HU := hide (hlu.still (Still.of_below hB))
  have HV := hide (hlv.still (Still.of_below hB))
  have HUq := hide (hqu.still (Still.of_below hB))
  have HVq := hide (hqv.still (Still.of_below hB))
  clear hlu hqu hlv hqv
  go_enter Tryz.func20, Tryz.ntmps20
  go_wp2_with fail
  refine (eqL l _ _ _ HU.out HV.out).mono ?_
  rintro e w1 ⟨rfl, hb⟩
  have hb2 := hB.trans (hb.mono (by simp; omega))
  have hx1 := (((Box2.now w (.slice la l.length lc) (.slice qa q.length qc) ( /- t -/ 52)).below (alloc_below _ (.cells #[.slice la' l.length lc', .slice qa' q.length qc'] ( /- t -/ 52)))).below hb)
  have hx2 := ((Box2.now (w.alloc (.cells #[.slice la l.length lc, .slice qa q.length qc] ( /- t -/ 52))) (.slice la' l.length lc') (.slice qa' q.length qc') ( /- t -/ 52)).below hb)
  rw [show (w.alloc (.cells #[.slice la l.length lc, .slice qa q.length qc] ( /- t -/ 52))).heap.size = w.heap.size + 1 from by simp] at hx2
  have hl1 := hx1.lt
  have hl2 := hx2.lt
  have d1 := hx1.cells.2
  have d2 := hx2.cells.2
  have HUq1 := hide (HUq.out.still (Still.of_below hb))
  have HVq1 := hide (HVq.out.still (Still.of_below hb))
  clear hb hB hx1 hx2
  go_wp2_with fail
  refine (eqS q _ _ _ HUq1.out HVq1.out).mono ?_
  rintro e w2 ⟨rfl, hb⟩
  have hb3 := hb2.trans (hb.mono hb2.size)
  clear hb
  go_wp2_with fail
  go_ret
  exact ⟨rfl, hb3⟩
end Go.Proofs.YtmkjipnemapdeaaGreatDoor.Lo.Ne

/- The law on NewNetwork: the walk. -/
namespace Go.Proofs.YtmkjipnemapdeaaGreatDoor.Lo.Ne
open Go.RowKit

/-- A network of the law's own in a box: its blocks between two numbers. -/
structure LnS (wi : World) (L : List Nd) (Q : List ByteArray) (u v : Value) (lo b : Nat) (bs cs : List Nat) : Prop where
  hx : Box2 wi b u v
  ol : OwS wi u L bs
  oq : OwG elS wi v Q cs
  hl : ∀ x, x ∈ bs ++ cs → lo ≤ x ∧ x < b
  hn : (bs ++ cs).Nodup
  hlo : lo ≤ b
theorem LnS.same {wi wj : World} {L : List Nd} {Q : List ByteArray} {u v : Value} {lo b : Nat} {bs cs : List Nat} (h : LnS wi L Q u v lo b bs cs) (hs : ∀ x, lo ≤ x → x ≤ b → wj.heap[x]? = wi.heap[x]?) : LnS wj L Q u v lo b bs cs :=
  ⟨h.hx.same (hs _ h.hlo (Nat.le_refl _)), h.ol.same (fun x hx => by have := h.hl x (List.mem_append_left _ hx); exact hs x (by omega) (by omega)), h.oq.same elS_flat (fun x hx => by have := h.hl x (List.mem_append_right _ hx); exact hs x (by omega) (by omega)), h.hl, h.hn, h.hlo⟩
theorem LnS.below {wi wj : World} {L : List Nd} {Q : List ByteArray} {u v : Value} {lo b : Nat} {bs cs : List Nat} (h : LnS wi L Q u v lo b bs cs) (hb : Below wi.heap.size wi wj) : LnS wj L Q u v lo b bs cs :=
  h.same (fun x _ h2 => hb.block x (by have := h.hx.lt; omega))
theorem LnS.wr {wi wj : World} {L : List Nd} {Q : List ByteArray} {u v : Value} {lo b : Nat} {bs cs ds : List Nat} (h : LnS wi L Q u v lo b bs cs) (hw : Wr ds wi wj) (hc : ∀ x, x ∈ ds → x < lo ∨ b < x) : LnS wj L Q u v lo b bs cs :=
  h.same (fun x h1 h2 => hw.block x (by have := h.hx.lt; omega) (fun hm => by have := hc x hm; omega))
theorem LnS.now {w1 : World} {L : List Nd} {Q : List ByteArray} {u v : Value} {lo : Nat} {bs cs : List Nat} {t : TypeId} (ol : OwS w1 u L bs) (oq : OwG elS w1 v Q cs) (hl : ∀ x, x ∈ bs ++ cs → lo ≤ x) (hn : (bs ++ cs).Nodup) (hlo : lo ≤ w1.heap.size) :
    LnS (w1.alloc (.cells #[u, v] t)) L Q u v lo w1.heap.size bs cs :=
  ⟨Box2.now w1 _ _ t, ol.same (Same.of_below (alloc_below w1 _) ol.lt), oq.same elS_flat (Same.of_below (alloc_below w1 _) oq.lt), fun x hx => ⟨hl x hx, by
    rcases List.mem_append.1 hx with h | h
    · exact ol.lt x h
    · exact oq.lt x h⟩, hn, hlo⟩
theorem LnS.marked {wi wj : World} {L L' : List Nd} {Q Q' : List ByteArray} {u v : Value} {lo b : Nat} {bs cs : List Nat} (h : LnS wi L Q u v lo b bs cs) (hw : Wr (bs ++ cs) wi wj) (ol : OwS wj u L' bs) (oq : OwG elS wj v Q' cs) : LnS wj L' Q' u v lo b bs cs :=
  ⟨h.hx.same (hw.block _ h.hx.lt (fun hm => by have := h.hl _ hm; omega)), ol, oq, h.hl, h.hn, h.hlo⟩
/-- Local types of the law's own: their blocks between two numbers. -/
structure LxS (wi : World) (L : List Nd) (u : Value) (lo hi : Nat) (bs : List Nat) : Prop where
  ol : OwS wi u L bs
  hl : ∀ x, x ∈ bs → lo ≤ x ∧ x < hi
  hn : bs.Nodup
theorem LxS.below {wi wj : World} {L : List Nd} {u : Value} {lo hi : Nat} {bs : List Nat} (h : LxS wi L u lo hi bs) (hb : Below wi.heap.size wi wj) : LxS wj L u lo hi bs := ⟨h.ol.same (Same.of_below hb h.ol.lt), h.hl, h.hn⟩

theorem mz_le : ∀ l : List Nd, mzL l ≤ 4 * (l.length + wtL l)
  | [] => by simp [mzL]
  | n :: r => by
    have h1 := mz_le r
    have h2 := F.sz_le n.kids
    simp only [mzL, wtL, Nd.wt, List.length_cons]
    omega
theorem newL_mz (l : List Nd) : mzL (newL l) ≤ mzL l := by
  unfold newL
  split
  · exact Nat.le_refl _
  · exact Nat.zero_le _
theorem newQ_len (l : List Nd) : (newQ l).length ≤ 9 := by
  unfold newQ
  split
  · decide
  · exact Nat.zero_le _

set_option maxHeartbeats 800000 in
theorem nw_big (w : World) (lv : Value) (l : List Nd) (h1 : SlG elL w lv l) (hbig : 1048576 < l.length + wtL l) :
    Calls Tryz.prog 6 #[lv] w fun e w' => e = .returned (.bool true) ∧ Below w.heap.size w w' := by
  obtain ⟨la, lc, rfl, -, -⟩ := h1.at
  have HL := hide h1
  have HH := hide hbig
  clear h1 hbig
  go_enter Tryz.func6, Tryz.ntmps6
  go_wp2_with fail
  refine (szL l w _ 1048576 HL.out (by omega) (by omega)).mono ?_
  rintro e w1 ⟨rfl, hb⟩
  rw [show left0 1048576 (l.length + wtL l) = -1 by have := HH.out; unfold left0; rw [if_pos (by omega)]]
  go_wp2_with fail
  go_ret
  exact ⟨rfl, hb⟩

set_option maxHeartbeats 4000000 in
set_option maxRecDepth 100000 in
theorem nw_small (w : World) (lv : Value) (l : List Nd) (h1 : SlG elL w lv l) (hsm : l.length + wtL l ≤ 1048576) :
    Calls Tryz.prog 6 #[lv] w fun e w' => e = .returned (.bool true) ∧ Below w.heap.size w w' := by
  obtain ⟨la, lc, rfl, -, -⟩ := h1.at
  have hz1 : 1 + mzL l ≤ 16777216 := by have := mz_le l; omega
  have hz2 : 1 + mzL (newL l) + (newQ l).length ≤ 16777216 := by have := mz_le l; have := newL_mz l; have := newQ_len l; omega
  have HL := hide h1
  have HN := hide hsm
  have HFIT := hide (slL_fit h1)
  have HKS := hide (fun (g : Nd) (hg : g ∈ l) => kids_le (show wtL l ≤ 1048576 by omega) hg)
  obtain ⟨R, hR⟩ : ∃ R, R = newL l := ⟨_, rfl⟩
  obtain ⟨Q, hQ⟩ : ∃ Q, Q = newQ l := ⟨_, rfl⟩
  obtain ⟨ok, hok⟩ : ∃ ok, ok = netB l noQ := ⟨_, rfl⟩
  rw [← hR, ← hQ] at hz2
  have HR := hide (And.intro hR (And.intro hQ hok))
  clear h1 hsm hR hQ hok
  go_enter Tryz.func6, Tryz.ntmps6
  go_wp2_with fail
  refine (szL l w _ 1048576 HL.out (by omega) (by omega)).mono ?_
  rintro e w1 ⟨rfl, hb⟩
  obtain ⟨r, hr, hr0⟩ : ∃ r, r = left0 1048576 (l.length + wtL l) ∧ 0 ≤ r := by
    refine ⟨_, rfl, ?_⟩
    have := HN.out
    unfold left0
    rw [if_neg (by omega)]
    omega
  rw [← hr]
  have HW := hide hb
  clear hr hb
  go_wp2_with fail
  refine (toL l w1 _ (HL.out.still (Still.of_below HW.out)) HN.out).mono ?_
  rintro e w2 ⟨u, bs, rfl, how, -, -, hb⟩
  obtain ⟨ua, uc, rfl⟩ := how.val
  have HU := hide how.sl
  have HW := hide (HW.out.trans (hb.mono HW.out.size))
  clear hb how
  go_wp2_with fail
  refine (specNewNet w2 l _ HU.out HFIT.out HKS.out).mono ?_
  rw [← HR.out.1, ← HR.out.2.1, ← HR.out.2.2]
  rintro e w3 ⟨wu, wv, wbs, wcs, rfl, ou, ov, hge, hnd, hb⟩
  obtain ⟨wa, wc, rfl⟩ := ou.val
  obtain ⟨wb, wd, rfl⟩ := ov.val
  have hbA := alloc_below w3 (.cells #[.slice wa R.length wc, .slice wb Q.length wd] ( /- t -/ 52))
  have hws := HW.out.size
  have HW := hide ((HW.out.trans (hb.mono HW.out.size)).trans (hbA.mono (Nat.le_trans HW.out.size hb.size)))
  have HT4 := hide (LnS.now (t := ( /- t -/ 52)) ou ov (lo := w2.heap.size) hge hnd hb.size)
  have h32 := hb.size
  clear hb hbA ou ov hge hnd HU
  obtain ⟨N4, hN4⟩ : ∃ N4, N4 = w3.heap.size := ⟨_, rfl⟩
  obtain ⟨L4, hL4⟩ : ∃ L4, L4 = w2.heap.size := ⟨_, rfl⟩
  go_wp2_with fail
  rw [← hN4] at HT4 ⊢
  rw [← hL4] at HT4
  generalize hV3 : w3.alloc (.cells #[.slice wa R.length wc, .slice wb Q.length wd] ( /- t -/ 52)) = V3 at *
  have hs3 : V3.heap.size = N4 + 1 := by rw [← hV3, hN4]; simp
  have hN4L : L4 ≤ N4 := by omega
  have hL4w : w.heap.size ≤ L4 := by omega
  clear hV3 hN4 hL4 h32 hws
  refine (toL l V3 _ (HL.out.still (Still.of_below HW.out)) HN.out).mono ?_
  rintro e w4 ⟨xu, xbs, rfl, how, hge, hnd, hb⟩
  obtain ⟨xa, xc, rfl⟩ := how.val
  have HW := hide (HW.out.trans (hb.mono HW.out.size))
  have HT4 := hide (HT4.out.below hb)
  obtain ⟨N6, hN6⟩ : ∃ N6, N6 = w4.heap.size := ⟨_, rfl⟩
  have HT6 := hide (LxS.mk (lo := N4 + 1) (hi := N6) how (fun x hx => ⟨by have := hge x hx; omega, by have := how.lt x hx; omega⟩) hnd)
  have hN46 : N4 < N6 := by have := hb.size; omega
  clear hb how hge hnd hs3
  go_wp2_with fail
  refine (implNewNet w4 l _ HT6.out.ol.sl HFIT.out).mono ?_
  rw [← HR.out.1, ← HR.out.2.1, ← HR.out.2.2]
  rintro e w6 ⟨gu, gv, gbs, gcs, rfl, ou, ov, hge, hnd, hb⟩
  obtain ⟨ga, gc, rfl⟩ := ou.val
  obtain ⟨gb, gd, rfl⟩ := ov.val
  have hbA := alloc_below w6 (.cells #[.slice ga R.length gc, .slice gb Q.length gd] ( /- t -/ 52))
  have HW := hide ((HW.out.trans (hb.mono HW.out.size)).trans (hbA.mono (Nat.le_trans HW.out.size hb.size)))
  have HT4 := hide ((HT4.out.below hb).below hbA)
  have HT6 := hide ((HT6.out.below hb).below hbA)
  have HT7 := hide (LnS.now (t := ( /- t -/ 52)) ou ov (lo := w4.heap.size) hge hnd hb.size)
  have h65 := hb.size
  obtain ⟨N7, hN7⟩ : ∃ N7, N7 = w6.heap.size := ⟨_, rfl⟩
  clear hb hbA ou ov hge hnd
  obtain ⟨y0, y1⟩ := HT4.out.hx.cells
  have yl := HT4.out.hx.lt
  obtain ⟨v0, v1⟩ := HT7.out.hx.cells
  have vl := HT7.out.hx.lt
  go_wp2_with fail
  rw [← hN7] at HT7 ⊢
  clear y0 y1 yl
  clear v0 v1 vl
  rw [← hN6] at HT7
  generalize hV7 : w6.alloc (.cells #[.slice ga R.length gc, .slice gb Q.length gd] ( /- t -/ 52)) = V7 at *
  have hN67 : N6 ≤ N7 := by omega
  clear hV7 hN7 hN6 h65
  refine (eqNet V7 _ _ _ _ R Q HT7.out.ol.sl HT7.out.oq.sl HT4.out.ol.sl HT4.out.oq.sl).mono ?_
  rintro e w8 ⟨rfl, hb⟩
  have HW := hide (HW.out.trans (hb.mono HW.out.size))
  have HT4 := hide (HT4.out.below hb)
  have HT6 := hide (HT6.out.below hb)
  have HT7 := hide (HT7.out.below hb)
  clear hb
  obtain ⟨y0, y1⟩ := HT4.out.hx.cells
  have yl := HT4.out.hx.lt
  obtain ⟨v0, v1⟩ := HT7.out.hx.cells
  have vl := HT7.out.hx.lt
  go_wp2_with fail
  clear y0 y1 yl
  clear v0 v1 vl
  refine (toL l w8 _ (HL.out.still (Still.of_below HW.out)) HN.out).mono ?_
  rintro e wA ⟨u3, bs3, rfl, how3, -, -, hb⟩
  obtain ⟨u3a, u3c, rfl⟩ := how3.val
  have H3 := hide how3.sl
  have HW := hide (HW.out.trans (hb.mono HW.out.size))
  have HT4 := hide (HT4.out.below hb)
  have HT6 := hide (HT6.out.below hb)
  have HT7 := hide (HT7.out.below hb)
  clear hb how3
  go_wp2_with fail
  refine (eqL l wA _ _ HT6.out.ol.sl H3.out).mono ?_
  rintro e wD ⟨rfl, hb⟩
  have HW := hide (HW.out.trans (hb.mono HW.out.size))
  have HT4 := hide (HT4.out.below hb)
  have HT6 := hide (HT6.out.below hb)
  have HT7 := hide (HT7.out.below hb)
  clear hb H3
  go_wp2_with fail
  refine (markL l wD _ xbs 1 HT6.out.ol HT6.out.hn (Nat.le_refl _) hz1).mono ?_
  rintro e w9 ⟨rfl, -, hwr⟩
  have h6l := HT6.out.hl
  have HW := hide (HW.out.trans (hwr.to_below (fun x hx => by have := h6l x hx; omega) HW.out.size))
  have HT4 := hide (HT4.out.wr hwr (fun x hx => by have := h6l x hx; omega))
  have HT7 := hide (HT7.out.wr hwr (fun x hx => by have := h6l x hx; omega))
  clear hwr h6l HT6
  obtain ⟨K, hK⟩ : ∃ K : Int, K = ((1 + mzL l : Nat) : Int) := ⟨_, rfl⟩
  have hK0 : 0 ≤ K := by omega
  rw [← hK]
  clear hK
  obtain ⟨y0, y1⟩ := HT4.out.hx.cells
  have yl := HT4.out.hx.lt
  obtain ⟨v0, v1⟩ := HT7.out.hx.cells
  have vl := HT7.out.hx.lt
  go_wp2_with fail
  clear y0 y1 yl
  clear v0 v1 vl
  refine (eqNet w9 _ _ _ _ R Q HT7.out.ol.sl HT7.out.oq.sl HT4.out.ol.sl HT4.out.oq.sl).mono ?_
  rintro e w10 ⟨rfl, hb⟩
  have HW := hide (HW.out.trans (hb.mono HW.out.size))
  have HT4 := hide (HT4.out.below hb)
  have HT7 := hide (HT7.out.below hb)
  clear hb
  obtain ⟨y0, y1⟩ := HT4.out.hx.cells
  have yl := HT4.out.hx.lt
  obtain ⟨v0, v1⟩ := HT7.out.hx.cells
  have vl := HT7.out.hx.lt
  go_wp2_with fail
  clear y0 y1 yl
  clear v0 v1 vl
  refine (markNet w10 _ _ R Q gbs gcs 1 HT7.out.ol HT7.out.oq HT7.out.hn (Nat.le_refl _) hz2).mono ?_
  rintro e w11 ⟨rfl, og1, og2, hwr⟩
  have h7l := HT7.out.hl
  have HW := hide (HW.out.trans (hwr.to_below (fun x hx => by have := h7l x hx; omega) HW.out.size))
  have HT4 := hide (HT4.out.wr hwr (fun x hx => by have := h7l x hx; omega))
  have HT7 := hide (HT7.out.marked hwr og1 og2)
  clear hwr h7l og1 og2
  obtain ⟨M, hM⟩ : ∃ M : Int, M = ((1 + mzL R + Q.length : Nat) : Int) := ⟨_, rfl⟩
  have hM0 : 0 ≤ M := by omega
  have HM := hide hM
  rw [← hM]
  clear hM
  obtain ⟨y0, y1⟩ := HT4.out.hx.cells
  have yl := HT4.out.hx.lt
  obtain ⟨v0, v1⟩ := HT7.out.hx.cells
  have vl := HT7.out.hx.lt
  go_wp2_with fail
  clear y0 y1 yl
  clear v0 v1 vl
  refine (heldNet w11 _ _ R Q 1 HT7.out.ol.sl HT7.out.oq.sl (Nat.le_refl _) hz2).mono ?_
  rw [← HM.out]
  rintro e w12 ⟨rfl, hb⟩
  have HW := hide (HW.out.trans (hb.mono HW.out.size))
  have HT4 := hide (HT4.out.below hb)
  have HT7 := hide (HT7.out.below hb)
  clear hb
  obtain ⟨y0, y1⟩ := HT4.out.hx.cells
  have yl := HT4.out.hx.lt
  obtain ⟨v0, v1⟩ := HT7.out.hx.cells
  have vl := HT7.out.hx.lt
  go_wp2_with fail
  clear y0 y1 yl
  clear v0 v1 vl
  refine (toL l w12 _ (HL.out.still (Still.of_below HW.out)) HN.out).mono ?_
  rintro e w13 ⟨u5, bs5, rfl, how, -, -, hb⟩
  obtain ⟨ua5, uc5, rfl⟩ := how.val
  have HU5 := hide how.sl
  have HW := hide (HW.out.trans (hb.mono HW.out.size))
  have HT4 := hide (HT4.out.below hb)
  have HT7 := hide (HT7.out.below hb)
  clear hb how
  go_wp2_with fail
  refine (implNewNet w13 l _ HU5.out HFIT.out).mono ?_
  rw [← HR.out.1, ← HR.out.2.1, ← HR.out.2.2]
  rintro e w14 ⟨hu, hv, hbs, hcs, rfl, ou, ov, hge, hnd, hb⟩
  obtain ⟨ha, hc, rfl⟩ := ou.val
  obtain ⟨hbx, hd, rfl⟩ := ov.val
  have hbA := alloc_below w14 (.cells #[.slice ha R.length hc, .slice hbx Q.length hd] ( /- t -/ 52))
  have HW := hide ((HW.out.trans (hb.mono HW.out.size)).trans (hbA.mono (Nat.le_trans HW.out.size hb.size)))
  have HT4 := hide ((HT4.out.below hb).below hbA)
  have HT7 := hide ((HT7.out.below hb).below hbA)
  have HT8 := hide (LnS.now (t := ( /- t -/ 52)) ou ov (lo := w13.heap.size) hge hnd hb.size)
  clear hb hbA ou ov hge hnd HU5
  obtain ⟨s0, s1⟩ := HT8.out.hx.cells
  have sl := HT8.out.hx.lt
  obtain ⟨y0, y1⟩ := HT4.out.hx.cells
  have yl := HT4.out.hx.lt
  obtain ⟨v0, v1⟩ := HT7.out.hx.cells
  have vl := HT7.out.hx.lt
  go_wp2_with fail
  clear y0 y1 yl
  clear v0 v1 vl
  clear s0 s1 sl
  refine (eqNet _ _ _ _ _ R Q HT8.out.ol.sl HT8.out.oq.sl HT4.out.ol.sl HT4.out.oq.sl).mono ?_
  rintro e w15 ⟨rfl, hb⟩
  have HW := hide (HW.out.trans (hb.mono HW.out.size))
  have HT4 := hide (HT4.out.below hb)
  have HT7 := hide (HT7.out.below hb)
  clear hb HT8
  obtain ⟨y0, y1⟩ := HT4.out.hx.cells
  have yl := HT4.out.hx.lt
  obtain ⟨v0, v1⟩ := HT7.out.hx.cells
  have vl := HT7.out.hx.lt
  go_wp2_with fail
  clear y0 y1 yl
  clear v0 v1 vl
  refine (heldNet w15 _ _ R Q 1 HT7.out.ol.sl HT7.out.oq.sl (Nat.le_refl _) hz2).mono ?_
  rw [← HM.out]
  rintro e w16 ⟨rfl, hb⟩
  have HW := hide (HW.out.trans (hb.mono HW.out.size))
  have HT4 := hide (HT4.out.below hb)
  have HT7 := hide (HT7.out.below hb)
  clear hb
  obtain ⟨y0, y1⟩ := HT4.out.hx.cells
  have yl := HT4.out.hx.lt
  obtain ⟨v0, v1⟩ := HT7.out.hx.cells
  have vl := HT7.out.hx.lt
  go_wp2_with fail
  go_ret
  exact ⟨rfl, HW.out⟩

/-- FnExactNewNetwork returns true. -/
theorem nw_walk (w : World) (lv : Value) (l : List Nd) (h1 : SlG elL w lv l) :
    Calls Tryz.prog 6 #[lv] w fun e w' => e = .returned (.bool true) ∧ Below w.heap.size w w' := by
  by_cases h : l.length + wtL l ≤ 1048576
  · exact nw_small w lv l h1 h
  · exact nw_big w lv l h1 (by omega)
end Go.Proofs.YtmkjipnemapdeaaGreatDoor.Lo.Ne

/- Arguments that are slices of any elements, opened. -/
namespace Go.Proofs.YtmkjipnemapdeaaGreatDoor
open Go.ChangeShapes Go.WideShapes Go.RowKit

section
variable {H : Type} {enc : TypeId × Value → H} {W : World} {sp : Nat → Bool}

theorem add_place (a : Addr) (i : Nat) (v : Value) (h : W.cell? (a.add i) = some v) : (a.add i) = ⟨a.block, a.off + i, none⟩ := by
  obtain ⟨b, o, s⟩ := a
  by_cases hi : i = 0
  · subst hi
    simp only [Addr.add, if_pos] at h ⊢
    cases s with
    | none => rfl
    | some t =>
      exfalso
      simp only [World.cell?] at h
      split at h <;> simp at h
  · simp [Addr.add, hi]

theorem open_rows {α : Type} {E : El α} (hst : 0 < E.st) {ts te : TypeId} (hu : Tryz.prog.underlying ts = some (.slice te)) (hc : Tryz.prog.cellsOf te = E.st)
    (hel : ∀ (fuel : Nat) (cs : List Value) (x : DataW H × List MemPlace), DataW.trod enc Tryz.prog W 0 sp true fuel te cs = some x → cs.length = E.st → ∀ b o, (∀ k, k < E.st → W.cell? ⟨b, o + k, none⟩ = cs[k]?) → ∃ y, E.P W b o y)
    {fuel : Nat} {sv : Value} {x : DataW H × List MemPlace} (h : DataW.trod enc Tryz.prog W 0 sp true fuel ts [sv] = some x) : ∃ l, SlG E W sv l := by
  rcases DataW.trod_slice hu h with ⟨h0, -⟩ | ⟨a, len, cap, elems, rest, n, rfl, h0, -, -, hl, hm, hlen, hel', -, -⟩
  · simp only [List.cons.injEq, and_true] at h0
    exact ⟨[], h0 ▸ SlG.nil⟩
  · simp only [List.cons.injEq, and_true] at h0
    subst h0
    rw [hc] at hel'
    have one : ∀ i, i < len → (i = 0 → a = ⟨a.block, a.off, none⟩) ∧ ∃ y, E.P W a.block (a.off + i * E.st) y := by
      intro i hi
      have key := hel' i hi
      rw [List.getElem?_eq_getElem (by omega)] at key
      obtain ⟨cs', h1, h2⟩ := Option.bind_eq_some_iff.1 key
      obtain ⟨-, hl6, hat⟩ := World.cells?_some h1
      have a0 := hat 0 hst
      rw [List.getElem?_eq_getElem (by omega)] at a0
      have e := add_place a (i * E.st) _ (show W.cell? (a.add (i * E.st)) = some cs'[0] by simpa [Addr.add] using a0)
      refine ⟨?_, hel n cs' _ h2 hl6 _ _ (fun k hk => ?_)⟩
      · rintro rfl
        simpa [Addr.add] using e
      · have := hat k hk
        rw [e] at this
        simp only [Addr.add] at this
        split at this
        · rename_i hk0
          subst hk0
          exact this
        · exact this
    have down : ∀ j, j ≤ len → ∃ g : List α, g.length = j ∧ RowG E W a.block (a.off + (len - j) * E.st) g := by
      intro j
      induction j with
      | zero => intro _; exact ⟨[], rfl, trivial⟩
      | succ j ihj =>
        intro hj
        obtain ⟨g, hg, hr⟩ := ihj (by omega)
        obtain ⟨-, y, hy⟩ := one (len - (j + 1)) (by omega)
        refine ⟨y :: g, by simp only [List.length_cons]; omega, hy, ?_⟩
        rw [show a.off + (len - (j + 1)) * E.st + E.st = a.off + (len - j) * E.st by rw [show len - j = (len - (j + 1)) + 1 by omega, Nat.succ_mul, Nat.add_assoc]]
        exact hr
    obtain ⟨f, hf, hr⟩ := down len (Nat.le_refl _)
    refine ⟨f, some a, cap, by rw [hf], by omega, hm, ?_⟩
    cases f with
    | nil => exact Or.inl rfl
    | cons y rest' =>
      right
      simp only [List.length_cons] at hf
      obtain ⟨ha, -⟩ := one 0 (by omega)
      refine ⟨a.block, a.off, by rw [← ha rfl], ?_⟩
      simpa using hr

end
end Go.Proofs.YtmkjipnemapdeaaGreatDoor

/- Arguments that are networks, opened. -/
namespace Go.Proofs.YtmkjipnemapdeaaGreatDoor.Lo.Ne
open Go.ChangeShapes Go.WideShapes Go.RowKit

section
variable {H : Type} {enc : TypeId × Value → H} {W : World} {sp : Nat → Bool}

theorem Tryz.cells44 : Tryz.prog.cellsOf ( /- t -/ 44) = 1 := by kernel_rfl
theorem Tryz.cells45 : Tryz.prog.cellsOf ( /- t -/ 45) = 1 := by kernel_rfl
theorem Tryz.cells47 : Tryz.prog.cellsOf ( /- t -/ 47) = 2 := by kernel_rfl

theorem open_locals {fuel : Nat} {sv : Value} {x : DataW H × List MemPlace} (h : DataW.trod enc Tryz.prog W 0 sp true fuel ( /- t -/ 44) [sv] = some x) : ∃ l, SlG elL W sv l := by
  refine open_rows (by decide) Tryz.underlying44 (by exact Tryz.cells24) (fun fuel cs x hx hl b o hc => ?_) h
  obtain ⟨k, fr, ix, sv, n, y, -, rfl, w1, w3, w4, g⟩ := open_node hx
  obtain ⟨kids, hk⟩ := open_tree n sv y g
  exact ⟨⟨k, fr, ix, kids⟩, w1, w3, w4, hc 0 (by decide), hc 1 (by decide), hc 2 (by decide), sv, hc 3 (by decide), hk⟩
theorem open_strings {fuel : Nat} {sv : Value} {x : DataW H × List MemPlace} (h : DataW.trod enc Tryz.prog W 0 sp true fuel ( /- t -/ 45) [sv] = some x) : ∃ l, SlG elS W sv l := by
  refine open_rows (by decide) Tryz.underlying45 (by exact Tryz.cells9) (fun fuel cs x hx hl b o hc => ?_) h
  obtain ⟨s, rfl, -, w1⟩ := DataW.trod_string Tryz.underlying9 hx
  exact ⟨s, w1, hc 0 (by decide)⟩

set_option maxRecDepth 100000 in
/-- An argument of the type laws.Network. -/
theorem open_network {b0 : Nat} {v : Value} {d : DataW H} {p : List MemPlace} (hv : Value.okWide Tryz.prog W .any b0 ( /- t -/ 47) v) (h : DataW.Trod enc Tryz.prog W 0 sp true ( /- t -/ 47) v d p) :
    ∃ (lv qv : Value) (l : List Nd) (q : List ByteArray), v = .agg #[lv, qv] ∧ SlG elL W lv l ∧ SlG elS W qv q := by
  obtain ⟨cs, rfl, hsz⟩ := okWide_struct Tryz.underlying47 hv
  obtain ⟨fuel, hf⟩ := h
  obtain ⟨xs, n, rfl, -, hlen, hxl, hf⟩ := DataW.trod_struct Tryz.underlying47 hf
  rw [Tryz.cells47] at hlen
  obtain ⟨l⟩ := cs
  simp only [Value.cells] at hlen hf
  match l, hlen, xs, hxl with
  | [c0, c1], _, [x0, x1], _ =>
    have g0 : DataW.trod enc Tryz.prog W 0 sp true n ( /- t -/ 44) (([c0, c1].drop 0).take (Tryz.prog.cellsOf ( /- t -/ 44))) = some x0 := hf 0 _ rfl
    have g1 : DataW.trod enc Tryz.prog W 0 sp true n ( /- t -/ 45) (([c0, c1].drop 1).take (Tryz.prog.cellsOf ( /- t -/ 45))) = some x1 := hf 1 _ rfl
    simp only [Tryz.cells44, Tryz.cells45] at g0 g1
    obtain ⟨ll, hl⟩ := open_locals (show DataW.trod enc Tryz.prog W 0 sp true n ( /- t -/ 44) [c0] = some x0 from g0)
    obtain ⟨q, hq⟩ := open_strings (show DataW.trod enc Tryz.prog W 0 sp true n ( /- t -/ 45) [c1] = some x1 from g1)
    exact ⟨c0, c1, ll, q, rfl, hl, hq⟩
end
end Go.Proofs.YtmkjipnemapdeaaGreatDoor.Lo.Ne

namespace Go.Proofs.YtmkjipnemapdeaaGreatDoor
open Go.ChangeShapes Go.WideShapes Go.ChangeAt Go.RowKit

/-- The cells of a table of numbers. -/
def nwlitVal {H : Type} : DataW H → Value
  | .lit (.int k n) => .int k n
  | _ => .nilIface
def nwtabCells {H : Type} : DataW H → Array Value
  | .agg l => (l.map nwlitVal).toArray
  | _ => #[]
def nwrelay (cs : Array Value) : Obj → Obj
  | .cells _ t frozen => .cells cs t frozen
  | o => o

/-- The cells of a table of pairs of numbers. -/
def nwpairCells {H : Type} : DataW H → Array Value
  | .agg l => (l.flatMap fun x => match x with | .agg y => y.map nwlitVal | _ => []).toArray
  | _ => #[]
/-- A world that holds the five tables: the witness. -/
noncomputable def nwlaidWorld (os : Os) : World :=
  { World.holding Tryz.prog os ⟨#[], #[], []⟩ with heap := (((((World.holding Tryz.prog os ⟨#[], #[], []⟩).heap.modify 5 (nwrelay (nwtabCells (H := Unit) Rows.laid_internal_strconv_uint64pow10))).modify 6 (nwrelay (nwtabCells (H := Unit) Rows.laid_math_bits_deBruijn32tab))).modify 7 (nwrelay (nwtabCells (H := Unit) Rows.laid_math_bits_deBruijn64tab))).modify 4 (nwrelay (nwpairCells (H := Unit) Rows.laid_unicode_utf8_acceptRanges))).modify 3 (nwrelay (nwtabCells (H := Unit) Rows.laid_unicode_utf8_first)) }
def nwzero : Value := .slice none 0 0
theorem nwlaid_met (os : Os) : laidMet Tryz.prog Rows.fnExactNewNetworkRow.laid ((nwlaidWorld os).forCall (fun _ _ => 0) ⟨#[], #[nwzero], []⟩).memory :=
  laidMet_of_run' 200 (by kernel_rfl) (by kernel_rfl)
/-- One datum was read, and no variable. -/
def nwoneOf {H : Type} : Option (List (DataW H) × List (DataW H) × List MemPlace) → Bool
  | some ([_], [], _) => true
  | _ => false
theorem nwoneOf_some {H : Type} {x : Option (List (DataW H) × List (DataW H) × List MemPlace)} (h : nwoneOf x = true) : ∃ d places, x = some ([d], [], places) := by
  unfold nwoneOf at h
  split at h
  · exact ⟨_, _, rfl⟩
  · cases h
theorem nwreads (os : Os) {H : Type} (enc : TypeId × Value → H) : ∃ d places, DataW.whole enc Tryz.prog ((nwlaidWorld os).forCall (fun _ _ => 0) ⟨#[], #[nwzero], []⟩).memory Tryz.f6.params.toList Rows.fnExactNewNetworkSpec.vars false #[nwzero].toList 8 = some ([d], [], places) :=
  nwoneOf_some (by kernel_rfl)

set_option maxRecDepth 100000 in
theorem nw_lifted (os : Os) (started : os.Started) (H : Type) (enc : TypeId × Value → H) (F : Stop.Interp) :
    ReturnsInHanded {} Tryz.checked os 6 .any ((OpenSpec.ofChange Rows.fnExactNewNetworkSpec).preRow enc Tryz.prog Tryz.f6 Rows.fnExactNewNetworkRow.domain false Rows.fnExactNewNetworkRow.laid) (((OpenSpec.ofChange Rows.fnExactNewNetworkSpec).at F).post enc Tryz.prog Tryz.f6 false true false false) := by
  obtain ⟨d, places, hx⟩ := nwreads os enc
  refine returnsInHanded_of_row (C := Tryz.checked) (s := OpenSpec.ofChange Rows.fnExactNewNetworkSpec) Tryz.own started (by kernel_rfl) Tryz.func6
    (witness_row_at (enc := enc) (C := Tryz.checked) false (nwlaidWorld os) #[nwzero] rfl (by kernel_rfl) (by kernel_rfl) (by kernel_rfl)
      (OpenSpec.preRow_of_cond 8 hx (by kernel_rfl) (fun k hk => by cases hk) (by kernel_rfl) (nwlaid_met os))) ?_
  intro W base args ds gs before hval0 hW hcnd _ _ hL _ _
  have hval : ∀ (j : Nat) t v, Tryz.f6.params[j]? = some t → args[j]? = some v → Value.okWide Tryz.prog W .any base t v := hval0
  have hW' := hW
  obtain ⟨p, q, hA0, hV, rfl, hfz, hnd⟩ := hW
  have hA : DataW.TrodAll enc Tryz.prog W 0 (fun _ => true) true Tryz.f6.params.toList args.toList ds p := hA0
  rw [Tryz.params6] at hA hval
  obtain ⟨v0, d0, rfl, rfl, h0⟩ := trodAll_one hA
  obtain ⟨a0, n0, c0, rfl⟩ := okWide_slice Tryz.underlying44 (hval 0 ( /- t -/ 44) v0 rfl rfl)
  obtain ⟨fuel, h0⟩ := h0
  obtain ⟨l, hl⟩ := Lo.Ne.open_locals h0
  refine (Lo.Ne.nw_walk W _ l hl).mono fun e W' ⟨he, hb⟩ => ?_
  subst he
  exact ⟨_, rfl, law_post (s := Rows.fnExactNewNetworkSpec) Tryz.laidOut (by kernel_rfl) (by kernel_rfl) Tryz.underlying4 rfl (by cases gs with | nil => rfl | cons => exact hV.elim) hW' hb⟩

theorem nw_said : Rows.FnExactNewNetworkSaid :=
  OpenClaim.holds_of_cond 6 Tryz.f6 rfl rfl rfl rfl rfl rfl rfl ⟨rfl, rfl, rfl, rfl, rfl⟩ rfl rfl rfl rfl rfl (by kernel_rfl) Tryz.func6 (by kernel_rfl)
    (of_decide_eq_true (by kernel_rfl)) (by unfold Func.isWrapper; first | (rw [if_pos (by decide +kernel)]; kernel_rfl) | (rw [if_neg (by decide +kernel)]; exact ⟨rfl, rfl⟩))
    (fun os started H enc _ F => by rw [OpenClaim.pre_eq_preRow]; exact nw_lifted os started H enc F)

/-- No parameter wants a stand-in; the program's own looks are on. -/
theorem nw_plain (f : FuncId) (fn : Func) (hf : Tryz.pinned.checked.prog.funcNamed "loop.example/sessiontypes/laws.FnExactNewNetwork" = some f) (hfn : Tryz.pinned.checked.prog.funcs[f]? = some fn) :
    true = Tryz.pinned.checked.prog.looks [] ∧ ∀ (j : Nat) t, fn.params[j]? = some t → Tryz.pinned.checked.prog.wantsStandIn t = false := by
  obtain rfl : f = 6 := Option.some.inj ((show Tryz.prog.funcNamed "loop.example/sessiontypes/laws.FnExactNewNetwork" = some 6 by kernel_rfl).symm.trans hf) |>.symm
  obtain rfl : fn = Tryz.f6 := (Option.some.inj (Tryz.func6.symm.trans hfn)).symm
  refine ⟨by kernel_rfl, fun j t ht => ?_⟩
  rw [Tryz.params6] at ht
  obtain rfl : t = ( /- t -/ 44) := by simpa using Array.mem_of_getElem? ht
  exact (show Tryz.prog.wantsStandIn ( /- t -/ 44) = false by kernel_rfl)

/-- The card. -/
theorem nw_holds : Rows.FnExactNewNetworkCardSaid :=
  Claim7.holds_tied_plain_at .later [] _ _ _ _ nw_said (fun _ h => by cases h) (by kernel_rfl) (fun _ h => by cases h) fnExactNewNetwork_row_tie rfl ⟨rfl, rfl⟩ (by kernel_rfl) rfl nw_plain (by kernel_rfl)

#print axioms nw_holds
end Go.Proofs.YtmkjipnemapdeaaGreatDoor
