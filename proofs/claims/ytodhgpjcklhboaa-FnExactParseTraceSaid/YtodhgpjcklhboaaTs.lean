/- ParseTrace of the model. -/
import Derived.Test.YtodhgpjcklhboaaTc
namespace Go.Proofs.Ytodhgpjcklhboaa.Lo.Ne
open Go.RowKit

def Act.cells (a : Act) : List Value := [.string a.r, .bool a.rc, .string a.p, .string a.l]
def Act.small (a : Act) : Prop := a.r.size ≤ maxLen ∧ a.p.size ≤ maxLen ∧ a.l.size ≤ maxLen
theorem cells_len : ∀ l : List Act, (l.flatMap Act.cells).length = l.length * 4
  | [] => rfl
  | a :: r => by simp only [List.flatMap_cons, List.length_append, cells_len r, List.length_cons]; simp [Act.cells]; omega
theorem row_of_cells {w : World} {b : Nat} : ∀ {l : List Act} {o : Nat}, (∀ a ∈ l, a.small) → (∀ i, i < l.length * 4 → w.cell? ⟨b, o + i, none⟩ = (l.flatMap Act.cells)[i]?) → RowG elA w b o l
  | [], _, _, _ => trivial
  | a :: r, o, hs, hc => by
    have q : ∀ i, i < 4 → w.cell? ⟨b, o + i, none⟩ = (Act.cells a)[i]? := fun i hi => by
      rw [hc i (by simp; omega), List.flatMap_cons, List.getElem?_append_left (by simp [Act.cells]; omega)]
    obtain ⟨s1, s2, s3⟩ := hs a (by simp)
    refine ⟨⟨s1, s2, s3, q 0 (by omega), q 1 (by omega), q 2 (by omega), q 3 (by omega)⟩, row_of_cells (fun x hx => hs x (by simp [hx])) (fun i hi => ?_)⟩
    rw [show o + elA.st + i = o + (4 + i) from by rw [Nat.add_assoc]; rfl, hc (4 + i) (by simp only [List.length_cons]; omega), List.flatMap_cons, List.getElem?_append_right (by simp [Act.cells])]
    simp [Act.cells]
/-- A row of actions of one's own reads as the list. -/
theorem own_acts {w : World} {B : Nat} {v : Value} {l : List Act} (h : w.ownsRow B ( /- t -/ 91) 4 v l.length (l.flatMap Act.cells)) (hs : ∀ a ∈ l, a.small) : ∃ bs, OwG elA w v l bs ∧ (∀ x, x ∈ bs → B ≤ x) ∧ bs.Nodup := by
  cases l with
  | nil =>
    rcases h.2 with ⟨rfl, _⟩ | ⟨g, cap, cur, rfl, _, _, _, h4, _⟩
    · exact ⟨[], ⟨none, 0, rfl, Nat.le_refl _, Nat.zero_le _, Or.inl ⟨rfl, rfl⟩⟩, fun x hx => by simp at hx, List.nodup_nil⟩
    · exact ⟨[], ⟨_, cap, rfl, Nat.zero_le _, h4, Or.inl ⟨rfl, rfl⟩⟩, fun x hx => by simp at hx, List.nodup_nil⟩
  | cons a r =>
    obtain ⟨g0, cap0, e0, _, _, hc⟩ := row_cells h (by simp)
    rcases h.2 with ⟨_, h0⟩ | ⟨g, cap, cur, rfl, h1, h2, h3, h4, h5, h6⟩
    · simp at h0
    · simp only [Value.slice.injEq, Option.some.injEq, Addr.mk.injEq, true_and] at e0
      obtain ⟨⟨rfl, _⟩, rfl⟩ := e0
      refine ⟨[g], ⟨_, cap, rfl, h3, h4, Or.inr ⟨g, _, rfl, rfl, ⟨cur, _, h2, rfl⟩, by simp, row_of_cells hs (fun i hi => ?_)⟩⟩, fun x hx => by simp at hx; omega, by simp⟩
      rw [Nat.zero_add]
      exact hc i hi

/-- What reading a trace owes: the trace and true, or an empty one and false. -/
def PtPost (s : List UInt8) (w : World) (e : Ending) (w' : World) : Prop :=
  ∃ v bs, e = .returned (.tuple #[v, .bool (resT s).isSome]) ∧ OwG elA w' v ((resT s).getD []) bs ∧ (∀ x, x ∈ bs → w.heap.size ≤ x) ∧ bs.Nodup ∧ Below w.heap.size w w' ∧ w.heap.size ≤ w'.heap.size

theorem mk_small (f : List UInt8) : (mk f).small := by
  unfold mk
  split
  · exact ⟨by simp [actOf, bs_size, maxLen], by simp [actOf, bs_size, maxLen], by simp [actOf, bs_size, maxLen]⟩
  · exact ⟨by simp [bs_size], by simp [bs_size], by simp [bs_size]⟩

theorem Try.info_act : (Try.prog.info? ( /- t -/ 91)).map (fun i => (i.zero, i.size, i.bytes)) = some (some (.agg #[.string ⟨#[]⟩, .bool false, .string ⟨#[]⟩, .string ⟨#[]⟩]), 4, 56) := by kernel_rfl

theorem box4_frozen {w : World} {b : Nat} {v0 v1 v2 v3 : Value} (h : Box4 w b v0 v1 v2 v3) (o : Nat) : w.frozen? ⟨b, o, none⟩ = false := by
  obtain ⟨t, h⟩ := h
  simp [World.frozen?, h]
theorem box4_set {w : World} {b : Nat} {v0 v1 v2 v3 : Value} (h : Box4 w b v0 v1 v2 v3) (u0 u1 u2 u3 : Value) :
    Box4 ((((w.setCell ⟨b, 0, none⟩ u0).setCell ⟨b, 1, none⟩ u1).setCell ⟨b, 2, none⟩ u2).setCell ⟨b, 3, none⟩ u3) b u0 u1 u2 u3 := by
  obtain ⟨t, h⟩ := h
  exact ⟨t, heap_setCell_same (heap_setCell_same (heap_setCell_same (heap_setCell_same h _) _) _) _⟩
theorem cut_step {s : List UInt8} {k : Nat} {f : List UInt8} (h : (cut s)[k]? = some f) : (((cut s).take (k + 1)).map mk).flatMap Act.cells = (((cut s).take k).map mk).flatMap Act.cells ++ (mk f).cells := by
  obtain ⟨hk, rfl⟩ := List.getElem?_eq_some_iff.1 h
  rw [List.take_succ_eq_append_getElem hk, List.map_append, List.flatMap_append]
  simp only [List.map_cons, List.map_nil, List.flatMap_cons, List.flatMap_nil, List.append_nil]

theorem four_bytes (a b c d : UInt8) : (bs [a, b, c, d]).extract 0 1 = bs [a] ∧ (bs [a, b, c, d]).extract 2 3 = bs [c] ∧ (bs [a, b, c, d]).extract 3 4 = bs [d] := by
  refine ⟨?_, ?_, ?_⟩ <;>
  · apply ByteArray.ext
    simp only [bs, ByteArray.data_extract, List.extract_toArray]
    rfl

set_option maxHeartbeats 1600000 in
set_option maxRecDepth 100000 in
/-- ParseTrace of the model. -/
theorem specParse (w : World) (s : List UInt8) (hs : s.length ≤ 1048576) :
    Calls Try.prog 28 #[.string (bs s)] w (PtPost s w) := by
  go_enter Try.func28, Try.ntmps28
  go_wp2_with fail
  refine (specCut w s hs).mono ?_
  rintro e w1 ⟨v, rfl, hown, hb, hz⟩
  have hlen : 0 < (cut s).length := List.length_pos_iff.2 (cut_ne s)
  obtain ⟨g, cap, rfl, hg1, hg2, hcells⟩ := row_cells hown hlen
  have HC := hide hcells
  have HB := hide hb
  clear hcells hb hown
  go_wp2_with fail
  go_loopw [5, 6] (fun ov iv wr => ∃ k : Nat, iv = .int .i64 k ∧ k ≤ 25 ∧ k + 1 ≤ (cut s).length ∧ wr.ownsRow w1.heap.size ( /- t -/ 91) 4 ov k ((((cut s).take k).map mk).flatMap Act.cells) ∧
    Below w1.heap.size w1 wr ∧ w1.heap.size ≤ wr.heap.size) (fun _ iv _ => 25 - (intOf iv).toNat)
  case atStart =>
    refine ⟨0, rfl, by omega, by omega, ?_, alloc_below _ _, by simp⟩
    exact ⟨rfl, Or.inr ⟨w1.heap.size, 0, #[], rfl, Nat.le_refl _, by show (w1.heap.push _)[w1.heap.size]? = _; simp, Nat.le_refl _, Nat.zero_le _, rfl, rfl⟩⟩
  case round =>
    obtain ⟨k, rfl, hk25, hkl, hown, hb1, hz1⟩ := hrel
    have HO := hide hown
    have HB1 := hide hb1
    obtain ⟨oa, oc, rfl⟩ := row_shape hown
    obtain ⟨i0, hi, hz0, hz11, hz2⟩ := info_parts Try.info_act
    have HI := hide (And.intro hi (And.intro hz0 (And.intro hz11 hz2)))
    clear hi hz0 hz11 hz2 hown
    by_cases hgo : k + 1 < (cut s).length ∧ k ≤ 24
    · have h1 : ((k : Int) + 1 < ((cut s).length : Int)) := by omega
      have h2 : ((k : Int) ≤ 24) := by omega
      obtain ⟨f, hf⟩ : ∃ f, (cut s)[k]? = some f := ⟨_, List.getElem?_eq_getElem (by omega)⟩
      have c0 : wr.cell? ⟨g, k, none⟩ = some (.string (bs f)) := by
        rw [hb1.cell (p := ⟨g, k, none⟩) hg2, HC.out k (by omega), List.getElem?_map, hf]
        rfl
      have hgw : g < wr.heap.size := Nat.lt_of_lt_of_le hg2 hz1
      have hfs : (bs f).size = f.length := bs_size f
      have HF := hide hf
      clear hf hb1 hgo
      by_cases h4 : f.length = 4
      · have h4' : ((f.length : Int) == 4) = true := by simp; omega
        obtain ⟨b0, b1, b2, b3, rfl⟩ : ∃ a b c d, f = [a, b, c, d] := by
          match f, h4 with
          | [a, b, c, d], _ => exact ⟨a, b, c, d, rfl⟩
        obtain ⟨x0, x2, x3⟩ := four_bytes b0 b1 b2 b3
        have hsz4 : (bs [b0, b1, b2, b3]).size = 4 := rfl
        have hin1 : 1 < (bs [b0, b1, b2, b3]).size := by omega
        have hget : (bs [b0, b1, b2, b3])[1]'hin1 = b1 := rfl
        clear hfs
        by_cases hm : b1 = 63
        · have hmm : (((bs [b0, b1, b2, b3])[1]'hin1).toNat : Int) = 63 := by rw [hget, hm]; rfl
          have HM := hide hm
          clear hm hget
          go_wp2_with fail
          go_still_tail 10, (by kernel_rfl)
          change wpList _ _ _ _ _ ((wr.alloc (.cells #[.string ⟨#[]⟩, .bool false, .string ⟨#[]⟩, .string ⟨#[]⟩] ( /- t -/ 91))).drew)
          clear hmm hin1 hsz4 x0 x2 x3 h4 h4'
          have HX := hide (Box4.now wr (.string ⟨#[]⟩) (.bool false) (.string ⟨#[]⟩) (.string ⟨#[]⟩) ( /- t -/ 91)).drew
          have hsw : ((wr.alloc (.cells #[.string ⟨#[]⟩, .bool false, .string ⟨#[]⟩, .string ⟨#[]⟩] ( /- t -/ 91))).drew).heap.size = wr.heap.size + 1 := by simp
          have HBW := hide ((alloc_below wr (.cells #[.string ⟨#[]⟩, .bool false, .string ⟨#[]⟩, .string ⟨#[]⟩] ( /- t -/ 91))).drew)
          generalize (wr.alloc (.cells #[.string ⟨#[]⟩, .bool false, .string ⟨#[]⟩, .string ⟨#[]⟩] ( /- t -/ 91))).drew = W2 at *
          obtain ⟨y0, y1, y2, y3⟩ := HX.out.cells
          have hfr := box4_frozen HX.out
          obtain ⟨z0, z1, z2, z3⟩ := (box4_set HX.out (.string (bs [b0])) (.bool true) (.string (bs [b2])) (.string (bs [b3]))).cells
          have HWA : Hid (Below wr.heap.size wr (((((W2.setCell ⟨wr.heap.size, 0, none⟩ (.string (bs [b0]))).setCell ⟨wr.heap.size, 1, none⟩ (.bool true)).setCell ⟨wr.heap.size, 2, none⟩ (.string (bs [b2]))).setCell ⟨wr.heap.size, 3, none⟩ (.string (bs [b3]))).alloc (.cells #[.string (bs [b0]), .bool true, .string (bs [b2]), .string (bs [b3])] ( /- t -/ 91)))) := hide (((((HBW.out.setCell (by simp) _).setCell (by simp) _).setCell (by simp) _).setCell (by simp) _).alloc (by simp; omega) _)
          have HNW : Hid ((((((W2.setCell ⟨wr.heap.size, 0, none⟩ (.string (bs [b0]))).setCell ⟨wr.heap.size, 1, none⟩ (.bool true)).setCell ⟨wr.heap.size, 2, none⟩ (.string (bs [b2]))).setCell ⟨wr.heap.size, 3, none⟩ (.string (bs [b3]))).alloc (.cells #[.string (bs [b0]), .bool true, .string (bs [b2]), .string (bs [b3])] ( /- t -/ 91))).heap[(⟨wr.heap.size + 1, 0, none⟩ : Addr).block]? = some (.cells #[.string (bs [b0]), .bool true, .string (bs [b2]), .string (bs [b3])] ( /- t -/ 91) (0, 0))) := by
            have h := heap_alloc_new ((((W2.setCell ⟨wr.heap.size, 0, none⟩ (.string (bs [b0]))).setCell ⟨wr.heap.size, 1, none⟩ (.bool true)).setCell ⟨wr.heap.size, 2, none⟩ (.string (bs [b2]))).setCell ⟨wr.heap.size, 3, none⟩ (.string (bs [b3]))) (.cells #[.string (bs [b0]), .bool true, .string (bs [b2]), .string (bs [b3])] ( /- t -/ 91))
            unfold Hid
            simpa [hsw] using h
          go_wp2_with (first | (at_builtin; go_loud (refine wpList_append_lies _ rfl _ _ ( /- t -/ 51) rfl w1.heap.size ( /- t -/ 91) i0 _ 4 56 Try.underlying51 HI.out.1 HI.out.2.1 HI.out.2.2.1 HI.out.2.2.2 rfl (by omega) (.slice oa k oc) k ((((cut s).take k).map mk).flatMap Act.cells) (by rfl) (row_below HO.out HWA.out) ⟨wr.heap.size + 1, 0, none⟩ 1 1 [.string (bs [b0]), .bool true, .string (bs [b2]), .string (bs [b3])] (by rfl) (by rfl) (World.news_of_block (cs := #[.string (bs [b0]), .bool true, .string (bs [b2]), .string (bs [b3])]) (t := ( /- t -/ 91)) (fr := (0, 0)) HNW.out) (by simp [Value.oneCell']) (by omega) (by unfold maxLen; omega) (by omega) (by simp; omega) _ rfl ?_; intro gg cp w6 hown6 hgrow6 hat6 hlt6)) | fail)

          have HB6 := hide (grown_below (row_below HO.out HWA.out) (HB1.out.trans (HWA.out.mono hz1)) (Nat.le_trans hz1 HWA.out.size) hgrow6)
          have hz6 := hgrow6.size
          simp at hz6
          refine ⟨⟨k + 1, by go_num, by omega, by omega, ?_, HB6.out, by omega⟩, by simp [intOf]; omega⟩
          rw [cut_step HF.out]
          rw [show mk [b0, b1, b2, b3] = ⟨bs [b0], true, bs [b2], bs [b3]⟩ by rw [HM.out]; rfl]
          exact hown6
        · have hmm : ¬ (((bs [b0, b1, b2, b3])[1]'hin1).toNat : Int) = 63 := by
            rw [hget]
            intro h
            exact hm (UInt8.toNat_inj.1 (by have : (63 : UInt8).toNat = 63 := rfl; omega))
          have hmb : ((((bs [b0, b1, b2, b3])[1]'hin1).toNat : Int) == 63) = false := beq_eq_false_iff_ne.2 hmm
          have HM := hide hm
          clear hm hget
          go_wp2_with fail
          go_still_tail 10, (by kernel_rfl)
          change wpList _ _ _ _ _ ((wr.alloc (.cells #[.string ⟨#[]⟩, .bool false, .string ⟨#[]⟩, .string ⟨#[]⟩] ( /- t -/ 91))).drew)
          clear hmb hmm x0 x2 x3
          have HX := hide (Box4.now wr (.string ⟨#[]⟩) (.bool false) (.string ⟨#[]⟩) (.string ⟨#[]⟩) ( /- t -/ 91)).drew
          have hsw : ((wr.alloc (.cells #[.string ⟨#[]⟩, .bool false, .string ⟨#[]⟩, .string ⟨#[]⟩] ( /- t -/ 91))).drew).heap.size = wr.heap.size + 1 := by simp
          have HBW := hide ((alloc_below wr (.cells #[.string ⟨#[]⟩, .bool false, .string ⟨#[]⟩, .string ⟨#[]⟩] ( /- t -/ 91))).drew)
          generalize (wr.alloc (.cells #[.string ⟨#[]⟩, .bool false, .string ⟨#[]⟩, .string ⟨#[]⟩] ( /- t -/ 91))).drew = W2 at *
          obtain ⟨y0, y1, y2, y3⟩ := HX.out.cells
          have hfr := box4_frozen HX.out
          obtain ⟨z0, z1, z2, z3⟩ := (box4_set HX.out (.string (bs [b0])) (.bool false) (.string (bs [b2])) (.string (bs [b3]))).cells
          have HWA : Hid (Below wr.heap.size wr (((((W2.setCell ⟨wr.heap.size, 0, none⟩ (.string (bs [b0]))).setCell ⟨wr.heap.size, 1, none⟩ (.bool false)).setCell ⟨wr.heap.size, 2, none⟩ (.string (bs [b2]))).setCell ⟨wr.heap.size, 3, none⟩ (.string (bs [b3]))).alloc (.cells #[.string (bs [b0]), .bool false, .string (bs [b2]), .string (bs [b3])] ( /- t -/ 91)))) := hide (((((HBW.out.setCell (by simp) _).setCell (by simp) _).setCell (by simp) _).setCell (by simp) _).alloc (by simp; omega) _)
          have HNW : Hid ((((((W2.setCell ⟨wr.heap.size, 0, none⟩ (.string (bs [b0]))).setCell ⟨wr.heap.size, 1, none⟩ (.bool false)).setCell ⟨wr.heap.size, 2, none⟩ (.string (bs [b2]))).setCell ⟨wr.heap.size, 3, none⟩ (.string (bs [b3]))).alloc (.cells #[.string (bs [b0]), .bool false, .string (bs [b2]), .string (bs [b3])] ( /- t -/ 91))).heap[(⟨wr.heap.size + 1, 0, none⟩ : Addr).block]? = some (.cells #[.string (bs [b0]), .bool false, .string (bs [b2]), .string (bs [b3])] ( /- t -/ 91) (0, 0))) := by
            have h := heap_alloc_new ((((W2.setCell ⟨wr.heap.size, 0, none⟩ (.string (bs [b0]))).setCell ⟨wr.heap.size, 1, none⟩ (.bool false)).setCell ⟨wr.heap.size, 2, none⟩ (.string (bs [b2]))).setCell ⟨wr.heap.size, 3, none⟩ (.string (bs [b3]))) (.cells #[.string (bs [b0]), .bool false, .string (bs [b2]), .string (bs [b3])] ( /- t -/ 91))
            unfold Hid
            simpa [hsw] using h
          go_wp2_with (first | (at_builtin; go_loud (refine wpList_append_lies _ rfl _ _ ( /- t -/ 51) rfl w1.heap.size ( /- t -/ 91) i0 _ 4 56 Try.underlying51 HI.out.1 HI.out.2.1 HI.out.2.2.1 HI.out.2.2.2 rfl (by omega) (.slice oa k oc) k ((((cut s).take k).map mk).flatMap Act.cells) (by rfl) (row_below HO.out HWA.out) ⟨wr.heap.size + 1, 0, none⟩ 1 1 [.string (bs [b0]), .bool false, .string (bs [b2]), .string (bs [b3])] (by rfl) (by rfl) (World.news_of_block (cs := #[.string (bs [b0]), .bool false, .string (bs [b2]), .string (bs [b3])]) (t := ( /- t -/ 91)) (fr := (0, 0)) HNW.out) (by simp [Value.oneCell']) (by omega) (by unfold maxLen; omega) (by omega) (by simp; omega) _ rfl ?_; intro gg cp w6 hown6 hgrow6 hat6 hlt6)) | fail)

          have HB6 := hide (grown_below (row_below HO.out HWA.out) (HB1.out.trans (HWA.out.mono hz1)) (Nat.le_trans hz1 HWA.out.size) hgrow6)
          have hz6 := hgrow6.size
          simp at hz6
          refine ⟨⟨k + 1, by go_num, by omega, by omega, ?_, HB6.out, by omega⟩, by simp [intOf]; omega⟩
          rw [cut_step HF.out]
          rw [show mk [b0, b1, b2, b3] = ⟨bs [b0], false, bs [b2], bs [b3]⟩ by simp only [mk, actOf]; rw [beq_eq_false_iff_ne.2 HM.out]]
          exact hown6
      · have h4' : ((f.length : Int) == 4) = false := beq_eq_false_iff_ne.2 (by omega)
        have HWA : Hid (Below wr.heap.size wr ((wr.alloc (.cells #[.string ⟨#[]⟩, .bool false, .string ⟨#[]⟩, .string ⟨#[]⟩] ( /- t -/ 91))).alloc (.cells #[.string ⟨#[]⟩, .bool false, .string ⟨#[]⟩, .string ⟨#[]⟩] ( /- t -/ 91)))) := hide ((alloc_below wr _).alloc (by simp) _)
        have HNW : Hid (((wr.alloc (.cells #[.string ⟨#[]⟩, .bool false, .string ⟨#[]⟩, .string ⟨#[]⟩] ( /- t -/ 91))).alloc (.cells #[.string ⟨#[]⟩, .bool false, .string ⟨#[]⟩, .string ⟨#[]⟩] ( /- t -/ 91))).heap[(⟨wr.heap.size + 1, 0, none⟩ : Addr).block]? = some (.cells #[.string ⟨#[]⟩, .bool false, .string ⟨#[]⟩, .string ⟨#[]⟩] ( /- t -/ 91) (0, 0))) := by
          have h := heap_alloc_new (wr.alloc (.cells #[.string ⟨#[]⟩, .bool false, .string ⟨#[]⟩, .string ⟨#[]⟩] ( /- t -/ 91))) (.cells #[.string ⟨#[]⟩, .bool false, .string ⟨#[]⟩, .string ⟨#[]⟩] ( /- t -/ 91))
          unfold Hid
          simpa using h
        have hmk0 : mk f = ⟨bs [], false, bs [], bs []⟩ := by
          unfold mk
          split
          · exact absurd rfl h4
          · rfl
        have HM0 := hide hmk0
        clear hmk0 h4
        go_wp2_with (first | (at_builtin; go_loud (refine wpList_append_lies _ rfl _ _ ( /- t -/ 51) rfl w1.heap.size ( /- t -/ 91) i0 _ 4 56 Try.underlying51 HI.out.1 HI.out.2.1 HI.out.2.2.1 HI.out.2.2.2 rfl (by omega) (.slice oa k oc) k ((((cut s).take k).map mk).flatMap Act.cells) (by rfl) (row_below HO.out HWA.out) ⟨wr.heap.size + 1, 0, none⟩ 1 1 [.string ⟨#[]⟩, .bool false, .string ⟨#[]⟩, .string ⟨#[]⟩] (by rfl) (by rfl) (World.news_of_block (cs := #[.string ⟨#[]⟩, .bool false, .string ⟨#[]⟩, .string ⟨#[]⟩]) (t := ( /- t -/ 91)) (fr := (0, 0)) HNW.out) (by simp [Value.oneCell']) (by omega) (by unfold maxLen; omega) (by omega) (by simp; omega) _ rfl ?_; intro gg cp w6 hown6 hgrow6 hat6 hlt6)) | fail)
        have HB6 := hide (grown_below (row_below HO.out HWA.out) (HB1.out.trans (HWA.out.mono hz1)) (Nat.le_trans hz1 HWA.out.size) hgrow6)
        have hz6 := hgrow6.size
        simp at hz6
        refine ⟨⟨k + 1, by go_num, by omega, by omega, ?_, HB6.out, by omega⟩, by simp [intOf]; omega⟩
        rw [cut_step HF.out, HM0.out]
        exact hown6
    · have hex : ((cut s).length : Int) ≤ (k : Int) + 1 ∨ (24 : Int) < k := by omega
      have HE : Hid (spT s = ((cut s).take k).map mk) := by
        unfold Hid spT
        congr 1
        rw [List.dropLast_eq_take, List.take_take]
        congr 1
        omega
      have HL : Hid (k = (spT s).length) := by
        unfold Hid
        rw [HE.out, List.length_map, List.length_take]
        omega
      have hown2 := HO.out
      rw [← HE.out] at hown2
      have HSM : Hid (∀ a ∈ spT s, a.small) := fun a ha => by
        rw [HE.out] at ha
        obtain ⟨f, _, rfl⟩ := List.mem_map.1 ha
        exact mk_small f
      obtain ⟨ob, how, hge, hnd⟩ := own_acts (v := .slice oa k oc) (l := spT s) (by rw [← HL.out]; exact hown2) HSM.out
      have HW := hide how
      have HGE := hide hge
      have HBW := hide (HB.out.trans (hb1.mono hz))
      have hzz : w.heap.size ≤ wr.heap.size := Nat.le_trans hz hz1
      clear hown2 how hge hb1
      have HRES : Hid (∀ b, (resT s).isSome = b → (b = true → spT s = (resT s).getD [] ∧ okT (spT s) = true ∧ txT (spT s) = bs s) ∧ (b = false → (resT s).getD [] = [] ∧ ¬ (okT (spT s) = true ∧ txT (spT s) = bs s))) := by
        intro b hb
        cases hr : resT s with
        | some t =>
          rw [hr] at hb
          obtain ⟨e1, e2, e3⟩ := spT_yes hr
          refine ⟨fun _ => ⟨e1, by rw [e1]; exact e2, by rw [e1]; exact e3⟩, fun h => ?_⟩
          rw [h] at hb
          simp at hb
        | none =>
          rw [hr] at hb
          refine ⟨fun h => ?_, fun _ => ⟨rfl, spT_no hr⟩⟩
          rw [h] at hb
          simp at hb
      have HNO : Hid (¬ (okT (spT s) = true ∧ txT (spT s) = bs s) → ∀ (w2 : World) (p : Addr) (n : Nat), Below w.heap.size w w2 → w.heap.size ≤ w2.heap.size → PtPost s w (.returned (.tuple #[.slice (some p) 0 0, .bool false])) w2) := by
        intro h w2 p n hb hz
        have hi : (resT s).isSome = false := by
          cases hi : (resT s).isSome with
          | false => rfl
          | true =>
            obtain ⟨_, e2, e3⟩ := (HRES.out _ hi).1 rfl
            exact absurd ⟨e2, e3⟩ h
        refine ⟨.slice (some p) 0 0, [], by rw [hi], ?_, fun _ h => absurd h (List.not_mem_nil), List.nodup_nil, hb, hz⟩
        rw [((HRES.out _ hi).2 rfl).1]
        exact ⟨_, _, rfl, Nat.le_refl _, Nat.zero_le _, Or.inl ⟨rfl, rfl⟩⟩
      have HYES : Hid (okT (spT s) = true ∧ txT (spT s) = bs s → ∀ (w2 : World) (v : Value) (ob : List Nat), OwG elA w2 v (spT s) ob → (∀ x, x ∈ ob → w.heap.size ≤ x) → ob.Nodup → Below w.heap.size w w2 → w.heap.size ≤ w2.heap.size → PtPost s w (.returned (.tuple #[v, .bool true])) w2) := by
        intro h w2 v ob how hge hnd hb hz
        have hi : (resT s).isSome = true := by
          cases hi : (resT s).isSome with
          | true => rfl
          | false => exact absurd h ((HRES.out _ hi).2 rfl).2
        exact ⟨v, ob, by rw [hi], by rw [← ((HRES.out _ hi).1 rfl).1]; exact how, hge, hnd, hb, hz⟩
      have hkk : k = (spT s).length := HL.out
      clear hex HRES
      by_cases hA : k + 1 < (cut s).length
      all_goals
        first
          | (have h1 : ((k : Int) + 1 < ((cut s).length : Int)) := by omega)
          | (have h1 : ¬ ((k : Int) + 1 < ((cut s).length : Int)) := by omega)
        (try have h2 : ¬ ((k : Int) ≤ 24) := by omega)
        clear hgo hA hkk
        go_wp2_with fail
        refine (specTrace _ _ (spT s) HW.out.sl).mono ?_
        rintro e w3 ⟨rfl, hb3⟩
        have HB3 := hide (HBW.out.trans (hb3.mono hzz))
        have HW3 := hide (HW.out.same elA_flat (Same.of_below hb3 HW.out.lt))
        have hz3 := hb3.size
        clear hb3
        cases hok : okT (spT s) with
        | false =>
          have HK := hide hok
          go_wp2_with fail
          go_ret2
          exact HNO.out (by rw [HK.out]; simp) _ _ 0 (HB3.out.alloc (by omega) _) (by simp; omega)
        | true =>
          have HK := hide hok
          go_wp2_with fail
          refine (specFmt _ _ (spT s) HW3.out.sl).mono ?_
          rintro e w4 ⟨rfl, hb4⟩
          have HB4 := hide (HB3.out.trans (hb4.mono (by omega)))
          have HW4 := hide (HW3.out.same elA_flat (Same.of_below hb4 HW3.out.lt))
          have hz4 := hb4.size
          clear hb4
          have htx : textT (spT s) = txT (spT s) := by unfold textT; rw [HK.out]; rfl
          rw [htx]
          by_cases heq : txT (spT s) = bs s
          · have HQ := hide heq
            rw [heq]
            clear heq htx hok
            go_wp2_with fail
            go_ret2
            exact HYES.out ⟨HK.out, HQ.out⟩ _ _ ob HW4.out (fun x hx => Nat.le_trans hz (HGE.out x hx)) hnd HB4.out (by omega)
          · have HQ := hide heq
            have hne : ¬ (txT (spT s)).toList = (bs s).toList := fun h => heq (by
              rw [ByteArray.toList_eq, ByteArray.toList_eq] at h
              exact ByteArray.ext (Array.toList_inj.1 h))
            have hnb : ((txT (spT s)).toList == (bs s).toList) = false := beq_eq_false_iff_ne.2 hne
            generalize txT (spT s) = tt at hne hnb
            clear heq htx hok
            go_wp2_with fail
            go_ret2
            exact HNO.out (fun h => HQ.out h.2) _ _ 0 (HB4.out.alloc (by omega) _) (by simp; omega)
end Go.Proofs.Ytodhgpjcklhboaa.Lo.Ne
