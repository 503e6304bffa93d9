/- linkNode of the program: variables and recursions. -/
import Derived.Test.YtfppglfajbmapaaDoorLLi
import Derived.Test.YtfppglfajbmapaaDoorLLs
namespace Go.Proofs.YtfppglfajbmapaaDoor.Lo
open Go.RowKit

theorem var_valid {fr : ByteArray} {ix b u d : Int} {kids : F} (hd : 1 ≤ d) (hsh : shapeB 5 fr ix kids = true) : vldN 5 fr ix kids b u d = (decide (u ≤ ix) && decide (ix < b)) := by
  unfold vldN
  rw [nodeB_shape, hsh, decide_eq_true hd]
  rfl

set_option maxHeartbeats 400000 in
set_option maxRecDepth 100000 in
theorem li_var_bad (w : World) (ix depth ung : Int) (fr : ByteArray) (sv lv : Value) (kids : F) (ps : List Nat) (c m : Nat) (hp : Ps w lv ps) (hs : Sl w sv kids) (hc : Ctr w c m) (hm : m ≤ 399) (hd : depth ≤ 40) (hsh : shapeB 5 fr ix kids = true)
    (hix : ix < ung ∨ (ung ≤ ix ∧ ps.length ≤ ix)) :
    Calls Tryd.prog 99 #[.agg #[.int .i64 5, .string fr, .int .i64 ix, sv], .agg #[.int .i64 depth, lv, .int .i64 ung], .pointer (some ⟨c, 0, none⟩)] w
      (LiPost c w m 5 fr ix kids ps (vldN 5 fr ix kids ps.length ung (41 - depth))) := by
  have hv := var_valid (b := ps.length) (u := ung) (d := 41 - depth) (by omega) hsh
  have hvf : vldN 5 fr ix kids ps.length ung (41 - depth) = false := by
    rw [hv]
    rcases hix with h | ⟨h, h2⟩
    · rw [decide_eq_false (by omega)]; rfl
    · rw [decide_eq_false (show ¬ ix < (ps.length : Int) by omega), Bool.and_false]
  rw [hvf]
  obtain ⟨a, cap, rfl, -, -⟩ := hp.val
  have h0 := hc.cell
  have h1 : w.frozen? ⟨c, 0, none⟩ = false := hc.frozen
  have h2 := hc.lt
  have HS := hide hs
  have HSH := hide hsh
  clear hs hsh hp hv hvf
  go_enter Tryd.func99, Tryd.ntmps99
  go_wp2_with fail
  have q0 := li_start (cs := #[.int .i64 5, .string fr, .int .i64 ix, sv]) (t := ( /- t -/ 35)) (ds := #[.int .i64 depth, .slice a ps.length cap, .int .i64 ung]) (u := ( /- t -/ 105)) hc (Below.refl _ _)
  refine (implShape _ 5 ix fr sv kids (HS.out.only hc q0.1)).mono ?_
  clear q0
  rintro e w1 ⟨rfl, hb⟩
  rw [HSH.out]
  obtain ⟨p1, p2, hz, b1, b2⟩ := li_start hc (hb.mono (by simp))
  have x0 : w1.cell? ⟨w.heap.size, 0, none⟩ = some (.int .i64 5) := b1.cell 0
  have x2 : w1.cell? ⟨w.heap.size, 2, none⟩ = some (.int .i64 ix) := b1.cell 2
  have y1 : w1.cell? ⟨w.heap.size + 1, 1, none⟩ = some (.slice a ps.length cap) := b2.cell 1
  have y2 : w1.cell? ⟨w.heap.size + 1, 2, none⟩ = some (.int .i64 ung) := b2.cell 2
  have hz1 : w.heap.size < w1.heap.size := by omega
  clear hb b1 b2
  rcases hix with hix | ⟨hix, hix2⟩
  · go_wp2_with fail
    go_ret2
    exact li_no rfl p1 p2
  · go_wp2_with fail
    go_ret2
    exact li_no rfl p1 p2

set_option maxHeartbeats 400000 in
set_option maxRecDepth 100000 in
theorem li_var_ok (w : World) (depth ung : Int) (i j : Nat) (fr : ByteArray) (sv lv : Value) (kids : F) (ps : List Nat) (c m : Nat) (hp : Ps w lv ps) (hs : Sl w sv kids) (hc : Ctr w c m) (hm : m ≤ 399) (hd : depth ≤ 40) (hlen : ps.length + 1 ≤ depth) (hsh : shapeB 5 fr i kids = true)
    (hix : ung ≤ i) (hj : ps.length = j + 1 + i) :
    Calls Tryd.prog 99 #[.agg #[.int .i64 5, .string fr, .int .i64 i, sv], .agg #[.int .i64 depth, lv, .int .i64 ung], .pointer (some ⟨c, 0, none⟩)] w
      (LiPost c w m 5 fr i kids ps (vldN 5 fr i kids ps.length ung (41 - depth))) := by
  have hv : vldN 5 fr i kids ps.length ung (41 - depth) = true := by
    rw [var_valid (by omega) hsh, decide_eq_true hix, decide_eq_true (by omega)]
    rfl
  rw [hv]
  have hk : kids = .nil := (shape_var hsh).2
  rcases hp with ⟨rfl, -⟩ | ⟨b, cap, hne, rfl, hcap, hmax, hcell⟩
  · exfalso
    have : (0 : Nat) = j + 1 + i := hj
    omega
  obtain ⟨l, hl⟩ : ∃ l, ps[j]? = some l := ⟨ps[j]'(by omega), List.getElem?_eq_getElem (by omega)⟩
  have hcl := hcell j l hl
  rw [hj]
  have h0 := hc.cell
  have h1 : w.frozen? ⟨c, 0, none⟩ = false := hc.frozen
  have h2 := hc.lt
  have HS := hide hs
  have HSH := hide hsh
  have HC := hide hcl
  have HL := hide hl
  have HJ := hide hj
  have HV := hide hv
  have hj40 : j + 1 + i ≤ 40 := by omega
  have hji : (j : Int) + 1 + i - 1 - i = j := by omega
  clear hs hsh hv hcl hl hj hcell hne
  go_enter Tryd.func99, Tryd.ntmps99
  go_wp2_with fail
  have q0 := li_start (cs := #[.int .i64 5, .string fr, .int .i64 i, sv]) (t := ( /- t -/ 35)) (ds := #[.int .i64 depth, .slice (some ⟨b, 0, none⟩) (j + 1 + i) cap, .int .i64 ung]) (u := ( /- t -/ 105)) hc (Below.refl _ _)
  refine (implShape _ 5 i fr sv kids (HS.out.only hc q0.1)).mono ?_
  clear q0
  rintro e w1 ⟨rfl, hb⟩
  rw [HSH.out]
  obtain ⟨p1, p2, hz, b1, b2⟩ := li_start hc (hb.mono (by simp))
  have x0 : w1.cell? ⟨w.heap.size, 0, none⟩ = some (.int .i64 5) := b1.cell 0
  have x2 : w1.cell? ⟨w.heap.size, 2, none⟩ = some (.int .i64 i) := b1.cell 2
  have y1 : w1.cell? ⟨w.heap.size + 1, 1, none⟩ = some (.slice (some ⟨b, 0, none⟩) (j + 1 + i) cap) := b2.cell 1
  have y2 : w1.cell? ⟨w.heap.size + 1, 2, none⟩ = some (.int .i64 ung) := b2.cell 2
  have hz1 : w.heap.size < w1.heap.size := by omega
  have z0 : w1.cell? ⟨b, j, none⟩ = some (.pointer (some ⟨l, 0, none⟩)) := by
    have hne : b ≠ c := by
      rintro rfl
      have g0 := HC.out
      obtain ⟨t, hh⟩ := hc
      simp only [World.cell?, hh] at g0
      cases j with
      | zero => simp at g0
      | succ x => simp at g0
    rw [Same.cell (p1.block b (World.block_lt_of_cell? _ _ HC.out) hne)]
    exact HC.out
  have hbw : b < w1.heap.size := World.block_lt_of_cell? _ _ z0
  clear hb b1 b2
  go_wp2_with fail
  go_ret2
  have h1 : kids.sz = 0 := by rw [hk]; rfl
  have h3 : (true && decide (m + (kids.sz + 1) ≤ 400)) = true := by rw [decide_eq_true (by omega)]; rfl
  refine ⟨m + 1, _, [], by rw [h3]; rfl, Or.inr ⟨_, _, rfl⟩, p1, p2, fun _ => ⟨by rw [h1], Or.inr (Or.inl ⟨rfl, ⟨l, by omega, by have := HJ.out; omega, ?_, rfl⟩, rfl⟩), fun b hb => by simp at hb⟩⟩
  rw [HJ.out, Int.toNat_natCast, show j + 1 + i - 1 - i = j by omega]
  exact HL.out

theorem rec_valid {lab fr : ByteArray} {ix b u d : Int} {k' ix' : Int} {fr' : ByteArray} {kids' : F} (hd : 1 ≤ d) (hsh : shapeB 4 fr ix (.cons lab k' fr' ix' kids' .nil) = true) :
    vldN 4 fr ix (.cons lab k' fr' ix' kids' .nil) b u d = vldN k' fr' ix' kids' (b + 1) (u + 1) (d - 1) := by
  conv => lhs; unfold vldN
  rw [nodeB_shape, hsh, decide_eq_true hd]
  simp [vldF, vldN]

theorem rec_end {w w3 : World} {c m m' L : Nat} {u : Value} {k' ix' : Int} {lab fr fr' : ByteArray} {kids' : F} {ps ks : List Nat} {v : Bool} (ho : Only c w w3) (hc : Ctr w3 c m') (hb : Blk w3 L #[.nilIface]) (hLw : w.heap.size ≤ L) (hLc : c ≠ L) (hLp : L ∉ ps)
    (hok : (v && decide (m + 1 + (kids'.sz + 1) ≤ 400)) = true → m' = m + 1 + (kids'.sz + 1) ∧ LkN w3 k' fr' ix' kids' (ps ++ [L]) u ks ∧ ∀ b, b ∈ ks → L < b) :
    LiPost c w m 4 fr 0 (.cons lab k' fr' ix' kids' .nil) ps v (.returned (.tuple #[.iface ( /- t -/ 194) (.pointer (some ⟨L, 0, none⟩)), .bool (v && decide (m + 1 + (kids'.sz + 1) ≤ 400))])) (w3.setCell ⟨L, 0, none⟩ u) := by
  have e : m + ((F.cons lab k' fr' ix' kids' .nil).sz + 1) = m + 1 + (kids'.sz + 1) := by simp only [F.sz]; omega
  refine ⟨m', _, L :: ks, by rw [e], Or.inr ⟨_, _, rfl⟩, ho.setCell (Or.inr hLw) _, hc.setOther hLc _, fun h => ?_⟩
  rw [e] at h ⊢
  obtain ⟨h1, h2, h3⟩ := hok h
  refine ⟨h1, Or.inr (Or.inr (Or.inl ⟨rfl, L, .string lab, u, ks, rfl, hb.set 0 u, hLp, rfl, u, [], ks, [], rfl, by simp, ?_, rfl, rfl⟩)), fun b hb => ?_⟩
  · exact h2.same (fun b hb => Below.heap_setCell _ _ _ _ (by have := h3 b hb; simp; omega))
  · rcases List.mem_cons.1 hb with rfl | hb
    · exact hLw
    · have := h3 b hb; omega

set_option maxHeartbeats 3200000 in
set_option maxRecDepth 100000 in
theorem li_rec (n : Nat) (ih : LiAt n) (w : World) (ix depth ung : Int) (fr : ByteArray) (sv lv : Value) (kids : F) (ps : List Nat) (c m : Nat) (hn : kids.sz < n + 1) (hp : Ps w lv ps) (hpl : ∀ l, l ∈ ps → l < w.heap.size) (hs : Sl w sv kids) (hc : Ctr w c m) (hm : m ≤ 399)
    (hd0 : 1 ≤ depth) (hd : depth ≤ 40) (hlen : ps.length + 1 ≤ depth) (hu : 0 ≤ ung) (hu2 : ung + 1 ≤ depth) (hsh : shapeB 4 fr ix kids = true) :
    Calls Tryd.prog 99 #[.agg #[.int .i64 4, .string fr, .int .i64 ix, sv], .agg #[.int .i64 depth, lv, .int .i64 ung], .pointer (some ⟨c, 0, none⟩)] w
      (LiPost c w m 4 fr ix kids ps (vldN 4 fr ix kids ps.length ung (41 - depth))) := by
  obtain ⟨e1, rfl, lab, k', fr', ix', kids', rfl, e3⟩ := shape_rec hsh
  rw [rec_valid (by omega) hsh, show 41 - depth - 1 = 41 - (depth + 1) by omega]
  obtain ⟨a, cap, rfl, -, hat⟩ := hs.at
  obtain ⟨b', o', rfl, -⟩ := hat.head
  obtain ⟨pa, pc, rfl, -, -⟩ := hp.val
  have h0 := hc.cell
  have h1 : w.frozen? ⟨c, 0, none⟩ = false := hc.frozen
  have h2 := hc.lt
  have HA := hide hat
  have HS := hide hs
  have HSH := hide hsh
  have HN := hide hn
  have HP := hide hp
  have HPL := hide hpl
  clear hs hsh hat hn e1 e3 hp hpl
  change Calls Tryd.prog 99 #[.agg #[.int .i64 4, .string fr, .int .i64 0, .slice (some ⟨b', o', none⟩) 1 cap], .agg #[.int .i64 depth, .slice pa ps.length pc, .int .i64 ung], .pointer (some ⟨c, 0, none⟩)] w _
  go_enter Tryd.func99, Tryd.ntmps99
  go_wp2_with fail
  have q0 := li_start (cs := #[.int .i64 4, .string fr, .int .i64 0, .slice (some ⟨b', o', none⟩) 1 cap]) (t := ( /- t -/ 35)) (ds := #[.int .i64 depth, .slice pa ps.length pc, .int .i64 ung]) (u := ( /- t -/ 105)) hc (Below.refl _ _)
  refine (implShape _ 4 0 fr _ _ (HS.out.only hc q0.1)).mono ?_
  clear q0
  rintro e w1 ⟨rfl, hb⟩
  rw [HSH.out]
  obtain ⟨p1, p2, hz, b1, b2⟩ := li_start hc (hb.mono (by simp))
  have x0 : w1.cell? ⟨w.heap.size, 0, none⟩ = some (.int .i64 4) := b1.cell 0
  have hz1 : w.heap.size < w1.heap.size := by omega
  have HB1 := hide b1
  have HB2 := hide b2
  clear hb b1 b2
  go_wp2_with fail
  have oW := p1.alloc (.cells #[.nilIface] ( /- t -/ 199))
  have cW := p2.alloc (.cells #[.nilIface] ( /- t -/ 199))
  have hbW := alloc_below w1 (.cells #[.nilIface] ( /- t -/ 199))
  have bL := Blk.now w1 #[.nilIface] ( /- t -/ 199)
  have B1 := HB1.out.below hbW
  have B2 := HB2.out.below hbW
  have hzW : w1.heap.size < (w1.alloc (.cells #[.nilIface] ( /- t -/ 199))).heap.size := by simp
  generalize (w1.alloc (.cells #[.nilIface] ( /- t -/ 199))) = W at *
  have hcL : c < w1.heap.size := by omega
  have hL1 : w.heap.size + 1 < w1.heap.size := hz
  generalize w1.heap.size = L at *
  obtain ⟨b2, o2, e2, -, -, -, -, d0, d1, d2, d3, ⟨sv', d4, hsv⟩, -⟩ := (HA.out.only hc oW).head
  simp only [Option.some.injEq, Addr.mk.injEq, and_true] at e2
  obtain ⟨rfl, rfl⟩ := e2
  simp only [Nat.zero_mul, Nat.add_zero] at d0 d1 d2 d3 d4
  obtain ⟨ka, kc, rfl, -, -⟩ := hsv.at
  have hbr : b' < W.heap.size := World.block_lt_of_cell? _ _ d0
  have hbc : b' ≠ c := by
    rintro rfl
    have g0 := d0
    obtain ⟨t, hh⟩ := cW
    simp only [World.cell?, hh] at g0
    cases o' with
    | zero => simp at g0
    | succ o => simp at g0
  have x3 : W.cell? ⟨w.heap.size, 3, none⟩ = some (.slice (some ⟨b', o', none⟩) 1 cap) := B1.cell 3
  have y0 : W.cell? ⟨w.heap.size + 1, 0, none⟩ = some (.int .i64 depth) := B2.cell 0
  have y1 : W.cell? ⟨w.heap.size + 1, 1, none⟩ = some (.slice pa ps.length pc) := B2.cell 1
  have y2 : W.cell? ⟨w.heap.size + 1, 2, none⟩ = some (.int .i64 ung) := B2.cell 2
  have hzW0 : w.heap.size < W.heap.size := by omega
  have hzW1 : w.heap.size + 1 < W.heap.size := by omega
  have HPd : Hid (Ps W.drew (.slice pa ps.length pc) ps) := by
    have h1 := HP.out.only hc oW
    exact h1.still (fun _ _ h => h)
  have hsvd : Sl W.drew (.slice ka kids'.len kc) kids' := Sl.still (w := W) (w' := W.drew) (fun _ _ h => h) hsv
  have HSV := hide hsvd
  have HBL := hide bL
  have HO := hide oW
  have HC := hide cW
  have hz3 : kids'.sz < n := by have := HN.out; simp only [F.sz] at this; omega
  have HZ := hide hz3
  clear x0 p1 p2 hbW HB1 HB2 B1 B2 hsv hsvd bL oW cW d0 hz3
  go_region_held3 (fun w' => w'.cell? ⟨w.heap.size, 3, none⟩ = some (.slice (some ⟨b', o', none⟩) 1 cap) ∧ w'.cell? ⟨b', o' + 1, none⟩ = some (.int .i64 k') ∧ w'.cell? ⟨b', o' + 2, none⟩ = some (.string fr') ∧ w'.cell? ⟨b', o' + 3, none⟩ = some (.int .i64 ix') ∧ w'.cell? ⟨b', o' + 4, none⟩ = some (.slice ka kids'.len kc) ∧
      w'.cell? ⟨w.heap.size + 1, 0, none⟩ = some (.int .i64 depth) ∧ w'.cell? ⟨w.heap.size + 1, 1, none⟩ = some (.slice pa ps.length pc) ∧ w'.cell? ⟨w.heap.size + 1, 2, none⟩ = some (.int .i64 ung))
    (first | exact ⟨x3, d1, d2, d3, d4, y0, y1, y2⟩ | exact ⟨g0, g1, g2, g3, g4, g5, g6, g7⟩ | exact ⟨l0, l1, l2, l3, l4, l5, l6, l7⟩)
    ((first
      | (go_at_call 110; refine (ins_calls _ depth ung _ ps L ?_ (by omega) (by omega) (by omega) (by omega) (by omega)).mono ?_; (exact HPd.out);
         rintro e w2 ⟨v', cap', rfl, hp2, hb2⟩; have hst := Still.of_below hb2; have g0 := hst _ _ x3; have g1 := hst _ _ d1; have g2 := hst _ _ d2; have g3 := hst _ _ d3; have g4 := hst _ _ d4; have g5 := hst _ _ y0; have g6 := hst _ _ y1; have g7 := hst _ _ y2)
      | (go_at_call 99; refine (ih _ k' ix' (depth + 1) (ung + 1) fr' _ _ kids' (ps ++ [L]) c (m + 1) HZ.out ?_ ?_ (by omega) ?_ ?_ (by omega) (by omega) (by simp; omega) (by omega) (by omega)).mono ?_;
         (exact HSV.out.still hst); (exact HC.out.drew.below hb2); (exact hp2.ps); (intro l hl; have := hb2.size; rcases List.mem_append.1 hl with hl | hl; exact Nat.lt_of_lt_of_le (HPL.out l hl) (by simp at this; omega); simp at hl this; omega);
         rintro e w3 ⟨m', u, ks, rfl, hu, o3, c3, hok⟩;
         have o4 := Only.below (Only.refl c W.drew) hb2; have o5 := o4.trans o3;
         have gg : ∀ b o v, b ≠ c → W.cell? ⟨b, o, none⟩ = some v → w3.cell? ⟨b, o, none⟩ = some v := fun b o v hne h => (Same.cell (o5.block b (World.block_lt_of_cell? _ _ h) hne)).trans h;
         have l0 := gg _ _ _ (by omega) x3; have l1 := gg _ _ _ hbc d1; have l2 := gg _ _ _ hbc d2; have l3 := gg _ _ _ hbc d3; have l4 := gg _ _ _ hbc d4; have l5 := gg _ _ _ (by omega) y0; have l6 := gg _ _ _ (by omega) y1; have l7 := gg _ _ _ (by omega) y2)))
  have bL3 : Blk w3 L #[.nilIface] := HBL.out.same (o5.block L HBL.out.lt (by omega))
  have hcl : w3.cell? ⟨L, 0, none⟩ = some .nilIface := bL3.cell 0
  have hfl : w3.frozen? ⟨L, 0, none⟩ = false := bL3.frozen 0
  have hltL : L < w3.heap.size := bL3.lt
  have oA := (HO.out.drew).trans o5
  rw [show (((ps ++ [L]).length : Nat) : Int) = (ps.length : Int) + 1 by simp] at hok
  have hLw : w.heap.size ≤ L := by omega
  have hLp : L ∉ ps := fun h => by have := HPL.out L h; omega
  have hW2 : L < w2.heap.size := by have := hb2.size; have h8 := HBL.out.lt; exact Nat.lt_of_lt_of_le h8 this
  have hw2w : w.heap.size ≤ w2.heap.size := by omega
  have HOK := hide hok
  have HOA := hide oA
  have HC3 := hide c3
  have HB3 := hide bL3
  clear hok oA c3 bL3 o3 o4 o5 gg hst g0 g1 g2 g3 g4 g5 g6 g7 l0 l1 l2 l3 l4 l5 l6 l7 x3 d1 d2 d3 d4 y0 y1 y2
  rcases hu with rfl | ⟨T, x, rfl⟩
  all_goals
    go_wp2_with fail
    go_ret2
    exact rec_end HOA.out HC3.out HB3.out hLw (by omega) hLp (fun h => ⟨(HOK.out h).1, (HOK.out h).2.1, fun b hb => Nat.lt_of_lt_of_le hW2 ((HOK.out h).2.2 b hb)⟩)
end Go.Proofs.YtfppglfajbmapaaDoor.Lo
