/- unlinkNode of the program, whole. -/
import Derived.Test.YtkepinjpihmjkabLKl
import Derived.Test.YtkepinjpihmjkabLKa
namespace Go.Proofs.Ytkepinjpihmjkab.Lo
open Go.RowKit

theorem un_all : ∀ q n, UnAt q n := by
  intro q
  induction q using Nat.strongRecOn with
  | _ q ihq =>
  intro n
  induction n with
  | zero => intro w0 w c a dp un k ix fr v lv kids es m ks hn; omega
  | succ n ihn =>
    intro w0 w c a dp un k ix fr v lv kids es m ks hn hq hk he hw hB hc0 hc ha hd1 hd2 hmd hu1 hu2 hq2 hp
    have hw2 := hw
    unfold wN at hw2
    simp only [Bool.and_eq_true] at hw2
    obtain ⟨hsh, hsc⟩ := hw2
    have hps := hp.ps.val
    have hpl : (blks (es.take m)).length = m := scope_len es m (by omega)
    by_cases h1 : k = 1
    · subst h1
      obtain ⟨hf, rfl, rfl⟩ := shape_end hsh
      have hf1 := empty_of hf
      subst hf1
      have hv : v = .iface ( /- t -/ 75) (.agg #[]) := by
        rcases hk with ⟨-, h, -⟩ | ⟨h, -⟩ | ⟨h, -⟩ | ⟨h, -⟩
        · exact h
        · omega
        · omega
        · omega
      subst hv
      have e : cpN (lenv m es) ⟨1, ⟨#[]⟩, 0, .nil⟩ = ⟨1, ⟨#[]⟩, 0, .nil⟩ := by
        rw [cpN_k (show (1 : Int) ≠ 5 by decide)]
        rfl
      rw [e]
      exact un_end w c a dp un lv (blks (es.take m)) hc ha hd1 hd2 hp
    by_cases h2 : k = 2 ∨ k = 3
    · exact un_act q n ihn w0 w c a dp un k ix fr v lv kids es m ks h2 hn hq hk he hw hB hc0 hc ha hd1 hd2 hmd hq2 hp
    by_cases h4 : k = 4
    · subst h4
      obtain ⟨hf, rfl, lab, k', fr', ix', kids', rfl, hl0⟩ := shape_rec hsh
      obtain ⟨L, T, x, ks', rfl, hbL, hLp, hln⟩ := linked_rec hk
      exact un_loop q n ihn w0 w c a dp un un fr 0 _ lv lv _ es m L ks none false hn hq hk he hw hB hc0 hc ha hd1 hd2 hmd hu1 hu2 hq2 hp (by obtain ⟨a1, c1, e, -⟩ := hps; exact ⟨a1, _, c1, e⟩) (Or.inl ⟨rfl, rfl, rfl, rfl, rfl⟩)
    by_cases h5 : k = 5
    · subst h5
      obtain ⟨hf, rfl⟩ := shape_var hsh
      have hf1 := empty_of hf
      subst hf1
      obtain ⟨p, b, g, t, rfl, rfl, rfl⟩ := linked_var hk
      have hlen : (p ++ (b, g) :: t).length = p.length + 1 + t.length := by simp; omega
      by_cases hin : p.length < m
      · have e : cpN (lenv m (p ++ (b, g) :: t)) ⟨5, ⟨#[]⟩, (p.length : Int), .nil⟩ = ⟨5, ⟨#[]⟩, (p.length : Int), .nil⟩ := by
          unfold cpN
          simp only [if_true, Int.toNat_natCast]
          rw [lenv_in m p.length _ hin (by omega)]
          rfl
        rw [e]
        obtain ⟨s1, s2⟩ := scope_in p b g t m hin (by omega)
        refine un_var w0 w c a dp un p.length (m - 1 - p.length) b lv _ hB hc0 hc ha hd1 hd2 hp (scope_nodup _ _ he) (fun x hx => he.blk _ x (scope_mem hx)) s1 s2 ?_
        rw [hpl]
        omega
      · have e : cpN (lenv m (p ++ (b, g) :: t)) ⟨5, ⟨#[]⟩, (p.length : Int), .nil⟩ = cpN (lvals t) g := by
          conv => lhs; unfold cpN
          simp only [if_true, Int.toNat_natCast]
          rw [lenv_out m p b g t (by omega)]
        rw [e]
        obtain ⟨g4, gw, ⟨kg, gl⟩, gb, ge⟩ := EnvL.suffix p _ he
        obtain ⟨gk, gf, gi, gq⟩ := g
        simp only at g4
        subst g4
        have hq' : t.length < q := by omega
        exact un_loop t.length (gq.sz + 1) (ihq _ hq' _) w0 w c a dp un 0 gf gi _ lv (.slice none 0 0) gq t 0 b kg (some ⟨b, 0, none⟩) true (by omega) rfl gl ge gw hB hc0 hc ha hd1 hd2 (by omega) (by omega) (by omega) (by omega) (by rw [List.take_zero]; exact Pt.nil w)
          (by obtain ⟨a1, c1, e, -⟩ := hps; exact ⟨a1, _, c1, e⟩) (Or.inr ⟨rfl, rfl, rfl, rfl, rfl, rfl, _, hp, scope_out p b _ t m (by omega) he, by rw [hpl]; omega, fun x hx => he.blk _ x (scope_mem hx)⟩)
    · simp [shapeB, h1, h2, h4, h5] at hsh

/-- unlinkNode, at a place without recursions around. -/
theorem unlink_calls (w0 w : World) (c : Nat) (k ix : Int) (fr : ByteArray) (v : Value) (kids : F) (es : List (Nat × Nd)) (ks : List Nat) (hl : es.length ≤ 1000) (hk : LkN w0 k fr ix kids (blks es) v ks) (he : EnvL w0 es) (hw : wN ⟨k, fr, ix, kids⟩ (es.length : Int) 0 = true)
    (hB : Below w0.heap.size w0 w) (hc0 : w0.heap.size ≤ c) (hc : Ctr w c 0) :
    Calls Try.prog 32 #[v, .agg #[.int .i64 1, .slice none 0 0, .int .i64 0], .pointer (some ⟨c, 0, none⟩)] w (CpPost c (cpN (lvals es) ⟨k, fr, ix, kids⟩) 1 0 w) :=
  un_all es.length (kids.sz + 1) w0 w c 0 1 0 k ix fr v (.slice none 0 0) kids es 0 ks (Nat.lt_succ_self _) rfl hk he hw hB hc0 hc (by omega) (by omega) (by omega) (by omega) (by omega) (by omega) hl (by rw [List.take_zero]; exact Pt.nil w)
end Go.Proofs.Ytkepinjpihmjkab.Lo
