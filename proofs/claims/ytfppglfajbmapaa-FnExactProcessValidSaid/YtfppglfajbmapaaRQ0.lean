/- Small things that the comparison of processes needs. -/
import Derived.Test.YtfppglfajbmapaaRows
import Derived.Test.YtfppglfajbmapaaRTree
import Derived.WalkKit
import Derived.WalkSpells
import Derived.WalkLawsBesides
import Derived.BigQuiet
import Derived.Deep.QuietTactic
namespace Go.Proofs.Ytfppglfajbmapaa.Pc
open Go.RowKit

theorem box5_now (w : World) (v0 v1 v2 v3 v4 : Value) (t : TypeId) : (w.alloc (.cells #[v0, v1, v2, v3, v4] t)).cell? ⟨w.heap.size, 4, none⟩ = some v4 ∧ w.heap.size < (w.alloc (.cells #[v0, v1, v2, v3, v4] t)).heap.size :=
  ⟨(box5 (Below.refl _ _)).2.2.2.2.1, (box5 (Below.refl _ _)).2.2.2.2.2.1⟩
theorem below_drewN {B : Nat} {a w : World} (h : Below B a w) (n : Nat) : Below B a (w.drewN n) := ⟨h.os, h.tape, h.output, h.size, h.block⟩
end Go.Proofs.Ytfppglfajbmapaa.Pc
