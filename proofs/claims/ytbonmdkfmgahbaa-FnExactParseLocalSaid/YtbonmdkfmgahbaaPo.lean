/- l2ParseAction of the model. -/
import Derived.Test.YtbonmdkfmgahbaaPob
import Derived.Test.YtbonmdkfmgahbaaPoc
namespace Go.Proofs.Ytbonmdkfmgahbaa.Lo.Ne
open Go.RowKit

theorem sp_action (d : Nat) (hd : d ≤ 40) (ih : SpAt d) (w : World) (T : List UInt8) (p : Nat) (hT : T.length ≤ 1048576) (hp : p + 2 < T.length) (R : Option (F × List UInt8)) (hR : R = spB (sp d) 5 (T.drop (p + 2)) .nil) (r : Option (Nd × List UInt8))
    (hr : r = R.map (fun q => (⟨if hdC (T.drop (p + 1)) = 33 then 2 else 3, ⟨#[hdC (T.drop p)]⟩, 0, q.1⟩, q.2))) :
    Calls Try.prog 39 #[.string (bs T), .int .i64 (p : Nat), .int .i64 ((d + 1 : Nat) : Int)] w (SpPost T r w) := by
  by_cases h33 : hdC (T.drop (p + 1)) = 33
  · exact sp_send d hd ih w T p hT hp R hR r h33 (by rw [hr, if_pos h33])
  · exact sp_recv d hd ih w T p hT hp R hR r h33 (by rw [hr, if_neg h33])
end Go.Proofs.Ytbonmdkfmgahbaa.Lo.Ne
