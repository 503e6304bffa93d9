/- What a valid link is. -/
import Derived.Test.YtmkjipnemapdeaaDoorKl
import Derived.Test.YtmkjipnemapdeaaDoorKm
import Derived.Deep.RegionHeld3
namespace Go.Proofs.YtmkjipnemapdeaaDoor.Tk
open Go.RowKit

/-- What the receiver has delivered behind Base is what the window begins with. -/
def agreeB (b : Nat) (e : Nat) (wi de : ByteArray) : Bool := (de.extract b de.size).toList == (wi.extract 0 e).toList
/-- A valid link. -/
def linkB (m : Lnk) : Bool :=
  decide (m.wi.size ≤ 3) && (decide (m.ex = m.de.size) && (decide (0 ≤ m.ba) && (decide (m.ba ≤ m.ex) && (decide (m.ex ≤ m.ba + m.wi.size) && (decide (m.ba + m.wi.size ≤ 100) && (labsB m.wi && (labsB m.de &&
    (agreeB m.ba.toNat (m.ex - m.ba).toNat m.wi m.de && flightB (m.de.extract 0 m.ba.toNat ++ m.wi) m.ex m.ps m.ac))))))))

end Go.Proofs.YtmkjipnemapdeaaDoor.Tk
