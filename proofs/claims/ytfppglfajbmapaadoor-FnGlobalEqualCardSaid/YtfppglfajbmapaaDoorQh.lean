/- When two trees are equal, as a Boolean. -/
import Derived.Test.YtfppglfajbmapaaDoorSc
import Derived.StillTailTactics
namespace Go.Proofs.YtfppglfajbmapaaDoor
open Go.RowKit

def headB (k : Int) (fr to : ByteArray) (ix : Int) (l : Nat) (k' : Int) (fr' to' : ByteArray) (ix' : Int) (l' : Nat) : Bool :=
  (k == k') && ((fr.toList == fr'.toList) && ((to.toList == to'.toList) && ((ix == ix') && (l == l'))))
def sameF : F → F → Bool
  | .nil, .nil => true
  | .cons lab k fr to ix kids rest, .cons lab' k' fr' to' ix' kids' rest' =>
    (lab.toList == lab'.toList) && ((headB k fr to ix kids.len k' fr' to' ix' kids'.len && sameF kids kids') && sameF rest rest')
  | _, _ => false
def sameN (k : Int) (fr to : ByteArray) (ix : Int) (f : F) (k' : Int) (fr' to' : ByteArray) (ix' : Int) (f' : F) : Bool :=
  headB k fr to ix f.len k' fr' to' ix' f'.len && sameF f f'

theorem headB_no {k ix : Int} {fr to fr' to' : ByteArray} {l l' : Nat} (h : headB k fr to ix l k fr' to' ix l' = false) (e1 : fr.toList = fr'.toList) (e2 : to.toList = to'.toList) (e3 : ((l : Int) != (l' : Int)) = false) : False := by
  have e4 : l = l' := by
    have : (l : Int) = l' := by simpa using e3
    omega
  simp [headB, e1, e2, e4] at h
end Go.Proofs.YtfppglfajbmapaaDoor
