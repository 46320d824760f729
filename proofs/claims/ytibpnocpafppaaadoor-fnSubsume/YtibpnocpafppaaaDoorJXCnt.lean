/- Plain mathematics of counting: all lists of n bits, told lowest first or highest first, are as many that have a property; how a set of every other bit is counted up by a borrow; no condition. -/
import Derived.Test.YtibpnocpafppaaaDoorJXTr
namespace Go.Proofs.YtibpnocpafppaaaDoor.cnt
open Go.RowKit
def cntR (m : Nat) (g : Nat → Bool) : Nat := ((List.range m).filter g).length
def asg : Nat → Nat → List Int → List Int
 | 0, _, out => out
 | n + 1, k, out => asg n (k / 2) (((k % 2 : Nat) : Int) :: out)
end Go.Proofs.YtibpnocpafppaaaDoor.cnt
