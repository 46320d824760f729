/- Plain mathematics of what is forced: clauses as words, what is closed and open, single clauses, forcing; no condition. -/
import Derived.Test.YtibpnocpafppaaaDoorJXFm
import Derived.Test.YtibpnocpafppaaaDoorJLc
import Derived.Test.YtibpnocpafppaaaDoorJXApp
import Derived.Test.YtibpnocpafppaaaDoorJXOk
namespace Go.Proofs.YtibpnocpafppaaaDoor.wm
open Go.RowKit
open lits (okB okB_iff)
open bset (placeN placeN_le placeN_inj setOf setOf_lt withN withN_lt withN_bit)
open srt (woN woN_lt woN_bit fstI oppN oppN_bit oppN_lt swp andN andN_bit andN_lt hi_bit)
open ok (cnfB litIn)
open wo (Made)
open sl (grown_trans)
set_option linter.unusedVariables false
def clsd (S T : Nat) : Bool := (S &&& T) != 0
def opn (S T : Nat) : Nat := andN S (oppN T)
theorem swp_place {x : Int} (h : okB x = true) : swp (placeN x) = placeN (-x) := by
 have a := okB_iff.1 h
 unfold srt.swp bset.placeN lits.placeI
 split <;> split <;> split <;> omega
def clauseN (S T : Nat) : Int := if clsd S T then 0 else if opn S T = 0 then -100 else if woN (opn S T) (fstI (opn S T)) = 0 then fstI (opn S T) else 0
def firstN (l : List Int) : Int := (l.find? (fun x => x != 0)).getD 0
def unitN (Ss : List Nat) (T : Nat) : Int × Bool := if (Ss.map (clauseN · T)).any (· == -100) then (0, false) else (firstN (Ss.map (clauseN · T)), true)
def okU (n : Int) (LL : List (List Int)) (L : List Int) : Bool := cnfB n LL && L.all (litIn n)
def unitB (n : Int) (LL : List (List Int)) (L : List Int) : Int × Bool := if okU n LL L then unitN (LL.map setOf) (setOf L) else (0, false)
end Go.Proofs.YtibpnocpafppaaaDoor.wm
