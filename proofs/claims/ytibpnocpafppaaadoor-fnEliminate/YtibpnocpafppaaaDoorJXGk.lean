/- Part of the program: what it answers at every formula of the call's own that holds at most 2^20 values, and every list of at most 2^20 numbers. -/
import Derived.Test.YtibpnocpafppaaaDoorJXGh
import Derived.Test.YtibpnocpafppaaaDoorJLc
import Derived.Test.YtibpnocpafppaaaDoorJXGb
namespace Go.Proofs.YtibpnocpafppaaaDoor.gj
open Go.ChangeShapes Go.WideShapes Go.ChangeAt Go.RowKit
open sl (Sl Own ints hide unhide ret_int ret_bool grown_refl grown_trans grown_drewN below_of of_below)
open css (Sls OwnS Outs tot own_mono)
open cf (Box)
open ok (cnfB)
open lits (okB varI)
open cls (hasB)
open bset (setOf placeN)
open srt (oppN andN swp)
open gb (Rd Kpt flt KeptE)
open ge (ini_all OwnD)
set_option linter.unusedVariables false
theorem rd_own {lo hi : Nat} {w : World} {v : Value} {D : List (Value × List Int)} (ho : OwnD lo hi w v D) : Rd w v D := Rd.own (hi := hi) ho.1 (fun p hp => (ho.2.2.1 p hp).sl)
theorem len_in {D : List (Value × List Int)} {n : Nat} (hn : tot (D.map (·.2)) ≤ n) {p : Value × List Int} (hp : p ∈ D) : p.2.length ≤ n := by
 obtain ⟨i, hi, e⟩ := List.getElem_of_mem hp
 have h := Nat.le_trans (css.tot_in (D.map (·.2)) i) hn
 rw [css.map2_getD hi, e] at h
 exact h
end Go.Proofs.YtibpnocpafppaaaDoor.gj
