/- A formula of the call's own that is written in place, literal by literal; a copy of one; no condition but on sizes. -/
import Derived.Test.YtibpnocpafppaaaDoorJXApp
import Derived.Test.YtibpnocpafppaaaDoorJXFy
import Derived.Test.YtibpnocpafppaaaDoorJXOk
import Derived.Deep.RegionHeld3
namespace Go.Proofs.YtibpnocpafppaaaDoor.ge
open Go.ChangeShapes Go.WideShapes Go.ChangeAt Go.RowKit
open cf (Box)
open ok (cnfB)
open css (Sls OwnS tot Apart own_ne own_ne' own_kind own_mono)
open sl (Sl Own ints hide unhide ret_int ret_bool grown_refl grown_trans)
set_option linter.unusedVariables false
def OwnD (lo hi : Nat) (w : World) (v : Value) (D : List (Value × List Int)) : Prop :=
 w.ownsRow lo 31 1 v D.length (D.map (·.1)) ∧ (∀ k, v.ownBlock = some k → k < hi) ∧ (∀ p ∈ D, Own lo hi w p.1 p.2) ∧ D.Pairwise Apart
theorem OwnD.of {lo hi : Nat} {w : World} {v : Value} {LL : List (List Int)} (h : OwnS lo hi w v LL) : ∃ D, D.map (·.2) = LL ∧ OwnD lo hi w v D := by
 obtain ⟨D, e, h1, h2, h3, h4⟩ := h
 exact ⟨D, e, h1, h2, h3, h4⟩
structure Ex (W wr : World) (c r : Nat) (n : Int) (v : Value) (U : List Value) (MM : List (List Int)) : Prop where
 g : W.grownBy wr none
 lc : W.heap.size ≤ c
 lr : W.heap.size ≤ r
 ne : r ≠ c
 b : Box 26 wr c (.int .i64 n) v
 br : Box 26 wr r (.int .i64 0) (.slice none 0 0)
 o : ∃ D : List (Value × List Int), D.map (·.1) = U ∧ D.map (·.2) = MM ∧ OwnD W.heap.size wr.heap.size wr v D
end Go.Proofs.YtibpnocpafppaaaDoor.ge
