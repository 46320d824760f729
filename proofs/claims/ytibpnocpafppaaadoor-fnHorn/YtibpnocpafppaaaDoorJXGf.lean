/- Formulas with literals exchanged: the program's exchangedIn and its model's l14Each, at every formula of the call's own that holds at most 2^20 values and variables of at most 24. -/
import Derived.Test.YtibpnocpafppaaaDoorJXGe
namespace Go.Proofs.YtibpnocpafppaaaDoor.ge
open Go.ChangeShapes Go.WideShapes Go.ChangeAt Go.RowKit
open cf (Box)
open ok (cnfB)
open lits (okB varI)
open css (Sls OwnS tot Apart own_ne own_ne' own_kind own_mono)
open sl (Sl Own ints hide unhide ret_int ret_bool grown_refl grown_trans)
set_option linter.unusedVariables false
theorem Ex.own {W wr : World} {c r : Nat} {n : Int} {v : Value} {U : List Value} {MM : List (List Int)} (h : Ex W wr c r n v U MM) : OwnS W.heap.size wr.heap.size wr v MM := by
 obtain ⟨D, _, rfl, hD⟩ := h.o
 exact hD.to
theorem Ex.fin {W wr : World} {c r : Nat} {n : Int} {v : Value} {U : List Value} {MM : List (List Int)} (h : Ex W wr c r n v U MM) :
  Box 26 ((wr.setCell ⟨r, 0, none⟩ (.int .i64 n)).setCell ⟨r, 1, none⟩ v) r (.int .i64 n) v ∧ W.grownBy ((wr.setCell ⟨r, 0, none⟩ (.int .i64 n)).setCell ⟨r, 1, none⟩ v) none ∧ OwnS W.heap.size ((wr.setCell ⟨r, 0, none⟩ (.int .i64 n)).setCell ⟨r, 1, none⟩ v).heap.size ((wr.setCell ⟨r, 0, none⟩ (.int .i64 n)).setCell ⟨r, 1, none⟩ v) v MM := by
 refine ⟨(h.br.set0 _).set1 _, cf.grown_set (cf.grown_set h.g h.lr) h.lr, ?_⟩
 rw [cf.size_set, cf.size_set]
 exact gr.ownS_set (gr.ownS_set h.own h.br) (h.br.set0 _)
end Go.Proofs.YtibpnocpafppaaaDoor.ge
