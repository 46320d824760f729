/- Formulas with literals exchanged: the program's exchangedIn and its model's l14Each, at every formula of the call's own that holds at most 2^20 values and variables of at most 24. -/
import Derived.Test.YtibpnocpafppaaaDoorGe
namespace Go.Proofs.YtibpnocpafppaaaDoor.ge
open Go.ChangeShapes Go.WideShapes Go.ChangeAt Go.RowKit
open Go.Proofs.YtibpnocpafppaaaDoor.cf (Box)
open Go.Proofs.YtibpnocpafppaaaDoor.ok (cnfB)
open Go.Proofs.YtibpnocpafppaaaDoor.lits (okB varI)
open Go.Proofs.YtibpnocpafppaaaDoor.css (Sls OwnS tot Apart own_ne own_ne' own_kind own_mono)
open Go.Proofs.YtibpnocpafppaaaDoor.sl (Sl Own ints hide unhide ret_int ret_bool grown_refl grown_trans)
set_option linter.unusedVariables false

/-- what literal z becomes where x and y change places -/
def exZ (x y z : Int) : Int := if z = -x then -y else if z = x then y else if z = -y then -x else if z = y then x else z
theorem Ex.start {W w1 : World} {n : Int} {x y : Value} {a : Option Addr} {cap : Nat} {LL : List (List Int)} (r : Nat) (lr : W.heap.size ≤ r) (hr : r < w1.heap.size) (g : W.grownBy w1 none) (br : Box 26 w1 r (.int .i64 0) (.slice none 0 0)) (o : OwnS W.heap.size w1.heap.size w1 (.slice a LL.length cap) LL) :
    ∃ U, Ex W (w1.alloc (.cells #[.int .i64 n, .slice a LL.length cap] 26)) w1.heap.size r n (.slice a LL.length cap) U LL := by
  have gA := World.grownBy_alloc w1 (.cells #[.int .i64 n, .slice a LL.length cap] 26) none
  obtain ⟨D, e, hD⟩ := OwnD.of ((o.kept gA).sub (Nat.le_refl _) gA.size)
  exact ⟨D.map (·.1), grown_trans g gA, g.size, lr, by omega, Box.new _ _ _ _, br.kept gA, D, rfl, e, hD⟩
theorem Ex.own {W wr : World} {c r : Nat} {n : Int} {v : Value} {U : List Value} {MM : List (List Int)} (h : Ex W wr c r n v U MM) : OwnS W.heap.size wr.heap.size wr v MM := by
  obtain ⟨D, _, rfl, hD⟩ := h.o
  exact hD.to
/-- what is returned through the answer's variable -/
theorem Ex.fin {W wr : World} {c r : Nat} {n : Int} {v : Value} {U : List Value} {MM : List (List Int)} (h : Ex W wr c r n v U MM) :
    Box 26 ((wr.setCell ⟨r, 0, none⟩ (.int .i64 n)).setCell ⟨r, 1, none⟩ v) r (.int .i64 n) v ∧ W.grownBy ((wr.setCell ⟨r, 0, none⟩ (.int .i64 n)).setCell ⟨r, 1, none⟩ v) none ∧ OwnS W.heap.size ((wr.setCell ⟨r, 0, none⟩ (.int .i64 n)).setCell ⟨r, 1, none⟩ v).heap.size ((wr.setCell ⟨r, 0, none⟩ (.int .i64 n)).setCell ⟨r, 1, none⟩ v) v MM := by
  refine ⟨(h.br.set0 _).set1 _, cf.grown_set (cf.grown_set h.g h.lr) h.lr, ?_⟩
  rw [cf.size_set, cf.size_set]
  exact gr.ownS_set (gr.ownS_set h.own h.br) (h.br.set0 _)
def ExE (n : Int) (RR : List (List Int)) (w : World) (e : Ending) (w' : World) : Prop := ∃ u, e = .returned (.agg #[.int .i64 n, u]) ∧ OwnS w.heap.size w'.heap.size w' u RR ∧ w.grownBy w' none

end Go.Proofs.YtibpnocpafppaaaDoor.ge
