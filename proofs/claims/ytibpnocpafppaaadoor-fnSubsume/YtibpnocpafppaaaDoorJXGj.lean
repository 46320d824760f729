/- Part of the model: what it answers at every formula of the call's own that holds at most 2^20 values, and every list of at most 2^20 numbers. -/
import Derived.Test.YtibpnocpafppaaaDoorJXGh
import Derived.Test.YtibpnocpafppaaaDoorJSc
namespace Go.Proofs.YtibpnocpafppaaaDoor.gj
open Go.ChangeShapes Go.WideShapes Go.ChangeAt Go.RowKit
open sl (Sl Own ints hide unhide ret_int ret_bool grown_refl grown_trans grown_drewN below_of of_below)
open css (Sls OwnS Outs tot)
open cf (Box)
open gr (MidF)
open ok (cnfB)
open lits (okB varI)
open cls (hasB)
open wo (Made)
open app (stepI own_at made_nil)
open ge (outN outR OutE ini_all out_no)
set_option linter.unusedVariables false
attribute [local go_sem ↓] Go.wp_at_zero Go.wp_at_succ
theorem out_end {fn : Func} {p u : Tmp} {a : Act} {w w3 : World} {n : Int} {q : Value} {R : List (List Int)} {b : Bool} (hb : b = true) (br : Box 26 w3 (w.heap.size + 1) (.int .i64 0) (.slice none 0 0)) (g : w.grownBy w3 none) (o : OwnS w.heap.size w3.heap.size w3 q R)
  (hr : fn.results = #[.cell p 26, .tmp u]) (hp : a.tmps.getD p undef = .pointer (some ⟨w.heap.size + 1, 0, none⟩)) (hu : a.tmps.getD u undef = .bool true) (hd : a.defers = []) :
  bodyPost Tryd.prog fn (fun e w' => OutE b n R w e w') .ret a ((w3.setCell ⟨w.heap.size + 1, 0, none⟩ (.int .i64 n)).setCell ⟨w.heap.size + 1, 1, none⟩ q) := by
 subst hb
 have h := cf.ret_box2 (tmps := a.tmps) hr hp ((br.set0 (.int .i64 n)).set1 q)
 rw [hu] at h
 refine bodyPost_ret h hd ⟨_, rfl, ?_, cf.grown_set (cf.grown_set g (by omega)) (by omega)⟩
 rw [cf.size_set, cf.size_set]
 exact gr.ownS_set (gr.ownS_set o br) (br.set0 _)
end Go.Proofs.YtibpnocpafppaaaDoor.gj
