/- Part of the model: what it answers at every formula of the call's own that holds at most 2^20 values, and every list of at most 2^20 numbers. -/
import Derived.Test.YtibpnocpafppaaaDoorGi
import Derived.Test.YtibpnocpafppaaaDoorCls
namespace Go.Proofs.YtibpnocpafppaaaDoor.gj
open Go.ChangeShapes Go.WideShapes Go.ChangeAt Go.RowKit
open Go.Proofs.YtibpnocpafppaaaDoor.sl (Sl Own ints marks hide unhide ret_int ret_bool grown_refl grown_trans grown_drewN below_of of_below)
open Go.Proofs.YtibpnocpafppaaaDoor.css (Sls OwnS Outs tot sumLen marksS)
open Go.Proofs.YtibpnocpafppaaaDoor.cf (Box)
open Go.Proofs.YtibpnocpafppaaaDoor.gr (MidF)
open Go.Proofs.YtibpnocpafppaaaDoor.ok (cnfB)
open Go.Proofs.YtibpnocpafppaaaDoor.lits (okB varI)
open Go.Proofs.YtibpnocpafppaaaDoor.cls (hasB)
open Go.Proofs.YtibpnocpafppaaaDoor.wo (Made)
open Go.Proofs.YtibpnocpafppaaaDoor.app (stepI stepJ own_at made_nil)
open Go.Proofs.YtibpnocpafppaaaDoor.ge (outN outR OutE ini_all out_no)
set_option linter.unusedVariables false
attribute [local go_sem ↓] Go.wp_at_zero Go.wp_at_succ

/-- whether all variables of a clause are in a list -/
def inB (V C : List Int) : Bool := C.all fun x => hasB V (varI x)
theorem in_step (V C : List Int) (j : Nat) (h : j < C.length) : inB V (C.take (j + 1)) = (inB V (C.take j) && hasB V (varI (C.getD j 0))) := by
  unfold inB
  rw [List.take_succ_eq_append_getElem h, List.all_append, show C.getD j 0 = C[j] by simp [h]]
  simp
theorem in_end (V C : List Int) (j : Nat) (h : ¬ j < C.length) : inB V (C.take j) = inB V C := by rw [List.take_of_length_le (by omega)]
theorem flt_yes {B : List Int → Bool} {LL : List (List Int)} {k : Nat} (h : k < LL.length) (e : B (LL.getD k []) = true) : (LL.take (k + 1)).filter B = (LL.take k).filter B ++ [LL.getD k []] := by
  rw [List.take_succ_eq_append_getElem h, List.filter_append]
  rw [show LL.getD k [] = LL[k] by simp [h]] at *
  simp [e]
theorem flt_no {B : List Int → Bool} {LL : List (List Int)} {k : Nat} (h : k < LL.length) (e : B (LL.getD k []) = false) : (LL.take (k + 1)).filter B = (LL.take k).filter B := by
  rw [List.take_succ_eq_append_getElem h, List.filter_append]
  rw [show LL.getD k [] = LL[k] by simp [h]] at *
  simp [e]
theorem flt_len (B : List Int → Bool) (LL : List (List Int)) (k : Nat) : ((LL.take k).filter B).length ≤ k := by
  have := List.length_filter_le B (LL.take k)
  rw [List.length_take] at this
  omega
/-- the third variable is new -/
theorem mid_new {w w1 : World} {n : Int} {x y : Value} (g : w.grownBy w1 none) (b0 : Box 26 w1 w.heap.size x y) (b1 : Box 26 w1 (w.heap.size + 1) (.int .i64 0) (.slice none 0 0)) :
    MidF w (w1.alloc (.cells #[.int .i64 n, .slice none 0 0] 26)) w1.heap.size n [] [(w.heap.size, x, y), (w.heap.size + 1, .int .i64 0, .slice none 0 0)] := by
  have gA := World.grownBy_alloc w1 (.cells #[.int .i64 n, .slice none 0 0] 26) none
  have l0 := b0.lt
  have l1 := b1.lt
  refine ⟨g.size, grown_trans g gA, ?_, none, 0, Box.new _ _ _ _, fx.ownS_nil _ _ _⟩
  intro b hb
  simp only [List.mem_cons, List.not_mem_nil, or_false] at hb
  rcases hb with rfl | rfl
  · exact ⟨by show w.heap.size ≠ w1.heap.size; omega, b0.kept gA⟩
  · exact ⟨by show w.heap.size + 1 ≠ w1.heap.size; omega, b1.kept gA⟩

theorem out_end {fn : Func} {p u : Tmp} {a : Act} {w w3 : World} {n : Int} {q : Value} {R : List (List Int)} {b : Bool} (hb : b = true) (br : Box 26 w3 (w.heap.size + 1) (.int .i64 0) (.slice none 0 0)) (g : w.grownBy w3 none) (o : OwnS w.heap.size w3.heap.size w3 q R)
    (hr : fn.results = #[.cell p 26, .tmp u]) (hp : a.tmps.getD p undef = .pointer (some ⟨w.heap.size + 1, 0, none⟩)) (hu : a.tmps.getD u undef = .bool true) (hd : a.defers = []) :
    bodyPost Tryd.prog fn (fun e w' => OutE b n R w e w') .ret a ((w3.setCell ⟨w.heap.size + 1, 0, none⟩ (.int .i64 n)).setCell ⟨w.heap.size + 1, 1, none⟩ q) := by
  subst hb
  have h := cf.ret_box2 (tmps := a.tmps) hr hp ((br.set0 (.int .i64 n)).set1 q)
  rw [hu] at h
  refine bodyPost_ret h hd ⟨_, rfl, ?_, cf.grown_set (cf.grown_set g (by omega)) (by omega)⟩
  rw [cf.size_set, cf.size_set]
  exact gr.ownS_set (gr.ownS_set o br) (br.set0 _)

end Go.Proofs.YtibpnocpafppaaaDoor.gj
