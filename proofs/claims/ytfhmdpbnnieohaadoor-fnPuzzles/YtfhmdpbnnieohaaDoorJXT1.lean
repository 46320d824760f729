/- What CountOn (of the program and of its model) answers at every two lists of at most 2^20 numbers each; no other condition. -/
import Derived.Test.YtfhmdpbnnieohaaDoorJPn
namespace Go.Proofs.YtfhmdpbnnieohaaDoor.t1
open Go.ChangeShapes Go.WideShapes Go.ChangeAt Go.RowKit
open sl (Sl Own ints hide unhide ret_int ret_bool grown_refl grown_trans)
open tr (litT clT)
set_option linter.unusedVariables false
def cntL (A L : List Int) : Nat := L.countP (litT A)
theorem cnt_le (A L : List Int) : cntL A L ≤ L.length := List.countP_le_length
theorem own_lit (w : World) (x : Int) : Own w.heap.size (w.heap.size + 1) (w.alloc (.cells #[.int .i64 x] 3)) (.slice (some ⟨w.heap.size, 0, none⟩) 1 1) [x] :=
 ⟨World.ownsRow_lit w #[.int .i64 x] 1 (Nat.le_refl _) (by unfold maxLen; omega) rfl, fun k e => by cases e; exact Nat.lt_succ_self _⟩
end Go.Proofs.YtfhmdpbnnieohaaDoor.t1
