/- What CountOn (of the program and of its model) answers at every two lists of at most 2^20 numbers each; no other condition. -/
import Derived.Test.YtmmmldcnadidkaaTr
namespace Go.Proofs.Ytmmmldcnadidkaa.t1
open Go.ChangeShapes Go.WideShapes Go.ChangeAt Go.RowKit
open Go.Proofs.Ytmmmldcnadidkaa.sl (Sl Own ints hide unhide ret_int ret_bool grown_refl grown_trans)
open Go.Proofs.Ytmmmldcnadidkaa.tr (litT clT)
set_option linter.unusedVariables false

/-- how many literals of a list, place by place, are true -/
def cntL (A L : List Int) : Nat := L.countP (litT A)
theorem cnt_step (A L : List Int) (k : Nat) (h : k < L.length) : cntL A (L.take (k + 1)) = cntL A (L.take k) + (if litT A (L.getD k 0) then 1 else 0) := by
  unfold cntL
  rw [List.take_succ_eq_append_getElem h, List.countP_append, show L.getD k 0 = L[k] by simp [h]]
  simp [List.countP_cons]
theorem cnt_end (A L : List Int) (k : Nat) (h : ¬ k < L.length) : cntL A (L.take k) = cntL A L := by
  rw [List.take_of_length_le (by omega)]
theorem cnt_le (A L : List Int) : cntL A L ≤ L.length := List.countP_le_length

theorem own_lit (w : World) (x : Int) : Own w.heap.size (w.heap.size + 1) (w.alloc (.cells #[.int .i64 x] 3)) (.slice (some ⟨w.heap.size, 0, none⟩) 1 1) [x] :=
  ⟨World.ownsRow_lit w #[.int .i64 x] 1 (Nat.le_refl _) (by unfold maxLen; omega) rfl, fun k e => by cases e; exact Nat.lt_succ_self _⟩

end Go.Proofs.Ytmmmldcnadidkaa.t1
