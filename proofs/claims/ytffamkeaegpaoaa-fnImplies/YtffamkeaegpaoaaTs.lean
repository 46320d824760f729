/- What trueSets answers: a closure over a new word that holds every other bit, n of them; n at most 14. -/
import Derived.Test.YtffamkeaegpaoaaAt
namespace Go.Proofs.Ytffamkeaegpaoaa.ts
open Go.ChangeShapes Go.WideShapes Go.ChangeAt Go.RowKit
open Go.Proofs.Ytffamkeaegpaoaa.sl (hide unhide grown_refl)
open Go.Proofs.Ytffamkeaegpaoaa.cnt (ev)
set_option linter.unusedVariables false

set_option maxRecDepth 100000 in
set_option maxHeartbeats 2000000 in
theorem trueSets (n : Nat) (w : World) (h : n ≤ 14) : Calls Try.prog 45 #[.int .i64 (n : Int)] w fun e w' => e = .returned (.func (.func 70) #[] #[.pointer (some ⟨w.heap.size, 0, none⟩)]) ∧ w' = w.alloc (.cells #[.int .u64 (ev n : Int)] 71) := by
  have hc : n = 0 ∨ n = 1 ∨ n = 2 ∨ n = 3 ∨ n = 4 ∨ n = 5 ∨ n = 6 ∨ n = 7 ∨ n = 8 ∨ n = 9 ∨ n = 10 ∨ n = 11 ∨ n = 12 ∨ n = 13 ∨ n = 14 := by omega
  clear h
  rcases hc with rfl | rfl | rfl | rfl | rfl | rfl | rfl | rfl | rfl | rfl | rfl | rfl | rfl | rfl | rfl
  all_goals
    go_enter Try.func45, Try.ntmps45
    go_wp2
    go_ret
    exact ⟨rfl, by rfl⟩
end Go.Proofs.Ytffamkeaegpaoaa.ts
