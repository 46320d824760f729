/- What trueSets answers: a closure over a new word that holds every other bit, n of them; n at most 14. -/
import Derived.Test.YtgmbahbdepllnaaAt
import Derived.Test.YtgmbahbdepllnaaVt
namespace Go.Proofs.Ytgmbahbdepllnaa.ts
open Go.ChangeShapes Go.WideShapes Go.ChangeAt Go.RowKit
open Go.Proofs.Ytgmbahbdepllnaa.sl (hide unhide grown_refl)
open Go.Proofs.Ytgmbahbdepllnaa.cnt (ev)
set_option linter.unusedVariables false

theorem ev_wide (n : Nat) (h : n ≤ 14) : ev n < 2 ^ 28 := cnt.ev_lt n 28 (by omega)
theorem trueSets (n : Nat) (w : World) (h : n ≤ 14) : Calls Try.prog 67 #[.int .i64 (n : Int)] w fun e w' => e = .returned (.func (.func 92) #[] #[.pointer (some ⟨w.heap.size, 0, none⟩)]) ∧ w' = w.alloc (.cells #[.int .u64 (ev n : Int)] 65) := by
  have C := hide (vt.variablesTo n w (by omega))
  clear h
  generalize ev n = r at *
  go_enter Try.func67, Try.ntmps67
  go_wp2_with fail
  refine (unhide C).mono ?_; rintro e w2 ⟨rfl, hw⟩; have hw' := hw.symm; clear hw; subst hw'
  go_wp2_with fail
  go_ret
  exact ⟨rfl, by rfl⟩
end Go.Proofs.Ytgmbahbdepllnaa.ts
