/- What trueSets answers: a closure over a new word that holds every other bit, n of them; n at most 14. -/
import Derived.Test.YtfhmdpbnnieohaaDoorJXAt
import Derived.Test.YtfhmdpbnnieohaaDoorJXVt
namespace Go.Proofs.YtfhmdpbnnieohaaDoor.ts
open Go.ChangeShapes Go.WideShapes Go.ChangeAt Go.RowKit
open sl (hide unhide grown_refl)
open cnt (ev)
set_option linter.unusedVariables false
theorem trueSets (n : Nat) (w : World) (h : n ≤ 14) : Calls Tryd.prog 36 #[.int .i64 (n : Int)] w fun e w' => e = .returned (.func (.func 57) #[] #[.pointer (some ⟨w.heap.size, 0, none⟩)]) ∧ w' = w.alloc (.cells #[.int .u64 (ev n : Int)] 75) := by
 have C := hide (vt.variablesTo n w (by omega))
 clear h
 generalize ev n = r at *
 go_enter Tryd.func36, Tryd.ntmps36
 go_wp2_with fail
 refine (unhide C).mono ?_; rintro e w2 ⟨rfl, hw⟩; have hw' := hw.symm; clear hw; subst hw'
 go_wp2_with fail
 go_ret
 exact ⟨rfl, by rfl⟩
end Go.Proofs.YtfhmdpbnnieohaaDoor.ts
