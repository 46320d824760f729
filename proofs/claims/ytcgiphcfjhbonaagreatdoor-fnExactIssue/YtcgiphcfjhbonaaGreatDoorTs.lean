/- What trueSets answers: a closure over a new word that holds every other bit, n of them; n at most 14. -/
import Derived.Test.YtcgiphcfjhbonaaGreatDoorAt
import Derived.Test.YtcgiphcfjhbonaaGreatDoorVt
namespace Go.Proofs.YtcgiphcfjhbonaaGreatDoor.ts
open Go.ChangeShapes Go.WideShapes Go.ChangeAt Go.RowKit
open Go.Proofs.YtcgiphcfjhbonaaGreatDoor.sl (hide unhide grown_refl)
open Go.Proofs.YtcgiphcfjhbonaaGreatDoor.cnt (ev)
set_option linter.unusedVariables false

theorem ev_wide (n : Nat) (h : n ≤ 14) : ev n < 2 ^ 28 := cnt.ev_lt n 28 (by omega)
end Go.Proofs.YtcgiphcfjhbonaaGreatDoor.ts
