/- What Fix (of the program and of its model) answers at every formula that holds at most 2^20 values and every number, with the clauses in memory of their own; no other condition. -/
import Derived.Test.YtddmmoehlabkiaaGreatDoorJOn
namespace Go.Proofs.YtddmmoehlabkiaaGreatDoor
set_option linter.unusedVariables false
open Go.ChangeShapes Go.WideShapes Go.ChangeAt Go.RowKit
namespace fx
open css (OwnS)
attribute [local go_sem ↓] Go.wp_at_zero Go.wp_at_succ
theorem ownS_nil (lo hi:Nat)(w:World):OwnS lo hi w (.slice none 0 0) [] :=
 ⟨[],rfl,World.ownsRow_nil ..,nofun,(fun p hp=>by cases hp),.nil⟩
end fx
end Go.Proofs.YtddmmoehlabkiaaGreatDoor
