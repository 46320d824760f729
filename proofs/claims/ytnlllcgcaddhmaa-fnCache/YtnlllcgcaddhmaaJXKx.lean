/- What solverOf makes of a right formula: its solver; the sizes within the bounds. -/
import Derived.Test.YtnlllcgcaddhmaaJXNs
import Derived.Test.YtnlllcgcaddhmaaJOc
import Derived.Test.YtnlllcgcaddhmaaJOn
import Derived.Deep.RegionLaw
import Derived.Deep.RegionHeld3
import Derived.Deep.QuietTactic
import Derived.BigQuiet
import Derived.Test.YtnlllcgcaddhmaaJXKm
namespace Go.Proofs.Ytnlllcgcaddhmaa.ks
open Go.ChangeShapes Go.WideShapes Go.ChangeAt Go.RowKit
open srt (litI)
open lits (okB)
open bset (setOf placeN)
open css (Sls tot)
open sl (hide unhide grown_refl grown_trans)
set_option linter.unusedVariables false
theorem row_nec {w : World} {b n z c : Nat} {e t : TypeId} {fz : Nat × Nat} {v : Value} {xs : List Value} {cs : Array Value} (h : w.ownsRow b e z v n xs) (hc : w.heap[c]? = some (.cells cs t fz)) (he : (e : Nat) ≠ t) : v.ownBlock = none ∨ v.ownBlock ≠ some c := by
 cases q : v.ownBlock with
 | none => exact .inl rfl
 | some g =>
  right
  intro q'
  cases q'
  obtain ⟨c', fz', hc'⟩ := css.own_kind h c q
  rw [hc'] at hc
  simp only [Option.some.injEq, Obj.cells.injEq] at hc
  exact he hc.2.1
structure Rst (n S T q e : Nat) : Prop where
 b : ∀ i, T.testBit i = (S.testBit i && decide (q ≤ i))
 lt : T < 2 ^ 48
 q48 : q ≤ 48
 e1 : ∀ i, i < q → S.testBit i = true → i / 2 < e
 en : e ≤ n
 e3 : e = 0 ∨ ∃ b, S.testBit b = true ∧ b / 2 + 1 = e
end Go.Proofs.Ytnlllcgcaddhmaa.ks
