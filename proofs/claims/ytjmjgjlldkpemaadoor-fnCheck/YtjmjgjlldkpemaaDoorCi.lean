/- What the model's Implies answers at every formula that holds at most 2^20 values and every list of at most 2^20 numbers; no other condition. -/
import Derived.Test.YtjmjgjlldkpemaaDoorCt
namespace Go.Proofs.YtjmjgjlldkpemaaDoor.ct
open Go.ChangeShapes Go.WideShapes Go.ChangeAt Go.RowKit
open Go.Proofs.YtjmjgjlldkpemaaDoor.sl (Sl Own ints marks hide unhide ret_int ret_bool grown_refl grown_trans grown_drewN below_of of_below)
open Go.Proofs.YtjmjgjlldkpemaaDoor.css (Sls OwnS tot)
open Go.Proofs.YtjmjgjlldkpemaaDoor.cf (Box)
open Go.Proofs.YtjmjgjlldkpemaaDoor.ok (cnfB clB)
open Go.Proofs.YtjmjgjlldkpemaaDoor.tr (cnfT clT)
open Go.Proofs.YtjmjgjlldkpemaaDoor.wo (Made)
open Go.Proofs.YtjmjgjlldkpemaaDoor.cnt (cntR asg)
set_option linter.unusedVariables false

/-- whether a clause is true wherever the formula is -/
def impN (m : Nat) (LL : List (List Int)) (L : List Int) : Bool := (List.range (2 ^ m)).all fun k => !(cnfT (asg m k []) LL) || clT (asg m k []) L
def impB (n : Int) (LL : List (List Int)) (L : List Int) : Bool := cnfB n LL && decide (n ≤ 14) && clB n L && impN n.toNat LL L
theorem range_hit {P k : Nat} {g : Nat → Bool} (h : k < P) (hx : g k = false) : (List.range P).all g = false := by
  rw [List.all_eq_false]
  exact ⟨k, List.mem_range.2 h, by simp [hx]⟩
theorem range_step {k : Nat} {g : Nat → Bool} (ha : (List.range k).all g = true) (hx : g k = true) : (List.range (k + 1)).all g = true := by
  rw [List.range_succ, List.all_append, ha]
  simp [hx]

end Go.Proofs.YtjmjgjlldkpemaaDoor.ct
