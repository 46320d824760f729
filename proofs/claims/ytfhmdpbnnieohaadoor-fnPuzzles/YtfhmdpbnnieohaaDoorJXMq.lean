/- Plain mathematics of FnForce: what is forced is true wherever the formula and what was taken are; where that comes to an empty clause they are nowhere; behind it nothing more is forced; no condition. -/
import Derived.Test.YtfhmdpbnnieohaaDoorJXMl
import Derived.Test.YtfhmdpbnnieohaaDoorJPn
namespace Go.Proofs.YtfhmdpbnnieohaaDoor.mq
open Go.RowKit
open lits (okB okB_iff varI)
open bset (placeN placeN_le placeN_inj setOf setOf_lt setOf_bit withN withN_bit setOf_snoc)
open srt (woN fstI swp andN_lt)
open ok (cnfB litIn clB)
open tr (litT clT cnfT)
open cnt (le cntR asg)
open at_ (at_)
open Go.Proofs.YtfhmdpbnnieohaaDoor.wm
open ml (unit_true force_true)
set_option linter.unusedVariables false
theorem place_lit {m : Nat} {x : Int} (h : okB x = true) (k : placeN x < 2 * m) : litIn (m : Int) x = true := by
 unfold ok.litIn
 rw [Bool.and_eq_true, decide_eq_true_iff]
 refine ⟨h, ?_⟩
 have a := okB_iff.1 h
 rw [lits.varI_yes a]
 unfold bset.placeN lits.placeI at k
 split at k <;> split <;> omega
theorem frc_unit {Ss : List Nat} (hS : ∀ S ∈ Ss, S < 2 ^ 48) (n : Nat) (p : List Int) (h : 49 ≤ n + pc (setOf p)) : unitN Ss (setOf (frc Ss n (setOf p) p).1) = (0, (frc Ss n (setOf p) p).2) := by
 induction n generalizing p with
 | zero =>
  have := pc_le (setOf p)
  omega
 | succ n ih =>
  cases hok : (unitN Ss (setOf p)).2
  ·rw [frc_stop hok]
   show unitN Ss (setOf p) = (0, false)
   unfold wm.unitN at hok ⊢
   split
   ·rfl
   ·rename_i hn
    rw [if_neg hn] at hok
    cases hok
  ·by_cases h0 : (unitN Ss (setOf p)).1 = 0
   ·rw [frc_end hok h0]
    show unitN Ss (setOf p) = (0, true)
    rw [← h0, ← hok]
   ·have un := unit_new hS hok h0
    have hset : setOf (p ++ [(unitN Ss (setOf p)).1]) = withN (setOf p) (unitN Ss (setOf p)).1 := by rw [setOf_snoc, un.1]; rfl
    have hpc := pc_with un.1 un.2.1
    rw [frc_more hok h0, ← hset]
    refine ih _ ?_
    rw [hset]
    omega
def sing (L : List Int) : List (List Int) := L.map fun x => [x]
structure Laws (m : Nat) (LL : List (List Int)) (L : List Int) (F : List Int × Bool) : Prop where
 pre : ∃ X, F.1 = L ++ X
 imp : LL.length + L.length ≤ 120 → ∀ x ∈ F.1, ct.impB (m : Int) (LL ++ sing L) [x] = true
 unit : unitB (m : Int) LL F.1 = (0, F.2)
 none_ : LL.length + L.length ≤ 120 → F.2 = false → ct.countI (m : Int) (LL ++ sing L) = 0
end Go.Proofs.YtfhmdpbnnieohaaDoor.mq
