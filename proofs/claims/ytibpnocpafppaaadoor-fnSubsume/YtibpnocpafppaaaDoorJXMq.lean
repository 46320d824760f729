/- Plain mathematics of FnForce: what is forced is true wherever the formula and what was taken are; where that comes to an empty clause they are nowhere; behind it nothing more is forced; no condition. -/
import Derived.Test.YtibpnocpafppaaaDoorJXMl
import Derived.Test.YtibpnocpafppaaaDoorJXApp
namespace Go.Proofs.YtibpnocpafppaaaDoor.mq
open Go.RowKit
open lits (okB okB_iff varI)
open bset (placeN placeN_le placeN_inj setOf setOf_lt setOf_bit withN withN_bit setOf_snoc)
open srt (woN fstI swp andN_lt)
open ok (cnfB litIn clB)
open tr (litT clT cnfT)
open cnt (cntR asg)
open Go.Proofs.YtibpnocpafppaaaDoor.wm
open ml (unit_true force_true lit_place)
set_option linter.unusedVariables false
theorem frc_true {m W : Nat} {Ss : List Nat} (hS : ∀ S ∈ Ss, S < 2 ^ 48) (hb : ∀ S ∈ Ss, ∀ b, S.testBit b = true → b < 2 * m) (hf : ml.Fair m W) (hm : ∀ S ∈ Ss, S &&& W ≠ 0) (n T : Nat) (p : List Int) (hT : ∀ b, T.testBit b = true → W.testBit b = true) (hp : ∀ x ∈ p, W.testBit (placeN x) = true) :
  ∀ x ∈ (frc Ss n T p).1, W.testBit (placeN x) = true := by
 induction n generalizing T p with
 | zero => exact hp
 | succ n ih =>
  have u := unit_true hS hb hf hT hm
  by_cases h0 : (unitN Ss T).1 = 0
  ·rw [frc_end u.1 h0]
   exact hp
  ·rw [frc_more u.1 h0]
   refine ih _ _ (fun b hb' => ?_) (fun x hx => ?_)
   ·rw [withN_bit, Bool.or_eq_true, decide_eq_true_iff] at hb'
    rcases hb' with q | q
    ·exact hT b q
    ·rw [← q]
     exact u.2 h0
   ·rw [List.mem_append, List.mem_singleton] at hx
    rcases hx with hx | rfl
    ·exact hp x hx
    ·exact u.2 h0
theorem place_lit {m : Nat} {x : Int} (h : okB x = true) (k : placeN x < 2 * m) : litIn (m : Int) x = true := by
 unfold ok.litIn
 rw [Bool.and_eq_true, decide_eq_true_iff]
 refine ⟨h, ?_⟩
 have a := okB_iff.1 h
 rw [lits.varI_yes a]
 unfold bset.placeN lits.placeI at k
 split at k <;> split <;> omega
def sing (L : List Int) : List (List Int) := L.map fun x => [x]
structure Laws (m : Nat) (LL : List (List Int)) (L : List Int) (F : List Int × Bool) : Prop where
 pre : ∃ X, F.1 = L ++ X
 imp : LL.length + L.length ≤ 120 → ∀ x ∈ F.1, ct.impB (m : Int) (LL ++ sing L) [x] = true
 unit : unitB (m : Int) LL F.1 = (0, F.2)
 none_ : LL.length + L.length ≤ 120 → F.2 = false → ct.countI (m : Int) (LL ++ sing L) = 0
end Go.Proofs.YtibpnocpafppaaaDoor.mq
