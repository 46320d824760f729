/- Plain mathematics of Clash, Free and Pure: words of bits and the lists that the model makes; no condition. -/
import Derived.Test.YtnlllcgcaddhmaaGreatDoorJOc
import Derived.Test.YtnlllcgcaddhmaaGreatDoorJOn
namespace Go.Proofs.YtnlllcgcaddhmaaGreatDoor.fm
open Go.RowKit
open lits (okB placeI okB_iff okB_yes okB_no)
open bset (setOf placeN setOf_has setOf_lt setOf_bit placeN_le)
open cls (hasB)
open srt (oppN oppN_bit oppN_lt swp andN andN_bit andN_lt srt srt_yes srt_no srt_skip litI litI_even litI_odd okTo has_pos has_neg hi_bit)
set_option linter.unusedVariables false
def clashB (L : List Int) : Bool := L.any fun x => okB x && hasB L (-x)
theorem cnf_facts {n : Int} {LL : List (List Int)} (h : ok.cnfB n LL = true) : 0 ≤ n ∧ n ≤ 24 ∧ LL.length ≤ 120 ∧ ∀ L ∈ LL, L.length ≤ 48 ∧ ∀ x ∈ L, ok.litIn n x = true := by
 unfold ok.cnfB at h
 simp only [Bool.and_eq_true, decide_eq_true_iff, List.all_eq_true] at h
 refine ⟨h.1.1.1, h.1.1.2, h.1.2, fun L hL => ?_⟩
 have k := h.2 L hL
 unfold ok.clB at k
 simp only [Bool.and_eq_true, decide_eq_true_iff, List.all_eq_true] at k
 exact ⟨k.2, k.1⟩
end Go.Proofs.YtnlllcgcaddhmaaGreatDoor.fm
