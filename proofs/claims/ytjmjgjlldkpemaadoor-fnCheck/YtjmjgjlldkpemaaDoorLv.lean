/- What Leaves (of the program and of its model) answers at every formula that holds at most 2^20 values and every list of at most 2^20 numbers, where the library's table of places lies as its text lays it. -/
import Derived.Test.YtjmjgjlldkpemaaDoorSt
import Derived.Test.YtjmjgjlldkpemaaDoorOg
import Derived.Deep.RegionHeld3
namespace Go.Proofs.YtjmjgjlldkpemaaDoor.sp
open Go.ChangeShapes Go.WideShapes Go.ChangeAt Go.RowKit
open Go.Proofs.YtjmjgjlldkpemaaDoor.lits (okB varI okB_iff)
open Go.Proofs.YtjmjgjlldkpemaaDoor.bset (setOf setOf_lt)
open Go.Proofs.YtjmjgjlldkpemaaDoor.srt (Tab)
open Go.Proofs.YtjmjgjlldkpemaaDoor.css (Sls tot)
open Go.Proofs.YtjmjgjlldkpemaaDoor.cf (Box)
open Go.Proofs.YtjmjgjlldkpemaaDoor.ok (cnfB litIn clB)
open Go.Proofs.YtjmjgjlldkpemaaDoor.wo (Made)
open Go.Proofs.YtjmjgjlldkpemaaDoor.wm
open Go.Proofs.YtjmjgjlldkpemaaDoor.sl (Sl Own ints hide unhide ret_int ret_bool grown_refl grown_trans grown_drewN)
set_option linter.unusedVariables false

/-- whether a clause follows at once -/
def leavesB (n : Int) (LL : List (List Int)) (L : List Int) : Bool := cnfB n LL && clB n L && !(frc (LL.map setOf) 49 (setOf (negL L)) (negL L)).2
theorem cl_ok {n : Int} {L : List Int} (h : clB n L = true) : ∀ x ∈ L, okB x = true := by
  unfold ok.clB at h
  rw [Bool.and_eq_true, List.all_eq_true] at h
  intro x hx
  have := h.1 x hx
  unfold ok.litIn at this
  rw [Bool.and_eq_true] at this
  exact this.1
theorem neg_in {n : Int} {L : List Int} (h : clB n L = true) : (negL L).all (litIn n) = true := by
  unfold ok.clB at h
  rw [Bool.and_eq_true, List.all_eq_true] at h
  rw [List.all_eq_true]
  intro y hy
  unfold negL at hy
  rw [List.mem_map] at hy
  obtain ⟨x, hx, rfl⟩ := hy
  have := h.1 x hx
  unfold ok.litIn at this ⊢
  rw [Bool.and_eq_true, decide_eq_true_iff] at this
  have a := okB_iff.1 this.1
  have b := okB_iff.1 (opp_ok this.1)
  have v := this.2
  rw [lits.varI_yes a] at v
  rw [opp_ok this.1, lits.varI_yes b, Bool.true_and, decide_eq_true_iff]
  split at v <;> split <;> omega
theorem force_neg {n : Int} {LL : List (List Int)} {L : List Int} (hc : cnfB n LL = true) (hb : clB n L = true) : forceB n LL (negL L) = frc (LL.map setOf) 49 (setOf (negL L)) (negL L) := by
  unfold wm.forceB wm.okU
  rw [hc, neg_in hb]
  rfl

end Go.Proofs.YtjmjgjlldkpemaaDoor.sp
