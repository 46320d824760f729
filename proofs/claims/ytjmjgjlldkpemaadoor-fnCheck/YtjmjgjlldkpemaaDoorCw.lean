/- What the program's Implies answers at every formula that holds at most 2^20 values and every list of as many; no other condition. -/
import Derived.Test.YtjmjgjlldkpemaaDoorCu
import Derived.Test.YtjmjgjlldkpemaaDoorCi
namespace Go.Proofs.YtjmjgjlldkpemaaDoor.cw
open Go.ChangeShapes Go.WideShapes Go.ChangeAt Go.RowKit Go.Shelf
open Go.Proofs.YtjmjgjlldkpemaaDoor.sl (Sl Own ints hide unhide ret_int ret_bool grown_refl grown_trans grown_drewN below_of of_below)
open Go.Proofs.YtjmjgjlldkpemaaDoor.css (Sls tot)
open Go.Proofs.YtjmjgjlldkpemaaDoor.cf (Box)
open Go.Proofs.YtjmjgjlldkpemaaDoor.ok (cnfB clB)
open Go.Proofs.YtjmjgjlldkpemaaDoor.tr (cnfT clT)
open Go.Proofs.YtjmjgjlldkpemaaDoor.cnt (cntR le ev sp asg)
open Go.Proofs.YtjmjgjlldkpemaaDoor.at_ (at_)
open Go.Proofs.YtjmjgjlldkpemaaDoor.bset (setOf)
open Go.Proofs.YtjmjgjlldkpemaaDoor.su (MadeU words meets)
open Go.Proofs.YtjmjgjlldkpemaaDoor.ct (impB impN)
open Go.Proofs.YtjmjgjlldkpemaaDoor.cu (form grow0 grow1 grow2)
set_option linter.unusedVariables false
attribute [local go_sem] Oper.semAt_some

theorem all_cnt (P : Nat) (h : Nat → Bool) : (List.range P).all h = decide (cntR P (fun k => !h k) = 0) := by
  unfold cnt.cntR
  rw [Bool.eq_iff_iff, decide_eq_true_iff, List.length_eq_zero_iff, List.filter_eq_nil_iff, List.all_eq_true]
  constructor
  · intro a k hk
    simp [a k hk]
  · intro a k hk
    simpa using a k hk
theorem all_both (n : Nat) (g : List Int → Bool) : (List.range (2 ^ n)).all (fun k => g (asg n k [])) = (List.range (2 ^ n)).all (fun j => g (le n j)) := by
  rw [all_cnt, all_cnt, cnt.cnt_both n (fun l => !g l)]
/-- what an assignment must be -/
def okAt (m : Nat) (LL : List (List Int)) (L : List Int) (j : Nat) : Bool := !(cnfT (le m j) LL) || clT (le m j) L
theorem impN_le (m : Nat) (LL : List (List Int)) (L : List Int) : impN m LL L = (List.range (2 ^ m)).all (okAt m LL L) := by
  unfold ct.impN okAt
  exact all_both m (fun l => !(cnfT l LL) || clT l L)
theorem clB_all {n : Int} {L : List Int} (h : clB n L = true) : L.all (ok.litIn n) = true := by
  unfold ok.clB at h
  rw [Bool.and_eq_true] at h
  exact h.1

/-- no word in common: the clause is false there -/
theorem wanted (m x : Nat) (L : List Int) (hm : m ≤ 14) (h : clB (m : Int) L = true) : (bits .and .u64 (at_ m x : Int) (setOf L : Int) == 0) = !(clT (le m x) L) := by
  rw [su.and_zero _ _ (at_.at_lt m x (by omega)) (bset.setOf_lt L), Nat.and_comm, ← at_.clause_at (clB_all h), Bool.not_not]

end Go.Proofs.YtjmjgjlldkpemaaDoor.cw
