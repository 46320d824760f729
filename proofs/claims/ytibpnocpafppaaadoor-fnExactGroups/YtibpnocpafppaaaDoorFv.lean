/- What both Groups answer; conditions: a formula that holds at most 2^20 values. -/
import Derived.Test.YtibpnocpafppaaaDoorFq
namespace Go.Proofs.YtibpnocpafppaaaDoor.fi
open Go.Proofs.YtibpnocpafppaaaDoor.css (Sls OwnS tot)
open Go.Proofs.YtibpnocpafppaaaDoor.ok (cnfB)
open Go.Proofs.YtibpnocpafppaaaDoor.fg
open Go.Proofs.YtibpnocpafppaaaDoor.srt (Tab)
theorem tot_snoc (R : List (List Int)) (L : List Int) : tot (R ++ [L]) = tot R + 1 + L.length := by
  simp [css.tot]
  omega
theorem tot_outs (o : Nat → Nat) (n : Nat) : ∀ m, tot (outs o n m) ≤ m * (n + 1)
  | 0 => by simp [outs, css.tot]
  | m + 1 => by
    have h := tot_outs o n m
    rw [Nat.add_mul, Nat.one_mul]
    by_cases e : o (m + 1) = m + 1
    · rw [outs_yes e, tot_snoc]
      have := cl_len (fun u => decide (o u = m + 1)) n
      omega
    · rw [outs_no e]
      omega
theorem tot_grp (n : Int) (LL : List (List Int)) : tot (grpL n LL) ≤ 600 := by
  unfold grpL
  cases hB : cnfB n LL
  · rw [if_neg (by decide)]
    decide
  · have hN : 0 ≤ n ∧ n ≤ 24 := by
      unfold ok.cnfB at hB
      rw [Bool.and_eq_true, Bool.and_eq_true, decide_eq_true_eq] at hB
      exact hB.1.1
    have h := tot_outs (lab LL LL.length) n.toNat n.toNat
    have h2 := Nat.mul_le_mul (show n.toNat ≤ 24 by omega) (show n.toNat + 1 ≤ 25 by omega)
    rw [if_pos rfl]
    omega
theorem bothGroups (n : Int) (LL : List (List Int)) (hn : tot LL ≤ 1048576) : ∃ R, tot R ≤ 1048576 ∧
    (∀ v w, Sls w v LL → Calls Tryd.prog 30 #[.agg #[.int .i64 n, v]] w fun e w' => GrpE R w e w') ∧
    ∀ v w, Tab w → Sls w v LL → Calls Tryd.prog 29 #[.agg #[.int .i64 n, v]] w fun e w' => GrpE R w e w' :=
  ⟨grpL n LL, Nat.le_trans (tot_grp n LL) (by decide), fun v w hv => specGroups v n LL w hn hv, fun v w hT hv => implGroups v n LL w hT hn hv⟩
end Go.Proofs.YtibpnocpafppaaaDoor.fi
