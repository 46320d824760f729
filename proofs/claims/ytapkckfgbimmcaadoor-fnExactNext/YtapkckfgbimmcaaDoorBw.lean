/- SolveWith and Solve, the program's beside the model's: one answer. -/
import Derived.Test.YtapkckfgbimmcaaDoorKz
namespace Go.Proofs.YtapkckfgbimmcaaDoor.ks
open Go.Proofs.YtapkckfgbimmcaaDoor.lq (solveL FromE)
open Go.Proofs.YtapkckfgbimmcaaDoor.css (Sls tot)
open Go.Proofs.YtapkckfgbimmcaaDoor.sl (ints)
set_option linter.unusedVariables false
theorem solve_len (n : Int) (LL : List (List Int)) (a : List Int) : ((solveL n LL a).getD []).length ≤ 24 := by
  unfold lq.solveL
  split
  · rename_i h
    rw [Bool.and_eq_true] at h
    obtain ⟨m, rfl, h24, _⟩ := cnf_parts h.1
    cases e : lq.lst ((m : Int)).toNat (lq.holds LL a) with
    | none => exact Nat.zero_le _
    | some l =>
      have := (lq.lst_some e).1.1
      show l.length ≤ 24
      omega
  · exact Nat.zero_le _
theorem bothW (n : Int) (LL : List (List Int)) (L : List Int) (hn : tot LL ≤ 1048576) (hL : L.length ≤ 1048576) : ∃ (R : List Int) (b : Bool), R.length ≤ 1048576 ∧
    (∀ v u (lo hi : Nat) w, Sls w v LL → sl.Own lo hi w u L → Calls Tryd.prog 39 #[.agg #[.int .i64 n, v], u] w fun e w' => ∃ r, e = .returned (.tuple #[r, .bool b]) ∧ w'.ownsRow w.heap.size 3 1 r R.length (ints R) ∧ w.grownBy w' none) ∧
    (∀ v u (lo hi : Nat) w, srt.Tab w → Sls w v LL → sl.Own lo hi w u L → Calls Tryd.prog 20 #[.agg #[.int .i64 n, v], u] w fun e w' => ∃ r, e = .returned (.tuple #[r, .bool b]) ∧ w'.ownsRow w.heap.size 3 1 r R.length (ints R) ∧ w.grownBy w' none) :=
  ⟨_, _, Nat.le_trans (solve_len n LL L) (by omega), fun v u lo hi w h k => lq.specSolveWith v u n LL L lo hi w hn hL h k, fun v u lo hi w t h k => implSolveWith v u n LL L w t hn hL h k.sl⟩
theorem bothS (n : Int) (LL : List (List Int)) (hn : tot LL ≤ 1048576) : ∃ (R : List Int) (b : Bool), R.length ≤ 1048576 ∧
    (∀ v w, Sls w v LL → Calls Tryd.prog 15 #[.agg #[.int .i64 n, v]] w fun e w' => ∃ r, e = .returned (.tuple #[r, .bool b]) ∧ w'.ownsRow w.heap.size 3 1 r R.length (ints R) ∧ w.grownBy w' none) ∧
    (∀ v w, srt.Tab w → Sls w v LL → Calls Tryd.prog 14 #[.agg #[.int .i64 n, v]] w fun e w' => ∃ r, e = .returned (.tuple #[r, .bool b]) ∧ w'.ownsRow w.heap.size 3 1 r R.length (ints R) ∧ w.grownBy w' none) :=
  ⟨_, _, Nat.le_trans (solve_len n LL []) (by omega), fun v w h => lq.specSolve v n LL w hn h, fun v w t h => implSolve v n LL w t hn h⟩
end Go.Proofs.YtapkckfgbimmcaaDoor.ks
