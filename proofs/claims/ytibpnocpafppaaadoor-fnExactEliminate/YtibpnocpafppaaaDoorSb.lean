/- Both CnfSort answer alike. -/
import Derived.Test.YtibpnocpafppaaaDoorIs
import Derived.Test.YtibpnocpafppaaaDoorFm
namespace Go.Proofs.YtibpnocpafppaaaDoor.cso
open Go.Proofs.YtibpnocpafppaaaDoor.css (Sls OwnS tot)
open Go.Proofs.YtibpnocpafppaaaDoor.ok (cnfB)
open Go.Proofs.YtibpnocpafppaaaDoor.cs (cnfS cnfS_len cnfS_mem good_24)
open Go.Proofs.YtibpnocpafppaaaDoor.srt (Tab)
set_option linter.unusedVariables false

theorem sum_le (M : List (List Int)) (h : ∀ L ∈ M, L.length ≤ 24) : (M.map List.length).sum ≤ M.length * 24 := by
  induction M with
  | nil => exact Nat.zero_le _
  | cons L M ih =>
    have a := h L (by simp)
    have b := ih (fun x hx => h x (by simp [hx]))
    rw [List.map_cons, List.sum_cons, List.length_cons]
    omega
theorem srt_tot (n : Int) (LL : List (List Int)) : tot (srtR n LL) ≤ 3000 := by
  unfold srtR
  split
  · rename_i h
    have hl := (fm.cnf_facts h).2.2.1
    have a := cnfS_len LL
    have b := sum_le (cnfS LL) (fun L hL => good_24 (cnfS_mem.1 hL))
    unfold css.tot
    omega
  · exact Nat.zero_le _
theorem both (n : Int) (LL : List (List Int)) (hn : tot LL ≤ 1048576) : ∃ (N : Int) (b : Bool) (R : List (List Int)), tot R ≤ 1048576 ∧
    (∀ v w, Sls w v LL → Calls Tryd.prog 54 #[.agg #[.int .i64 n, v]] w fun e w' => ∃ u, e = .returned (.tuple #[.agg #[.int .i64 N, u], .bool b]) ∧ OwnS w.heap.size w'.heap.size w' u R ∧ w.grownBy w' none) ∧
    (∀ v w, Tab w → Sls w v LL → Calls Tryd.prog 19 #[.agg #[.int .i64 n, v]] w fun e w' => ∃ u, e = .returned (.tuple #[.agg #[.int .i64 N, u], .bool b]) ∧ OwnS w.heap.size w'.heap.size w' u R ∧ w.grownBy w' none) :=
  ⟨srtN n LL, srtB n LL, srtR n LL, Nat.le_trans (srt_tot n LL) (by decide), fun v w hv => specCnfSort v n LL w hn hv, fun v w hT hv => implCnfSort v n LL w hT hn hv⟩
end Go.Proofs.YtibpnocpafppaaaDoor.cso
