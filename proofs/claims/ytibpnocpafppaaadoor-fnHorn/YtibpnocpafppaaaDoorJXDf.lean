/- What the laws' own comparisons of lists answer at lists that are alike, and what DrawFix draws; whatever the bytes. -/
import Derived.Test.YtibpnocpafppaaaDoorJXDAn
namespace Go.Proofs.YtibpnocpafppaaaDoor.df
open Go.ChangeShapes Go.WideShapes Go.ChangeAt Go.RowKit
open sl (Sl Own ints hide unhide grown_refl grown_trans grown_trans' below_of grown_drewN)
open css (Sls OwnS tot)
open cf (Box)
open draw (Cur Bs I64 newCur grown_new)
open dcn (Came Bd Drawn)
set_option linter.unusedVariables false
theorem tot_bd {n : Int} {M : List (List Int)} {k : Nat} (h : Bd n M k) (hk : k ≤ 121) : tot M ≤ 6050 := by
 unfold css.tot
 have h2 : (M.map List.length).sum ≤ 49 * M.length := by
  have := h.2.2.1
  clear h
  induction M with
  | nil => simp
  | cons L l ih =>
   rw [List.map_cons, List.sum_cons, List.length_cons]
   have := ih (fun K hK => this K (List.mem_cons_of_mem _ hK))
   have := (by assumption : ∀ K ∈ L :: l, K.length ≤ 49) L (List.mem_cons_self ..)
   omega
 have := h.2.1
 omega
end Go.Proofs.YtibpnocpafppaaaDoor.df
