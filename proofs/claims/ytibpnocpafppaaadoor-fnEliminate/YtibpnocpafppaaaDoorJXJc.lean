/- The calls of the law on turned variables, told with what they mean; conditions: a formula that holds at most 2^20 values. -/
import Derived.Test.YtibpnocpafppaaaDoorJXJa
import Derived.Test.YtibpnocpafppaaaDoorJXDf
namespace Go.Proofs.YtibpnocpafppaaaDoor.jb
open Go.ChangeShapes Go.WideShapes Go.ChangeAt Go.RowKit
open sl (Sl Own ints hide unhide grown_refl grown_trans)
open css (Sls OwnS tot)
open ok (cnfB)
open tr (litT clT cnfT)
open ge (hvB)
set_option linter.unusedVariables false
theorem own_cell {lo hi g cap i : Nat} {w : World} {X : List Int} (h : Own lo hi w (.slice (some ⟨g, 0, none⟩) X.length cap) X) (hi' : i < X.length) : w.cell? ⟨g, i, none⟩ = some (.int .i64 (X.getD i 0)) := by
 rw [h.1.cellAt i (by omega)]
 simp [sl.ints, hi']
theorem own_some {lo hi : Nat} {w : World} {v : Value} {X : List Int} (h : Own lo hi w v X) (hX : 0 < X.length) : ∃ g cap, v = .slice (some ⟨g, 0, none⟩) X.length cap ∧ g < w.heap.size := by
 have hl := h.1
 obtain ⟨_, h2⟩ := h.1
 rcases h2 with ⟨rfl, h0⟩ | ⟨g, cap, cur, rfl, _⟩
 ·omega
 ·exact ⟨g, cap, rfl, (hl.lt g rfl).2⟩
end Go.Proofs.YtibpnocpafppaaaDoor.jb
