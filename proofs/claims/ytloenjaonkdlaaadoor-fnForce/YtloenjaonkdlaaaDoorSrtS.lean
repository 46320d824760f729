/- What spec.l01Sort and both ClauseSort answer, at every list of at most 2^20 numbers, where the library's table of places lies as its text lays it. -/
import Derived.Test.YtloenjaonkdlaaaDoorSrtW
import Derived.Deep.RegionWith
namespace Go.Proofs.YtloenjaonkdlaaaDoor.srt
open Go.ChangeShapes Go.WideShapes Go.ChangeAt Go.RowKit
open Go.Proofs.YtloenjaonkdlaaaDoor.lits (okB placeI okB_iff okB_yes okB_no)
open Go.Proofs.YtloenjaonkdlaaaDoor.bset (setOf placeN setOf_has setOf_lt)
open Go.Proofs.YtloenjaonkdlaaaDoor.cls (hasB okAll)
open Go.Proofs.YtloenjaonkdlaaaDoor.sl (Sl ints hide unhide ret_int ret_bool grown_refl grown_trans)
set_option linter.unusedVariables false

theorem sortL_no {L : List Int} (h : okAll L = false) : sortL L = [] := by unfold sortL; rw [h]; rfl
theorem sortL_yes {L : List Int} (h : okAll L = true) : sortL L = srt (setOf L) 48 := by unfold sortL; rw [h]; rfl
theorem sortB_no {L : List Int} (h : okAll L = false) : sortB L = false := by unfold sortB; rw [h]; rfl
theorem sortB_yes {L : List Int} (h : okAll L = true) : sortB L = okTo (setOf L) 24 := by unfold sortB; rw [h]; rfl
theorem sortL_len (L : List Int) : (sortL L).length ≤ 48 := by
  unfold sortL
  split
  · exact srt_len _ _
  · exact Nat.zero_le _
/-- an empty list that is made -/
theorem made_nil (w : World) : wo.Made w (w.alloc (.cells #[] 3)) (.slice (some ⟨w.heap.size, 0, none⟩) 0 0) [] :=
  ⟨World.ownsRow_lit w #[] 0 (Nat.le_refl _) (Nat.zero_le _) rfl, World.grownBy_alloc _ _ _⟩

end Go.Proofs.YtloenjaonkdlaaaDoor.srt
