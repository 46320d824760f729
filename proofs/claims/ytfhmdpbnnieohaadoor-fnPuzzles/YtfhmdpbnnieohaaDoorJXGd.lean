/- What Horn (of the program and of its model) answers at every formula that holds at most 2^20 values; no other condition. -/
import Derived.Test.YtfhmdpbnnieohaaDoorJPn
import Derived.Deep.DeepCutAuto
import Derived.Deep.RegionWith
import Derived.Deep.Cut
import Derived.Deep.Matrix
import Derived.Test.YtfhmdpbnnieohaaDoorJPc
import Derived.Deep.RegionHeld3
namespace Go.Proofs.YtfhmdpbnnieohaaDoor.gc
open Go.ChangeShapes Go.WideShapes Go.ChangeAt Go.RowKit
open sl (Sl Own ints hide unhide ret_int ret_bool grown_refl grown_trans grown_drewN)
open css (Sls OwnS tot)
open cf (Box)
open ok (cnfB all_hit all_step all_end)
open cls (hasB)
open wo (Made)
set_option linter.unusedVariables false
theorem mkI (n : Nat) (hn : n ≤ 1048576) (w : World) : (Instr.makeSlice 30 (.int .i64 0) (.int .i64 (n : Int))).run Tryd.prog w = .ok (.slice (some ⟨w.heap.size, 0, none⟩) 0 n) (w.alloc (.cells (madeCells #[.int .i64 0] n) 3)) := by
 obtain ⟨i0, hi, hz0, hz1, hz2⟩ := info_parts sl.info3
 have hr := run_make (P := Tryd.prog) w 30 3 i0 (.int .i64 0) Tryd.underlying30 hi hz0 .i64 .i64 0 n (by decide) (by omega) (by rw [hz2]; omega) (by omega)
 rw [hz1, Nat.mul_one] at hr
 exact hr
theorem madeI (w : World) (n : Nat) (hn : n ≤ 1048576) : Made w (w.alloc (.cells (madeCells #[.int .i64 0] n) 3)) (.slice (some ⟨w.heap.size, 0, none⟩) 0 n) [] :=
 ⟨World.ownsRow_made w _ n (Nat.le_refl _) (by unfold maxLen; omega) (by rw [size_madeCells, Nat.mul_one]), World.grownBy_alloc _ _ _⟩
end Go.Proofs.YtfhmdpbnnieohaaDoor.gc
