/- What Occurs and Horn (of the program and of its model) answer at every formula that holds at most 2^20 values; no other condition. -/
import Derived.Test.YtibpnocpafppaaaDoorJXGb
import Derived.Test.YtibpnocpafppaaaDoorJXOk
import Derived.Test.YtibpnocpafppaaaDoorJLc
import Derived.Deep.RegionHeld3
namespace Go.Proofs.YtibpnocpafppaaaDoor.gc
open Go.ChangeShapes Go.WideShapes Go.ChangeAt Go.RowKit
open sl (Sl Own ints hide unhide ret_int ret_bool grown_refl grown_trans grown_drewN)
open css (Sls OwnS tot)
open cf (Box)
open ok (cnfB all_hit all_step all_end)
open cls (hasB)
open wo (Made)
open gb (Rd Kpt flt KeptE)
set_option linter.unusedVariables false
theorem having1 (v : Value) (L : List Int) (x : Int) (c : Nat) (w : World) (hL : L.length ≤ 1048576) (hv : Sl w v L) (hc : w.cell? ⟨c, 0, none⟩ = some (.int .i64 x)) :
  Calls Tryd.prog 125 #[v, .pointer (some ⟨c, 0, none⟩)] w fun e w' => e = .returned (.bool (hasB L x)) ∧ w' = w := by
 have C := hide (cls.implClauseHas v L x w hL hv)
 obtain ⟨a, cap, rfl, _⟩ := hv
 go_enter Tryd.func125, Tryd.ntmps125
 go_wp2_with fail
 refine (unhide C).mono ?_; rintro e w2 ⟨rfl, hw⟩; have hw' := hw.symm; clear hw; subst hw'
 go_wp2_with fail
 go_ret
 exact ⟨rfl, rfl⟩
theorem having (x : Int) (w : World) : Calls Tryd.prog 73 #[.int .i64 x] w fun e w' => e = .returned (.func (.func 125) #[] #[.pointer (some ⟨w.heap.size, 0, none⟩)]) ∧ w' = w.alloc (.cells #[.int .i64 x] 3) := by
 go_enter Tryd.func73, Tryd.ntmps73
 go_wp2_with fail
 go_ret
 exact ⟨rfl, rfl⟩
theorem cell_new (w : World) (x : Value) (t : TypeId) : (w.alloc (.cells #[x] t)).cell? ⟨w.heap.size, 0, none⟩ = some x := by
 have h : (w.alloc (.cells #[x] t)).heap[w.heap.size]? = some (.cells #[x] t) := by show (w.heap.push _)[w.heap.size]? = _; simp
 unfold World.cell?
 rw [h]
 rfl
end Go.Proofs.YtibpnocpafppaaaDoor.gc
