/- FlipVar and SwapVars: what the program and its model answer at every formula of the call's own that holds at most 2^20 values, and any numbers. -/
import Derived.Test.YtibpnocpafppaaaDoorJXGe
namespace Go.Proofs.YtibpnocpafppaaaDoor.ge
open Go.ChangeShapes Go.WideShapes Go.ChangeAt Go.RowKit
open cf (Box)
open ok (cnfB)
open lits (okB varI)
open css (Sls OwnS tot Apart own_ne own_ne' own_kind own_mono)
open sl (Sl Own ints hide unhide ret_int ret_bool grown_refl grown_trans)
set_option linter.unusedVariables false
def hvB (n x : Int) (LL : List (List Int)) : Bool := cnfB n LL && decide (1 ≤ x ∧ x ≤ n)
theorem hv_yes {n x : Int} {LL : List (List Int)} (h : hvB n x LL = true) : cnfB n LL = true ∧ 1 ≤ x ∧ x ≤ n ∧ n ≤ 24 := by
 unfold hvB at h
 rw [Bool.and_eq_true, decide_eq_true_iff] at h
 have h1 := h.1
 unfold ok.cnfB at h1
 rw [Bool.and_eq_true, Bool.and_eq_true, decide_eq_true_iff] at h1
 exact ⟨h.1, h.2.1, h.2.2, h1.1.1.2⟩
theorem hasVariable (v : Value) (n x : Int) (LL : List (List Int)) (w : World) (hn : tot LL ≤ 1048576) (hv : Sls w v LL) :
  Calls Tryd.prog 71 #[.agg #[.int .i64 n, v], .int .i64 x] w fun e w' => e = .returned (.bool (hvB n x LL)) ∧ w.grownBy w' none := by
 have hv0 := hv
 obtain ⟨a, cap, rfl, _⟩ := hv
 have g0 := World.grownBy_alloc w (.cells #[.int .i64 n, .slice a LL.length cap] 26) none
 have C := hide (ok.implCnfOk _ n LL _ hn (hv0.kept g0))
 have G0 := hide g0
 have bx := hide (cf.Box.new 26 w (.int .i64 n) (.slice a LL.length cap))
 clear g0 hv0
 go_enter Tryd.func71, Tryd.ntmps71
 go_wp2_with fail
 refine (unhide C).mono ?_; rintro e w1 ⟨rfl, g1⟩
 have G1 := hide (grown_trans (r := none) (unhide G0) g1)
 have bx1 := (unhide bx).kept g1
 have x0 := bx1.c0
 have x1 := bx1.c1
 clear C g1 bx bx1
 cases hb : cnfB n LL
 ·have E := hide (show hvB n x LL = false by simp [hvB, hb])
  clear hb
  go_wp2_with fail
  go_ret
  exact ⟨ret_bool (unhide E).symm, unhide G1⟩
 ·by_cases h1 : 1 ≤ x
  ·have h1' : decide (1 ≤ x) = true := decide_eq_true h1
   have E := hide (show hvB n x LL = decide (x ≤ n) by unfold hvB; rw [hb, Bool.true_and]; exact decide_eq_decide.2 ⟨fun h => h.2, fun h => ⟨h1, h⟩⟩)
   clear hb
   go_wp2_with fail
   go_ret
   exact ⟨ret_bool (unhide E).symm, unhide G1⟩
  ·have h1' : decide (1 ≤ x) = false := decide_eq_false h1
   have E := hide (show hvB n x LL = false by unfold hvB; rw [decide_eq_false (fun h => h1 h.1), Bool.and_false])
   clear hb
   go_wp2_with fail
   go_ret
   exact ⟨ret_bool (unhide E).symm, unhide G1⟩
theorem ini_all (w : World) (x y : Value) : w.grownBy ((w.alloc (.cells #[x, y] 26)).alloc (.cells #[.int .i64 0, .slice none 0 0] 26)) none ∧ Box 26 ((w.alloc (.cells #[x, y] 26)).alloc (.cells #[.int .i64 0, .slice none 0 0] 26)) w.heap.size x y
  ∧ Box 26 ((w.alloc (.cells #[x, y] 26)).alloc (.cells #[.int .i64 0, .slice none 0 0] 26)) (w.heap.size + 1) (.int .i64 0) (.slice none 0 0) := by
 have b1 := Box.new 26 (w.alloc (.cells #[x, y] 26)) (.int .i64 0) (.slice none 0 0)
 rw [World.size_alloc] at b1
 exact ⟨grown_trans (World.grownBy_alloc _ _ _) (World.grownBy_alloc _ _ _), (Box.new _ _ _ _).kept (World.grownBy_alloc _ _ _), b1⟩
end Go.Proofs.YtibpnocpafppaaaDoor.ge
