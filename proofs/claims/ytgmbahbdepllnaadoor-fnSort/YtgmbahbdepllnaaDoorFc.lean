/- What Clash (of the program and of its model) answers at every list of at most 2^20 numbers; no other condition. -/
import Derived.Test.YtgmbahbdepllnaaDoorFm
namespace Go.Proofs.YtgmbahbdepllnaaDoor.fc
open Go.ChangeShapes Go.WideShapes Go.ChangeAt Go.RowKit
open Go.Proofs.YtgmbahbdepllnaaDoor.lits (okB okB_iff okB_yes)
open Go.Proofs.YtgmbahbdepllnaaDoor.sl (Sl ints hide unhide ret_int ret_bool grown_refl grown_trans grown_drewN)
open Go.Proofs.YtgmbahbdepllnaaDoor.cls (hasB)
open Go.Proofs.YtgmbahbdepllnaaDoor.bset (setOf setOf_lt)
open Go.Proofs.YtgmbahbdepllnaaDoor.fm (clashB clash_iff)
set_option linter.unusedVariables false

theorem implClash (v : Value) (L : List Int) (w : World) (hL : L.length ≤ 1048576) (hv : Sl w v L) :
    Calls Tryd.prog 15 #[v] w fun e w' => e = .returned (.bool (clashB L)) ∧ w' = w := by
  have c1 := hide (bset.litsOf v L w hL hv)
  have c2 := srt.clashes (setOf L) w (setOf_lt L)
  rw [← clash_iff] at c2
  have C2 := hide c2
  clear c2 hv
  obtain ⟨q, hq⟩ : ∃ q, q = clashB L := ⟨_, rfl⟩
  rw [← hq] at C2 ⊢
  clear hq
  go_enter Tryd.func15, Tryd.ntmps15
  go_wp2_with fail
  refine (unhide c1).mono ?_; rintro e w2 ⟨rfl, hw⟩; have hw' := hw.symm; clear hw; subst hw'
  go_wp2_with fail
  refine (unhide C2).mono ?_; rintro e w2 ⟨rfl, hw⟩; have hw' := hw.symm; clear hw; subst hw'
  go_wp2_with fail
  go_ret
  exact ⟨rfl, rfl⟩
end Go.Proofs.YtgmbahbdepllnaaDoor.fc
