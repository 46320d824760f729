/- What spec.l01Sort and both ClauseSort answer, at every list of at most 2^20 numbers, where the library's table of places lies as its text lays it. -/
import Derived.Test.YtgmbahbdepllnaaDoorSrtW
import Derived.Deep.RegionWith
namespace Go.Proofs.YtgmbahbdepllnaaDoor.srt
open Go.ChangeShapes Go.WideShapes Go.ChangeAt Go.RowKit
open Go.Proofs.YtgmbahbdepllnaaDoor.lits (okB placeI okB_iff okB_yes okB_no)
open Go.Proofs.YtgmbahbdepllnaaDoor.bset (setOf placeN setOf_has setOf_lt)
open Go.Proofs.YtgmbahbdepllnaaDoor.cls (hasB okAll)
open Go.Proofs.YtgmbahbdepllnaaDoor.sl (Sl ints hide unhide ret_int ret_bool grown_refl grown_trans)
set_option linter.unusedVariables false

theorem sortL_no {L : List Int} (h : okAll L = false) : sortL L = [] := by unfold sortL; rw [h]; rfl
theorem sortL_yes {L : List Int} (h : okAll L = true) : sortL L = srt (setOf L) 48 := by unfold sortL; rw [h]; rfl
theorem sortB_no {L : List Int} (h : okAll L = false) : sortB L = false := by unfold sortB; rw [h]; rfl
theorem sortB_yes {L : List Int} (h : okAll L = true) : sortB L = okTo (setOf L) 24 := by unfold sortB; rw [h]; rfl
theorem sortL_len (L : List Int) : (sortL L).length ≤ 48 := by
  unfold sortL
  split
  · exact srt_len _ _
  · exact Nat.zero_le _
/-- an empty list that is made -/
theorem made_nil (w : World) : wo.Made w (w.alloc (.cells #[] 3)) (.slice (some ⟨w.heap.size, 0, none⟩) 0 0) [] :=
  ⟨World.ownsRow_lit w #[] 0 (Nat.le_refl _) (Nat.zero_le _) rfl, World.grownBy_alloc _ _ _⟩

theorem implClauseSort (v : Value) (L : List Int) (w : World) (hT : Tab w) (hL : L.length ≤ 1048576) (hv : Sl w v L) :
    Calls Tryd.prog 7 #[v] w fun e w' => ∃ u, e = .returned (.tuple #[u, .bool (sortB L)]) ∧ wo.Made w w' u (sortL L) := by
  have c1 := cls.implClauseOk v L w hL hv
  have c2 := bset.litsOf v L w hL hv
  have c3 := list (setOf L) w hT (setOf_lt L)
  have c4 := fun w => clashes (setOf L) w (setOf_lt L)
  cases hok : okAll L
  · rw [hok] at c1
    rw [sortL_no hok, sortB_no hok]
    have C1 := hide c1
    clear c1 c2 c3 c4 hok hv hT
    go_enter Tryd.func7, Tryd.ntmps7
    go_wp2_with fail
    refine (unhide C1).mono ?_; rintro e w2 ⟨rfl, hw⟩; have hw' := hw.symm; clear hw; subst hw'
    go_wp2_with fail
    go_ret2
    exact ⟨_, rfl, made_nil w⟩
  · rw [hok] at c1
    rw [sortL_yes hok, sortB_yes hok]
    have C1 := hide c1
    have C2 := hide c2
    have C3 := hide c3
    have C4 := hide c4
    clear c1 c2 c3 c4 hok hv hT
    go_enter Tryd.func7, Tryd.ntmps7
    go_wp2_with fail
    refine (unhide C1).mono ?_; rintro e w2 ⟨rfl, hw⟩; have hw' := hw.symm; clear hw; subst hw'
    go_wp2_with fail
    refine (unhide C2).mono ?_; rintro e w2 ⟨rfl, hw⟩; have hw' := hw.symm; clear hw; subst hw'
    go_wp2_with fail
    refine (unhide C3).mono ?_; rintro e w2 ⟨u, rfl, o, g⟩
    have R : wo.Made w w2 u (srt (setOf L) 48) := ⟨o, g⟩
    clear o g C1 C2 C3
    go_wp2_with fail
    refine (unhide C4 w2).mono ?_; rintro e w3 ⟨rfl, hw⟩; have hw' := hw.symm; clear hw; subst hw'
    clear C4
    go_wp2_with fail
    go_ret2
    exact ⟨_, by simp, R⟩
end Go.Proofs.YtgmbahbdepllnaaDoor.srt
