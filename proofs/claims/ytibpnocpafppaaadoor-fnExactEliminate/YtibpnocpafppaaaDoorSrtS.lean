/- What spec.l01Sort and both ClauseSort answer, at every list of at most 2^20 numbers, where the library's table of places lies as its text lays it. -/
import Derived.Test.YtibpnocpafppaaaDoorSrtW
import Derived.Deep.RegionWith
namespace Go.Proofs.YtibpnocpafppaaaDoor.srt
open Go.ChangeShapes Go.WideShapes Go.ChangeAt Go.RowKit
open Go.Proofs.YtibpnocpafppaaaDoor.lits (okB placeI okB_iff okB_yes okB_no)
open Go.Proofs.YtibpnocpafppaaaDoor.bset (setOf placeN setOf_has setOf_lt)
open Go.Proofs.YtibpnocpafppaaaDoor.cls (hasB okAll)
open Go.Proofs.YtibpnocpafppaaaDoor.sl (Sl ints hide unhide ret_int ret_bool grown_refl grown_trans)
set_option linter.unusedVariables false

set_option maxHeartbeats 1000000 in
theorem l01Sort (v : Value) (L : List Int) (w : World) (hL : L.length ≤ 1048576) (hv : Sl w v L) :
    Calls Tryd.prog 112 #[v] w fun e w' => ∃ u, e = .returned (.tuple #[u, .bool (okTo (setOf L) 24)]) ∧ w'.ownsRow w.heap.size 3 1 u (srt (setOf L) 48).length (ints (srt (setOf L) 48)) ∧ w.grownBy w' none := by
  obtain ⟨i0, hi, hz0, hz1, hz2⟩ := info_parts sl.info3
  have HV := hide hv
  clear hv
  have start : Hid ((w.alloc (.cells #[] 3)).ownsRow w.heap.size 3 1 (.slice (some ⟨w.heap.size, 0, none⟩) 0 0) 0 []) := World.ownsRow_lit w #[] 0 (Nat.le_refl _) (Nat.zero_le _) rfl
  have grown : Hid (w.grownBy (w.alloc (.cells #[] 3)) none) := World.grownBy_alloc _ _ _
  go_enter Tryd.func112, Tryd.ntmps112
  go_wp2
  go_loopw [4, 5, 6] (fun u o i wr => ∃ k : Nat, k ≤ 24 ∧ i = .int .i64 ((k : Int) + 1) ∧ o = .bool (okTo (setOf L) k) ∧ wr.ownsRow w.heap.size 3 1 u (srt (setOf L) (2 * k)).length (ints (srt (setOf L) (2 * k))) ∧ w.grownBy wr none) (fun _ _ i _ => 30 - (intOf i).toNat)
  case atStart => exact ⟨0, Nat.zero_le _, rfl, rfl, unhide start, unhide grown⟩
  case round =>
    obtain ⟨k, hk, rfl, rfl, hown, hg⟩ := hrel
    clear start grown
    by_cases hlt : k < 24
    · have hi' : (k : Int) + 1 ≤ 24 := by omega
      have ca := cls.specClauseHas v L ((k : Int) + 1) wr hL ((unhide HV).kept hg (.inl rfl))
      have cb := cls.specClauseHas v L (-((k : Int) + 1)) wr hL ((unhide HV).kept hg (.inl rfl))
      rw [has_pos L k hlt] at ca
      rw [has_neg L k hlt] at cb
      have eo := okTo_succ (setOf L) k
      have y1 := fun h => srt_yes (S := setOf L) (j := 2 * k) h
      have n1 := fun h => srt_no (S := setOf L) (j := 2 * k) h
      have y2 := fun h => srt_yes (S := setOf L) (j := 2 * k + 1) h
      have n2 := fun h => srt_no (S := setOf L) (j := 2 * k + 1) h
      rw [litI_even] at y1
      rw [litI_odd] at y2
      have hle : (srt (setOf L) (2 * k)).length ≤ 48 := Nat.le_trans (srt_len _ _) (by omega)
      have hsz := hg.size
      clear HV
      cases ha : (setOf L).testBit (2 * k)
      all_goals cases hb : (setOf L).testBit (2 * k + 1)
      · rw [ha] at ca eo
        rw [hb] at cb eo
        have CA := hide ca
        have CB := hide cb
        have EO := hide eo
        have E : Hid (srt (setOf L) (2 * (k + 1)) = srt (setOf L) (2 * k)) := by
          show _ = _
          rw [show 2 * (k + 1) = 2 * k + 1 + 1 from by omega, n2 hb, n1 ha]
        clear ca cb eo y1 n1 y2 n2 ha hb
        generalize srt (setOf L) (2 * k) = M at *
        generalize okTo (setOf L) k = o at *
        cases o
        all_goals
          go_wp2_with fail
          refine (unhide CA).mono ?_; rintro e w2 ⟨rfl, hw⟩; have hw' := hw.symm; clear hw; subst hw'
          go_wp2_with fail
          refine (unhide CB).mono ?_; rintro e w2 ⟨rfl, hw⟩; have hw' := hw.symm; clear hw; subst hw'
          have R : wo.Made w wr _ M := ⟨hown, hg⟩
          clear hown hg
          go_wp2
          go_roundw
          case rel => exact ⟨k + 1, by omega, by go_num, by rw [unhide EO]; rfl, by rw [unhide E]; exact R.1, R.2⟩
          case measure => simp [intOf]; omega
      · rw [ha] at ca eo
        rw [hb] at cb eo
        have CA := hide ca
        have CB := hide cb
        have EO := hide eo
        have E : Hid (srt (setOf L) (2 * (k + 1)) = srt (setOf L) (2 * k) ++ [-((k : Int) + 1)]) := by
          show _ = _
          rw [show 2 * (k + 1) = 2 * k + 1 + 1 from by omega, y2 hb, n1 ha]
        clear ca cb eo y1 n1 y2 n2 ha hb
        generalize srt (setOf L) (2 * k) = M at *
        generalize okTo (setOf L) k = o at *
        cases o
        all_goals
          go_wp2_with fail
          refine (unhide CA).mono ?_; rintro e w2 ⟨rfl, hw⟩; have hw' := hw.symm; clear hw; subst hw'
          go_wp2_with fail
          refine (unhide CB).mono ?_; rintro e w2 ⟨rfl, hw⟩; have hw' := hw.symm; clear hw; subst hw'
          go_wp2_with (at_builtin; refine wo.append1 hg hown (by omega) rfl _ _ rfl rfl rfl ?_)
          intro v' w1 R
          clear hown hg
          go_wp2
          go_roundw
          case rel => exact ⟨k + 1, by omega, by go_num, by rw [unhide EO]; rfl, by rw [unhide E]; exact R.1, R.2⟩
          case measure => simp [intOf]; omega
      · rw [ha] at ca eo
        rw [hb] at cb eo
        have CA := hide ca
        have CB := hide cb
        have EO := hide eo
        have E : Hid (srt (setOf L) (2 * (k + 1)) = srt (setOf L) (2 * k) ++ [(k : Int) + 1]) := by
          show _ = _
          rw [show 2 * (k + 1) = 2 * k + 1 + 1 from by omega, n2 hb, y1 ha]
        clear ca cb eo y1 n1 y2 n2 ha hb
        generalize srt (setOf L) (2 * k) = M at *
        generalize okTo (setOf L) k = o at *
        cases o
        all_goals
          go_wp2_with fail
          refine (unhide CA).mono ?_; rintro e w2 ⟨rfl, hw⟩; have hw' := hw.symm; clear hw; subst hw'
          go_wp2_with fail
          refine (unhide CB).mono ?_; rintro e w2 ⟨rfl, hw⟩; have hw' := hw.symm; clear hw; subst hw'
          go_wp2_with (at_builtin; refine wo.append1 hg hown (by omega) rfl _ _ rfl rfl rfl ?_)
          intro v' w1 R
          clear hown hg
          go_wp2
          go_roundw
          case rel => exact ⟨k + 1, by omega, by go_num, by rw [unhide EO]; rfl, by rw [unhide E]; exact R.1, R.2⟩
          case measure => simp [intOf]; omega
      · rw [ha] at ca eo
        rw [hb] at cb eo
        have CA := hide ca
        have CB := hide cb
        have EO := hide eo
        have E : Hid (srt (setOf L) (2 * (k + 1)) = srt (setOf L) (2 * k) ++ [(k : Int) + 1] ++ [-((k : Int) + 1)]) := by
          show _ = _
          rw [show 2 * (k + 1) = 2 * k + 1 + 1 from by omega, y2 hb, y1 ha]
        clear ca cb eo y1 n1 y2 n2 ha hb
        generalize srt (setOf L) (2 * k) = M at *
        generalize okTo (setOf L) k = o at *
        cases o
        all_goals
          go_wp2_with fail
          refine (unhide CA).mono ?_; rintro e w2 ⟨rfl, hw⟩; have hw' := hw.symm; clear hw; subst hw'
          go_wp2_with fail
          refine (unhide CB).mono ?_; rintro e w2 ⟨rfl, hw⟩; have hw' := hw.symm; clear hw; subst hw'
          go_wp2_with (at_builtin; refine wo.append1 hg hown (by omega) rfl _ _ rfl rfl rfl ?_)
          intro v' w1 R1
          obtain ⟨hown1, hg1⟩ := R1
          have hl1 : (M ++ [(k : Int) + 1]).length ≤ 49 := by simp; omega
          clear hown hg
          generalize M ++ [(k : Int) + 1] = M1 at *
          go_wp2_with (at_builtin; refine wo.append1 hg1 hown1 (by omega) rfl _ _ rfl rfl rfl ?_)
          intro v2 w2 R
          clear hown1 hg1
          go_wp2
          go_roundw
          case rel => exact ⟨k + 1, by omega, by go_num, by rw [unhide EO]; rfl, by rw [unhide E]; exact R.1, R.2⟩
          case measure => simp [intOf]; omega
    · have hkk : k = 24 := by omega
      subst hkk
      have hi' : ¬ ((24 : Nat) : Int) + 1 ≤ 24 := by omega
      have O := hide hown
      have G := hide hg
      clear hown hg HV
      go_wp2
      go_ret2
      exact ⟨_, rfl, unhide O, unhide G⟩

theorem sortL_no {L : List Int} (h : okAll L = false) : sortL L = [] := by unfold sortL; rw [h]; rfl
theorem sortL_yes {L : List Int} (h : okAll L = true) : sortL L = srt (setOf L) 48 := by unfold sortL; rw [h]; rfl
theorem sortB_no {L : List Int} (h : okAll L = false) : sortB L = false := by unfold sortB; rw [h]; rfl
theorem sortB_yes {L : List Int} (h : okAll L = true) : sortB L = okTo (setOf L) 24 := by unfold sortB; rw [h]; rfl
theorem sortL_len (L : List Int) : (sortL L).length ≤ 48 := by
  unfold sortL
  split
  · exact srt_len _ _
  · exact Nat.zero_le _
/-- an empty list that is made -/
theorem made_nil (w : World) : wo.Made w (w.alloc (.cells #[] 3)) (.slice (some ⟨w.heap.size, 0, none⟩) 0 0) [] :=
  ⟨World.ownsRow_lit w #[] 0 (Nat.le_refl _) (Nat.zero_le _) rfl, World.grownBy_alloc _ _ _⟩

theorem implClauseSort (v : Value) (L : List Int) (w : World) (hT : Tab w) (hL : L.length ≤ 1048576) (hv : Sl w v L) :
    Calls Tryd.prog 127 #[v] w fun e w' => ∃ u, e = .returned (.tuple #[u, .bool (sortB L)]) ∧ wo.Made w w' u (sortL L) := by
  have c1 := cls.implClauseOk v L w hL hv
  have c2 := bset.litsOf v L w hL hv
  have c3 := list (setOf L) w hT (setOf_lt L)
  have c4 := fun w => clashes (setOf L) w (setOf_lt L)
  cases hok : okAll L
  · rw [hok] at c1
    rw [sortL_no hok, sortB_no hok]
    have C1 := hide c1
    clear c1 c2 c3 c4 hok hv hT
    go_enter Tryd.func127, Tryd.ntmps127
    go_wp2_with fail
    refine (unhide C1).mono ?_; rintro e w2 ⟨rfl, hw⟩; have hw' := hw.symm; clear hw; subst hw'
    go_wp2_with fail
    go_ret2
    exact ⟨_, rfl, made_nil w⟩
  · rw [hok] at c1
    rw [sortL_yes hok, sortB_yes hok]
    have C1 := hide c1
    have C2 := hide c2
    have C3 := hide c3
    have C4 := hide c4
    clear c1 c2 c3 c4 hok hv hT
    go_enter Tryd.func127, Tryd.ntmps127
    go_wp2_with fail
    refine (unhide C1).mono ?_; rintro e w2 ⟨rfl, hw⟩; have hw' := hw.symm; clear hw; subst hw'
    go_wp2_with fail
    refine (unhide C2).mono ?_; rintro e w2 ⟨rfl, hw⟩; have hw' := hw.symm; clear hw; subst hw'
    go_wp2_with fail
    refine (unhide C3).mono ?_; rintro e w2 ⟨u, rfl, o, g⟩
    have R : wo.Made w w2 u (srt (setOf L) 48) := ⟨o, g⟩
    clear o g C1 C2 C3
    go_wp2_with fail
    refine (unhide C4 w2).mono ?_; rintro e w3 ⟨rfl, hw⟩; have hw' := hw.symm; clear hw; subst hw'
    clear C4
    go_wp2_with fail
    go_ret2
    exact ⟨_, by simp, R⟩
end Go.Proofs.YtibpnocpafppaaaDoor.srt
