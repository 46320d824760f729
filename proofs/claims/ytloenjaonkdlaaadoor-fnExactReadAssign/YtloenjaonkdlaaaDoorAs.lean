/- Assignments as texts: what trueLiterals, l03Lits and AssignText (of the program and of its model) answer at every list of at most 2^20 numbers, where the library's table of powers lies as its text lays it. -/
import Derived.Test.YtloenjaonkdlaaaDoorTxtW
import Derived.Test.YtloenjaonkdlaaaDoorTr
import Derived.Test.YtloenjaonkdlaaaDoorApp
import Derived.Test.YtloenjaonkdlaaaDoorTl
namespace Go.Proofs.YtloenjaonkdlaaaDoor.as_
open Go.ChangeShapes Go.WideShapes Go.ChangeAt Go.RowKit
open Go.Proofs.YtloenjaonkdlaaaDoor.sl (Sl Own ints hide unhide ret_int ret_bool grown_refl grown_trans grown_drewN below_of of_below)
open Go.Proofs.YtloenjaonkdlaaaDoor.dec (str)
open Go.Proofs.YtloenjaonkdlaaaDoor.tr (bitB)
open Go.Proofs.YtloenjaonkdlaaaDoor.wo (Made)
open Go.Proofs.YtloenjaonkdlaaaDoor.txt (Pow text)
set_option linter.unusedVariables false

/-- AssignText -/
def asText (A : List Int) : List UInt8 := if decide (A.length ≤ 24) && A.all bitB then text (tl 0 A) else []
theorem asText_no {A : List Int} (h : (decide (A.length ≤ 24) && A.all bitB) = false) : asText A = [] := by unfold asText; rw [h]; rfl
theorem asText_yes {A : List Int} (h1 : A.length ≤ 24) (h2 : A.all bitB = true) : asText A = text (tl 0 A) := by unfold asText; rw [decide_eq_true h1, h2]; rfl

theorem implAssignText (v : Value) (A : List Int) (w : World) (hT : Pow w) (hL : A.length ≤ 1048576) (hv : Sl w v A) :
    Calls Tryd.prog 18 #[v] w fun e w' => e = .returned (str (asText A)) ∧ w.grownBy w' none := by
  have CI := tr.isAssignment v A w hL hv
  have TL := hide (trueLiterals v A w hL hv)
  obtain ⟨a, cap, rfl, ha⟩ := hv
  have HT := hide hT
  clear ha hT
  by_cases h24 : A.length ≤ 24
  · have h24' : ¬ (24 : Int) < (A.length : Int) := by omega
    cases hb : A.all bitB
    · rw [hb] at CI
      have C1 := hide CI
      have E := hide (asText_no (A := A) (by rw [hb, Bool.and_false]))
      clear CI hb
      go_enter Tryd.func18, Tryd.ntmps18
      go_wp2_with (go_at_call 66; refine (unhide C1).mono ?_; rintro e w' ⟨rfl, hw⟩; have hw' := hw.symm; clear hw; subst hw')
      go_ret
      exact ⟨by rw [unhide E]; rfl, grown_refl _⟩
    · rw [hb] at CI
      have C1 := hide CI
      have E := hide (asText_yes h24 hb)
      have hl : (tl 0 A).length ≤ 1048576 := by rw [tl_len]; omega
      clear CI hb
      go_enter Tryd.func18, Tryd.ntmps18
      go_wp2_with (go_at_call 66; refine (unhide C1).mono ?_; rintro e w' ⟨rfl, hw⟩; have hw' := hw.symm; clear hw; subst hw')
      go_wp2_with fail
      refine (unhide TL).mono ?_; rintro e w1 ⟨u1, rfl, m1⟩
      have CT := hide (txt.implClauseText u1 (tl 0 A) w1 ((unhide HT).kept m1.2) hl (Sl.of_own m1.1))
      have G1 := hide m1.2
      clear m1 TL C1
      go_wp2_with fail
      refine (unhide CT).mono ?_; rintro e w2 ⟨rfl, g2⟩
      have G2 := hide (grown_trans (r := none) (unhide G1) g2)
      clear g2 CT
      go_wp2_with fail
      go_ret
      exact ⟨by rw [unhide E]; rfl, unhide G2⟩
  · have h24' : (24 : Int) < (A.length : Int) := by omega
    have E := hide (asText_no (A := A) (by rw [decide_eq_false h24]; rfl))
    clear CI TL
    go_enter Tryd.func18, Tryd.ntmps18
    go_wp2_with fail
    go_ret
    exact ⟨by rw [unhide E]; rfl, grown_refl _⟩

set_option maxHeartbeats 800000 in
theorem specAssignText (v : Value) (A : List Int) (w : World) (hL : A.length ≤ 1048576) (hv : Sl w v A) :
    Calls Tryd.prog 19 #[v] w fun e w' => e = .returned (str (asText A)) ∧ w.grownBy w' none := by
  have TL := hide (l03Lits v A w hL hv)
  obtain ⟨a, cap, rfl, ha⟩ := hv
  have HA := hide ha
  clear ha
  by_cases h24 : A.length ≤ 24
  · have h24' : ¬ (24 : Int) < (A.length : Int) := by omega
    go_enter Tryd.func19, Tryd.ntmps19
    go_wp2
    go_loop [3] (fun i => ∃ k : Nat, k ≤ A.length ∧ i = .int .i64 k ∧ Hid ((A.take k).all bitB = true)) (fun i => A.length - (intOf i).toNat)
    case atStart => exact ⟨0, Nat.zero_le _, rfl, by show _ = _; simp⟩
    case round =>
      obtain ⟨k, hk, rfl, hall⟩ := hrel
      by_cases hlt : k < A.length
      · rcases unhide HA with h | ⟨b, off, rfl, hb, hcb⟩
        · rw [h] at hlt
          simp at hlt
        · have c1 := hcb k hlt
          have hi' : (k : Int) < (A.length : Int) := by omega
          have h1 := ok.all_hit bitB A k 0 hlt
          have h2 := ok.all_step bitB A k 0 hlt (unhide hall)
          generalize A.getD k 0 = x at *
          have cx := fun w => ok.l01In x 0 1 w
          clear hcb HA hall
          cases hx : bitB x
          · have hx' := hx
            unfold tr.bitB at hx'
            rw [hx'] at cx
            have CX := hide cx
            have E := hide (asText_no (A := A) (by rw [h1 hx, Bool.and_false]))
            clear h1 h2 hx hx' cx
            go_wp2_with (go_at_call 69; refine (unhide CX _).mono ?_; rintro e w' ⟨rfl, rfl⟩)
            go_ret
            exact ⟨by rw [unhide E]; rfl, grown_refl _⟩
          · have hx' := hx
            unfold tr.bitB at hx'
            rw [hx'] at cx
            have CX := hide cx
            have H := hide (h2 hx)
            clear h1 h2 hx hx' cx
            go_wp2_with (go_at_call 69; refine (unhide CX _).mono ?_; rintro e w' ⟨rfl, rfl⟩)
            go_round
            case rel => exact ⟨k + 1, by omega, by go_num, H⟩
            case measure => simp [intOf]; omega
      · have hi' : ¬ (k : Int) < (A.length : Int) := by omega
        have ha := ok.all_end bitB A k hlt (unhide hall)
        have E := hide (asText_yes h24 ha)
        have hl : (tl 0 A).length ≤ 1048576 := by rw [tl_len]; omega
        clear HA hall ha
        go_wp2_with fail
        refine (unhide TL).mono ?_; rintro e w1 ⟨u1, rfl, m1⟩
        have CT := hide (txt.specClauseText u1 (tl 0 A) w1 hl (Sl.of_own m1.1))
        have G1 := hide m1.2
        clear m1 TL
        go_wp2_with fail
        refine (unhide CT).mono ?_; rintro e w2 ⟨rfl, hw⟩; have hw' := hw.symm; clear hw; subst hw'
        clear CT
        go_wp2_with fail
        go_ret
        exact ⟨by rw [unhide E]; rfl, unhide G1⟩
  · have h24' : (24 : Int) < (A.length : Int) := by omega
    have E := hide (asText_no (A := A) (by rw [decide_eq_false h24]; rfl))
    clear TL
    go_enter Tryd.func19, Tryd.ntmps19
    go_wp2_with fail
    go_ret
    exact ⟨by rw [unhide E]; rfl, grown_refl _⟩
end Go.Proofs.YtloenjaonkdlaaaDoor.as_
