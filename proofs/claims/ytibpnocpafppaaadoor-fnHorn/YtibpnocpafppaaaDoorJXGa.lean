/- What Width (of the program and of its model) answers at every formula that holds at most 2^20 values; no other condition. -/
import Derived.Test.YtibpnocpafppaaaDoorJXOk
namespace Go.Proofs.YtibpnocpafppaaaDoor.ga
open Go.ChangeShapes Go.WideShapes Go.ChangeAt Go.RowKit
open sl (Sl Own ints hide unhide ret_int ret_bool grown_refl grown_trans grown_drewN)
open css (Sls OwnS tot)
open cf (Box)
open ok (cnfB)
set_option linter.unusedVariables false
def widN (LL : List (List Int)) : Nat := LL.foldl (fun m C => max m C.length) 0
theorem wid_step (LL : List (List Int)) (k : Nat) (h : k < LL.length) : widN (LL.take (k + 1)) = max (widN (LL.take k)) (LL.getD k []).length := by
 unfold widN
 rw [List.take_succ_eq_append_getElem h, List.foldl_append, show LL.getD k [] = LL[k] by simp [h]]
 rfl
theorem wid_end (LL : List (List Int)) (k : Nat) (h : ¬ k < LL.length) : widN (LL.take k) = widN LL := by rw [List.take_of_length_le (by omega)]
def widI (n : Int) (LL : List (List Int)) : Int := if cnfB n LL then (widN LL : Int) else -1
theorem specWidth (v : Value) (n : Int) (LL : List (List Int)) (w : World) (hn : tot LL ≤ 1048576) (hv : Sls w v LL) :
  Calls Tryd.prog 38 #[.agg #[.int .i64 n, v]] w fun e w' => e = .returned (.int .i64 (widI n LL)) ∧ w.grownBy w' none := by
 have hv0 := hv
 obtain ⟨a, cap, rfl, _⟩ := hv
 have g0 := World.grownBy_alloc w (.cells #[.int .i64 n, .slice a LL.length cap] 26) none
 have C := hide (ok.specCnfOk _ n LL _ hn (hv0.kept g0))
 have hl := Nat.le_trans (css.tot_len LL) hn
 have G0 := hide g0
 have bx := hide (cf.Box.new 26 w (.int .i64 n) (.slice a LL.length cap))
 have HV := hide hv0
 clear g0 hv0
 go_enter Tryd.func38, Tryd.ntmps38
 go_wp2_with fail
 refine (unhide C).mono ?_; rintro e w1 ⟨rfl, g1⟩
 have G1 := hide (grown_trans (r := none) (unhide G0) g1)
 have bx1 := (unhide bx).kept g1
 have x0 := bx1.c0
 have x1 := bx1.c1
 clear C g1 bx bx1
 cases hb : cnfB n LL
 ·have E := hide (show widI n LL = -1 by simp [widI, hb])
  clear hb
  go_wp2_with fail
  go_ret
  exact ⟨ret_int (unhide E).symm, unhide G1⟩
 ·have E := hide (show widI n LL = (widN LL : Int) by simp [widI, hb])
  obtain ⟨a', cap', e', ha⟩ := (unhide HV).kept (unhide G1)
  cases e'
  have HA := hide ha
  clear hb ha HV G0
  go_wp2_with fail
  go_loop [3, 4] (fun c i => ∃ m k : Nat, k ≤ LL.length ∧ m ≤ 1048576 ∧ c = .int .i64 (m : Int) ∧ i = .int .i64 k ∧ Hid (widN (LL.take k) = m)) (fun c i => LL.length - (intOf i).toNat)
  case atStart => exact ⟨0, 0, Nat.zero_le _, Nat.zero_le _, rfl, rfl, by show _ = _; simp [widN]⟩
  case round =>
   obtain ⟨m, k, hk, hm, rfl, rfl, hall⟩ := hrel
   by_cases hlt : k < LL.length
   ·rcases unhide HA with h | ⟨b, off, rfl, hb, hcb⟩
    ·rw [h] at hlt
     simp at hlt
    ·obtain ⟨x, c1, hs⟩ := hcb k hlt
     have hi' : (k : Int) < (LL.length : Int) := by omega
     have h1 := wid_step LL k hlt
     rw [unhide hall] at h1
     have hL := Nat.le_trans (css.tot_in LL k) hn
     generalize LL.getD k [] = L at *
     obtain ⟨xa, xc, rfl, _⟩ := hs
     have H := hide h1
     clear hcb HA hall h1
     by_cases hc : m < L.length
     ·have hc' : (m : Int) < (L.length : Int) := by omega
      have H' := hide ((unhide H).trans (Nat.max_eq_right (by omega)))
      clear H hc
      go_wp2_with fail
      go_round
      case rel => exact ⟨L.length, k + 1, by omega, hL, rfl, by go_num, H'⟩
      case measure => simp [intOf]; omega
     ·have hc' : ¬ (m : Int) < (L.length : Int) := by omega
      have H' := hide ((unhide H).trans (Nat.max_eq_left (by omega)))
      clear H hc
      go_wp2_with fail
      go_round
      case rel => exact ⟨m, k + 1, by omega, hm, rfl, by go_num, H'⟩
      case measure => simp [intOf]; omega
   ·have hi' : ¬ (k : Int) < (LL.length : Int) := by omega
    have HR := hide ((unhide E).trans (congrArg (fun z : Nat => (z : Int)) ((wid_end LL k hlt).symm.trans (unhide hall))))
    clear HA hall E
    go_wp2_with fail
    go_ret
    exact ⟨ret_int (unhide HR).symm, unhide G1⟩
theorem implWidth (v : Value) (n : Int) (LL : List (List Int)) (w : World) (hn : tot LL ≤ 1048576) (hv : Sls w v LL) :
  Calls Tryd.prog 37 #[.agg #[.int .i64 n, v]] w fun e w' => e = .returned (.int .i64 (widI n LL)) ∧ w.grownBy w' none := by
 have hv0 := hv
 obtain ⟨a, cap, rfl, _⟩ := hv
 have g0 := World.grownBy_alloc w (.cells #[.int .i64 n, .slice a LL.length cap] 26) none
 have C := hide (ok.implCnfOk _ n LL _ hn (hv0.kept g0))
 have hl := Nat.le_trans (css.tot_len LL) hn
 have G0 := hide g0
 have bx := hide (cf.Box.new 26 w (.int .i64 n) (.slice a LL.length cap))
 have HV := hide hv0
 clear g0 hv0
 go_enter Tryd.func37, Tryd.ntmps37
 go_wp2_with fail
 refine (unhide C).mono ?_; rintro e w1 ⟨rfl, g1⟩
 have G1 := hide (grown_trans (r := none) (unhide G0) g1)
 have bx1 := (unhide bx).kept g1
 have x0 := bx1.c0
 have x1 := bx1.c1
 clear C g1 bx bx1
 cases hb : cnfB n LL
 ·have E := hide (show widI n LL = -1 by simp [widI, hb])
  clear hb
  go_wp2_with fail
  go_ret
  exact ⟨ret_int (unhide E).symm, unhide G1⟩
 ·have E := hide (show widI n LL = (widN LL : Int) by simp [widI, hb])
  obtain ⟨a', cap', e', ha⟩ := (unhide HV).kept (unhide G1)
  cases e'
  have HA := hide ha
  clear hb ha HV G0
  go_wp2_with fail
  go_loop [3, 12] (fun c i => ∃ m k : Nat, k ≤ LL.length ∧ m ≤ 1048576 ∧ c = .int .i64 (m : Int) ∧ i = .int .i64 k ∧ Hid (widN (LL.take k) = m)) (fun c i => LL.length - (intOf i).toNat)
  case atStart => exact ⟨0, 0, Nat.zero_le _, Nat.zero_le _, rfl, rfl, by show _ = _; simp [widN]⟩
  case round =>
   obtain ⟨m, k, hk, hm, rfl, rfl, hall⟩ := hrel
   by_cases hlt : k < LL.length
   ·rcases unhide HA with h | ⟨b, off, rfl, hb, hcb⟩
    ·rw [h] at hlt
     simp at hlt
    ·obtain ⟨x, c1, hs⟩ := hcb k hlt
     have hi' : (k : Int) < (LL.length : Int) := by omega
     have h1 := wid_step LL k hlt
     rw [unhide hall] at h1
     have hL := Nat.le_trans (css.tot_in LL k) hn
     generalize LL.getD k [] = L at *
     obtain ⟨xa, xc, rfl, _⟩ := hs
     have H := hide h1
     clear hcb HA hall h1
     by_cases hc : m < L.length
     ·have hc' : (m : Int) < (L.length : Int) := by omega
      have H' := hide ((unhide H).trans (Nat.max_eq_right (by omega)))
      clear H hc
      go_wp2_with fail
      go_round
      case rel => exact ⟨L.length, k + 1, by omega, hL, rfl, by go_num, H'⟩
      case measure => simp [intOf]; omega
     ·have hc' : ¬ (m : Int) < (L.length : Int) := by omega
      have H' := hide ((unhide H).trans (Nat.max_eq_left (by omega)))
      clear H hc
      go_wp2_with fail
      go_round
      case rel => exact ⟨m, k + 1, by omega, hm, rfl, by go_num, H'⟩
      case measure => simp [intOf]; omega
   ·have hi' : ¬ (k : Int) < (LL.length : Int) := by omega
    have HR := hide ((unhide E).trans (congrArg (fun z : Nat => (z : Int)) ((wid_end LL k hlt).symm.trans (unhide hall))))
    clear HA hall E
    go_wp2_with fail
    go_ret
    exact ⟨ret_int (unhide HR).symm, unhide G1⟩
end Go.Proofs.YtibpnocpafppaaaDoor.ga
