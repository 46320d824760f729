/- What the small functions on literals answer at every number (contracts that the laws' walks use); no condition. -/
import Derived.Test.YtfhmdpbnnieohaaDoorRows
import Derived.WalkKit
import Derived.ProofKit
import Derived.OpenShut
namespace Go.Proofs.YtfhmdpbnnieohaaDoor.lits
open Go.ChangeShapes Go.WideShapes Go.ChangeAt Go.RowKit
set_option linter.unusedVariables false
def okB (x : Int) : Bool := decide (x ≠ 0 ∧ -24 ≤ x ∧ x ≤ 24)
def varI (x : Int) : Int := if okB x then (if x < 0 then -x else x) else 0
theorem okB_yes {x : Int} (h : x ≠ 0 ∧ -24 ≤ x ∧ x ≤ 24) : okB x = true := decide_eq_true h
theorem okB_no {x : Int} (h : ¬ (x ≠ 0 ∧ -24 ≤ x ∧ x ≤ 24)) : okB x = false := decide_eq_false h
theorem okB_iff {x : Int} : okB x = true ↔ (x ≠ 0 ∧ -24 ≤ x ∧ x ≤ 24) := decide_eq_true_iff
theorem specLitOk (x : Int) (w : World) : Calls Tryd.prog 83 #[.int .i64 x] w fun e w' => e = .returned (.bool (okB x)) ∧ w' = w := by
 by_cases h0 : x = 0
 ·subst h0
  go_enter Tryd.func83, Tryd.ntmps83
  go_wp2
  go_ret
  exact ⟨rfl, rfl⟩
 ·by_cases h1 : -24 ≤ x
  ·by_cases h2 : x ≤ 24
   ·rw [okB_yes ⟨h0, h1, h2⟩]
    have hb : (x != 0) = true := by simpa using h0
    go_enter Tryd.func83, Tryd.ntmps83
    go_wp2
    go_ret
    exact ⟨rfl, rfl⟩
   ·rw [okB_no (fun h => h2 h.2.2)]
    have hb : (x != 0) = true := by simpa using h0
    go_enter Tryd.func83, Tryd.ntmps83
    go_wp2
    go_ret
    exact ⟨rfl, rfl⟩
  ·rw [okB_no (fun h => h1 h.2.1)]
   have hb : (x != 0) = true := by simpa using h0
   go_enter Tryd.func83, Tryd.ntmps83
   go_wp2
   go_ret
   exact ⟨rfl, rfl⟩
theorem litOf_yes (x : Int) (w : World) (h : x ≠ 0 ∧ -24 ≤ x ∧ x ≤ 24) : Calls Tryd.prog 65 #[.int .i64 x] w fun e w' => e = .returned (.tuple #[.int .i8 x, .bool true]) ∧ w' = w := by
 obtain ⟨h0, h1, h2⟩ := h
 have hb : (x == 0) = false := by simpa using h0
 have hc : decide (x < -24) = false := by simpa using h1
 have hd : decide (24 < x) = false := by simpa using h2
 go_enter Tryd.func65, Tryd.ntmps65
 go_wp2
 go_ret2
 exact ⟨rfl, rfl⟩
theorem litOf_no (x : Int) (w : World) (h : ¬ (x ≠ 0 ∧ -24 ≤ x ∧ x ≤ 24)) : Calls Tryd.prog 65 #[.int .i64 x] w fun e w' => e = .returned (.tuple #[.int .i8 0, .bool false]) ∧ w' = w := by
 by_cases h0 : x = 0
 ·subst h0
  go_enter Tryd.func65, Tryd.ntmps65
  go_wp2
  go_ret2
  exact ⟨rfl, rfl⟩
 ·have hb : (x == 0) = false := by simpa using h0
  by_cases h1 : x < -24
  ·go_enter Tryd.func65, Tryd.ntmps65
   go_wp2
   go_ret2
   exact ⟨rfl, rfl⟩
  ·have h2 : 24 < x := by omega
   have hc : decide (x < -24) = false := by simpa using h1
   go_enter Tryd.func65, Tryd.ntmps65
   go_wp2
   go_ret2
   exact ⟨rfl, rfl⟩
theorem implLitOk (x : Int) (w : World) : Calls Tryd.prog 78 #[.int .i64 x] w fun e w' => e = .returned (.bool (okB x)) ∧ w' = w := by
 by_cases h : x ≠ 0 ∧ -24 ≤ x ∧ x ≤ 24
 ·rw [okB_yes h]
  have H : Hid (x ≠ 0 ∧ -24 ≤ x ∧ x ≤ 24) := h
  clear h
  go_enter Tryd.func78, Tryd.ntmps78
  go_wp2_with (go_at_call 65; refine (litOf_yes _ _ H.out).mono ?_; rintro e w' ⟨rfl, rfl⟩)
  go_ret
  exact ⟨rfl, rfl⟩
 ·rw [okB_no h]
  have H : Hid (¬ (x ≠ 0 ∧ -24 ≤ x ∧ x ≤ 24)) := h
  clear h
  go_enter Tryd.func78, Tryd.ntmps78
  go_wp2_with (go_at_call 65; refine (litOf_no _ _ H.out).mono ?_; rintro e w' ⟨rfl, rfl⟩)
  go_ret
  exact ⟨rfl, rfl⟩
theorem hide {p : Prop} (h : p) : Hid p := h
theorem unhide {p : Prop} (h : Hid p) : p := h
def placeI (x : Int) : Int := if x < 0 then 2 * (-x - 1) + 1 else 2 * (x - 1)
theorem litVariable (x : Int) (w : World) (h1 : -24 ≤ x) (h2 : x ≤ 24) : Calls Tryd.prog 62 #[.int .i8 x] w fun e w' => e = .returned (.int .i64 (if x < 0 then -x else x)) ∧ w' = w := by
 by_cases h : x < 0
 ·rw [if_pos h]
  go_enter Tryd.func62, Tryd.ntmps62
  go_wp2
  go_ret
  exact ⟨rfl, rfl⟩
 ·rw [if_neg h]
  go_enter Tryd.func62, Tryd.ntmps62
  go_wp2
  go_ret
  exact ⟨rfl, rfl⟩
theorem place (x : Int) (w : World) (h1 : -24 ≤ x) (h2 : x ≤ 24) : Calls Tryd.prog 60 #[.int .i8 x] w fun e w' => e = .returned (.int .i64 (placeI x)) ∧ w' = w := by
 by_cases h : x < 0
 ·have e : placeI x = 2 * (-x - 1) + 1 := if_pos h
  rw [e]
  clear e
  have c := litVariable x
  rw [if_pos h] at c
  have C := hide c
  clear c
  go_enter Tryd.func60, Tryd.ntmps60
  go_wp2_with (go_at_call 62; refine (unhide C _ h1 h2).mono ?_; rintro e w' ⟨rfl, rfl⟩)
  go_ret
  exact ⟨rfl, rfl⟩
 ·have e : placeI x = 2 * (x - 1) := if_neg h
  rw [e]
  clear e
  have c := litVariable x
  rw [if_neg h] at c
  have C := hide c
  clear c
  go_enter Tryd.func60, Tryd.ntmps60
  go_wp2_with (go_at_call 62; refine (unhide C _ h1 h2).mono ?_; rintro e w' ⟨rfl, rfl⟩)
  go_ret
  exact ⟨rfl, rfl⟩
theorem placeI_bd (x : Int) (h0 : x ≠ 0) (h1 : -24 ≤ x) (h2 : x ≤ 24) : 0 ≤ placeI x ∧ placeI x ≤ 47 := by
 unfold placeI; split <;> omega
theorem varI_yes {x : Int} (h : x ≠ 0 ∧ -24 ≤ x ∧ x ≤ 24) : varI x = if x < 0 then -x else x := by unfold varI; rw [okB_yes h]; rfl
theorem varI_no {x : Int} (h : ¬ (x ≠ 0 ∧ -24 ≤ x ∧ x ≤ 24)) : varI x = 0 := by unfold varI; rw [okB_no h]; rfl
theorem implLitVar (x : Int) (w : World) : Calls Tryd.prog 79 #[.int .i64 x] w fun e w' => e = .returned (.int .i64 (varI x)) ∧ w' = w := by
 by_cases h : x ≠ 0 ∧ -24 ≤ x ∧ x ≤ 24
 ·rw [varI_yes h]
  have H : Hid (x ≠ 0 ∧ -24 ≤ x ∧ x ≤ 24) := h
  clear h
  go_enter Tryd.func79, Tryd.ntmps79
  go_wp2_with fail
  refine (litOf_yes _ _ H.out).mono ?_; rintro e w' ⟨rfl, rfl⟩
  go_wp2_with fail
  refine (litVariable _ _ H.out.2.1 H.out.2.2).mono ?_; rintro e w' ⟨rfl, rfl⟩
  go_wp2_with fail
  all_goals go_ret
  all_goals exact ⟨rfl, rfl⟩
 ·rw [varI_no h]
  have H : Hid (¬ (x ≠ 0 ∧ -24 ≤ x ∧ x ≤ 24)) := h
  clear h
  go_enter Tryd.func79, Tryd.ntmps79
  go_wp2_with fail
  refine (litOf_no _ _ H.out).mono ?_; rintro e w' ⟨rfl, rfl⟩
  go_wp2_with fail
  go_ret
  exact ⟨rfl, rfl⟩
end Go.Proofs.YtfhmdpbnnieohaaDoor.lits
