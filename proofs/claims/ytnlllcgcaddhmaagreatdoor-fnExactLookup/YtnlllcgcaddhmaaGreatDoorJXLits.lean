/- What the small functions on literals answer at every number (contracts that the laws' walks use); no condition. -/
import Derived.Test.YtnlllcgcaddhmaaGreatDoorRows
import Derived.WalkKit
import Derived.ProofKit
import Derived.OpenShut
namespace Go.Proofs.YtnlllcgcaddhmaaGreatDoor.lits
open Go.ChangeShapes Go.WideShapes Go.ChangeAt Go.RowKit
set_option linter.unusedVariables false
def okB (x : Int) : Bool := decide (x ≠ 0 ∧ -24 ≤ x ∧ x ≤ 24)
def varI (x : Int) : Int := if okB x then (if x < 0 then -x else x) else 0
theorem okB_yes {x : Int} (h : x ≠ 0 ∧ -24 ≤ x ∧ x ≤ 24) : okB x = true := decide_eq_true h
theorem okB_no {x : Int} (h : ¬ (x ≠ 0 ∧ -24 ≤ x ∧ x ≤ 24)) : okB x = false := decide_eq_false h
theorem okB_iff {x : Int} : okB x = true ↔ (x ≠ 0 ∧ -24 ≤ x ∧ x ≤ 24) := decide_eq_true_iff
theorem specLitOk (x : Int) (w : World) : Calls Tryz.prog 175 #[.int .i64 x] w fun e w' => e = .returned (.bool (okB x)) ∧ w' = w := by
 by_cases h0 : x = 0
 ·subst h0
  go_enter Tryz.func175, Tryz.ntmps175
  go_wp2
  go_ret
  exact ⟨rfl, rfl⟩
 ·by_cases h1 : -24 ≤ x
  ·by_cases h2 : x ≤ 24
   ·rw [okB_yes ⟨h0, h1, h2⟩]
    have hb : (x != 0) = true := by simpa using h0
    go_enter Tryz.func175, Tryz.ntmps175
    go_wp2
    go_ret
    exact ⟨rfl, rfl⟩
   ·rw [okB_no (fun h => h2 h.2.2)]
    have hb : (x != 0) = true := by simpa using h0
    go_enter Tryz.func175, Tryz.ntmps175
    go_wp2
    go_ret
    exact ⟨rfl, rfl⟩
  ·rw [okB_no (fun h => h1 h.2.1)]
   have hb : (x != 0) = true := by simpa using h0
   go_enter Tryz.func175, Tryz.ntmps175
   go_wp2
   go_ret
   exact ⟨rfl, rfl⟩
theorem litOf_yes (x : Int) (w : World) (h : x ≠ 0 ∧ -24 ≤ x ∧ x ≤ 24) : Calls Tryz.prog 147 #[.int .i64 x] w fun e w' => e = .returned (.tuple #[.int .i8 x, .bool true]) ∧ w' = w := by
 obtain ⟨h0, h1, h2⟩ := h
 have hb : (x == 0) = false := by simpa using h0
 have hc : decide (x < -24) = false := by simpa using h1
 have hd : decide (24 < x) = false := by simpa using h2
 go_enter Tryz.func147, Tryz.ntmps147
 go_wp2
 go_ret2
 exact ⟨rfl, rfl⟩
theorem litOf_no (x : Int) (w : World) (h : ¬ (x ≠ 0 ∧ -24 ≤ x ∧ x ≤ 24)) : Calls Tryz.prog 147 #[.int .i64 x] w fun e w' => e = .returned (.tuple #[.int .i8 0, .bool false]) ∧ w' = w := by
 by_cases h0 : x = 0
 ·subst h0
  go_enter Tryz.func147, Tryz.ntmps147
  go_wp2
  go_ret2
  exact ⟨rfl, rfl⟩
 ·have hb : (x == 0) = false := by simpa using h0
  by_cases h1 : x < -24
  ·go_enter Tryz.func147, Tryz.ntmps147
   go_wp2
   go_ret2
   exact ⟨rfl, rfl⟩
  ·have h2 : 24 < x := by omega
   have hc : decide (x < -24) = false := by simpa using h1
   go_enter Tryz.func147, Tryz.ntmps147
   go_wp2
   go_ret2
   exact ⟨rfl, rfl⟩
theorem implLitOk (x : Int) (w : World) : Calls Tryz.prog 188 #[.int .i64 x] w fun e w' => e = .returned (.bool (okB x)) ∧ w' = w := by
 by_cases h : x ≠ 0 ∧ -24 ≤ x ∧ x ≤ 24
 ·rw [okB_yes h]
  have H : Hid (x ≠ 0 ∧ -24 ≤ x ∧ x ≤ 24) := h
  clear h
  go_enter Tryz.func188, Tryz.ntmps188
  go_wp2_with (go_at_call 147; refine (litOf_yes _ _ H.out).mono ?_; rintro e w' ⟨rfl, rfl⟩)
  go_ret
  exact ⟨rfl, rfl⟩
 ·rw [okB_no h]
  have H : Hid (¬ (x ≠ 0 ∧ -24 ≤ x ∧ x ≤ 24)) := h
  clear h
  go_enter Tryz.func188, Tryz.ntmps188
  go_wp2_with (go_at_call 147; refine (litOf_no _ _ H.out).mono ?_; rintro e w' ⟨rfl, rfl⟩)
  go_ret
  exact ⟨rfl, rfl⟩
theorem hide {p : Prop} (h : p) : Hid p := h
theorem unhide {p : Prop} (h : Hid p) : p := h
def placeI (x : Int) : Int := if x < 0 then 2 * (-x - 1) + 1 else 2 * (x - 1)
def befB (x y : Int) : Bool := okB x && okB y && decide (placeI x < placeI y)
theorem litVariable (x : Int) (w : World) (h1 : -24 ≤ x) (h2 : x ≤ 24) : Calls Tryz.prog 168 #[.int .i8 x] w fun e w' => e = .returned (.int .i64 (if x < 0 then -x else x)) ∧ w' = w := by
 by_cases h : x < 0
 ·rw [if_pos h]
  go_enter Tryz.func168, Tryz.ntmps168
  go_wp2
  go_ret
  exact ⟨rfl, rfl⟩
 ·rw [if_neg h]
  go_enter Tryz.func168, Tryz.ntmps168
  go_wp2
  go_ret
  exact ⟨rfl, rfl⟩
theorem place (x : Int) (w : World) (h1 : -24 ≤ x) (h2 : x ≤ 24) : Calls Tryz.prog 155 #[.int .i8 x] w fun e w' => e = .returned (.int .i64 (placeI x)) ∧ w' = w := by
 by_cases h : x < 0
 ·have e : placeI x = 2 * (-x - 1) + 1 := if_pos h
  rw [e]
  clear e
  have c := litVariable x
  rw [if_pos h] at c
  have C := hide c
  clear c
  go_enter Tryz.func155, Tryz.ntmps155
  go_wp2_with (go_at_call 168; refine (unhide C _ h1 h2).mono ?_; rintro e w' ⟨rfl, rfl⟩)
  go_ret
  exact ⟨rfl, rfl⟩
 ·have e : placeI x = 2 * (x - 1) := if_neg h
  rw [e]
  clear e
  have c := litVariable x
  rw [if_neg h] at c
  have C := hide c
  clear c
  go_enter Tryz.func155, Tryz.ntmps155
  go_wp2_with (go_at_call 168; refine (unhide C _ h1 h2).mono ?_; rintro e w' ⟨rfl, rfl⟩)
  go_ret
  exact ⟨rfl, rfl⟩
theorem placeI_bd (x : Int) (h0 : x ≠ 0) (h1 : -24 ≤ x) (h2 : x ≤ 24) : 0 ≤ placeI x ∧ placeI x ≤ 47 := by
 unfold placeI; split <;> omega
theorem before (x y : Int) (w : World) (h1 : -24 ≤ x) (h2 : x ≤ 24) (k1 : -24 ≤ y) (k2 : y ≤ 24) : Calls Tryz.prog 117 #[.int .i8 x, .int .i8 y] w fun e w' => e = .returned (.bool (decide (placeI x < placeI y))) ∧ w' = w := by
 go_enter Tryz.func117, Tryz.ntmps117
 go_wp2_with fail
 refine (place x _ h1 h2).mono ?_; rintro e w' ⟨rfl, rfl⟩
 go_wp2_with fail
 refine (place y _ k1 k2).mono ?_; rintro e w' ⟨rfl, rfl⟩
 go_wp2_with fail
 go_ret
 exact ⟨rfl, rfl⟩
theorem varI_yes {x : Int} (h : x ≠ 0 ∧ -24 ≤ x ∧ x ≤ 24) : varI x = if x < 0 then -x else x := by unfold varI; rw [okB_yes h]; rfl
theorem varI_no {x : Int} (h : ¬ (x ≠ 0 ∧ -24 ≤ x ∧ x ≤ 24)) : varI x = 0 := by unfold varI; rw [okB_no h]; rfl
theorem implLitVar (x : Int) (w : World) : Calls Tryz.prog 192 #[.int .i64 x] w fun e w' => e = .returned (.int .i64 (varI x)) ∧ w' = w := by
 by_cases h : x ≠ 0 ∧ -24 ≤ x ∧ x ≤ 24
 ·rw [varI_yes h]
  have H : Hid (x ≠ 0 ∧ -24 ≤ x ∧ x ≤ 24) := h
  clear h
  go_enter Tryz.func192, Tryz.ntmps192
  go_wp2_with fail
  refine (litOf_yes _ _ H.out).mono ?_; rintro e w' ⟨rfl, rfl⟩
  go_wp2_with fail
  refine (litVariable _ _ H.out.2.1 H.out.2.2).mono ?_; rintro e w' ⟨rfl, rfl⟩
  go_wp2_with fail
  all_goals go_ret
  all_goals exact ⟨rfl, rfl⟩
 ·rw [varI_no h]
  have H : Hid (¬ (x ≠ 0 ∧ -24 ≤ x ∧ x ≤ 24)) := h
  clear h
  go_enter Tryz.func192, Tryz.ntmps192
  go_wp2_with fail
  refine (litOf_no _ _ H.out).mono ?_; rintro e w' ⟨rfl, rfl⟩
  go_wp2_with fail
  go_ret
  exact ⟨rfl, rfl⟩
theorem specLitVar (x : Int) (w : World) : Calls Tryz.prog 176 #[.int .i64 x] w fun e w' => e = .returned (.int .i64 (varI x)) ∧ w' = w := by
 by_cases h : x ≠ 0 ∧ -24 ≤ x ∧ x ≤ 24
 ·obtain ⟨h0, h1, h2⟩ := h
  have c := specLitOk x
  rw [okB_yes ⟨h0, h1, h2⟩] at c
  have C := hide c
  clear c
  by_cases hn : x < 0
  ·rw [varI_yes ⟨h0, h1, h2⟩, if_pos hn]
   go_enter Tryz.func176, Tryz.ntmps176
   go_wp2_with fail
   refine (unhide C _).mono ?_; rintro e w' ⟨rfl, rfl⟩
   go_wp2_with fail
   go_ret
   exact ⟨rfl, rfl⟩
  ·rw [varI_yes ⟨h0, h1, h2⟩, if_neg hn]
   go_enter Tryz.func176, Tryz.ntmps176
   go_wp2_with fail
   refine (unhide C _).mono ?_; rintro e w' ⟨rfl, rfl⟩
   go_wp2_with fail
   go_ret
   exact ⟨rfl, rfl⟩
 ·rw [varI_no h]
  have c := specLitOk x
  rw [okB_no h] at c
  have C := hide c
  clear c h
  go_enter Tryz.func176, Tryz.ntmps176
  go_wp2_with fail
  refine (unhide C _).mono ?_; rintro e w' ⟨rfl, rfl⟩
  go_wp2_with fail
  go_ret
  exact ⟨rfl, rfl⟩
theorem befB_same (x y : Int) (hx : okB x = true) (hy : okB y = true) (h : varI x = varI y) : befB x y = decide (y < x) := by
 have a := okB_iff.1 hx
 have b := okB_iff.1 hy
 rw [varI_yes a, varI_yes b] at h
 unfold befB placeI
 rw [hx, hy, Bool.true_and, Bool.true_and]
 congr 1
 apply propext
 repeat' split
 all_goals first | omega | (repeat' split at h; all_goals omega)
theorem befB_other (x y : Int) (hx : okB x = true) (hy : okB y = true) (h : varI x ≠ varI y) : befB x y = decide (varI x < varI y) := by
 have a := okB_iff.1 hx
 have b := okB_iff.1 hy
 rw [varI_yes a, varI_yes b] at h
 rw [varI_yes a, varI_yes b]
 unfold befB placeI
 rw [hx, hy, Bool.true_and, Bool.true_and]
 congr 1
 apply propext
 repeat' split
 all_goals first | omega | (repeat' split at h; all_goals omega)
theorem specLitBefore (x y : Int) (w : World) : Calls Tryz.prog 135 #[.int .i64 x, .int .i64 y] w fun e w' => e = .returned (.bool (befB x y)) ∧ w' = w := by
 have cx := specLitOk x
 have cy := specLitOk y
 have vx := specLitVar x
 have vy := specLitVar y
 cases hx : okB x
 ·have e : befB x y = false := by unfold befB; rw [hx]; rfl
  rw [e]
  rw [hx] at cx
  have CX := hide cx
  clear e cx cy vx vy hx
  go_enter Tryz.func135, Tryz.ntmps135
  go_wp2_with fail
  refine (unhide CX _).mono ?_; rintro e w' ⟨rfl, rfl⟩
  go_wp2_with fail
  go_ret
  exact ⟨rfl, rfl⟩
 ·cases hy : okB y
  ·have e : befB x y = false := by unfold befB; rw [hx, hy]; rfl
   rw [e]
   rw [hx] at cx
   rw [hy] at cy
   have CX := hide cx
   have CY := hide cy
   clear e cx cy vx vy hx hy
   go_enter Tryz.func135, Tryz.ntmps135
   go_wp2_with fail
   refine (unhide CX _).mono ?_; rintro e w' ⟨rfl, rfl⟩
   go_wp2_with fail
   refine (unhide CY _).mono ?_; rintro e w' ⟨rfl, rfl⟩
   go_wp2_with fail
   go_ret
   exact ⟨rfl, rfl⟩
  ·by_cases hv : varI x = varI y
   ·rw [befB_same x y hx hy hv]
    rw [hx] at cx
    rw [hy] at cy
    rw [hv] at vx
    have CX := hide cx
    have CY := hide cy
    have VX := hide vx
    have VY := hide vy
    clear cx cy vx vy hx hy hv
    generalize varI y = z at VX VY
    go_enter Tryz.func135, Tryz.ntmps135
    go_wp2_with fail
    refine (unhide CX _).mono ?_; rintro e w' ⟨rfl, rfl⟩
    go_wp2_with fail
    refine (unhide CY _).mono ?_; rintro e w' ⟨rfl, rfl⟩
    go_wp2_with fail
    refine (unhide VX _).mono ?_; rintro e w' ⟨rfl, rfl⟩
    go_wp2_with fail
    refine (unhide VY _).mono ?_; rintro e w' ⟨rfl, rfl⟩
    go_wp2_with fail
    go_ret
    exact ⟨rfl, rfl⟩
   ·rw [befB_other x y hx hy hv]
    rw [hx] at cx
    rw [hy] at cy
    have CX := hide cx
    have CY := hide cy
    have VX := hide vx
    have VY := hide vy
    have hv' : (varI x != varI y) = true := by simpa using hv
    clear cx cy vx vy hx hy hv
    generalize varI y = z at *
    generalize varI x = u at *
    go_enter Tryz.func135, Tryz.ntmps135
    go_wp2_with fail
    refine (unhide CX _).mono ?_; rintro e w' ⟨rfl, rfl⟩
    go_wp2_with fail
    refine (unhide CY _).mono ?_; rintro e w' ⟨rfl, rfl⟩
    go_wp2_with fail
    refine (unhide VX _).mono ?_; rintro e w' ⟨rfl, rfl⟩
    go_wp2_with fail
    refine (unhide VY _).mono ?_; rintro e w' ⟨rfl, rfl⟩
    go_wp2_with fail
    refine (unhide VX _).mono ?_; rintro e w' ⟨rfl, rfl⟩
    go_wp2_with fail
    refine (unhide VY _).mono ?_; rintro e w' ⟨rfl, rfl⟩
    go_wp2_with fail
    go_ret
    exact ⟨rfl, rfl⟩
end Go.Proofs.YtnlllcgcaddhmaaGreatDoor.lits
