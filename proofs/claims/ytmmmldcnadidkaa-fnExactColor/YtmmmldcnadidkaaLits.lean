/- What the small functions on literals answer at every number (contracts that the laws' walks use); no condition. -/
import Derived.Test.YtmmmldcnadidkaaRows
import Derived.WalkKit
import Derived.ProofKit
import Derived.OpenShut
namespace Go.Proofs.Ytmmmldcnadidkaa.lits
open Go.ChangeShapes Go.WideShapes Go.ChangeAt Go.RowKit
set_option linter.unusedVariables false

/-- whether a number is a literal -/
def okB (x : Int) : Bool := decide (x ≠ 0 ∧ -24 ≤ x ∧ x ≤ 24)
/-- the variable of a literal, 0 of what is none -/
def varI (x : Int) : Int := if okB x then (if x < 0 then -x else x) else 0

theorem okB_yes {x : Int} (h : x ≠ 0 ∧ -24 ≤ x ∧ x ≤ 24) : okB x = true := decide_eq_true h
theorem okB_no {x : Int} (h : ¬ (x ≠ 0 ∧ -24 ≤ x ∧ x ≤ 24)) : okB x = false := decide_eq_false h
theorem okB_iff {x : Int} : okB x = true ↔ (x ≠ 0 ∧ -24 ≤ x ∧ x ≤ 24) := decide_eq_true_iff

theorem specLitOk (x : Int) (w : World) : Calls Try.prog 39 #[.int .i64 x] w fun e w' => e = .returned (.bool (okB x)) ∧ w' = w := by
  by_cases h0 : x = 0
  · subst h0
    go_enter Try.func39, Try.ntmps39
    go_wp2
    go_ret
    exact ⟨rfl, rfl⟩
  · by_cases h1 : -24 ≤ x
    · by_cases h2 : x ≤ 24
      · rw [okB_yes ⟨h0, h1, h2⟩]
        have hb : (x != 0) = true := by simpa using h0
        go_enter Try.func39, Try.ntmps39
        go_wp2
        go_ret
        exact ⟨rfl, rfl⟩
      · rw [okB_no (fun h => h2 h.2.2)]
        have hb : (x != 0) = true := by simpa using h0
        go_enter Try.func39, Try.ntmps39
        go_wp2
        go_ret
        exact ⟨rfl, rfl⟩
    · rw [okB_no (fun h => h1 h.2.1)]
      have hb : (x != 0) = true := by simpa using h0
      go_enter Try.func39, Try.ntmps39
      go_wp2
      go_ret
      exact ⟨rfl, rfl⟩

theorem hide {p : Prop} (h : p) : Hid p := h
theorem unhide {p : Prop} (h : Hid p) : p := h
/-- the place of a literal in the order -/
def placeI (x : Int) : Int := if x < 0 then 2 * (-x - 1) + 1 else 2 * (x - 1)
/-- whether a literal is ahead of another one -/
def befB (x y : Int) : Bool := okB x && okB y && decide (placeI x < placeI y)

theorem placeI_bd (x : Int) (h0 : x ≠ 0) (h1 : -24 ≤ x) (h2 : x ≤ 24) : 0 ≤ placeI x ∧ placeI x ≤ 47 := by
  unfold placeI; split <;> omega

theorem varI_yes {x : Int} (h : x ≠ 0 ∧ -24 ≤ x ∧ x ≤ 24) : varI x = if x < 0 then -x else x := by unfold varI; rw [okB_yes h]; rfl
theorem varI_no {x : Int} (h : ¬ (x ≠ 0 ∧ -24 ≤ x ∧ x ≤ 24)) : varI x = 0 := by unfold varI; rw [okB_no h]; rfl

theorem befB_same (x y : Int) (hx : okB x = true) (hy : okB y = true) (h : varI x = varI y) : befB x y = decide (y < x) := by
  have a := okB_iff.1 hx
  have b := okB_iff.1 hy
  rw [varI_yes a, varI_yes b] at h
  unfold befB placeI
  rw [hx, hy, Bool.true_and, Bool.true_and]
  congr 1
  apply propext
  repeat' split
  all_goals first | omega | (repeat' split at h; all_goals omega)
theorem befB_other (x y : Int) (hx : okB x = true) (hy : okB y = true) (h : varI x ≠ varI y) : befB x y = decide (varI x < varI y) := by
  have a := okB_iff.1 hx
  have b := okB_iff.1 hy
  rw [varI_yes a, varI_yes b] at h
  rw [varI_yes a, varI_yes b]
  unfold befB placeI
  rw [hx, hy, Bool.true_and, Bool.true_and]
  congr 1
  apply propext
  repeat' split
  all_goals first | omega | (repeat' split at h; all_goals omega)

theorem bef_flip {x y : Int} (hx : okB x = true) (hy : okB y = true) (h : x ≠ y) : befB y x = !befB x y := by
  have a := okB_iff.1 hx
  have b := okB_iff.1 hy
  have hp : placeI x ≠ placeI y := by
    unfold placeI
    split <;> split <;> omega
  unfold befB
  rw [hx, hy, Bool.true_and, Bool.true_and]
  generalize placeI x = p at *
  generalize placeI y = q at *
  by_cases k : p < q
  · rw [decide_eq_true k, decide_eq_false (by omega)]
    rfl
  · rw [decide_eq_false k, decide_eq_true (by omega)]
    rfl
theorem bef_self (x : Int) : befB x x = false := by unfold befB; simp
theorem bef_none {x y : Int} (h : okB x = false ∨ okB y = false) : befB x y = false := by
  unfold befB
  rcases h with h | h <;> rw [h] <;> simp
theorem var_neg {x : Int} (hx : okB x = true) : varI (-x) = varI x := by
  have a := okB_iff.1 hx
  rw [varI_yes a, varI_yes (x := -x) ⟨by omega, by omega, by omega⟩]
  repeat' split
  all_goals omega
theorem var_pos {x : Int} (hx : okB x = true) : 0 < varI x ∧ varI x ≤ 24 := by
  have a := okB_iff.1 hx
  rw [varI_yes a]
  split <;> omega
theorem bef_var {x : Int} (hx : okB x = true) : befB (varI x) (-(varI x)) = true := by
  have p := var_pos hx
  generalize varI x = v at *
  have h1 : okB v = true := okB_yes ⟨by omega, by omega, by omega⟩
  have h2 : okB (-v) = true := okB_yes ⟨by omega, by omega, by omega⟩
  unfold befB placeI
  rw [h1, h2]
  simp
  repeat' split
  all_goals omega
end Go.Proofs.Ytmmmldcnadidkaa.lits
