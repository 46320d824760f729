/- What Horn (of the program and of its model) answers at every formula that holds at most 2^20 values; no other condition. -/
import Derived.Test.YtmmmldcnadidkaaGc
namespace Go.Proofs.Ytmmmldcnadidkaa.gc
open Go.ChangeShapes Go.WideShapes Go.ChangeAt Go.RowKit
open Go.Proofs.Ytmmmldcnadidkaa.sl (Sl Own ints hide unhide ret_int ret_bool grown_refl grown_trans grown_drewN)
open Go.Proofs.Ytmmmldcnadidkaa.css (Sls OwnS tot)
open Go.Proofs.Ytmmmldcnadidkaa.cf (Box)
open Go.Proofs.Ytmmmldcnadidkaa.ok (cnfB all_hit all_step all_end)
open Go.Proofs.Ytmmmldcnadidkaa.cls (hasB)
open Go.Proofs.Ytmmmldcnadidkaa.wo (Made)
open Go.Proofs.Ytmmmldcnadidkaa.gb (Rd Kpt flt KeptE)
set_option linter.unusedVariables false

theorem mkI (n : Nat) (hn : n ≤ 1048576) (w : World) : (Instr.makeSlice 35 (.int .i64 0) (.int .i64 (n : Int))).run Try.prog w = .ok (.slice (some ⟨w.heap.size, 0, none⟩) 0 n) (w.alloc (.cells (madeCells #[.int .i64 0] n) 3)) := by
  obtain ⟨i0, hi, hz0, hz1, hz2⟩ := info_parts sl.info3
  have hr := run_make (P := Try.prog) w 35 3 i0 (.int .i64 0) Try.underlying35 hi hz0 .i64 .i64 0 n (by decide) (by omega) (by rw [hz2]; omega) (by omega)
  rw [hz1, Nat.mul_one] at hr
  exact hr
theorem madeI (w : World) (n : Nat) (hn : n ≤ 1048576) : Made w (w.alloc (.cells (madeCells #[.int .i64 0] n) 3)) (.slice (some ⟨w.heap.size, 0, none⟩) 0 n) [] :=
  ⟨World.ownsRow_made w _ n (Nat.le_refl _) (by unfold maxLen; omega) (by rw [size_madeCells, Nat.mul_one]), World.grownBy_alloc _ _ _⟩
def posL (C : List Int) : List Int := C.filter fun x => decide (0 < x)
theorem posL_yes (C : List Int) (k : Nat) (h : k < C.length) (e : 0 < C.getD k 0) : posL (C.take (k + 1)) = posL (C.take k) ++ [C.getD k 0] := by
  unfold posL
  rw [show C.getD k 0 = C[k] by simp [h]] at *
  rw [List.take_succ_eq_append_getElem h, List.filter_append]
  simp [e]
theorem posL_no (C : List Int) (k : Nat) (h : k < C.length) (e : ¬ 0 < C.getD k 0) : posL (C.take (k + 1)) = posL (C.take k) := by
  unfold posL
  rw [show C.getD k 0 = C[k] by simp [h]] at *
  rw [List.take_succ_eq_append_getElem h, List.filter_append]
  simp [e]
theorem posL_len (C : List Int) (k : Nat) : (posL (C.take k)).length ≤ k := by
  have := List.length_filter_le (fun x : Int => decide (0 < x)) (C.take k)
  rw [List.length_take] at this
  unfold posL
  omega
theorem made_form {w w1 : World} {v : Value} {L : List Int} (h : Made w w1 v L) : ∃ a cap, v = .slice a L.length cap := by
  obtain ⟨a, cap, e, _⟩ := Sl.of_own h.1
  exact ⟨a, cap, e⟩

/-- a slice of so many -/
def LenE (o : Nat) (w : World) (e : Ending) (w' : World) : Prop := ∃ a cap, e = .returned (.slice a o cap) ∧ w.grownBy w' none
def manyB (C : List Int) : Bool := decide (1 < posN C)
theorem horn_filter (LL : List (List Int)) : decide ((LL.filter manyB).length = 0) = LL.all oneB := by
  rw [Bool.eq_iff_iff, decide_eq_true_iff, List.length_eq_zero_iff, List.filter_eq_nil_iff, List.all_eq_true]
  constructor
  · intro h C hC
    have := h C hC
    simp [manyB] at this
    simp [oneB]
    omega
  · intro h C hC
    have := h C hC
    simp [oneB] at this
    simp [manyB]
    omega

end Go.Proofs.Ytmmmldcnadidkaa.gc
