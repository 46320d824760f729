/- Pigeon of the program, at any number. -/
import Derived.Test.YtmmmldcnadidkaaTu
namespace Go.Proofs.Ytmmmldcnadidkaa.t2
open Go.ChangeShapes Go.WideShapes Go.ChangeAt Go.RowKit
open Go.Proofs.Ytmmmldcnadidkaa.lits (okB okB_iff)
open Go.Proofs.Ytmmmldcnadidkaa.sl (Sl Own ints hide unhide ret_int ret_bool grown_refl grown_trans grown_drewN)
open Go.Proofs.Ytmmmldcnadidkaa.css (Sls OwnS tot Apart own_ne own_ne' own_kind own_mono)
open Go.Proofs.Ytmmmldcnadidkaa.cf (Box)
open Go.Proofs.Ytmmmldcnadidkaa.wo (Made)
set_option linter.unusedVariables false

/-- the variables of a place's things -/
def colL (j n : Nat) : List Int := (List.range (n + 1)).map fun i => ((i * n + j : Nat) : Int)
theorem colL_len (j n : Nat) : (colL j n).length = n + 1 := by simp [colL]
theorem colL_step (j n k : Nat) (h : k < n + 1) : (colL j n).take (k + 1) = (colL j n).take k ++ [((k * n + j : Nat) : Int)] := by
  rw [List.take_succ_eq_append_getElem (by rw [colL_len]; exact h)]
  simp [colL]
theorem colL_ok (j n : Nat) (hn : n ≤ 4) (h0 : 1 ≤ j) (h1 : j ≤ n) : ∀ y ∈ colL j n, okB y = true := by
  intro y h
  unfold colL at h
  rw [List.mem_map] at h
  obtain ⟨i, hi, rfl⟩ := h
  rw [List.mem_range] at hi
  have := Nat.mul_le_mul (show i ≤ 4 by omega) hn
  exact okB_iff.2 ⟨by omega, by omega, by omega⟩
def rowsT (n k : Nat) : List (List Int) := (List.range k).map fun i => rowL i n
theorem rowsT_step (n k : Nat) : rowsT n (k + 1) = rowsT n k ++ [rowL k n] := by
  unfold rowsT
  rw [List.range_succ, List.map_append]
  rfl
def colsT (n k : Nat) : List (List Int) := (List.range k).flatMap fun j => mostC (colL (j + 1) n) 1
theorem colsT_step (n k : Nat) : colsT n (k + 1) = colsT n k ++ mostC (colL (k + 1) n) 1 := by
  unfold colsT
  rw [List.range_succ, List.flatMap_append]
  simp
def pigC (n : Nat) : List (List Int) := rowsT n (n + 1) ++ colsT n n
theorem pig_len {n : Nat} (h0 : 1 ≤ n) (h1 : n ≤ 4) : (pigC n).length ≤ 120 := by
  have : n = 1 ∨ n = 2 ∨ n = 3 ∨ n = 4 := by omega
  rcases this with rfl | rfl | rfl | rfl <;> decide +kernel
/-- what is answered: a formula of the call's own, and whether it is -/
def CnfE (w : World) (b : Bool) (N : Int) (R : List (List Int)) (e : Ending) (w' : World) : Prop :=
  ∃ a c, e = .returned (.tuple #[.agg #[.int .i64 (if b then N else 0), .slice a (if b then R else []).length c], .bool b]) ∧ OwnS w.heap.size w'.heap.size w' (.slice a (if b then R else []).length c) (if b then R else []) ∧ w.grownBy w' none
theorem cnf_no (w : World) {N : Int} {R : List (List Int)} : CnfE w false N R (.returned (.tuple #[.agg #[.int .i64 0, .slice none 0 0], .bool false])) (w.alloc (.cells #[.int .i64 0, .slice none 0 0] 26)) :=
  ⟨none, 0, rfl, ownS_nil .., World.grownBy_alloc ..⟩
/-- more clauses behind others -/
theorem AndI.more {W0 w wr w2 : World} {p : Nat} {v v1 v2 : Value} {r : Bool} {CC P Q PQ : List (List Int)} (f1 : Fr p v v1 w wr) (e : PQ = P ++ Q) (b2 : Bld W0 w2 p v2 (addsR (addsR r CC P) (addsC r CC P) Q) (addsC (addsR r CC P) (addsC r CC P) Q)) (f2 : Fr p v1 v2 wr w2) : AndI W0 p v w r CC PQ w2 := by
  subst e
  have a := adds_app P r CC Q
  refine ⟨v2, ?_, f1.trans f2⟩
  rw [a.1, a.2]
  exact b2
end Go.Proofs.Ytmmmldcnadidkaa.t2
