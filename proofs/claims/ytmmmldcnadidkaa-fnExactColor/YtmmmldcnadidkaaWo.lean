/- What ClauseWithout (of the program and of its model) answers at every list of at most 2^20 numbers: the list without every x, in memory of its own; no other condition. -/
import Derived.Test.YtmmmldcnadidkaaCls
namespace Go.Proofs.Ytmmmldcnadidkaa.wo
open Go.ChangeShapes Go.WideShapes Go.ChangeAt Go.RowKit
open Go.Proofs.Ytmmmldcnadidkaa.sl (Sl ints hide unhide ret_int ret_bool grown_refl grown_trans grown_drewN)
set_option linter.unusedVariables false

/-- a list without every x -/
def woL (L : List Int) (x : Int) : List Int := L.filter fun y => !(y == x)
theorem woL_le (L : List Int) (x : Int) : (woL L x).length ≤ L.length := List.length_filter_le _ _
theorem woL_keep (L : List Int) (k : Nat) (x : Int) (h : k < L.length) (e : ¬ L.getD k 0 = x) : woL (L.take (k + 1)) x = woL (L.take k) x ++ [L.getD k 0] := by
  rw [show L.getD k 0 = L[k] by simp [h]] at *
  unfold woL
  rw [List.take_succ_eq_append_getElem h, List.filter_append]
  simp [e]
theorem woL_drop (L : List Int) (k : Nat) (x : Int) (h : k < L.length) (e : L.getD k 0 = x) : woL (L.take (k + 1)) x = woL (L.take k) x := by
  rw [show L.getD k 0 = L[k] by simp [h]] at *
  unfold woL
  rw [List.take_succ_eq_append_getElem h, List.filter_append]
  simp [e]

/-- a slice of the call's own, grown by one number -/
theorem own_grow {w wr w1 : World} {v v' : Value} {M : List Int} {y : Int} {o : Obj} (hg : w.grownBy wr none) (hown : wr.ownsRow w.heap.size 3 1 v M.length (ints M))
    (hown' : w1.ownsRow w.heap.size 3 1 v' (M.length + 1) (ints M ++ [.int .i64 y])) (hgrow : (wr.alloc o).grownBy w1 v.ownBlock) :
    w1.ownsRow w.heap.size 3 1 v' (M ++ [y]).length (ints (M ++ [y])) ∧ w.grownBy w1 none := by
  refine ⟨?_, ⟨hgrow.os.trans hg.os, hgrow.tape.trans hg.tape, hgrow.output.trans hg.output, ?_, fun k hk _ => ?_⟩⟩
  · have e1 : (M ++ [y]).length = M.length + 1 := by simp
    have e2 : ints (M ++ [y]) = ints M ++ [.int .i64 y] := by simp [ints]
    rw [e1, e2]
    exact hown'
  · have h1 := hgrow.size
    have h2 := hg.size
    simp at h1
    omega
  · have h2 := hg.size
    rw [hgrow.block k (by simp; omega) ?_, Below.heap_alloc _ _ _ (by omega)]
    · exact hg.block k hk (fun e => by cases e)
    · intro e
      have := (hown.lt k e.symm).1
      omega

/-- v is a slice of the call's own, made since w -/
def Made (w w1 : World) (v : Value) (M : List Int) : Prop := w1.ownsRow w.heap.size 3 1 v M.length (ints M) ∧ w.grownBy w1 none
/-- 'out = append(out, y)', out a slice of numbers of the call's own: the law of the walk, with all that is asked paid -/
theorem append1 {ops : Array Oper} {rest : List Oper} {o : Oper} {a : Act} {Q : Exit → Act → World → Prop} {w wr : World} {v : Value} {M : List Int} {y : Int}
    (hg : w.grownBy wr none) (hown : wr.ownsRow w.heap.size 3 1 v M.length (ints M)) (hM : M.length ≤ 4194304) (hgd : o.guard = none) (s x : Operand)
    (ho : o.op = .call { callee := .builtin .append, args := #[s, x], argTypes := #[35, 35] }) (hs : a.eval s = v) (hx : a.eval x = .slice (some ⟨wr.heap.size, 0, none⟩) 1 1)
    (h : ∀ v' w1, Made w w1 v' (M ++ [y]) → wpList Try.prog ops Q rest (a.put o.dst v') w1) :
    wpList Try.prog ops Q (o :: rest) a (wr.alloc (.cells #[.int .i64 y] 3)) := by
  obtain ⟨i0, hi, hz0, hz1, hz2⟩ := info_parts sl.info3
  have hsz := hg.size
  refine wpList_append_own _ hgd s x 35 ho w.heap.size 3 i0 (.int .i64 0) 1 8 Try.underlying35 hi hz0 hz1 hz2 rfl (by decide) v M.length (ints M) hs (hown.alloc _) ⟨wr.heap.size, 0, none⟩ 1 1 [.int .i64 y] hx rfl ?_ ?_ ?_ ?_ ?_ ?_
  · intro j u hj
    match j, hj with
    | 0, hj => simp at hj; subst hj; simp [Addr.add]
  · intro u hu
    simp at hu
    subst hu
    rfl
  · unfold maxLen
    omega
  · omega
  · simp
    omega
  · intro v' w1 hown' hgrow _
    exact h v' w1 (own_grow hg hown hown' hgrow)

end Go.Proofs.Ytmmmldcnadidkaa.wo
