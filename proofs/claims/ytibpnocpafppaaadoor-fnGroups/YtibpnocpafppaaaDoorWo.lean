/- What ClauseWithout (of the program and of its model) answers at every list of at most 2^20 numbers: the list without every x, in memory of its own; no other condition. -/
import Derived.Test.YtibpnocpafppaaaDoorCls
namespace Go.Proofs.YtibpnocpafppaaaDoor.wo
open Go.ChangeShapes Go.WideShapes Go.ChangeAt Go.RowKit
open Go.Proofs.YtibpnocpafppaaaDoor.sl (Sl ints hide unhide ret_int ret_bool grown_refl grown_trans grown_drewN)
set_option linter.unusedVariables false

/-- a list without every x -/
def woL (L : List Int) (x : Int) : List Int := L.filter fun y => !(y == x)
theorem woL_le (L : List Int) (x : Int) : (woL L x).length ≤ L.length := List.length_filter_le _ _
theorem woL_keep (L : List Int) (k : Nat) (x : Int) (h : k < L.length) (e : ¬ L.getD k 0 = x) : woL (L.take (k + 1)) x = woL (L.take k) x ++ [L.getD k 0] := by
  rw [show L.getD k 0 = L[k] by simp [h]] at *
  unfold woL
  rw [List.take_succ_eq_append_getElem h, List.filter_append]
  simp [e]
theorem woL_drop (L : List Int) (k : Nat) (x : Int) (h : k < L.length) (e : L.getD k 0 = x) : woL (L.take (k + 1)) x = woL (L.take k) x := by
  rw [show L.getD k 0 = L[k] by simp [h]] at *
  unfold woL
  rw [List.take_succ_eq_append_getElem h, List.filter_append]
  simp [e]

/-- a slice of the call's own, grown by one number -/
theorem own_grow {w wr w1 : World} {v v' : Value} {M : List Int} {y : Int} {o : Obj} (hg : w.grownBy wr none) (hown : wr.ownsRow w.heap.size 3 1 v M.length (ints M))
    (hown' : w1.ownsRow w.heap.size 3 1 v' (M.length + 1) (ints M ++ [.int .i64 y])) (hgrow : (wr.alloc o).grownBy w1 v.ownBlock) :
    w1.ownsRow w.heap.size 3 1 v' (M ++ [y]).length (ints (M ++ [y])) ∧ w.grownBy w1 none := by
  refine ⟨?_, ⟨hgrow.os.trans hg.os, hgrow.tape.trans hg.tape, hgrow.output.trans hg.output, ?_, fun k hk _ => ?_⟩⟩
  · have e1 : (M ++ [y]).length = M.length + 1 := by simp
    have e2 : ints (M ++ [y]) = ints M ++ [.int .i64 y] := by simp [ints]
    rw [e1, e2]
    exact hown'
  · have h1 := hgrow.size
    have h2 := hg.size
    simp at h1
    omega
  · have h2 := hg.size
    rw [hgrow.block k (by simp; omega) ?_, Below.heap_alloc _ _ _ (by omega)]
    · exact hg.block k hk (fun e => by cases e)
    · intro e
      have := (hown.lt k e.symm).1
      omega

/-- v is a slice of the call's own, made since w -/
def Made (w w1 : World) (v : Value) (M : List Int) : Prop := w1.ownsRow w.heap.size 3 1 v M.length (ints M) ∧ w.grownBy w1 none
/-- 'out = append(out, y)', out a slice of numbers of the call's own: the law of the walk, with all that is asked paid -/
theorem append1 {ops : Array Oper} {rest : List Oper} {o : Oper} {a : Act} {Q : Exit → Act → World → Prop} {w wr : World} {v : Value} {M : List Int} {y : Int}
    (hg : w.grownBy wr none) (hown : wr.ownsRow w.heap.size 3 1 v M.length (ints M)) (hM : M.length ≤ 4194304) (hgd : o.guard = none) (s x : Operand)
    (ho : o.op = .call { callee := .builtin .append, args := #[s, x], argTypes := #[31, 31] }) (hs : a.eval s = v) (hx : a.eval x = .slice (some ⟨wr.heap.size, 0, none⟩) 1 1)
    (h : ∀ v' w1, Made w w1 v' (M ++ [y]) → wpList Tryd.prog ops Q rest (a.put o.dst v') w1) :
    wpList Tryd.prog ops Q (o :: rest) a (wr.alloc (.cells #[.int .i64 y] 3)) := by
  obtain ⟨i0, hi, hz0, hz1, hz2⟩ := info_parts sl.info3
  have hsz := hg.size
  refine wpList_append_own _ hgd s x 31 ho w.heap.size 3 i0 (.int .i64 0) 1 8 Tryd.underlying31 hi hz0 hz1 hz2 rfl (by decide) v M.length (ints M) hs (hown.alloc _) ⟨wr.heap.size, 0, none⟩ 1 1 [.int .i64 y] hx rfl ?_ ?_ ?_ ?_ ?_ ?_
  · intro j u hj
    match j, hj with
    | 0, hj => simp at hj; subst hj; simp [Addr.add]
  · intro u hu
    simp at hu
    subst hu
    rfl
  · unfold maxLen
    omega
  · omega
  · simp
    omega
  · intro v' w1 hown' hgrow _
    exact h v' w1 (own_grow hg hown hown' hgrow)

set_option maxHeartbeats 400000 in
theorem specClauseWithout (v : Value) (L : List Int) (x : Int) (w : World) (hL : L.length ≤ 1048576) (hv : Sl w v L) :
    Calls Tryd.prog 119 #[v, .int .i64 x] w fun e w' => ∃ u, e = .returned u ∧ w'.ownsRow w.heap.size 3 1 u (woL L x).length (ints (woL L x)) ∧ w.grownBy w' none := by
  obtain ⟨a, cap, rfl, ha⟩ := hv
  obtain ⟨i0, hi, hz0, hz1, hz2⟩ := info_parts sl.info3
  have HA := hide ha
  clear ha
  have start : Hid ((w.alloc (.cells #[] 3)).ownsRow w.heap.size 3 1 (.slice (some ⟨w.heap.size, 0, none⟩) 0 0) 0 []) := World.ownsRow_lit w #[] 0 (Nat.le_refl _) (Nat.zero_le _) rfl
  have grown : Hid (w.grownBy (w.alloc (.cells #[] 3)) none) := World.grownBy_alloc _ _ _
  go_enter Tryd.func119, Tryd.ntmps119
  go_wp2
  go_loopw [5, 6] (fun u i wr => ∃ k : Nat, k ≤ L.length ∧ i = .int .i64 k ∧ wr.ownsRow w.heap.size 3 1 u (woL (L.take k) x).length (ints (woL (L.take k) x)) ∧ w.grownBy wr none) (fun _ i _ => L.length - (intOf i).toNat)
  case atStart => exact ⟨0, Nat.zero_le _, rfl, unhide start, unhide grown⟩
  case round =>
    obtain ⟨k, hk, rfl, hown, hg⟩ := hrel
    clear start grown
    by_cases hlt : k < L.length
    · rcases unhide HA with h | ⟨b, off, rfl, hb, hcb⟩
      · rw [h] at hlt
        simp at hlt
      · have c1 : wr.cell? ⟨b, off + k, none⟩ = some (.int .i64 (L.getD k 0)) := hg.cell (hcb k hlt) (fun e => by cases e)
        have hi' : (k : Int) < (L.length : Int) := by omega
        have h1 := woL_keep L k x hlt
        have h2 := woL_drop L k x hlt
        have hle : (woL (L.take k) x).length ≤ 1048576 := Nat.le_trans (woL_le _ _) (by rw [List.length_take]; omega)
        have hsz := hg.size
        generalize L.getD k 0 = y at *
        generalize woL (L.take k) x = M at *
        by_cases hx : y = x
        · have H := hide (h2 hx)
          have hb' : (y != x) = false := by simpa using hx
          have O := hide hown
          have G := hide hg
          clear h1 h2 hx hcb HA hown hg
          go_wp2
          go_roundw
          case rel => exact ⟨k + 1, by omega, by go_num, by rw [unhide H]; exact unhide O, unhide G⟩
          case measure => simp [intOf]; omega
        · have H := hide (h1 hx)
          have hb' : (y != x) = true := by simpa using hx
          clear h1 h2 hx hcb HA
          go_wp2_with (first | (at_builtin; refine wpList_append_own _ rfl _ _ 31 rfl w.heap.size 3 i0 (.int .i64 0) 1 8 Tryd.underlying31 hi hz0 hz1 hz2 rfl (by decide) _ _ _ rfl (hown.alloc _) ⟨wr.heap.size, 0, none⟩ 1 1 [.int .i64 y] rfl rfl ?c1 ?c2 ?c3 ?c4 ?c5 ?_) | go_in)
          case c1 =>
            intro j u hj
            match j, hj with
            | 0, hj => simp at hj; subst hj; simp [Addr.add]
          case c2 => intro u hu; simp at hu; subst hu; rfl
          case c3 => unfold maxLen; omega
          case c4 => omega
          case c5 => simp; omega
          · intro v' w1 hown' hgrow _
            have R := hide (own_grow hg hown hown' hgrow)
            clear hown' hgrow hown hg
            go_wp2
            go_roundw
            case rel => exact ⟨k + 1, by omega, by go_num, by rw [unhide H]; exact (unhide R).1, (unhide R).2⟩
            case measure => simp [intOf]; omega
    · have hi' : ¬ (k : Int) < (L.length : Int) := by omega
      have e : L.take k = L := List.take_of_length_le (by omega)
      rw [e] at hown
      have O := hide hown
      have G := hide hg
      clear hown hg HA e
      go_wp2
      go_ret
      exact ⟨_, rfl, unhide O, unhide G⟩

set_option maxHeartbeats 400000 in
theorem implClauseWithout (v : Value) (L : List Int) (x : Int) (w : World) (hL : L.length ≤ 1048576) (hv : Sl w v L) :
    Calls Tryd.prog 117 #[v, .int .i64 x] w fun e w' => ∃ u, e = .returned u ∧ w'.ownsRow w.heap.size 3 1 u (woL L x).length (ints (woL L x)) ∧ w.grownBy w' none := by
  obtain ⟨a, cap, rfl, ha⟩ := hv
  obtain ⟨i0, hi, hz0, hz1, hz2⟩ := info_parts sl.info3
  have HA := hide ha
  clear ha
  go_enter Tryd.func117, Tryd.ntmps117
  go_wp2_with (first | (at_make; refine wpList_make_own _ rfl _ _ 31 rfl w.heap.size 3 i0 (.int .i64 0) 1 Tryd.underlying31 hi hz0 hz1 _ _ _ L.length rfl rfl (by rfl) ?b1 ?b2 ?b3 ?_) | go_in)
  case b1 => rw [hz2]; omega
  case b2 => unfold maxLen; omega
  case b3 => exact Nat.le_refl _
  intro w1 hown hgrow
  have start := hide hown
  have grown := hide hgrow
  clear hown hgrow
  go_wp2
  go_loopw [5, 7, 13] (fun u _ i wr => ∃ k : Nat, k ≤ L.length ∧ i = .int .i64 k ∧ wr.ownsRow w.heap.size 3 1 u (woL (L.take k) x).length (ints (woL (L.take k) x)) ∧ w.grownBy wr none) (fun _ _ i _ => L.length - (intOf i).toNat)
  case atStart => exact ⟨0, Nat.zero_le _, rfl, unhide start, unhide grown⟩
  case round =>
    obtain ⟨k, hk, rfl, hown, hg⟩ := hrel
    clear start grown
    by_cases hlt : k < L.length
    · rcases unhide HA with h | ⟨b, off, rfl, hb, hcb⟩
      · rw [h] at hlt
        simp at hlt
      · have c1 : wr.cell? ⟨b, off + k, none⟩ = some (.int .i64 (L.getD k 0)) := hg.cell (hcb k hlt) (fun e => by cases e)
        have hi' : (k : Int) < (L.length : Int) := by omega
        have h1 := woL_keep L k x hlt
        have h2 := woL_drop L k x hlt
        have hle : (woL (L.take k) x).length ≤ 1048576 := Nat.le_trans (woL_le _ _) (by rw [List.length_take]; omega)
        have hsz := hg.size
        generalize L.getD k 0 = y at *
        generalize woL (L.take k) x = M at *
        by_cases hx : y = x
        · have H := hide (h2 hx)
          have hb' : (y != x) = false := by simpa using hx
          have O := hide hown
          have G := hide hg
          clear h1 h2 hx hcb HA hown hg
          go_wp2
          go_roundw
          case rel => exact ⟨k + 1, by omega, by go_num, by rw [unhide H]; exact unhide O, unhide G⟩
          case measure => simp [intOf]; omega
        · have H := hide (h1 hx)
          have hb' : (y != x) = true := by simpa using hx
          clear h1 h2 hx hcb HA
          go_wp2_with (first | (at_builtin; refine wpList_append_own _ rfl _ _ 31 rfl w.heap.size 3 i0 (.int .i64 0) 1 8 Tryd.underlying31 hi hz0 hz1 hz2 rfl (by decide) _ _ _ rfl (hown.alloc _) ⟨wr.heap.size, 0, none⟩ 1 1 [.int .i64 y] rfl rfl ?c1 ?c2 ?c3 ?c4 ?c5 ?_) | go_in)
          case c1 =>
            intro j u hj
            match j, hj with
            | 0, hj => simp at hj; subst hj; simp [Addr.add]
          case c2 => intro u hu; simp at hu; subst hu; rfl
          case c3 => unfold maxLen; omega
          case c4 => omega
          case c5 => simp; omega
          · intro v' w1 hown' hgrow _
            have R := hide (own_grow hg hown hown' hgrow)
            clear hown' hgrow hown hg
            go_wp2
            go_roundw
            case rel => exact ⟨k + 1, by omega, by go_num, by rw [unhide H]; exact (unhide R).1, (unhide R).2⟩
            case measure => simp [intOf]; omega
    · have hi' : ¬ (k : Int) < (L.length : Int) := by omega
      have e : L.take k = L := List.take_of_length_le (by omega)
      rw [e] at hown
      have O := hide hown
      have G := hide hg
      clear hown hg HA e
      go_wp2
      go_ret
      exact ⟨_, rfl, unhide O, unhide G⟩
end Go.Proofs.YtibpnocpafppaaaDoor.wo
