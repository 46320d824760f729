/- What the functions on clauses (ClauseOk, ClauseHas, of the program and of its model) answer at every list of at most 2^20 numbers; no other condition. -/
import Derived.Test.YtnlllcgcaddhmaaJXLits
import Derived.Test.YtnlllcgcaddhmaaJXSl
import Derived.Laws.BitsAllLaws
import Derived.Laws.ShiftsVarLaws
import Derived.Lib.TrailingZeros
import Derived.Deep.RegionWith
namespace Go.Proofs.Ytnlllcgcaddhmaa.cls
open Go.ChangeShapes Go.WideShapes Go.ChangeAt Go.RowKit
open lits (okB)
open sl (Sl ints hide unhide ret_int ret_bool grown_refl grown_trans grown_drewN)
set_option linter.unusedVariables false
def okAll (L : List Int) : Bool := L.all okB && decide (L.length ≤ 48)
theorem okAll_hit (L : List Int) (k : Nat) (h : k < L.length) (hx : okB (L.getD k 0) = false) : okAll L = false := by
 unfold okAll
 have : L.all okB = false := by
  rw [List.all_eq_false]
  refine ⟨L[k], List.getElem_mem h, ?_⟩
  rw [show L.getD k 0 = L[k] by simp [h]] at hx
  simp [hx]
 rw [this]
 rfl
theorem take_all (L : List Int) (k : Nat) (h : k < L.length) (ha : (L.take k).all okB = true) (hx : okB (L.getD k 0) = true) : (L.take (k + 1)).all okB = true := by
 rw [List.take_succ_eq_append_getElem h, List.all_append, ha]
 rw [show L.getD k 0 = L[k] by simp [h]] at hx
 simp [hx]
theorem specClauseOk (v : Value) (L : List Int) (w : World) (hL : L.length ≤ 1048576) (hv : Sl w v L) :
  Calls Try.prog 83 #[v] w fun e w' => e = .returned (.bool (okAll L)) ∧ w' = w := by
 obtain ⟨a, cap, rfl, ha⟩ := hv
 have HA := hide ha
 clear ha
 go_enter Try.func83, Try.ntmps83
 go_wp2
 go_loop [3] (fun i => ∃ k : Nat, k ≤ L.length ∧ i = .int .i64 k ∧ Hid ((L.take k).all okB = true)) (fun i => L.length - (intOf i).toNat)
 case atStart => exact ⟨0, Nat.zero_le _, rfl, by show _ = _; simp⟩
 case round =>
  obtain ⟨k, hk, rfl, hall⟩ := hrel
  by_cases hlt : k < L.length
  ·rcases unhide HA with h | ⟨b, off, rfl, hb, hcb⟩
   ·rw [h] at hlt
    simp at hlt
   ·have c1 := hcb k hlt
    have hi' : (k : Int) < (L.length : Int) := by omega
    have h1 := okAll_hit L k hlt
    have h2 := take_all L k hlt (unhide hall)
    generalize L.getD k 0 = x at *
    have cx := lits.specLitOk x
    cases hx : okB x
    ·rw [hx] at cx
     have CX := hide cx
     have H := hide (h1 hx)
     clear cx h1 h2 hx hcb HA
     go_wp2_with (go_at_call 87; refine (unhide CX _).mono ?_; rintro e w' ⟨rfl, rfl⟩)
     go_ret
     exact ⟨ret_bool (unhide H).symm, rfl⟩
    ·rw [hx] at cx
     have CX := hide cx
     have H := hide (h2 hx)
     clear cx h1 h2 hx hcb HA
     go_wp2_with (go_at_call 87; refine (unhide CX _).mono ?_; rintro e w' ⟨rfl, rfl⟩)
     go_round
     case rel => exact ⟨k + 1, by omega, by go_num, H⟩
     case measure => simp [intOf]; omega
  ·have hi' : ¬ (k : Int) < (L.length : Int) := by omega
   have HR : Hid (okAll L = decide (L.length ≤ 48)) := by
    show okAll L = _
    have := unhide hall
    rw [List.take_of_length_le (by omega)] at this
    unfold okAll
    rw [this]
    rfl
   clear HA
   go_wp2
   go_ret
   refine ⟨?_, rfl⟩
   rw [unhide HR]
   exact ret_bool (by simp; omega)
def hasB (L : List Int) (x : Int) : Bool := decide (x ∈ L)
theorem has_hit (L : List Int) (k : Nat) (x : Int) (h : k < L.length) (e : L.getD k 0 = x) : hasB L x = true := by
 rw [show L.getD k 0 = L[k] by simp [h]] at e
 exact decide_eq_true (by rw [← e]; exact List.getElem_mem h)
theorem has_step (L : List Int) (k : Nat) (x : Int) (h : k < L.length) (hn : ¬ x ∈ L.take k) (e : ¬ L.getD k 0 = x) : ¬ x ∈ L.take (k + 1) := by
 rw [show L.getD k 0 = L[k] by simp [h]] at e
 rw [List.take_succ_eq_append_getElem h, List.mem_append]
 rintro (h1 | h1)
 ·exact hn h1
 ·simp at h1
  exact e h1.symm
theorem has_no (L : List Int) (k : Nat) (x : Int) (h : ¬ k < L.length) (hn : ¬ x ∈ L.take k) : hasB L x = false := by
 rw [List.take_of_length_le (by omega)] at hn
 exact decide_eq_false hn
theorem specClauseHas (v : Value) (L : List Int) (x : Int) (w : World) (hL : L.length ≤ 1048576) (hv : Sl w v L) :
  Calls Try.prog 69 #[v, .int .i64 x] w fun e w' => e = .returned (.bool (hasB L x)) ∧ w' = w := by
 obtain ⟨a, cap, rfl, ha⟩ := hv
 have HA := hide ha
 clear ha
 go_enter Try.func69, Try.ntmps69
 go_wp2
 go_loop [5] (fun i => ∃ k : Nat, k ≤ L.length ∧ i = .int .i64 k ∧ Hid (¬ x ∈ L.take k)) (fun i => L.length - (intOf i).toNat)
 case atStart => exact ⟨0, Nat.zero_le _, rfl, by show ¬ _; simp⟩
 case round =>
  obtain ⟨k, hk, rfl, hall⟩ := hrel
  by_cases hlt : k < L.length
  ·rcases unhide HA with h | ⟨b, off, rfl, hb, hcb⟩
   ·rw [h] at hlt
    simp at hlt
   ·have c1 := hcb k hlt
    have hi' : (k : Int) < (L.length : Int) := by omega
    have h1 := has_hit L k x hlt
    have h2 := has_step L k x hlt (unhide hall)
    generalize L.getD k 0 = y at *
    by_cases hx : y = x
    ·have H := hide (h1 hx)
     have hb' : (y == x) = true := by simpa using hx
     clear h1 h2 hx hcb HA
     go_wp2
     go_ret
     exact ⟨ret_bool (unhide H).symm, rfl⟩
    ·have H := hide (h2 hx)
     have hb' : (y == x) = false := by simpa using hx
     clear h1 h2 hx hcb HA
     go_wp2
     go_round
     case rel => exact ⟨k + 1, by omega, by go_num, H⟩
     case measure => simp [intOf]; omega
  ·have hi' : ¬ (k : Int) < (L.length : Int) := by omega
   have HR := hide (has_no L k x hlt (unhide hall))
   clear HA
   go_wp2
   go_ret
   exact ⟨ret_bool (unhide HR).symm, rfl⟩
end Go.Proofs.Ytnlllcgcaddhmaa.cls
namespace Go.Proofs.Ytnlllcgcaddhmaa.bset
open Go.ChangeShapes Go.WideShapes Go.ChangeAt Go.RowKit
open lits (okB placeI okB_iff okB_yes okB_no)
open sl (Sl ints hide unhide ret_int ret_bool grown_refl grown_trans grown_drewN)
open cls (hasB)
set_option linter.unusedVariables false
def placeN (x : Int) : Nat := (placeI x).toNat
theorem placeN_inj {x y : Int} (hx : okB x = true) (hy : okB y = true) (h : placeN x = placeN y) : x = y := by
 have a := okB_iff.1 hx
 have b := okB_iff.1 hy
 unfold placeN placeI at h
 split at h <;> split at h <;> omega
def withN (s : Nat) (x : Int) : Nat := s ||| 2 ^ placeN x
def setOf (L : List Int) : Nat := L.foldl (fun s x => if okB x then withN s x else s) 0
theorem withN_bit (s : Nat) (x : Int) (j : Nat) : (withN s x).testBit j = (s.testBit j || decide (placeN x = j)) := by
 unfold withN
 rw [Nat.testBit_or, Nat.testBit_two_pow]
theorem fold_bit (L : List Int) (s : Nat) (j : Nat) : (L.foldl (fun s x => if okB x then withN s x else s) s).testBit j = (s.testBit j || L.any fun x => okB x && decide (placeN x = j)) := by
 induction L generalizing s with
 | nil => simp
 | cons x l ih =>
  rw [List.foldl_cons, ih, List.any_cons]
  cases h : okB x
  ·simp
  ·simp [withN_bit, Bool.or_assoc]
theorem setOf_bit (L : List Int) (j : Nat) : (setOf L).testBit j = L.any fun x => okB x && decide (placeN x = j) := by
 unfold setOf
 rw [fold_bit]
 simp
theorem setOf_has (L : List Int) (x : Int) (h : okB x = true) : (setOf L).testBit (placeN x) = hasB L x := by
 rw [setOf_bit, Bool.eq_iff_iff, List.any_eq_true]
 unfold hasB
 rw [decide_eq_true_iff]
 constructor
 ·rintro ⟨y, hy, e⟩
  rw [Bool.and_eq_true, decide_eq_true_iff] at e
  rw [placeN_inj h e.1 e.2.symm]
  exact hy
 ·intro hx
  exact ⟨x, hx, by simp [h]⟩
end Go.Proofs.Ytnlllcgcaddhmaa.bset
namespace Go.Proofs.Ytnlllcgcaddhmaa.srt
open Go.RowKit
open lits (okB placeI okB_iff okB_yes okB_no)
open bset (setOf placeN setOf_has)
open cls (hasB okAll)
def litI (p : Nat) : Int := if p % 2 = 1 then -((p / 2 : Nat) + 1 : Int) else ((p / 2 : Nat) + 1 : Int)
def srt (S j : Nat) : List Int := ((List.range j).filter fun i => S.testBit i).map litI
theorem srt_yes {S j : Nat} (h : S.testBit j = true) : srt S (j + 1) = srt S j ++ [litI j] := by
 unfold srt
 rw [List.range_succ, List.filter_append, List.map_append]
 simp [h]
theorem srt_no {S j : Nat} (h : S.testBit j = false) : srt S (j + 1) = srt S j := by
 unfold srt
 rw [List.range_succ, List.filter_append, List.map_append]
 simp [h]
theorem srt_len (S j : Nat) : (srt S j).length ≤ j := by
 unfold srt
 rw [List.length_map]
 exact Nat.le_trans (List.length_filter_le _ _) (by simp)
def okTo (S k : Nat) : Bool := (List.range k).all fun j => !(S.testBit (2 * j) && S.testBit (2 * j + 1))
theorem okTo_succ (S k : Nat) : okTo S (k + 1) = (okTo S k && !(S.testBit (2 * k) && S.testBit (2 * k + 1))) := by
 unfold okTo
 rw [List.range_succ, List.all_append]
 simp
theorem place_pos (k : Nat) (h : k < 24) : okB ((k : Int) + 1) = true ∧ placeN ((k : Int) + 1) = 2 * k := by
 refine ⟨okB_yes ⟨by omega, by omega, by omega⟩, ?_⟩
 unfold placeN placeI
 rw [if_neg (by omega)]
 omega
theorem place_neg (k : Nat) (h : k < 24) : okB (-((k : Int) + 1)) = true ∧ placeN (-((k : Int) + 1)) = 2 * k + 1 := by
 refine ⟨okB_yes ⟨by omega, by omega, by omega⟩, ?_⟩
 unfold placeN placeI
 rw [if_pos (by omega)]
 omega
theorem has_pos (L : List Int) (k : Nat) (h : k < 24) : hasB L ((k : Int) + 1) = (setOf L).testBit (2 * k) := by
 rw [← setOf_has L _ (place_pos k h).1, (place_pos k h).2]
theorem has_neg (L : List Int) (k : Nat) (h : k < 24) : hasB L (-((k : Int) + 1)) = (setOf L).testBit (2 * k + 1) := by
 rw [← setOf_has L _ (place_neg k h).1, (place_neg k h).2]
theorem litI_even (k : Nat) : litI (2 * k) = (k : Int) + 1 := by
 unfold litI
 rw [if_neg (by omega), show 2 * k / 2 = k from by omega]
theorem litI_odd (k : Nat) : litI (2 * k + 1) = -((k : Int) + 1) := by
 unfold litI
 rw [if_pos (by omega), show (2 * k + 1) / 2 = k from by omega]
end Go.Proofs.Ytnlllcgcaddhmaa.srt
namespace Go.Proofs.Ytnlllcgcaddhmaa.srt
open Go.ChangeShapes Go.WideShapes Go.ChangeAt Go.RowKit
open lits (okB placeI okB_iff okB_yes okB_no)
open bset (setOf placeN setOf_has)
open sl (hide unhide ret_int ret_bool)
set_option linter.unusedVariables false
def swp (i : Nat) : Nat := if i % 2 = 0 then i + 1 else i - 1
end Go.Proofs.Ytnlllcgcaddhmaa.srt
namespace Go.Proofs.Ytnlllcgcaddhmaa.wo
open Go.ChangeShapes Go.WideShapes Go.ChangeAt Go.RowKit
open sl (Sl ints hide unhide ret_int ret_bool grown_refl grown_trans grown_drewN)
set_option linter.unusedVariables false
theorem own_grow {w wr w1 : World} {v v' : Value} {M : List Int} {y : Int} {o : Obj} (hg : w.grownBy wr none) (hown : wr.ownsRow w.heap.size 3 1 v M.length (ints M))
  (hown' : w1.ownsRow w.heap.size 3 1 v' (M.length + 1) (ints M ++ [.int .i64 y])) (hgrow : (wr.alloc o).grownBy w1 v.ownBlock) :
  w1.ownsRow w.heap.size 3 1 v' (M ++ [y]).length (ints (M ++ [y])) ∧ w.grownBy w1 none := by
 refine ⟨?_, ⟨hgrow.os.trans hg.os, hgrow.tape.trans hg.tape, hgrow.output.trans hg.output, ?_, fun k hk _ => ?_⟩⟩
 ·have e1 : (M ++ [y]).length = M.length + 1 := by simp
  have e2 : ints (M ++ [y]) = ints M ++ [.int .i64 y] := by simp [ints]
  rw [e1, e2]
  exact hown'
 ·have h1 := hgrow.size
  have h2 := hg.size
  simp at h1
  omega
 ·have h2 := hg.size
  rw [hgrow.block k (by simp; omega) ?_, Below.heap_alloc _ _ _ (by omega)]
  ·exact hg.block k hk (fun e => by cases e)
  ·intro e
   have := (hown.lt k e.symm).1
   omega
def Made (w w1 : World) (v : Value) (M : List Int) : Prop := w1.ownsRow w.heap.size 3 1 v M.length (ints M) ∧ w.grownBy w1 none
theorem append1 {ops : Array Oper} {rest : List Oper} {o : Oper} {a : Act} {Q : Exit → Act → World → Prop} {w wr : World} {v : Value} {M : List Int} {y : Int}
  (hg : w.grownBy wr none) (hown : wr.ownsRow w.heap.size 3 1 v M.length (ints M)) (hM : M.length ≤ 4194304) (hgd : o.guard = none) (s x : Operand)
  (ho : o.op = .call { callee := .builtin .append, args := #[s, x], argTypes := #[27, 27] }) (hs : a.eval s = v) (hx : a.eval x = .slice (some ⟨wr.heap.size, 0, none⟩) 1 1)
  (h : ∀ v' w1, Made w w1 v' (M ++ [y]) → wpList Try.prog ops Q rest (a.put o.dst v') w1) :
  wpList Try.prog ops Q (o :: rest) a (wr.alloc (.cells #[.int .i64 y] 3)) := by
 obtain ⟨i0, hi, hz0, hz1, hz2⟩ := info_parts sl.info3
 have hsz := hg.size
 refine wpList_append_own _ hgd s x 27 ho w.heap.size 3 i0 (.int .i64 0) 1 8 Try.underlying27 hi hz0 hz1 hz2 rfl (by decide) v M.length (ints M) hs (hown.alloc _) ⟨wr.heap.size, 0, none⟩ 1 1 [.int .i64 y] hx rfl ?_ ?_ ?_ ?_ ?_ ?_
 ·intro j u hj
  match j, hj with
  | 0, hj => simp at hj; subst hj; simp [Addr.add]
 ·intro u hu
  simp at hu
  subst hu
  rfl
 ·unfold maxLen
  omega
 ·omega
 ·simp
  omega
 ·intro v' w1 hown' hgrow _
  exact h v' w1 (own_grow hg hown hown' hgrow)
end Go.Proofs.Ytnlllcgcaddhmaa.wo
namespace Go.Proofs.Ytnlllcgcaddhmaa.srt
open Go.ChangeShapes Go.WideShapes Go.ChangeAt Go.RowKit
open lits (okB placeI okB_iff okB_yes okB_no)
open bset (setOf placeN setOf_has)
open cls (hasB okAll)
open sl (Sl ints hide unhide ret_int ret_bool grown_refl grown_trans)
set_option linter.unusedVariables false
set_option maxHeartbeats 1000000 in
theorem l01Sort (v : Value) (L : List Int) (w : World) (hL : L.length ≤ 1048576) (hv : Sl w v L) :
  Calls Try.prog 48 #[v] w fun e w' => ∃ u, e = .returned (.tuple #[u, .bool (okTo (setOf L) 24)]) ∧ w'.ownsRow w.heap.size 3 1 u (srt (setOf L) 48).length (ints (srt (setOf L) 48)) ∧ w.grownBy w' none := by
 obtain ⟨i0, hi, hz0, hz1, hz2⟩ := info_parts sl.info3
 have HV := hide hv
 clear hv
 have start : Hid ((w.alloc (.cells #[] 3)).ownsRow w.heap.size 3 1 (.slice (some ⟨w.heap.size, 0, none⟩) 0 0) 0 []) := World.ownsRow_lit w #[] 0 (Nat.le_refl _) (Nat.zero_le _) rfl
 have grown : Hid (w.grownBy (w.alloc (.cells #[] 3)) none) := World.grownBy_alloc _ _ _
 go_enter Try.func48, Try.ntmps48
 go_wp2
 go_loopw [4, 5, 6] (fun u o i wr => ∃ k : Nat, k ≤ 24 ∧ i = .int .i64 ((k : Int) + 1) ∧ o = .bool (okTo (setOf L) k) ∧ wr.ownsRow w.heap.size 3 1 u (srt (setOf L) (2 * k)).length (ints (srt (setOf L) (2 * k))) ∧ w.grownBy wr none) (fun _ _ i _ => 30 - (intOf i).toNat)
 case atStart => exact ⟨0, Nat.zero_le _, rfl, rfl, unhide start, unhide grown⟩
 case round =>
  obtain ⟨k, hk, rfl, rfl, hown, hg⟩ := hrel
  clear start grown
  by_cases hlt : k < 24
  ·have hi' : (k : Int) + 1 ≤ 24 := by omega
   have ca := cls.specClauseHas v L ((k : Int) + 1) wr hL ((unhide HV).kept hg (.inl rfl))
   have cb := cls.specClauseHas v L (-((k : Int) + 1)) wr hL ((unhide HV).kept hg (.inl rfl))
   rw [has_pos L k hlt] at ca
   rw [has_neg L k hlt] at cb
   have eo := okTo_succ (setOf L) k
   have y1 := fun h => srt_yes (S := setOf L) (j := 2 * k) h
   have n1 := fun h => srt_no (S := setOf L) (j := 2 * k) h
   have y2 := fun h => srt_yes (S := setOf L) (j := 2 * k + 1) h
   have n2 := fun h => srt_no (S := setOf L) (j := 2 * k + 1) h
   rw [litI_even] at y1
   rw [litI_odd] at y2
   have hle : (srt (setOf L) (2 * k)).length ≤ 48 := Nat.le_trans (srt_len _ _) (by omega)
   have hsz := hg.size
   clear HV
   cases ha : (setOf L).testBit (2 * k)
   all_goals cases hb : (setOf L).testBit (2 * k + 1)
   ·rw [ha] at ca eo
    rw [hb] at cb eo
    have CA := hide ca
    have CB := hide cb
    have EO := hide eo
    have E : Hid (srt (setOf L) (2 * (k + 1)) = srt (setOf L) (2 * k)) := by
     show _ = _
     rw [show 2 * (k + 1) = 2 * k + 1 + 1 from by omega, n2 hb, n1 ha]
    clear ca cb eo y1 n1 y2 n2 ha hb
    generalize srt (setOf L) (2 * k) = M at *
    generalize okTo (setOf L) k = o at *
    cases o
    all_goals
     go_wp2_with fail
     refine (unhide CA).mono ?_; rintro e w2 ⟨rfl, hw⟩; have hw' := hw.symm; clear hw; subst hw'
     go_wp2_with fail
     refine (unhide CB).mono ?_; rintro e w2 ⟨rfl, hw⟩; have hw' := hw.symm; clear hw; subst hw'
     have R : wo.Made w wr _ M := ⟨hown, hg⟩
     clear hown hg
     go_wp2
     go_roundw
     case rel => exact ⟨k + 1, by omega, by go_num, by rw [unhide EO]; rfl, by rw [unhide E]; exact R.1, R.2⟩
     case measure => simp [intOf]; omega
   ·rw [ha] at ca eo
    rw [hb] at cb eo
    have CA := hide ca
    have CB := hide cb
    have EO := hide eo
    have E : Hid (srt (setOf L) (2 * (k + 1)) = srt (setOf L) (2 * k) ++ [-((k : Int) + 1)]) := by
     show _ = _
     rw [show 2 * (k + 1) = 2 * k + 1 + 1 from by omega, y2 hb, n1 ha]
    clear ca cb eo y1 n1 y2 n2 ha hb
    generalize srt (setOf L) (2 * k) = M at *
    generalize okTo (setOf L) k = o at *
    cases o
    all_goals
     go_wp2_with fail
     refine (unhide CA).mono ?_; rintro e w2 ⟨rfl, hw⟩; have hw' := hw.symm; clear hw; subst hw'
     go_wp2_with fail
     refine (unhide CB).mono ?_; rintro e w2 ⟨rfl, hw⟩; have hw' := hw.symm; clear hw; subst hw'
     go_wp2_with (at_builtin; refine wo.append1 hg hown (by omega) rfl _ _ rfl rfl rfl ?_)
     intro v' w1 R
     clear hown hg
     go_wp2
     go_roundw
     case rel => exact ⟨k + 1, by omega, by go_num, by rw [unhide EO]; rfl, by rw [unhide E]; exact R.1, R.2⟩
     case measure => simp [intOf]; omega
   ·rw [ha] at ca eo
    rw [hb] at cb eo
    have CA := hide ca
    have CB := hide cb
    have EO := hide eo
    have E : Hid (srt (setOf L) (2 * (k + 1)) = srt (setOf L) (2 * k) ++ [(k : Int) + 1]) := by
     show _ = _
     rw [show 2 * (k + 1) = 2 * k + 1 + 1 from by omega, n2 hb, y1 ha]
    clear ca cb eo y1 n1 y2 n2 ha hb
    generalize srt (setOf L) (2 * k) = M at *
    generalize okTo (setOf L) k = o at *
    cases o
    all_goals
     go_wp2_with fail
     refine (unhide CA).mono ?_; rintro e w2 ⟨rfl, hw⟩; have hw' := hw.symm; clear hw; subst hw'
     go_wp2_with fail
     refine (unhide CB).mono ?_; rintro e w2 ⟨rfl, hw⟩; have hw' := hw.symm; clear hw; subst hw'
     go_wp2_with (at_builtin; refine wo.append1 hg hown (by omega) rfl _ _ rfl rfl rfl ?_)
     intro v' w1 R
     clear hown hg
     go_wp2
     go_roundw
     case rel => exact ⟨k + 1, by omega, by go_num, by rw [unhide EO]; rfl, by rw [unhide E]; exact R.1, R.2⟩
     case measure => simp [intOf]; omega
   ·rw [ha] at ca eo
    rw [hb] at cb eo
    have CA := hide ca
    have CB := hide cb
    have EO := hide eo
    have E : Hid (srt (setOf L) (2 * (k + 1)) = srt (setOf L) (2 * k) ++ [(k : Int) + 1] ++ [-((k : Int) + 1)]) := by
     show _ = _
     rw [show 2 * (k + 1) = 2 * k + 1 + 1 from by omega, y2 hb, y1 ha]
    clear ca cb eo y1 n1 y2 n2 ha hb
    generalize srt (setOf L) (2 * k) = M at *
    generalize okTo (setOf L) k = o at *
    cases o
    all_goals
     go_wp2_with fail
     refine (unhide CA).mono ?_; rintro e w2 ⟨rfl, hw⟩; have hw' := hw.symm; clear hw; subst hw'
     go_wp2_with fail
     refine (unhide CB).mono ?_; rintro e w2 ⟨rfl, hw⟩; have hw' := hw.symm; clear hw; subst hw'
     go_wp2_with (at_builtin; refine wo.append1 hg hown (by omega) rfl _ _ rfl rfl rfl ?_)
     intro v' w1 R1
     obtain ⟨hown1, hg1⟩ := R1
     have hl1 : (M ++ [(k : Int) + 1]).length ≤ 49 := by simp; omega
     clear hown hg
     generalize M ++ [(k : Int) + 1] = M1 at *
     go_wp2_with (at_builtin; refine wo.append1 hg1 hown1 (by omega) rfl _ _ rfl rfl rfl ?_)
     intro v2 w2 R
     clear hown1 hg1
     go_wp2
     go_roundw
     case rel => exact ⟨k + 1, by omega, by go_num, by rw [unhide EO]; rfl, by rw [unhide E]; exact R.1, R.2⟩
     case measure => simp [intOf]; omega
  ·have hkk : k = 24 := by omega
   subst hkk
   have hi' : ¬ ((24 : Nat) : Int) + 1 ≤ 24 := by omega
   have O := hide hown
   have G := hide hg
   clear hown hg HV
   go_wp2
   go_ret2
   exact ⟨_, rfl, unhide O, unhide G⟩
end Go.Proofs.Ytnlllcgcaddhmaa.srt
