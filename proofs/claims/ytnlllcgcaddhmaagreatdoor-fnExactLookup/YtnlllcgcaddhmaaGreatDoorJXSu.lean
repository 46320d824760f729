/- Clauses as words of bits: what setsOf and meetsAll answer at every formula that holds at most 2^20 values; no other condition. -/
import Derived.Test.YtnlllcgcaddhmaaGreatDoorJOn
import Derived.Deep.RegionHeld3
import Derived.Test.YtnlllcgcaddhmaaGreatDoorJOc
namespace Go.Proofs.YtnlllcgcaddhmaaGreatDoor.su
open Go.ChangeShapes Go.WideShapes Go.ChangeAt Go.RowKit
open sl (Sl Own ints hide unhide ret_int ret_bool grown_refl grown_trans grown_drewN below_of of_below)
open css (Sls tot)
open bset (setOf)
set_option linter.unusedVariables false
theorem infoU : (Tryz.prog.info? 153).map (fun i => (i.zero, i.size, i.bytes)) = some (some (.int .u64 0), 1, 8) := by kernel_rfl
def words (S : List Nat) : List Value := S.map fun (s : Nat) => Value.int .u64 (s : Int)
def MadeU (w w1 : World) (v : Value) (S : List Nat) : Prop := w1.ownsRow w.heap.size 153 1 v S.length (words S) ∧ w.grownBy w1 none
theorem appendU {ops : Array Oper} {rest : List Oper} {o : Oper} {a : Act} {Q : Exit → Act → World → Prop} {w wr : World} {v : Value} {S : List Nat} {s : Nat}
  (hm : MadeU w wr v S) (hS : S.length ≤ 4194304) (hgd : o.guard = none) (p x : Operand)
  (ho : o.op = .call { callee := .builtin .append, args := #[p, x], argTypes := #[188, 188] }) (hs : a.eval p = v) (hx : a.eval x = .slice (some ⟨wr.heap.size, 0, none⟩) 1 1)
  (h : ∀ v' w1, MadeU w w1 v' (S ++ [s]) → wpList Tryz.prog ops Q rest (a.put o.dst v') w1) :
  wpList Tryz.prog ops Q (o :: rest) a (wr.alloc (.cells #[.int .u64 (s : Int)] 153)) := by
 obtain ⟨i0, hi, hz0, hz1, hz2⟩ := info_parts infoU
 obtain ⟨hown, hg⟩ := hm
 have hsz := hg.size
 refine wpList_append_own _ hgd p x 188 ho w.heap.size 153 i0 (.int .u64 0) 1 8 Tryz.underlying188 hi hz0 hz1 hz2 rfl (by decide) v S.length (words S) hs (hown.alloc _) ⟨wr.heap.size, 0, none⟩ 1 1 [.int .u64 (s : Int)] hx rfl ?_ ?_ ?_ ?_ ?_ ?_
 ·intro j u hj
  match j, hj with
  | 0, hj => simp at hj; subst hj; simp [Addr.add]
 ·intro u hu
  simp at hu
  subst hu
  rfl
 ·unfold maxLen
  omega
 ·omega
 ·simp
  omega
 ·intro v' w1 hown' hgrow _
  refine h v' w1 ⟨?_, app.grown_app hg hown hgrow⟩
  rw [List.length_append]
  have e : words (S ++ [s]) = words S ++ [.int .u64 (s : Int)] := by simp [words]
  rw [e]
  exact hown'
set_option maxHeartbeats 800000 in
theorem setsOf (v : Value) (LL : List (List Int)) (w : World) (hn : tot LL ≤ 1048576) (hv : Sls w v LL) :
  Calls Tryz.prog 165 #[v] w fun e w' => ∃ u, e = .returned u ∧ MadeU w w' u (LL.map setOf) := by
 have hl := Nat.le_trans (css.tot_len LL) hn
 obtain ⟨a, cap, rfl, ha⟩ := hv
 obtain ⟨i0, hi, hz0, hz1, hz2⟩ := info_parts infoU
 have HA := hide ha
 clear ha
 go_enter Tryz.func165, Tryz.ntmps165
 go_wp2_with (first | (at_make; refine wpList_make_own _ rfl _ _ 188 rfl w.heap.size 153 i0 (.int .u64 0) 1 Tryz.underlying188 hi hz0 hz1 _ _ _ LL.length rfl rfl (by rfl) ?b1 ?b2 ?b3 ?_) | go_in)
 case b1 => rw [hz2]; omega
 case b2 => unfold maxLen; omega
 case b3 => exact Nat.le_refl _
 intro w1 hown hgrow
 have st : Hid (MadeU w w1 _ []) := ⟨hown, hgrow⟩
 clear hown hgrow
 go_wp2
 go_loopw [3, 11] (fun u i wr => ∃ k : Nat, k ≤ LL.length ∧ i = .int .i64 k ∧ Hid (MadeU w wr u ((LL.take k).map setOf))) (fun _ i _ => LL.length - (intOf i).toNat)
 case atStart => exact ⟨0, Nat.zero_le _, rfl, st⟩
 case round =>
  obtain ⟨k, hk, rfl, hm⟩ := hrel
  clear st
  by_cases hlt : k < LL.length
  ·rcases unhide HA with h | ⟨b, off, rfl, hb, hcb⟩
   ·rw [h] at hlt
    simp at hlt
   ·obtain ⟨u, hu, hs⟩ := hcb k hlt
    have hg := (unhide hm).2
    have c1 : wr.cell? ⟨b, off + k, none⟩ = some u := hg.cell hu (fun e => by cases e)
    have hi' : (k : Int) < (LL.length : Int) := by omega
    have hL := Nat.le_trans (css.tot_in LL k) hn
    have hts := css.take_snoc LL k hlt
    have hM : ((LL.take k).map setOf).length ≤ 4194304 := by rw [List.length_map, List.length_take]; omega
    generalize LL.getD k [] = L at *
    have C := hide (bset.litsOf u L wr hL (hs.kept hg (.inl rfl)))
    have HT : Hid ((LL.take (k + 1)).map setOf = (LL.take k).map setOf ++ [setOf L]) := by show _ = _; rw [hts]; simp
    generalize (LL.take k).map setOf = S at *
    clear hcb HA hs hu hg hts
    go_wp2_with fail
    refine (unhide C).mono ?_; rintro e w2 ⟨rfl, hw⟩
    have hw' := hw.symm
    clear hw C
    subst hw'
    go_wp2_with (at_builtin; refine appendU (unhide hm) hM rfl _ _ rfl rfl rfl ?_)
    intro v' w3 m3
    have M3 := hide m3
    clear m3 hm
    go_wp2
    go_roundw
    case rel => exact ⟨k + 1, by omega, by go_num, by rw [unhide HT]; exact unhide M3⟩
    case measure => simp [intOf]; omega
  ·have hi' : ¬ (k : Int) < (LL.length : Int) := by omega
   have e : LL.take k = LL := List.take_of_length_le (by omega)
   rw [e] at hm
   clear HA e
   go_wp2
   go_ret
   exact ⟨_, rfl, unhide hm⟩
end Go.Proofs.YtnlllcgcaddhmaaGreatDoor.su
