/- The literals that are true at an assignment: what trueLiterals and l03Lits answer at every list of at most 2^20 numbers. -/
import Derived.Test.YtcgiphcfjhbonaaGreatDoorJXSl
import Derived.Test.YtcgiphcfjhbonaaGreatDoorJXApp
namespace Go.Proofs.YtcgiphcfjhbonaaGreatDoor.as_
open Go.ChangeShapes Go.WideShapes Go.ChangeAt Go.RowKit
open sl (Sl Own ints hide unhide ret_int ret_bool grown_refl grown_trans grown_drewN below_of of_below)
open wo (Made)
set_option linter.unusedVariables false
def litAt (i : Nat) (x : Int) : Int := if x = 1 then (i : Int) + 1 else -(i : Int) - 1
def tl : Nat → List Int → List Int
 | _, [] => []
 | k, x :: l => litAt k x :: tl (k + 1) l
theorem tl_snoc (l : List Int) : ∀ (k : Nat) (x : Int), tl k (l ++ [x]) = tl k l ++ [litAt (k + l.length) x] := by
 induction l with
 | nil => intro k x; rfl
 | cons y l ih =>
  intro k x
  rw [List.cons_append, tl, ih, tl, List.length_cons, show k + 1 + l.length = k + (l.length + 1) by omega]
  rfl
theorem tl_len (l : List Int) : ∀ k, (tl k l).length = l.length := by
 induction l with
 | nil => intro k; rfl
 | cons y l ih => intro k; rw [tl, List.length_cons, ih, List.length_cons]
theorem tl_step (A : List Int) (k : Nat) (h : k < A.length) : tl 0 (A.take (k + 1)) = tl 0 (A.take k) ++ [litAt k (A.getD k 0)] := by
 rw [List.take_succ_eq_append_getElem h, tl_snoc, List.length_take, show A.getD k 0 = A[k] by simp [h], show 0 + min k A.length = k by omega]
set_option maxHeartbeats 800000 in
theorem trueLiterals (v : Value) (A : List Int) (w : World) (hL : A.length ≤ 1048576) (hv : Sl w v A) :
  Calls Tryz.prog 265 #[v] w fun e w' => ∃ u, e = .returned u ∧ Made w w' u (tl 0 A) := by
 obtain ⟨a, cap, rfl, ha⟩ := hv
 obtain ⟨i0, hi, hz0, hz1, hz2⟩ := info_parts sl.info3
 have HA := hide ha
 clear ha
 go_enter Tryz.func265, Tryz.ntmps265
 go_wp2_with (first | (at_make; refine wpList_make_own _ rfl _ _ 43 rfl w.heap.size 3 i0 (.int .i64 0) 1 Tryz.underlying43 hi hz0 hz1 _ _ _ A.length rfl rfl (by rfl) ?b1 ?b2 ?b3 ?_) | go_in)
 case b1 => rw [hz2]; omega
 case b2 => unfold maxLen; omega
 case b3 => exact Nat.le_refl _
 intro w1 hown hgrow
 have st : Hid (Made w w1 _ []) := ⟨hown, hgrow⟩
 clear hown hgrow
 go_wp2
 go_loopw [3, 11] (fun u i wr => ∃ k : Nat, k ≤ A.length ∧ i = .int .i64 k ∧ Hid (Made w wr u (tl 0 (A.take k)))) (fun _ i _ => A.length - (intOf i).toNat)
 case atStart => exact ⟨0, Nat.zero_le _, rfl, st⟩
 case round =>
  obtain ⟨k, hk, rfl, hm⟩ := hrel
  clear st
  by_cases hlt : k < A.length
  ·rcases unhide HA with h | ⟨b, off, rfl, hb, hcb⟩
   ·rw [h] at hlt
    simp at hlt
   ·have c1 : wr.cell? ⟨b, off + k, none⟩ = some (.int .i64 (A.getD k 0)) := (unhide hm).2.cell (hcb k hlt) (fun e => by cases e)
    have hi' : (k : Int) < (A.length : Int) := by omega
    have hs := tl_step A k hlt
    have hM : (tl 0 (A.take k)).length ≤ 4194304 := by rw [tl_len, List.length_take]; omega
    generalize A.getD k 0 = x at *
    generalize tl 0 (A.take k) = M at *
    clear hcb HA
    by_cases hx : x = 1
    ·subst hx
     have HS := hide (show tl 0 (A.take (k + 1)) = M ++ [(k : Int) + 1] from hs)
     clear hs
     go_wp2_with (at_builtin; refine wo.append1 (unhide hm).2 (unhide hm).1 hM rfl _ _ rfl rfl rfl ?_)
     intro v' w3 R
     have R3 := hide R
     clear R hm
     go_wp2
     go_roundw
     case rel => exact ⟨k + 1, by omega, by go_num, by rw [unhide HS]; exact R3⟩
     case measure => simp [intOf]; omega
    ·have hx' : (x == 1) = false := beq_eq_false_iff_ne.2 hx
     have HS := hide (show tl 0 (A.take (k + 1)) = M ++ [-(k : Int) - 1] by rw [hs]; unfold litAt; rw [if_neg hx])
     clear hs hx
     go_wp2_with (at_builtin; refine wo.append1 (unhide hm).2 (unhide hm).1 hM rfl _ _ rfl rfl rfl ?_)
     intro v' w3 R
     have R3 := hide R
     clear R hm
     go_wp2
     go_roundw
     case rel => exact ⟨k + 1, by omega, by go_num, by rw [unhide HS]; exact R3⟩
     case measure => simp [intOf]; omega
  ·have hi' : ¬ (k : Int) < (A.length : Int) := by omega
   have e : A.take k = A := List.take_of_length_le (by omega)
   rw [e] at hm
   clear HA e
   go_wp2
   go_ret
   exact ⟨_, rfl, unhide hm⟩
end Go.Proofs.YtcgiphcfjhbonaaGreatDoor.as_
