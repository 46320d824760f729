/- The opposites of a list: what oppositesOf and l04Opposite answer at every list of at most 2^20 literals. -/
import Derived.Test.YtfhmdpbnnieohaaDoorJXSl
import Derived.Test.YtfhmdpbnnieohaaDoorJPn
namespace Go.Proofs.YtfhmdpbnnieohaaDoor.sp
open Go.ChangeShapes Go.WideShapes Go.ChangeAt Go.RowKit
open lits (okB okB_iff)
open sl (Sl Own ints hide unhide ret_int ret_bool grown_refl grown_trans grown_drewN)
open wo (Made)
set_option linter.unusedVariables false
def negL (L : List Int) : List Int := L.map fun x => -x
theorem neg_snoc (L : List Int) (k : Nat) (h : k < L.length) : negL (L.take (k + 1)) = negL (L.take k) ++ [-(L.getD k 0)] := by
 unfold negL
 rw [List.take_succ_eq_append_getElem h, List.map_append, show L.getD k 0 = L[k] by simp [h]]
 rfl
theorem oppositesOf (v : Value) (L : List Int) (w : World) (hL : L.length ≤ 1048576) (hc : ∀ x ∈ L, okB x = true) (hv : Sl w v L) :
  Calls Tryd.prog 39 #[v] w fun e w' => ∃ r, e = .returned r ∧ Made w w' r (negL L) := by
 obtain ⟨a, cap, rfl, ha⟩ := hv
 obtain ⟨i0, hi, hz0, hz1, hz2⟩ := info_parts sl.info3
 have HA := hide ha
 have HC := hide hc
 clear ha hc
 go_enter Tryd.func39, Tryd.ntmps39
 go_wp2_with (first | (at_make; refine wpList_make_own _ rfl _ _ 30 rfl w.heap.size 3 i0 (.int .i64 0) 1 Tryd.underlying30 hi hz0 hz1 _ _ _ L.length rfl rfl (by rfl) ?b1 ?b2 ?b3 ?_) | go_in)
 case b1 => rw [hz2]; omega
 case b2 => unfold maxLen; omega
 case b3 => exact Nat.le_refl _
 intro w1 hown hgrow
 have start : Hid (Made w w1 _ []) := ⟨hown, hgrow⟩
 clear hown hgrow
 go_wp2
 go_loopw [3, 11] (fun u i wr => ∃ k : Nat, k ≤ L.length ∧ i = .int .i64 k ∧ Hid (Made w wr u (negL (L.take k)))) (fun _ i _ => L.length - (intOf i).toNat)
 case atStart => exact ⟨0, Nat.zero_le _, rfl, start⟩
 case round =>
  obtain ⟨k, hk, rfl, hm⟩ := hrel
  clear start
  by_cases hlt : k < L.length
  ·rcases unhide HA with h | ⟨b, off, rfl, hb, hcb⟩
   ·rw [h] at hlt
    simp at hlt
   ·obtain ⟨hown, hg⟩ := unhide hm
    have c1 : wr.cell? ⟨b, off + k, none⟩ = some (.int .i64 (L.getD k 0)) := hg.cell (hcb k hlt) (fun e => by cases e)
    have hi' : (k : Int) < (L.length : Int) := by omega
    have bd := okB_iff.1 (unhide HC (L.getD k 0) (by rw [show L.getD k 0 = L[k] by simp [hlt]]; exact List.getElem_mem hlt))
    have H := hide (neg_snoc L k hlt)
    have hle : (negL (L.take k)).length ≤ 1048576 := by unfold negL; rw [List.length_map, List.length_take]; omega
    generalize L.getD k 0 = y at *
    generalize negL (L.take k) = M at *
    obtain ⟨b0, b1, b2⟩ := bd
    clear hcb HA HC hm
    go_wp2_with (at_builtin; refine wo.append1 hg hown (by omega) rfl _ _ rfl rfl rfl ?_)
    intro v' w1 R
    have M1 := hide R
    clear R hown hg
    go_wp2
    go_roundw
    case rel => exact ⟨k + 1, by omega, by go_num, by rw [unhide H]; exact M1⟩
    case measure => simp [intOf]; omega
  ·have hi' : ¬ (k : Int) < (L.length : Int) := by omega
   have e : L.take k = L := List.take_of_length_le (by omega)
   rw [e] at hm
   clear HA e
   go_wp2
   go_ret
   exact ⟨_, rfl, unhide hm⟩
theorem l04Opposite (v : Value) (L : List Int) (w : World) (hL : L.length ≤ 1048576) (hc : ∀ x ∈ L, okB x = true) (hv : Sl w v L) :
  Calls Tryd.prog 77 #[v] w fun e w' => ∃ r, e = .returned r ∧ Made w w' r (negL L) := by
 obtain ⟨a, cap, rfl, ha⟩ := hv
 obtain ⟨i0, hi, hz0, hz1, hz2⟩ := info_parts sl.info3
 have HA := hide ha
 have HC := hide hc
 clear ha hc
 have start : Hid (Made w (w.alloc (.cells #[] 3)) (.slice (some ⟨w.heap.size, 0, none⟩) 0 0) []) := app.made_nil w
 go_enter Tryd.func77, Tryd.ntmps77
 go_wp2
 go_loopw [3, 4] (fun u i wr => ∃ k : Nat, k ≤ L.length ∧ i = .int .i64 k ∧ Hid (Made w wr u (negL (L.take k)))) (fun _ i _ => L.length - (intOf i).toNat)
 case atStart => exact ⟨0, Nat.zero_le _, rfl, start⟩
 case round =>
  obtain ⟨k, hk, rfl, hm⟩ := hrel
  clear start
  by_cases hlt : k < L.length
  ·rcases unhide HA with h | ⟨b, off, rfl, hb, hcb⟩
   ·rw [h] at hlt
    simp at hlt
   ·obtain ⟨hown, hg⟩ := unhide hm
    have c1 : wr.cell? ⟨b, off + k, none⟩ = some (.int .i64 (L.getD k 0)) := hg.cell (hcb k hlt) (fun e => by cases e)
    have hi' : (k : Int) < (L.length : Int) := by omega
    have bd := okB_iff.1 (unhide HC (L.getD k 0) (by rw [show L.getD k 0 = L[k] by simp [hlt]]; exact List.getElem_mem hlt))
    have H := hide (neg_snoc L k hlt)
    have hle : (negL (L.take k)).length ≤ 1048576 := by unfold negL; rw [List.length_map, List.length_take]; omega
    generalize L.getD k 0 = y at *
    generalize negL (L.take k) = M at *
    obtain ⟨b0, b1, b2⟩ := bd
    clear hcb HA HC hm
    go_wp2_with (at_builtin; refine wo.append1 hg hown (by omega) rfl _ _ rfl rfl rfl ?_)
    intro v' w1 R
    have M1 := hide R
    clear R hown hg
    go_wp2
    go_roundw
    case rel => exact ⟨k + 1, by omega, by go_num, by rw [unhide H]; exact M1⟩
    case measure => simp [intOf]; omega
  ·have hi' : ¬ (k : Int) < (L.length : Int) := by omega
   have e : L.take k = L := List.take_of_length_le (by omega)
   rw [e] at hm
   clear HA e
   go_wp2
   go_ret
   exact ⟨_, rfl, unhide hm⟩
end Go.Proofs.YtfhmdpbnnieohaaDoor.sp
