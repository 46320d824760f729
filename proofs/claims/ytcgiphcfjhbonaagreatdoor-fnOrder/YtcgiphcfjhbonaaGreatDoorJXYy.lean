/- What laws.turnedOrder answers at every list of at most 2^20 values: the list the other way round, in memory of its own; no other condition. -/
import Derived.Test.YtcgiphcfjhbonaaGreatDoorJXApp
namespace Go.Proofs.YtcgiphcfjhbonaaGreatDoor.yy
open Go.ChangeShapes Go.WideShapes Go.ChangeAt Go.RowKit
open sl (Sl hide unhide)
open wo (Made)
set_option linter.unusedVariables false
theorem rev_step (L : List Int) (q : Nat) (h : q < L.length) : (L.drop q).reverse = (L.drop (q + 1)).reverse ++ [L.getD q 0] := by
 rw [List.drop_eq_getElem_cons h, List.reverse_cons, show L.getD q 0 = L[q] by simp [h]]
set_option maxHeartbeats 800000 in
theorem turnedOrder (v : Value) (L : List Int) (w : World) (hL : L.length ≤ 1048576) (hv : Sl w v L) :
  Calls Tryz.prog 25 #[v] w fun e w' => ∃ u, e = .returned u ∧ Made w w' u L.reverse := by
 obtain ⟨a, cap, rfl, ha⟩ := hv
 have HA := hide ha
 have st : Hid (Made w (w.alloc (.cells #[] 3)) (.slice (some ⟨w.heap.size, 0, none⟩) 0 0) (L.drop L.length).reverse) := by
  rw [List.drop_length]
  exact app.made_nil w
 clear ha
 go_enter Tryz.func25, Tryz.ntmps25
 go_wp2
 go_loopw [3, 4] (fun u i wr => ∃ j : Nat, j ≤ L.length ∧ i = .int .i64 ((j : Int) - 1) ∧ Hid (Made w wr u (L.drop j).reverse)) (fun _ i _ => (intOf i + 1).toNat)
 case atStart => exact ⟨L.length, Nat.le_refl _, by go_num, st⟩
 case round =>
  obtain ⟨j, hj, rfl, hm⟩ := hrel
  clear st
  by_cases hj0 : 0 < j
  ·obtain ⟨q, rfl⟩ : ∃ q, j = q + 1 := ⟨j - 1, by omega⟩
   rw [show (((q + 1 : Nat) : Int) - 1) = (q : Int) by omega]
   have hql : q < L.length := by omega
   rcases unhide HA with h | ⟨b, off, rfl, hb, hcb⟩
   ·rw [h] at hql
    simp at hql
   ·have c1 : wr.cell? ⟨b, off + q, none⟩ = some (.int .i64 (L.getD q 0)) := (unhide hm).2.cell (hcb q hql) (fun e => by cases e)
    have i1 : (q : Int) < (L.length : Int) := by omega
    have i2 : (0 : Int) ≤ (q : Int) := by omega
    have hM : (L.drop (q + 1)).reverse.length ≤ 4194304 := by rw [List.length_reverse, List.length_drop]; omega
    have HS := hide (rev_step L q hql)
    generalize L.getD q 0 = x at *
    generalize (L.drop (q + 1)).reverse = M at *
    clear hcb HA
    go_wp2_with (at_builtin; refine wo.append1 (unhide hm).2 (unhide hm).1 hM rfl _ _ rfl rfl rfl ?_)
    intro v' w3 R
    have R3 := hide R
    clear R hm
    go_wp2
    go_roundw
    case rel => exact ⟨q, by omega, by go_num, by rw [unhide HS]; exact R3⟩
    case measure => first | (simp [intOf]; done) | (simp [intOf]; omega)
  ·have ej : j = 0 := by omega
   subst ej
   rw [show (((0 : Nat) : Int) - 1) = -1 from rfl]
   rw [List.drop_zero] at hm
   clear HA
   go_wp2
   go_ret
   exact ⟨_, rfl, unhide hm⟩
end Go.Proofs.YtcgiphcfjhbonaaGreatDoor.yy
