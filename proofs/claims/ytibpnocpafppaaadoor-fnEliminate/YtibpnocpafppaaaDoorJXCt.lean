/- What the model's CountTrue and Implies answer at every formula that holds at most 2^20 values; no other condition. -/
import Derived.Test.YtibpnocpafppaaaDoorJXCnt
import Derived.Test.YtibpnocpafppaaaDoorJXApp
import Derived.Deep.RegionHeld3
namespace Go.Proofs.YtibpnocpafppaaaDoor.ct
open Go.ChangeShapes Go.WideShapes Go.ChangeAt Go.RowKit
open sl (Sl Own ints hide unhide ret_int ret_bool grown_refl grown_trans grown_drewN below_of of_below)
open css (Sls OwnS tot)
open cf (Box)
open ok (cnfB)
open tr (cnfT clT)
open wo (Made)
open cnt (cntR asg)
set_option linter.unusedVariables false
attribute [local go_sem ↓] Go.wp_at_zero Go.wp_at_succ
theorem pow_bd {n : Nat} (h : n ≤ 14) : 2 ^ n ≤ 16384 := Nat.pow_le_pow_right (by decide) h
theorem pow2 (n : Nat) (w : World) (h : n ≤ 14) : Calls Tryd.prog 84 #[.int .i64 (n : Int)] w fun e w' => e = .returned (.int .i64 ((2 ^ n : Nat) : Int)) ∧ w' = w := by
 go_enter Tryd.func84, Tryd.ntmps84
 go_wp2
 go_loop [3, 4] (fun x i => ∃ (k q : Nat), k ≤ n ∧ i = .int .i64 k ∧ x = .int .i64 q ∧ q ≤ 16384 ∧ Hid (q = 2 ^ k)) (fun _ i => n - (intOf i).toNat)
 case atStart => exact ⟨0, 1, Nat.zero_le _, rfl, rfl, by decide, rfl⟩
 case round =>
  obtain ⟨k, q, hk, rfl, rfl, hq, he⟩ := hrel
  by_cases hlt : k < n
  ·have hi : (k : Int) < (n : Int) := by omega
   have hb := pow_bd (n := k + 1) (by omega)
   have e2 : Hid (2 * q = 2 ^ (k + 1)) := by show _ = _; rw [Nat.pow_succ, unhide he]; omega
   have hq2 : 2 * q ≤ 16384 := by rw [unhide e2]; exact hb
   clear he hb
   go_wp2
   go_round
   case rel => exact ⟨k + 1, 2 * q, by omega, by go_num, by go_num, hq2, e2⟩
   case measure => simp [intOf]; omega
  ·have hi : ¬ (k : Int) < (n : Int) := by omega
   have hk' : k = n := by omega
   have E := hide (show (q : Int) = ((2 ^ n : Nat) : Int) by rw [unhide he, hk'])
   clear he hk'
   go_wp2
   go_ret
   exact ⟨ret_int (unhide E), rfl⟩
set_option maxHeartbeats 800000 in
theorem assign (n k : Nat) (w : World) (h : n ≤ 14) (hk : k ≤ 16384) : Calls Tryd.prog 85 #[.int .i64 (n : Int), .int .i64 (k : Int)] w fun e w' => ∃ v, e = .returned v ∧ Made w w' v (asg n k []) := by
 have START := hide (app.made_nil w)
 go_enter Tryd.func85, Tryd.ntmps85
 go_wp2
 go_loopw [1, 5, 6] (fun y u i wr => ∃ (m q : Nat) (X : List Int), m ≤ n ∧ i = .int .i64 m ∧ y = .int .i64 q ∧ q ≤ 16384 ∧ X.length = m ∧ Hid (asg n k [] = asg (n - m) q X) ∧ Hid (Made w wr u X)) (fun _ _ i _ => n - (intOf i).toNat)
 case atStart => exact ⟨0, k, [], Nat.zero_le _, rfl, rfl, hk, rfl, rfl, START⟩
 case round =>
  obtain ⟨m, q, X, hm, rfl, rfl, hq, hX, he, hmd⟩ := hrel
  clear START
  by_cases hlt : m < n
  ·have hi : (m : Int) < (n : Int) := by omega
   have e2 : Hid (asg n k [] = asg (n - (m + 1)) (q / 2) (((q % 2 : Nat) : Int) :: X)) := by
    show _ = _
    rw [unhide he, show n - m = (n - (m + 1)) + 1 by omega]
    rfl
   obtain ⟨ua, uc, eu, _⟩ := sl.Sl.of_own (unhide hmd).1
   subst eu
   have g1 := World.grownBy_alloc wr (.cells #[.int .i64 ((q % 2 : Nat) : Int)] 3) none
   have o1 : (wr.alloc (.cells #[.int .i64 ((q % 2 : Nat) : Int)] 3)).ownsRow wr.heap.size 3 1 (.slice (some ⟨wr.heap.size, 0, none⟩) 1 1) 1 (ints [((q % 2 : Nat) : Int)]) := World.ownsRow_lit wr _ 1 (Nat.le_refl _) (by decide) rfl
   have O1 := hide (css.own_mono o1 (unhide hmd).2.size)
   have U1 := hide ((Own.of (unhide hmd).1).kept g1)
   have GW := hide (grown_trans (r := none) (unhide hmd).2 g1)
   have hq1 : ((q : Int).tmod 2) = ((q % 2 : Nat) : Int) := by rw [Int.tmod_eq_emod_of_nonneg (by omega)]; omega
   have hq2 : ((q : Int).tdiv 2) = ((q / 2 : Nat) : Int) := by rw [Int.tdiv_eq_ediv_of_nonneg (by omega)]; omega
   clear he o1 g1
   generalize hz : q % 2 = z at *
   generalize hy : q / 2 = y at *
   have hy' : y ≤ 16384 := by omega
   have z1 : (q : Int) % 2 = (z : Int) := by omega
   have y1 : (q : Int) / 2 = (y : Int) := by omega
   clear hz hy
   go_wp2_with (at_builtin; refine app.appendI (A := [(z : Int)]) (unhide GW) (unhide O1) (unhide U1) (by show 1 + X.length ≤ 4194304; omega) rfl _ _ rfl rfl rfl ?_)
   intro v' w2 m2 g2
   have m2' : Made w w2 v' ((z : Int) :: X) := m2
   have M2 := hide m2'
   clear m2 m2' g2 O1 U1 GW hmd
   go_wp2
   go_roundw
   case rel => exact ⟨m + 1, y, (z : Int) :: X, by omega, by go_num, by go_num, hy', by rw [List.length_cons, hX], e2, M2⟩
   case measure => simp [intOf]; omega
  ·have hi : ¬ (m : Int) < (n : Int) := by omega
   have E : Hid (asg n k [] = X) := by show _ = _; rw [unhide he, show n - m = 0 by omega]; rfl
   clear he
   go_wp2
   go_ret
   exact ⟨_, rfl, by rw [unhide E]; exact unhide hmd⟩
theorem cntR_le (m : Nat) (g : Nat → Bool) : cntR m g ≤ m := by
 unfold cnt.cntR
 have := List.length_filter_le g (List.range m)
 rwa [List.length_range] at this
def countN (m : Nat) (LL : List (List Int)) : Nat := cntR (2 ^ m) (fun k => cnfT (asg m k []) LL)
def countI (n : Int) (LL : List (List Int)) : Int := if cnfB n LL && decide (n ≤ 14) then (countN n.toNat LL : Int) else -1
end Go.Proofs.YtibpnocpafppaaaDoor.ct
