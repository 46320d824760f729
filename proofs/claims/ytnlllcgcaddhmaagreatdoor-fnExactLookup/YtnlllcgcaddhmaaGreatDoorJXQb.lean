/- What MachineOk (of the program and of its model) answers at every machine that holds at most 2^20 values; no other condition. -/
import Derived.Test.YtnlllcgcaddhmaaGreatDoorJXQm
import Derived.Test.YtnlllcgcaddhmaaGreatDoorJXQa
import Derived.Test.YtnlllcgcaddhmaaGreatDoorJOn
namespace Go.Proofs.YtnlllcgcaddhmaaGreatDoor.qb
open Go.ChangeShapes Go.WideShapes Go.ChangeAt Go.RowKit
open qm (turnB machB)
open qa (Box5)
open ok (cnfB)
open lits (varI okB okB_iff)
open css (Sls tot)
open sl (Sl Own ints hide unhide ret_int ret_bool grown_refl grown_trans)
set_option linter.unusedVariables false
theorem turn_hit {P : List Int} {i : Nat} (hi : i < P.length) (h : ¬ (P.getD i 0 = (i : Int) + 1 ∨ P.getD i 0 = -(i : Int) - 1)) : turnB P = false := decide_eq_false fun q => h (q i hi)
theorem turn_end {P : List Int} {k : Nat} (hk : ¬ k < P.length) (h : ∀ i, i < k → P.getD i 0 = (i : Int) + 1 ∨ P.getD i 0 = -(i : Int) - 1) : turnB P = true := decide_eq_true fun i hi => h i (by omega)
theorem var_at {x : Int} {i : Nat} (h24 : i < 24) : (varI x = (i : Int) + 1) ↔ (x = (i : Int) + 1 ∨ x = -(i : Int) - 1) := by
 by_cases hx : okB x = true
 ·rw [lits.varI_yes (okB_iff.1 hx)]
  split <;> omega
 ·have : varI x = 0 := by unfold lits.varI; rw [if_neg hx]
  rw [this]
  constructor
  ·omega
  ·intro h
   refine absurd (okB_iff.2 ?_) hx
   omega
set_option maxHeartbeats 1000000 in
theorem inTurn (v : Value) (P : List Int) (w : World) (h24 : P.length ≤ 24) (hv : Sl w v P) :
  Calls Tryz.prog 157 #[v] w fun e w' => e = .returned (.bool (turnB P)) ∧ w' = w := by
 obtain ⟨a, cap, rfl, ha⟩ := hv
 have HA := hide ha
 clear ha
 go_enter Tryz.func157, Tryz.ntmps157
 go_wp2
 go_loop [7] (fun i => ∃ k : Nat, k ≤ P.length ∧ i = .int .i64 k ∧ Hid (∀ i, i < k → P.getD i 0 = (i : Int) + 1 ∨ P.getD i 0 = -(i : Int) - 1)) (fun i => P.length - (intOf i).toNat)
 case atStart => exact ⟨0, Nat.zero_le _, rfl, fun i hi => absurd hi (Nat.not_lt_zero _)⟩
 case round =>
  obtain ⟨k, hk, rfl, hall⟩ := hrel
  by_cases hlt : k < P.length
  ·rcases unhide HA with h | ⟨b, off, rfl, hb, hcb⟩
   ·rw [h] at hlt
    simp at hlt
   ·have c1 := hcb k hlt
    have hi' : (k : Int) < (P.length : Int) := by omega
    have va := var_at (x := P.getD k 0) (i := k) (by omega)
    have th := turn_hit hlt
    have NX : Hid ((P.getD k 0 = (k : Int) + 1 ∨ P.getD k 0 = -(k : Int) - 1) → ∀ i, i < k + 1 → P.getD i 0 = (i : Int) + 1 ∨ P.getD i 0 = -(i : Int) - 1) := fun h i hi => by
     by_cases e : i = k
     ·rw [e]; exact h
     ·exact unhide hall i (by omega)
    generalize P.getD k 0 = x at *
    have CV := hide (lits.implLitVar x w)
    by_cases hx : varI x = (k : Int) + 1
    ·have R := hide (unhide NX (va.1 hx))
     rw [hx] at CV
     have hne : ¬ ((k : Int) + 1 ≠ (k : Int) + 1) := by omega
     clear hcb hall HA th va hx NX
     go_wp2_with fail
     refine (unhide CV).mono ?_; rintro e w' ⟨rfl, hw⟩; have hw' := hw.symm; clear hw; subst hw'
     go_wp2_with fail
     go_round
     case rel => exact ⟨k + 1, by omega, by go_num, R⟩
     case measure => simp [intOf]; omega
    ·have R := hide (th (fun q => hx (va.2 q)))
     have hne : (varI x != (k : Int) + 1) = true := by simpa using hx
     clear hcb hall HA th va NX
     generalize varI x = y at *
     go_wp2_with fail
     refine (unhide CV).mono ?_; rintro e w' ⟨rfl, hw⟩; have hw' := hw.symm; clear hw; subst hw'
     go_wp2_with fail
     go_ret
     exact ⟨ret_bool (unhide R).symm, rfl⟩
  ·have hi' : ¬ (k : Int) < (P.length : Int) := by omega
   have R := hide (turn_end hlt (unhide hall))
   clear HA hall
   go_wp2_with fail
   go_ret
   exact ⟨ret_bool (unhide R).symm, rfl⟩
theorem cnf24 {n : Int} {LL : List (List Int)} (h : cnfB n LL = true) : 0 ≤ n ∧ n ≤ 24 := by
 unfold ok.cnfB at h
 simp only [Bool.and_eq_true, decide_eq_true_iff] at h
 exact h.1.1
theorem mach_cnf {n st k : Int} {LL : List (List Int)} {P : List Int} (h : cnfB n LL = false) : machB n LL P st k = false := by unfold qm.machB; rw [h]; rfl
theorem mach_len {n st k : Int} {LL : List (List Int)} {P : List Int} (h : n < (P.length : Int)) : machB n LL P st k = false := by
 unfold qm.machB
 rw [decide_eq_false (p := (P.length : Int) ≤ n) (by omega), Bool.and_false]
 rfl
theorem mach_turn {n st k : Int} {LL : List (List Int)} {P : List Int} (h : turnB P = false) : machB n LL P st k = false := by unfold qm.machB; rw [h, Bool.and_false]; rfl
theorem mach_k {n st k : Int} {LL : List (List Int)} {P : List Int} (h : ¬ (0 ≤ k ∧ k ≤ 1000000000)) : machB n LL P st k = false := by unfold qm.machB; rw [decide_eq_false h, Bool.and_false]; rfl
theorem mach_st {n st k : Int} {LL : List (List Int)} {P : List Int} (hc : cnfB n LL = true) (hl : ¬ n < (P.length : Int)) (ht : turnB P = true) (hk : 0 ≤ k ∧ k ≤ 1000000000) : machB n LL P st k = (decide (st = 0) || (decide (st = 1) && decide ((P.length : Int) = n)) || (decide (st = 2) && decide (P.length = 0))) := by
 unfold qm.machB
 rw [hc, ht, decide_eq_true hk, decide_eq_true (p := (P.length : Int) ≤ n) (by omega)]
 rfl
set_option maxRecDepth 100000 in
set_option maxHeartbeats 4000000 in
theorem implMachineOk (v q : Value) (n st k : Int) (LL : List (List Int)) (P : List Int) (w : World) (hn : tot LL ≤ 1048576) (hP : P.length ≤ 1048576) (hv : Sls w v LL) (hq : Sl w q P) :
  Calls Tryz.prog 120 #[.agg #[.int .i64 n, v, q, .int .i64 st, .int .i64 k]] w fun e w' => e = .returned (.bool (machB n LL P st k)) ∧ w.grownBy w' none := by
 have g0 := World.grownBy_alloc w (.cells #[.int .i64 n, v, q, .int .i64 st, .int .i64 k] 106) none
 have C := hide (ok.implCnfOk v n LL _ hn (hv.kept g0))
 have B := hide (Box5.new 106 w (.int .i64 n) v q (.int .i64 st) (.int .i64 k))
 have G := hide g0
 have D := hide (fun w1 (g : w.grownBy w1 none) (h24 : P.length ≤ 24) => inTurn q P w1 h24 (hq.kept g (.inl rfl)))
 obtain ⟨qa, qc, rfl, _⟩ := hq
 clear hv g0
 cases hc : cnfB n LL
 ·rw [hc] at C
  have R := hide (mach_cnf (P := P) (st := st) (k := k) hc)
  clear hc D
  go_enter Tryz.func120, Tryz.ntmps120
  go_wp2_with fail
  refine (unhide C).mono ?_; rintro e w1 ⟨rfl, g1⟩
  have G1 := hide (grown_trans (r := none) (unhide G) g1)
  clear g1 G C B
  go_wp2_with fail
  go_ret
  exact ⟨ret_bool (unhide R).symm, unhide G1⟩
 ·rw [hc] at C
  by_cases hl : n < (P.length : Int)
  ·have R := hide (mach_len (LL := LL) (st := st) (k := k) hl)
   clear hc D
   go_enter Tryz.func120, Tryz.ntmps120
   go_wp2_with fail
   refine (unhide C).mono ?_; rintro e w1 ⟨rfl, g1⟩
   have G1 := hide (grown_trans (r := none) (unhide G) g1)
   have x0 := ((unhide B).kept g1).c0
   have x2 := ((unhide B).kept g1).c2
   clear g1 G C B
   go_wp2_with fail
   go_ret
   exact ⟨ret_bool (unhide R).symm, unhide G1⟩
  ·have h24 := cnf24 hc
   have hp24 : P.length ≤ 24 := by omega
   cases ht : turnB P
   ·rw [ht] at D
    have R := hide (mach_turn (n := n) (LL := LL) (st := st) (k := k) ht)
    clear hc ht h24
    go_enter Tryz.func120, Tryz.ntmps120
    go_wp2_with fail
    refine (unhide C).mono ?_; rintro e w1 ⟨rfl, g1⟩
    have G1 := hide (grown_trans (r := none) (unhide G) g1)
    have x0 := ((unhide B).kept g1).c0
    have x2 := ((unhide B).kept g1).c2
    clear g1 G C B
    go_wp2_with fail
    refine (unhide D w1 (unhide G1) hp24).mono ?_; rintro e w' ⟨rfl, hw⟩; have hw' := hw.symm; clear hw; subst hw'
    go_wp2_with fail
    go_ret
    exact ⟨ret_bool (unhide R).symm, unhide G1⟩
   ·rw [ht] at D
    have hst := mach_st (st := st) (k := k) hc hl ht
    have hkn := mach_k (n := n) (st := st) (k := k) (LL := LL) (P := P)
    clear hc ht h24
    go_enter Tryz.func120, Tryz.ntmps120
    go_wp2_with fail
    refine (unhide C).mono ?_; rintro e w1 ⟨rfl, g1⟩
    have G1 := hide (grown_trans (r := none) (unhide G) g1)
    have x0 := ((unhide B).kept g1).c0
    have x2 := ((unhide B).kept g1).c2
    have x3 := ((unhide B).kept g1).c3
    have x4 := ((unhide B).kept g1).c4
    have HS := hide hst
    have HK := hide hkn
    clear g1 G C B hst hkn
    go_wp2_with fail
    refine (unhide D w1 (unhide G1) hp24).mono ?_; rintro e w' ⟨rfl, hw⟩; have hw' := hw.symm; clear hw; subst hw'
    by_cases hk0 : k < 0
    ·have R := hide (unhide HK (by omega))
     clear HS HK D
     go_wp2_with fail
     go_ret
     exact ⟨ret_bool (unhide R).symm, unhide G1⟩
    ·by_cases hk1 : k > 1000000000
     ·have R := hide (unhide HK (by omega))
      clear HS HK D
      go_wp2_with fail
      go_ret
      exact ⟨ret_bool (unhide R).symm, unhide G1⟩
     ·have R := hide (unhide HS (by omega))
      clear HS HK D
      by_cases s0 : st = 0
      ·subst s0
       go_wp2_with fail
       go_ret
       exact ⟨ret_bool (unhide R).symm, unhide G1⟩
      ·by_cases s1 : st = 1
       ·subst s1
        go_wp2_with fail
        go_ret
        exact ⟨ret_bool (by rw [unhide R, Bool.eq_iff_iff]; simp), unhide G1⟩
       ·by_cases s2 : st = 2
        ·subst s2
         go_wp2_with fail
         go_ret
         exact ⟨ret_bool (by rw [unhide R, Bool.eq_iff_iff]; simp), unhide G1⟩
        ·go_wp2_with fail
         go_ret
         exact ⟨ret_bool (by rw [unhide R]; simp [s0, s1, s2]), unhide G1⟩
end Go.Proofs.YtnlllcgcaddhmaaGreatDoor.qb
