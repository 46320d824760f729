/- What Horn (of the program and of its model) answers at every formula that holds at most 2^20 values; no other condition. -/
import Derived.Test.YtibpnocpafppaaaDoorJXGc
namespace Go.Proofs.YtibpnocpafppaaaDoor.gc
open Go.ChangeShapes Go.WideShapes Go.ChangeAt Go.RowKit
open sl (Sl Own ints hide unhide ret_int ret_bool grown_refl grown_trans grown_drewN)
open css (Sls OwnS tot)
open cf (Box)
open ok (cnfB all_hit all_step all_end)
open cls (hasB)
open wo (Made)
open gb (Rd Kpt flt KeptE)
set_option linter.unusedVariables false
theorem mkI (n : Nat) (hn : n ≤ 1048576) (w : World) : (Instr.makeSlice 31 (.int .i64 0) (.int .i64 (n : Int))).run Tryd.prog w = .ok (.slice (some ⟨w.heap.size, 0, none⟩) 0 n) (w.alloc (.cells (madeCells #[.int .i64 0] n) 3)) := by
 obtain ⟨i0, hi, hz0, hz1, hz2⟩ := info_parts sl.info3
 have hr := run_make (P := Tryd.prog) w 31 3 i0 (.int .i64 0) Tryd.underlying31 hi hz0 .i64 .i64 0 n (by decide) (by omega) (by rw [hz2]; omega) (by omega)
 rw [hz1, Nat.mul_one] at hr
 exact hr
theorem madeI (w : World) (n : Nat) (hn : n ≤ 1048576) : Made w (w.alloc (.cells (madeCells #[.int .i64 0] n) 3)) (.slice (some ⟨w.heap.size, 0, none⟩) 0 n) [] :=
 ⟨World.ownsRow_made w _ n (Nat.le_refl _) (by unfold maxLen; omega) (by rw [size_madeCells, Nat.mul_one]), World.grownBy_alloc _ _ _⟩
def posL (C : List Int) : List Int := C.filter fun x => decide (0 < x)
theorem posL_yes (C : List Int) (k : Nat) (h : k < C.length) (e : 0 < C.getD k 0) : posL (C.take (k + 1)) = posL (C.take k) ++ [C.getD k 0] := by
 unfold posL
 rw [show C.getD k 0 = C[k] by simp [h]] at *
 rw [List.take_succ_eq_append_getElem h, List.filter_append]
 simp [e]
theorem posL_no (C : List Int) (k : Nat) (h : k < C.length) (e : ¬ 0 < C.getD k 0) : posL (C.take (k + 1)) = posL (C.take k) := by
 unfold posL
 rw [show C.getD k 0 = C[k] by simp [h]] at *
 rw [List.take_succ_eq_append_getElem h, List.filter_append]
 simp [e]
theorem posL_len (C : List Int) (k : Nat) : (posL (C.take k)).length ≤ k := by
 have := List.length_filter_le (fun x : Int => decide (0 < x)) (C.take k)
 rw [List.length_take] at this
 unfold posL
 omega
theorem made_form {w w1 : World} {v : Value} {L : List Int} (h : Made w w1 v L) : ∃ a cap, v = .slice a L.length cap := by
 obtain ⟨a, cap, e, _⟩ := Sl.of_own h.1
 exact ⟨a, cap, e⟩
def LenE (o : Nat) (w : World) (e : Ending) (w' : World) : Prop := ∃ a cap, e = .returned (.slice a o cap) ∧ w.grownBy w' none
theorem keptPos (v : Value) (L : List Int) (w : World) (hL : L.length ≤ 1048576) (hv : Sl w v L) :
  Calls Tryd.prog 143 #[v, .func (.func 144) #[] #[]] w fun e w' => LenE (posN L) w e w' := by
 obtain ⟨a, cap, rfl, ha⟩ := hv
 have HA := hide ha
 have hmk := mkI L.length hL
 have K0 := hide (madeI w L.length hL)
 clear ha
 go_enter Tryd.func143, Tryd.ntmps143
 go_wp2_with fail
 go_loopw [5, 13] (fun u i wr => ∃ k : Nat, k ≤ L.length ∧ i = .int .i64 k ∧ Hid (Made w wr u (posL (L.take k)))) (fun _ i _ => L.length - (intOf i).toNat)
 case atStart => exact ⟨0, Nat.zero_le _, rfl, by show Made _ _ _ _; rw [List.take_zero]; exact unhide K0⟩
 case round =>
  obtain ⟨k, hk, rfl, hkp⟩ := hrel
  clear hmk K0
  by_cases hlt : k < L.length
  ·rcases unhide HA with h | ⟨b, off, rfl, hb, hcb⟩
   ·rw [h] at hlt
    simp at hlt
   ·have g1 := (unhide hkp).2
    have c2 := g1.cell (hcb k hlt) (fun e => by cases e)
    have hi' : (k : Int) < (L.length : Int) := by omega
    have h1 := posL_yes L k hlt
    have h2 := posL_no L k hlt
    have h3 := posL_len L k
    have hkp' := unhide hkp
    obtain ⟨oa, oc, rfl⟩ := made_form hkp'
    generalize posL (L.take k) = M at *
    generalize L.getD k 0 = x at *
    have KP := hide hkp'
    clear hcb HA hkp hkp' g1
    by_cases hx : 0 < x
    ·have H := hide (h1 hx)
     have hM : M.length ≤ 4194304 := by omega
     clear h1 h2
     go_wp2_with (first | (at_builtin; refine wo.append1 (unhide KP).2 (unhide KP).1 hM rfl _ _ rfl rfl rfl ?_) | go_in)
     intro v3 w3 k3
     obtain ⟨pa, pc, rfl⟩ := made_form k3
     have K3 := hide k3
     clear k3
     go_wp2_with fail
     go_roundw
     case rel => exact ⟨k + 1, by omega, by go_num, by show Made _ _ _ _; rw [unhide H]; exact unhide K3⟩
     case measure => simp [intOf]; omega
    ·have H := hide (h2 hx)
     clear h1 h2
     go_wp2_with go_in
     go_roundw
     case rel => exact ⟨k + 1, by omega, by go_num, by show Made _ _ _ _; rw [unhide H]; exact unhide KP⟩
     case measure => simp [intOf]; omega
  ·have hi' : ¬ (k : Int) < (L.length : Int) := by omega
   have e1 : L.take k = L := List.take_of_length_le (by omega)
   rw [e1] at hkp
   obtain ⟨oa, oc, rfl⟩ := made_form (unhide hkp)
   clear HA e1
   go_wp2_with fail
   go_ret
   exact ⟨_, _, rfl, (unhide hkp).2⟩
def manyB (C : List Int) : Bool := decide (1 < posN C)
theorem many (v : Value) (L : List Int) (w : World) (hL : L.length ≤ 1048576) (hv : Sl w v L) :
  Calls Tryd.prog 99 #[v] w fun e w' => e = .returned (.bool (manyB L)) ∧ w.grownBy w' none := by
 have C := hide (keptPos v L w hL hv)
 have hp := Nat.le_trans (pos_le L) hL
 obtain ⟨a, cap, rfl, _⟩ := hv
 have E := hide (show manyB L = decide ((1 : Int) < (posN L : Int)) by unfold manyB; exact decide_eq_decide.2 (by omega))
 generalize posN L = o at *
 go_enter Tryd.func99, Tryd.ntmps99
 go_wp2_with fail
 refine (unhide C).mono ?_; rintro e w2 ⟨ka, kc, rfl, g2⟩
 have G2 := hide g2
 clear g2 C
 go_wp2_with fail
 go_ret
 exact ⟨ret_bool (unhide E).symm, unhide G2⟩
theorem keptMany (v : Value) (LL : List (List Int)) (w : World) (hn : tot LL ≤ 1048576) (hv : Sls w v LL) :
  Calls Tryd.prog 51 #[v, .func (.func 99) #[] #[]] w fun e w' => ∃ a cap, e = .returned (.slice a (LL.filter manyB).length cap) ∧ w.grownBy w' none := by
 obtain ⟨D, rfl, hr⟩ := Rd.of hv
 have hl := Nat.le_trans (css.tot_len _) hn
 rw [List.length_map] at hl
 refine (gb.kept_many v D manyB w hl hr ?_).mono ?_
 ·intro p hp w1 g1
  obtain ⟨i, hi, e⟩ := List.getElem_of_mem hp
  have hL : p.2.length ≤ 1048576 := by
   have h := Nat.le_trans (css.tot_in (D.map (·.2)) i) hn
   rw [css.map2_getD hi, e] at h
   exact h
  obtain ⟨a, cap, e, _, hs⟩ := hr
  exact many p.1 p.2 w1 hL ((hs p hp).kept g1 (.inl rfl))
 ·rintro e w' ⟨u, rfl, hk⟩
  obtain ⟨a, cap, rfl⟩ := hk.len
  refine ⟨a, cap, ?_, hk.2⟩
  rw [← gb.flt_map, List.length_map]
theorem horn_filter (LL : List (List Int)) : decide ((LL.filter manyB).length = 0) = LL.all oneB := by
 rw [Bool.eq_iff_iff, decide_eq_true_iff, List.length_eq_zero_iff, List.filter_eq_nil_iff, List.all_eq_true]
 constructor
 ·intro h C hC
  have := h C hC
  simp [manyB] at this
  simp [oneB]
  omega
 ·intro h C hC
  have := h C hC
  simp [oneB] at this
  simp [manyB]
  omega
theorem implHorn (v : Value) (n : Int) (LL : List (List Int)) (w : World) (hn : tot LL ≤ 1048576) (hv : Sls w v LL) :
  Calls Tryd.prog 35 #[.agg #[.int .i64 n, v]] w fun e w' => e = .returned (.bool (hornB n LL)) ∧ w.grownBy w' none := by
 have hv0 := hv
 obtain ⟨a, cap, rfl, _⟩ := hv
 have g0 := World.grownBy_alloc w (.cells #[.int .i64 n, .slice a LL.length cap] 26) none
 have C := hide (ok.implCnfOk _ n LL _ hn (hv0.kept g0))
 have hl := Nat.le_trans (css.tot_len LL) hn
 have hol := Nat.le_trans (List.length_filter_le manyB LL) hl
 have G0 := hide g0
 have bx := hide (cf.Box.new 26 w (.int .i64 n) (.slice a LL.length cap))
 have HV := hide hv0
 clear g0 hv0
 go_enter Tryd.func35, Tryd.ntmps35
 go_wp2_with fail
 refine (unhide C).mono ?_; rintro e w1 ⟨rfl, g1⟩
 have G1 := hide (grown_trans (r := none) (unhide G0) g1)
 have bx1 := (unhide bx).kept g1
 have x0 := bx1.c0
 have x1 := bx1.c1
 have K1 := hide (keptMany _ LL w1 hn ((unhide HV).kept (unhide G1)))
 clear C g1 bx bx1
 cases hb : cnfB n LL
 ·have E := hide (show hornB n LL = false by simp [hornB, hb])
  clear hb
  go_wp2_with fail
  go_ret
  exact ⟨ret_bool (unhide E).symm, unhide G1⟩
 ·have E := hide (show hornB n LL = decide ((LL.filter manyB).length = 0) by rw [horn_filter]; simp [hornB, hb])
  clear hb HV G0
  generalize (LL.filter manyB).length = o at *
  go_wp2_with fail
  refine (unhide K1).mono ?_; rintro e w2 ⟨ka, kc, rfl, g2⟩
  have G2 := hide (grown_trans (r := none) (unhide G1) g2)
  clear g2 K1
  go_wp2_with fail
  go_ret
  exact ⟨ret_bool (by rw [unhide E, Bool.eq_iff_iff]; simp), unhide G2⟩
theorem specHorn (v : Value) (n : Int) (LL : List (List Int)) (w : World) (hn : tot LL ≤ 1048576) (hv : Sls w v LL) :
  Calls Tryd.prog 36 #[.agg #[.int .i64 n, v]] w fun e w' => e = .returned (.bool (hornB n LL)) ∧ w.grownBy w' none := by
 have hv0 := hv
 obtain ⟨a, cap, rfl, _⟩ := hv
 have g0 := World.grownBy_alloc w (.cells #[.int .i64 n, .slice a LL.length cap] 26) none
 have C := hide (ok.specCnfOk _ n LL _ hn (hv0.kept g0))
 have hl := Nat.le_trans (css.tot_len LL) hn
 have G0 := hide g0
 have bx := hide (cf.Box.new 26 w (.int .i64 n) (.slice a LL.length cap))
 have HV := hide hv0
 clear g0 hv0
 go_enter Tryd.func36, Tryd.ntmps36
 go_wp2_with fail
 refine (unhide C).mono ?_; rintro e w1 ⟨rfl, g1⟩
 have G1 := hide (grown_trans (r := none) (unhide G0) g1)
 have bx1 := (unhide bx).kept g1
 have x0 := bx1.c0
 have x1 := bx1.c1
 clear C g1 bx bx1
 cases hb : cnfB n LL
 ·have E := hide (show hornB n LL = false by simp [hornB, hb])
  clear hb
  go_wp2_with fail
  go_ret
  exact ⟨ret_bool (unhide E).symm, unhide G1⟩
 ·have E := hide (show hornB n LL = LL.all oneB by simp [hornB, hb])
  obtain ⟨a', cap', e', ha⟩ := (unhide HV).kept (unhide G1)
  cases e'
  have HA := hide ha
  clear hb ha HV G0
  go_wp2_with fail
  go_loop [3] (fun i => ∃ k : Nat, k ≤ LL.length ∧ i = .int .i64 k ∧ Hid ((LL.take k).all oneB = true)) (fun i => LL.length - (intOf i).toNat)
  case atStart => exact ⟨0, Nat.zero_le _, rfl, by show _ = _; simp⟩
  case round =>
   obtain ⟨k, hk, rfl, hall⟩ := hrel
   by_cases hlt : k < LL.length
   ·rcases unhide HA with h | ⟨b, off, rfl, hb, hcb⟩
    ·rw [h] at hlt
     simp at hlt
    ·obtain ⟨u, c1, hs⟩ := hcb k hlt
     have hi' : (k : Int) < (LL.length : Int) := by omega
     have h1 := all_hit oneB LL k [] hlt
     have h2 := all_step oneB LL k [] hlt (unhide hall)
     have hL := Nat.le_trans (css.tot_in LL k) hn
     generalize LL.getD k [] = L at *
     obtain ⟨ua, uc, rfl, hu⟩ := hs
     have H1 := hide h1
     have H2 := hide h2
     have HU := hide hu
     clear hcb HA hall h1 h2 hu
     go_wp2_with fail
     go_loop [4, 5] (fun c i => ∃ m j : Nat, j ≤ L.length ∧ m ≤ j ∧ c = .int .i64 (m : Int) ∧ i = .int .i64 j ∧ Hid (posN (L.take j) = m)) (fun c i => L.length - (intOf i).toNat)
     case atStart => exact ⟨0, 0, Nat.zero_le _, Nat.zero_le _, rfl, rfl, by show _ = _; simp [posN]⟩
     case round =>
      obtain ⟨m, j, hj, hm, rfl, rfl, hp⟩ := hrel
      by_cases hjl : j < L.length
      ·rcases unhide HU with h | ⟨ub, uo, rfl, hub, huc⟩
       ·rw [h] at hjl
        simp at hjl
       ·have c2 := huc j hjl
        have hj' : (j : Int) < (L.length : Int) := by omega
        have s1 := pos_step L j hjl
        rw [unhide hp] at s1
        generalize L.getD j 0 = x at *
        clear huc HU hp
        by_cases hx : 0 < x
        ·have H := hide (s1.trans (by rw [if_pos hx]))
         clear s1
         go_wp2_with fail
         go_round
         case rel => exact ⟨m + 1, j + 1, by omega, by omega, by go_num, by go_num, H⟩
         case measure => simp [intOf]; omega
        ·have H := hide (s1.trans (by rw [if_neg hx]))
         clear s1
         go_wp2_with fail
         go_round
         case rel => exact ⟨m, j + 1, by omega, by omega, rfl, by go_num, H⟩
         case measure => simp [intOf]; omega
      ·have hj' : ¬ (j : Int) < (L.length : Int) := by omega
       have e1 := (pos_end L j hjl).symm.trans (unhide hp)
       by_cases hc : 1 < m
       ·have hc' : (1 : Int) < (m : Int) := by omega
        have R := hide (unhide H1 (by unfold oneB; rw [e1]; exact decide_eq_false (by omega)))
        clear HU hp H1 H2 e1
        go_wp2_with fail
        go_ret
        exact ⟨ret_bool (by rw [unhide E, unhide R]), unhide G1⟩
       ·have hc' : ¬ (1 : Int) < (m : Int) := by omega
        have R := hide (unhide H2 (by unfold oneB; rw [e1]; exact decide_eq_true (by omega)))
        clear HU hp H1 H2 e1
        go_wp2_with fail
        go_round
        case rel => exact ⟨k + 1, by omega, by go_num, R⟩
        case measure => simp [intOf]; omega
   ·have hi' : ¬ (k : Int) < (LL.length : Int) := by omega
    have HR := hide ((unhide E).trans (all_end oneB LL k hlt (unhide hall)))
    clear HA hall E
    go_wp2_with fail
    go_ret
    exact ⟨ret_bool (unhide HR).symm, unhide G1⟩
end Go.Proofs.YtibpnocpafppaaaDoor.gc
