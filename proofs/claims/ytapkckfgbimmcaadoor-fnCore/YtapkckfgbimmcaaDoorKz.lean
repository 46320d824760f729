/- What the program's SolveWith and Solve answer at every formula that holds at most 2^20 values and every list of at most 2^20 numbers, where the library's table of places lies as its text lays it. -/
import Derived.Test.YtapkckfgbimmcaaDoorKy
import Derived.Test.YtapkckfgbimmcaaDoorLs5
namespace Go.Proofs.YtapkckfgbimmcaaDoor.ks
open Go.ChangeShapes Go.WideShapes Go.ChangeAt Go.RowKit
open Go.Proofs.YtapkckfgbimmcaaDoor.kd (SV Slv)
open Go.Proofs.YtapkckfgbimmcaaDoor.km (left_)
open Go.Proofs.YtapkckfgbimmcaaDoor.lq (solveL FromE lits_in solve_no made_sub)
open Go.Proofs.YtapkckfgbimmcaaDoor.srt (Tab)
open Go.Proofs.YtapkckfgbimmcaaDoor.bset (setOf setOf_lt)
open Go.Proofs.YtapkckfgbimmcaaDoor.css (Sls tot)
open Go.Proofs.YtapkckfgbimmcaaDoor.cf (Box)
open Go.Proofs.YtapkckfgbimmcaaDoor.ok (cnfB litIn)
open Go.Proofs.YtapkckfgbimmcaaDoor.wo (Made)
open Go.Proofs.YtapkckfgbimmcaaDoor.sl (Sl ints hide unhide grown_refl grown_trans)
set_option linter.unusedVariables false
theorem cnf_parts {n : Int} {LL : List (List Int)} (h : cnfB n LL = true) : ∃ m : Nat, n = (m : Int) ∧ m ≤ 24 ∧ LL.length ≤ 120 := by
  unfold ok.cnfB at h
  rw [Bool.and_eq_true, Bool.and_eq_true, decide_eq_true_iff, decide_eq_true_iff] at h
  obtain ⟨m, rfl⟩ := Int.eq_ofNat_of_zero_le h.1.1.1
  exact ⟨m, rfl, by omega, h.1.2⟩
theorem solve_yes {m : Nat} {LL : List (List Int)} {a : List Int} (hc : cnfB (m : Int) LL = true) (hl : a.all (litIn (m : Int)) = true) : solveL (m : Int) LL a = left_ m LL a [] := by
  unfold lq.solveL
  rw [hc, hl]
  rfl
set_option maxRecDepth 100000 in
set_option maxHeartbeats 4000000 in
theorem implSolveWith (v u : Value) (n : Int) (LL : List (List Int)) (a : List Int) (w : World) (hT : Tab w) (hn : tot LL ≤ 1048576) (ha : a.length ≤ 1048576) (hv : Sls w v LL) (hu : Sl w u a) :
    Calls Tryd.prog 20 #[.agg #[.int .i64 n, v], u] w fun e w' => FromE w (solveL n LL a) e w' := by
  obtain ⟨O, hO⟩ : ∃ O, solveL n LL a = O := ⟨_, rfl⟩
  rw [hO]
  have HO := hide hO
  clear hO
  have g0 := World.grownBy_alloc w (.cells #[.int .i64 n, v] 26) none
  have C1 := ok.implCnfOk v n LL _ hn (hv.kept g0)
  have F0 := hide (Box.new 26 w (.int .i64 n) v)
  have HU := hide (hu.kept g0 (.inl rfl))
  have HV := hide (hv.kept g0)
  have HT := hide (hT.kept g0)
  have G0 := hide g0
  have x0 := (unhide F0).c0
  have x1 := (unhide F0).c1
  clear g0 hv hu hT
  cases hc : cnfB n LL
  · rw [hc] at C1
    have CC := hide C1
    have E := hide ((unhide HO).symm.trans (solve_no (n := n) (LL := LL) (a := a) (by rw [hc]; rfl)))
    clear C1 hc HV HU
    go_enter Tryd.func20, Tryd.ntmps20
    go_wp2_with fail
    refine (unhide CC).mono ?_; rintro e w1 ⟨rfl, g1⟩
    have G1 := hide (grown_trans (r := none) (unhide G0) g1)
    clear g1 CC x0 x1
    go_wp2_with fail
    go_ret2
    rw [unhide E]
    exact ⟨_, rfl, made_sub (unhide G1) (app.made_nil _)⟩
  rw [hc] at C1
  have CC := hide C1
  have HC := hide hc
  clear C1 hc
  go_enter Tryd.func20, Tryd.ntmps20
  go_wp2_with fail
  refine (unhide CC).mono ?_; rintro e w1 ⟨rfl, g1⟩
  have G1 := hide (grown_trans (r := none) (unhide G0) g1)
  have F1 := hide ((unhide F0).kept g1)
  have U1 := hide ((unhide HU).kept g1 (.inl rfl))
  have V1 := hide ((unhide HV).kept g1)
  have T1 := hide ((unhide HT).kept g1)
  have y0 := (unhide F1).c0
  have y1 := (unhide F1).c1
  have CL := ok.literalsOf u a n w1 ha (unhide U1)
  clear g1 CC x0 x1 G0 F0 HU HV HT
  cases hl : a.all (litIn n)
  · rw [hl] at CL
    have C2 := hide CL
    have E := hide ((unhide HO).symm.trans (solve_no (n := n) (LL := LL) (a := a) (by rw [hl, Bool.and_false])))
    clear CL hl V1 U1 HC
    go_wp2_with fail
    refine (unhide C2).mono ?_; rintro e w2 ⟨rfl, hw⟩; have hw' := hw.symm; clear hw; subst hw'
    go_wp2_with fail
    go_ret2
    rw [unhide E]
    exact ⟨_, rfl, made_sub (unhide G1) (app.made_nil _)⟩
  rw [hl] at CL
  have C2 := hide CL
  obtain ⟨m, rfl, h24, h120⟩ := cnf_parts (unhide HC)
  have E := (unhide HO).symm.trans (solve_yes (unhide HC) hl)
  subst E
  have HA : Hid (∀ x ∈ a, litIn (m : Int) x = true) := List.all_eq_true.1 hl
  have CS := hide (solverOf v m LL w1 (unhide T1) h24 h120 hn (lits_in (unhide HC)) (unhide V1))
  clear CL hl HO V1 F1
  go_wp2_with fail
  refine (unhide C2).mono ?_; rintro e w2 ⟨rfl, hw⟩; have hw' := hw.symm; clear hw; subst hw'
  go_wp2_with fail
  refine (unhide CS).mono ?_; rintro e w2 ⟨c, s, rfl, h1, h2, g2⟩
  have H1 := hide h1
  have H2 := hide h2
  have G2 := hide g2
  have CO := hide (bset.litsOf u a w2 ha ((unhide U1).kept g2 (.inl rfl)))
  have CB := hide (leastAssignment m LL a s c h2 (unhide HA) w2 h1 ((unhide T1).kept g2))
  clear h1 h2 g2 y0 y1 CS C2
  go_wp2_with fail
  refine (unhide CO).mono ?_; rintro e w3 ⟨rfl, hw⟩; have hw' := hw.symm; clear hw; subst hw'
  go_wp2_with fail
  refine (unhide CB).mono ?_; rintro e w3 ⟨r, rfl, m3⟩
  have M3 := hide m3
  clear m3 CB CO
  go_wp2_with fail
  go_ret2
  exact ⟨r, rfl, made_sub (grown_trans (unhide G1) (unhide G2)) (unhide M3)⟩
set_option maxRecDepth 100000 in
set_option maxHeartbeats 4000000 in
theorem implSolve (v : Value) (n : Int) (LL : List (List Int)) (w : World) (hT : Tab w) (hn : tot LL ≤ 1048576) (hv : Sls w v LL) :
    Calls Tryd.prog 14 #[.agg #[.int .i64 n, v]] w fun e w' => FromE w (solveL n LL []) e w' := by
  have g0 := World.grownBy_alloc w (.cells #[.int .i64 n, v] 26) none
  have F0 := hide (Box.new 26 w (.int .i64 n) v)
  have C := hide (implSolveWith v (.slice none 0 0) n LL [] _ (hT.kept g0) hn (Nat.zero_le _) (hv.kept g0) ⟨none, 0, rfl, .inl rfl⟩)
  have G0 := hide g0
  have x0 := (unhide F0).c0
  have x1 := (unhide F0).c1
  clear g0 hv hT
  go_enter Tryd.func14, Tryd.ntmps14
  go_wp2_with fail
  refine (unhide C).mono ?_; rintro e w3 ⟨r, rfl, m3⟩
  have M3 := hide m3
  clear m3 C
  go_wp2_with fail
  go_ret2
  exact ⟨r, rfl, made_sub (unhide G0) (unhide M3)⟩
end Go.Proofs.YtapkckfgbimmcaaDoor.ks
