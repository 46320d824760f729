/- What the model's SolveWith and Solve answer at every formula of the call's own that holds at most 2^20 values and every list of the call's own of at most 2^20 numbers. -/
import Derived.Test.YtnlllcgcaddhmaaGreatDoorJXLr
import Derived.Test.YtnlllcgcaddhmaaGreatDoorJXFc
namespace Go.Proofs.YtnlllcgcaddhmaaGreatDoor.lq
open Go.ChangeShapes Go.WideShapes Go.ChangeAt Go.RowKit
open lits (okB varI okB_iff varI_yes)
open cls (hasB)
open css (Sls OwnS tot own_mono)
open cf (Box)
open ok (cnfB clB litIn)
open fm (clashB)
open wo (Made)
open sl (Sl Own ints hide unhide ret_int ret_bool grown_refl grown_trans grown_drewN)
set_option linter.unusedVariables false
theorem solve_no {n : Int} {LL : List (List Int)} {a : List Int} (h : (cnfB n LL && a.all (litIn n)) = false) : solveL n LL a = none := by
 unfold solveL
 rw [h]
 rfl
theorem solve_clash {n : Int} {LL : List (List Int)} {a : List Int} (h : clashB a = true) : solveL n LL a = none := by
 unfold solveL
 split
 ·rw [lst_none]
  intro l _
  unfold fm.clashB at h
  obtain ⟨x, hx, h2⟩ := List.any_eq_true.1 h
  rw [Bool.and_eq_true] at h2
  cases hh : holds LL a l with
  | false => rfl
  | true =>
   have h3 := holds_lit hh hx
   have h4 := holds_lit hh (of_decide_eq_true h2.2)
   rw [litT_neg h2.1, h3] at h4
   cases h4
 ·rfl
theorem ahead_start {n : Nat} {LL : List (List Int)} {a : List Int} (hc : cnfB (n : Int) LL = true) (ha : a.all (litIn (n : Int)) = true) (hn : clashB a = false) : Ahead n a [] ∧ rest n LL a [] = solveL (n : Int) LL a := by
 have h24 : n ≤ 24 := by
  unfold ok.cnfB at hc
  rw [Bool.and_eq_true, Bool.and_eq_true, decide_eq_true_iff] at hc
  omega
 have hl := List.all_eq_true.1 ha
 refine ⟨⟨h24, Nat.zero_le _, fun x hx => (by cases hx), fun j hj => absurd hj (Nat.not_lt_zero _), hl, fun x hx => ?_⟩, ?_⟩
 ·cases hb : hasB a (-x) with
  | false => rfl
  | true =>
   unfold fm.clashB at hn
   have : (a.any fun x => okB x && hasB a (-x)) = true := List.any_eq_true.2 ⟨x, hx, by rw [(litIn_parts (hl x hx)).1, hb]; rfl⟩
   rw [this] at hn
   cases hn
 ·unfold rest solveL
  rw [hc, ha, Bool.true_and, if_pos rfl]
  show (lst n (fun l => holds LL a l)).map (fun l => l) = lst n (holds LL a)
  cases lst n (holds LL a) <;> rfl
set_option maxRecDepth 100000 in
set_option maxHeartbeats 4000000 in
theorem specSolveWith (v u : Value) (n : Int) (LL : List (List Int)) (a : List Int) (lo hi : Nat) (w : World) (hn : tot LL ≤ 1048576) (ha : a.length ≤ 1048576) (hv : Sls w v LL) (hu : Own lo hi w u a) :
  Calls Tryz.prog 84 #[.agg #[.int .i64 n, v], u] w fun e w' => FromE w (solveL n LL a) e w' := by
 obtain ⟨O, hO⟩ : ∃ O, solveL n LL a = O := ⟨_, rfl⟩
 rw [hO]
 have HO := hide hO
 clear hO
 have g0 := World.grownBy_alloc w (.cells #[.int .i64 n, v] 26) none
 have C1 := ok.specCnfOk v n LL _ hn (hv.kept g0)
 have F0 := hide (Box.new 26 w (.int .i64 n) v)
 have HU := hide (hu.kept g0)
 have HV := hide (hv.kept g0)
 have G0 := hide g0
 obtain ⟨ua, uc, rfl, _⟩ := hu.sl
 have x0 := (unhide F0).c0
 have x1 := (unhide F0).c1
 clear g0 hv hu
 cases hc : cnfB n LL
 ·rw [hc] at C1
  have CC := hide C1
  have E := hide ((unhide HO).symm.trans (solve_no (n := n) (LL := LL) (a := a) (by rw [hc]; rfl)))
  clear C1 hc HV HU
  go_enter Tryz.func84, Tryz.ntmps84
  go_wp2_with fail
  refine (unhide CC).mono ?_; rintro e w1 ⟨rfl, g1⟩
  have G1 := hide (grown_trans (r := none) (unhide G0) g1)
  clear g1 CC x0 x1
  go_wp2_with fail
  go_ret2
  rw [unhide E]
  exact ⟨_, rfl, made_sub (unhide G1) (app.made_nil _)⟩
 rw [hc] at C1
 have CC := hide C1
 have HC := hide hc
 clear C1 hc
 go_enter Tryz.func84, Tryz.ntmps84
 go_wp2_with fail
 refine (unhide CC).mono ?_; rintro e w1 ⟨rfl, g1⟩
 have G1 := hide (grown_trans (r := none) (unhide G0) g1)
 have F1 := hide ((unhide F0).kept g1)
 have U1 := hide ((unhide HU).kept g1)
 have V1 := hide ((unhide HV).kept g1)
 have y0 := (unhide F1).c0
 have y1 := (unhide F1).c1
 have CL := l4.l04Lits v (.slice ua a.length uc) n a w1 ha (unhide U1).sl
 clear g1 CC x0 x1 G0 F0 HU HV
 cases hl : a.all (litIn n)
 ·rw [hl] at CL
  have C2 := hide CL
  have E := hide ((unhide HO).symm.trans (solve_no (n := n) (LL := LL) (a := a) (by rw [hl, Bool.and_false])))
  clear CL hl V1 U1 HC
  go_wp2_with fail
  refine (unhide C2).mono ?_; rintro e w2 ⟨rfl, g2⟩
  have G2 := hide (grown_trans (r := none) (unhide G1) g2)
  clear g2 C2 y0 y1
  go_wp2_with fail
  go_ret2
  rw [unhide E]
  exact ⟨_, rfl, made_sub (unhide G2) (app.made_nil _)⟩
 rw [hl] at CL
 have C2 := hide CL
 have HL := hide hl
 clear CL hl
 go_wp2_with fail
 refine (unhide C2).mono ?_; rintro e w2 ⟨rfl, g2⟩
 have G2 := hide (grown_trans (r := none) (unhide G1) g2)
 have F2 := hide ((unhide F1).kept g2)
 have U2 := hide ((unhide U1).kept g2)
 have V2 := hide ((unhide V1).kept g2)
 have CC := fc.specClash (.slice ua a.length uc) a w2 ha (unhide U2).sl
 clear g2 C2 y0 y1 G1 F1 U1 V1
 have z0 := (unhide F2).c0
 have z1 := (unhide F2).c1
 cases hx : clashB a
 ·rw [hx] at CC
  have C3 := hide CC
  have hn0 : 0 ≤ n := by
   have := unhide HC
   unfold ok.cnfB at this
   rw [Bool.and_eq_true, Bool.and_eq_true, decide_eq_true_iff] at this
   omega
  obtain ⟨m, rfl⟩ := Int.eq_ofNat_of_zero_le hn0
  obtain ⟨hA, hR⟩ := ahead_start (unhide HC) (unhide HL) hx
  have CF := from_ m LL hn (lits_in (unhide HC)) (m + 1) a [] v (.slice ua a.length uc) lo hi w2 hA (by show m - 0 < m + 1; omega) (by show a.length ≤ 1048576 + 0; omega) (unhide V2) (unhide U2)
  rw [hR, unhide HO] at CF
  have K4 : Hid (Calls Tryz.prog 140 #[.agg #[.int .i64 (m : Int), v], .slice ua a.length uc, .int .i64 1] w2 fun e w' => FromE w2 O e w') := CF
  clear CC hx hA hR CF
  go_wp2_with fail
  refine (unhide C3).mono ?_; rintro e w3 ⟨rfl, hw⟩; have hw' := hw.symm; clear hw; subst hw'
  go_wp2_with fail
  refine (unhide K4).mono ?_; rintro e w3 ⟨r, rfl, m3⟩
  have M3 := hide m3
  clear m3 K4 C3
  go_wp2_with fail
  go_ret2
  exact ⟨r, rfl, made_sub (unhide G2) (unhide M3)⟩
 ·rw [hx] at CC
  have C3 := hide CC
  have E := hide ((unhide HO).symm.trans (solve_clash (n := n) (LL := LL) hx))
  clear CC hx
  go_wp2_with fail
  refine (unhide C3).mono ?_; rintro e w3 ⟨rfl, hw⟩; have hw' := hw.symm; clear hw; subst hw'
  go_wp2_with fail
  go_ret2
  rw [unhide E]
  exact ⟨_, rfl, made_sub (unhide G2) (app.made_nil _)⟩
set_option maxRecDepth 100000 in
set_option maxHeartbeats 4000000 in
theorem specSolve (v : Value) (n : Int) (LL : List (List Int)) (w : World) (hn : tot LL ≤ 1048576) (hv : Sls w v LL) :
  Calls Tryz.prog 40 #[.agg #[.int .i64 n, v]] w fun e w' => FromE w (solveL n LL []) e w' := by
 have g0 := World.grownBy_alloc w (.cells #[.int .i64 n, v] 26) none
 have F0 := hide (Box.new 26 w (.int .i64 n) v)
 have mn := app.made_nil (w.alloc (.cells #[.int .i64 n, v] 26))
 have C := specSolveWith v (.slice (some ⟨(w.alloc (.cells #[.int .i64 n, v] 26)).heap.size, 0, none⟩) 0 0) n LL [] _ _ _ hn (Nat.zero_le _) ((hv.kept g0).kept mn.2) (Own.of mn.1)
 obtain ⟨O, hO⟩ : ∃ O, solveL n LL [] = O := ⟨_, rfl⟩
 rw [hO] at C ⊢
 rw [World.size_alloc] at C
 have G := hide (grown_trans (r := none) g0 mn.2)
 have CC := hide C
 have x0 := (unhide F0).c0
 have x1 := (unhide F0).c1
 clear C g0 mn hv hO
 go_enter Tryz.func40, Tryz.ntmps40
 go_wp2_with fail
 refine (unhide CC).mono ?_; rintro e w3 ⟨r, rfl, m3⟩
 have M3 := hide m3
 clear m3 CC
 go_wp2_with fail
 go_ret2
 exact ⟨r, rfl, made_sub (unhide G) (unhide M3)⟩
end Go.Proofs.YtnlllcgcaddhmaaGreatDoor.lq
