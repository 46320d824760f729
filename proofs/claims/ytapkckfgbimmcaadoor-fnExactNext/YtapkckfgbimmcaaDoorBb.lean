/- What Backbone answers, the program's and the model's, at every formula that holds at most 2^20 values. -/
import Derived.Test.YtapkckfgbimmcaaDoorBm
namespace Go.Proofs.YtapkckfgbimmcaaDoor.ks
open Go.ChangeShapes Go.WideShapes Go.ChangeAt Go.RowKit
open Go.Proofs.YtapkckfgbimmcaaDoor.kd (SV Slv)
open Go.Proofs.YtapkckfgbimmcaaDoor.km (left_)
open Go.Proofs.YtapkckfgbimmcaaDoor.lq (solveL FromE lits_in solve_no made_sub)
open Go.Proofs.YtapkckfgbimmcaaDoor.srt (Tab srt litI)
open Go.Proofs.YtapkckfgbimmcaaDoor.bset (setOf setOf_lt placeN)
open Go.Proofs.YtapkckfgbimmcaaDoor.css (Sls tot)
open Go.Proofs.YtapkckfgbimmcaaDoor.cf (Box)
open Go.Proofs.YtapkckfgbimmcaaDoor.ok (cnfB litIn)
open Go.Proofs.YtapkckfgbimmcaaDoor.wo (Made)
open Go.Proofs.YtapkckfgbimmcaaDoor.sl (Sl ints hide unhide grown_refl grown_trans)
set_option linter.unusedVariables false
theorem back_no {n : Int} {LL : List (List Int)} (h : solveL n LL [] = none) : backL n LL = [] := by
  unfold backL
  rw [h]
  rfl
theorem back_yes {m : Nat} {LL : List (List Int)} {l : List Int} (h : solveL (m : Int) LL [] = some l) : backL (m : Int) LL = bbs (m : Int) LL m := by
  unfold backL
  rw [h]
  rfl
theorem made_up {w w1 w2 : World} {v : Value} {L : List Int} (h : Made w w1 v L) (g : w1.grownBy w2 none) : Made w w2 v L :=
  ⟨h.1.kept g (by cases v.ownBlock with | none => exact .inl rfl | some k => exact .inr (by simp)), grown_trans h.2 g⟩
theorem own_lit (w : World) (x : Int) : sl.Own w.heap.size (w.heap.size + 1) (w.alloc (.cells #[.int .i64 x] 3)) (.slice (some ⟨w.heap.size, 0, none⟩) 1 1) [x] :=
  ⟨World.ownsRow_lit w #[.int .i64 x] 1 (Nat.le_refl _) (by unfold maxLen; omega) rfl, fun k e => by cases e; exact Nat.lt_succ_self _⟩
set_option maxRecDepth 100000 in
set_option maxHeartbeats 4000000 in
theorem specBackbone (v : Value) (n : Int) (LL : List (List Int)) (w : World) (hn : tot LL ≤ 1048576) (hv : Sls w v LL) :
    Calls Tryd.prog 30 #[.agg #[.int .i64 n, v]] w fun e w' => ∃ r, e = .returned r ∧ Made w w' r (backL n LL) := by
  have g0 := World.grownBy_alloc w (.cells #[.int .i64 n, v] 26) none
  have m0 := app.made_nil (w.alloc (.cells #[.int .i64 n, v] 26))
  have g1 := World.grownBy_alloc (w.alloc (.cells #[.int .i64 n, v] 26)) (.cells #[] 3) none
  have F0 := hide (Box.new 26 w (.int .i64 n) v)
  have G0 := hide g0
  have cs := lq.specSolve v n LL _ hn ((hv.kept g0).kept g1)
  simp only [World.size_alloc] at m0
  have M0 := hide m0
  have HV := hide (hv.kept g0)
  have x0 := ((unhide F0).kept g1).c0
  have x1 := ((unhide F0).kept g1).c1
  clear hv g0 g1 m0
  cases ho : solveL n LL [] with
  | none =>
    rw [ho] at cs
    rw [back_no ho]
    have CS := hide cs
    clear cs ho HV
    go_enter Tryd.func30, Tryd.ntmps30
    go_wp2_with fail
    refine (unhide CS).mono ?_; rintro e w2 ⟨r, rfl, m2⟩
    have M2 := hide (made_up (unhide M0) m2.2)
    clear m2 F0 x0 x1 M0 CS
    go_wp2_with fail
    go_ret
    exact ⟨_, rfl, made_sub (unhide G0) (unhide M2)⟩
  | some l =>
    have hc : cnfB n LL = true := by
      cases z : cnfB n LL with
      | true => rfl
      | false => rw [solve_no (by rw [z]; rfl)] at ho; cases ho
    obtain ⟨m, rfl, h24, h120⟩ := cnf_parts hc
    rw [ho] at cs
    rw [back_yes ho]
    have CS := hide cs
    clear cs ho hc
    go_enter Tryd.func30, Tryd.ntmps30
    go_wp2_with fail
    refine (unhide CS).mono ?_; rintro e w2 ⟨r, rfl, m2⟩
    have M2 := hide (made_up (unhide M0) m2.2)
    clear m2 x0 x1 M0 CS
    go_wp2_with fail
    go_loopw [3, 6] (fun r i wr => ∃ k : Nat, k ≤ m ∧ i = .int .i64 ((k : Int) + 1) ∧ Made (w.alloc (.cells #[.int .i64 (m : Int), v] 26)) wr r (bbs (m : Int) LL k)) (fun _ i _ => 30 - (intOf i).toNat)
    case atStart => exact ⟨0, Nat.zero_le _, rfl, unhide M2⟩
    case round =>
      obtain ⟨k, hk, rfl, hmd⟩ := hrel
      clear M2
      have hbx := hide ((unhide F0).kept hmd.2)
      have x0 := (unhide hbx).c0
      have x1 := (unhide hbx).c1
      by_cases hlt : k < m
      · have hi' : (k : Int) + 1 ≤ (m : Int) := by omega
        have gA := World.grownBy_alloc wr (.cells #[.int .i64 ((k : Int) + 1)] 3) none
        have y0 := ((unhide hbx).kept gA).c0
        have y1 := ((unhide hbx).kept gA).c1
        have CA := hide (lq.specSolveWith v (.slice (some ⟨wr.heap.size, 0, none⟩) 1 1) (m : Int) LL [(k : Int) + 1] _ _ _ hn (by simp) (((unhide HV).kept hmd.2).kept gA) (own_lit wr _))
        have MA := hide (made_up hmd gA)
        have hle : (bbs (m : Int) LL k).length ≤ 48 := Nat.le_trans (bbs_len _ _ _) (by omega)
        have E : Hid (bbs (m : Int) LL (k + 1) = (bbs (m : Int) LL k ++ if can1 (m : Int) LL (-((k : Int) + 1)) then [] else [(k : Int) + 1]) ++ if can1 (m : Int) LL ((k : Int) + 1) then [] else [-((k : Int) + 1)]) := rfl
        unfold can1 at E
        have CB' := hide (fun (w3 : World) (g : (w.alloc (.cells #[.int .i64 (m : Int), v] 26)).grownBy w3 none) => lq.specSolveWith v (.slice (some ⟨w3.heap.size, 0, none⟩) 1 1) (m : Int) LL [-((k : Int) + 1)] _ _ _ hn (by simp) (((unhide HV).kept g).kept (World.grownBy_alloc w3 (.cells #[.int .i64 (-((k : Int) + 1))] 3) none)) (own_lit w3 _))
        unfold lq.FromE at CA CB'
        generalize (solveL (m : Int) LL [-((k : Int) + 1)]).getD [] = RA at *
        generalize (solveL (m : Int) LL [(k : Int) + 1]).getD [] = RB at *
        generalize (solveL (m : Int) LL [-((k : Int) + 1)]).isSome = p at *
        generalize (solveL (m : Int) LL [(k : Int) + 1]).isSome = q at *
        generalize bbs (m : Int) LL k = M at *
        clear gA hmd
        go_wp2_with fail
        refine (unhide CA).mono ?_; rintro e w3 ⟨r3, rfl, m3⟩
        have M3 := hide (made_up (unhide MA) m3.2)
        have B3 := hide ((unhide F0).kept (unhide M3).2)
        have z0 := (unhide B3).c0
        have z1 := (unhide B3).c1
        have gB := World.grownBy_alloc w3 (.cells #[.int .i64 (-((k : Int) + 1))] 3) none
        have z2 := ((unhide B3).kept gB).c0
        have z3 := ((unhide B3).kept gB).c1
        have CB := hide (unhide CB' w3 (unhide M3).2)
        have MB := hide (made_up (unhide M3) gB)
        clear gB m3 MA CA x0 x1 y0 y1 M3
        go_wp2_with fail
        refine (unhide CB).mono ?_; rintro e w4 ⟨r4, rfl, m4⟩
        have M4 := hide (made_up (unhide MB) m4.2)
        clear m4 MB CB z0 z1 z2 z3 B3 hbx
        clear CB'
        cases p
        · obtain ⟨o4, g4⟩ := unhide M4
          clear M4
          go_wp2_with (at_builtin; refine wo.append1 g4 o4 (by omega) rfl _ _ rfl rfl rfl ?_)
          intro v' w5 R
          cases q
          · obtain ⟨o5, g5⟩ := R
            have h5 : (M ++ [(k : Int) + 1]).length ≤ 49 := by rw [List.length_append]; simp; omega
            generalize hM5 : M ++ [(k : Int) + 1] = M5 at *
            have H5 := hide hM5
            clear hM5
            go_wp2_with (at_builtin; refine wo.append1 g5 o5 (by omega) rfl _ _ rfl rfl rfl ?_)
            intro v'' w6 R6
            go_wp2
            go_roundw
            case rel => exact ⟨k + 1, by omega, by go_num, by have e := unhide E; simp at e; rw [e, show M ++ [(k : Int) + 1, -((k : Int) + 1)] = (M ++ [(k : Int) + 1]) ++ [-((k : Int) + 1)] by simp, unhide H5]; exact R6⟩
            case measure => simp [intOf]; omega
          · have R' := hide R
            clear R
            go_wp2
            go_roundw
            case rel => exact ⟨k + 1, by omega, by go_num, by have e := unhide E; simp at e; rw [e]; exact unhide R'⟩
            case measure => simp [intOf]; omega
        · cases q
          · obtain ⟨o4, g4⟩ := unhide M4
            clear M4
            go_wp2_with (at_builtin; refine wo.append1 g4 o4 (by omega) rfl _ _ rfl rfl rfl ?_)
            intro v' w5 R
            go_wp2
            go_roundw
            case rel => exact ⟨k + 1, by omega, by go_num, by have e := unhide E; simp at e; rw [e]; exact R⟩
            case measure => simp [intOf]; omega
          · go_wp2
            go_roundw
            case rel => exact ⟨k + 1, by omega, by go_num, by have e := unhide E; simp at e; rw [e]; exact unhide M4⟩
            case measure => simp [intOf]; omega
      · have hk' : k = m := by omega
        subst hk'
        have M2 := hide hmd
        clear hmd hbx
        go_wp2_with fail
        go_ret
        exact ⟨_, rfl, made_sub (unhide G0) (unhide M2)⟩
set_option maxRecDepth 100000 in
set_option maxHeartbeats 4000000 in
theorem implBackbone (v : Value) (n : Int) (LL : List (List Int)) (w : World) (hT : Tab w) (hn : tot LL ≤ 1048576) (hv : Sls w v LL) :
    Calls Tryd.prog 29 #[.agg #[.int .i64 n, v]] w fun e w' => ∃ r, e = .returned r ∧ Made w w' r (backL n LL) := by
  have g0 := World.grownBy_alloc w (.cells #[.int .i64 n, v] 26) none
  have C1 := ok.implCnfOk v n LL _ hn (hv.kept g0)
  have F0 := hide (Box.new 26 w (.int .i64 n) v)
  have HV := hide (hv.kept g0)
  have HT := hide (hT.kept g0)
  have G0 := hide g0
  have x0 := (unhide F0).c0
  have x1 := (unhide F0).c1
  clear g0 hv hT
  cases hc : cnfB n LL
  · rw [hc] at C1
    have CC := hide C1
    rw [back_no (solve_no (n := n) (LL := LL) (a := []) (by rw [hc]; rfl))]
    clear C1 hc HV
    go_enter Tryd.func29, Tryd.ntmps29
    go_wp2_with fail
    refine (unhide CC).mono ?_; rintro e w1 ⟨rfl, g1⟩
    have G1 := hide (grown_trans (r := none) (unhide G0) g1)
    clear g1 CC x0 x1
    go_wp2_with fail
    go_ret
    exact ⟨_, rfl, made_sub (unhide G1) (app.made_nil _)⟩
  rw [hc] at C1
  have CC := hide C1
  have HC := hide hc
  obtain ⟨m, rfl, h24, h120⟩ := cnf_parts hc
  clear C1 hc
  go_enter Tryd.func29, Tryd.ntmps29
  go_wp2_with fail
  refine (unhide CC).mono ?_; rintro e w1 ⟨rfl, g1⟩
  have G1 := hide (grown_trans (r := none) (unhide G0) g1)
  have F1 := hide ((unhide F0).kept g1)
  have T1 := hide ((unhide HT).kept g1)
  have CS := hide (solverOf v m LL w1 (unhide T1) h24 h120 hn (lits_in (unhide HC)) ((unhide HV).kept g1))
  have y0 := (unhide F1).c0
  have y1 := (unhide F1).c1
  clear g1 CC x0 x1 G0 F0 HV HT
  go_wp2_with fail
  refine (unhide CS).mono ?_; rintro e w2 ⟨c, s, rfl, h1, h2, g2⟩
  have H1 := hide h1
  have H2 := hide h2
  have G2 := hide (grown_trans (r := none) (unhide G1) g2)
  have T2 := hide ((unhide T1).kept g2)
  have CL : Hid (Calls Tryd.prog 63 #[.pointer (some ⟨c, 0, none⟩), .int .u64 0] w2 fun e w' => LeastE m LL [] w2 e w') := callsIn_wide.1 (least m LL [] s c 0 h2 (fun x hx => by cases hx) w2 h1 (unhide T2))
  clear h1 h2 g2 y0 y1 CS G1 F1 T1
  go_wp2_with fail
  refine (unhide CL).mono ?_
  rintro e w3 ⟨g3, ho⟩
  have ST : Hid (∃ P, P < 2 ^ 48 ∧ (∀ k C, Com m LL P k C → (srt P 48).length ≤ k → srt C 48 = backL (m : Int) LL) ∧ (∀ b, P.testBit b = true → b / 2 < m) ∧ ∃ bb, e = .returned (.tuple #[.int .u64 (P : Int), .bool bb])) := by
    rcases ho with ⟨hN, rfl⟩ | ⟨l, P, hN, hW, hh, rfl⟩
    · refine ⟨0, by decide, fun k C h _ => ?_, fun b hb => by simp at hb, false, rfl⟩
      have hC : C = 0 := Nat.eq_of_testBit_eq fun b => by
        cases q : C.testBit b with
        | false => simp
        | true => have := h.sub b q; simp at this
      subst hC
      rw [back_no ((solve_yes (a := []) (unhide HC) rfl).trans hN)]
      decide
    · have hb := left_bits hN
      refine ⟨P, hW.1, fun k C h hk => ?_, fun b h => ?_, true, rfl⟩
      · rw [back_yes ((solve_yes (a := []) (unhide HC) rfl).trans hN)]
        exact h.fin h24 (unhide HC) hk hb hh hW
      · rw [hW.2, km.wdB, Bool.and_eq_true, decide_eq_true_iff] at h
        rw [← hb.1]
        exact h.1
  obtain ⟨P, hP, hF, hpn, bb, rfl⟩ := unhide ST
  have HF := hide hF
  have HPN := hide hpn
  have G3 := hide (grown_trans (r := none) (unhide G2) g3)
  have S3 := hide ((unhide H1).kept g3)
  have T3 := hide ((unhide T2).kept g3)
  have CI := hide (srt.list P w3 (unhide T3) hP)
  clear ST hF hpn ho g3 CL H1 T2
  go_wp2_with fail
  refine (unhide CI).mono ?_
  rintro e w4 ⟨u4, rfl, o4, g4⟩
  obtain ⟨ua, uc, rfl, hcell⟩ := sl.Sl.of_own o4
  have HCE := hide hcell
  have hl48 := srt.srt_len P 48
  have G4 := hide g4
  clear o4 g4 CI hcell
  go_wp2_with fail
  go_loopw [4, 25] (fun cv iv wr => ∃ (C k : Nat), k ≤ (srt P 48).length ∧ cv = .int .u64 (C : Int) ∧ iv = .int .i64 (k : Int) ∧ Hid (Com m LL P k C) ∧ Hid (w4.grownBy wr none)) (fun _ iv _ => (srt P 48).length - (intOf iv).toNat)
  case atStart => exact ⟨P, 0, Nat.zero_le _, rfl, rfl, Com.start hP, grown_refl _⟩
  case round =>
    obtain ⟨C, k, hk, rfl, rfl, hcom, hg⟩ := hrel
    by_cases hlt : k < (srt P 48).length
    · obtain ⟨b, hb48, hbP, hx⟩ := srt_form _ (List.getElem_mem hlt)
      have hxk : (srt P 48)[k]? = some (litI b) := by rw [List.getElem?_eq_getElem hlt, hx]
      rcases unhide HCE with h | ⟨g, off, rfl, hbl, hcb⟩
      · rw [h] at hlt
        simp at hlt
      · have c1 := (unhide hg).cell (hcb k hlt) (fun e => by cases e)
        rw [show (srt P 48).getD k 0 = litI b by rw [List.getD, hxk]; rfl] at c1
        have hi' : (k : Int) < ((srt P 48).length : Int) := by omega
        obtain ⟨l1, l2, l3⟩ := lit_place hb48
        obtain ⟨i1, i2, i3, i4⟩ := lit_in (n := m) h24 (unhide HPN b hbP)
        have lb := srt.litI_bd b hb48
        have lb1 := lb.1
        have lb2 := lb.2
        have hcm := unhide hcom
        have CB := fun w' => bset.hasC C (litI b) w' hcm.lt l1
        rw [l2] at CB
        cases hbit : C.testBit b
        · rw [hbit] at CB
          have CB' := hide CB
          have K := hide (hcm.skip hb48 hxk (fun z => by rw [hbit] at z; cases z))
          clear CB hbit hcm l1 l2 l3 i1 i2 i3 i4 lb hcb hxk hx
          generalize litI b = y at *
          generalize (srt P 48).length = N at *
          go_wp2_with fail
          refine (unhide CB' _).mono ?_
          rintro e w5 ⟨rfl, hw⟩
          have hw' := hw.symm
          clear hw
          subst hw'
          go_wp2_with fail
          go_roundw
          case rel => exact ⟨C, k + 1, by omega, rfl, by go_num, unhide K, unhide hg⟩
          case measure => simp [intOf]; omega
        · rw [hbit] at CB
          have CB' := hide CB
          have CW := fun w' => bset.withC 0 (-(litI b)) w' (by decide) i4
          have es : bset.withN 0 (-(litI b)) = setOf [-(litI b)] := by
            have := bset.setOf_snoc [] (-(litI b))
            rw [i4] at this
            exact this.symm
          rw [es] at CW
          have CW' : Hid (∀ w', Calls Tryd.prog 58 #[.int .u64 0, .int .i8 (-(litI b))] w' fun e w'' => e = .returned (.int .u64 (setOf [-(litI b)] : Int)) ∧ w'' = w') := CW
          have CM := hide (fun w' (gg : w3.grownBy w' none) => callsIn_wide.1 (least m LL [-(litI b)] s c 0 (unhide H2) (fun x hx => by simp at hx; rw [hx]; exact i2) w' ((unhide S3).kept gg) ((unhide T3).kept gg)))
          have K0 : Hid (left_ m LL [-(litI b)] [] = none → Com m LL P (k + 1) C) := fun hN => hcm.skip hb48 hxk (fun _ => (can_iff h24 (unhide HC) (unhide HPN b hbP)).1 (by
            unfold can1
            rw [solve_yes (unhide HC) (by simp [i2]), hN]
            rfl))
          have K1 : Hid (∀ l Q, left_ m LL [-(litI b)] [] = some l → Word l Q → lq.holds LL [-(litI b)] l = true → Com m LL P (k + 1) (C &&& Q)) := fun l Q hN hW hh => by
            have hb := left_bits hN
            rw [holds_one, Bool.and_eq_true] at hh
            refine hcm.meet hb48 hxk hb hh.1 hW ?_
            have z := hh.2
            rw [← km.wd_lit hb h24 i2, i3] at z
            rw [hW.2]
            have := km.wd_one hb.2 z
            rwa [srt.swp_swp] at this
          have EA := hide (fun Q (h : Q < 2 ^ 48) => srt.and_eq C Q hcm.lt h)
          clear CB hbit hcm l1 l2 l3 i1 i2 i3 i4 lb hcb hxk hx es CW
          unfold LeastE at CM
          generalize setOf [-(litI b)] = Z at *
          generalize left_ m LL [-(litI b)] [] = O at *
          generalize litI b = y at *
          generalize (srt P 48).length = N at *
          go_wp2_with fail
          refine (unhide CB' _).mono ?_
          rintro e w5 ⟨rfl, hw⟩
          have hw' := hw.symm
          clear hw
          subst hw'
          go_wp2_with fail
          refine (unhide CW' _).mono ?_
          rintro e w5 ⟨rfl, hw⟩
          have hw' := hw.symm
          clear hw
          subst hw'
          go_wp2_with fail
          refine (unhide CM _ (grown_trans (unhide G4) (unhide hg))).mono ?_
          rintro e w5 ⟨g5, ⟨hN, rfl⟩ | ⟨l, Q, hN, hW, hh, rfl⟩⟩
          · have K := hide (unhide K0 hN)
            have G5 := hide (grown_trans (r := none) (unhide hg) g5)
            clear g5 hN K0 K1 CM
            go_wp2_with fail
            go_roundw
            case rel => exact ⟨C, k + 1, by omega, rfl, by go_num, unhide K, unhide G5⟩
            case measure => simp [intOf]; omega
          · have K := hide (unhide K1 l Q hN hW hh)
            have G5 := hide (grown_trans (r := none) (unhide hg) g5)
            have E := hide (unhide EA Q hW.1)
            clear g5 hN K0 K1 CM hW hh EA
            go_wp2_with fail
            go_roundw
            case rel => exact ⟨C &&& Q, k + 1, by omega, by rw [unhide E], by go_num, unhide K, unhide G5⟩
            case measure => simp [intOf]; omega
    · have hi' : ¬ (k : Int) < ((srt P 48).length : Int) := by omega
      have E := hide (unhide HF k C (unhide hcom) (by omega))
      have hClt := (unhide hcom).lt
      have CI := hide (srt.list C wr ((unhide T3).kept (grown_trans (unhide G4) (unhide hg))) hClt)
      generalize (srt P 48).length = N at *
      go_wp2_with fail
      refine (unhide CI).mono ?_
      rintro e w5 ⟨u5, rfl, o5, g5⟩
      have M5 : Hid (Made wr w5 u5 (srt C 48)) := ⟨o5, g5⟩
      clear o5 g5 CI
      go_wp2_with fail
      go_ret
      rw [← unhide E]
      exact ⟨_, rfl, made_sub (grown_trans (unhide G3) (grown_trans (unhide G4) (unhide hg))) (unhide M5)⟩
theorem bothB (n : Int) (LL : List (List Int)) (hn : tot LL ≤ 1048576) : ∃ (R : List Int), R.length ≤ 1048576 ∧
    (∀ v w, Sls w v LL → Calls Tryd.prog 30 #[.agg #[.int .i64 n, v]] w fun e w' => ∃ r, e = .returned r ∧ w'.ownsRow w.heap.size 3 1 r R.length (ints R) ∧ w.grownBy w' none) ∧
    (∀ v w, srt.Tab w → Sls w v LL → Calls Tryd.prog 29 #[.agg #[.int .i64 n, v]] w fun e w' => ∃ r, e = .returned r ∧ w'.ownsRow w.heap.size 3 1 r R.length (ints R) ∧ w.grownBy w' none) :=
  ⟨_, Nat.le_trans (back_len n LL) (by omega), fun v w h => specBackbone v n LL w hn h, fun v w t h => implBackbone v n LL w t hn h⟩
end Go.Proofs.YtapkckfgbimmcaaDoor.ks
