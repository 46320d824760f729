/- Groups of the model: the walk. -/
import Derived.Test.YtibpnocpafppaaaDoorFl
import Derived.Deep.QuietTactic
import Derived.BigQuiet
namespace Go.Proofs.YtibpnocpafppaaaDoor.fi
open Go.ChangeShapes Go.WideShapes Go.ChangeAt Go.RowKit
open Go.Proofs.YtibpnocpafppaaaDoor.lits (okB varI)
open Go.Proofs.YtibpnocpafppaaaDoor.sl (Sl Own ints hide unhide grown_refl grown_trans below_of of_below)
open Go.Proofs.YtibpnocpafppaaaDoor.css (Sls OwnS tot own_mono)
open Go.Proofs.YtibpnocpafppaaaDoor.cf (Box)
open Go.Proofs.YtibpnocpafppaaaDoor.ok (cnfB)
open Go.Proofs.YtibpnocpafppaaaDoor.fg
set_option linter.unusedVariables false
theorem cl_len24 (P : Nat → Bool) {n : Nat} (h : n ≤ 24) : ∀ m, m ≤ n → (cl P m).length ≤ 24 := fun m hm => Nat.le_trans (cl_len P m) (by omega)
set_option maxRecDepth 10000 in
set_option maxHeartbeats 16000000 in
theorem specGroups (v : Value) (n : Int) (LL : List (List Int)) (w : World) (hn : tot LL ≤ 1048576) (hv : Sls w v LL) :
    Calls Tryd.prog 30 #[.agg #[.int .i64 n, v]] w fun e w' => GrpE (grpL n LL) w e w' := by
  obtain ⟨W1, hW1⟩ : ∃ W1, W1 = w.alloc (.cells #[.int .i64 n, v] 26) := ⟨_, rfl⟩
  have g1 : w.grownBy W1 none := by rw [hW1]; exact World.grownBy_alloc _ _ _
  have B1 : Box 26 W1 w.heap.size (.int .i64 n) v := by rw [hW1]; exact Box.new _ _ _ _
  have s1 : W1.heap.size = w.heap.size + 1 := by rw [hW1, World.size_alloc]
  obtain ⟨W2, hW2⟩ : ∃ W2, W2 = W1.alloc (.cells #[] 31) := ⟨_, rfl⟩
  have g2 : W1.grownBy W2 none := by rw [hW2]; exact World.grownBy_alloc _ _ _
  have s2 : W2.heap.size = w.heap.size + 1 + 1 := by rw [hW2, World.size_alloc, s1]
  have O2 : OwnS W1.heap.size W2.heap.size W2 (.slice (some ⟨w.heap.size + 1, 0, none⟩) 0 0) [] := by
    have := lit_none W1
    rw [← hW2, s1] at this
    exact this.sub (by omega) (by omega)
  have CO := hide (ok.specCnfOk v n LL W2 hn ((hv.kept g1).kept g2))
  have HV := hide (hv.kept g1)
  have G1 := hide g1
  have HG2 := hide g2
  have HO2 := hide O2
  have HB1 := hide B1
  have x0 := (B1.kept g2).c0
  have x1 := (B1.kept g2).c1
  have HW1 := hide hW1
  have HW2 := hide hW2
  have HS1 := hide s1
  obtain ⟨a, cap, rfl, _⟩ := hv
  clear g1 B1 hW1 hW2 g2 O2 s1 s2
  go_enter Tryd.func30, Tryd.ntmps30
  go_wp2_with fail
  rw [← unhide HW1, ← unhide HW2]
  refine (unhide CO).mono ?_; rintro e w2 ⟨rfl, g3⟩
  have HG3 := hide (grown_trans (r := none) (unhide HG2) g3)
  have HO3 := hide (((unhide HO2).kept g3).sub (Nat.le_refl _) g3.size)
  have y0 := ((unhide HB1).kept (unhide HG3)).c0
  have y1 := ((unhide HB1).kept (unhide HG3)).c1
  clear x0 x1 HW1 HW2 CO g3 HO2
  cases hB : cnfB n LL
  · have E := hide (show grpL n LL = [] by unfold grpL; rw [hB]; rfl)
    clear hB
    go_wp2_with fail
    go_ret
    refine ⟨_, rfl, ?_, ?_⟩
    · rw [unhide E]
      exact (unhide HO3).sub (unhide G1).size (Nat.le_refl _)
    · exact grown_trans (unhide G1) (unhide HG3)
  · have hN : 0 ≤ n ∧ n ≤ 24 := by
      unfold ok.cnfB at hB
      rw [Bool.and_eq_true, Bool.and_eq_true, decide_eq_true_eq] at hB
      exact hB.1.1
    obtain ⟨N, rfl⟩ := Int.eq_ofNat_of_zero_le hN.1
    have n24 : N ≤ 24 := by omega
    obtain ⟨_, hLL, HI⟩ := in_bd hB
    have HIH := hide HI
    have HLB := hide (lab_ok hB)
    have E := hide (show grpL (N : Int) LL = outs (lab LL LL.length) N N by unfold grpL; rw [hB, Int.toNat_natCast]; rfl)
    have ST : Hid (wo.Made w2 (w2.alloc (.cells #[] 3)) (.slice (some ⟨w2.heap.size, 0, none⟩) 0 0) ((ofL id N).take 0)) := ⟨World.ownsRow_lit w2 #[] 0 (Nat.le_refl _) (Nat.zero_le _) rfl, World.grownBy_alloc _ _ _⟩
    have OL := hide (ofL_len id N)
    have OG := hide (fun u (h : u ≤ N) => show (ofL id N).take (u + 1) = (ofL id N).take u ++ [(u : Int)] from by
      rw [take_snocI _ _ (by rw [ofL_len]; omega)]
      have h2 := ofL_get id N h
      have h3 : (ofL id N).getD u 0 = (u : Int) := by
        simp [ofL, List.getD, show u < N + 1 from by omega]
      rw [h3])
    clear hB hN HI
    have Z0 := hide (fun (wr : World) (g : w2.grownBy wr none) => ((unhide HB1).kept (grown_trans (r := none) (unhide HG3) g)).c0)
    generalize hR : ofL id N = R at *
    have HR := hide hR
    clear hR y1
    go_wp2_with fail
    clear y0
    go_loopw [4, 5] (fun u i wr => ∃ q : Nat, q ≤ N + 1 ∧ i = .int .i64 (q : Int) ∧ Hid (wo.Made w2 wr u (R.take q))) (fun _ i _ => N + 1 - (intOf i).toNat)
    case atStart => exact ⟨0, by omega, rfl, ST⟩
    case round =>
      obtain ⟨q, hq, rfl, hm⟩ := hrel
      clear ST
      have z0 := unhide Z0 _ (unhide hm).2
      obtain ⟨ua, uc, eu, _⟩ := Sl.of_own (unhide hm).1
      subst eu
      have lw : (R.take q).length ≤ 4194304 := by rw [List.length_take]; omega
      by_cases hlt : q ≤ N
      · have hi' : (q : Int) ≤ (N : Int) := by omega
        have hg := hide (unhide hm).2
        have ho := hide (unhide hm).1
        have rs := unhide OG q hlt
        obtain ⟨P2, hP2⟩ : ∃ P2, P2 = R.take (q + 1) := ⟨_, rfl⟩
        rw [← hP2] at rs
        have HP := hide hP2
        have HQ := hide rs
        clear hP2 rs hm
        generalize R.take q = P1 at *
        go_wp2_with (first | (at_builtin; refine wo.append1 (unhide hg) (unhide ho) lw rfl _ _ rfl rfl rfl ?_) | fail)
        intro v' w3 R2
        have R3 : Hid (wo.Made w2 w3 v' P2) := by
          rw [unhide HQ]
          exact R2
        have z1 := unhide Z0 _ (unhide R3).2
        clear R2 HQ hg ho z0
        go_wp2_with fail
        go_roundw
        case rel => exact ⟨q + 1, by omega, by go_num, by rw [← unhide HP]; exact R3⟩
        case measure => simp [intOf]; omega
      · have hi' : ¬ (q : Int) ≤ (N : Int) := by omega
        have eq : q = N + 1 := by omega
        have et : R.take q = R := List.take_of_length_le (by rw [unhide OL]; omega)
        rw [et] at hm lw ⊢
        have L0 := unhide hm
        unfold wo.Made at L0
        rw [unhide OL] at L0 ⊢
        have hf := L0.1.2
        rcases hf with ⟨_, h0⟩ | ⟨g, uc', cur, e3, _⟩
        · omega
        · cases e3
          have L1 : La w2 wr g uc N R := L0
          rw [← unhide HR, show ofL id N = ofL (lab LL 0) N from rfl] at L1
          have HL1 := hide L1
          have Z1 := hide (fun (wx : World) (g : w2.grownBy wx none) => ((unhide HB1).kept (grown_trans (r := none) (unhide HG3) g)).c1)
          have IB := hide (fun (wx : World) (g : w2.grownBy wx none) => (unhide HV).kept (grown_trans (r := none) (unhide HG3) g))
          clear L0 L1 hm lw et OG OL
          subst eq
          go_wp2_with fail
          clear z0
          go_loopw [6] (fun i wr => ∃ k : Nat, k ≤ LL.length ∧ i = .int .i64 (k : Int) ∧ Hid (La w2 wr g uc N (ofL (lab LL k) N))) (fun i _ => LL.length - (intOf i).toNat)
          case atStart => exact ⟨0, Nat.zero_le _, rfl, HL1⟩
          case round =>
            obtain ⟨k, hk, rfl, hla⟩ := hrel
            clear HL1
            have z0 := unhide Z0 _ (unhide hla).2
            have z1 := unhide Z1 _ (unhide hla).2
            by_cases hkl : k < LL.length
            · have hk' : (k : Int) < (LL.length : Int) := by omega
              obtain ⟨a', cap', e', ha⟩ := unhide IB w2 (grown_refl _)
              cases e'
              rcases ha with h | ⟨b, off, rfl, hb, hcb⟩
              · rw [h] at hkl
                simp at hkl
              · obtain ⟨u, hu, hsl⟩ := hcb k hkl
                obtain ⟨hC48, HI'⟩ := unhide HIH k hkl
                have lbk := unhide HLB k (by omega)
                have labs : ∀ j, j ≤ (LL.getD k []).length → Lab (oT (lab LL k) (LL.getD k []) j) := fun j hj => oT_lab lbk (fun i hi => (HI' i hi).2.2.1) j hj
                have LSx : oT (lab LL k) (LL.getD k []) (LL.getD k []).length = lab LL (k + 1) := rfl
                obtain ⟨va, vc, eu, hua⟩ := hsl
                subst eu
                have LS := hide LSx
                have HUA := hide (fun (wx : World) (g : w2.grownBy wx none) => Sl.kept (row := none) ⟨va, vc, rfl, hua⟩ g (.inl rfl))
                have HII := hide HI'
                have LABS := hide labs
                clear hcb LSx hua HI' lbk labs
                generalize hC : LL.getD k [] = C at *
                clear hC
                generalize lab LL k = o at *
                have L1 : Hid (La w2 wr g uc N (ofL (oT o C 1) N)) := by
                  rw [oT_one]
                  exact unhide hla
                have c1 := (unhide hla).2.cell hu (fun e => by cases e)
                clear hu hla
                go_wp2_with fail
                clear z0 z1 c1
                go_loopw [8] (fun i wr => ∃ p : Nat, 1 ≤ p ∧ (p ≤ C.length ∨ p = 1) ∧ i = .int .i64 (p : Int) ∧ Hid (La w2 wr g uc N (ofL (oT o C p) N))) (fun i _ => C.length - (intOf i).toNat)
                case atStart => exact ⟨1, Nat.le_refl _, .inr rfl, rfl, L1⟩
                case round =>
                  obtain ⟨p, hp1, hp2, rfl, hla⟩ := hrel
                  clear L1
                  by_cases hpl : p < C.length
                  · have hp' : (p : Int) < (C.length : Int) := by omega
                    have h0' : (0 : Int) < (C.length : Int) := by omega
                    have h0n : 0 < C.length := by omega
                    obtain ⟨a2, cap2, e2, hua⟩ := unhide HUA _ (unhide hla).2
                    cases e2
                    rcases hua with h | ⟨b2, off2, rfl, hb2, hcb2⟩
                    · rw [h] at hpl
                      simp at hpl
                    · have c0 := hcb2 0 (by omega)
                      have c0' := c0
                      rw [Nat.add_zero] at c0'
                      have cp := hcb2 p hpl
                      obtain ⟨_, q1, q2, q3⟩ := unhide HII 0 (by omega)
                      obtain ⟨_, r1, r2, r3⟩ := unhide HII p hpl
                      have LV0 := fun w => lits.specLitVar (C.getD 0 0) w
                      have LVp := fun w => lits.specLitVar (C.getD p 0) w
                      rw [q1] at LV0
                      rw [r1] at LVp
                      have LH0 := hide LV0
                      have LHp := hide LVp
                      have cX := (unhide hla).at q3
                      have cY := (unhide hla).at r3
                      have LB := unhide LABS p (by omega)
                      have ox := LB.pos _ q2
                      have oy := LB.pos _ r2
                      have EN := oM_end (oT o C p) (vn C 0) (vn C p) N
                      rw [show join (oT o C p) (vn C 0) (vn C p) = oT o C (p + 1) from rfl] at EN
                      have HLBp := hide LB
                      clear hcb2 q1 r1 LV0 LVp LB
                      generalize vn C 0 = x at *
                      generalize vn C p = y at *
                      generalize C.getD 0 0 = l0 at *
                      generalize C.getD p 0 = lp at *
                      have hx : (x : Int) < (N : Int) + 1 := by omega
                      have hy : (y : Int) < (N : Int) + 1 := by omega
                      generalize hO : oT o C p = O at *
                      by_cases hgt : O y < O x
                      · rw [Nat.min_eq_right (by omega), Nat.max_eq_left (by omega)] at EN
                        have HEN := hide EN
                        clear EN
                        have hB1 : 1 ≤ O x := ox
                        generalize O x = B at *
                        generalize O y = A at *
                        have hgt' : (B : Int) > (A : Int) := by omega
                        have HM0 : Hid (∀ m, La w2 (wr.drewN m) g uc N (ofL (oM O A B 1) N)) := fun m => by
                          rw [oM_one (unhide HLBp) hB1]
                          exact (unhide hla).kept (sl.grown_drewN wr m)
                        clear hla
                        go_wp2_with fail
                        refine wp_region_quiet_lit (by kernel_rfl) (by kernel_rfl) ?_
                        iterate 5 (go_big_quiet_step (first | (go_at_call 91; exact Calls.quiet_of_same (unhide LH0 _))))
                        iterate 8 (go_big_quiet_step (first | (go_at_call 91; exact Calls.quiet_of_same (unhide LHp _))))
                        repeat (go_big_quiet_step (fail))
                        refine wpQuiet_nil ?_
                        intro _ hw'
                        obtain ⟨nq, hw''⟩ := hw'
                        subst hw''
                        clear cX cY c0 c0' cp
                        go_wp2_with fail
                        go_loopw [11] (fun i wr => ∃ j : Nat, 1 ≤ j ∧ j ≤ N + 1 ∧ i = .int .i64 (j : Int) ∧ Hid (La w2 wr g uc N (ofL (oM O A B j) N))) (fun i _ => N + 1 - (intOf i).toNat)
                        case atStart => exact ⟨1, Nat.le_refl _, by omega, rfl, unhide HM0 _⟩
                        case round =>
                          obtain ⟨j, j1, j2, rfl, hlj⟩ := hrel
                          clear HM0
                          have z0 := unhide Z0 _ (unhide hlj).2
                          by_cases hjl : j ≤ N
                          · have hj' : (j : Int) ≤ (N : Int) := by omega
                            have hj2 : (j : Int) < (N : Int) + 1 := by omega
                            have cj := (unhide hlj).at hjl
                            have fj := (unhide hlj).frozen j
                            rw [oM_at] at cj
                            by_cases ej : O j = B
                            · have HP := hide ((unhide hlj).put j (A : Int) (ofL_len _ _) (ofL_len _ _) (oM_yes ej hjl))
                              rw [ej] at cj
                              clear hlj
                              go_wp2_with fail
                              go_roundw
                              case rel => exact ⟨j + 1, by omega, by omega, by go_num, HP⟩
                              case measure => simp [intOf]; omega
                            · have ne : ((O j : Int) == (B : Int)) = false := by
                                rw [beq_eq_false_iff_ne]
                                omega
                              have HP := unhide hlj
                              rw [← oM_no ej] at HP
                              have HP2 := hide HP
                              clear hlj HP
                              generalize (O j : Int) = z at *
                              go_wp2_with fail
                              go_roundw
                              case rel => exact ⟨j + 1, by omega, by omega, by go_num, HP2⟩
                              case measure => simp [intOf]; omega
                          · have hj' : ¬ (j : Int) ≤ (N : Int) := by omega
                            have ej : j = N + 1 := by omega
                            have HP := unhide hlj
                            rw [ej, unhide HEN] at HP
                            have HP2 := hide HP
                            clear hlj HP
                            go_wp2_with fail
                            go_roundw
                            case rel => exact ⟨p + 1, by omega, .inl (by omega), by go_num, HP2⟩
                            case measure => simp [intOf]; omega
                      · rw [Nat.min_eq_left (by omega), Nat.max_eq_right (by omega)] at EN
                        have HEN := hide EN
                        clear EN
                        have hB1 : 1 ≤ O y := oy
                        generalize O x = A at *
                        generalize O y = B at *
                        have hgt' : ¬ (A : Int) > (B : Int) := by omega
                        have HM0 : Hid (∀ m, La w2 (wr.drewN m) g uc N (ofL (oM O A B 1) N)) := fun m => by
                          rw [oM_one (unhide HLBp) hB1]
                          exact (unhide hla).kept (sl.grown_drewN wr m)
                        clear hla
                        go_wp2_with fail
                        refine wp_region_quiet_lit (by kernel_rfl) (by kernel_rfl) ?_
                        iterate 5 (go_big_quiet_step (first | (go_at_call 91; exact Calls.quiet_of_same (unhide LH0 _))))
                        iterate 8 (go_big_quiet_step (first | (go_at_call 91; exact Calls.quiet_of_same (unhide LHp _))))
                        repeat (go_big_quiet_step (fail))
                        refine wpQuiet_nil ?_
                        intro _ hw'
                        obtain ⟨nq, hw''⟩ := hw'
                        subst hw''
                        clear cX cY c0 c0' cp
                        go_wp2_with fail
                        go_loopw [11] (fun i wr => ∃ j : Nat, 1 ≤ j ∧ j ≤ N + 1 ∧ i = .int .i64 (j : Int) ∧ Hid (La w2 wr g uc N (ofL (oM O A B j) N))) (fun i _ => N + 1 - (intOf i).toNat)
                        case atStart => exact ⟨1, Nat.le_refl _, by omega, rfl, unhide HM0 _⟩
                        case round =>
                          obtain ⟨j, j1, j2, rfl, hlj⟩ := hrel
                          clear HM0
                          have z0 := unhide Z0 _ (unhide hlj).2
                          by_cases hjl : j ≤ N
                          · have hj' : (j : Int) ≤ (N : Int) := by omega
                            have hj2 : (j : Int) < (N : Int) + 1 := by omega
                            have cj := (unhide hlj).at hjl
                            have fj := (unhide hlj).frozen j
                            rw [oM_at] at cj
                            by_cases ej : O j = B
                            · have HP := hide ((unhide hlj).put j (A : Int) (ofL_len _ _) (ofL_len _ _) (oM_yes ej hjl))
                              rw [ej] at cj
                              clear hlj
                              go_wp2_with fail
                              go_roundw
                              case rel => exact ⟨j + 1, by omega, by omega, by go_num, HP⟩
                              case measure => simp [intOf]; omega
                            · have ne : ((O j : Int) == (B : Int)) = false := by
                                rw [beq_eq_false_iff_ne]
                                omega
                              have HP := unhide hlj
                              rw [← oM_no ej] at HP
                              have HP2 := hide HP
                              clear hlj HP
                              generalize (O j : Int) = z at *
                              go_wp2_with fail
                              go_roundw
                              case rel => exact ⟨j + 1, by omega, by omega, by go_num, HP2⟩
                              case measure => simp [intOf]; omega
                          · have hj' : ¬ (j : Int) ≤ (N : Int) := by omega
                            have ej : j = N + 1 := by omega
                            have HP := unhide hlj
                            rw [ej, unhide HEN] at HP
                            have HP2 := hide HP
                            clear hlj HP
                            go_wp2_with fail
                            go_roundw
                            case rel => exact ⟨p + 1, by omega, .inl (by omega), by go_num, HP2⟩
                            case measure => simp [intOf]; omega
                  · have hp' : ¬ (p : Int) < (C.length : Int) := by omega
                    have HP : Hid (La w2 wr g uc N (ofL (lab LL (k + 1)) N)) := by
                      rw [← unhide LS]
                      by_cases e : p = C.length
                      · rw [← e]
                        exact unhide hla
                      · have h : p = 1 := by omega
                        have e : C.length = 0 := by omega
                        have h2 := unhide hla
                        rw [h, oT_one] at h2
                        rw [e]
                        exact h2
                    clear hla
                    go_wp2_with fail
                    go_roundw
                    case rel => exact ⟨k + 1, by omega, by go_num, HP⟩
                    case measure => simp [intOf]; omega
            · have hk' : ¬ (k : Int) < (LL.length : Int) := by omega
              have ek : k = LL.length := by omega
              have LB := unhide HLB LL.length (Nat.le_refl _)
              have hla2 := unhide hla
              rw [ek] at hla2
              have LA : Hid (La W1 wr g uc N (ofL (lab LL LL.length) N)) := ⟨own_mono hla2.1 (unhide HG3).size, grown_trans (unhide HG3) hla2.2⟩
              have OU : Hid (OwnS W1.heap.size wr.heap.size wr (.slice (some ⟨w.heap.size + 1, 0, none⟩) 0 0) (outs (lab LL LL.length) N 0)) := ((unhide HO3).kept hla2.2).sub (Nat.le_refl _) hla2.2.size
              have Z2 := hide (fun (wx : World) (g : W1.grownBy wx none) => ((unhide HB1).kept g).c0)
              have HLO := hide LB
              clear hla hla2 LB HLB HIH IB Z1 HO3
              generalize lab LL LL.length = o at *
              go_wp2_with fail
              clear z0 z1
              go_loopw [3, 12] (fun u i wr => ∃ q : Nat, q ≤ N ∧ i = .int .i64 ((q : Int) + 1) ∧ Hid (La W1 wr g uc N (ofL o N)) ∧ Hid (OwnS W1.heap.size wr.heap.size wr u (outs o N q))) (fun _ i _ => N + 1 - (intOf i).toNat)
              case atStart => exact ⟨0, by omega, rfl, LA, OU⟩
              case round =>
                obtain ⟨q, hq, rfl, hla, ho⟩ := hrel
                clear LA OU
                generalize wr = Wq at *
                obtain ⟨oa, oc, eo⟩ := (unhide ho).len
                subst eo
                have z0 := unhide Z2 _ (unhide hla).2
                by_cases hql : q < N
                · have hq' : (q : Int) + 1 ≤ (N : Int) := by omega
                  have hq2 : (q : Int) + 1 < (N : Int) + 1 := by omega
                  have cq0 := (unhide hla).at (show q + 1 ≤ N by omega)
                  have ol := outs_len o N q
                  obtain ⟨wA, hWA⟩ : ∃ wA, wA = Wq.alloc (.cells #[] 3) := ⟨_, rfl⟩
                  have gA : Wq.grownBy wA none := by rw [hWA]; exact World.grownBy_alloc _ _ _
                  have mA : wo.Made Wq wA (.slice (some ⟨Wq.heap.size, 0, none⟩) 0 0) [] := by rw [hWA]; exact ⟨World.ownsRow_lit Wq #[] 0 (Nat.le_refl _) (Nat.zero_le _) rfl, World.grownBy_alloc _ _ _⟩
                  have HWA := hide hWA
                  clear hWA
                  by_cases e : o (q + 1) = q + 1
                  · rw [e] at cq0
                    have CQ := hide (fun (wx : World) (g2 : Wq.grownBy wx none) => g2.cell cq0 (fun e => by cases e))
                    have MA : Hid (wo.Made Wq wA (.slice (some ⟨Wq.heap.size, 0, none⟩) 0 0) (cl (fun u => decide (o u = q + 1)) q)) := by
                      rw [cl_start (unhide HLO)]
                      exact mA
                    have OY := hide (outs_yes (n := N) e)
                    have CP := hide (cl_pos (n := N) e hql)
                    clear gA mA cq0 e
                    go_wp2_with fail
                    rw [← unhide HWA]
                    clear z0
                    go_loopw [13, 14] (fun v i wr => ∃ j : Nat, q ≤ j ∧ j ≤ N ∧ i = .int .i64 ((j : Int) + 1) ∧ Hid (wo.Made Wq wr v (cl (fun u => decide (o u = q + 1)) j))) (fun _ i _ => N + 1 - (intOf i).toNat)
                    case atStart => exact ⟨q, Nat.le_refl _, by omega, rfl, MA⟩
                    case round =>
                      obtain ⟨j, hj1, hj2, rfl, hm⟩ := hrel
                      clear MA HWA
                      have gm := (unhide hm).2
                      have la := (unhide hla).kept gm
                      have z1 := unhide Z2 _ la.2
                      obtain ⟨va, vc, ev, _⟩ := Sl.of_own (unhide hm).1
                      subst ev
                      have cq := unhide CQ _ gm
                      rw [show ((q + 1 : Nat) : Int) = (q : Int) + 1 from by omega] at cq
                      have jl := cl_len (fun u => decide (o u = q + 1)) j
                      by_cases hjl : j < N
                      · have hj' : (j : Int) + 1 ≤ (N : Int) := by omega
                        have hj3 : (j : Int) + 1 < (N : Int) + 1 := by omega
                        have cj := la.at (show j + 1 ≤ N by omega)
                        by_cases ej : o (j + 1) = q + 1
                        · have cy := cl_yes (P := fun u => decide (o u = q + 1)) (m := j) (decide_eq_true ej)
                          rw [show ((j + 1 : Nat) : Int) = (j : Int) + 1 from by omega] at cy
                          rw [ej, show ((q + 1 : Nat) : Int) = (q : Int) + 1 from by omega] at cj
                          obtain ⟨P2, hP2⟩ : ∃ P2, P2 = cl (fun u => decide (o u = q + 1)) (j + 1) := ⟨_, rfl⟩
                          rw [← hP2] at cy
                          have HP := hide hP2
                          have HQ := hide cy
                          have hg := hide gm
                          have hr := hide (unhide hm).1
                          have lw : (cl (fun u => decide (o u = q + 1)) j).length ≤ 4194304 := by omega
                          clear hP2 cy hm la gm ej
                          generalize cl (fun u => decide (o u = q + 1)) j = M at *
                          go_wp2_with (first | (at_builtin; refine wo.append1 (unhide hg) (unhide hr) lw rfl _ _ rfl rfl rfl ?_) | fail)
                          intro v' w3 R2
                          have R3 : Hid (wo.Made Wq w3 v' P2) := by
                            rw [unhide HQ]
                            exact R2
                          clear R2 HQ hg hr cq cj z1
                          go_wp2_with fail
                          go_roundw
                          case rel => exact ⟨j + 1, by omega, by omega, by go_num, by rw [← unhide HP]; exact R3⟩
                          case measure => simp [intOf]; omega
                        · have cn := cl_no (P := fun u => decide (o u = q + 1)) (m := j) (decide_eq_false ej)
                          have ne : ((o (j + 1) : Int) == (q : Int) + 1) = false := by
                            rw [beq_eq_false_iff_ne]
                            omega
                          have HM := unhide hm
                          have HM2 : Hid (wo.Made Wq wr (.slice va (cl (fun u => decide (o u = q + 1)) j).length vc) (cl (fun u => decide (o u = q + 1)) (j + 1))) := by
                            rw [cn]
                            exact HM
                          clear HM cn hm la gm ej
                          generalize (o (j + 1) : Int) = z at *
                          go_wp2_with fail
                          go_roundw
                          case rel => exact ⟨j + 1, by omega, by omega, by go_num, HM2⟩
                          case measure => simp [intOf]; omega
                      · have ej : j = N := by omega
                        have hn' : ¬ (N : Int) + 1 ≤ (N : Int) := by omega
                        rw [ej] at hm jl ⊢
                        have HO := hide ((unhide ho).kept gm)
                        have HR := hide (Own.of (unhide hm).1)
                        have l1 := (unhide hla).2.size
                        have l2 := gm.size
                        have HG := hide gm
                        have hL0 := unhide CP
                        clear CP hm la gm cq
                        generalize cl (fun u => decide (o u = q + 1)) N = L at *
                        go_wp2_with (first | (at_builtin; refine gr.appendR (unhide HO) (unhide HR) l1 l2 (by omega) rfl _ _ rfl rfl rfl ?_) | fail)
                        intro g7 cap7 w6 o6 g6
                        have HL6 := hide ((unhide hla).grow (ofL_len _ _) (unhide ho) (unhide HG) g6)
                        have HN6 : Hid (OwnS W1.heap.size w6.heap.size w6 (.slice (some ⟨g7, 0, none⟩) ((outs o N q).length + 1) cap7) (outs o N (q + 1))) := by
                          rw [unhide OY]
                          exact o6
                        clear o6 g6 HO HR HG hla ho z1 CQ
                        go_wp2_with fail
                        go_roundw
                        case rel => exact ⟨q + 1, by omega, by go_num, HL6, HN6⟩
                        case measure => simp [intOf]; omega
                  · have on := outs_no (n := N) e
                    have ne : ((o (q + 1) : Int) == (q : Int) + 1) = false := by
                      rw [beq_eq_false_iff_ne]
                      omega
                    have cqA := gA.cell cq0 (fun e => by cases e)
                    have zA := unhide Z2 _ ((unhide hla).kept gA).2
                    have HL6 := hide ((unhide hla).kept gA)
                    have HN6 : Hid (OwnS W1.heap.size wA.heap.size wA (.slice oa (outs o N q).length oc) (outs o N (q + 1))) := by
                      rw [on]
                      exact ((unhide ho).kept gA).sub (Nat.le_refl _) gA.size
                    clear mA gA cq0 e on hla ho
                    generalize (o (q + 1) : Int) = z at *
                    go_wp2_with fail
                    rw [← unhide HWA]
                    clear z0
                    go_loopw [13, 14] (fun v i wr => v = .slice (some ⟨Wq.heap.size, 0, none⟩) 0 0 ∧ i = .int .i64 ((q : Int) + 1) ∧ Hid (wr = wA)) (fun _ i _ => N + 1 - (intOf i).toNat)
                    case atStart => exact ⟨rfl, rfl, rfl⟩
                    case round =>
                      obtain ⟨rfl, rfl, hw⟩ := hrel
                      have hw' := unhide hw
                      clear hw HWA
                      subst hw'
                      go_wp2_with fail
                      go_roundw
                      case rel => exact ⟨q + 1, by omega, by go_num, HL6, HN6⟩
                      case measure => simp [intOf]; omega
                · have hq' : ¬ (q : Int) + 1 ≤ (N : Int) := by omega
                  have eq : q = N := by omega
                  subst eq
                  have GF := hide (unhide hla).2
                  clear hla Z0 Z2
                  go_wp2_with fail
                  go_ret
                  refine ⟨_, rfl, ?_, ?_⟩
                  · rw [unhide E]
                    exact (unhide ho).sub (unhide G1).size (Nat.le_refl _)
                  · exact grown_trans (unhide G1) (unhide GF)
end Go.Proofs.YtibpnocpafppaaaDoor.fi
