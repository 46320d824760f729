/- Project of the model, at every formula that holds at most 2^20 values and any number. -/
import Derived.Test.YtibpnocpafppaaaDoorJXJd
import Derived.Test.YtibpnocpafppaaaDoorJXJc
import Derived.Test.YtibpnocpafppaaaDoorJXDf
import Derived.Test.YtibpnocpafppaaaDoorJXCt
namespace Go.Proofs.YtibpnocpafppaaaDoor.jf
open Go.ChangeShapes Go.WideShapes Go.ChangeAt Go.RowKit
open sl (Sl Own ints hide unhide ret_int ret_bool grown_refl grown_trans)
open css (Sls tot)
open cf (Box)
open ok (cnfB clB)
open tr (cnfT clT)
open wo (Made)
open cnt (cntR asg asg_len)
open ct (pow2 assign pow_bd cntR_le)
open jd (fM projN projI proj_asg proj_no proj_yes)
set_option linter.unusedVariables false
set_option maxRecDepth 100000 in
set_option maxHeartbeats 2000000 in
theorem specProject (v : Value) (n x : Int) (LL : List (List Int)) (w : World) (hn : tot LL ≤ 1048576) (hv : Sls w v LL) :
  Calls Tryd.prog 25 #[.agg #[.int .i64 n, v], .int .i64 x] w fun e w' => e = .returned (.int .i64 (projI n x LL)) ∧ w.grownBy w' none := by
 have g0 := World.grownBy_alloc w (.cells #[.int .i64 n, v] 26) none
 have cc := ok.specCnfOk v n LL _ hn (hv.kept g0)
 have F0 := hide (Box.new 26 w (.int .i64 n) v)
 have G0 := hide g0
 have HV := hide hv
 have LI := hide (fun w1 => ok.l01In x 1 n w1)
 clear hv g0
 cases hb : cnfB n LL
 ·rw [hb] at cc
  have CC := hide cc
  have E := hide (show projI n x LL = -1 from proj_no (.inl (by unfold ge.hvB; rw [hb]; rfl)))
  clear cc hb HV LI
  go_enter Tryd.func25, Tryd.ntmps25
  go_wp2_with fail
  refine (unhide CC).mono ?_; rintro e w2 ⟨rfl, g2⟩
  have G2 := hide (grown_trans (r := none) (unhide G0) g2)
  have x0 := ((unhide F0).kept g2).c0
  clear g2 F0
  go_wp2_with fail
  go_ret
  exact ⟨ret_int (unhide E).symm, unhide G2⟩
 rw [hb] at cc
 have CC := hide cc
 by_cases hd : 1 ≤ x ∧ x ≤ n
 ·have hd' : decide (1 ≤ x ∧ x ≤ n) = true := decide_eq_true hd
  rw [hd'] at LI
  have hvb : ge.hvB n x LL = true := by unfold ge.hvB; rw [hb, hd']; rfl
  by_cases h14 : n ≤ 14
  ·obtain ⟨m, rfl⟩ := Int.eq_ofNat_of_zero_le (show 0 ≤ n by omega)
   obtain ⟨i, rfl⟩ : ∃ i : Nat, x = (i : Int) + 1 := ⟨(x - 1).toNat, by omega⟩
   have hm : m ≤ 14 := by omega
   have him : i < m := by omega
   have E := hide (show projI (m : Int) ((i : Int) + 1) LL = ((cntR (2 ^ m) (fun k => fM i LL (asg m k [])) : Nat) : Int) by
    rw [show ((i : Int) + 1) = ((i + 1 : Nat) : Int) by omega] at hvb ⊢
    rw [proj_yes hvb hm, ← proj_asg]
    rfl)
   have h14' : ¬ (14 : Int) < (m : Int) := by omega
   have hp := pow_bd hm
   have HD := hide hd
   have HW := hide (show IntKind.i64.wrap ((i : Int) + 1 - 1) = (i : Int) by rw [IntKind.wrap_i64]; omega)
   clear cc hb h14 hvb hd hd'
   go_enter Tryd.func25, Tryd.ntmps25
   go_wp2_with fail
   refine (unhide CC).mono ?_; rintro e w2 ⟨rfl, g2⟩
   have G2 := hide (grown_trans (r := none) (unhide G0) g2)
   have F2 := hide ((unhide F0).kept g2)
   have x0 := (unhide F2).c0
   clear g2 F0 G0 CC
   go_wp2_with fail
   refine (unhide LI _).mono ?_; rintro e w3 ⟨rfl, hw⟩; have hw' := hw.symm; clear hw; subst hw'
   clear LI
   go_wp2_with fail
   clear x0
   go_loopw [5, 6] (fun c y wr => ∃ k : Nat, k ≤ 2 ^ m ∧ y = .int .i64 k ∧ c = .int .i64 (cntR k (fun k => fM i LL (asg m k [])) : Nat) ∧ Hid (w2.grownBy wr none)) (fun _ y _ => 2 ^ m - (intOf y).toNat)
   case atStart => exact ⟨0, Nat.zero_le _, rfl, rfl, grown_refl _⟩
   case round =>
    obtain ⟨k, hk, rfl, rfl, hg⟩ := hrel
    have F3 := hide ((unhide F2).kept (unhide hg))
    have y0 := (unhide F3).c0
    have y1 := (unhide F3).c1
    have G3 := hide (grown_trans (r := none) (unhide G2) (unhide hg))
    have CP := hide (pow2 m wr hm)
    have hc := cntR_le k (fun k => fM i LL (asg m k []))
    have hs := cnt.cntR_succ k (fun k => fM i LL (asg m k []))
    generalize hq : cntR k (fun k => fM i LL (asg m k [])) = q at *
    have HQ := hide hq
    clear hq F2
    generalize hP : (2 : Nat) ^ m = P at *
    by_cases hlt : k < P
    ·have hi : (k : Int) < (P : Int) := by omega
     have CA := hide (assign m k wr hm (by omega))
     have hX := asg_len m k []
     generalize asg m k [] = X at *
     simp only [List.length_nil, Nat.add_zero] at hX
     have hil : i < X.length := by omega
     have hilz : (i : Int) < (X.length : Int) := by omega
     have HX := hide hX
     have hX20 : X.length ≤ 1048576 := by omega
     clear hX
     have CT := hide (fun (u : Value) (A : List Int) (w3 : World) (g : wr.grownBy w3 none) (hA : A.length ≤ 1048576) (hs : Sl w3 u A) => tr.l02True v u (m : Int) LL A w3 hn hA (((unhide HV).kept (unhide G3)).kept g) hs)
     have CK := hide (fun (w3 : World) (g : wr.grownBy w3 none) => And.intro ((unhide F3).kept g).c0 ((unhide F3).kept g).c1)
     clear hP HV
     go_wp2_with (go_at_call 84; refine (unhide CP).mono ?_; rintro e w4 ⟨rfl, hw⟩; have hw' := hw.symm; clear hw; subst hw')
     by_cases hz : X.getD i 0 = 1
     ·have hf : fM i LL X = false := by unfold jd.fM; rw [decide_eq_true hz]; rfl
      rw [hf] at hs
      have HS := hide hs
      clear hs hf CT
      go_wp2_with (go_at_call 85; refine (unhide CA).mono ?_; rintro e w5 ⟨u5, rfl, m5⟩; obtain ⟨g5, cap5, rfl, _⟩ := jb.own_some (Own.of m5.1) (by omega); have c5 := jb.own_cell (Own.of m5.1) hil; rw [hz] at c5; have G5 := hide m5.2; clear m5)
      go_roundw
      case rel => exact ⟨k + 1, by omega, by go_num, by rw [unhide HS]; rfl, grown_trans (r := none) (unhide hg) (unhide G5)⟩
      case measure => simp [intOf]; omega
     ·have hf : fM i LL X = (cnfT X LL || cnfT (X.set i 1) LL) := by unfold jd.fM; rw [decide_eq_false hz]; rfl
      rw [hf] at hs
      have HS := hide hs
      have HL := hide (show (X.set i 1).length ≤ 1048576 by rw [List.length_set]; omega)
      generalize hz1 : X.getD i 0 = z at *
      have hzb : (z == 1) = false := by simp [hz]
      clear hs hf
      go_wp2_with fail
      refine (unhide CA).mono ?_
      rintro e w5 ⟨u5, rfl, m5⟩
      obtain ⟨g5, cap5, rfl, _⟩ := jb.own_some (Own.of m5.1) (by omega)
      have c5 := jb.own_cell (Own.of m5.1) hil
      rw [hz1] at c5
      have G5 := hide m5.2
      have O5 := hide (Own.of m5.1)
      have U5 := hide ((Own.of m5.1).kept (World.grownBy_alloc w5 (.cells #[] 3) none))
      have M3 := hide (app.made_nil w5)
      have hab1 : ([] : List Int).length + X.length ≤ 4194304 := by simp; omega
      clear m5
      go_wp2_with (at_builtin; refine app.appendI (A := []) (unhide M3).2 (unhide M3).1 (unhide U5) hab1 rfl _ _ rfl rfl rfl ?_)
      intro v8 w8 m8 _
      have m8' : Made w5 w8 v8 X := m8
      obtain ⟨g8, cap8, rfl, _⟩ := jb.own_some (Own.of m8'.1) (by omega)
      obtain ⟨⟨u6, cb6⟩, fb6, mA, _⟩ := df.stored i 1 m8' hil
      have O6 := hide ((unhide O5).kept mA.2)
      have G6 := hide (grown_trans (r := none) (unhide G5) mA.2)
      have ma := Own.of mA.1
      simp only [List.length_set] at ma
      have MA := hide ma
      clear ma
      clear m8 m8' mA M3 U5 c5 O5
      have k5 := (unhide CK _ (unhide G6)).1
      have k6 := (unhide CK _ (unhide G6)).2
      have C1 := hide (unhide CT _ X _ (unhide G6) hX20 (unhide O6).sl)
      have C2 := hide (fun (w9 : World) (g : (w8.setCell ⟨g8, i, none⟩ (.int .i64 1)).grownBy w9 none) => unhide CT _ (X.set i 1) w9 (grown_trans (r := none) (unhide G6) g) (unhide HL) ((unhide MA).kept g).sl)
      have CK2 := hide (fun (w9 : World) (g : (w8.setCell ⟨g8, i, none⟩ (.int .i64 1)).grownBy w9 none) => unhide CK _ (grown_trans (r := none) (unhide G6) g))
      clear CK CT O6 MA
      cases ha : cnfT X LL
      ·rw [ha] at HS C1
       rw [Bool.false_or] at HS
       clear ha
       go_wp2_with fail
       refine (unhide C1).mono ?_
       rintro e w9 ⟨rfl, g9⟩
       have k7 := (unhide CK2 _ g9).1
       have k8 := (unhide CK2 _ g9).2
       have C3 := hide (unhide C2 _ g9)
       have G9 := hide (grown_trans (r := none) (unhide G6) g9)
       clear g9 C1 C2 CK2 k5 k6 cb6 fb6
       cases hb : cnfT (X.set i 1) LL
       ·rw [hb] at HS C3
        clear hb
        go_wp2_with fail
        refine (unhide C3).mono ?_
        rintro e w10 ⟨rfl, g10⟩
        have G10 := hide (grown_trans (r := none) (unhide G9) g10)
        clear g10 C3 k7 k8
        go_wp2_with fail
        go_roundw
        case rel => exact ⟨k + 1, by omega, by go_num, by rw [unhide HS]; rfl, grown_trans (r := none) (unhide hg) (unhide G10)⟩
        case measure => simp [intOf]; omega
       ·rw [hb] at HS C3
        clear hb
        go_wp2_with fail
        refine (unhide C3).mono ?_
        rintro e w10 ⟨rfl, g10⟩
        have G10 := hide (grown_trans (r := none) (unhide G9) g10)
        clear g10 C3 k7 k8
        go_wp2_with fail
        go_roundw
        case rel => exact ⟨k + 1, by omega, by go_num, by rw [unhide HS]; go_num, grown_trans (r := none) (unhide hg) (unhide G10)⟩
        case measure => simp [intOf]; omega
      ·rw [ha] at HS C1
       rw [Bool.true_or] at HS
       clear ha
       go_wp2_with fail
       refine (unhide C1).mono ?_
       rintro e w9 ⟨rfl, g9⟩
       have G9 := hide (grown_trans (r := none) (unhide G6) g9)
       clear g9 C1 C2 CK2 k5 k6 cb6 fb6
       go_wp2_with fail
       go_roundw
       case rel => exact ⟨k + 1, by omega, by go_num, by rw [unhide HS]; go_num, grown_trans (r := none) (unhide hg) (unhide G9)⟩
       case measure => simp [intOf]; omega
    ·have hi : ¬ (k : Int) < (P : Int) := by omega
     have hkP : k = P := by omega
     have E2 : Hid ((q : Int) = projI (m : Int) ((i : Int) + 1) LL) := by
      show _ = _
      rw [unhide E, ← unhide HQ, hkP]
     clear HV hkP hP HQ hs E
     go_wp2_with (go_at_call 84; refine (unhide CP).mono ?_; rintro e w4 ⟨rfl, hw⟩; have hw' := hw.symm; clear hw; subst hw')
     go_ret
     exact ⟨ret_int (unhide E2), unhide G3⟩
  ·have E := hide (show projI n x LL = -1 from proj_no (.inr h14))
   have h14' : (14 : Int) < n := by omega
   clear cc hb HV hvb hd hd'
   go_enter Tryd.func25, Tryd.ntmps25
   go_wp2_with fail
   refine (unhide CC).mono ?_; rintro e w2 ⟨rfl, g2⟩
   have G2 := hide (grown_trans (r := none) (unhide G0) g2)
   have x0 := ((unhide F0).kept g2).c0
   clear g2 F0
   go_wp2_with fail
   refine (unhide LI _).mono ?_; rintro e w3 ⟨rfl, hw⟩; have hw' := hw.symm; clear hw; subst hw'
   go_wp2_with fail
   go_ret
   exact ⟨ret_int (unhide E).symm, unhide G2⟩
 ·have hd' : decide (1 ≤ x ∧ x ≤ n) = false := decide_eq_false hd
  rw [hd'] at LI
  have E := hide (show projI n x LL = -1 from proj_no (.inl (by unfold ge.hvB; rw [hb, hd']; rfl)))
  clear cc hb HV hd hd'
  go_enter Tryd.func25, Tryd.ntmps25
  go_wp2_with fail
  refine (unhide CC).mono ?_; rintro e w2 ⟨rfl, g2⟩
  have G2 := hide (grown_trans (r := none) (unhide G0) g2)
  have x0 := ((unhide F0).kept g2).c0
  clear g2 F0
  go_wp2_with fail
  refine (unhide LI _).mono ?_; rintro e w3 ⟨rfl, hw⟩; have hw' := hw.symm; clear hw; subst hw'
  go_wp2_with fail
  go_ret
  exact ⟨ret_int (unhide E).symm, unhide G2⟩
end Go.Proofs.YtibpnocpafppaaaDoor.jf
