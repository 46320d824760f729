/- Unit, Force and Leaves of the program beside the model's. -/
import Derived.Test.YtloenjaonkdlaaaDoorWe
import Derived.Test.YtloenjaonkdlaaaDoorLv
import Derived.Deep.RegionHeld3
namespace Go.Proofs.YtloenjaonkdlaaaDoor.sp
open Go.ChangeShapes Go.WideShapes Go.ChangeAt Go.RowKit
open Go.Proofs.YtloenjaonkdlaaaDoor.lits (okB varI okB_iff)
open Go.Proofs.YtloenjaonkdlaaaDoor.bset (setOf setOf_lt)
open Go.Proofs.YtloenjaonkdlaaaDoor.srt (Tab)
open Go.Proofs.YtloenjaonkdlaaaDoor.css (Sls tot)
open Go.Proofs.YtloenjaonkdlaaaDoor.cf (Box)
open Go.Proofs.YtloenjaonkdlaaaDoor.ok (cnfB litIn clB)
open Go.Proofs.YtloenjaonkdlaaaDoor.wo (Made)
open Go.Proofs.YtloenjaonkdlaaaDoor.wm hiding tot
open Go.Proofs.YtloenjaonkdlaaaDoor.sl (Sl Own ints hide unhide ret_int ret_bool grown_refl grown_trans grown_drewN)
set_option linter.unusedVariables false
theorem bothU (n : Int) (LL : List (List Int)) (L : List Int) (hn : tot LL ≤ 1048576) (hL : L.length ≤ 1048576) : ∃ (X : Int) (Y : Bool),
    (∀ v u w, Sls w v LL → Sl w u L → Calls Tryd.prog 53 #[.agg #[.int .i64 n, v], u] w fun e w' => e = .returned (.tuple #[.int .i64 X, .bool Y]) ∧ w.grownBy w' none) ∧
    (∀ v u w, srt.Tab w → Sls w v LL → Sl w u L → Calls Tryd.prog 29 #[.agg #[.int .i64 n, v], u] w fun e w' => e = .returned (.tuple #[.int .i64 X, .bool Y]) ∧ w.grownBy w' none) :=
  ⟨_, _, fun v u w h k => specUnit v u n LL L w hn hL h k, fun v u w t h k => implUnit v u n LL L w t hn hL h k⟩
theorem bothF (n : Int) (LL : List (List Int)) (L : List Int) (hn : tot LL ≤ 1048576) (hL : L.length ≤ 1048576) : ∃ (R : List Int) (b : Bool), R.length ≤ 1048700 ∧
    (∀ v u lo hi w, Sls w v LL → Own lo hi w u L → Calls Tryd.prog 26 #[.agg #[.int .i64 n, v], u] w fun e w' => ∃ r, e = .returned (.tuple #[r, .bool b]) ∧ w'.ownsRow w.heap.size 3 1 r R.length (ints R) ∧ w.grownBy w' none) ∧
    (∀ v u lo hi w, srt.Tab w → Sls w v LL → Own lo hi w u L → Calls Tryd.prog 25 #[.agg #[.int .i64 n, v], u] w fun e w' => ∃ r, e = .returned (.tuple #[r, .bool b]) ∧ w'.ownsRow w.heap.size 3 1 r R.length (ints R) ∧ w.grownBy w' none) :=
  ⟨_, _, Nat.le_trans (forceB_len n LL L) (by omega), fun v u lo hi w h k => specForce v u n LL L lo hi w hn hL h k, fun v u lo hi w t h k => implForce v u n LL L lo hi w t hn hL h k⟩
set_option maxRecDepth 100000 in
set_option maxHeartbeats 4000000 in
theorem implLeaves (v u : Value) (n : Int) (LL : List (List Int)) (L : List Int) (w : World) (hT : Tab w) (hn : tot LL ≤ 1048576) (hL : L.length ≤ 1048576) (hv : Sls w v LL) (hu : Sl w u L) :
    Calls Tryd.prog 32 #[.agg #[.int .i64 n, v], u] w fun e w' => e = .returned (.bool (leavesB n LL L)) ∧ w.grownBy w' none := by
  have g0 := World.grownBy_alloc w (.cells #[.int .i64 n, v] 34) none
  have cc := ok.implCnfOk v n LL _ hn (hv.kept g0)
  have F0 := hide (Box.new 34 w (.int .i64 n) v)
  have G0 := hide g0
  have HU := hide (hu.kept g0 (.inl rfl))
  have HV := hide (hv.kept g0)
  have HT := hide (hT.kept g0)
  clear g0 hu hv hT 
  have x0 := (unhide F0).c0
  have x1 := (unhide F0).c1
  cases hc : cnfB n LL
  · have E := hide (show leavesB n LL L = false by unfold leavesB; rw [hc]; rfl)
    rw [hc] at cc
    have CC := hide cc
    clear cc hc HU HV
    go_enter Tryd.func32, Tryd.ntmps32
    go_wp2_with fail
    refine (unhide CC).mono ?_; rintro e w2 ⟨rfl, g2⟩
    have G2 := hide (grown_trans (r := none) (unhide G0) g2)
    clear g2 x0 x1
    go_wp2_with fail
    go_ret
    exact ⟨ret_bool (unhide E).symm, unhide G2⟩
  · rw [hc] at cc
    have CC := hide cc
    have hok := hide (okU_facts hc)
    cases hb : clB n L
    · have E := hide (show leavesB n LL L = false by unfold leavesB; rw [hc, hb]; rfl)
      have HB := hide hb
      clear cc hc hb
      go_enter Tryd.func32, Tryd.ntmps32
      go_wp2_with fail
      refine (unhide CC).mono ?_; rintro e w2 ⟨rfl, g2⟩
      have G2 := hide (grown_trans (r := none) (unhide G0) g2)
      have cl := ok.clauseOf u L n w2 hL ((unhide HU).kept g2 (.inl rfl))
      rw [unhide HB] at cl
      have CL := hide cl
      have F2 := hide ((unhide F0).kept g2)
      clear g2 x0 x1 cl
      have z0 := (unhide F2).c0
      have z1 := (unhide F2).c1
      go_wp2_with fail
      refine (unhide CL).mono ?_; rintro e w3 ⟨rfl, hw⟩; have hw' := hw.symm; clear hw; subst hw'
      go_wp2_with fail
      go_ret
      exact ⟨ret_bool (unhide E).symm, unhide G2⟩
    · have E := hide (show leavesB n LL L = !(frc (LL.map setOf) 49 (setOf (negL L)) (negL L)).2 by unfold leavesB; rw [hc, hb]; rfl)
      have HB := hide hb
      have HO := hide (cl_ok hb)
      have HC := hide hc
      clear cc hc hb
      go_enter Tryd.func32, Tryd.ntmps32
      go_wp2_with fail
      refine (unhide CC).mono ?_; rintro e w2 ⟨rfl, g2⟩
      have G2 := hide (grown_trans (r := none) (unhide G0) g2)
      have cl := ok.clauseOf u L n w2 hL ((unhide HU).kept g2 (.inl rfl))
      rw [unhide HB] at cl
      have CL := hide cl
      have F2 := hide ((unhide F0).kept g2)
      have U2 := hide ((unhide HU).kept g2 (.inl rfl))
      have V2 := hide ((unhide HV).kept g2)
      have T2 := hide ((unhide HT).kept g2)
      clear g2 x0 x1 cl HU HV
      have z0 := (unhide F2).c0
      have z1 := (unhide F2).c1
      go_wp2_with fail
      refine (unhide CL).mono ?_; rintro e w3 ⟨rfl, hw⟩; have hw' := hw.symm; clear hw; subst hw'
      have CO := hide (oppositesOf u L w2.drew hL (unhide HO) ((unhide U2).kept (cf.grown_drew w2 none) (.inl rfl)))
      have hnl : (negL L).length ≤ 1048576 := by unfold negL; rw [List.length_map]; exact hL
      have CF := hide (fun (r : Value) (w3 : World) (g : w2.grownBy w3 none) (m : Made w2.drew w3 r (negL L)) => (by have := implForce v r n LL (negL L) _ _ w3 ((unhide T2).kept g) hn hnl ((unhide V2).kept g) (Own.of m.1); rw [force_neg (unhide HC) (unhide HB)] at this; exact this : Calls Tryd.prog 25 #[.agg #[.int .i64 n, v], r] w3 fun e w' => ∃ q, e = .returned (.tuple #[q, .bool (frc (LL.map setOf) 49 (setOf (negL L)) (negL L)).2]) ∧ Made w3 w' q (frc (LL.map setOf) 49 (setOf (negL L)) (negL L)).1))
      have CK := hide (fun (w3 : World) (g : w2.grownBy w3 none) => And.intro ((unhide F2).kept g).c0 ((unhide F2).kept g).c1)
      clear CL HO
      generalize hF : frc (LL.map setOf) 49 (setOf (negL L)) (negL L) = F at *
      obtain ⟨FL, FB⟩ := F
      go_upto_region 3 with fail
      go_region_held3 (fun w' => w'.cell? ⟨w.heap.size, 0, none⟩ = some (.int .i64 n) ∧ w'.cell? ⟨w.heap.size, 1, none⟩ = some v) (go_keep) (first
        | (go_at_call 89; refine (unhide CO).mono ?_; rintro e w5 ⟨u5, rfl, m5⟩; have G5 := hide (grown_trans (r := none) (cf.grown_drew w2 none) m5.2); have C5 := hide (unhide CF u5 w5 (unhide G5) m5); have k1 := (unhide CK w5 (unhide G5)).1; have k2 := (unhide CK w5 (unhide G5)).2; clear m5)
        | (go_at_call 25; refine (unhide C5).mono ?_; rintro e w6 ⟨r6, rfl, m6⟩; have G6 := hide (grown_trans (r := none) (unhide G5) m6.2); have k3 := (unhide CK w6 (unhide G6)).1; have k4 := (unhide CK w6 (unhide G6)).2; clear m6))
      all_goals
        go_wp2_with fail
        go_ret
        exact ⟨ret_bool (by rw [unhide E]), grown_trans (unhide G2) (unhide G6)⟩
theorem bothL (n : Int) (LL : List (List Int)) (L : List Int) (hn : tot LL ≤ 1048576) (hL : L.length ≤ 1048576) : ∃ b : Bool,
    (∀ v u w, Sls w v LL → Sl w u L → Calls Tryd.prog 33 #[.agg #[.int .i64 n, v], u] w fun e w' => e = .returned (.bool b) ∧ w.grownBy w' none) ∧
    (∀ v u w, Tab w → Sls w v LL → Sl w u L → Calls Tryd.prog 32 #[.agg #[.int .i64 n, v], u] w fun e w' => e = .returned (.bool b) ∧ w.grownBy w' none) :=
  ⟨_, fun v u w h k => specLeaves v u n LL L w hn hL h k, fun v u w t h k => implLeaves v u n LL L w t hn hL h k⟩
end Go.Proofs.YtloenjaonkdlaaaDoor.sp
