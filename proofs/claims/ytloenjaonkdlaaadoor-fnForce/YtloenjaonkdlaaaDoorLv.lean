/- What Leaves (of the program and of its model) answers at every formula that holds at most 2^20 values and every list of at most 2^20 numbers, where the library's table of places lies as its text lays it. -/
import Derived.Test.YtloenjaonkdlaaaDoorSt
import Derived.Test.YtloenjaonkdlaaaDoorOg
import Derived.Deep.RegionHeld3
namespace Go.Proofs.YtloenjaonkdlaaaDoor.sp
open Go.ChangeShapes Go.WideShapes Go.ChangeAt Go.RowKit
open Go.Proofs.YtloenjaonkdlaaaDoor.lits (okB varI okB_iff)
open Go.Proofs.YtloenjaonkdlaaaDoor.bset (setOf setOf_lt)
open Go.Proofs.YtloenjaonkdlaaaDoor.srt (Tab)
open Go.Proofs.YtloenjaonkdlaaaDoor.css (Sls tot)
open Go.Proofs.YtloenjaonkdlaaaDoor.cf (Box)
open Go.Proofs.YtloenjaonkdlaaaDoor.ok (cnfB litIn clB)
open Go.Proofs.YtloenjaonkdlaaaDoor.wo (Made)
open Go.Proofs.YtloenjaonkdlaaaDoor.wm
open Go.Proofs.YtloenjaonkdlaaaDoor.sl (Sl Own ints hide unhide ret_int ret_bool grown_refl grown_trans grown_drewN)
set_option linter.unusedVariables false

/-- whether a clause follows at once -/
def leavesB (n : Int) (LL : List (List Int)) (L : List Int) : Bool := cnfB n LL && clB n L && !(frc (LL.map setOf) 49 (setOf (negL L)) (negL L)).2
theorem cl_ok {n : Int} {L : List Int} (h : clB n L = true) : ∀ x ∈ L, okB x = true := by
  unfold ok.clB at h
  rw [Bool.and_eq_true, List.all_eq_true] at h
  intro x hx
  have := h.1 x hx
  unfold ok.litIn at this
  rw [Bool.and_eq_true] at this
  exact this.1
theorem neg_in {n : Int} {L : List Int} (h : clB n L = true) : (negL L).all (litIn n) = true := by
  unfold ok.clB at h
  rw [Bool.and_eq_true, List.all_eq_true] at h
  rw [List.all_eq_true]
  intro y hy
  unfold negL at hy
  rw [List.mem_map] at hy
  obtain ⟨x, hx, rfl⟩ := hy
  have := h.1 x hx
  unfold ok.litIn at this ⊢
  rw [Bool.and_eq_true, decide_eq_true_iff] at this
  have a := okB_iff.1 this.1
  have b := okB_iff.1 (opp_ok this.1)
  have v := this.2
  rw [lits.varI_yes a] at v
  rw [opp_ok this.1, lits.varI_yes b, Bool.true_and, decide_eq_true_iff]
  split at v <;> split <;> omega
theorem force_neg {n : Int} {LL : List (List Int)} {L : List Int} (hc : cnfB n LL = true) (hb : clB n L = true) : forceB n LL (negL L) = frc (LL.map setOf) 49 (setOf (negL L)) (negL L) := by
  unfold wm.forceB wm.okU
  rw [hc, neg_in hb]
  rfl

set_option maxRecDepth 100000 in
set_option maxHeartbeats 4000000 in
theorem specLeaves (v u : Value) (n : Int) (LL : List (List Int)) (L : List Int) (w : World) (hn : tot LL ≤ 1048576) (hL : L.length ≤ 1048576) (hv : Sls w v LL) (hu : Sl w u L) :
    Calls Tryd.prog 33 #[.agg #[.int .i64 n, v], u] w fun e w' => e = .returned (.bool (leavesB n LL L)) ∧ w.grownBy w' none := by
  have g0 := World.grownBy_alloc w (.cells #[.int .i64 n, v] 34) none
  have cc := ok.specCnfOk v n LL _ hn (hv.kept g0)
  have F0 := hide (Box.new 34 w (.int .i64 n) v)
  have G0 := hide g0
  have HU := hide (hu.kept g0 (.inl rfl))
  have HV := hide (hv.kept g0)
  clear g0 hu hv 
  have x0 := (unhide F0).c0
  have x1 := (unhide F0).c1
  cases hc : cnfB n LL
  · have E := hide (show leavesB n LL L = false by unfold leavesB; rw [hc]; rfl)
    rw [hc] at cc
    have CC := hide cc
    clear cc hc HU HV
    go_enter Tryd.func33, Tryd.ntmps33
    go_wp2_with fail
    refine (unhide CC).mono ?_; rintro e w2 ⟨rfl, g2⟩
    have G2 := hide (grown_trans (r := none) (unhide G0) g2)
    clear g2 x0 x1
    go_wp2_with fail
    go_ret
    exact ⟨ret_bool (unhide E).symm, unhide G2⟩
  · rw [hc] at cc
    have CC := hide cc
    have hok := hide (okU_facts hc)
    cases hb : clB n L
    · have E := hide (show leavesB n LL L = false by unfold leavesB; rw [hc, hb]; rfl)
      have HB := hide hb
      clear cc hc hb
      go_enter Tryd.func33, Tryd.ntmps33
      go_wp2_with fail
      refine (unhide CC).mono ?_; rintro e w2 ⟨rfl, g2⟩
      have G2 := hide (grown_trans (r := none) (unhide G0) g2)
      have cl := ok.specClause u L n w2 hL ((unhide HU).kept g2 (.inl rfl))
      rw [unhide HB] at cl
      have CL := hide cl
      have F2 := hide ((unhide F0).kept g2)
      clear g2 x0 x1 cl
      have z0 := (unhide F2).c0
      have z1 := (unhide F2).c1
      go_wp2_with fail
      refine (unhide CL).mono ?_; rintro e w3 ⟨rfl, hw⟩; have hw' := hw.symm; clear hw; subst hw'
      go_wp2_with fail
      go_ret
      exact ⟨ret_bool (unhide E).symm, unhide G2⟩
    · have E := hide (show leavesB n LL L = !(frc (LL.map setOf) 49 (setOf (negL L)) (negL L)).2 by unfold leavesB; rw [hc, hb]; rfl)
      have HB := hide hb
      have HO := hide (cl_ok hb)
      have HC := hide hc
      clear cc hc hb
      go_enter Tryd.func33, Tryd.ntmps33
      go_wp2_with fail
      refine (unhide CC).mono ?_; rintro e w2 ⟨rfl, g2⟩
      have G2 := hide (grown_trans (r := none) (unhide G0) g2)
      have cl := ok.specClause u L n w2 hL ((unhide HU).kept g2 (.inl rfl))
      rw [unhide HB] at cl
      have CL := hide cl
      have F2 := hide ((unhide F0).kept g2)
      have U2 := hide ((unhide HU).kept g2 (.inl rfl))
      have V2 := hide ((unhide HV).kept g2)
      clear g2 x0 x1 cl HU HV
      have z0 := (unhide F2).c0
      have z1 := (unhide F2).c1
      go_wp2_with fail
      refine (unhide CL).mono ?_; rintro e w3 ⟨rfl, hw⟩; have hw' := hw.symm; clear hw; subst hw'
      have CO := hide (l04Opposite u L w2.drew hL (unhide HO) ((unhide U2).kept (cf.grown_drew w2 none) (.inl rfl)))
      have hnl : (negL L).length ≤ 1048576 := by unfold negL; rw [List.length_map]; exact hL
      have CF := hide (fun (r : Value) (w3 : World) (g : w2.grownBy w3 none) (m : Made w2.drew w3 r (negL L)) => l04Force v r n LL (negL L) _ _ w3 hn hnl (unhide hok) ((unhide V2).kept g) (Own.of m.1))
      have CK := hide (fun (w3 : World) (g : w2.grownBy w3 none) => And.intro ((unhide F2).kept g).c0 ((unhide F2).kept g).c1)
      clear CL HO
      generalize hF : frc (LL.map setOf) 49 (setOf (negL L)) (negL L) = F at *
      obtain ⟨FL, FB⟩ := F
      go_upto_region 3 with fail
      go_region_held3 (fun w' => w'.cell? ⟨w.heap.size, 0, none⟩ = some (.int .i64 n) ∧ w'.cell? ⟨w.heap.size, 1, none⟩ = some v) (go_keep) (first
        | (go_at_call 90; refine (unhide CO).mono ?_; rintro e w5 ⟨u5, rfl, m5⟩; have G5 := hide (grown_trans (r := none) (cf.grown_drew w2 none) m5.2); have C5 := hide (unhide CF u5 w5 (unhide G5) m5); have k1 := (unhide CK w5 (unhide G5)).1; have k2 := (unhide CK w5 (unhide G5)).2; clear m5)
        | (go_at_call 80; refine (unhide C5).mono ?_; rintro e w6 ⟨r6, rfl, m6⟩; have G6 := hide (grown_trans (r := none) (unhide G5) m6.2); have k3 := (unhide CK w6 (unhide G6)).1; have k4 := (unhide CK w6 (unhide G6)).2; clear m6))
      all_goals
        go_wp2_with fail
        go_ret
        exact ⟨ret_bool (by rw [unhide E]), grown_trans (unhide G2) (unhide G6)⟩

end Go.Proofs.YtloenjaonkdlaaaDoor.sp
