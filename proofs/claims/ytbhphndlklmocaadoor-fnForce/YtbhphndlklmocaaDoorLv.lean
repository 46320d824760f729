/- What Leaves (of the program and of its model) answers at every formula that holds at most 2^20 values and every list of at most 2^20 numbers, where the library's table of places lies as its text lays it. -/
import Derived.Test.YtbhphndlklmocaaDoorSt
import Derived.Deep.RegionHeld3
namespace Go.Proofs.YtbhphndlklmocaaDoor.sp
open Go.ChangeShapes Go.WideShapes Go.ChangeAt Go.RowKit
open Go.Proofs.YtbhphndlklmocaaDoor.lits (okB varI okB_iff)
open Go.Proofs.YtbhphndlklmocaaDoor.bset (setOf setOf_lt)
open Go.Proofs.YtbhphndlklmocaaDoor.srt (Tab)
open Go.Proofs.YtbhphndlklmocaaDoor.css (Sls tot)
open Go.Proofs.YtbhphndlklmocaaDoor.cf (Box)
open Go.Proofs.YtbhphndlklmocaaDoor.ok (cnfB litIn clB)
open Go.Proofs.YtbhphndlklmocaaDoor.wo (Made)
open Go.Proofs.YtbhphndlklmocaaDoor.wm
open Go.Proofs.YtbhphndlklmocaaDoor.sl (Sl Own ints hide unhide ret_int ret_bool grown_refl grown_trans grown_drewN)
set_option linter.unusedVariables false

/-- the opposites of a list -/
def negL (L : List Int) : List Int := L.map fun x => -x
theorem neg_snoc (L : List Int) (k : Nat) (h : k < L.length) : negL (L.take (k + 1)) = negL (L.take k) ++ [-(L.getD k 0)] := by
  unfold negL
  rw [wm.take_snoc L k h, List.map_append]
  rfl
/-- whether a clause follows at once -/
def leavesB (n : Int) (LL : List (List Int)) (L : List Int) : Bool := cnfB n LL && clB n L && !(frc (LL.map setOf) 49 (setOf (negL L)) (negL L)).2
theorem cl_ok {n : Int} {L : List Int} (h : clB n L = true) : ∀ x ∈ L, okB x = true := by
  unfold ok.clB at h
  rw [Bool.and_eq_true, List.all_eq_true] at h
  intro x hx
  have := h.1 x hx
  unfold ok.litIn at this
  rw [Bool.and_eq_true] at this
  exact this.1
theorem neg_in {n : Int} {L : List Int} (h : clB n L = true) : (negL L).all (litIn n) = true := by
  unfold ok.clB at h
  rw [Bool.and_eq_true, List.all_eq_true] at h
  rw [List.all_eq_true]
  intro y hy
  unfold negL at hy
  rw [List.mem_map] at hy
  obtain ⟨x, hx, rfl⟩ := hy
  have := h.1 x hx
  unfold ok.litIn at this ⊢
  rw [Bool.and_eq_true, decide_eq_true_iff] at this
  have a := okB_iff.1 this.1
  have b := okB_iff.1 (opp_ok this.1)
  have v := this.2
  rw [lits.varI_yes a] at v
  rw [opp_ok this.1, lits.varI_yes b, Bool.true_and, decide_eq_true_iff]
  split at v <;> split <;> omega
theorem force_neg {n : Int} {LL : List (List Int)} {L : List Int} (hc : cnfB n LL = true) (hb : clB n L = true) : forceB n LL (negL L) = frc (LL.map setOf) 49 (setOf (negL L)) (negL L) := by
  unfold wm.forceB wm.okU
  rw [hc, neg_in hb]
  rfl

theorem oppositesOf (v : Value) (L : List Int) (w : World) (hL : L.length ≤ 1048576) (hc : ∀ x ∈ L, okB x = true) (hv : Sl w v L) :
    Calls Tryd.prog 68 #[v] w fun e w' => ∃ r, e = .returned r ∧ Made w w' r (negL L) := by
  obtain ⟨a, cap, rfl, ha⟩ := hv
  obtain ⟨i0, hi, hz0, hz1, hz2⟩ := info_parts sl.info3
  have HA := hide ha
  have HC := hide hc
  clear ha hc
  go_enter Tryd.func68, Tryd.ntmps68
  go_wp2_with (first | (at_make; refine wpList_make_own _ rfl _ _ 32 rfl w.heap.size 3 i0 (.int .i64 0) 1 Tryd.underlying32 hi hz0 hz1 _ _ _ L.length rfl rfl (by rfl) ?b1 ?b2 ?b3 ?_) | go_in)
  case b1 => rw [hz2]; omega
  case b2 => unfold maxLen; omega
  case b3 => exact Nat.le_refl _
  intro w1 hown hgrow
  have start : Hid (Made w w1 _ []) := ⟨hown, hgrow⟩
  clear hown hgrow
  go_wp2
  go_loopw [3, 11] (fun u i wr => ∃ k : Nat, k ≤ L.length ∧ i = .int .i64 k ∧ Hid (Made w wr u (negL (L.take k)))) (fun _ i _ => L.length - (intOf i).toNat)
  case atStart => exact ⟨0, Nat.zero_le _, rfl, start⟩
  case round =>
    obtain ⟨k, hk, rfl, hm⟩ := hrel
    clear start
    by_cases hlt : k < L.length
    · rcases unhide HA with h | ⟨b, off, rfl, hb, hcb⟩
      · rw [h] at hlt
        simp at hlt
      · obtain ⟨hown, hg⟩ := unhide hm
        have c1 : wr.cell? ⟨b, off + k, none⟩ = some (.int .i64 (L.getD k 0)) := hg.cell (hcb k hlt) (fun e => by cases e)
        have hi' : (k : Int) < (L.length : Int) := by omega
        have bd := okB_iff.1 (unhide HC (L.getD k 0) (by rw [show L.getD k 0 = L[k] by simp [hlt]]; exact List.getElem_mem hlt))
        have H := hide (neg_snoc L k hlt)
        have hle : (negL (L.take k)).length ≤ 1048576 := by unfold negL; rw [List.length_map, List.length_take]; omega
        generalize L.getD k 0 = y at *
        generalize negL (L.take k) = M at *
        obtain ⟨b0, b1, b2⟩ := bd
        clear hcb HA HC hm
        go_wp2_with (at_builtin; refine wo.append1 hg hown (by omega) rfl _ _ rfl rfl rfl ?_)
        intro v' w1 R
        have M1 := hide R
        clear R hown hg
        go_wp2
        go_roundw
        case rel => exact ⟨k + 1, by omega, by go_num, by rw [unhide H]; exact M1⟩
        case measure => simp [intOf]; omega
    · have hi' : ¬ (k : Int) < (L.length : Int) := by omega
      have e : L.take k = L := List.take_of_length_le (by omega)
      rw [e] at hm
      clear HA e
      go_wp2
      go_ret
      exact ⟨_, rfl, unhide hm⟩

theorem l04Opposite (v : Value) (L : List Int) (w : World) (hL : L.length ≤ 1048576) (hc : ∀ x ∈ L, okB x = true) (hv : Sl w v L) :
    Calls Tryd.prog 69 #[v] w fun e w' => ∃ r, e = .returned r ∧ Made w w' r (negL L) := by
  obtain ⟨a, cap, rfl, ha⟩ := hv
  obtain ⟨i0, hi, hz0, hz1, hz2⟩ := info_parts sl.info3
  have HA := hide ha
  have HC := hide hc
  clear ha hc
  have start : Hid (Made w (w.alloc (.cells #[] 3)) (.slice (some ⟨w.heap.size, 0, none⟩) 0 0) []) := app.made_nil w
  go_enter Tryd.func69, Tryd.ntmps69
  go_wp2
  go_loopw [3, 4] (fun u i wr => ∃ k : Nat, k ≤ L.length ∧ i = .int .i64 k ∧ Hid (Made w wr u (negL (L.take k)))) (fun _ i _ => L.length - (intOf i).toNat)
  case atStart => exact ⟨0, Nat.zero_le _, rfl, start⟩
  case round =>
    obtain ⟨k, hk, rfl, hm⟩ := hrel
    clear start
    by_cases hlt : k < L.length
    · rcases unhide HA with h | ⟨b, off, rfl, hb, hcb⟩
      · rw [h] at hlt
        simp at hlt
      · obtain ⟨hown, hg⟩ := unhide hm
        have c1 : wr.cell? ⟨b, off + k, none⟩ = some (.int .i64 (L.getD k 0)) := hg.cell (hcb k hlt) (fun e => by cases e)
        have hi' : (k : Int) < (L.length : Int) := by omega
        have bd := okB_iff.1 (unhide HC (L.getD k 0) (by rw [show L.getD k 0 = L[k] by simp [hlt]]; exact List.getElem_mem hlt))
        have H := hide (neg_snoc L k hlt)
        have hle : (negL (L.take k)).length ≤ 1048576 := by unfold negL; rw [List.length_map, List.length_take]; omega
        generalize L.getD k 0 = y at *
        generalize negL (L.take k) = M at *
        obtain ⟨b0, b1, b2⟩ := bd
        clear hcb HA HC hm
        go_wp2_with (at_builtin; refine wo.append1 hg hown (by omega) rfl _ _ rfl rfl rfl ?_)
        intro v' w1 R
        have M1 := hide R
        clear R hown hg
        go_wp2
        go_roundw
        case rel => exact ⟨k + 1, by omega, by go_num, by rw [unhide H]; exact M1⟩
        case measure => simp [intOf]; omega
    · have hi' : ¬ (k : Int) < (L.length : Int) := by omega
      have e : L.take k = L := List.take_of_length_le (by omega)
      rw [e] at hm
      clear HA e
      go_wp2
      go_ret
      exact ⟨_, rfl, unhide hm⟩

set_option maxRecDepth 100000 in
set_option maxHeartbeats 4000000 in
theorem implLeaves (v u : Value) (n : Int) (LL : List (List Int)) (L : List Int) (w : World) (hT : Tab w) (hn : tot LL ≤ 1048576) (hL : L.length ≤ 1048576) (hv : Sls w v LL) (hu : Sl w u L) :
    Calls Tryd.prog 29 #[.agg #[.int .i64 n, v], u] w fun e w' => e = .returned (.bool (leavesB n LL L)) ∧ w.grownBy w' none := by
  have g0 := World.grownBy_alloc w (.cells #[.int .i64 n, v] 26) none
  have cc := ok.implCnfOk v n LL _ hn (hv.kept g0)
  have F0 := hide (Box.new 26 w (.int .i64 n) v)
  have G0 := hide g0
  have HU := hide (hu.kept g0 (.inl rfl))
  have HV := hide (hv.kept g0)
  have HT := hide (hT.kept g0)
  clear g0 hu hv hT 
  have x0 := (unhide F0).c0
  have x1 := (unhide F0).c1
  cases hc : cnfB n LL
  · have E := hide (show leavesB n LL L = false by unfold leavesB; rw [hc]; rfl)
    rw [hc] at cc
    have CC := hide cc
    clear cc hc HU HV
    go_enter Tryd.func29, Tryd.ntmps29
    go_wp2_with fail
    refine (unhide CC).mono ?_; rintro e w2 ⟨rfl, g2⟩
    have G2 := hide (grown_trans (r := none) (unhide G0) g2)
    clear g2 x0 x1
    go_wp2_with fail
    go_ret
    exact ⟨ret_bool (unhide E).symm, unhide G2⟩
  · rw [hc] at cc
    have CC := hide cc
    have hok := hide (okU_facts hc)
    cases hb : clB n L
    · have E := hide (show leavesB n LL L = false by unfold leavesB; rw [hc, hb]; rfl)
      have HB := hide hb
      clear cc hc hb
      go_enter Tryd.func29, Tryd.ntmps29
      go_wp2_with fail
      refine (unhide CC).mono ?_; rintro e w2 ⟨rfl, g2⟩
      have G2 := hide (grown_trans (r := none) (unhide G0) g2)
      have cl := ok.clauseOf u L n w2 hL ((unhide HU).kept g2 (.inl rfl))
      rw [unhide HB] at cl
      have CL := hide cl
      have F2 := hide ((unhide F0).kept g2)
      clear g2 x0 x1 cl
      have z0 := (unhide F2).c0
      have z1 := (unhide F2).c1
      go_wp2_with fail
      refine (unhide CL).mono ?_; rintro e w3 ⟨rfl, hw⟩; have hw' := hw.symm; clear hw; subst hw'
      go_wp2_with fail
      go_ret
      exact ⟨ret_bool (unhide E).symm, unhide G2⟩
    · have E := hide (show leavesB n LL L = !(frc (LL.map setOf) 49 (setOf (negL L)) (negL L)).2 by unfold leavesB; rw [hc, hb]; rfl)
      have HB := hide hb
      have HO := hide (cl_ok hb)
      have HC := hide hc
      clear cc hc hb
      go_enter Tryd.func29, Tryd.ntmps29
      go_wp2_with fail
      refine (unhide CC).mono ?_; rintro e w2 ⟨rfl, g2⟩
      have G2 := hide (grown_trans (r := none) (unhide G0) g2)
      have cl := ok.clauseOf u L n w2 hL ((unhide HU).kept g2 (.inl rfl))
      rw [unhide HB] at cl
      have CL := hide cl
      have F2 := hide ((unhide F0).kept g2)
      have U2 := hide ((unhide HU).kept g2 (.inl rfl))
      have V2 := hide ((unhide HV).kept g2)
      have T2 := hide ((unhide HT).kept g2)
      clear g2 x0 x1 cl HU HV
      have z0 := (unhide F2).c0
      have z1 := (unhide F2).c1
      go_wp2_with fail
      refine (unhide CL).mono ?_; rintro e w3 ⟨rfl, hw⟩; have hw' := hw.symm; clear hw; subst hw'
      have CO := hide (oppositesOf u L w2.drew hL (unhide HO) ((unhide U2).kept (cf.grown_drew w2 none) (.inl rfl)))
      have hnl : (negL L).length ≤ 1048576 := by unfold negL; rw [List.length_map]; exact hL
      have CF := hide (fun (r : Value) (w3 : World) (g : w2.grownBy w3 none) (m : Made w2.drew w3 r (negL L)) => (by have := implForce v r n LL (negL L) _ _ w3 ((unhide T2).kept g) hn hnl ((unhide V2).kept g) (Own.of m.1); rw [force_neg (unhide HC) (unhide HB)] at this; exact this : Calls Tryd.prog 21 #[.agg #[.int .i64 n, v], r] w3 fun e w' => ∃ q, e = .returned (.tuple #[q, .bool (frc (LL.map setOf) 49 (setOf (negL L)) (negL L)).2]) ∧ Made w3 w' q (frc (LL.map setOf) 49 (setOf (negL L)) (negL L)).1))
      have CK := hide (fun (w3 : World) (g : w2.grownBy w3 none) => And.intro ((unhide F2).kept g).c0 ((unhide F2).kept g).c1)
      clear CL HO
      generalize hF : frc (LL.map setOf) 49 (setOf (negL L)) (negL L) = F at *
      obtain ⟨FL, FB⟩ := F
      go_upto_region 3 with fail
      go_region_held3 (fun w' => w'.cell? ⟨w.heap.size, 0, none⟩ = some (.int .i64 n) ∧ w'.cell? ⟨w.heap.size, 1, none⟩ = some v) (go_keep) (first
        | (go_at_call 68; refine (unhide CO).mono ?_; rintro e w5 ⟨u5, rfl, m5⟩; have G5 := hide (grown_trans (r := none) (cf.grown_drew w2 none) m5.2); have C5 := hide (unhide CF u5 w5 (unhide G5) m5); have k1 := (unhide CK w5 (unhide G5)).1; have k2 := (unhide CK w5 (unhide G5)).2; clear m5)
        | (go_at_call 21; refine (unhide C5).mono ?_; rintro e w6 ⟨r6, rfl, m6⟩; have G6 := hide (grown_trans (r := none) (unhide G5) m6.2); have k3 := (unhide CK w6 (unhide G6)).1; have k4 := (unhide CK w6 (unhide G6)).2; clear m6))
      all_goals
        go_wp2_with fail
        go_ret
        exact ⟨ret_bool (by rw [unhide E]), grown_trans (unhide G2) (unhide G6)⟩

set_option maxRecDepth 100000 in
set_option maxHeartbeats 4000000 in
theorem specLeaves (v u : Value) (n : Int) (LL : List (List Int)) (L : List Int) (w : World) (hn : tot LL ≤ 1048576) (hL : L.length ≤ 1048576) (hv : Sls w v LL) (hu : Sl w u L) :
    Calls Tryd.prog 30 #[.agg #[.int .i64 n, v], u] w fun e w' => e = .returned (.bool (leavesB n LL L)) ∧ w.grownBy w' none := by
  have g0 := World.grownBy_alloc w (.cells #[.int .i64 n, v] 26) none
  have cc := ok.specCnfOk v n LL _ hn (hv.kept g0)
  have F0 := hide (Box.new 26 w (.int .i64 n) v)
  have G0 := hide g0
  have HU := hide (hu.kept g0 (.inl rfl))
  have HV := hide (hv.kept g0)
  clear g0 hu hv 
  have x0 := (unhide F0).c0
  have x1 := (unhide F0).c1
  cases hc : cnfB n LL
  · have E := hide (show leavesB n LL L = false by unfold leavesB; rw [hc]; rfl)
    rw [hc] at cc
    have CC := hide cc
    clear cc hc HU HV
    go_enter Tryd.func30, Tryd.ntmps30
    go_wp2_with fail
    refine (unhide CC).mono ?_; rintro e w2 ⟨rfl, g2⟩
    have G2 := hide (grown_trans (r := none) (unhide G0) g2)
    clear g2 x0 x1
    go_wp2_with fail
    go_ret
    exact ⟨ret_bool (unhide E).symm, unhide G2⟩
  · rw [hc] at cc
    have CC := hide cc
    have hok := hide (okU_facts hc)
    cases hb : clB n L
    · have E := hide (show leavesB n LL L = false by unfold leavesB; rw [hc, hb]; rfl)
      have HB := hide hb
      clear cc hc hb
      go_enter Tryd.func30, Tryd.ntmps30
      go_wp2_with fail
      refine (unhide CC).mono ?_; rintro e w2 ⟨rfl, g2⟩
      have G2 := hide (grown_trans (r := none) (unhide G0) g2)
      have cl := ok.specClause u L n w2 hL ((unhide HU).kept g2 (.inl rfl))
      rw [unhide HB] at cl
      have CL := hide cl
      have F2 := hide ((unhide F0).kept g2)
      clear g2 x0 x1 cl
      have z0 := (unhide F2).c0
      have z1 := (unhide F2).c1
      go_wp2_with fail
      refine (unhide CL).mono ?_; rintro e w3 ⟨rfl, hw⟩; have hw' := hw.symm; clear hw; subst hw'
      go_wp2_with fail
      go_ret
      exact ⟨ret_bool (unhide E).symm, unhide G2⟩
    · have E := hide (show leavesB n LL L = !(frc (LL.map setOf) 49 (setOf (negL L)) (negL L)).2 by unfold leavesB; rw [hc, hb]; rfl)
      have HB := hide hb
      have HO := hide (cl_ok hb)
      have HC := hide hc
      clear cc hc hb
      go_enter Tryd.func30, Tryd.ntmps30
      go_wp2_with fail
      refine (unhide CC).mono ?_; rintro e w2 ⟨rfl, g2⟩
      have G2 := hide (grown_trans (r := none) (unhide G0) g2)
      have cl := ok.specClause u L n w2 hL ((unhide HU).kept g2 (.inl rfl))
      rw [unhide HB] at cl
      have CL := hide cl
      have F2 := hide ((unhide F0).kept g2)
      have U2 := hide ((unhide HU).kept g2 (.inl rfl))
      have V2 := hide ((unhide HV).kept g2)
      clear g2 x0 x1 cl HU HV
      have z0 := (unhide F2).c0
      have z1 := (unhide F2).c1
      go_wp2_with fail
      refine (unhide CL).mono ?_; rintro e w3 ⟨rfl, hw⟩; have hw' := hw.symm; clear hw; subst hw'
      have CO := hide (l04Opposite u L w2.drew hL (unhide HO) ((unhide U2).kept (cf.grown_drew w2 none) (.inl rfl)))
      have hnl : (negL L).length ≤ 1048576 := by unfold negL; rw [List.length_map]; exact hL
      have CF := hide (fun (r : Value) (w3 : World) (g : w2.grownBy w3 none) (m : Made w2.drew w3 r (negL L)) => l04Force v r n LL (negL L) _ _ w3 hn hnl (unhide hok) ((unhide V2).kept g) (Own.of m.1))
      have CK := hide (fun (w3 : World) (g : w2.grownBy w3 none) => And.intro ((unhide F2).kept g).c0 ((unhide F2).kept g).c1)
      clear CL HO
      generalize hF : frc (LL.map setOf) 49 (setOf (negL L)) (negL L) = F at *
      obtain ⟨FL, FB⟩ := F
      go_upto_region 3 with fail
      go_region_held3 (fun w' => w'.cell? ⟨w.heap.size, 0, none⟩ = some (.int .i64 n) ∧ w'.cell? ⟨w.heap.size, 1, none⟩ = some v) (go_keep) (first
        | (go_at_call 69; refine (unhide CO).mono ?_; rintro e w5 ⟨u5, rfl, m5⟩; have G5 := hide (grown_trans (r := none) (cf.grown_drew w2 none) m5.2); have C5 := hide (unhide CF u5 w5 (unhide G5) m5); have k1 := (unhide CK w5 (unhide G5)).1; have k2 := (unhide CK w5 (unhide G5)).2; clear m5)
        | (go_at_call 61; refine (unhide C5).mono ?_; rintro e w6 ⟨r6, rfl, m6⟩; have G6 := hide (grown_trans (r := none) (unhide G5) m6.2); have k3 := (unhide CK w6 (unhide G6)).1; have k4 := (unhide CK w6 (unhide G6)).2; clear m6))
      all_goals
        go_wp2_with fail
        go_ret
        exact ⟨ret_bool (by rw [unhide E]), grown_trans (unhide G2) (unhide G6)⟩

theorem bothL (n : Int) (LL : List (List Int)) (L : List Int) (hn : tot LL ≤ 1048576) (hL : L.length ≤ 1048576) : ∃ b : Bool,
    (∀ v u w, Sls w v LL → Sl w u L → Calls Tryd.prog 30 #[.agg #[.int .i64 n, v], u] w fun e w' => e = .returned (.bool b) ∧ w.grownBy w' none) ∧
    (∀ v u w, Tab w → Sls w v LL → Sl w u L → Calls Tryd.prog 29 #[.agg #[.int .i64 n, v], u] w fun e w' => e = .returned (.bool b) ∧ w.grownBy w' none) :=
  ⟨_, fun v u w h k => specLeaves v u n LL L w hn hL h k, fun v u w t h k => implLeaves v u n LL L w t hn hL h k⟩
end Go.Proofs.YtbhphndlklmocaaDoor.sp
