/- What the model's CountTrue and Implies answer at every formula that holds at most 2^20 values; no other condition. -/
import Derived.Test.YtloenjaonkdlaaaDoorCnt
import Derived.Test.YtloenjaonkdlaaaDoorApp
import Derived.Deep.RegionHeld3
namespace Go.Proofs.YtloenjaonkdlaaaDoor.ct
open Go.ChangeShapes Go.WideShapes Go.ChangeAt Go.RowKit
open Go.Proofs.YtloenjaonkdlaaaDoor.sl (Sl Own ints marks hide unhide ret_int ret_bool grown_refl grown_trans grown_drewN below_of of_below)
open Go.Proofs.YtloenjaonkdlaaaDoor.css (Sls OwnS tot)
open Go.Proofs.YtloenjaonkdlaaaDoor.cf (Box)
open Go.Proofs.YtloenjaonkdlaaaDoor.ok (cnfB)
open Go.Proofs.YtloenjaonkdlaaaDoor.tr (cnfT clT)
open Go.Proofs.YtloenjaonkdlaaaDoor.wo (Made)
open Go.Proofs.YtloenjaonkdlaaaDoor.cnt (cntR asg)
set_option linter.unusedVariables false
attribute [local go_sem ↓] Go.wp_at_zero Go.wp_at_succ

theorem pow_bd {n : Nat} (h : n ≤ 14) : 2 ^ n ≤ 16384 := Nat.pow_le_pow_right (by decide) h
theorem pow2 (n : Nat) (w : World) (h : n ≤ 14) : Calls Tryd.prog 82 #[.int .i64 (n : Int)] w fun e w' => e = .returned (.int .i64 ((2 ^ n : Nat) : Int)) ∧ w' = w := by
  go_enter Tryd.func82, Tryd.ntmps82
  go_wp2
  go_loop [3, 4] (fun x i => ∃ (k q : Nat), k ≤ n ∧ i = .int .i64 k ∧ x = .int .i64 q ∧ q ≤ 16384 ∧ Hid (q = 2 ^ k)) (fun _ i => n - (intOf i).toNat)
  case atStart => exact ⟨0, 1, Nat.zero_le _, rfl, rfl, by decide, rfl⟩
  case round =>
    obtain ⟨k, q, hk, rfl, rfl, hq, he⟩ := hrel
    by_cases hlt : k < n
    · have hi : (k : Int) < (n : Int) := by omega
      have hb := pow_bd (n := k + 1) (by omega)
      have e2 : Hid (2 * q = 2 ^ (k + 1)) := by show _ = _; rw [Nat.pow_succ, unhide he]; omega
      have hq2 : 2 * q ≤ 16384 := by rw [unhide e2]; exact hb
      clear he hb
      go_wp2
      go_round
      case rel => exact ⟨k + 1, 2 * q, by omega, by go_num, by go_num, hq2, e2⟩
      case measure => simp [intOf]; omega
    · have hi : ¬ (k : Int) < (n : Int) := by omega
      have hk' : k = n := by omega
      have E := hide (show (q : Int) = ((2 ^ n : Nat) : Int) by rw [unhide he, hk'])
      clear he hk'
      go_wp2
      go_ret
      exact ⟨ret_int (unhide E), rfl⟩

set_option maxHeartbeats 800000 in
theorem assign (n k : Nat) (w : World) (h : n ≤ 14) (hk : k ≤ 16384) : Calls Tryd.prog 83 #[.int .i64 (n : Int), .int .i64 (k : Int)] w fun e w' => ∃ v, e = .returned v ∧ Made w w' v (asg n k []) := by
  have START := hide (app.made_nil w)
  go_enter Tryd.func83, Tryd.ntmps83
  go_wp2
  go_loopw [1, 5, 6] (fun y u i wr => ∃ (m q : Nat) (X : List Int), m ≤ n ∧ i = .int .i64 m ∧ y = .int .i64 q ∧ q ≤ 16384 ∧ X.length = m ∧ Hid (asg n k [] = asg (n - m) q X) ∧ Hid (Made w wr u X)) (fun _ _ i _ => n - (intOf i).toNat)
  case atStart => exact ⟨0, k, [], Nat.zero_le _, rfl, rfl, hk, rfl, rfl, START⟩
  case round =>
    obtain ⟨m, q, X, hm, rfl, rfl, hq, hX, he, hmd⟩ := hrel
    clear START
    by_cases hlt : m < n
    · have hi : (m : Int) < (n : Int) := by omega
      have e2 : Hid (asg n k [] = asg (n - (m + 1)) (q / 2) (((q % 2 : Nat) : Int) :: X)) := by
        show _ = _
        rw [unhide he, show n - m = (n - (m + 1)) + 1 by omega]
        rfl
      obtain ⟨ua, uc, eu, _⟩ := sl.Sl.of_own (unhide hmd).1
      subst eu
      have g1 := World.grownBy_alloc wr (.cells #[.int .i64 ((q % 2 : Nat) : Int)] 3) none
      have o1 : (wr.alloc (.cells #[.int .i64 ((q % 2 : Nat) : Int)] 3)).ownsRow wr.heap.size 3 1 (.slice (some ⟨wr.heap.size, 0, none⟩) 1 1) 1 (ints [((q % 2 : Nat) : Int)]) := World.ownsRow_lit wr _ 1 (Nat.le_refl _) (by decide) rfl
      have O1 := hide (css.own_mono o1 (unhide hmd).2.size)
      have U1 := hide ((Own.of (unhide hmd).1).kept g1)
      have GW := hide (grown_trans (r := none) (unhide hmd).2 g1)
      have hq1 : ((q : Int).tmod 2) = ((q % 2 : Nat) : Int) := by rw [Int.tmod_eq_emod_of_nonneg (by omega)]; omega
      have hq2 : ((q : Int).tdiv 2) = ((q / 2 : Nat) : Int) := by rw [Int.tdiv_eq_ediv_of_nonneg (by omega)]; omega
      clear he o1 g1
      generalize hz : q % 2 = z at *
      generalize hy : q / 2 = y at *
      have hy' : y ≤ 16384 := by omega
      have z1 : (q : Int) % 2 = (z : Int) := by omega
      have y1 : (q : Int) / 2 = (y : Int) := by omega
      clear hz hy
      go_wp2_with (at_builtin; refine app.appendI (A := [(z : Int)]) (unhide GW) (unhide O1) (unhide U1) (by show 1 + X.length ≤ 4194304; omega) rfl _ _ rfl rfl rfl ?_)
      intro v' w2 m2 g2
      have m2' : Made w w2 v' ((z : Int) :: X) := m2
      have M2 := hide m2'
      clear m2 m2' g2 O1 U1 GW hmd
      go_wp2
      go_roundw
      case rel => exact ⟨m + 1, y, (z : Int) :: X, by omega, by go_num, by go_num, hy', by rw [List.length_cons, hX], e2, M2⟩
      case measure => simp [intOf]; omega
    · have hi : ¬ (m : Int) < (n : Int) := by omega
      have E : Hid (asg n k [] = X) := by show _ = _; rw [unhide he, show n - m = 0 by omega]; rfl
      clear he
      go_wp2
      go_ret
      exact ⟨_, rfl, by rw [unhide E]; exact unhide hmd⟩

theorem cntR_le (m : Nat) (g : Nat → Bool) : cntR m g ≤ m := by
  unfold cnt.cntR
  have := List.length_filter_le g (List.range m)
  rwa [List.length_range] at this
/-- how often a formula is true -/
def countN (m : Nat) (LL : List (List Int)) : Nat := cntR (2 ^ m) (fun k => cnfT (asg m k []) LL)
def countI (n : Int) (LL : List (List Int)) : Int := if cnfB n LL && decide (n ≤ 14) then (countN n.toNat LL : Int) else -1

set_option maxRecDepth 100000 in
set_option maxHeartbeats 2000000 in
theorem specCountTrue (v : Value) (n : Int) (LL : List (List Int)) (w : World) (hn : tot LL ≤ 1048576) (hv : Sls w v LL) :
    Calls Tryd.prog 30 #[.agg #[.int .i64 n, v]] w fun e w' => e = .returned (.int .i64 (countI n LL)) ∧ w.grownBy w' none := by
  have g0 := World.grownBy_alloc w (.cells #[.int .i64 n, v] 34) none
  have cc := ok.specCnfOk v n LL _ hn (hv.kept g0)
  have F0 := hide (Box.new 34 w (.int .i64 n) v)
  have G0 := hide g0
  have HV := hide hv
  clear hv g0
  cases hb : cnfB n LL
  · rw [hb] at cc
    have CC := hide cc
    have E := hide (show countI n LL = -1 by unfold countI; rw [hb]; rfl)
    clear cc hb HV
    go_enter Tryd.func30, Tryd.ntmps30
    go_wp2_with fail
    refine (unhide CC).mono ?_; rintro e w2 ⟨rfl, g2⟩
    have G2 := hide (grown_trans (r := none) (unhide G0) g2)
    have x0 := ((unhide F0).kept g2).c0
    clear g2 F0
    go_wp2_with fail
    go_ret
    exact ⟨ret_int (unhide E).symm, unhide G2⟩
  rw [hb] at cc
  have CC := hide cc
  have hn0 : 0 ≤ n := by
    unfold ok.cnfB at hb
    simp only [Bool.and_eq_true, decide_eq_true_iff] at hb
    exact hb.1.1.1
  by_cases h14 : n ≤ 14
  · obtain ⟨m, rfl⟩ := Int.eq_ofNat_of_zero_le hn0
    have hm : m ≤ 14 := by omega
    have E := hide (show countI (m : Int) LL = (countN m LL : Int) by unfold countI; rw [hb, decide_eq_true h14]; rfl)
    have h14' : ¬ (14 : Int) < (m : Int) := by omega
    have hp := pow_bd hm
    clear cc hb h14 hn0
    go_enter Tryd.func30, Tryd.ntmps30
    go_wp2_with fail
    refine (unhide CC).mono ?_; rintro e w2 ⟨rfl, g2⟩
    have G2 := hide (grown_trans (r := none) (unhide G0) g2)
    have F2 := hide ((unhide F0).kept g2)
    have x0 := (unhide F2).c0
    clear g2 F0 G0 CC
    go_wp2_with fail
    clear x0
    go_loopw [3, 4] (fun c i wr => ∃ k : Nat, k ≤ 2 ^ m ∧ i = .int .i64 k ∧ c = .int .i64 (cntR k (fun k => cnfT (asg m k []) LL) : Nat) ∧ Hid (w2.grownBy wr none)) (fun _ i _ => 2 ^ m - (intOf i).toNat)
    case atStart => exact ⟨0, Nat.zero_le _, rfl, rfl, grown_refl _⟩
    case round =>
      obtain ⟨k, hk, rfl, rfl, hg⟩ := hrel
      have F3 := hide ((unhide F2).kept (unhide hg))
      have y0 := (unhide F3).c0
      have y1 := (unhide F3).c1
      have G3 := hide (grown_trans (r := none) (unhide G2) (unhide hg))
      have CP := hide (pow2 m wr hm)
      have hc := cntR_le k (fun k => cnfT (asg m k []) LL)
      have hs := cnt.cntR_succ k (fun k => cnfT (asg m k []) LL)
      generalize hq : cntR k (fun k => cnfT (asg m k []) LL) = q at *
      have HQ := hide hq
      clear hq F2
      generalize hP : (2 : Nat) ^ m = P at *
      by_cases hlt : k < P
      · have hi : (k : Int) < (P : Int) := by omega
        have CA := hide (assign m k wr.drew hm (by omega))
        have CT := hide (fun (u : Value) (w3 : World) (g : wr.grownBy w3 none) (hs : Sl w3 u (asg m k [])) => tr.l02True v u (m : Int) LL (asg m k []) w3 hn (by rw [cnt.asg_len]; simp; omega) (((unhide HV).kept (unhide G3)).kept g) hs)
        have CK := hide (fun (w3 : World) (g : wr.grownBy w3 none) => And.intro ((unhide F3).kept g).c0 ((unhide F3).kept g).c1)
        cases hb : cnfT (asg m k []) LL
        · simp only [hb] at CT hs
          have HS := hide hs
          clear hs hb hP HV
          go_wp2_with (go_at_call 82; refine (unhide CP).mono ?_; rintro e w4 ⟨rfl, hw⟩; have hw' := hw.symm; clear hw; subst hw')
          go_region_held3 (fun w' => w'.cell? ⟨w.heap.size, 0, none⟩ = some (.int .i64 (m : Int)) ∧ w'.cell? ⟨w.heap.size, 1, none⟩ = some v) (go_keep) (first
            | (go_at_call 83; refine (unhide CA).mono ?_; rintro e w5 ⟨u5, rfl, m5⟩; have G5 := hide (grown_trans (r := none) (cf.grown_drew wr none) m5.2); have C5 := hide (unhide CT u5 w5 (unhide G5) (sl.Sl.of_own m5.1)); have k1 := (unhide CK w5 (unhide G5)).1; have k2 := (unhide CK w5 (unhide G5)).2; clear m5)
            | (go_at_call 84; refine (unhide C5).mono ?_; rintro e w6 ⟨rfl, g6⟩; have G6 := hide (grown_trans (r := none) (unhide G5) g6); have k3 := (unhide CK w6 (unhide G6)).1; have k4 := (unhide CK w6 (unhide G6)).2; clear g6))
          all_goals
            go_wp2_with fail
            go_roundw
            case rel => exact ⟨k + 1, by omega, by go_num, by rw [unhide HS]; rfl, grown_trans (unhide hg) (unhide G6)⟩
            case measure => simp [intOf]; omega
        · simp only [hb] at CT hs
          have HS := hide hs
          clear hs hb hP HV
          go_wp2_with (go_at_call 82; refine (unhide CP).mono ?_; rintro e w4 ⟨rfl, hw⟩; have hw' := hw.symm; clear hw; subst hw')
          go_region_held3 (fun w' => w'.cell? ⟨w.heap.size, 0, none⟩ = some (.int .i64 (m : Int)) ∧ w'.cell? ⟨w.heap.size, 1, none⟩ = some v) (go_keep) (first
            | (go_at_call 83; refine (unhide CA).mono ?_; rintro e w5 ⟨u5, rfl, m5⟩; have G5 := hide (grown_trans (r := none) (cf.grown_drew wr none) m5.2); have C5 := hide (unhide CT u5 w5 (unhide G5) (sl.Sl.of_own m5.1)); have k1 := (unhide CK w5 (unhide G5)).1; have k2 := (unhide CK w5 (unhide G5)).2; clear m5)
            | (go_at_call 84; refine (unhide C5).mono ?_; rintro e w6 ⟨rfl, g6⟩; have G6 := hide (grown_trans (r := none) (unhide G5) g6); have k3 := (unhide CK w6 (unhide G6)).1; have k4 := (unhide CK w6 (unhide G6)).2; clear g6))
          all_goals
            go_wp2_with fail
            go_roundw
            case rel => exact ⟨k + 1, by omega, by go_num, by rw [unhide HS]; go_num, grown_trans (unhide hg) (unhide G6)⟩
            case measure => simp [intOf]; omega
      · have hi : ¬ (k : Int) < (P : Int) := by omega
        have hkP : k = P := by omega
        have E2 : Hid ((q : Int) = countI (m : Int) LL) := by
          show _ = _
          rw [unhide E, ← unhide HQ, hkP, ← hP]
          rfl
        clear HV hkP hP HQ hs E
        go_wp2_with (go_at_call 82; refine (unhide CP).mono ?_; rintro e w4 ⟨rfl, hw⟩; have hw' := hw.symm; clear hw; subst hw')
        go_ret
        exact ⟨ret_int (unhide E2), unhide G3⟩
  · have E := hide (show countI n LL = -1 by unfold countI; rw [decide_eq_false h14, Bool.and_false]; rfl)
    have h14' : (14 : Int) < n := by omega
    clear cc hb HV
    go_enter Tryd.func30, Tryd.ntmps30
    go_wp2_with fail
    refine (unhide CC).mono ?_; rintro e w2 ⟨rfl, g2⟩
    have G2 := hide (grown_trans (r := none) (unhide G0) g2)
    have x0 := ((unhide F0).kept g2).c0
    clear g2 F0
    go_wp2_with fail
    go_ret
    exact ⟨ret_int (unhide E).symm, unhide G2⟩
end Go.Proofs.YtloenjaonkdlaaaDoor.ct
