/- What the model's Implies answers at every formula that holds at most 2^20 values and every list of at most 2^20 numbers; no other condition. -/
import Derived.Test.YtloenjaonkdlaaaDoorCt
namespace Go.Proofs.YtloenjaonkdlaaaDoor.ct
open Go.ChangeShapes Go.WideShapes Go.ChangeAt Go.RowKit
open Go.Proofs.YtloenjaonkdlaaaDoor.sl (Sl Own ints marks hide unhide ret_int ret_bool grown_refl grown_trans grown_drewN below_of of_below)
open Go.Proofs.YtloenjaonkdlaaaDoor.css (Sls OwnS tot)
open Go.Proofs.YtloenjaonkdlaaaDoor.cf (Box)
open Go.Proofs.YtloenjaonkdlaaaDoor.ok (cnfB clB)
open Go.Proofs.YtloenjaonkdlaaaDoor.tr (cnfT clT)
open Go.Proofs.YtloenjaonkdlaaaDoor.wo (Made)
open Go.Proofs.YtloenjaonkdlaaaDoor.cnt (cntR asg)
set_option linter.unusedVariables false

/-- whether a clause is true wherever the formula is -/
def impN (m : Nat) (LL : List (List Int)) (L : List Int) : Bool := (List.range (2 ^ m)).all fun k => !(cnfT (asg m k []) LL) || clT (asg m k []) L
def impB (n : Int) (LL : List (List Int)) (L : List Int) : Bool := cnfB n LL && decide (n ≤ 14) && clB n L && impN n.toNat LL L
theorem range_hit {P k : Nat} {g : Nat → Bool} (h : k < P) (hx : g k = false) : (List.range P).all g = false := by
  rw [List.all_eq_false]
  exact ⟨k, List.mem_range.2 h, by simp [hx]⟩
theorem range_step {k : Nat} {g : Nat → Bool} (ha : (List.range k).all g = true) (hx : g k = true) : (List.range (k + 1)).all g = true := by
  rw [List.range_succ, List.all_append, ha]
  simp [hx]

set_option maxRecDepth 100000 in
set_option maxHeartbeats 2000000 in
theorem specImplies (v u : Value) (n : Int) (LL : List (List Int)) (L : List Int) (w : World) (hn : tot LL ≤ 1048576) (hL : L.length ≤ 1048576) (hv : Sls w v LL) (hu : Sl w u L) :
    Calls Tryd.prog 28 #[.agg #[.int .i64 n, v], u] w fun e w' => e = .returned (.bool (impB n LL L)) ∧ w.grownBy w' none := by
  have g0 := World.grownBy_alloc w (.cells #[.int .i64 n, v] 34) none
  have cc := ok.specCnfOk v n LL _ hn (hv.kept g0)
  have cl := fun w1 (g : w.grownBy w1 none) => ok.specClause u L n w1 hL (hu.kept g (.inl rfl))
  have F0 := hide (Box.new 34 w (.int .i64 n) v)
  have G0 := hide g0
  have HV := hide hv
  have HU := hide hu
  clear hv g0 hu
  cases hb : cnfB n LL
  · rw [hb] at cc
    have CC := hide cc
    have E := hide (show impB n LL L = false by unfold impB; rw [hb]; rfl)
    clear cc hb HV HU cl
    go_enter Tryd.func28, Tryd.ntmps28
    go_wp2_with fail
    refine (unhide CC).mono ?_; rintro e w2 ⟨rfl, g2⟩
    have G2 := hide (grown_trans (r := none) (unhide G0) g2)
    clear g2 F0
    go_wp2_with fail
    go_ret
    exact ⟨ret_bool (unhide E).symm, unhide G2⟩
  rw [hb] at cc
  have CC := hide cc
  have hn0 : 0 ≤ n := by
    unfold ok.cnfB at hb
    simp only [Bool.and_eq_true, decide_eq_true_iff] at hb
    exact hb.1.1.1
  by_cases h14 : n ≤ 14
  · cases hc : clB n L
    · rw [hc] at cl
      have CL := hide cl
      have E := hide (show impB n LL L = false by unfold impB; rw [hc]; simp)
      have h14' : ¬ (14 : Int) < n := by omega
      clear cc hb HV HU cl hc
      go_enter Tryd.func28, Tryd.ntmps28
      go_wp2_with fail
      refine (unhide CC).mono ?_; rintro e w2 ⟨rfl, g2⟩
      have G2 := hide (grown_trans (r := none) (unhide G0) g2)
      have x0 := ((unhide F0).kept g2).c0
      have C2 := hide (unhide CL w2 (unhide G2))
      clear g2 F0 CL
      go_wp2_with (go_at_call 81; refine (unhide C2).mono ?_; rintro e w3 ⟨rfl, hw⟩; have hw' := hw.symm; clear hw; subst hw')
      go_ret
      exact ⟨ret_bool (unhide E).symm, unhide G2⟩
    · rw [hc] at cl
      have CL := hide cl
      obtain ⟨m, rfl⟩ := Int.eq_ofNat_of_zero_le hn0
      have hm : m ≤ 14 := by omega
      have E := hide (show impB (m : Int) LL L = impN m LL L by unfold impB; rw [hb, hc, decide_eq_true h14]; rfl)
      have h14' : ¬ (14 : Int) < (m : Int) := by omega
      have hp := pow_bd hm
      clear cc hb h14 hn0 hc cl
      go_enter Tryd.func28, Tryd.ntmps28
      go_wp2_with fail
      refine (unhide CC).mono ?_; rintro e w2 ⟨rfl, g2⟩
      have G2 := hide (grown_trans (r := none) (unhide G0) g2)
      have F2 := hide ((unhide F0).kept g2)
      have x0 := (unhide F2).c0
      have C2 := hide (unhide CL w2 (unhide G2))
      clear g2 F0 G0 CC CL
      go_wp2_with (go_at_call 81; refine (unhide C2).mono ?_; rintro e w3 ⟨rfl, hw⟩; have hw' := hw.symm; clear hw; subst hw')
      clear x0 C2
      go_loopw [5] (fun i wr => ∃ k : Nat, k ≤ 2 ^ m ∧ i = .int .i64 k ∧ Hid ((List.range k).all (fun k => !(cnfT (asg m k []) LL) || clT (asg m k []) L) = true) ∧ Hid (w2.grownBy wr none)) (fun i _ => 2 ^ m - (intOf i).toNat)
      case atStart => exact ⟨0, Nat.zero_le _, rfl, (by show _ = _; rfl), grown_refl _⟩
      case round =>
        obtain ⟨k, hk, rfl, hall, hg⟩ := hrel
        have F3 := hide ((unhide F2).kept (unhide hg))
        have y0 := (unhide F3).c0
        have y1 := (unhide F3).c1
        have G3 := hide (grown_trans (r := none) (unhide G2) (unhide hg))
        have CP := hide (pow2 m wr hm)
        have h1 := fun (h : k < 2 ^ m) => range_hit (g := fun k => !(cnfT (asg m k []) LL) || clT (asg m k []) L) h
        have h2 := range_step (g := fun k => !(cnfT (asg m k []) LL) || clT (asg m k []) L) (unhide hall)
        clear F2
        by_cases hlt : k < 2 ^ m
        · have hA : (asg m k []).length ≤ 1048576 := by rw [cnt.asg_len]; simp; omega
          have CA := hide (assign m k wr hm (by omega))
          have ct := fun (x : Value) (w3 : World) (g : wr.grownBy w3 none) (hs : Sl w3 x (asg m k [])) => tr.l02True v x (m : Int) LL (asg m k []) w3 hn hA (((unhide HV).kept (unhide G3)).kept g) hs
          have cu := fun (x : Value) (w3 : World) (g : wr.grownBy w3 none) (hs : Sl w3 x (asg m k [])) => tr.specClauseTrue u x L (asg m k []) w3 hL hA (((unhide HU).kept (unhide G3) (.inl rfl)).kept g (.inl rfl)) hs
          have H1 := h1 hlt
          have hi : (k : Int) < ((2 ^ m : Nat) : Int) := by omega
          generalize hP : (2 : Nat) ^ m = P at *
          clear h1 HV HU
          cases hb : cnfT (asg m k []) LL
          · simp only [hb] at ct h2
            have CT := hide ct
            have HS := hide (h2 rfl)
            clear ct cu h2 H1 hb hP hall
            go_wp2_with (go_at_call 82; refine (unhide CP).mono ?_; rintro e w4 ⟨rfl, hw⟩; have hw' := hw.symm; clear hw; subst hw')
            refine (unhide CA).mono ?_; rintro e w5 ⟨x5, rfl, m5⟩
            have G5 := hide m5.2
            have C5 := hide (unhide CT x5 w5 m5.2 (sl.Sl.of_own m5.1))
            have k1 := ((unhide F3).kept m5.2).c0
            have k2 := ((unhide F3).kept m5.2).c1
            clear m5 CT CA
            go_wp2_with fail
            refine (unhide C5).mono ?_; rintro e w6 ⟨rfl, g6⟩
            have G6 := hide (grown_trans (r := none) (grown_trans (r := none) (unhide hg) (unhide G5)) g6)
            clear g6 C5
            go_wp2_with fail
            go_roundw
            case rel => exact ⟨k + 1, by omega, by go_num, HS, G6⟩
            case measure => simp [intOf]; omega
          · cases hd : clT (asg m k []) L
            · simp only [hb] at ct
              simp only [hd] at cu
              have E2 := hide (show impN m LL L = false by unfold impN; rw [hP]; exact H1 (by show (!(cnfT (asg m k []) LL) || clT (asg m k []) L) = false; rw [hb, hd]; rfl))
              have CT := hide ct
              have CU := hide cu
              clear ct cu h2 H1 hb hd hP hall
              go_wp2_with (go_at_call 82; refine (unhide CP).mono ?_; rintro e w4 ⟨rfl, hw⟩; have hw' := hw.symm; clear hw; subst hw')
              refine (unhide CA).mono ?_; rintro e w5 ⟨x5, rfl, m5⟩
              have G5 := hide m5.2
              have S5 := hide (sl.Sl.of_own m5.1)
              have C5 := hide (unhide CT x5 w5 m5.2 (sl.Sl.of_own m5.1))
              have k1 := ((unhide F3).kept m5.2).c0
              have k2 := ((unhide F3).kept m5.2).c1
              clear m5 CT CA
              go_wp2_with fail
              refine (unhide C5).mono ?_; rintro e w6 ⟨rfl, g6⟩
              have C6 := hide (unhide CU x5 w6 (grown_trans (r := none) (unhide G5) g6) ((unhide S5).kept g6 (.inl rfl)))
              have G6 := hide (grown_trans (r := none) (grown_trans (r := none) (unhide G3) (unhide G5)) g6)
              clear g6 C5 CU
              go_wp2_with (go_at_call 85; refine (unhide C6).mono ?_; rintro e w7 ⟨rfl, hw⟩; have hw' := hw.symm; clear hw; subst hw')
              go_ret
              exact ⟨ret_bool (by rw [unhide E]; exact (unhide E2).symm), unhide G6⟩
            · simp only [hb] at ct
              simp only [hd] at cu
              have HS := hide (h2 (by show (!(cnfT (asg m k []) LL) || clT (asg m k []) L) = true; rw [hb, hd]; rfl))
              have CT := hide ct
              have CU := hide cu
              clear ct cu h2 H1 hb hd hP hall
              go_wp2_with (go_at_call 82; refine (unhide CP).mono ?_; rintro e w4 ⟨rfl, hw⟩; have hw' := hw.symm; clear hw; subst hw')
              refine (unhide CA).mono ?_; rintro e w5 ⟨x5, rfl, m5⟩
              have G5 := hide m5.2
              have S5 := hide (sl.Sl.of_own m5.1)
              have C5 := hide (unhide CT x5 w5 m5.2 (sl.Sl.of_own m5.1))
              have k1 := ((unhide F3).kept m5.2).c0
              have k2 := ((unhide F3).kept m5.2).c1
              clear m5 CT CA
              go_wp2_with fail
              refine (unhide C5).mono ?_; rintro e w6 ⟨rfl, g6⟩
              have C6 := hide (unhide CU x5 w6 (grown_trans (r := none) (unhide G5) g6) ((unhide S5).kept g6 (.inl rfl)))
              have G6 := hide (grown_trans (r := none) (grown_trans (r := none) (unhide hg) (unhide G5)) g6)
              clear g6 C5 CU
              go_wp2_with (go_at_call 85; refine (unhide C6).mono ?_; rintro e w7 ⟨rfl, hw⟩; have hw' := hw.symm; clear hw; subst hw')
              go_roundw
              case rel => exact ⟨k + 1, by omega, by go_num, HS, G6⟩
              case measure => simp [intOf]; omega
        · have hkP : k = 2 ^ m := by omega
          have E2 := hide (show impN m LL L = true by unfold impN; rw [← hkP]; exact unhide hall)
          have hi : ¬ (k : Int) < ((2 ^ m : Nat) : Int) := by omega
          clear h1 h2 HV HU hkP hall
          generalize (2 : Nat) ^ m = P at *
          go_wp2_with (go_at_call 82; refine (unhide CP).mono ?_; rintro e w4 ⟨rfl, hw⟩; have hw' := hw.symm; clear hw; subst hw')
          go_ret
          exact ⟨ret_bool (by rw [unhide E]; exact (unhide E2).symm), unhide G3⟩
  · have E := hide (show impB n LL L = false by unfold impB; rw [decide_eq_false h14]; simp)
    have h14' : (14 : Int) < n := by omega
    clear cc hb HV HU cl
    go_enter Tryd.func28, Tryd.ntmps28
    go_wp2_with fail
    refine (unhide CC).mono ?_; rintro e w2 ⟨rfl, g2⟩
    have G2 := hide (grown_trans (r := none) (unhide G0) g2)
    have x0 := ((unhide F0).kept g2).c0
    clear g2 F0
    go_wp2_with fail
    go_ret
    exact ⟨ret_bool (unhide E).symm, unhide G2⟩
end Go.Proofs.YtloenjaonkdlaaaDoor.ct
