/- What CnfOk (of the program and of its model) answers at every formula that holds at most 2^20 values; no other condition. -/
import Derived.Test.YtibpnocpafppaaaDoorCf
import Derived.Test.YtibpnocpafppaaaDoorLits
namespace Go.Proofs.YtibpnocpafppaaaDoor.ok
open Go.ChangeShapes Go.WideShapes Go.ChangeAt Go.RowKit
open Go.Proofs.YtibpnocpafppaaaDoor.lits (okB varI)
open Go.Proofs.YtibpnocpafppaaaDoor.sl (Sl Own ints marks hide unhide ret_int ret_bool grown_refl grown_trans grown_drewN below_of of_below)
open Go.Proofs.YtibpnocpafppaaaDoor.css (Sls OwnS Outs tot sumLen marksS)
open Go.Proofs.YtibpnocpafppaaaDoor.cf (Box)
set_option linter.unusedVariables false

/-- whether x is a literal of the variables 1 to n -/
def litIn (n x : Int) : Bool := okB x && decide (varI x ≤ n)
/-- whether a list is a clause of them -/
def clB (n : Int) (L : List Int) : Bool := L.all (litIn n) && decide (L.length ≤ 48)
/-- whether a formula is one -/
def cnfB (n : Int) (LL : List (List Int)) : Bool := decide (0 ≤ n ∧ n ≤ 24) && decide (LL.length ≤ 120) && LL.all (clB n)

theorem all_hit {α : Type} (f : α → Bool) (L : List α) (k : Nat) (d : α) (h : k < L.length) (hx : f (L.getD k d) = false) : L.all f = false := by
  rw [List.all_eq_false]
  refine ⟨L[k], List.getElem_mem h, ?_⟩
  rw [show L.getD k d = L[k] by simp [h]] at hx
  simp [hx]
theorem all_step {α : Type} (f : α → Bool) (L : List α) (k : Nat) (d : α) (h : k < L.length) (ha : (L.take k).all f = true) (hx : f (L.getD k d) = true) : (L.take (k + 1)).all f = true := by
  rw [List.take_succ_eq_append_getElem h, List.all_append, ha]
  rw [show L.getD k d = L[k] by simp [h]] at hx
  simp [hx]
theorem all_end {α : Type} (f : α → Bool) (L : List α) (k : Nat) (h : ¬ k < L.length) (ha : (L.take k).all f = true) : L.all f = true := by
  rw [List.take_of_length_le (by omega)] at ha
  exact ha
theorem clB_hit {n : Int} {L : List Int} (h : L.all (litIn n) = false) : clB n L = false := by unfold clB; rw [h]; rfl
theorem clB_end {n : Int} {L : List Int} (h : L.all (litIn n) = true) : clB n L = decide (L.length ≤ 48) := by unfold clB; rw [h]; rfl
theorem dec_len (n : Nat) (c : Nat) : decide ((n : Int) ≤ (c : Int)) = decide (n ≤ c) := by simp

theorem l01In (x a b : Int) (w : World) : Calls Tryd.prog 75 #[.int .i64 x, .int .i64 a, .int .i64 b] w fun e w' => e = .returned (.bool (decide (a ≤ x ∧ x ≤ b))) ∧ w' = w := by
  by_cases h1 : a ≤ x
  · by_cases h2 : x ≤ b
    · rw [decide_eq_true ⟨h1, h2⟩]
      go_enter Tryd.func75, Tryd.ntmps75
      go_wp2
      go_ret
      exact ⟨rfl, rfl⟩
    · rw [decide_eq_false (fun h => h2 h.2)]
      go_enter Tryd.func75, Tryd.ntmps75
      go_wp2
      go_ret
      exact ⟨rfl, rfl⟩
  · rw [decide_eq_false (fun h => h1 h.1)]
    go_enter Tryd.func75, Tryd.ntmps75
    go_wp2
    go_ret
    exact ⟨rfl, rfl⟩

theorem specClause (v : Value) (L : List Int) (n : Int) (w : World) (hL : L.length ≤ 1048576) (hv : Sl w v L) :
    Calls Tryd.prog 92 #[v, .int .i64 n] w fun e w' => e = .returned (.bool (clB n L)) ∧ w' = w := by
  obtain ⟨a, cap, rfl, ha⟩ := hv
  have HA := hide ha
  clear ha
  go_enter Tryd.func92, Tryd.ntmps92
  go_wp2
  go_loop [5] (fun i => ∃ k : Nat, k ≤ L.length ∧ i = .int .i64 k ∧ Hid ((L.take k).all (litIn n) = true)) (fun i => L.length - (intOf i).toNat)
  case atStart => exact ⟨0, Nat.zero_le _, rfl, by show _ = _; simp⟩
  case round =>
    obtain ⟨k, hk, rfl, hall⟩ := hrel
    by_cases hlt : k < L.length
    · rcases unhide HA with h | ⟨b, off, rfl, hb, hcb⟩
      · rw [h] at hlt
        simp at hlt
      · have c1 := hcb k hlt
        have hi' : (k : Int) < (L.length : Int) := by omega
        have h1 := all_hit (litIn n) L k 0 hlt
        have h2 := all_step (litIn n) L k 0 hlt (unhide hall)
        generalize L.getD k 0 = x at *
        have cx := lits.specLitOk x
        have cv := lits.specLitVar x
        cases hx : okB x
        · rw [hx] at cx
          have CX := hide cx
          have H := hide (clB_hit (h1 (by unfold litIn; rw [hx]; rfl)))
          clear cx cv h1 h2 hx hcb HA hall
          go_wp2_with (go_at_call 138; refine (unhide CX _).mono ?_; rintro e w' ⟨rfl, rfl⟩)
          go_ret
          exact ⟨ret_bool (unhide H).symm, rfl⟩
        · rw [hx] at cx
          have CX := hide cx
          have CV := hide cv
          by_cases hq : varI x ≤ n
          · have H := hide (h2 (by unfold litIn; rw [hx, decide_eq_true hq]; rfl))
            clear cx cv h1 h2 hx hcb HA hall
            generalize varI x = y at *
            have hq' : ¬ n < y := by omega
            go_wp2_with (first | (go_at_call 138; refine (unhide CX _).mono ?_; rintro e w' ⟨rfl, rfl⟩) | (go_at_call 91; refine (unhide CV _).mono ?_; rintro e w' ⟨rfl, rfl⟩))
            go_round
            case rel => exact ⟨k + 1, by omega, by go_num, H⟩
            case measure => simp [intOf]; omega
          · have H := hide (clB_hit (h1 (by unfold litIn; rw [decide_eq_false hq, Bool.and_false])))
            clear cx cv h1 h2 hx hcb HA hall
            generalize varI x = y at *
            have hq' : n < y := by omega
            go_wp2_with (first | (go_at_call 138; refine (unhide CX _).mono ?_; rintro e w' ⟨rfl, rfl⟩) | (go_at_call 91; refine (unhide CV _).mono ?_; rintro e w' ⟨rfl, rfl⟩))
            go_ret
            exact ⟨ret_bool (unhide H).symm, rfl⟩
    · have hi' : ¬ (k : Int) < (L.length : Int) := by omega
      have HR := hide (clB_end (all_end (litIn n) L k hlt (unhide hall)))
      clear HA hall
      go_wp2
      go_ret
      exact ⟨ret_bool (by rw [unhide HR]; exact dec_len _ 48), rfl⟩

theorem literalOf (x n : Int) (w : World) : Calls Tryd.prog 116 #[.int .i64 x, .int .i64 n] w fun e w' => e = .returned (.bool (litIn n x)) ∧ w' = w := by
  have cx := lits.implLitOk x
  have cv := lits.implLitVar x
  unfold litIn
  cases hx : okB x
  · rw [hx] at cx
    have CX := hide cx
    clear cx cv hx
    go_enter Tryd.func116, Tryd.ntmps116
    go_wp2_with (go_at_call 154; refine (unhide CX _).mono ?_; rintro e w' ⟨rfl, rfl⟩)
    go_ret
    exact ⟨rfl, rfl⟩
  · rw [hx] at cx
    have CX := hide cx
    have CV := hide cv
    clear cx cv hx
    generalize varI x = y at *
    go_enter Tryd.func116, Tryd.ntmps116
    go_wp2_with (first | (go_at_call 154; refine (unhide CX _).mono ?_; rintro e w' ⟨rfl, rfl⟩) | (go_at_call 134; refine (unhide CV _).mono ?_; rintro e w' ⟨rfl, rfl⟩))
    go_ret
    exact ⟨rfl, rfl⟩

theorem literalsOf (v : Value) (L : List Int) (n : Int) (w : World) (hL : L.length ≤ 1048576) (hv : Sl w v L) :
    Calls Tryd.prog 145 #[v, .int .i64 n] w fun e w' => e = .returned (.bool (L.all (litIn n))) ∧ w' = w := by
  obtain ⟨a, cap, rfl, ha⟩ := hv
  have HA := hide ha
  clear ha
  go_enter Tryd.func145, Tryd.ntmps145
  go_wp2
  go_loop [9] (fun i => ∃ k : Nat, k ≤ L.length ∧ i = .int .i64 k ∧ Hid ((L.take k).all (litIn n) = true)) (fun i => L.length - (intOf i).toNat)
  case atStart => exact ⟨0, Nat.zero_le _, rfl, by show _ = _; simp⟩
  case round =>
    obtain ⟨k, hk, rfl, hall⟩ := hrel
    by_cases hlt : k < L.length
    · rcases unhide HA with h | ⟨b, off, rfl, hb, hcb⟩
      · rw [h] at hlt
        simp at hlt
      · have c1 := hcb k hlt
        have hi' : (k : Int) < (L.length : Int) := by omega
        have h1 := all_hit (litIn n) L k 0 hlt
        have h2 := all_step (litIn n) L k 0 hlt (unhide hall)
        generalize L.getD k 0 = x at *
        have cx := literalOf x n
        cases hx : litIn n x
        · rw [hx] at cx
          have CX := hide cx
          have H := hide (h1 hx)
          clear cx h1 h2 hx hcb HA hall
          go_wp2_with (go_at_call 116; refine (unhide CX _).mono ?_; rintro e w' ⟨rfl, rfl⟩)
          go_ret
          exact ⟨ret_bool (unhide H).symm, rfl⟩
        · rw [hx] at cx
          have CX := hide cx
          have H := hide (h2 hx)
          clear cx h1 h2 hx hcb HA hall
          go_wp2_with (go_at_call 116; refine (unhide CX _).mono ?_; rintro e w' ⟨rfl, rfl⟩)
          go_round
          case rel => exact ⟨k + 1, by omega, by go_num, H⟩
          case measure => simp [intOf]; omega
    · have hi' : ¬ (k : Int) < (L.length : Int) := by omega
      have HR := hide (all_end (litIn n) L k hlt (unhide hall))
      clear HA hall
      go_wp2
      go_ret
      exact ⟨ret_bool (unhide HR).symm, rfl⟩

theorem clauseOf (v : Value) (L : List Int) (n : Int) (w : World) (hL : L.length ≤ 1048576) (hv : Sl w v L) :
    Calls Tryd.prog 115 #[v, .int .i64 n] w fun e w' => e = .returned (.bool (clB n L)) ∧ w' = w := by
  have C := hide (literalsOf v L n w hL hv)
  obtain ⟨a, cap, rfl, ha⟩ := hv
  unfold clB
  clear ha
  by_cases h : L.length ≤ 48
  · rw [decide_eq_true h, Bool.and_true]
    have hi : (L.length : Int) ≤ 48 := by omega
    go_enter Tryd.func115, Tryd.ntmps115
    go_wp2_with (go_at_call 145; refine (unhide C).mono ?_; rintro e w' ⟨rfl, rfl⟩)
    go_ret
    exact ⟨rfl, rfl⟩
  · rw [decide_eq_false h, Bool.and_false]
    have hi : ¬ (L.length : Int) ≤ 48 := by omega
    go_enter Tryd.func115, Tryd.ntmps115
    go_wp2_with fail
    go_ret
    exact ⟨rfl, rfl⟩

theorem specCnfOk (v : Value) (n : Int) (LL : List (List Int)) (w : World) (hn : tot LL ≤ 1048576) (hv : Sls w v LL) :
    Calls Tryd.prog 31 #[.agg #[.int .i64 n, v]] w fun e w' => e = .returned (.bool (cnfB n LL)) ∧ w.grownBy w' none := by
  obtain ⟨a, cap, rfl, ha⟩ := hv
  have hl := Nat.le_trans (css.tot_len LL) hn
  have G0 := hide (World.grownBy_alloc w (.cells #[.int .i64 n, .slice a LL.length cap] 26) none)
  by_cases hN : 0 ≤ n ∧ n ≤ 24
  · by_cases hc : LL.length ≤ 120
    · have li := fun w => l01In n 0 24 w
      rw [decide_eq_true hN] at li
      have LI := hide li
      have N0 : ¬ n < 0 := by omega
      have N1 : ¬ 24 < n := by omega
      have hc' : ¬ (120 : Int) < (LL.length : Int) := by omega
      have bx := hide (cf.Box.new 26 w (.int .i64 n) (.slice a LL.length cap))
      have EQ := hide (show cnfB n LL = LL.all (clB n) by unfold cnfB; rw [decide_eq_true hN, decide_eq_true hc]; rfl)
      have HA := hide ha
      clear ha hN hc li
      go_enter Tryd.func31, Tryd.ntmps31
      go_wp2_with (go_at_call 75; refine (unhide LI _).mono ?_; rintro e w' ⟨rfl, rfl⟩)
      go_loopw [3] (fun i wr => ∃ k : Nat, k ≤ LL.length ∧ i = .int .i64 k ∧ Hid ((LL.take k).all (clB n) = true) ∧ Hid ((w.alloc (.cells #[.int .i64 n, .slice a LL.length cap] 26)).grownBy wr none)) (fun i _ => LL.length - (intOf i).toNat)
      case atStart => exact ⟨0, Nat.zero_le _, rfl, (by show _ = _; simp), grown_refl _⟩
      case round =>
        obtain ⟨k, hk, rfl, hall, hg⟩ := hrel
        have bk := (unhide bx).kept (unhide hg)
        have x0 := bk.c0
        have x1 := bk.c1
        have g1 := grown_trans (r := none) (unhide G0) (unhide hg)
        clear bx bk
        by_cases hlt : k < LL.length
        · rcases unhide HA with h | ⟨b, off, rfl, hb, hcb⟩
          · rw [h] at hlt
            simp at hlt
          · obtain ⟨u, hu, hs⟩ := hcb k hlt
            have c1 : wr.cell? ⟨b, off + k, none⟩ = some u := g1.cell hu (fun e => by cases e)
            have hi' : (k : Int) < (LL.length : Int) := by omega
            have h1 := all_hit (clB n) LL k [] hlt
            have h2 := all_step (clB n) LL k [] hlt (unhide hall)
            have hL := Nat.le_trans (css.tot_in LL k) hn
            generalize LL.getD k [] = L at *
            have cx := fun m => specClause u L n (wr.drewN m) hL ((hs.kept g1 (.inl rfl)).kept (grown_drewN wr m) (.inl rfl))
            have G1 := hide g1
            cases hx : clB n L
            · rw [hx] at cx
              have C := hide cx
              have H := hide (h1 hx)
              clear cx h1 h2 hx hcb HA hall hs hu g1
              go_wp2
              go_quiet (first | (go_at_call 92; exact Calls.quiet_of_same (unhide C _)))
              go_wp2
              go_ret
              exact ⟨ret_bool (by rw [unhide EQ]; exact (unhide H).symm), grown_trans (unhide G1) (grown_drewN _ _)⟩
            · rw [hx] at cx
              have C := hide cx
              have H := hide (h2 hx)
              clear cx h1 h2 hx hcb HA hall hs hu g1
              go_wp2
              go_quiet (first | (go_at_call 92; exact Calls.quiet_of_same (unhide C _)))
              go_wp2
              go_roundw
              case rel => exact ⟨k + 1, by omega, by go_num, H, grown_trans (unhide hg) (grown_drewN _ _)⟩
              case measure => simp [intOf]; omega
        · have hi' : ¬ (k : Int) < (LL.length : Int) := by omega
          have HR := hide (all_end (clB n) LL k hlt (unhide hall))
          have G1 := hide g1
          clear HA hall g1
          go_wp2
          go_ret
          exact ⟨ret_bool (by rw [unhide EQ]; exact (unhide HR).symm), unhide G1⟩
    · have E := hide (show cnfB n LL = false by unfold cnfB; rw [decide_eq_false hc]; simp)
      have li := fun w => l01In n 0 24 w
      rw [decide_eq_true hN] at li
      have LI := hide li
      have N0 : ¬ n < 0 := by omega
      have N1 : ¬ 24 < n := by omega
      have hc' : (120 : Int) < (LL.length : Int) := by omega
      clear ha hN hc li
      go_enter Tryd.func31, Tryd.ntmps31
      go_wp2_with (go_at_call 75; refine (unhide LI _).mono ?_; rintro e w' ⟨rfl, rfl⟩)
      go_ret
      exact ⟨ret_bool (unhide E).symm, unhide G0⟩
  · have E := hide (show cnfB n LL = false by unfold cnfB; rw [decide_eq_false hN]; simp)
    have li := fun w => l01In n 0 24 w
    rw [decide_eq_false hN] at li
    have LI := hide li
    clear ha li
    clear hN
    all_goals
      skip
      go_enter Tryd.func31, Tryd.ntmps31
      go_wp2_with (go_at_call 75; refine (unhide LI _).mono ?_; rintro e w' ⟨rfl, rfl⟩)
      go_ret
      exact ⟨ret_bool (unhide E).symm, unhide G0⟩

theorem implCnfOk (v : Value) (n : Int) (LL : List (List Int)) (w : World) (hn : tot LL ≤ 1048576) (hv : Sls w v LL) :
    Calls Tryd.prog 56 #[.agg #[.int .i64 n, v]] w fun e w' => e = .returned (.bool (cnfB n LL)) ∧ w.grownBy w' none := by
  obtain ⟨a, cap, rfl, ha⟩ := hv
  have hl := Nat.le_trans (css.tot_len LL) hn
  have G0 := hide (World.grownBy_alloc w (.cells #[.int .i64 n, .slice a LL.length cap] 26) none)
  by_cases hN : 0 ≤ n ∧ n ≤ 24
  · by_cases hc : LL.length ≤ 120
    · have li := trivial
      skip
      have LI := hide li
      have N0 : ¬ n < 0 := by omega
      have N1 : ¬ 24 < n := by omega
      have hc' : ¬ (120 : Int) < (LL.length : Int) := by omega
      have bx := hide (cf.Box.new 26 w (.int .i64 n) (.slice a LL.length cap))
      have EQ := hide (show cnfB n LL = LL.all (clB n) by unfold cnfB; rw [decide_eq_true hN, decide_eq_true hc]; rfl)
      have HA := hide ha
      clear ha hN hc li
      go_enter Tryd.func56, Tryd.ntmps56
      go_wp2_with fail
      go_loopw [22] (fun i wr => ∃ k : Nat, k ≤ LL.length ∧ i = .int .i64 k ∧ Hid ((LL.take k).all (clB n) = true) ∧ Hid ((w.alloc (.cells #[.int .i64 n, .slice a LL.length cap] 26)).grownBy wr none)) (fun i _ => LL.length - (intOf i).toNat)
      case atStart => exact ⟨0, Nat.zero_le _, rfl, (by show _ = _; simp), grown_refl _⟩
      case round =>
        obtain ⟨k, hk, rfl, hall, hg⟩ := hrel
        have bk := (unhide bx).kept (unhide hg)
        have x0 := bk.c0
        have x1 := bk.c1
        have g1 := grown_trans (r := none) (unhide G0) (unhide hg)
        clear bx bk
        by_cases hlt : k < LL.length
        · rcases unhide HA with h | ⟨b, off, rfl, hb, hcb⟩
          · rw [h] at hlt
            simp at hlt
          · obtain ⟨u, hu, hs⟩ := hcb k hlt
            have c1 : wr.cell? ⟨b, off + k, none⟩ = some u := g1.cell hu (fun e => by cases e)
            have hi' : (k : Int) < (LL.length : Int) := by omega
            have h1 := all_hit (clB n) LL k [] hlt
            have h2 := all_step (clB n) LL k [] hlt (unhide hall)
            have hL := Nat.le_trans (css.tot_in LL k) hn
            generalize LL.getD k [] = L at *
            have cx := fun m => clauseOf u L n (wr.drewN m) hL ((hs.kept g1 (.inl rfl)).kept (grown_drewN wr m) (.inl rfl))
            have G1 := hide g1
            cases hx : clB n L
            · rw [hx] at cx
              have C := hide cx
              have H := hide (h1 hx)
              clear cx h1 h2 hx hcb HA hall hs hu g1
              go_wp2_with fail
              refine (unhide C 0).mono ?_; rintro e w' ⟨rfl, hw⟩; have hw' := hw.symm; clear hw; subst hw'
              go_wp2_with fail
              go_ret
              exact ⟨ret_bool (by rw [unhide EQ]; exact (unhide H).symm), unhide G1⟩
            · rw [hx] at cx
              have C := hide cx
              have H := hide (h2 hx)
              clear cx h1 h2 hx hcb HA hall hs hu g1
              go_wp2_with fail
              refine (unhide C 0).mono ?_; rintro e w' ⟨rfl, hw⟩; have hw' := hw.symm; clear hw; subst hw'
              go_wp2_with fail
              go_roundw
              case rel => exact ⟨k + 1, by omega, by go_num, H, hg⟩
              case measure => simp [intOf]; omega
        · have hi' : ¬ (k : Int) < (LL.length : Int) := by omega
          have HR := hide (all_end (clB n) LL k hlt (unhide hall))
          have G1 := hide g1
          clear HA hall g1
          go_wp2
          go_ret
          exact ⟨ret_bool (by rw [unhide EQ]; exact (unhide HR).symm), unhide G1⟩
    · have E := hide (show cnfB n LL = false by unfold cnfB; rw [decide_eq_false hc]; simp)
      have li := trivial
      skip
      have LI := hide li
      have N0 : ¬ n < 0 := by omega
      have N1 : ¬ 24 < n := by omega
      have hc' : (120 : Int) < (LL.length : Int) := by omega
      clear ha hN hc li
      go_enter Tryd.func56, Tryd.ntmps56
      go_wp2_with fail
      go_ret
      exact ⟨ret_bool (unhide E).symm, unhide G0⟩
  · have E := hide (show cnfB n LL = false by unfold cnfB; rw [decide_eq_false hN]; simp)
    have li := trivial
    skip
    have LI := hide li
    clear ha li
    rcases (show n < 0 ∨ (¬ n < 0 ∧ 24 < n) by omega) with N0 | ⟨N0, N1⟩
    all_goals
      clear hN
      go_enter Tryd.func56, Tryd.ntmps56
      go_wp2_with fail
      go_ret
      exact ⟨ret_bool (unhide E).symm, unhide G0⟩
end Go.Proofs.YtibpnocpafppaaaDoor.ok
