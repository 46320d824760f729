/- What ClauseTrue, AssignOk and CnfTrue (of the program and of its model) answer at every formula that holds at most 2^20 values and every list of at most 2^20 numbers; no other condition. -/
import Derived.Test.YtibpnocpafppaaaDoorOk
namespace Go.Proofs.YtibpnocpafppaaaDoor.tr
open Go.ChangeShapes Go.WideShapes Go.ChangeAt Go.RowKit
open Go.Proofs.YtibpnocpafppaaaDoor.lits (okB varI)
open Go.Proofs.YtibpnocpafppaaaDoor.sl (Sl Own ints marks hide unhide ret_int ret_bool grown_refl grown_trans grown_drewN below_of of_below)
open Go.Proofs.YtibpnocpafppaaaDoor.css (Sls OwnS Outs tot sumLen marksS)
open Go.Proofs.YtibpnocpafppaaaDoor.cf (Box)
open Go.Proofs.YtibpnocpafppaaaDoor.ok (cnfB all_hit all_step all_end)
set_option linter.unusedVariables false

/-- whether a literal is true at a list of values -/
def litT (A : List Int) (x : Int) : Bool := if varI x = 0 then false else (decide (varI x ≤ (A.length : Int)) && decide (A.getD (varI x - 1).toNat 0 = 1)) == decide (0 < x)
/-- whether a clause is -/
def clT (A L : List Int) : Bool := L.any (litT A)
/-- whether each clause is -/
def cnfT (A : List Int) (LL : List (List Int)) : Bool := LL.all (clT A)
def bitB (x : Int) : Bool := decide (0 ≤ x ∧ x ≤ 1)
/-- whether a list is an assignment of a formula -/
def assignB (n : Int) (LL : List (List Int)) (A : List Int) : Bool := cnfB n LL && decide ((A.length : Int) = n) && A.all bitB
def trueB (n : Int) (LL : List (List Int)) (A : List Int) : Bool := assignB n LL A && cnfT A LL

theorem varI_bd (x : Int) : 0 ≤ varI x ∧ varI x ≤ 24 := by
  by_cases h : x ≠ 0 ∧ -24 ≤ x ∧ x ≤ 24
  · rw [lits.varI_yes h]
    split <;> omega
  · rw [lits.varI_no h]
    omega
theorem litT_no {A : List Int} {x : Int} (h : varI x = 0) : litT A x = false := if_pos h
theorem litT_far {A : List Int} {x : Int} {m : Nat} (h : varI x = (m : Int) + 1) (hm : ¬ m < A.length) : litT A x = (false == decide (0 < x)) := by
  unfold litT
  rw [if_neg (by omega), decide_eq_false (by omega)]
  rfl
theorem litT_near {A : List Int} {x : Int} {m : Nat} (h : varI x = (m : Int) + 1) (hm : m < A.length) : litT A x = (decide (A.getD m 0 = 1) == decide (0 < x)) := by
  unfold litT
  rw [if_neg (by omega), decide_eq_true (show varI x ≤ (A.length : Int) by omega), h]
  have e : ((m : Int) + 1 - 1).toNat = m := by omega
  rw [e]
  rfl
theorem any_hit {α : Type} (f : α → Bool) (L : List α) (k : Nat) (d : α) (h : k < L.length) (hx : f (L.getD k d) = true) : L.any f = true := by
  rw [List.any_eq_true]
  refine ⟨L[k], List.getElem_mem h, ?_⟩
  rw [show L.getD k d = L[k] by simp [h]] at hx
  exact hx
theorem any_step {α : Type} (f : α → Bool) (L : List α) (k : Nat) (d : α) (h : k < L.length) (ha : (L.take k).any f = false) (hx : f (L.getD k d) = false) : (L.take (k + 1)).any f = false := by
  rw [List.take_succ_eq_append_getElem h, List.any_append, ha]
  rw [show L.getD k d = L[k] by simp [h]] at hx
  simp [hx]
theorem any_end {α : Type} (f : α → Bool) (L : List α) (k : Nat) (h : ¬ k < L.length) (ha : (L.take k).any f = false) : L.any f = false := by
  rw [List.take_of_length_le (by omega)] at ha
  exact ha

theorem literalTrue (x : Int) (u : Value) (A : List Int) (w : World) (hA : A.length ≤ 1048576) (hu : Sl w u A) :
    Calls Tryd.prog 124 #[.int .i64 x, u] w fun e w' => e = .returned (.bool (litT A x)) ∧ w' = w := by
  obtain ⟨a, cap, rfl, ha⟩ := hu
  have cv := lits.implLitVar x
  have bd := varI_bd x
  by_cases h0 : varI x = 0
  · rw [litT_no h0]
    rw [h0] at cv
    have CV := hide cv
    clear cv h0 ha bd
    go_enter Tryd.func124, Tryd.ntmps124
    go_wp2_with (go_at_call 134; refine (unhide CV _).mono ?_; rintro e w' ⟨rfl, rfl⟩)
    go_ret
    exact ⟨rfl, rfl⟩
  · obtain ⟨m, hm⟩ : ∃ m : Nat, varI x = (m : Int) + 1 := ⟨(varI x - 1).toNat, by omega⟩
    have hm' : m ≤ 24 := by omega
    by_cases hl : m < A.length
    · rw [litT_near hm hl]
      rcases ha with rfl | ⟨b, off, rfl, hb, hcb⟩
      · simp at hl
      · have c1 := hcb m hl
        rw [hm] at cv
        have CV := hide cv
        have hi : (m : Int) + 1 ≤ (A.length : Int) := by omega
        have hi2 : (m : Int) < (A.length : Int) := by omega
        have h1 : (((m : Int) + 1) == 0) = false := by simp; omega
        generalize A.getD m 0 = z at *
        clear cv hcb hm bd h0
        by_cases hz : z = 1
        · subst hz
          go_enter Tryd.func124, Tryd.ntmps124
          go_wp2_with (go_at_call 134; refine (unhide CV _).mono ?_; rintro e w' ⟨rfl, rfl⟩)
          go_ret
          exact ⟨ret_bool (by simp), rfl⟩
        · have hz' : (z == 1) = false := by simpa using hz
          rw [decide_eq_false hz]
          go_enter Tryd.func124, Tryd.ntmps124
          go_wp2_with (go_at_call 134; refine (unhide CV _).mono ?_; rintro e w' ⟨rfl, rfl⟩)
          go_ret
          exact ⟨ret_bool (by simp), rfl⟩
    · rw [litT_far hm hl]
      rw [hm] at cv
      have CV := hide cv
      have hi : ¬ (m : Int) + 1 ≤ (A.length : Int) := by omega
      have h1 : (((m : Int) + 1) == 0) = false := by simp; omega
      clear cv hm bd h0 ha
      go_enter Tryd.func124, Tryd.ntmps124
      go_wp2_with (go_at_call 134; refine (unhide CV _).mono ?_; rintro e w' ⟨rfl, rfl⟩)
      go_ret
      exact ⟨ret_bool (by simp), rfl⟩

theorem implClauseTrue (v u : Value) (L A : List Int) (w : World) (hL : L.length ≤ 1048576) (hA : A.length ≤ 1048576) (hv : Sl w v L) (hu : Sl w u A) :
    Calls Tryd.prog 69 #[v, u] w fun e w' => e = .returned (.bool (clT A L)) ∧ w' = w := by
  obtain ⟨a, cap, rfl, ha⟩ := hv
  have HA := hide ha
  have HU := hide hu
  clear ha hu
  go_enter Tryd.func69, Tryd.ntmps69
  go_wp2
  go_loop [9] (fun i => ∃ k : Nat, k ≤ L.length ∧ i = .int .i64 k ∧ Hid ((L.take k).any (litT A) = false)) (fun i => L.length - (intOf i).toNat)
  case atStart => exact ⟨0, Nat.zero_le _, rfl, by show _ = _; simp⟩
  case round =>
    obtain ⟨k, hk, rfl, hall⟩ := hrel
    by_cases hlt : k < L.length
    · rcases unhide HA with h | ⟨b, off, rfl, hb, hcb⟩
      · rw [h] at hlt
        simp at hlt
      · have c1 := hcb k hlt
        have hi' : (k : Int) < (L.length : Int) := by omega
        have h1 := any_hit (litT A) L k 0 hlt
        have h2 := any_step (litT A) L k 0 hlt (unhide hall)
        generalize L.getD k 0 = x at *
        have cx := literalTrue x u A w hA (unhide HU)
        cases hx : litT A x
        · rw [hx] at cx
          have CX := hide cx
          have H := hide (h2 hx)
          clear cx h1 h2 hx hcb HA HU hall
          go_wp2_with (go_at_call 124; refine (unhide CX).mono ?_; rintro e w' ⟨rfl, rfl⟩)
          go_round
          case rel => exact ⟨k + 1, by omega, by go_num, H⟩
          case measure => simp [intOf]; omega
        · rw [hx] at cx
          have CX := hide cx
          have H := hide (h1 hx)
          clear cx h1 h2 hx hcb HA HU hall
          go_wp2_with (go_at_call 124; refine (unhide CX).mono ?_; rintro e w' ⟨rfl, rfl⟩)
          go_ret
          exact ⟨ret_bool (unhide H).symm, rfl⟩
    · have hi' : ¬ (k : Int) < (L.length : Int) := by omega
      have HR := hide (any_end (litT A) L k hlt (unhide hall))
      clear HA HU hall
      go_wp2
      go_ret
      exact ⟨ret_bool (unhide HR).symm, rfl⟩

set_option maxHeartbeats 800000 in
theorem specClauseTrue (v u : Value) (L A : List Int) (w : World) (hL : L.length ≤ 1048576) (hA : A.length ≤ 1048576) (hv : Sl w v L) (hu : Sl w u A) :
    Calls Tryd.prog 132 #[v, u] w fun e w' => e = .returned (.bool (clT A L)) ∧ w' = w := by
  obtain ⟨a, cap, rfl, ha⟩ := hv
  obtain ⟨c, cap', rfl, hc⟩ := hu
  have HA := hide ha
  have HU := hide hc
  clear ha hc
  go_enter Tryd.func132, Tryd.ntmps132
  go_wp2
  go_loop [5] (fun i => ∃ k : Nat, k ≤ L.length ∧ i = .int .i64 k ∧ Hid ((L.take k).any (litT A) = false)) (fun i => L.length - (intOf i).toNat)
  case atStart => exact ⟨0, Nat.zero_le _, rfl, by show _ = _; simp⟩
  case round =>
    obtain ⟨k, hk, rfl, hall⟩ := hrel
    by_cases hlt : k < L.length
    · rcases unhide HA with h | ⟨b, off, rfl, hb, hcb⟩
      · rw [h] at hlt
        simp at hlt
      · have c1 := hcb k hlt
        have hi' : (k : Int) < (L.length : Int) := by omega
        have h1 := any_hit (litT A) L k 0 hlt
        have h2 := any_step (litT A) L k 0 hlt (unhide hall)
        generalize L.getD k 0 = x at *
        have cv := lits.specLitVar x
        have bd := varI_bd x
        clear hcb HA hall
        by_cases h0 : varI x = 0
        · have H := hide (h2 (litT_no h0))
          rw [h0] at cv
          have CV := hide cv
          clear cv h0 bd h1 h2 HU
          go_wp2_with (go_at_call 91; refine (unhide CV _).mono ?_; rintro e w' ⟨rfl, rfl⟩)
          go_round
          case rel => exact ⟨k + 1, by omega, by go_num, H⟩
          case measure => simp [intOf]; omega
        · obtain ⟨m, hm⟩ : ∃ m : Nat, varI x = (m : Int) + 1 := ⟨(varI x - 1).toNat, by omega⟩
          have hm' : m ≤ 24 := by omega
          have h3 : (((m : Int) + 1) == 0) = false := by simp; omega
          by_cases hl : m < A.length
          · have lt := litT_near hm hl
            rcases unhide HU with h | ⟨d, off', rfl, hd, hcd⟩
            · rw [h] at hl
              simp at hl
            · have c2 := hcd m hl
              rw [hm] at cv
              have CV := hide cv
              have hi : (m : Int) + 1 ≤ (A.length : Int) := by omega
              have hi2 : (m : Int) < (A.length : Int) := by omega
              generalize A.getD m 0 = z at *
              clear cv hcd hm bd h0 HU
              by_cases hz : z = 1
              · subst hz
                by_cases hx : 0 < x
                · have H := hide (h1 (by rw [lt, decide_eq_true hx]; rfl))
                  clear h1 h2 lt
                  go_wp2_with (go_at_call 91; refine (unhide CV _).mono ?_; rintro e w' ⟨rfl, rfl⟩)
                  go_ret
                  exact ⟨ret_bool (unhide H).symm, rfl⟩
                · have hx' : decide (0 < x) = false := decide_eq_false hx
                  have H := hide (h2 (by rw [lt, decide_eq_false hx]; rfl))
                  clear h1 h2 lt
                  go_wp2_with (go_at_call 91; refine (unhide CV _).mono ?_; rintro e w' ⟨rfl, rfl⟩)
                  go_round
                  case rel => exact ⟨k + 1, by omega, by go_num, H⟩
                  case measure => simp [intOf]; omega
              · have hz' : (z == 1) = false := by simpa using hz
                rw [decide_eq_false hz] at lt
                by_cases hx : 0 < x
                · have H := hide (h2 (by rw [lt, decide_eq_true hx]; rfl))
                  clear h1 h2 lt
                  go_wp2_with (go_at_call 91; refine (unhide CV _).mono ?_; rintro e w' ⟨rfl, rfl⟩)
                  go_round
                  case rel => exact ⟨k + 1, by omega, by go_num, H⟩
                  case measure => simp [intOf]; omega
                · have hx' : decide (0 < x) = false := decide_eq_false hx
                  have H := hide (h1 (by rw [lt, decide_eq_false hx]; rfl))
                  clear h1 h2 lt
                  go_wp2_with (go_at_call 91; refine (unhide CV _).mono ?_; rintro e w' ⟨rfl, rfl⟩)
                  go_ret
                  exact ⟨ret_bool (unhide H).symm, rfl⟩
          · have lt := litT_far (A := A) hm hl
            rw [hm] at cv
            have CV := hide cv
            have hi : ¬ (m : Int) + 1 ≤ (A.length : Int) := by omega
            clear cv hm bd h0 HU
            by_cases hx : 0 < x
            · have H := hide (h2 (by rw [lt, decide_eq_true hx]; rfl))
              clear h1 h2 lt
              go_wp2_with (go_at_call 91; refine (unhide CV _).mono ?_; rintro e w' ⟨rfl, rfl⟩)
              go_round
              case rel => exact ⟨k + 1, by omega, by go_num, H⟩
              case measure => simp [intOf]; omega
            · have hx' : decide (0 < x) = false := decide_eq_false hx
              have H := hide (h1 (by rw [lt, decide_eq_false hx]; rfl))
              clear h1 h2 lt
              go_wp2_with (go_at_call 91; refine (unhide CV _).mono ?_; rintro e w' ⟨rfl, rfl⟩)
              go_ret
              exact ⟨ret_bool (unhide H).symm, rfl⟩
    · have hi' : ¬ (k : Int) < (L.length : Int) := by omega
      have HR := hide (any_end (litT A) L k hlt (unhide hall))
      clear HA HU hall
      go_wp2
      go_ret
      exact ⟨ret_bool (unhide HR).symm, rfl⟩

theorem isAssignment (u : Value) (A : List Int) (w : World) (hA : A.length ≤ 1048576) (hu : Sl w u A) :
    Calls Tryd.prog 123 #[u] w fun e w' => e = .returned (.bool (A.all bitB)) ∧ w' = w := by
  obtain ⟨a, cap, rfl, ha⟩ := hu
  have HA := hide ha
  clear ha
  go_enter Tryd.func123, Tryd.ntmps123
  go_wp2
  go_loop [7] (fun i => ∃ k : Nat, k ≤ A.length ∧ i = .int .i64 k ∧ Hid ((A.take k).all bitB = true)) (fun i => A.length - (intOf i).toNat)
  case atStart => exact ⟨0, Nat.zero_le _, rfl, by show _ = _; simp⟩
  case round =>
    obtain ⟨k, hk, rfl, hall⟩ := hrel
    by_cases hlt : k < A.length
    · rcases unhide HA with h | ⟨b, off, rfl, hb, hcb⟩
      · rw [h] at hlt
        simp at hlt
      · have c1 := hcb k hlt
        have hi' : (k : Int) < (A.length : Int) := by omega
        have h1 := all_hit bitB A k 0 hlt
        have h2 := all_step bitB A k 0 hlt (unhide hall)
        generalize A.getD k 0 = x at *
        clear hcb HA hall
        by_cases e0 : x = 0
        · subst e0
          have H := hide (h2 rfl)
          clear h1 h2
          go_wp2
          go_round
          case rel => exact ⟨k + 1, by omega, by go_num, H⟩
          case measure => simp [intOf]; omega
        · have e0' : (x != 0) = true := by simpa using e0
          by_cases e1 : x = 1
          · subst e1
            have H := hide (h2 rfl)
            clear h1 h2
            go_wp2
            go_round
            case rel => exact ⟨k + 1, by omega, by go_num, H⟩
            case measure => simp [intOf]; omega
          · have e1' : (x != 1) = true := by simpa using e1
            have H := hide (h1 (by unfold bitB; exact decide_eq_false (by omega)))
            clear h1 h2
            go_wp2
            go_ret
            exact ⟨ret_bool (unhide H).symm, rfl⟩
    · have hi' : ¬ (k : Int) < (A.length : Int) := by omega
      have HR := hide (all_end bitB A k hlt (unhide hall))
      clear HA hall
      go_wp2
      go_ret
      exact ⟨ret_bool (unhide HR).symm, rfl⟩

theorem implAssignOk (v u : Value) (n : Int) (LL : List (List Int)) (A : List Int) (w : World) (hn : tot LL ≤ 1048576) (hA : A.length ≤ 1048576) (hv : Sls w v LL) (hu : Sl w u A) :
    Calls Tryd.prog 68 #[.agg #[.int .i64 n, v], u] w fun e w' => e = .returned (.bool (assignB n LL A)) ∧ w.grownBy w' none := by
  have g0 := World.grownBy_alloc w (.cells #[.int .i64 n, v] 26) none
  have C0 := ok.implCnfOk v n LL _ hn (hv.kept g0)
  have F0 := hide (Box.new 26 w (.int .i64 n) v)
  have G0 := hide g0
  have U := hide (fun w1 (g : (w.alloc (.cells #[.int .i64 n, v] 26)).grownBy w1 none) => isAssignment u A w1 hA ((hu.kept g0 (.inl rfl)).kept g (.inl rfl)))
  obtain ⟨a, cap, rfl, _⟩ := hu
  clear hv g0
  unfold assignB
  cases hb : cnfB n LL
  · rw [hb] at C0
    have C := hide C0
    clear C0 hb
    go_enter Tryd.func68, Tryd.ntmps68
    go_wp2_with fail
    refine (unhide C).mono ?_; rintro e w1 ⟨rfl, g1⟩
    have G1 := hide (grown_trans (r := none) (unhide G0) g1)
    clear g1 U
    go_wp2_with fail
    go_ret
    exact ⟨rfl, unhide G1⟩
  · rw [hb] at C0
    have C := hide C0
    clear C0 hb
    by_cases hl : (A.length : Int) = n
    · rw [decide_eq_true hl]
      have hl' : ((A.length : Int) == n) = true := by simpa using hl
      have HL := hide hl
      clear hl
      go_enter Tryd.func68, Tryd.ntmps68
      go_wp2_with fail
      refine (unhide C).mono ?_; rintro e w1 ⟨rfl, g1⟩
      have G1 := hide (grown_trans (r := none) (unhide G0) g1)
      have x0 := ((unhide F0).kept g1).c0
      have U1 := hide (unhide U w1 g1)
      clear g1 U F0 C
      go_wp2_with fail
      refine (unhide U1).mono ?_; rintro e w2 ⟨rfl, hw⟩
      have hw' := hw.symm
      clear hw
      subst hw'
      go_wp2_with fail
      go_ret
      exact ⟨rfl, unhide G1⟩
    · rw [decide_eq_false hl]
      have hl' : ((A.length : Int) == n) = false := by simpa using hl
      clear hl
      go_enter Tryd.func68, Tryd.ntmps68
      go_wp2_with fail
      refine (unhide C).mono ?_; rintro e w1 ⟨rfl, g1⟩
      have G1 := hide (grown_trans (r := none) (unhide G0) g1)
      have x0 := ((unhide F0).kept g1).c0
      clear g1 U F0 C
      go_wp2_with fail
      go_ret
      exact ⟨rfl, unhide G1⟩

theorem l02True (v u : Value) (n : Int) (LL : List (List Int)) (A : List Int) (w : World) (hn : tot LL ≤ 1048576) (hA : A.length ≤ 1048576) (hv : Sls w v LL) (hu : Sl w u A) :
    Calls Tryd.prog 86 #[.agg #[.int .i64 n, v], u] w fun e w' => e = .returned (.bool (cnfT A LL)) ∧ w.grownBy w' none := by
  have g0 := World.grownBy_alloc w (.cells #[.int .i64 n, v] 26) none
  have hv0 := hv.kept g0
  have hu0 := hu.kept g0 (.inl rfl)
  have G0 := hide g0
  have hl := Nat.le_trans (css.tot_len LL) hn
  obtain ⟨a, cap, rfl, ha⟩ := hv0
  have HA := hide ha
  have HU := hide hu0
  clear hv g0 ha hu hu0
  go_enter Tryd.func86, Tryd.ntmps86
  go_wp2
  go_loop [5] (fun i => ∃ k : Nat, k ≤ LL.length ∧ i = .int .i64 k ∧ Hid ((LL.take k).all (clT A) = true)) (fun i => LL.length - (intOf i).toNat)
  case atStart => exact ⟨0, Nat.zero_le _, rfl, by show _ = _; simp⟩
  case round =>
    obtain ⟨k, hk, rfl, hall⟩ := hrel
    by_cases hlt : k < LL.length
    · rcases unhide HA with h | ⟨b, off, rfl, hb, hcb⟩
      · rw [h] at hlt
        simp at hlt
      · obtain ⟨x, c1, hs⟩ := hcb k hlt
        have hi' : (k : Int) < (LL.length : Int) := by omega
        have h1 := all_hit (clT A) LL k [] hlt
        have h2 := all_step (clT A) LL k [] hlt (unhide hall)
        have hL := Nat.le_trans (css.tot_in LL k) hn
        generalize LL.getD k [] = L at *
        have cx := specClauseTrue x u L A _ hL hA hs (unhide HU)
        clear hcb HA hall hs HU
        cases hx : clT A L
        · rw [hx] at cx
          have CX := hide cx
          have H := hide (h1 hx)
          clear h1 h2 hx cx
          go_wp2_with fail
          refine (unhide CX).mono ?_; rintro e w2 ⟨rfl, hw⟩
          have hw' := hw.symm
          clear hw
          subst hw'
          go_wp2_with fail
          go_ret
          exact ⟨ret_bool (unhide H).symm, unhide G0⟩
        · rw [hx] at cx
          have CX := hide cx
          have H := hide (h2 hx)
          clear h1 h2 hx cx
          go_wp2_with fail
          refine (unhide CX).mono ?_; rintro e w2 ⟨rfl, hw⟩
          have hw' := hw.symm
          clear hw
          subst hw'
          go_wp2_with fail
          go_round
          case rel => exact ⟨k + 1, by omega, by go_num, H⟩
          case measure => simp [intOf]; omega
    · have hi' : ¬ (k : Int) < (LL.length : Int) := by omega
      have HR := hide (all_end (clT A) LL k hlt (unhide hall))
      clear HA HU hall
      go_wp2
      go_ret
      exact ⟨ret_bool (unhide HR).symm, unhide G0⟩

theorem implCnfTrue (v u : Value) (n : Int) (LL : List (List Int)) (A : List Int) (w : World) (hn : tot LL ≤ 1048576) (hA : A.length ≤ 1048576) (hv : Sls w v LL) (hu : Sl w u A) :
    Calls Tryd.prog 20 #[.agg #[.int .i64 n, v], u] w fun e w' => e = .returned (.bool (trueB n LL A)) ∧ w.grownBy w' none := by
  have g0 := World.grownBy_alloc w (.cells #[.int .i64 n, v] 26) none
  have C := implAssignOk v u n LL A _ hn hA (hv.kept g0) (hu.kept g0 (.inl rfl))
  have F0 := hide (Box.new 26 w (.int .i64 n) v)
  have G0 := hide g0
  have hl := Nat.le_trans (css.tot_len LL) hn
  have HV := hide (hv.kept g0)
  have HU := hide (hu.kept g0 (.inl rfl))
  obtain ⟨a, cap, rfl, _⟩ := hv
  clear hu g0
  unfold trueB
  cases hb : assignB n LL A
  · rw [hb] at C
    have C1 := hide C
    clear C hb
    go_enter Tryd.func20, Tryd.ntmps20
    go_wp2_with fail
    refine (unhide C1).mono ?_; rintro e w1 ⟨rfl, g1⟩
    have G1 := hide (grown_trans (r := none) (unhide G0) g1)
    clear g1 F0 C1 HV HU
    go_wp2_with fail
    go_ret
    exact ⟨rfl, unhide G1⟩
  · rw [hb] at C
    have C1 := hide C
    clear C hb
    go_enter Tryd.func20, Tryd.ntmps20
    go_wp2_with fail
    refine (unhide C1).mono ?_; rintro e w1 ⟨rfl, g1⟩
    have G1 := hide (grown_trans (r := none) (unhide G0) g1)
    have x0 := ((unhide F0).kept g1).c0
    have x1 := ((unhide F0).kept g1).c1
    have HV1 := hide ((unhide HV).kept g1)
    have HU1 := hide ((unhide HU).kept g1 (.inl rfl))
    clear g1 F0 C1 HV HU
    go_wp2_with fail
    go_loop [14] (fun i => ∃ k : Nat, k ≤ LL.length ∧ i = .int .i64 k ∧ Hid ((LL.take k).all (clT A) = true)) (fun i => LL.length - (intOf i).toNat)
    case atStart => exact ⟨0, Nat.zero_le _, rfl, by show _ = _; simp⟩
    case round =>
      obtain ⟨k, hk, rfl, hall⟩ := hrel
      by_cases hlt : k < LL.length
      · obtain ⟨a', cap', e, ha⟩ := unhide HV1
        simp only [Value.slice.injEq] at e
        obtain ⟨rfl, _, rfl⟩ := e
        rcases ha with h | ⟨b, off, rfl, hb, hcb⟩
        · rw [h] at hlt
          simp at hlt
        · obtain ⟨x, c1, hs⟩ := hcb k hlt
          have hi' : (k : Int) < (LL.length : Int) := by omega
          have h1 := all_hit (clT A) LL k [] hlt
          have h2 := all_step (clT A) LL k [] hlt (unhide hall)
          have hL := Nat.le_trans (css.tot_in LL k) hn
          generalize LL.getD k [] = L at *
          have cx := implClauseTrue x u L A _ hL hA hs (unhide HU1)
          clear hcb hall hs HU1 HV1
          cases hx : clT A L
          · rw [hx] at cx
            have CX := hide cx
            have H := hide (h1 hx)
            clear h1 h2 hx cx
            go_wp2_with fail
            refine (unhide CX).mono ?_; rintro e w2 ⟨rfl, hw⟩
            have hw' := hw.symm
            clear hw
            subst hw'
            go_wp2_with fail
            go_ret
            exact ⟨ret_bool (by rw [show cnfT A LL = false from unhide H]; rfl), unhide G1⟩
          · rw [hx] at cx
            have CX := hide cx
            have H := hide (h2 hx)
            clear h1 h2 hx cx
            go_wp2_with fail
            refine (unhide CX).mono ?_; rintro e w2 ⟨rfl, hw⟩
            have hw' := hw.symm
            clear hw
            subst hw'
            go_wp2_with fail
            go_round
            case rel => exact ⟨k + 1, by omega, by go_num, H⟩
            case measure => simp [intOf]; omega
      · have hi' : ¬ (k : Int) < (LL.length : Int) := by omega
        have HR := hide (all_end (clT A) LL k hlt (unhide hall))
        clear HV1 HU1 hall
        go_wp2
        go_ret
        exact ⟨ret_bool (by rw [show cnfT A LL = true from unhide HR]), unhide G1⟩
end Go.Proofs.YtibpnocpafppaaaDoor.tr
