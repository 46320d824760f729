/- What the functions on clauses (ClauseOk, ClauseHas, of the program and of its model) answer at every list of at most 2^20 numbers; no other condition. -/
import Derived.Test.YtibpnocpafppaaaDoorLits
import Derived.Test.YtibpnocpafppaaaDoorSl
namespace Go.Proofs.YtibpnocpafppaaaDoor.cls
open Go.ChangeShapes Go.WideShapes Go.ChangeAt Go.RowKit
open Go.Proofs.YtibpnocpafppaaaDoor.lits (okB) 
open Go.Proofs.YtibpnocpafppaaaDoor.sl (Sl ints hide unhide ret_int ret_bool grown_refl grown_trans grown_drewN)
set_option linter.unusedVariables false

/-- whether a list is a clause -/
def okAll (L : List Int) : Bool := L.all okB && decide (L.length ≤ 48)

theorem okAll_hit (L : List Int) (k : Nat) (h : k < L.length) (hx : okB (L.getD k 0) = false) : okAll L = false := by
  unfold okAll
  have : L.all okB = false := by
    rw [List.all_eq_false]
    refine ⟨L[k], List.getElem_mem h, ?_⟩
    rw [show L.getD k 0 = L[k] by simp [h]] at hx
    simp [hx]
  rw [this]
  rfl
theorem take_all (L : List Int) (k : Nat) (h : k < L.length) (ha : (L.take k).all okB = true) (hx : okB (L.getD k 0) = true) : (L.take (k + 1)).all okB = true := by
  rw [List.take_succ_eq_append_getElem h, List.all_append, ha]
  rw [show L.getD k 0 = L[k] by simp [h]] at hx
  simp [hx]

theorem specClauseOk (v : Value) (L : List Int) (w : World) (hL : L.length ≤ 1048576) (hv : Sl w v L) :
    Calls Tryd.prog 128 #[v] w fun e w' => e = .returned (.bool (okAll L)) ∧ w' = w := by
  obtain ⟨a, cap, rfl, ha⟩ := hv
  have HA := hide ha
  clear ha
  go_enter Tryd.func128, Tryd.ntmps128
  go_wp2
  go_loop [3] (fun i => ∃ k : Nat, k ≤ L.length ∧ i = .int .i64 k ∧ Hid ((L.take k).all okB = true)) (fun i => L.length - (intOf i).toNat)
  case atStart => exact ⟨0, Nat.zero_le _, rfl, by show _ = _; simp⟩
  case round =>
    obtain ⟨k, hk, rfl, hall⟩ := hrel
    by_cases hlt : k < L.length
    · rcases unhide HA with h | ⟨b, off, rfl, hb, hcb⟩
      · rw [h] at hlt
        simp at hlt
      · have c1 := hcb k hlt
        have hi' : (k : Int) < (L.length : Int) := by omega
        have h1 := okAll_hit L k hlt
        have h2 := take_all L k hlt (unhide hall)
        generalize L.getD k 0 = x at *
        have cx := lits.specLitOk x
        cases hx : okB x
        · rw [hx] at cx
          have CX := hide cx
          have H := hide (h1 hx)
          clear cx h1 h2 hx hcb HA
          go_wp2_with (go_at_call 138; refine (unhide CX _).mono ?_; rintro e w' ⟨rfl, rfl⟩)
          go_ret
          exact ⟨ret_bool (unhide H).symm, rfl⟩
        · rw [hx] at cx
          have CX := hide cx
          have H := hide (h2 hx)
          clear cx h1 h2 hx hcb HA
          go_wp2_with (go_at_call 138; refine (unhide CX _).mono ?_; rintro e w' ⟨rfl, rfl⟩)
          go_round
          case rel => exact ⟨k + 1, by omega, by go_num, H⟩
          case measure => simp [intOf]; omega
    · have hi' : ¬ (k : Int) < (L.length : Int) := by omega
      have HR : Hid (okAll L = decide (L.length ≤ 48)) := by
        show okAll L = _
        have := unhide hall
        rw [List.take_of_length_le (by omega)] at this
        unfold okAll
        rw [this]
        rfl
      clear HA
      go_wp2
      go_ret
      refine ⟨?_, rfl⟩
      rw [unhide HR]
      exact ret_bool (by simp; omega)

theorem implClauseOk (v : Value) (L : List Int) (w : World) (hL : L.length ≤ 1048576) (hv : Sl w v L) :
    Calls Tryd.prog 126 #[v] w fun e w' => e = .returned (.bool (okAll L)) ∧ w' = w := by
  obtain ⟨a, cap, rfl, ha⟩ := hv
  have HA := hide ha
  clear ha
  by_cases h48 : 48 < L.length
  · have e : okAll L = false := by unfold okAll; rw [decide_eq_false (by omega)]; simp
    rw [e]
    clear e HA
    have hi' : (48 : Int) < (L.length : Int) := by omega
    go_enter Tryd.func126, Tryd.ntmps126
    go_wp2
    go_ret
    exact ⟨rfl, rfl⟩
  · have hi48 : ¬ (48 : Int) < (L.length : Int) := by omega
    have hi48' : decide ((48 : Int) < (L.length : Int)) = false := decide_eq_false hi48
    go_enter Tryd.func126, Tryd.ntmps126
    go_wp2
    go_loop [4, 10] (fun _ i => ∃ k : Nat, k ≤ L.length ∧ i = .int .i64 k ∧ Hid ((L.take k).all okB = true)) (fun _ i => L.length - (intOf i).toNat)
    case atStart => exact ⟨0, Nat.zero_le _, rfl, by show _ = _; simp⟩
    case round =>
      obtain ⟨k, hk, rfl, hall⟩ := hrel
      by_cases hlt : k < L.length
      · rcases unhide HA with h | ⟨b, off, rfl, hb, hcb⟩
        · rw [h] at hlt
          simp at hlt
        · have c1 := hcb k hlt
          have hi' : (k : Int) < (L.length : Int) := by omega
          have h1 := okAll_hit L k hlt
          have h2 := take_all L k hlt (unhide hall)
          generalize L.getD k 0 = x at *
          have cx := lits.implLitOk x
          cases hx : okB x
          · rw [hx] at cx
            have CX := hide cx
            have H := hide (h1 hx)
            clear cx h1 h2 hx hcb HA
            go_wp2_with (go_at_call 154; refine (unhide CX _).mono ?_; rintro e w' ⟨rfl, rfl⟩)
            go_ret
            exact ⟨ret_bool (unhide H).symm, rfl⟩
          · rw [hx] at cx
            have CX := hide cx
            have H := hide (h2 hx)
            clear cx h1 h2 hx hcb HA
            go_wp2_with (go_at_call 154; refine (unhide CX _).mono ?_; rintro e w' ⟨rfl, rfl⟩)
            go_round
            case rel => exact ⟨k + 1, by omega, by go_num, H⟩
            case measure => simp [intOf]; omega
      · have hi' : ¬ (k : Int) < (L.length : Int) := by omega
        have HR : Hid (okAll L = true) := by
          show okAll L = _
          have := unhide hall
          rw [List.take_of_length_le (by omega)] at this
          unfold okAll
          rw [this, decide_eq_true (by omega)]
          rfl
        clear HA
        go_wp2
        go_ret
        exact ⟨ret_bool (unhide HR).symm, rfl⟩

/-- whether a list has a number -/
def hasB (L : List Int) (x : Int) : Bool := decide (x ∈ L)
theorem has_hit (L : List Int) (k : Nat) (x : Int) (h : k < L.length) (e : L.getD k 0 = x) : hasB L x = true := by
  rw [show L.getD k 0 = L[k] by simp [h]] at e
  exact decide_eq_true (by rw [← e]; exact List.getElem_mem h)
theorem has_step (L : List Int) (k : Nat) (x : Int) (h : k < L.length) (hn : ¬ x ∈ L.take k) (e : ¬ L.getD k 0 = x) : ¬ x ∈ L.take (k + 1) := by
  rw [show L.getD k 0 = L[k] by simp [h]] at e
  rw [List.take_succ_eq_append_getElem h, List.mem_append]
  rintro (h1 | h1)
  · exact hn h1
  · simp at h1
    exact e h1.symm
theorem has_no (L : List Int) (k : Nat) (x : Int) (h : ¬ k < L.length) (hn : ¬ x ∈ L.take k) : hasB L x = false := by
  rw [List.take_of_length_le (by omega)] at hn
  exact decide_eq_false hn

theorem specClauseHas (v : Value) (L : List Int) (x : Int) (w : World) (hL : L.length ≤ 1048576) (hv : Sl w v L) :
    Calls Tryd.prog 76 #[v, .int .i64 x] w fun e w' => e = .returned (.bool (hasB L x)) ∧ w' = w := by
  obtain ⟨a, cap, rfl, ha⟩ := hv
  have HA := hide ha
  clear ha
  go_enter Tryd.func76, Tryd.ntmps76
  go_wp2
  go_loop [5] (fun i => ∃ k : Nat, k ≤ L.length ∧ i = .int .i64 k ∧ Hid (¬ x ∈ L.take k)) (fun i => L.length - (intOf i).toNat)
  case atStart => exact ⟨0, Nat.zero_le _, rfl, by show ¬ _; simp⟩
  case round =>
    obtain ⟨k, hk, rfl, hall⟩ := hrel
    by_cases hlt : k < L.length
    · rcases unhide HA with h | ⟨b, off, rfl, hb, hcb⟩
      · rw [h] at hlt
        simp at hlt
      · have c1 := hcb k hlt
        have hi' : (k : Int) < (L.length : Int) := by omega
        have h1 := has_hit L k x hlt
        have h2 := has_step L k x hlt (unhide hall)
        generalize L.getD k 0 = y at *
        by_cases hx : y = x
        · have H := hide (h1 hx)
          have hb' : (y == x) = true := by simpa using hx
          clear h1 h2 hx hcb HA
          go_wp2
          go_ret
          exact ⟨ret_bool (unhide H).symm, rfl⟩
        · have H := hide (h2 hx)
          have hb' : (y == x) = false := by simpa using hx
          clear h1 h2 hx hcb HA
          go_wp2
          go_round
          case rel => exact ⟨k + 1, by omega, by go_num, H⟩
          case measure => simp [intOf]; omega
    · have hi' : ¬ (k : Int) < (L.length : Int) := by omega
      have HR := hide (has_no L k x hlt (unhide hall))
      clear HA
      go_wp2
      go_ret
      exact ⟨ret_bool (unhide HR).symm, rfl⟩

/-- the library's Index -/
theorem index (v : Value) (L : List Int) (x : Int) (w : World) (hL : L.length ≤ 1048576) (hv : Sl w v L) :
    Calls Tryd.prog 133 #[v, .int .i64 x] w fun e w' => ∃ r : Int, e = .returned (.int .i64 r) ∧ decide (0 ≤ r) = hasB L x ∧ w' = w := by
  obtain ⟨a, cap, rfl, ha⟩ := hv
  have HA := hide ha
  clear ha
  go_enter Tryd.func133, Tryd.ntmps133
  go_wp2
  go_loop [5, 8] (fun _ i => ∃ k : Nat, k ≤ L.length ∧ i = .int .i64 k ∧ Hid (¬ x ∈ L.take k)) (fun _ i => L.length - (intOf i).toNat)
  case atStart => exact ⟨0, Nat.zero_le _, rfl, by show ¬ _; simp⟩
  case round =>
    obtain ⟨k, hk, rfl, hall⟩ := hrel
    by_cases hlt : k < L.length
    · rcases unhide HA with h | ⟨b, off, rfl, hb, hcb⟩
      · rw [h] at hlt
        simp at hlt
      · have c1 := hcb k hlt
        have hi' : (k : Int) < (L.length : Int) := by omega
        have h1 := has_hit L k x hlt
        have h2 := has_step L k x hlt (unhide hall)
        generalize L.getD k 0 = y at *
        by_cases hx : y = x
        · have H := hide (h1 hx)
          have hb' : (x == y) = true := by simpa using hx.symm
          clear h1 h2 hx hcb HA
          go_wp2
          go_ret
          exact ⟨(k : Int), rfl, by rw [unhide H]; exact decide_eq_true (by omega), rfl⟩
        · have H := hide (h2 hx)
          have hb' : (x == y) = false := by simpa using fun h => hx h.symm
          clear h1 h2 hx hcb HA
          go_wp2
          go_round
          case rel => exact ⟨k + 1, by omega, by go_num, H⟩
          case measure => simp [intOf]; omega
    · have hi' : ¬ (k : Int) < (L.length : Int) := by omega
      have HR := hide (has_no L k x hlt (unhide hall))
      clear HA
      go_wp2
      go_ret
      exact ⟨-1, rfl, by rw [unhide HR]; rfl, rfl⟩

theorem contains (v : Value) (L : List Int) (x : Int) (w : World) (hL : L.length ≤ 1048576) (hv : Sl w v L) :
    Calls Tryd.prog 87 #[v, .int .i64 x] w fun e w' => e = .returned (.bool (hasB L x)) ∧ w' = w := by
  have HV := hide hv
  clear hv
  go_enter Tryd.func87, Tryd.ntmps87
  go_wp2_with fail
  refine (index v L x _ hL (unhide HV)).mono ?_
  rintro e w' ⟨r, rfl, hr, rfl⟩
  have HR := hide hr
  clear hr
  go_wp2_with fail
  go_ret
  exact ⟨ret_bool (unhide HR), rfl⟩

theorem implClauseHas (v : Value) (L : List Int) (x : Int) (w : World) (hL : L.length ≤ 1048576) (hv : Sl w v L) :
    Calls Tryd.prog 26 #[v, .int .i64 x] w fun e w' => e = .returned (.bool (hasB L x)) ∧ w' = w := by
  have HV := hide hv
  clear hv
  go_enter Tryd.func26, Tryd.ntmps26
  go_wp2_with fail
  refine (contains v L x _ hL (unhide HV)).mono ?_
  rintro e w' ⟨rfl, rfl⟩
  go_wp2_with fail
  go_ret
  exact ⟨rfl, rfl⟩
end Go.Proofs.YtibpnocpafppaaaDoor.cls
