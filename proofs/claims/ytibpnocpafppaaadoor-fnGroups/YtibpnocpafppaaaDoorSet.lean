/- Sets of literals as words of bits: what with, has and litsOf answer; at every list of at most 2^20 numbers; no other condition. -/
import Derived.Test.YtibpnocpafppaaaDoorCls
import Derived.Laws.BitsAllLaws
import Derived.Laws.ShiftsVarLaws
namespace Go.Proofs.YtibpnocpafppaaaDoor.bset
open Go.ChangeShapes Go.WideShapes Go.ChangeAt Go.RowKit
open Go.Proofs.YtibpnocpafppaaaDoor.lits (okB placeI okB_iff okB_yes okB_no)
open Go.Proofs.YtibpnocpafppaaaDoor.sl (Sl ints hide unhide ret_int ret_bool grown_refl grown_trans grown_drewN)
open Go.Proofs.YtibpnocpafppaaaDoor.cls (hasB)
set_option linter.unusedVariables false

/-- the place of a literal, as a plain number -/
def placeN (x : Int) : Nat := (placeI x).toNat
theorem placeN_le {x : Int} (h : okB x = true) : placeN x ≤ 47 := by
  have a := okB_iff.1 h
  have b := lits.placeI_bd x a.1 a.2.1 a.2.2
  unfold placeN
  omega
theorem placeN_inj {x y : Int} (hx : okB x = true) (hy : okB y = true) (h : placeN x = placeN y) : x = y := by
  have a := okB_iff.1 hx
  have b := okB_iff.1 hy
  unfold placeN placeI at h
  split at h <;> split at h <;> omega

/-- a set with one literal more -/
def withN (s : Nat) (x : Int) : Nat := s ||| 2 ^ placeN x
/-- the literals of a list, as a set -/
def setOf (L : List Int) : Nat := L.foldl (fun s x => if okB x then withN s x else s) 0
theorem setOf_snoc (L : List Int) (x : Int) : setOf (L ++ [x]) = if okB x then withN (setOf L) x else setOf L := by simp [setOf]
theorem withN_lt {s : Nat} {x : Int} (hs : s < 2 ^ 48) (h : okB x = true) : withN s x < 2 ^ 48 :=
  Nat.or_lt_two_pow hs (Nat.pow_lt_pow_right (by decide) (by have := placeN_le h; omega))
theorem fold_lt (L : List Int) (s : Nat) (hs : s < 2 ^ 48) : L.foldl (fun s x => if okB x then withN s x else s) s < 2 ^ 48 := by
  induction L generalizing s with
  | nil => exact hs
  | cons x l ih =>
    rw [List.foldl_cons]
    apply ih
    split
    · exact withN_lt hs ‹_›
    · exact hs
theorem setOf_lt (L : List Int) : setOf L < 2 ^ 48 := fold_lt L 0 (by decide)
theorem withN_bit (s : Nat) (x : Int) (j : Nat) : (withN s x).testBit j = (s.testBit j || decide (placeN x = j)) := by
  unfold withN
  rw [Nat.testBit_or, Nat.testBit_two_pow]
theorem fold_bit (L : List Int) (s : Nat) (j : Nat) : (L.foldl (fun s x => if okB x then withN s x else s) s).testBit j = (s.testBit j || L.any fun x => okB x && decide (placeN x = j)) := by
  induction L generalizing s with
  | nil => simp
  | cons x l ih =>
    rw [List.foldl_cons, ih, List.any_cons]
    cases h : okB x
    · simp
    · simp [withN_bit, Bool.or_assoc]
theorem setOf_bit (L : List Int) (j : Nat) : (setOf L).testBit j = L.any fun x => okB x && decide (placeN x = j) := by
  unfold setOf
  rw [fold_bit]
  simp
/-- a literal is in the set of a list's literals just when the list has it -/
theorem setOf_has (L : List Int) (x : Int) (h : okB x = true) : (setOf L).testBit (placeN x) = hasB L x := by
  rw [setOf_bit, Bool.eq_iff_iff, List.any_eq_true]
  unfold hasB
  rw [decide_eq_true_iff]
  constructor
  · rintro ⟨y, hy, e⟩
    rw [Bool.and_eq_true, decide_eq_true_iff] at e
    rw [placeN_inj h e.1 e.2.symm]
    exact hy
  · intro hx
    exact ⟨x, hx, by simp [h]⟩

theorem bit_eq (s p : Nat) (hp : p ≤ 47) (hs : s < 2 ^ 48) : (bits .and .u64 ((s : Int) / 2 ^ p) 1 == 1) = s.testBit p := by
  have e : ((s : Int) / 2 ^ p) = ((s / 2 ^ p : Nat) : Int) := by simp
  have hlt : s / 2 ^ p < 18446744073709551616 := Nat.lt_of_le_of_lt (Nat.div_le_self _ _) (by omega)
  rw [e, show (1 : Int) = ((1 : Nat) : Int) from rfl, u64_and_nat _ _ hlt (by decide), nat_mask1]
  rw [Nat.testBit_eq_decide_div_mod_eq]
  rw [Bool.eq_iff_iff]
  simp
  omega
theorem or_eq (s p : Nat) (hp : p ≤ 47) (hs : s < 2 ^ 48) : bits .or .u64 (s : Int) (IntKind.u64.wrap (2 ^ p)) = ((s ||| 2 ^ p : Nat) : Int) := by
  have h2 : 2 ^ p < 18446744073709551616 := Nat.lt_of_lt_of_le (Nat.pow_lt_pow_right (by decide) (show p < 48 by omega)) (by decide)
  rw [IntKind.wrap_u64]
  have e : ((2 : Int) ^ p) % 18446744073709551616 = ((2 ^ p : Nat) : Int) := by
    have : ((2 : Int) ^ p) = ((2 ^ p : Nat) : Int) := by simp
    rw [this]
    clear this
    generalize 2 ^ p = q at *
    omega
  rw [e]
  exact u64_or_nat s (2 ^ p) (by omega) h2

theorem placeI_eq {x : Int} (h : okB x = true) : placeI x = (placeN x : Int) := by
  have a := okB_iff.1 h
  have b := lits.placeI_bd x a.1 a.2.1 a.2.2
  unfold placeN
  omega
theorem placeC (x : Int) (w : World) (h : okB x = true) : Calls Tryd.prog 131 #[.int .i8 x] w fun e w' => e = .returned (.int .i64 (placeN x : Int)) ∧ w' = w := by
  rw [← placeI_eq h]
  exact lits.place x w (okB_iff.1 h).2.1 (okB_iff.1 h).2.2

theorem hasC (s : Nat) (x : Int) (w : World) (hs : s < 2 ^ 48) (h : okB x = true) : Calls Tryd.prog 80 #[.int .u64 (s : Int), .int .i8 x] w fun e w' => e = .returned (.bool (s.testBit (placeN x))) ∧ w' = w := by
  have C := hide (placeC x · h)
  have hp := placeN_le h
  have E := hide (bit_eq s (placeN x) hp hs)
  clear h hs
  generalize placeN x = p at *
  go_enter Tryd.func80, Tryd.ntmps80
  go_wp2_with fail
  refine (unhide C _).mono ?_; rintro e w' ⟨rfl, rfl⟩
  go_wp2_with fail
  go_ret
  refine ⟨?_, rfl⟩
  exact ret_bool (unhide E)
theorem withC (s : Nat) (x : Int) (w : World) (hs : s < 2 ^ 48) (h : okB x = true) : Calls Tryd.prog 83 #[.int .u64 (s : Int), .int .i8 x] w fun e w' => e = .returned (.int .u64 (withN s x : Int)) ∧ w' = w := by
  have C := hide (placeC x · h)
  have hp := placeN_le h
  have E := hide (or_eq s (placeN x) hp hs)
  unfold withN
  clear h hs
  generalize placeN x = p at *
  go_enter Tryd.func83, Tryd.ntmps83
  go_wp2_with fail
  refine (unhide C _).mono ?_; rintro e w' ⟨rfl, rfl⟩
  go_wp2_with fail
  go_ret
  refine ⟨?_, rfl⟩
  exact ret_int (unhide E)

theorem setOf_step (L : List Int) (k : Nat) (h : k < L.length) : setOf (L.take (k + 1)) = if okB (L.getD k 0) then withN (setOf (L.take k)) (L.getD k 0) else setOf (L.take k) := by
  rw [show L.getD k 0 = L[k] by simp [h], List.take_succ_eq_append_getElem h]
  exact setOf_snoc _ _

theorem litsOf (v : Value) (L : List Int) (w : World) (hL : L.length ≤ 1048576) (hv : Sl w v L) :
    Calls Tryd.prog 93 #[v] w fun e w' => e = .returned (.int .u64 (setOf L : Int)) ∧ w' = w := by
  obtain ⟨a, cap, rfl, ha⟩ := hv
  have HA := hide ha
  clear ha
  go_enter Tryd.func93, Tryd.ntmps93
  go_wp2
  go_loop [3, 10] (fun s i => ∃ k : Nat, k ≤ L.length ∧ i = .int .i64 k ∧ s = .int .u64 (setOf (L.take k) : Int)) (fun _ i => L.length - (intOf i).toNat)
  case atStart => exact ⟨0, Nat.zero_le _, rfl, rfl⟩
  case round =>
    obtain ⟨k, hk, rfl, rfl⟩ := hrel
    by_cases hlt : k < L.length
    · rcases unhide HA with h | ⟨b, off, rfl, hb, hcb⟩
      · rw [h] at hlt
        simp at hlt
      · have c1 := hcb k hlt
        have hi' : (k : Int) < (L.length : Int) := by omega
        have st := setOf_step L k hlt
        have sb := setOf_lt (L.take k)
        generalize L.getD k 0 = x at *
        cases hx : okB x
        · rw [hx] at st
          have C := hide (fun w => lits.litOf_no x w (fun h => by rw [okB_yes h] at hx; cases hx))
          have H := hide st
          clear st hcb HA hx sb
          go_wp2_with (go_at_call 139; refine (unhide C _).mono ?_; rintro e w' ⟨rfl, rfl⟩)
          go_round
          case rel => exact ⟨k + 1, by omega, by go_num, by rw [unhide H]; rfl⟩
          case measure => simp [intOf]; omega
        · rw [hx] at st
          have C := hide (fun w => lits.litOf_yes x w (okB_iff.1 hx))
          have D := hide (fun w => withC (setOf (L.take k)) x w sb hx)
          have H := hide st
          clear st hcb HA hx sb
          go_wp2_with (first | (go_at_call 139; refine (unhide C _).mono ?_; rintro e w' ⟨rfl, rfl⟩) | (go_at_call 83; refine (unhide D _).mono ?_; rintro e w' ⟨rfl, rfl⟩))
          go_round
          case rel => exact ⟨k + 1, by omega, by go_num, by rw [unhide H]; rfl⟩
          case measure => simp [intOf]; omega
    · have hi' : ¬ (k : Int) < (L.length : Int) := by omega
      have HK : Hid (L.take k = L) := by show L.take k = L; exact List.take_of_length_le (by omega)
      clear HA
      go_wp2
      go_ret
      exact ⟨ret_int (by rw [unhide HK]), rfl⟩

/-- whether each number of a list is one of another -/
def subB (L M : List Int) : Bool := L.all (hasB M)
theorem sub_hit (L M : List Int) (k : Nat) (h : k < L.length) (hx : hasB M (L.getD k 0) = false) : subB L M = false := by
  unfold subB
  rw [List.all_eq_false]
  refine ⟨L[k], List.getElem_mem h, ?_⟩
  rw [show L.getD k 0 = L[k] by simp [h]] at hx
  simp [hx]
theorem sub_step (L M : List Int) (k : Nat) (h : k < L.length) (ha : (L.take k).all (hasB M) = true) (hx : hasB M (L.getD k 0) = true) : (L.take (k + 1)).all (hasB M) = true := by
  rw [List.take_succ_eq_append_getElem h, List.all_append, ha]
  rw [show L.getD k 0 = L[k] by simp [h]] at hx
  simp [hx]
theorem sub_all (L M : List Int) (k : Nat) (h : ¬ k < L.length) (ha : (L.take k).all (hasB M) = true) : subB L M = true := by
  rw [List.take_of_length_le (by omega)] at ha
  exact ha

theorem specClauseSub (v u : Value) (L M : List Int) (w : World) (hL : L.length ≤ 1048576) (hM : M.length ≤ 1048576) (hv : Sl w v L) (hu : Sl w u M) :
    Calls Tryd.prog 55 #[v, u] w fun e w' => e = .returned (.bool (subB L M)) ∧ w' = w := by
  obtain ⟨a, cap, rfl, ha⟩ := hv
  have HA := hide ha
  have HU := hide hu
  clear ha hu
  go_enter Tryd.func55, Tryd.ntmps55
  go_wp2
  go_loop [5] (fun i => ∃ k : Nat, k ≤ L.length ∧ i = .int .i64 k ∧ Hid ((L.take k).all (hasB M) = true)) (fun i => L.length - (intOf i).toNat)
  case atStart => exact ⟨0, Nat.zero_le _, rfl, by show _ = _; simp⟩
  case round =>
    obtain ⟨k, hk, rfl, hall⟩ := hrel
    by_cases hlt : k < L.length
    · rcases unhide HA with h | ⟨b, off, rfl, hb, hcb⟩
      · rw [h] at hlt
        simp at hlt
      · have c1 := hcb k hlt
        have hi' : (k : Int) < (L.length : Int) := by omega
        have h1 := sub_hit L M k hlt
        have h2 := sub_step L M k hlt (unhide hall)
        generalize L.getD k 0 = x at *
        have cx := cls.specClauseHas u M x w hM (unhide HU)
        cases hx : hasB M x
        · rw [hx] at cx
          have CX := hide cx
          have H := hide (h1 hx)
          clear cx h1 h2 hx hcb HA HU
          go_wp2_with (go_at_call 76; refine (unhide CX).mono ?_; rintro e w' ⟨rfl, rfl⟩)
          go_ret
          exact ⟨ret_bool (unhide H).symm, rfl⟩
        · rw [hx] at cx
          have CX := hide cx
          have H := hide (h2 hx)
          clear cx h1 h2 hx hcb HA HU
          go_wp2_with (go_at_call 76; refine (unhide CX).mono ?_; rintro e w' ⟨rfl, rfl⟩)
          go_round
          case rel => exact ⟨k + 1, by omega, by go_num, H⟩
          case measure => simp [intOf]; omega
    · have hi' : ¬ (k : Int) < (L.length : Int) := by omega
      have HR := hide (sub_all L M k hlt (unhide hall))
      clear HA HU
      go_wp2
      go_ret
      exact ⟨ret_bool (unhide HR).symm, rfl⟩

theorem implClauseSub (v u : Value) (L M : List Int) (w : World) (hL : L.length ≤ 1048576) (hM : M.length ≤ 1048576) (hv : Sl w v L) (hu : Sl w u M) :
    Calls Tryd.prog 111 #[v, u] w fun e w' => e = .returned (.bool (subB L M)) ∧ w' = w := by
  obtain ⟨a, cap, rfl, ha⟩ := hv
  have HA := hide ha
  have HU := hide hu
  have CL := hide (litsOf u M w hM hu)
  clear ha hu
  go_enter Tryd.func111, Tryd.ntmps111
  go_wp2_with fail
  refine (unhide CL).mono ?_; rintro e w' ⟨rfl, rfl⟩
  go_wp2_with fail
  go_loop [14] (fun i => ∃ k : Nat, k ≤ L.length ∧ i = .int .i64 k ∧ Hid ((L.take k).all (hasB M) = true)) (fun i => L.length - (intOf i).toNat)
  case atStart => exact ⟨0, Nat.zero_le _, rfl, by show _ = _; simp⟩
  case round =>
    obtain ⟨k, hk, rfl, hall⟩ := hrel
    clear CL
    by_cases hlt : k < L.length
    · rcases unhide HA with h | ⟨b, off, rfl, hb, hcb⟩
      · rw [h] at hlt
        simp at hlt
      · have c1 := hcb k hlt
        have hi' : (k : Int) < (L.length : Int) := by omega
        have h1 := sub_hit L M k hlt
        have h2 := sub_step L M k hlt (unhide hall)
        generalize L.getD k 0 = x at *
        have cx := fun w hu => cls.implClauseHas u M x w hM hu
        have cs := hasC (setOf M) x
        cases hx : okB x
        · have C := hide (fun w => lits.litOf_no x w (fun h => by rw [okB_yes h] at hx; cases hx))
          cases hh : hasB M x
          · rw [hh] at cx
            have CX := hide cx
            have H := hide (h1 hh)
            clear cx h1 h2 hx hcb HA hh cs
            go_wp2_with (first | (go_at_call 139; refine (unhide C _).mono ?_; rintro e w' ⟨rfl, rfl⟩) | (go_at_call 26; refine (unhide CX _ (unhide HU)).mono ?_; rintro e w' ⟨rfl, rfl⟩))
            go_ret
            exact ⟨ret_bool (unhide H).symm, rfl⟩
          · rw [hh] at cx
            have CX := hide cx
            have H := hide (h2 hh)
            clear cx h1 h2 hx hcb HA hh cs
            go_wp2_with (first | (go_at_call 139; refine (unhide C _).mono ?_; rintro e w' ⟨rfl, rfl⟩) | (go_at_call 26; refine (unhide CX _ (unhide HU)).mono ?_; rintro e w' ⟨rfl, rfl⟩))
            go_round
            case rel => exact ⟨k + 1, by omega, by go_num, H⟩
            case measure => simp [intOf]; omega
        · have C := hide (fun w => lits.litOf_yes x w (okB_iff.1 hx))
          rw [setOf_has M x hx] at cs
          cases hh : hasB M x
          · rw [hh] at cs
            have CS := hide (fun w => cs w (setOf_lt M) hx)
            have H := hide (h1 hh)
            clear cx h1 h2 hx hcb HA hh cs
            go_wp2_with (first | (go_at_call 139; refine (unhide C _).mono ?_; rintro e w' ⟨rfl, rfl⟩) | (go_at_call 80; refine (unhide CS _).mono ?_; rintro e w' ⟨rfl, rfl⟩))
            go_ret
            exact ⟨ret_bool (unhide H).symm, rfl⟩
          · rw [hh] at cs
            have CS := hide (fun w => cs w (setOf_lt M) hx)
            have H := hide (h2 hh)
            clear cx h1 h2 hx hcb HA hh cs
            go_wp2_with (first | (go_at_call 139; refine (unhide C _).mono ?_; rintro e w' ⟨rfl, rfl⟩) | (go_at_call 80; refine (unhide CS _).mono ?_; rintro e w' ⟨rfl, rfl⟩))
            go_round
            case rel => exact ⟨k + 1, by omega, by go_num, H⟩
            case measure => simp [intOf]; omega
    · have hi' : ¬ (k : Int) < (L.length : Int) := by omega
      have HR := hide (sub_all L M k hlt (unhide hall))
      clear HA HU
      go_wp2
      go_ret
      exact ⟨ret_bool (unhide HR).symm, rfl⟩
end Go.Proofs.YtibpnocpafppaaaDoor.bset
