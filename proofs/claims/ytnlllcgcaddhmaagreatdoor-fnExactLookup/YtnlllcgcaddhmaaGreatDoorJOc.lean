/- What the functions on clauses (ClauseOk, ClauseHas, of the program and of its model) answer at every list of at most 2^20 numbers; no other condition. -/
import Derived.Test.YtnlllcgcaddhmaaGreatDoorJXLits
import Derived.Test.YtnlllcgcaddhmaaGreatDoorJXSl
import Derived.Laws.BitsAllLaws
import Derived.Laws.ShiftsVarLaws
import Derived.Lib.TrailingZeros
import Derived.Deep.RegionWith
namespace Go.Proofs.YtnlllcgcaddhmaaGreatDoor.cls
open Go.ChangeShapes Go.WideShapes Go.ChangeAt Go.RowKit
open lits (okB)
open sl (Sl ints hide unhide ret_int ret_bool grown_refl grown_trans grown_drewN)
set_option linter.unusedVariables false
def okAll (L : List Int) : Bool := L.all okB && decide (L.length ≤ 48)
theorem okAll_hit (L : List Int) (k : Nat) (h : k < L.length) (hx : okB (L.getD k 0) = false) : okAll L = false := by
 unfold okAll
 have : L.all okB = false := by
  rw [List.all_eq_false]
  refine ⟨L[k], List.getElem_mem h, ?_⟩
  rw [show L.getD k 0 = L[k] by simp [h]] at hx
  simp [hx]
 rw [this]
 rfl
theorem take_all (L : List Int) (k : Nat) (h : k < L.length) (ha : (L.take k).all okB = true) (hx : okB (L.getD k 0) = true) : (L.take (k + 1)).all okB = true := by
 rw [List.take_succ_eq_append_getElem h, List.all_append, ha]
 rw [show L.getD k 0 = L[k] by simp [h]] at hx
 simp [hx]
theorem specClauseOk (v : Value) (L : List Int) (w : World) (hL : L.length ≤ 1048576) (hv : Sl w v L) :
  Calls Tryz.prog 171 #[v] w fun e w' => e = .returned (.bool (okAll L)) ∧ w' = w := by
 obtain ⟨a, cap, rfl, ha⟩ := hv
 have HA := hide ha
 clear ha
 go_enter Tryz.func171, Tryz.ntmps171
 go_wp2
 go_loop [3] (fun i => ∃ k : Nat, k ≤ L.length ∧ i = .int .i64 k ∧ Hid ((L.take k).all okB = true)) (fun i => L.length - (intOf i).toNat)
 case atStart => exact ⟨0, Nat.zero_le _, rfl, by show _ = _; simp⟩
 case round =>
  obtain ⟨k, hk, rfl, hall⟩ := hrel
  by_cases hlt : k < L.length
  ·rcases unhide HA with h | ⟨b, off, rfl, hb, hcb⟩
   ·rw [h] at hlt
    simp at hlt
   ·have c1 := hcb k hlt
    have hi' : (k : Int) < (L.length : Int) := by omega
    have h1 := okAll_hit L k hlt
    have h2 := take_all L k hlt (unhide hall)
    generalize L.getD k 0 = x at *
    have cx := lits.specLitOk x
    cases hx : okB x
    ·rw [hx] at cx
     have CX := hide cx
     have H := hide (h1 hx)
     clear cx h1 h2 hx hcb HA
     go_wp2_with (go_at_call 175; refine (unhide CX _).mono ?_; rintro e w' ⟨rfl, rfl⟩)
     go_ret
     exact ⟨ret_bool (unhide H).symm, rfl⟩
    ·rw [hx] at cx
     have CX := hide cx
     have H := hide (h2 hx)
     clear cx h1 h2 hx hcb HA
     go_wp2_with (go_at_call 175; refine (unhide CX _).mono ?_; rintro e w' ⟨rfl, rfl⟩)
     go_round
     case rel => exact ⟨k + 1, by omega, by go_num, H⟩
     case measure => simp [intOf]; omega
  ·have hi' : ¬ (k : Int) < (L.length : Int) := by omega
   have HR : Hid (okAll L = decide (L.length ≤ 48)) := by
    show okAll L = _
    have := unhide hall
    rw [List.take_of_length_le (by omega)] at this
    unfold okAll
    rw [this]
    rfl
   clear HA
   go_wp2
   go_ret
   refine ⟨?_, rfl⟩
   rw [unhide HR]
   exact ret_bool (by simp; omega)
theorem implClauseOk (v : Value) (L : List Int) (w : World) (hL : L.length ≤ 1048576) (hv : Sl w v L) :
  Calls Tryz.prog 146 #[v] w fun e w' => e = .returned (.bool (okAll L)) ∧ w' = w := by
 obtain ⟨a, cap, rfl, ha⟩ := hv
 have HA := hide ha
 clear ha
 by_cases h48 : 48 < L.length
 ·have e : okAll L = false := by unfold okAll; rw [decide_eq_false (by omega)]; simp
  rw [e]
  clear e HA
  have hi' : (48 : Int) < (L.length : Int) := by omega
  go_enter Tryz.func146, Tryz.ntmps146
  go_wp2
  go_ret
  exact ⟨rfl, rfl⟩
 ·have hi48 : ¬ (48 : Int) < (L.length : Int) := by omega
  have hi48' : decide ((48 : Int) < (L.length : Int)) = false := decide_eq_false hi48
  go_enter Tryz.func146, Tryz.ntmps146
  go_wp2
  go_loop [4, 10] (fun _ i => ∃ k : Nat, k ≤ L.length ∧ i = .int .i64 k ∧ Hid ((L.take k).all okB = true)) (fun _ i => L.length - (intOf i).toNat)
  case atStart => exact ⟨0, Nat.zero_le _, rfl, by show _ = _; simp⟩
  case round =>
   obtain ⟨k, hk, rfl, hall⟩ := hrel
   by_cases hlt : k < L.length
   ·rcases unhide HA with h | ⟨b, off, rfl, hb, hcb⟩
    ·rw [h] at hlt
     simp at hlt
    ·have c1 := hcb k hlt
     have hi' : (k : Int) < (L.length : Int) := by omega
     have h1 := okAll_hit L k hlt
     have h2 := take_all L k hlt (unhide hall)
     generalize L.getD k 0 = x at *
     have cx := lits.implLitOk x
     cases hx : okB x
     ·rw [hx] at cx
      have CX := hide cx
      have H := hide (h1 hx)
      clear cx h1 h2 hx hcb HA
      go_wp2_with (go_at_call 188; refine (unhide CX _).mono ?_; rintro e w' ⟨rfl, rfl⟩)
      go_ret
      exact ⟨ret_bool (unhide H).symm, rfl⟩
     ·rw [hx] at cx
      have CX := hide cx
      have H := hide (h2 hx)
      clear cx h1 h2 hx hcb HA
      go_wp2_with (go_at_call 188; refine (unhide CX _).mono ?_; rintro e w' ⟨rfl, rfl⟩)
      go_round
      case rel => exact ⟨k + 1, by omega, by go_num, H⟩
      case measure => simp [intOf]; omega
   ·have hi' : ¬ (k : Int) < (L.length : Int) := by omega
    have HR : Hid (okAll L = true) := by
     show okAll L = _
     have := unhide hall
     rw [List.take_of_length_le (by omega)] at this
     unfold okAll
     rw [this, decide_eq_true (by omega)]
     rfl
    clear HA
    go_wp2
    go_ret
    exact ⟨ret_bool (unhide HR).symm, rfl⟩
def hasB (L : List Int) (x : Int) : Bool := decide (x ∈ L)
theorem has_hit (L : List Int) (k : Nat) (x : Int) (h : k < L.length) (e : L.getD k 0 = x) : hasB L x = true := by
 rw [show L.getD k 0 = L[k] by simp [h]] at e
 exact decide_eq_true (by rw [← e]; exact List.getElem_mem h)
theorem has_step (L : List Int) (k : Nat) (x : Int) (h : k < L.length) (hn : ¬ x ∈ L.take k) (e : ¬ L.getD k 0 = x) : ¬ x ∈ L.take (k + 1) := by
 rw [show L.getD k 0 = L[k] by simp [h]] at e
 rw [List.take_succ_eq_append_getElem h, List.mem_append]
 rintro (h1 | h1)
 ·exact hn h1
 ·simp at h1
  exact e h1.symm
theorem has_no (L : List Int) (k : Nat) (x : Int) (h : ¬ k < L.length) (hn : ¬ x ∈ L.take k) : hasB L x = false := by
 rw [List.take_of_length_le (by omega)] at hn
 exact decide_eq_false hn
theorem specClauseHas (v : Value) (L : List Int) (x : Int) (w : World) (hL : L.length ≤ 1048576) (hv : Sl w v L) :
  Calls Tryz.prog 134 #[v, .int .i64 x] w fun e w' => e = .returned (.bool (hasB L x)) ∧ w' = w := by
 obtain ⟨a, cap, rfl, ha⟩ := hv
 have HA := hide ha
 clear ha
 go_enter Tryz.func134, Tryz.ntmps134
 go_wp2
 go_loop [5] (fun i => ∃ k : Nat, k ≤ L.length ∧ i = .int .i64 k ∧ Hid (¬ x ∈ L.take k)) (fun i => L.length - (intOf i).toNat)
 case atStart => exact ⟨0, Nat.zero_le _, rfl, by show ¬ _; simp⟩
 case round =>
  obtain ⟨k, hk, rfl, hall⟩ := hrel
  by_cases hlt : k < L.length
  ·rcases unhide HA with h | ⟨b, off, rfl, hb, hcb⟩
   ·rw [h] at hlt
    simp at hlt
   ·have c1 := hcb k hlt
    have hi' : (k : Int) < (L.length : Int) := by omega
    have h1 := has_hit L k x hlt
    have h2 := has_step L k x hlt (unhide hall)
    generalize L.getD k 0 = y at *
    by_cases hx : y = x
    ·have H := hide (h1 hx)
     have hb' : (y == x) = true := by simpa using hx
     clear h1 h2 hx hcb HA
     go_wp2
     go_ret
     exact ⟨ret_bool (unhide H).symm, rfl⟩
    ·have H := hide (h2 hx)
     have hb' : (y == x) = false := by simpa using hx
     clear h1 h2 hx hcb HA
     go_wp2
     go_round
     case rel => exact ⟨k + 1, by omega, by go_num, H⟩
     case measure => simp [intOf]; omega
  ·have hi' : ¬ (k : Int) < (L.length : Int) := by omega
   have HR := hide (has_no L k x hlt (unhide hall))
   clear HA
   go_wp2
   go_ret
   exact ⟨ret_bool (unhide HR).symm, rfl⟩
end Go.Proofs.YtnlllcgcaddhmaaGreatDoor.cls
namespace Go.Proofs.YtnlllcgcaddhmaaGreatDoor.bset
open Go.ChangeShapes Go.WideShapes Go.ChangeAt Go.RowKit
open lits (okB placeI okB_iff okB_yes okB_no)
open sl (Sl ints hide unhide ret_int ret_bool grown_refl grown_trans grown_drewN)
open cls (hasB)
set_option linter.unusedVariables false
def placeN (x : Int) : Nat := (placeI x).toNat
theorem placeN_le {x : Int} (h : okB x = true) : placeN x ≤ 47 := by
 have a := okB_iff.1 h
 have b := lits.placeI_bd x a.1 a.2.1 a.2.2
 unfold placeN
 omega
theorem placeN_inj {x y : Int} (hx : okB x = true) (hy : okB y = true) (h : placeN x = placeN y) : x = y := by
 have a := okB_iff.1 hx
 have b := okB_iff.1 hy
 unfold placeN placeI at h
 split at h <;> split at h <;> omega
def withN (s : Nat) (x : Int) : Nat := s ||| 2 ^ placeN x
def setOf (L : List Int) : Nat := L.foldl (fun s x => if okB x then withN s x else s) 0
theorem setOf_snoc (L : List Int) (x : Int) : setOf (L ++ [x]) = if okB x then withN (setOf L) x else setOf L := by simp [setOf]
theorem withN_lt {s : Nat} {x : Int} (hs : s < 2 ^ 48) (h : okB x = true) : withN s x < 2 ^ 48 :=
 Nat.or_lt_two_pow hs (Nat.pow_lt_pow_right (by decide) (by have := placeN_le h; omega))
theorem fold_lt (L : List Int) (s : Nat) (hs : s < 2 ^ 48) : L.foldl (fun s x => if okB x then withN s x else s) s < 2 ^ 48 := by
 induction L generalizing s with
 | nil => exact hs
 | cons x l ih =>
  rw [List.foldl_cons]
  apply ih
  split
  ·exact withN_lt hs ‹_›
  ·exact hs
theorem setOf_lt (L : List Int) : setOf L < 2 ^ 48 := fold_lt L 0 (by decide)
theorem withN_bit (s : Nat) (x : Int) (j : Nat) : (withN s x).testBit j = (s.testBit j || decide (placeN x = j)) := by
 unfold withN
 rw [Nat.testBit_or, Nat.testBit_two_pow]
theorem fold_bit (L : List Int) (s : Nat) (j : Nat) : (L.foldl (fun s x => if okB x then withN s x else s) s).testBit j = (s.testBit j || L.any fun x => okB x && decide (placeN x = j)) := by
 induction L generalizing s with
 | nil => simp
 | cons x l ih =>
  rw [List.foldl_cons, ih, List.any_cons]
  cases h : okB x
  ·simp
  ·simp [withN_bit, Bool.or_assoc]
theorem setOf_bit (L : List Int) (j : Nat) : (setOf L).testBit j = L.any fun x => okB x && decide (placeN x = j) := by
 unfold setOf
 rw [fold_bit]
 simp
theorem setOf_has (L : List Int) (x : Int) (h : okB x = true) : (setOf L).testBit (placeN x) = hasB L x := by
 rw [setOf_bit, Bool.eq_iff_iff, List.any_eq_true]
 unfold hasB
 rw [decide_eq_true_iff]
 constructor
 ·rintro ⟨y, hy, e⟩
  rw [Bool.and_eq_true, decide_eq_true_iff] at e
  rw [placeN_inj h e.1 e.2.symm]
  exact hy
 ·intro hx
  exact ⟨x, hx, by simp [h]⟩
theorem bit_eq (s p : Nat) (hp : p ≤ 47) (hs : s < 2 ^ 48) : (bits .and .u64 ((s : Int) / 2 ^ p) 1 == 1) = s.testBit p := by
 have e : ((s : Int) / 2 ^ p) = ((s / 2 ^ p : Nat) : Int) := by simp
 have hlt : s / 2 ^ p < 18446744073709551616 := Nat.lt_of_le_of_lt (Nat.div_le_self _ _) (by omega)
 rw [e, show (1 : Int) = ((1 : Nat) : Int) from rfl, u64_and_nat _ _ hlt (by decide), nat_mask1]
 rw [Nat.testBit_eq_decide_div_mod_eq]
 rw [Bool.eq_iff_iff]
 simp
 omega
theorem or_eq (s p : Nat) (hp : p ≤ 47) (hs : s < 2 ^ 48) : bits .or .u64 (s : Int) (IntKind.u64.wrap (2 ^ p)) = ((s ||| 2 ^ p : Nat) : Int) := by
 have h2 : 2 ^ p < 18446744073709551616 := Nat.lt_of_lt_of_le (Nat.pow_lt_pow_right (by decide) (show p < 48 by omega)) (by decide)
 rw [IntKind.wrap_u64]
 have e : ((2 : Int) ^ p) % 18446744073709551616 = ((2 ^ p : Nat) : Int) := by
  have : ((2 : Int) ^ p) = ((2 ^ p : Nat) : Int) := by simp
  rw [this]
  clear this
  generalize 2 ^ p = q at *
  omega
 rw [e]
 exact u64_or_nat s (2 ^ p) (by omega) h2
theorem placeI_eq {x : Int} (h : okB x = true) : placeI x = (placeN x : Int) := by
 have a := okB_iff.1 h
 have b := lits.placeI_bd x a.1 a.2.1 a.2.2
 unfold placeN
 omega
theorem placeC (x : Int) (w : World) (h : okB x = true) : Calls Tryz.prog 155 #[.int .i8 x] w fun e w' => e = .returned (.int .i64 (placeN x : Int)) ∧ w' = w := by
 rw [← placeI_eq h]
 exact lits.place x w (okB_iff.1 h).2.1 (okB_iff.1 h).2.2
theorem hasC (s : Nat) (x : Int) (w : World) (hs : s < 2 ^ 48) (h : okB x = true) : Calls Tryz.prog 170 #[.int .u64 (s : Int), .int .i8 x] w fun e w' => e = .returned (.bool (s.testBit (placeN x))) ∧ w' = w := by
 have C := hide (placeC x · h)
 have hp := placeN_le h
 have E := hide (bit_eq s (placeN x) hp hs)
 clear h hs
 generalize placeN x = p at *
 go_enter Tryz.func170, Tryz.ntmps170
 go_wp2_with fail
 refine (unhide C _).mono ?_; rintro e w' ⟨rfl, rfl⟩
 go_wp2_with fail
 go_ret
 refine ⟨?_, rfl⟩
 exact ret_bool (unhide E)
theorem withC (s : Nat) (x : Int) (w : World) (hs : s < 2 ^ 48) (h : okB x = true) : Calls Tryz.prog 152 #[.int .u64 (s : Int), .int .i8 x] w fun e w' => e = .returned (.int .u64 (withN s x : Int)) ∧ w' = w := by
 have C := hide (placeC x · h)
 have hp := placeN_le h
 have E := hide (or_eq s (placeN x) hp hs)
 unfold withN
 clear h hs
 generalize placeN x = p at *
 go_enter Tryz.func152, Tryz.ntmps152
 go_wp2_with fail
 refine (unhide C _).mono ?_; rintro e w' ⟨rfl, rfl⟩
 go_wp2_with fail
 go_ret
 refine ⟨?_, rfl⟩
 exact ret_int (unhide E)
theorem setOf_step (L : List Int) (k : Nat) (h : k < L.length) : setOf (L.take (k + 1)) = if okB (L.getD k 0) then withN (setOf (L.take k)) (L.getD k 0) else setOf (L.take k) := by
 rw [show L.getD k 0 = L[k] by simp [h], List.take_succ_eq_append_getElem h]
 exact setOf_snoc _ _
theorem litsOf (v : Value) (L : List Int) (w : World) (hL : L.length ≤ 1048576) (hv : Sl w v L) :
  Calls Tryz.prog 114 #[v] w fun e w' => e = .returned (.int .u64 (setOf L : Int)) ∧ w' = w := by
 obtain ⟨a, cap, rfl, ha⟩ := hv
 have HA := hide ha
 clear ha
 go_enter Tryz.func114, Tryz.ntmps114
 go_wp2
 go_loop [3, 10] (fun s i => ∃ k : Nat, k ≤ L.length ∧ i = .int .i64 k ∧ s = .int .u64 (setOf (L.take k) : Int)) (fun _ i => L.length - (intOf i).toNat)
 case atStart => exact ⟨0, Nat.zero_le _, rfl, rfl⟩
 case round =>
  obtain ⟨k, hk, rfl, rfl⟩ := hrel
  by_cases hlt : k < L.length
  ·rcases unhide HA with h | ⟨b, off, rfl, hb, hcb⟩
   ·rw [h] at hlt
    simp at hlt
   ·have c1 := hcb k hlt
    have hi' : (k : Int) < (L.length : Int) := by omega
    have st := setOf_step L k hlt
    have sb := setOf_lt (L.take k)
    generalize L.getD k 0 = x at *
    cases hx : okB x
    ·rw [hx] at st
     have C := hide (fun w => lits.litOf_no x w (fun h => by rw [okB_yes h] at hx; cases hx))
     have H := hide st
     clear st hcb HA hx sb
     go_wp2_with (go_at_call 147; refine (unhide C _).mono ?_; rintro e w' ⟨rfl, rfl⟩)
     go_round
     case rel => exact ⟨k + 1, by omega, by go_num, by rw [unhide H]; rfl⟩
     case measure => simp [intOf]; omega
    ·rw [hx] at st
     have C := hide (fun w => lits.litOf_yes x w (okB_iff.1 hx))
     have D := hide (fun w => withC (setOf (L.take k)) x w sb hx)
     have H := hide st
     clear st hcb HA hx sb
     go_wp2_with (first | (go_at_call 147; refine (unhide C _).mono ?_; rintro e w' ⟨rfl, rfl⟩) | (go_at_call 152; refine (unhide D _).mono ?_; rintro e w' ⟨rfl, rfl⟩))
     go_round
     case rel => exact ⟨k + 1, by omega, by go_num, by rw [unhide H]; rfl⟩
     case measure => simp [intOf]; omega
  ·have hi' : ¬ (k : Int) < (L.length : Int) := by omega
   have HK : Hid (L.take k = L) := by show L.take k = L; exact List.take_of_length_le (by omega)
   clear HA
   go_wp2
   go_ret
   exact ⟨ret_int (by rw [unhide HK]), rfl⟩
end Go.Proofs.YtnlllcgcaddhmaaGreatDoor.bset
namespace Go.Proofs.YtnlllcgcaddhmaaGreatDoor.srt
open Go.RowKit
open lits (okB placeI okB_iff okB_yes okB_no)
open bset (setOf placeN setOf_has)
open cls (hasB okAll)
def litI (p : Nat) : Int := if p % 2 = 1 then -((p / 2 : Nat) + 1 : Int) else ((p / 2 : Nat) + 1 : Int)
def srt (S j : Nat) : List Int := ((List.range j).filter fun i => S.testBit i).map litI
theorem srt_yes {S j : Nat} (h : S.testBit j = true) : srt S (j + 1) = srt S j ++ [litI j] := by
 unfold srt
 rw [List.range_succ, List.filter_append, List.map_append]
 simp [h]
theorem srt_no {S j : Nat} (h : S.testBit j = false) : srt S (j + 1) = srt S j := by
 unfold srt
 rw [List.range_succ, List.filter_append, List.map_append]
 simp [h]
theorem srt_skip {S p t : Nat} (hpt : p ≤ t) (h : ∀ i, p ≤ i → i < t → S.testBit i = false) : srt S t = srt S p := by
 obtain ⟨d, rfl⟩ := Nat.exists_eq_add_of_le hpt
 clear hpt
 induction d with
 | zero => rfl
 | succ d ih =>
  rw [← Nat.add_assoc, srt_no (h (p + d) (by omega) (by omega))]
  exact ih (fun i h1 h2 => h i h1 (by omega))
theorem srt_len (S j : Nat) : (srt S j).length ≤ j := by
 unfold srt
 rw [List.length_map]
 exact Nat.le_trans (List.length_filter_le _ _) (by simp)
def okTo (S k : Nat) : Bool := (List.range k).all fun j => !(S.testBit (2 * j) && S.testBit (2 * j + 1))
theorem okTo_succ (S k : Nat) : okTo S (k + 1) = (okTo S k && !(S.testBit (2 * k) && S.testBit (2 * k + 1))) := by
 unfold okTo
 rw [List.range_succ, List.all_append]
 simp
theorem low {s : Nat} (h0 : 0 < s) (h : s < 2 ^ 48) : ∃ t m, t = Lib.ctz 64 s ∧ t < 48 ∧ s = 2 ^ (t + 1) * m + 2 ^ t := by
 have h64 : s < 2 ^ 64 := Nat.lt_of_lt_of_le h (by decide)
 obtain ⟨m, e, ht⟩ := Lib.ctzFrom_spec 64 s h0 h64
 have ec : Lib.ctz 64 s = Lib.ctzFrom 64 s := if_neg (by omega)
 refine ⟨Lib.ctz 64 s, m, rfl, ?_, ?_⟩
 ·rw [ec]
  rcases Nat.lt_or_ge (Lib.ctzFrom 64 s) 48 with k | k
  ·exact k
  ·exfalso
   have h1 : 2 ^ 48 ≤ 2 ^ Lib.ctzFrom 64 s := Nat.pow_le_pow_right (by decide) k
   have h2 : 2 ^ Lib.ctzFrom 64 s * 1 ≤ 2 ^ Lib.ctzFrom 64 s * (2 * m + 1) := Nat.mul_le_mul_left _ (by omega)
   rw [← e] at h2
   omega
 ·rw [ec]
  conv => lhs; rw [e]
  rw [Nat.mul_add, Nat.pow_succ, Nat.mul_one, Nat.mul_assoc]
theorem low_bit {t m : Nat} (i : Nat) : (2 ^ (t + 1) * m + 2 ^ t).testBit i = if i < t + 1 then decide (t = i) else m.testBit (i - (t + 1)) := by
 rw [Nat.testBit_two_pow_mul_add _ (Nat.pow_lt_pow_right (by decide) (Nat.lt_succ_self t)), Nat.testBit_two_pow]
theorem pred_bit {t m : Nat} (i : Nat) : (2 ^ (t + 1) * m + 2 ^ t - 1).testBit i = if i < t + 1 then decide (i < t) else m.testBit (i - (t + 1)) := by
 have h1 : 0 < 2 ^ t := Nat.two_pow_pos t
 have h2 : 2 ^ t < 2 ^ (t + 1) := Nat.pow_lt_pow_right (by decide) (Nat.lt_succ_self t)
 rw [Nat.add_sub_assoc h1, Nat.testBit_two_pow_mul_add _ (by omega), Nat.testBit_two_pow_sub_one]
theorem next_bit {s t m : Nat} (e : s = 2 ^ (t + 1) * m + 2 ^ t) (i : Nat) : (s &&& (s - 1)).testBit i = (s.testBit i && decide (t + 1 ≤ i)) := by
 rw [Nat.testBit_and, e, low_bit, pred_bit]
 by_cases h : i < t + 1
 ·rw [if_pos h, if_pos h]
  rw [decide_eq_false (p := t + 1 ≤ i) (by omega)]
  by_cases k : t = i
  ·rw [decide_eq_false (p := i < t) (by omega), Bool.and_false]
  ·simp [k]
 ·rw [if_neg h, if_neg h, decide_eq_true (p := t + 1 ≤ i) (by omega)]
  simp
theorem next_lt {s : Nat} (h : 0 < s) : s &&& (s - 1) < s := Nat.lt_of_le_of_lt Nat.and_le_right (by omega)
theorem even_bit (i : Nat) : (93824992236885 : Nat).testBit i = (decide (i < 48) && decide (i % 2 = 0)) := by
 by_cases h : i < 48
 ·rw [decide_eq_true h, Bool.true_and]
  have : ∀ j, j < 48 → (93824992236885 : Nat).testBit j = decide (j % 2 = 0) := by decide
  exact this i h
 ·rw [decide_eq_false h, Bool.false_and]
  exact Nat.testBit_lt_two_pow (Nat.lt_of_lt_of_le (by decide : 93824992236885 < 2 ^ 48) (Nat.pow_le_pow_right (by decide) (by omega)))
theorem place_pos (k : Nat) (h : k < 24) : okB ((k : Int) + 1) = true ∧ placeN ((k : Int) + 1) = 2 * k := by
 refine ⟨okB_yes ⟨by omega, by omega, by omega⟩, ?_⟩
 unfold placeN placeI
 rw [if_neg (by omega)]
 omega
theorem place_neg (k : Nat) (h : k < 24) : okB (-((k : Int) + 1)) = true ∧ placeN (-((k : Int) + 1)) = 2 * k + 1 := by
 refine ⟨okB_yes ⟨by omega, by omega, by omega⟩, ?_⟩
 unfold placeN placeI
 rw [if_pos (by omega)]
 omega
theorem has_pos (L : List Int) (k : Nat) (h : k < 24) : hasB L ((k : Int) + 1) = (setOf L).testBit (2 * k) := by
 rw [← setOf_has L _ (place_pos k h).1, (place_pos k h).2]
theorem has_neg (L : List Int) (k : Nat) (h : k < 24) : hasB L (-((k : Int) + 1)) = (setOf L).testBit (2 * k + 1) := by
 rw [← setOf_has L _ (place_neg k h).1, (place_neg k h).2]
theorem litI_even (k : Nat) : litI (2 * k) = (k : Int) + 1 := by
 unfold litI
 rw [if_neg (by omega), show 2 * k / 2 = k from by omega]
theorem litI_odd (k : Nat) : litI (2 * k + 1) = -((k : Int) + 1) := by
 unfold litI
 rw [if_pos (by omega), show (2 * k + 1) / 2 = k from by omega]
theorem litI_bd (p : Nat) (h : p < 48) : -24 ≤ litI p ∧ litI p ≤ 24 := by
 unfold litI
 split <;> omega
end Go.Proofs.YtnlllcgcaddhmaaGreatDoor.srt
namespace Go.Proofs.YtnlllcgcaddhmaaGreatDoor.srt
open Go.ChangeShapes Go.WideShapes Go.ChangeAt Go.RowKit
open lits (okB placeI okB_iff okB_yes okB_no)
open bset (setOf placeN setOf_has setOf_lt placeC placeN_le)
open sl (hide unhide ret_int ret_bool)
set_option linter.unusedVariables false
def oppN (S : Nat) : Nat := 2 ^ 1 * (S &&& 93824992236885) ||| (S / 2 &&& 93824992236885)
def swp (i : Nat) : Nat := if i % 2 = 0 then i + 1 else i - 1
theorem swp_swp (i : Nat) : swp (swp i) = i := by
 unfold swp
 split <;> split <;> omega
theorem oppN_bit (S i : Nat) : (oppN S).testBit i = (decide (i < 48) && S.testBit (swp i)) := by
 unfold oppN
 rw [Nat.testBit_or, Nat.testBit_two_pow_mul, Nat.testBit_and, Nat.testBit_and, even_bit, even_bit, Nat.testBit_div_two]
 unfold swp
 by_cases h : i % 2 = 0
 ·rw [if_pos h]
  by_cases h0 : 1 ≤ i
  ·rw [decide_eq_false (p := (i - 1) % 2 = 0) (by omega), decide_eq_true h]
   cases S.testBit (i + 1) <;> simp
  ·rw [decide_eq_false (p := i ≥ 1) h0, decide_eq_true h]
   cases S.testBit (i + 1) <;> simp
 ·rw [if_neg h, decide_eq_false h, decide_eq_true (p := (i - 1) % 2 = 0) (by omega), decide_eq_true (p := i ≥ 1) (by omega)]
  by_cases h1 : i < 48
  ·rw [decide_eq_true h1, decide_eq_true (p := i - 1 < 48) (by omega)]
   simp
  ·rw [decide_eq_false h1, decide_eq_false (p := i - 1 < 48) (by omega)]
   simp
theorem lt48 {S : Nat} (h : ∀ i, 48 ≤ i → S.testBit i = false) : S < 2 ^ 48 := Nat.lt_pow_two_of_testBit S h
theorem hi_bit {S i : Nat} (h : S < 2 ^ 48) (hi : 48 ≤ i) : S.testBit i = false := Nat.testBit_lt_two_pow (Nat.lt_of_lt_of_le h (Nat.pow_le_pow_right (by decide) hi))
theorem oppN_lt (S : Nat) : oppN S < 2 ^ 48 := lt48 fun i hi => by rw [oppN_bit, decide_eq_false (by omega), Bool.false_and]
def andN (a b : Nat) : Nat := a &&& (18446744073709551615 - b)
theorem andN_bit (a b i : Nat) (ha : a < 2 ^ 48) (hb : b < 2 ^ 48) : (andN a b).testBit i = (a.testBit i && !b.testBit i) := by
 unfold andN
 have e : 18446744073709551615 - b = 2 ^ 64 - (b + 1) := by omega
 rw [Nat.testBit_and, e, Nat.testBit_two_pow_sub_succ (by omega)]
 by_cases h : i < 64
 ·rw [decide_eq_true h, Bool.true_and]
 ·rw [hi_bit ha (by omega), Bool.false_and, Bool.false_and]
theorem andN_lt (a b : Nat) (ha : a < 2 ^ 48) : andN a b < 2 ^ 48 := Nat.lt_of_le_of_lt Nat.and_le_left ha
theorem andN_eq (a b : Nat) (ha : a < 2 ^ 48) (hb : b < 2 ^ 48) : bits .andNot .u64 (a : Int) (b : Int) = ((andN a b : Nat) : Int) := u64_andNot_nat a b (by omega) (by omega)
theorem and_eq (a b : Nat) (ha : a < 2 ^ 48) (hb : b < 2 ^ 48) : bits .and .u64 (a : Int) (b : Int) = ((a &&& b : Nat) : Int) := u64_and_nat a b (by omega) (by omega)
theorem opp_eq (S : Nat) (h : S < 2 ^ 48) : bits .or .u64 (IntKind.u64.wrap (bits .and .u64 (S : Int) 93824992236885 * 2)) (bits .and .u64 ((S : Int) / 2) 93824992236885) = ((oppN S : Nat) : Int) := by
 have h1 : S &&& 93824992236885 ≤ 93824992236885 := Nat.and_le_right
 have h2 : S / 2 &&& 93824992236885 ≤ 93824992236885 := Nat.and_le_right
 rw [show ((S : Int) / 2) = ((S / 2 : Nat) : Int) from by omega, show (93824992236885 : Int) = ((93824992236885 : Nat) : Int) from rfl, u64_and_nat S _ (by omega) (by decide), u64_and_nat (S / 2) _ (by omega) (by decide)]
 have e : IntKind.u64.wrap (((S &&& 93824992236885 : Nat) : Int) * 2) = ((2 ^ 1 * (S &&& 93824992236885) : Nat) : Int) := by
  rw [IntKind.wrap_u64]
  generalize S &&& 93824992236885 = q at *
  omega
 rw [e]
 exact u64_or_nat _ _ (by omega) (by omega)
theorem opposites (S : Nat) (w : World) (h : S < 2 ^ 48) : Calls Tryz.prog 153 #[.int .u64 S] w fun e w' => e = .returned (.int .u64 (oppN S : Nat)) ∧ w' = w := by
 have E := hide (opp_eq S h)
 generalize oppN S = r at *
 go_enter Tryz.func153, Tryz.ntmps153
 go_wp2
 go_ret
 exact ⟨ret_int (unhide E), rfl⟩
theorem clash_opp (S : Nat) : (S &&& oppN S != 0) = !(okTo S 24) := by
 rw [Bool.eq_iff_iff, bne_iff_ne, Bool.not_eq_true', okTo, List.all_eq_false]
 constructor
 ·intro h
  obtain ⟨i, hi⟩ := Nat.exists_testBit_of_ne_zero h
  rw [Nat.testBit_and, oppN_bit, Bool.and_eq_true, Bool.and_eq_true, decide_eq_true_iff] at hi
  obtain ⟨h1, h2, h3⟩ := hi
  unfold swp at h3
  refine ⟨i / 2, by simp; omega, ?_⟩
  by_cases hp : i % 2 = 0
  ·rw [if_pos hp] at h3
   rw [show 2 * (i / 2) = i by omega, h1, h3]
   simp
  ·rw [if_neg hp] at h3
   rw [show 2 * (i / 2) + 1 = i by omega, show 2 * (i / 2) = i - 1 by omega, h1, h3]
   simp
 ·rintro ⟨j, hj, hb⟩ e
  have hj' : j < 24 := by simpa using hj
  have hb' : S.testBit (2 * j) = true ∧ S.testBit (2 * j + 1) = true := by simpa using hb
  have := congrArg (fun q => q.testBit (2 * j)) e
  simp only [Nat.testBit_and, oppN_bit, Nat.zero_testBit] at this
  have hs : swp (2 * j) = 2 * j + 1 := if_pos (by omega)
  rw [hs, hb'.1, hb'.2, decide_eq_true (by omega)] at this
  cases this
theorem clashes_eq (S : Nat) (h : S < 2 ^ 48) : (bits .and .u64 (S : Int) ((oppN S : Nat) : Int) != 0) = !(okTo S 24) := by
 rw [and_eq S _ h (oppN_lt S), ← clash_opp, Bool.eq_iff_iff, bne_iff_ne, bne_iff_ne]
 omega
theorem clashes (S : Nat) (w : World) (h : S < 2 ^ 48) : Calls Tryz.prog 115 #[.int .u64 S] w fun e w' => e = .returned (.bool (!(okTo S 24))) ∧ w' = w := by
 have E := hide (clashes_eq S h)
 have C := hide (opposites S w h)
 generalize oppN S = r at *
 go_enter Tryz.func115, Tryz.ntmps115
 go_wp2_with fail
 refine (unhide C).mono ?_; rintro e w2 ⟨rfl, hw⟩; have hw' := hw.symm; clear hw; subst hw'
 go_wp2_with fail
 go_ret
 exact ⟨ret_bool (unhide E), rfl⟩
def woN (S : Nat) (x : Int) : Nat := andN S (2 ^ placeN x)
theorem pow_lt48 {p : Nat} (h : p ≤ 47) : 2 ^ p < 2 ^ 48 := Nat.pow_lt_pow_right (by decide) (by omega)
theorem woN_bit (S : Nat) (x : Int) (i : Nat) (h : S < 2 ^ 48) (hx : okB x = true) : (woN S x).testBit i = (S.testBit i && !decide (placeN x = i)) := by
 unfold woN
 rw [andN_bit _ _ _ h (pow_lt48 (placeN_le hx)), Nat.testBit_two_pow]
theorem woN_lt {S : Nat} {x : Int} (h : S < 2 ^ 48) : woN S x < 2 ^ 48 := andN_lt _ _ h
theorem wrap_pow {p : Nat} (h : p ≤ 47) : IntKind.u64.wrap (2 ^ p) = ((2 ^ p : Nat) : Int) := by
 have h2 := pow_lt48 h
 rw [IntKind.wrap_u64]
 have : ((2 : Int) ^ p) = ((2 ^ p : Nat) : Int) := by simp
 rw [this]
 clear this
 generalize 2 ^ p = q at *
 omega
theorem without (S : Nat) (x : Int) (w : World) (h : S < 2 ^ 48) (hx : okB x = true) : Calls Tryz.prog 211 #[.int .u64 S, .int .i8 x] w fun e w' => e = .returned (.int .u64 (woN S x : Nat)) ∧ w' = w := by
 have C := hide (placeC x · hx)
 have hp := placeN_le hx
 have E : Hid (bits .andNot .u64 (S : Int) (IntKind.u64.wrap (2 ^ placeN x)) = ((andN S (2 ^ placeN x) : Nat) : Int)) := by
  show _ = _
  rw [wrap_pow hp]
  exact andN_eq _ _ h (pow_lt48 hp)
 unfold woN
 clear hx h
 generalize andN S (2 ^ placeN x) = r at *
 generalize placeN x = p at *
 go_enter Tryz.func211, Tryz.ntmps211
 go_wp2_with fail
 refine (unhide C _).mono ?_; rintro e w' ⟨rfl, rfl⟩
 go_wp2_with fail
 go_ret
 refine ⟨?_, rfl⟩
 exact ret_int (unhide E)
end Go.Proofs.YtnlllcgcaddhmaaGreatDoor.srt
namespace Go.Proofs.YtnlllcgcaddhmaaGreatDoor.wo
open Go.ChangeShapes Go.WideShapes Go.ChangeAt Go.RowKit
open sl (Sl ints hide unhide ret_int ret_bool grown_refl grown_trans grown_drewN)
set_option linter.unusedVariables false
theorem own_grow {w wr w1 : World} {v v' : Value} {M : List Int} {y : Int} {o : Obj} (hg : w.grownBy wr none) (hown : wr.ownsRow w.heap.size 3 1 v M.length (ints M))
  (hown' : w1.ownsRow w.heap.size 3 1 v' (M.length + 1) (ints M ++ [.int .i64 y])) (hgrow : (wr.alloc o).grownBy w1 v.ownBlock) :
  w1.ownsRow w.heap.size 3 1 v' (M ++ [y]).length (ints (M ++ [y])) ∧ w.grownBy w1 none := by
 refine ⟨?_, ⟨hgrow.os.trans hg.os, hgrow.tape.trans hg.tape, hgrow.output.trans hg.output, ?_, fun k hk _ => ?_⟩⟩
 ·have e1 : (M ++ [y]).length = M.length + 1 := by simp
  have e2 : ints (M ++ [y]) = ints M ++ [.int .i64 y] := by simp [ints]
  rw [e1, e2]
  exact hown'
 ·have h1 := hgrow.size
  have h2 := hg.size
  simp at h1
  omega
 ·have h2 := hg.size
  rw [hgrow.block k (by simp; omega) ?_, Below.heap_alloc _ _ _ (by omega)]
  ·exact hg.block k hk (fun e => by cases e)
  ·intro e
   have := (hown.lt k e.symm).1
   omega
def Made (w w1 : World) (v : Value) (M : List Int) : Prop := w1.ownsRow w.heap.size 3 1 v M.length (ints M) ∧ w.grownBy w1 none
theorem append1 {ops : Array Oper} {rest : List Oper} {o : Oper} {a : Act} {Q : Exit → Act → World → Prop} {w wr : World} {v : Value} {M : List Int} {y : Int}
  (hg : w.grownBy wr none) (hown : wr.ownsRow w.heap.size 3 1 v M.length (ints M)) (hM : M.length ≤ 4194304) (hgd : o.guard = none) (s x : Operand)
  (ho : o.op = .call { callee := .builtin .append, args := #[s, x], argTypes := #[34, 34] }) (hs : a.eval s = v) (hx : a.eval x = .slice (some ⟨wr.heap.size, 0, none⟩) 1 1)
  (h : ∀ v' w1, Made w w1 v' (M ++ [y]) → wpList Tryz.prog ops Q rest (a.put o.dst v') w1) :
  wpList Tryz.prog ops Q (o :: rest) a (wr.alloc (.cells #[.int .i64 y] 3)) := by
 obtain ⟨i0, hi, hz0, hz1, hz2⟩ := info_parts sl.info3
 have hsz := hg.size
 refine wpList_append_own _ hgd s x 34 ho w.heap.size 3 i0 (.int .i64 0) 1 8 Tryz.underlying34 hi hz0 hz1 hz2 rfl (by decide) v M.length (ints M) hs (hown.alloc _) ⟨wr.heap.size, 0, none⟩ 1 1 [.int .i64 y] hx rfl ?_ ?_ ?_ ?_ ?_ ?_
 ·intro j u hj
  match j, hj with
  | 0, hj => simp at hj; subst hj; simp [Addr.add]
 ·intro u hu
  simp at hu
  subst hu
  rfl
 ·unfold maxLen
  omega
 ·omega
 ·simp
  omega
 ·intro v' w1 hown' hgrow _
  exact h v' w1 (own_grow hg hown hown' hgrow)
end Go.Proofs.YtnlllcgcaddhmaaGreatDoor.wo
namespace Go.Proofs.YtnlllcgcaddhmaaGreatDoor.srt
open Go.ChangeShapes Go.WideShapes Go.ChangeAt Go.RowKit
open lits (okB placeI okB_iff okB_yes okB_no)
open bset (setOf placeN setOf_has setOf_lt)
open cls (hasB okAll)
open sl (Sl ints hide unhide ret_int ret_bool grown_refl grown_trans)
set_option linter.unusedVariables false
def Tab (w : World) : Prop := ∀ j, j < 64 → w.cell? ⟨2, j, none⟩ = some (.int .u8 (Lib.deBruijn64tab.getD j 0 : Nat))
theorem Tab.kept {w w' : World} (h : Tab w) (g : w.grownBy w' none) : Tab w' :=
 fun j hj => g.cell (h j hj) (fun e => by cases e)
theorem Tab.below {w w' : World} (h : Tab w) (b : Below w.heap.size w w') : Tab w' := h.kept (sl.of_below b)
theorem tz_key (x a : Nat) (hx : x < 18446744073709551616) (hx0 : x ≠ 0) (hlow : x &&& (18446744073709551616 - x) = a) :
  IntKind.u64.wrap (bits BinOp.and IntKind.u64 (x : Int) (IntKind.u64.wrap (-(x : Int))) * 285870213051353865) / 288230376151711744 = ((a * 285870213051353865 % 18446744073709551616 / 288230376151711744 : Nat) : Int) := by
 have e1 : IntKind.u64.wrap (-(x : Int)) = ((18446744073709551616 - x : Nat) : Int) := by rw [IntKind.wrap_u64]; omega
 rw [e1, u64_and_nat x _ hx (by omega), hlow, IntKind.wrap_u64]
 omega
set_option maxHeartbeats 1000000 in
theorem tz_core (x k idx : Nat) (w : World) (hx0 : ((x : Int) == 0) = false)
  (key : IntKind.u64.wrap (bits BinOp.and IntKind.u64 (x : Int) (IntKind.u64.wrap (-(x : Int))) * 285870213051353865) / 288230376151711744 = (idx : Int))
  (hi : idx < 64) (hk : k < 64) (hcell : w.cell? ⟨2, idx, none⟩ = some (.int .u8 k)) :
  Calls Tryz.prog 195 #[.int .u64 x] w fun e w' => e = .returned (.int .i64 k) ∧ w' = w := by
 go_enter Tryz.func195, Tryz.ntmps195
 go_wp2_with (simp only [key])
 go_ret
 exact ⟨rfl, rfl⟩
theorem tz (x : Nat) (w : World) (hT : Tab w) (h0 : 0 < x) (h : x < 2 ^ 48) :
  Calls Tryz.prog 195 #[.int .u64 x] w fun e w' => e = .returned (.int .i64 (Lib.ctz 64 x : Nat)) ∧ w' = w := by
 have h64 : x < 2 ^ 64 := Nat.lt_of_lt_of_le h (by decide)
 obtain ⟨hlow, hk⟩ := Lib.lowest_bit 64 x (by omega) h64
 obtain ⟨hi, htab⟩ := Lib.deBruijn64_at _ hk
 have hcell := hT _ hi
 rw [htab] at hcell
 exact tz_core x _ _ w (by simp; omega) (tz_key x _ h64 (by omega) hlow) hi hk hcell
theorem and127_bd (n : Int) : 0 ≤ bits .and .i64 n 127 ∧ bits .and .i64 n 127 ≤ 127 := by
 rw [i64_and127]
 omega
theorem ones (x : Nat) (w : World) :
  Calls Tryz.prog 191 #[.int .u64 x] w fun e w' => ∃ r : Int, e = .returned (.int .i64 r) ∧ 0 ≤ r ∧ r ≤ 127 ∧ w' = w := by
 go_enter Tryz.func191, Tryz.ntmps191
 go_wp2
 go_ret
 exact ⟨_, rfl, (and127_bd _).1, (and127_bd _).2, rfl⟩
theorem litAt (p : Nat) (w : World) (h : p < 48) : Calls Tryz.prog 194 #[.int .i64 p] w fun e w' => e = .returned (.int .i8 (litI p)) ∧ w' = w := by
 obtain ⟨k, hk | hk⟩ : ∃ k, p = 2 * k ∨ p = 2 * k + 1 := ⟨p / 2, by omega⟩
 ·subst hk
  rw [litI_even]
  have e1 : ((2 * k : Nat) : Int) / 2 = (k : Int) := by omega
  have e2 : ((((2 * k : Nat) : Int) % 2) == 1) = false := by rw [show ((2 * k : Nat) : Int) % 2 = 0 from by omega]; rfl
  have hk : k < 24 := by omega
  generalize hp : ((2 * k : Nat) : Int) = q at *
  have q0 : 0 ≤ q := by omega
  have q1 : q < 48 := by omega
  clear hp h
  go_enter Tryz.func194, Tryz.ntmps194
  go_wp2
  go_ret
  exact ⟨rfl, rfl⟩
 ·subst hk
  rw [litI_odd]
  have e1 : ((2 * k + 1 : Nat) : Int) / 2 = (k : Int) := by omega
  have e2 : ((((2 * k + 1 : Nat) : Int) % 2) == 1) = true := by rw [show ((2 * k + 1 : Nat) : Int) % 2 = 1 from by omega]; rfl
  have hk : k < 24 := by omega
  generalize hp : ((2 * k + 1 : Nat) : Int) = q at *
  have q0 : 0 ≤ q := by omega
  have q1 : q < 48 := by omega
  clear hp h
  go_enter Tryz.func194, Tryz.ntmps194
  go_wp2
  go_ret
  exact ⟨rfl, rfl⟩
def fstI (S : Nat) : Int := litI (Lib.ctz 64 S)
theorem first (S : Nat) (w : World) (hT : Tab w) (h0 : 0 < S) (h : S < 2 ^ 48) : Calls Tryz.prog 166 #[.int .u64 S] w fun e w' => e = .returned (.int .i8 (fstI S)) ∧ w' = w := by
 obtain ⟨t, m, et, ht, es⟩ := low h0 h
 have C := tz S w hT h0 h
 have D := litAt t w ht
 unfold fstI
 rw [← et] at C ⊢
 have CT := hide C
 have CL := hide D
 clear C D et es hT
 have hb := litI_bd t ht
 generalize litI t = y at *
 go_enter Tryz.func166, Tryz.ntmps166
 go_wp2_with fail
 refine (unhide CT).mono ?_; rintro e w2 ⟨rfl, hw⟩; have hw' := hw.symm; clear hw; subst hw'
 go_wp2_with fail
 refine (unhide CL).mono ?_; rintro e w2 ⟨rfl, hw⟩; have hw' := hw.symm; clear hw; subst hw'
 go_wp2_with fail
 go_ret
 exact ⟨rfl, rfl⟩
theorem and_pred (s : Nat) (h0 : 0 < s) (h : s < 2 ^ 48) : bits .and .u64 (s : Int) ((s : Int) - 1) = ((s &&& (s - 1) : Nat) : Int) := by
 rw [show ((s : Int) - 1) = ((s - 1 : Nat) : Int) from by omega]
 exact u64_and_nat s (s - 1) (by omega) (by omega)
theorem list (S : Nat) (w : World) (hT : Tab w) (hS : S < 2 ^ 48) :
  Calls Tryz.prog 154 #[.int .u64 S] w fun e w' => ∃ u, e = .returned u ∧ w'.ownsRow w.heap.size 3 1 u (srt S 48).length (ints (srt S 48)) ∧ w.grownBy w' none := by
 obtain ⟨i0, hi, hz0, hz1, hz2⟩ := info_parts sl.info3
 have HT := hide hT
 clear hT
 go_enter Tryz.func154, Tryz.ntmps154
 go_wp2_with fail
 refine (ones S _).mono ?_; rintro e w' ⟨r, rfl, r0, r1, rfl⟩
 obtain ⟨n, rfl⟩ := Int.eq_ofNat_of_zero_le r0
 go_wp2_with (first | (at_make; refine wpList_make_own _ rfl _ _ 34 rfl w'.heap.size 3 i0 (.int .i64 0) 1 Tryz.underlying34 hi hz0 hz1 _ _ _ n rfl rfl (by rfl) ?b1 ?b2 ?b3 ?_))
 case b1 => rw [hz2]; omega
 case b2 => unfold maxLen; omega
 case b3 => exact Nat.le_refl _
 intro w1 hown hgrow
 have O := hide hown
 have G := hide hgrow
 clear hown hgrow r0 r1
 go_wp2
 go_loopw [0, 3] (fun sv u wr => ∃ s p : Nat, sv = .int .u64 s ∧ s < 2 ^ 48 ∧ p ≤ 48 ∧ Hid (∀ i, s.testBit i = (S.testBit i && decide (p ≤ i))) ∧ wr.ownsRow w'.heap.size 3 1 u (srt S p).length (ints (srt S p)) ∧ w'.grownBy wr none) (fun sv _ _ => (intOf sv).toNat)
 case atStart => exact ⟨S, 0, rfl, hS, Nat.zero_le _, fun i => by simp, unhide O, unhide G⟩
 case round =>
  obtain ⟨s, p, rfl, hs, hp, hb, hown, hg⟩ := hrel
  clear O G
  by_cases h0 : s = 0
  ·have e : srt S 48 = srt S p := srt_skip hp (fun i h1 h2 => by
    have := unhide hb i
    rw [h0, Nat.zero_testBit, decide_eq_true h1, Bool.and_true] at this
    exact this.symm)
   rw [← e] at hown
   subst h0
   have O := hide hown
   have G := hide hg
   clear hown hg hb e HT
   go_wp2
   go_ret
   exact ⟨_, rfl, unhide O, unhide G⟩
  ·obtain ⟨t, m, et, ht, es⟩ := low (by omega) hs
   have cfi := first s wr ((unhide HT).kept hg) (by omega) hs
   unfold fstI at cfi
   rw [← et] at cfi
   have hbt : S.testBit t = true ∧ p ≤ t := by
    have h1 := unhide hb t
    rw [es, low_bit, if_pos (by omega), decide_eq_true rfl] at h1
    have h2 := Bool.and_eq_true_iff.1 h1.symm
    exact ⟨h2.1, of_decide_eq_true h2.2⟩
   have hbl : ∀ i, p ≤ i → i < t → S.testBit i = false := fun i h1 h2 => by
    have h3 := unhide hb i
    rw [es, low_bit, if_pos (by omega), decide_eq_false (by omega), decide_eq_true h1, Bool.and_true] at h3
    exact h3.symm
   have esrt : srt S (t + 1) = srt S p ++ [litI t] := by rw [srt_yes hbt.1, srt_skip hbt.2 hbl]
   have hnb : ∀ i, (s &&& (s - 1)).testBit i = (S.testBit i && decide (t + 1 ≤ i)) := fun i => by
    rw [next_bit es, unhide hb i]
    by_cases h1 : t + 1 ≤ i
    ·rw [decide_eq_true h1, decide_eq_true (p := p ≤ i) (by omega), Bool.and_true]
    ·rw [decide_eq_false h1, Bool.and_false, Bool.and_false]
   have hns : s &&& (s - 1) < s := next_lt (by omega)
   have eand := and_pred s (by omega) hs
   have hbd := litI_bd t ht
   have hle : (srt S p).length ≤ 48 := Nat.le_trans (srt_len S p) hp
   have hsz := hg.size
   have hne : ((s : Int) != 0) = true := by simp; omega
   have hs1 : 1 ≤ s := by omega
   have CF := hide cfi
   have ES := hide esrt
   have NB := hide hnb
   have NS := hide hns
   have EA := hide eand
   clear cfi hbt hbl esrt hnb hns eand et es hb h0
   generalize litI t = y at *
   generalize srt S p = M at *
   obtain ⟨y0, y1⟩ := hbd
   go_wp2_with (first | (at_builtin; refine wpList_append_own _ rfl _ _ 34 rfl w'.heap.size 3 i0 (.int .i64 0) 1 8 Tryz.underlying34 hi hz0 hz1 hz2 rfl (by decide) _ _ _ rfl (hown.alloc _) ⟨wr.heap.size, 0, none⟩ 1 1 [.int .i64 y] rfl rfl ?lc1 ?lc2 ?lc3 ?lc4 ?lc5 ?_) | (go_at_call 166; refine (unhide CF).mono ?_; rintro e w2 ⟨rfl, hw⟩; have hw' := hw.symm; clear hw; subst hw'))
   case lc1 =>
    intro j u hj
    match j, hj with
    | 0, hj => simp at hj; subst hj; simp [Addr.add]
   case lc2 => intro u hu; simp at hu; subst hu; rfl
   case lc3 => unfold maxLen; omega
   case lc4 => omega
   case lc5 => simp; omega
   intro v' w1 hown' hgrow _
   have R := hide (wo.own_grow hg hown hown' hgrow)
   clear hown' hgrow hown hg
   go_wp2
   go_roundw
   case rel => exact ⟨s &&& (s - 1), t + 1, by rw [← unhide EA], Nat.lt_trans (unhide NS) hs, by omega, unhide NB, by rw [unhide ES]; exact (unhide R).1, (unhide R).2⟩
   case measure => rw [unhide EA]; simp [intOf]; have := unhide NS; omega
end Go.Proofs.YtnlllcgcaddhmaaGreatDoor.srt
namespace Go.Proofs.YtnlllcgcaddhmaaGreatDoor.srt
open Go.ChangeShapes Go.WideShapes Go.ChangeAt Go.RowKit
open lits (okB placeI okB_iff okB_yes okB_no)
open bset (setOf placeN setOf_has setOf_lt)
open cls (hasB okAll)
open sl (Sl ints hide unhide ret_int ret_bool grown_refl grown_trans)
set_option linter.unusedVariables false
set_option maxHeartbeats 1000000 in
theorem l01Sort (v : Value) (L : List Int) (w : World) (hL : L.length ≤ 1048576) (hv : Sl w v L) :
  Calls Tryz.prog 79 #[v] w fun e w' => ∃ u, e = .returned (.tuple #[u, .bool (okTo (setOf L) 24)]) ∧ w'.ownsRow w.heap.size 3 1 u (srt (setOf L) 48).length (ints (srt (setOf L) 48)) ∧ w.grownBy w' none := by
 obtain ⟨i0, hi, hz0, hz1, hz2⟩ := info_parts sl.info3
 have HV := hide hv
 clear hv
 have start : Hid ((w.alloc (.cells #[] 3)).ownsRow w.heap.size 3 1 (.slice (some ⟨w.heap.size, 0, none⟩) 0 0) 0 []) := World.ownsRow_lit w #[] 0 (Nat.le_refl _) (Nat.zero_le _) rfl
 have grown : Hid (w.grownBy (w.alloc (.cells #[] 3)) none) := World.grownBy_alloc _ _ _
 go_enter Tryz.func79, Tryz.ntmps79
 go_wp2
 go_loopw [4, 5, 6] (fun u o i wr => ∃ k : Nat, k ≤ 24 ∧ i = .int .i64 ((k : Int) + 1) ∧ o = .bool (okTo (setOf L) k) ∧ wr.ownsRow w.heap.size 3 1 u (srt (setOf L) (2 * k)).length (ints (srt (setOf L) (2 * k))) ∧ w.grownBy wr none) (fun _ _ i _ => 30 - (intOf i).toNat)
 case atStart => exact ⟨0, Nat.zero_le _, rfl, rfl, unhide start, unhide grown⟩
 case round =>
  obtain ⟨k, hk, rfl, rfl, hown, hg⟩ := hrel
  clear start grown
  by_cases hlt : k < 24
  ·have hi' : (k : Int) + 1 ≤ 24 := by omega
   have ca := cls.specClauseHas v L ((k : Int) + 1) wr hL ((unhide HV).kept hg (.inl rfl))
   have cb := cls.specClauseHas v L (-((k : Int) + 1)) wr hL ((unhide HV).kept hg (.inl rfl))
   rw [has_pos L k hlt] at ca
   rw [has_neg L k hlt] at cb
   have eo := okTo_succ (setOf L) k
   have y1 := fun h => srt_yes (S := setOf L) (j := 2 * k) h
   have n1 := fun h => srt_no (S := setOf L) (j := 2 * k) h
   have y2 := fun h => srt_yes (S := setOf L) (j := 2 * k + 1) h
   have n2 := fun h => srt_no (S := setOf L) (j := 2 * k + 1) h
   rw [litI_even] at y1
   rw [litI_odd] at y2
   have hle : (srt (setOf L) (2 * k)).length ≤ 48 := Nat.le_trans (srt_len _ _) (by omega)
   have hsz := hg.size
   clear HV
   cases ha : (setOf L).testBit (2 * k)
   all_goals cases hb : (setOf L).testBit (2 * k + 1)
   ·rw [ha] at ca eo
    rw [hb] at cb eo
    have CA := hide ca
    have CB := hide cb
    have EO := hide eo
    have E : Hid (srt (setOf L) (2 * (k + 1)) = srt (setOf L) (2 * k)) := by
     show _ = _
     rw [show 2 * (k + 1) = 2 * k + 1 + 1 from by omega, n2 hb, n1 ha]
    clear ca cb eo y1 n1 y2 n2 ha hb
    generalize srt (setOf L) (2 * k) = M at *
    generalize okTo (setOf L) k = o at *
    cases o
    all_goals
     go_wp2_with fail
     refine (unhide CA).mono ?_; rintro e w2 ⟨rfl, hw⟩; have hw' := hw.symm; clear hw; subst hw'
     go_wp2_with fail
     refine (unhide CB).mono ?_; rintro e w2 ⟨rfl, hw⟩; have hw' := hw.symm; clear hw; subst hw'
     have R : wo.Made w wr _ M := ⟨hown, hg⟩
     clear hown hg
     go_wp2
     go_roundw
     case rel => exact ⟨k + 1, by omega, by go_num, by rw [unhide EO]; rfl, by rw [unhide E]; exact R.1, R.2⟩
     case measure => simp [intOf]; omega
   ·rw [ha] at ca eo
    rw [hb] at cb eo
    have CA := hide ca
    have CB := hide cb
    have EO := hide eo
    have E : Hid (srt (setOf L) (2 * (k + 1)) = srt (setOf L) (2 * k) ++ [-((k : Int) + 1)]) := by
     show _ = _
     rw [show 2 * (k + 1) = 2 * k + 1 + 1 from by omega, y2 hb, n1 ha]
    clear ca cb eo y1 n1 y2 n2 ha hb
    generalize srt (setOf L) (2 * k) = M at *
    generalize okTo (setOf L) k = o at *
    cases o
    all_goals
     go_wp2_with fail
     refine (unhide CA).mono ?_; rintro e w2 ⟨rfl, hw⟩; have hw' := hw.symm; clear hw; subst hw'
     go_wp2_with fail
     refine (unhide CB).mono ?_; rintro e w2 ⟨rfl, hw⟩; have hw' := hw.symm; clear hw; subst hw'
     go_wp2_with (at_builtin; refine wo.append1 hg hown (by omega) rfl _ _ rfl rfl rfl ?_)
     intro v' w1 R
     clear hown hg
     go_wp2
     go_roundw
     case rel => exact ⟨k + 1, by omega, by go_num, by rw [unhide EO]; rfl, by rw [unhide E]; exact R.1, R.2⟩
     case measure => simp [intOf]; omega
   ·rw [ha] at ca eo
    rw [hb] at cb eo
    have CA := hide ca
    have CB := hide cb
    have EO := hide eo
    have E : Hid (srt (setOf L) (2 * (k + 1)) = srt (setOf L) (2 * k) ++ [(k : Int) + 1]) := by
     show _ = _
     rw [show 2 * (k + 1) = 2 * k + 1 + 1 from by omega, n2 hb, y1 ha]
    clear ca cb eo y1 n1 y2 n2 ha hb
    generalize srt (setOf L) (2 * k) = M at *
    generalize okTo (setOf L) k = o at *
    cases o
    all_goals
     go_wp2_with fail
     refine (unhide CA).mono ?_; rintro e w2 ⟨rfl, hw⟩; have hw' := hw.symm; clear hw; subst hw'
     go_wp2_with fail
     refine (unhide CB).mono ?_; rintro e w2 ⟨rfl, hw⟩; have hw' := hw.symm; clear hw; subst hw'
     go_wp2_with (at_builtin; refine wo.append1 hg hown (by omega) rfl _ _ rfl rfl rfl ?_)
     intro v' w1 R
     clear hown hg
     go_wp2
     go_roundw
     case rel => exact ⟨k + 1, by omega, by go_num, by rw [unhide EO]; rfl, by rw [unhide E]; exact R.1, R.2⟩
     case measure => simp [intOf]; omega
   ·rw [ha] at ca eo
    rw [hb] at cb eo
    have CA := hide ca
    have CB := hide cb
    have EO := hide eo
    have E : Hid (srt (setOf L) (2 * (k + 1)) = srt (setOf L) (2 * k) ++ [(k : Int) + 1] ++ [-((k : Int) + 1)]) := by
     show _ = _
     rw [show 2 * (k + 1) = 2 * k + 1 + 1 from by omega, y2 hb, y1 ha]
    clear ca cb eo y1 n1 y2 n2 ha hb
    generalize srt (setOf L) (2 * k) = M at *
    generalize okTo (setOf L) k = o at *
    cases o
    all_goals
     go_wp2_with fail
     refine (unhide CA).mono ?_; rintro e w2 ⟨rfl, hw⟩; have hw' := hw.symm; clear hw; subst hw'
     go_wp2_with fail
     refine (unhide CB).mono ?_; rintro e w2 ⟨rfl, hw⟩; have hw' := hw.symm; clear hw; subst hw'
     go_wp2_with (at_builtin; refine wo.append1 hg hown (by omega) rfl _ _ rfl rfl rfl ?_)
     intro v' w1 R1
     obtain ⟨hown1, hg1⟩ := R1
     have hl1 : (M ++ [(k : Int) + 1]).length ≤ 49 := by simp; omega
     clear hown hg
     generalize M ++ [(k : Int) + 1] = M1 at *
     go_wp2_with (at_builtin; refine wo.append1 hg1 hown1 (by omega) rfl _ _ rfl rfl rfl ?_)
     intro v2 w2 R
     clear hown1 hg1
     go_wp2
     go_roundw
     case rel => exact ⟨k + 1, by omega, by go_num, by rw [unhide EO]; rfl, by rw [unhide E]; exact R.1, R.2⟩
     case measure => simp [intOf]; omega
  ·have hkk : k = 24 := by omega
   subst hkk
   have hi' : ¬ ((24 : Nat) : Int) + 1 ≤ 24 := by omega
   have O := hide hown
   have G := hide hg
   clear hown hg HV
   go_wp2
   go_ret2
   exact ⟨_, rfl, unhide O, unhide G⟩
end Go.Proofs.YtnlllcgcaddhmaaGreatDoor.srt
