/- Words of literals: what opposites, clashes and without of the program answer, at every word below 2^48; no other condition. -/
import Derived.Test.YtibpnocpafppaaaDoorSrtM
namespace Go.Proofs.YtibpnocpafppaaaDoor.srt
open Go.ChangeShapes Go.WideShapes Go.ChangeAt Go.RowKit
open Go.Proofs.YtibpnocpafppaaaDoor.lits (okB placeI okB_iff okB_yes okB_no)
open Go.Proofs.YtibpnocpafppaaaDoor.bset (setOf placeN setOf_has setOf_lt placeC placeN_le)
open Go.Proofs.YtibpnocpafppaaaDoor.sl (hide unhide ret_int ret_bool)
set_option linter.unusedVariables false

/-- the opposites of a set -/
def oppN (S : Nat) : Nat := 2 ^ 1 * (S &&& 93824992236885) ||| (S / 2 &&& 93824992236885)
/-- the other place of a variable -/
def swp (i : Nat) : Nat := if i % 2 = 0 then i + 1 else i - 1
theorem swp_swp (i : Nat) : swp (swp i) = i := by
  unfold swp
  split <;> split <;> omega
theorem swp_lt {i : Nat} (h : i < 48) : swp i < 48 := by
  unfold swp
  split <;> omega
theorem oppN_bit (S i : Nat) : (oppN S).testBit i = (decide (i < 48) && S.testBit (swp i)) := by
  unfold oppN
  rw [Nat.testBit_or, Nat.testBit_two_pow_mul, Nat.testBit_and, Nat.testBit_and, even_bit, even_bit, Nat.testBit_div_two]
  unfold swp
  by_cases h : i % 2 = 0
  · rw [if_pos h]
    by_cases h0 : 1 ≤ i
    · rw [decide_eq_false (p := (i - 1) % 2 = 0) (by omega), decide_eq_true h]
      cases S.testBit (i + 1) <;> simp
    · rw [decide_eq_false (p := i ≥ 1) h0, decide_eq_true h]
      cases S.testBit (i + 1) <;> simp
  · rw [if_neg h, decide_eq_false h, decide_eq_true (p := (i - 1) % 2 = 0) (by omega), decide_eq_true (p := i ≥ 1) (by omega)]
    by_cases h1 : i < 48
    · rw [decide_eq_true h1, decide_eq_true (p := i - 1 < 48) (by omega)]
      simp
    · rw [decide_eq_false h1, decide_eq_false (p := i - 1 < 48) (by omega)]
      simp
theorem lt48 {S : Nat} (h : ∀ i, 48 ≤ i → S.testBit i = false) : S < 2 ^ 48 := Nat.lt_pow_two_of_testBit S h
theorem hi_bit {S i : Nat} (h : S < 2 ^ 48) (hi : 48 ≤ i) : S.testBit i = false := Nat.testBit_lt_two_pow (Nat.lt_of_lt_of_le h (Nat.pow_le_pow_right (by decide) hi))
theorem oppN_lt (S : Nat) : oppN S < 2 ^ 48 := lt48 fun i hi => by rw [oppN_bit, decide_eq_false (by omega), Bool.false_and]
/-- one set without another -/
def andN (a b : Nat) : Nat := a &&& (18446744073709551615 - b)
theorem andN_bit (a b i : Nat) (ha : a < 2 ^ 48) (hb : b < 2 ^ 48) : (andN a b).testBit i = (a.testBit i && !b.testBit i) := by
  unfold andN
  have e : 18446744073709551615 - b = 2 ^ 64 - (b + 1) := by omega
  rw [Nat.testBit_and, e, Nat.testBit_two_pow_sub_succ (by omega)]
  by_cases h : i < 64
  · rw [decide_eq_true h, Bool.true_and]
  · rw [hi_bit ha (by omega), Bool.false_and, Bool.false_and]
theorem andN_lt (a b : Nat) (ha : a < 2 ^ 48) : andN a b < 2 ^ 48 := Nat.lt_of_le_of_lt Nat.and_le_left ha
theorem andN_eq (a b : Nat) (ha : a < 2 ^ 48) (hb : b < 2 ^ 48) : bits .andNot .u64 (a : Int) (b : Int) = ((andN a b : Nat) : Int) := u64_andNot_nat a b (by omega) (by omega)
theorem and_eq (a b : Nat) (ha : a < 2 ^ 48) (hb : b < 2 ^ 48) : bits .and .u64 (a : Int) (b : Int) = ((a &&& b : Nat) : Int) := u64_and_nat a b (by omega) (by omega)
theorem orN_eq (a b : Nat) (ha : a < 2 ^ 48) (hb : b < 2 ^ 48) : bits .or .u64 (a : Int) (b : Int) = ((a ||| b : Nat) : Int) := u64_or_nat a b (by omega) (by omega)
theorem or_lt {a b : Nat} (ha : a < 2 ^ 48) (hb : b < 2 ^ 48) : a ||| b < 2 ^ 48 := Nat.or_lt_two_pow ha hb

theorem opp_eq (S : Nat) (h : S < 2 ^ 48) : bits .or .u64 (IntKind.u64.wrap (bits .and .u64 (S : Int) 93824992236885 * 2)) (bits .and .u64 ((S : Int) / 2) 93824992236885) = ((oppN S : Nat) : Int) := by
  have h1 : S &&& 93824992236885 ≤ 93824992236885 := Nat.and_le_right
  have h2 : S / 2 &&& 93824992236885 ≤ 93824992236885 := Nat.and_le_right
  rw [show ((S : Int) / 2) = ((S / 2 : Nat) : Int) from by omega, show (93824992236885 : Int) = ((93824992236885 : Nat) : Int) from rfl, u64_and_nat S _ (by omega) (by decide), u64_and_nat (S / 2) _ (by omega) (by decide)]
  have e : IntKind.u64.wrap (((S &&& 93824992236885 : Nat) : Int) * 2) = ((2 ^ 1 * (S &&& 93824992236885) : Nat) : Int) := by
    rw [IntKind.wrap_u64]
    generalize S &&& 93824992236885 = q at *
    omega
  rw [e]
  exact u64_or_nat _ _ (by omega) (by omega)
theorem opposites (S : Nat) (w : World) (h : S < 2 ^ 48) : Calls Tryd.prog 94 #[.int .u64 S] w fun e w' => e = .returned (.int .u64 (oppN S : Nat)) ∧ w' = w := by
  have E := hide (opp_eq S h)
  generalize oppN S = r at *
  go_enter Tryd.func94, Tryd.ntmps94
  go_wp2
  go_ret
  exact ⟨ret_int (unhide E), rfl⟩

theorem clash_opp (S : Nat) : (S &&& oppN S != 0) = !(okTo S 24) := by
  rw [Bool.eq_iff_iff, bne_iff_ne, Bool.not_eq_true', okTo, List.all_eq_false]
  constructor
  · intro h
    obtain ⟨i, hi⟩ := Nat.exists_testBit_of_ne_zero h
    rw [Nat.testBit_and, oppN_bit, Bool.and_eq_true, Bool.and_eq_true, decide_eq_true_iff] at hi
    obtain ⟨h1, h2, h3⟩ := hi
    unfold swp at h3
    refine ⟨i / 2, by simp; omega, ?_⟩
    by_cases hp : i % 2 = 0
    · rw [if_pos hp] at h3
      rw [show 2 * (i / 2) = i by omega, h1, h3]
      simp
    · rw [if_neg hp] at h3
      rw [show 2 * (i / 2) + 1 = i by omega, show 2 * (i / 2) = i - 1 by omega, h1, h3]
      simp
  · rintro ⟨j, hj, hb⟩ e
    have hj' : j < 24 := by simpa using hj
    have hb' : S.testBit (2 * j) = true ∧ S.testBit (2 * j + 1) = true := by simpa using hb
    have := congrArg (fun q => q.testBit (2 * j)) e
    simp only [Nat.testBit_and, oppN_bit, Nat.zero_testBit] at this
    have hs : swp (2 * j) = 2 * j + 1 := if_pos (by omega)
    rw [hs, hb'.1, hb'.2, decide_eq_true (by omega)] at this
    cases this
theorem clashes_eq (S : Nat) (h : S < 2 ^ 48) : (bits .and .u64 (S : Int) ((oppN S : Nat) : Int) != 0) = !(okTo S 24) := by
  rw [and_eq S _ h (oppN_lt S), ← clash_opp, Bool.eq_iff_iff, bne_iff_ne, bne_iff_ne]
  omega
theorem clashes (S : Nat) (w : World) (h : S < 2 ^ 48) : Calls Tryd.prog 120 #[.int .u64 S] w fun e w' => e = .returned (.bool (!(okTo S 24))) ∧ w' = w := by
  have E := hide (clashes_eq S h)
  have C := hide (opposites S w h)
  generalize oppN S = r at *
  go_enter Tryd.func120, Tryd.ntmps120
  go_wp2_with fail
  refine (unhide C).mono ?_; rintro e w2 ⟨rfl, hw⟩; have hw' := hw.symm; clear hw; subst hw'
  go_wp2_with fail
  go_ret
  exact ⟨ret_bool (unhide E), rfl⟩

/-- a set without one literal -/
def woN (S : Nat) (x : Int) : Nat := andN S (2 ^ placeN x)
theorem pow_lt48 {p : Nat} (h : p ≤ 47) : 2 ^ p < 2 ^ 48 := Nat.pow_lt_pow_right (by decide) (by omega)
theorem woN_bit (S : Nat) (x : Int) (i : Nat) (h : S < 2 ^ 48) (hx : okB x = true) : (woN S x).testBit i = (S.testBit i && !decide (placeN x = i)) := by
  unfold woN
  rw [andN_bit _ _ _ h (pow_lt48 (placeN_le hx)), Nat.testBit_two_pow]
theorem woN_lt {S : Nat} {x : Int} (h : S < 2 ^ 48) : woN S x < 2 ^ 48 := andN_lt _ _ h
theorem wrap_pow {p : Nat} (h : p ≤ 47) : IntKind.u64.wrap (2 ^ p) = ((2 ^ p : Nat) : Int) := by
  have h2 := pow_lt48 h
  rw [IntKind.wrap_u64]
  have : ((2 : Int) ^ p) = ((2 ^ p : Nat) : Int) := by simp
  rw [this]
  clear this
  generalize 2 ^ p = q at *
  omega
theorem without (S : Nat) (x : Int) (w : World) (h : S < 2 ^ 48) (hx : okB x = true) : Calls Tryd.prog 82 #[.int .u64 S, .int .i8 x] w fun e w' => e = .returned (.int .u64 (woN S x : Nat)) ∧ w' = w := by
  have C := hide (placeC x · hx)
  have hp := placeN_le hx
  have E : Hid (bits .andNot .u64 (S : Int) (IntKind.u64.wrap (2 ^ placeN x)) = ((andN S (2 ^ placeN x) : Nat) : Int)) := by
    show _ = _
    rw [wrap_pow hp]
    exact andN_eq _ _ h (pow_lt48 hp)
  unfold woN
  clear hx h
  generalize andN S (2 ^ placeN x) = r at *
  generalize placeN x = p at *
  go_enter Tryd.func82, Tryd.ntmps82
  go_wp2_with fail
  refine (unhide C _).mono ?_; rintro e w' ⟨rfl, rfl⟩
  go_wp2_with fail
  go_ret
  refine ⟨?_, rfl⟩
  exact ret_int (unhide E)

end Go.Proofs.YtibpnocpafppaaaDoor.srt
