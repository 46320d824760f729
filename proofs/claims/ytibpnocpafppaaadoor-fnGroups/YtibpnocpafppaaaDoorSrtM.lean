/- Plain mathematics: the literals of a set of bits in order, its lowest bit, and whether a variable has both its literals; no condition. -/
import Derived.Test.YtibpnocpafppaaaDoorSet
import Derived.Lib.TrailingZeros
namespace Go.Proofs.YtibpnocpafppaaaDoor.srt
open Go.RowKit
open Go.Proofs.YtibpnocpafppaaaDoor.lits (okB placeI okB_iff okB_yes okB_no)
open Go.Proofs.YtibpnocpafppaaaDoor.bset (setOf placeN setOf_has)
open Go.Proofs.YtibpnocpafppaaaDoor.cls (hasB okAll)

/-- the literal at a place -/
def litI (p : Nat) : Int := if p % 2 = 1 then -((p / 2 : Nat) + 1 : Int) else ((p / 2 : Nat) + 1 : Int)
/-- the literals of a set at the places below j, in order -/
def srt (S j : Nat) : List Int := ((List.range j).filter fun i => S.testBit i).map litI
theorem srt_zero (S : Nat) : srt S 0 = [] := rfl
theorem srt_yes {S j : Nat} (h : S.testBit j = true) : srt S (j + 1) = srt S j ++ [litI j] := by
  unfold srt
  rw [List.range_succ, List.filter_append, List.map_append]
  simp [h]
theorem srt_no {S j : Nat} (h : S.testBit j = false) : srt S (j + 1) = srt S j := by
  unfold srt
  rw [List.range_succ, List.filter_append, List.map_append]
  simp [h]
theorem srt_skip {S p t : Nat} (hpt : p ≤ t) (h : ∀ i, p ≤ i → i < t → S.testBit i = false) : srt S t = srt S p := by
  obtain ⟨d, rfl⟩ := Nat.exists_eq_add_of_le hpt
  clear hpt
  induction d with
  | zero => rfl
  | succ d ih =>
    rw [← Nat.add_assoc, srt_no (h (p + d) (by omega) (by omega))]
    exact ih (fun i h1 h2 => h i h1 (by omega))
theorem srt_len (S j : Nat) : (srt S j).length ≤ j := by
  unfold srt
  rw [List.length_map]
  exact Nat.le_trans (List.length_filter_le _ _) (by simp)

/-- no variable below k has both its literals -/
def okTo (S k : Nat) : Bool := (List.range k).all fun j => !(S.testBit (2 * j) && S.testBit (2 * j + 1))
theorem okTo_succ (S k : Nat) : okTo S (k + 1) = (okTo S k && !(S.testBit (2 * k) && S.testBit (2 * k + 1))) := by
  unfold okTo
  rw [List.range_succ, List.all_append]
  simp

/-- the lowest bit -/
theorem low {s : Nat} (h0 : 0 < s) (h : s < 2 ^ 48) : ∃ t m, t = Lib.ctz 64 s ∧ t < 48 ∧ s = 2 ^ (t + 1) * m + 2 ^ t := by
  have h64 : s < 2 ^ 64 := Nat.lt_of_lt_of_le h (by decide)
  obtain ⟨m, e, ht⟩ := Lib.ctzFrom_spec 64 s h0 h64
  have ec : Lib.ctz 64 s = Lib.ctzFrom 64 s := if_neg (by omega)
  refine ⟨Lib.ctz 64 s, m, rfl, ?_, ?_⟩
  · rw [ec]
    rcases Nat.lt_or_ge (Lib.ctzFrom 64 s) 48 with k | k
    · exact k
    · exfalso
      have h1 : 2 ^ 48 ≤ 2 ^ Lib.ctzFrom 64 s := Nat.pow_le_pow_right (by decide) k
      have h2 : 2 ^ Lib.ctzFrom 64 s * 1 ≤ 2 ^ Lib.ctzFrom 64 s * (2 * m + 1) := Nat.mul_le_mul_left _ (by omega)
      rw [← e] at h2
      omega
  · rw [ec]
    conv => lhs; rw [e]
    rw [Nat.mul_add, Nat.pow_succ, Nat.mul_one, Nat.mul_assoc]
theorem low_bit {t m : Nat} (i : Nat) : (2 ^ (t + 1) * m + 2 ^ t).testBit i = if i < t + 1 then decide (t = i) else m.testBit (i - (t + 1)) := by
  rw [Nat.testBit_two_pow_mul_add _ (Nat.pow_lt_pow_right (by decide) (Nat.lt_succ_self t)), Nat.testBit_two_pow]
theorem pred_bit {t m : Nat} (i : Nat) : (2 ^ (t + 1) * m + 2 ^ t - 1).testBit i = if i < t + 1 then decide (i < t) else m.testBit (i - (t + 1)) := by
  have h1 : 0 < 2 ^ t := Nat.two_pow_pos t
  have h2 : 2 ^ t < 2 ^ (t + 1) := Nat.pow_lt_pow_right (by decide) (Nat.lt_succ_self t)
  rw [Nat.add_sub_assoc h1, Nat.testBit_two_pow_mul_add _ (by omega), Nat.testBit_two_pow_sub_one]
/-- what is left without the lowest bit -/
theorem next_bit {s t m : Nat} (e : s = 2 ^ (t + 1) * m + 2 ^ t) (i : Nat) : (s &&& (s - 1)).testBit i = (s.testBit i && decide (t + 1 ≤ i)) := by
  rw [Nat.testBit_and, e, low_bit, pred_bit]
  by_cases h : i < t + 1
  · rw [if_pos h, if_pos h]
    rw [decide_eq_false (p := t + 1 ≤ i) (by omega)]
    by_cases k : t = i
    · rw [decide_eq_false (p := i < t) (by omega), Bool.and_false]
    · simp [k]
  · rw [if_neg h, if_neg h, decide_eq_true (p := t + 1 ≤ i) (by omega)]
    simp
theorem next_lt {s : Nat} (h : 0 < s) : s &&& (s - 1) < s := Nat.lt_of_le_of_lt Nat.and_le_right (by omega)

/-- the word that has every even place below 48 -/
theorem even_bit (i : Nat) : (93824992236885 : Nat).testBit i = (decide (i < 48) && decide (i % 2 = 0)) := by
  by_cases h : i < 48
  · rw [decide_eq_true h, Bool.true_and]
    have : ∀ j, j < 48 → (93824992236885 : Nat).testBit j = decide (j % 2 = 0) := by decide
    exact this i h
  · rw [decide_eq_false h, Bool.false_and]
    exact Nat.testBit_lt_two_pow (Nat.lt_of_lt_of_le (by decide : 93824992236885 < 2 ^ 48) (Nat.pow_le_pow_right (by decide) (by omega)))
theorem clash_bit (S i : Nat) : (S &&& (S / 2) &&& 93824992236885).testBit i = (S.testBit i && S.testBit (i + 1) && (decide (i < 48) && decide (i % 2 = 0))) := by
  rw [Nat.testBit_and, Nat.testBit_and, even_bit, Nat.testBit_div_two]
theorem clash_eq (S : Nat) : (S &&& (S / 2) &&& 93824992236885 != 0) = !(okTo S 24) := by
  rw [Bool.eq_iff_iff]
  constructor
  · intro h
    rw [bne_iff_ne] at h
    rw [Bool.not_eq_true', okTo, List.all_eq_false]
    apply Classical.byContradiction
    intro k
    apply h
    apply Nat.eq_of_testBit_eq
    intro i
    rw [clash_bit, Nat.zero_testBit]
    by_cases h1 : i < 48 ∧ i % 2 = 0
    · have h2 := fun hc => k ⟨i / 2, by simp; omega, hc⟩
      rw [show 2 * (i / 2) = i from by omega] at h2
      cases hb : S.testBit i && S.testBit (i + 1)
      · rfl
      · exact absurd (by simp [hb]) h2
    · by_cases h3 : i < 48
      · rw [decide_eq_false (p := i % 2 = 0) (fun h4 => h1 ⟨h3, h4⟩)]
        simp
      · rw [decide_eq_false h3]
        simp
  · intro h
    rw [Bool.not_eq_true', okTo, List.all_eq_false] at h
    obtain ⟨j, hj, hb⟩ := h
    rw [List.mem_range] at hj
    rw [bne_iff_ne]
    intro e
    have h1 := clash_bit S (2 * j)
    rw [e, Nat.zero_testBit] at h1
    rw [decide_eq_true (p := 2 * j < 48) (by omega), decide_eq_true (p := 2 * j % 2 = 0) (by omega)] at h1
    simp only [Bool.not_eq_true', Bool.not_eq_false] at hb
    rw [hb] at h1
    cases h1

theorem place_pos (k : Nat) (h : k < 24) : okB ((k : Int) + 1) = true ∧ placeN ((k : Int) + 1) = 2 * k := by
  refine ⟨okB_yes ⟨by omega, by omega, by omega⟩, ?_⟩
  unfold placeN placeI
  rw [if_neg (by omega)]
  omega
theorem place_neg (k : Nat) (h : k < 24) : okB (-((k : Int) + 1)) = true ∧ placeN (-((k : Int) + 1)) = 2 * k + 1 := by
  refine ⟨okB_yes ⟨by omega, by omega, by omega⟩, ?_⟩
  unfold placeN placeI
  rw [if_pos (by omega)]
  omega
theorem has_pos (L : List Int) (k : Nat) (h : k < 24) : hasB L ((k : Int) + 1) = (setOf L).testBit (2 * k) := by
  rw [← setOf_has L _ (place_pos k h).1, (place_pos k h).2]
theorem has_neg (L : List Int) (k : Nat) (h : k < 24) : hasB L (-((k : Int) + 1)) = (setOf L).testBit (2 * k + 1) := by
  rw [← setOf_has L _ (place_neg k h).1, (place_neg k h).2]
theorem litI_even (k : Nat) : litI (2 * k) = (k : Int) + 1 := by
  unfold litI
  rw [if_neg (by omega), show 2 * k / 2 = k from by omega]
theorem litI_odd (k : Nat) : litI (2 * k + 1) = -((k : Int) + 1) := by
  unfold litI
  rw [if_pos (by omega), show (2 * k + 1) / 2 = k from by omega]
theorem litI_bd (p : Nat) (h : p < 48) : -24 ≤ litI p ∧ litI p ≤ 24 := by
  unfold litI
  split <;> omega

/-- ClauseSort, as a plain function -/
def sortL (L : List Int) : List Int := if okAll L then srt (setOf L) 48 else []
def sortB (L : List Int) : Bool := okAll L && okTo (setOf L) 24
end Go.Proofs.YtibpnocpafppaaaDoor.srt
