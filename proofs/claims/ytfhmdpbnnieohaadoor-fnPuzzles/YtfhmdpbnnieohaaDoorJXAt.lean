/- Plain mathematics: the literals that are true at the assignment number j (lowest bit first), as a word of bits; a formula's clauses meet that word just where it is true. -/
import Derived.Test.YtfhmdpbnnieohaaDoorJXSu
namespace Go.Proofs.YtfhmdpbnnieohaaDoor.at_
open Go.RowKit
open lits (okB varI placeI okB_iff)
open bset (setOf placeN)
open ok (litIn clB)
open tr (litT clT cnfT)
open cnt (le ev sp le_len)
open su (meets)
def at_ : Nat → Nat → Nat
 | 0, _ => 0
 | n + 1, j => 4 * at_ n (j / 2) + (if j % 2 = 1 then 1 else 2)
theorem bit4 (c z i : Nat) (hz : z < 4) : (4 * c + z).testBit i = if i < 2 then z.testBit i else c.testBit (i - 2) := by
 have := Nat.testBit_two_pow_mul_add c (i := 2) (b := z) (by omega) i
 simpa using this
theorem at_bits (n : Nat) : ∀ j i, i < n → (at_ n j).testBit (2 * i) = decide ((le n j).getD i 0 = 1) ∧ (at_ n j).testBit (2 * i + 1) = !decide ((le n j).getD i 0 = 1) := by
 induction n with
 | zero =>
  intro j i h
  omega
 | succ n ih =>
  intro j i h
  have hz : (if j % 2 = 1 then 1 else 2) < 4 := by split <;> omega
  have ea : at_ (n + 1) j = 4 * at_ n (j / 2) + (if j % 2 = 1 then 1 else 2) := rfl
  rw [ea, bit4 _ _ _ hz, bit4 _ _ _ hz]
  cases i with
  | zero =>
   have e0 : (le (n + 1) j).getD 0 0 = ((j % 2 : Nat) : Int) := rfl
   rcases (show j % 2 = 0 ∨ j % 2 = 1 by omega) with r | r
   ·rw [r] at e0
    rw [e0, r, if_pos (show 2 * 0 < 2 by decide), if_pos (show 2 * 0 + 1 < 2 by decide)]
    exact ⟨by decide, by decide⟩
   ·rw [r] at e0
    rw [e0, r, if_pos (show 2 * 0 < 2 by decide), if_pos (show 2 * 0 + 1 < 2 by decide)]
    exact ⟨by decide, by decide⟩
  | succ i =>
   rw [if_neg (by omega), if_neg (by omega), show 2 * (i + 1) - 2 = 2 * i by omega, show 2 * (i + 1) + 1 - 2 = 2 * i + 1 by omega]
   exact ih (j / 2) i (by omega)
theorem at_lt (n j : Nat) (h : n ≤ 24) : at_ n j < 2 ^ 48 := by
 have h1 : ∀ n j, at_ n j < 4 ^ n := by
  intro n
  induction n with
  | zero => intro j; exact Nat.one_pos
  | succ n ih =>
   intro j
   have := ih (j / 2)
   simp only [at_]
   rw [Nat.pow_succ]
   split <;> omega
 have h2 : 4 ^ n ≤ 4 ^ 24 := Nat.pow_le_pow_right (by decide) h
 exact Nat.lt_of_lt_of_le (h1 n j) h2
theorem lit_at {n j : Nat} {x : Int} (h : litIn (n : Int) x = true) : litT (le n j) x = (at_ n j).testBit (placeN x) := by
 unfold ok.litIn at h
 rw [Bool.and_eq_true, decide_eq_true_iff] at h
 have a := okB_iff.1 h.1
 have hv := h.2
 rw [lits.varI_yes a] at hv
 by_cases hx : x < 0
 ·rw [if_pos hx] at hv
  obtain ⟨i, hi⟩ : ∃ i : Nat, -x = (i : Int) + 1 := ⟨(-x - 1).toNat, by omega⟩
  have hp : placeN x = 2 * i + 1 := by
   unfold bset.placeN lits.placeI
   rw [if_pos hx]
   omega
  rw [tr.litT_near (m := i) (by rw [lits.varI_yes a, if_pos hx]; exact hi) (by rw [le_len]; omega), hp, (at_bits n j i (by omega)).2, decide_eq_false (show ¬ 0 < x by omega)]
  cases decide ((le n j).getD i 0 = 1) <;> rfl
 ·rw [if_neg hx] at hv
  obtain ⟨i, hi⟩ : ∃ i : Nat, x = (i : Int) + 1 := ⟨(x - 1).toNat, by omega⟩
  have hp : placeN x = 2 * i := by
   unfold bset.placeN lits.placeI
   rw [if_neg hx]
   omega
  rw [tr.litT_near (m := i) (by rw [lits.varI_yes a, if_neg hx]; exact hi) (by rw [le_len]; omega), hp, (at_bits n j i (by omega)).1, decide_eq_true (show 0 < x by omega)]
  cases decide ((le n j).getD i 0 = 1) <;> rfl
theorem clause_at {n j : Nat} {L : List Int} (h : L.all (litIn (n : Int)) = true) : (!(setOf L &&& at_ n j == 0)) = clT (le n j) L := by
 rw [List.all_eq_true] at h
 rw [Bool.eq_iff_iff]
 unfold tr.clT
 rw [List.any_eq_true]
 constructor
 ·intro hz
  have hne : setOf L &&& at_ n j ≠ 0 := by simpa using hz
  obtain ⟨p, hp⟩ := Nat.exists_testBit_of_ne_zero hne
  rw [Nat.testBit_and, Bool.and_eq_true] at hp
  obtain ⟨h1, h2⟩ := hp
  rw [bset.setOf_bit, List.any_eq_true] at h1
  obtain ⟨y, hy, e⟩ := h1
  rw [Bool.and_eq_true, decide_eq_true_iff] at e
  refine ⟨y, hy, ?_⟩
  rw [lit_at (h y hy), e.2]
  exact h2
 ·rintro ⟨y, hy, ty⟩
  rw [lit_at (h y hy)] at ty
  have ho : okB y = true := by
   have := h y hy
   unfold ok.litIn at this
   rw [Bool.and_eq_true] at this
   exact this.1
  have hs : (setOf L).testBit (placeN y) = true := by
   rw [bset.setOf_has L y ho]
   unfold cls.hasB
   exact decide_eq_true hy
  have hne : setOf L &&& at_ n j ≠ 0 := by
   intro e
   have := Nat.testBit_and (setOf L) (at_ n j) (placeN y)
   rw [e, hs, ty, Nat.zero_testBit] at this
   cases this
  simpa using hne
theorem meets_at {n j : Nat} {LL : List (List Int)} (h : LL.all (clB (n : Int)) = true) : meets (LL.map setOf) (at_ n j) = cnfT (le n j) LL := by
 rw [List.all_eq_true] at h
 unfold su.meets tr.cnfT
 rw [List.all_map]
 rw [Bool.eq_iff_iff, List.all_eq_true, List.all_eq_true]
 have e : ∀ L ∈ LL, (!(setOf L &&& at_ n j == 0)) = clT (le n j) L := by
  intro L hL
  have := h L hL
  unfold ok.clB at this
  rw [Bool.and_eq_true] at this
  exact clause_at this.1
 constructor
 ·intro k L hL
  rw [← e L hL]
  exact k L hL
 ·intro k L hL
  have := k L hL
  rw [← e L hL] at this
  exact this
end Go.Proofs.YtfhmdpbnnieohaaDoor.at_
