/- Plain mathematics of Clash, Free and Pure: words of bits and the lists that the model makes; no condition. -/
import Derived.Test.YtfhmdpbnnieohaaDoorJPc
import Derived.Test.YtfhmdpbnnieohaaDoorJPn
namespace Go.Proofs.YtfhmdpbnnieohaaDoor.fm
open Go.RowKit
open lits (okB placeI okB_iff okB_yes okB_no)
open bset (setOf placeN setOf_has setOf_lt setOf_bit placeN_le)
open cls (hasB)
open srt (oppN oppN_bit oppN_lt swp andN andN_bit andN_lt srt srt_yes srt_no srt_skip litI litI_even litI_odd hi_bit or_lt)
open cnt (ev)
set_option linter.unusedVariables false
theorem bit4 (c z i : Nat) (hz : z < 4) : (4 * c + z).testBit i = if i < 2 then z.testBit i else c.testBit (i - 2) := by
 have := Nat.testBit_two_pow_mul_add c (i := 2) (b := z) (by omega) i
 simpa using this
theorem ev_bit (n : Nat) : ∀ i, (ev n).testBit i = (decide (i < 2 * n) && decide (i % 2 = 0)) := by
 induction n with
 | zero =>
  intro i
  show (0 : Nat).testBit i = _
  rw [Nat.zero_testBit, decide_eq_false (by omega), Bool.false_and]
 | succ n ih =>
  intro i
  show (4 * ev n + 1).testBit i = _
  rw [bit4 _ _ _ (by decide)]
  by_cases h : i < 2
  ·rw [if_pos h, decide_eq_true (p := i < 2 * (n + 1)) (by omega)]
   rcases (show i = 0 ∨ i = 1 by omega) with rfl | rfl <;> decide
  ·rw [if_neg h, ih]
   congr 1
   ·exact decide_eq_decide.2 (by omega)
   ·exact decide_eq_decide.2 (by omega)
theorem ev_lt48 (n : Nat) (h : n ≤ 24) : ev n < 2 ^ 48 := cnt.ev_lt n 48 (by omega)
def freeN (m : Nat) (L : List Int) : Nat := andN (ev m) (setOf L ||| oppN (setOf L))
theorem freeN_lt {m : Nat} (L : List Int) (h : m ≤ 24) : freeN m L < 2 ^ 48 := andN_lt _ _ (ev_lt48 m h)
theorem freeN_bit (m : Nat) (L : List Int) (i : Nat) (h : m ≤ 24) : (freeN m L).testBit i = (decide (i < 2 * m) && decide (i % 2 = 0) && !((setOf L).testBit i || (setOf L).testBit (swp i))) := by
 unfold freeN
 rw [andN_bit _ _ _ (ev_lt48 m h) (or_lt (setOf_lt L) (oppN_lt _)), ev_bit, Nat.testBit_or, oppN_bit]
 by_cases hi : i < 48
 ·rw [decide_eq_true hi, Bool.true_and]
 ·rw [decide_eq_false (p := i < 2 * m) (by omega)]
  simp
theorem setOf_append (A B : List Int) : setOf (A ++ B) = setOf A ||| setOf B := by
 apply Nat.eq_of_testBit_eq
 intro i
 rw [Nat.testBit_or, setOf_bit, setOf_bit, setOf_bit, List.any_append]
theorem set_hi {m : Nat} {L : List Int} (h : ∀ x ∈ L, ok.litIn (m : Int) x = true) (i : Nat) (hi : 2 * m ≤ i) : (setOf L).testBit i = false := by
 rw [setOf_bit, List.any_eq_false]
 intro x hx e
 rw [Bool.and_eq_true, decide_eq_true_iff] at e
 have k := h x hx
 unfold ok.litIn at k
 rw [Bool.and_eq_true, decide_eq_true_iff] at k
 have a := okB_iff.1 k.1
 have v := k.2
 rw [lits.varI_yes a] at v
 have p := e.2
 unfold bset.placeN lits.placeI at p
 split at p <;> split at v <;> omega
def freeL (n : Int) (LL : List (List Int)) (L : List Int) : List Int := if ok.cnfB n LL then srt (freeN n.toNat L) 48 else []
theorem cnf_facts {n : Int} {LL : List (List Int)} (h : ok.cnfB n LL = true) : 0 ≤ n ∧ n ≤ 24 ∧ LL.length ≤ 120 ∧ ∀ L ∈ LL, L.length ≤ 48 ∧ ∀ x ∈ L, ok.litIn n x = true := by
 unfold ok.cnfB at h
 simp only [Bool.and_eq_true, decide_eq_true_iff, List.all_eq_true] at h
 refine ⟨h.1.1.1, h.1.1.2, h.1.2, fun L hL => ?_⟩
 have k := h.2 L hL
 unfold ok.clB at k
 simp only [Bool.and_eq_true, decide_eq_true_iff, List.all_eq_true] at k
 exact ⟨k.2, k.1⟩
theorem flat_len {LL : List (List Int)} (h : ∀ L ∈ LL, L.length ≤ 48) : LL.flatten.length ≤ 48 * LL.length := by
 induction LL with
 | nil => simp
 | cons L l ih =>
  have h1 := h L (by simp)
  have h2 := ih (fun M hM => h M (by simp [hM]))
  rw [List.flatten_cons, List.length_append, List.length_cons]
  omega
end Go.Proofs.YtfhmdpbnnieohaaDoor.fm
