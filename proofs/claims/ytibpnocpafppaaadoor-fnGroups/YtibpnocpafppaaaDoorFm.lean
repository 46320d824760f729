/- Plain mathematics of Clash, Free and Pure: words of bits and the lists that the model makes; no condition. -/
import Derived.Test.YtibpnocpafppaaaDoorOp
import Derived.Test.YtibpnocpafppaaaDoorCnt
namespace Go.Proofs.YtibpnocpafppaaaDoor.fm
open Go.RowKit
open Go.Proofs.YtibpnocpafppaaaDoor.lits (okB placeI okB_iff okB_yes okB_no)
open Go.Proofs.YtibpnocpafppaaaDoor.bset (setOf placeN setOf_has setOf_lt setOf_bit placeN_le)
open Go.Proofs.YtibpnocpafppaaaDoor.cls (hasB)
open Go.Proofs.YtibpnocpafppaaaDoor.srt (oppN oppN_bit oppN_lt swp andN andN_bit andN_lt srt srt_yes srt_no srt_skip litI litI_even litI_odd okTo has_pos has_neg hi_bit or_lt)
open Go.Proofs.YtibpnocpafppaaaDoor.cnt (ev)
set_option linter.unusedVariables false

/-- whether a list has both literals of a variable -/
def clashB (L : List Int) : Bool := L.any fun x => okB x && hasB L (-x)
theorem clash_iff (L : List Int) : clashB L = !(okTo (setOf L) 24) := by
  rw [Bool.eq_iff_iff, clashB, List.any_eq_true, Bool.not_eq_true', okTo, List.all_eq_false]
  constructor
  · rintro ⟨x, hx, h⟩
    rw [Bool.and_eq_true] at h
    have a := okB_iff.1 h.1
    have hx' : hasB L x = true := decide_eq_true hx
    by_cases hp : 0 < x
    · obtain ⟨k, rfl⟩ : ∃ k : Nat, x = (k : Int) + 1 := ⟨(x - 1).toNat, by omega⟩
      have hk : k < 24 := by omega
      refine ⟨k, by simpa using hk, ?_⟩
      rw [← has_pos L k hk, ← has_neg L k hk, hx', h.2]
      simp
    · obtain ⟨k, rfl⟩ : ∃ k : Nat, x = -((k : Int) + 1) := ⟨(-x - 1).toNat, by omega⟩
      have hk : k < 24 := by omega
      have h2 := h.2
      rw [Int.neg_neg] at h2
      refine ⟨k, by simpa using hk, ?_⟩
      rw [← has_pos L k hk, ← has_neg L k hk, hx', h2]
      simp
  · rintro ⟨k, hk, h⟩
    have hk' : k < 24 := by simpa using hk
    rw [← has_pos L k hk', ← has_neg L k hk'] at h
    have h' : hasB L ((k : Int) + 1) = true ∧ hasB L (-((k : Int) + 1)) = true := by simpa using h
    refine ⟨(k : Int) + 1, of_decide_eq_true h'.1, ?_⟩
    rw [h'.2, (srt.place_pos k hk').1]
    rfl

theorem bit4 (c z i : Nat) (hz : z < 4) : (4 * c + z).testBit i = if i < 2 then z.testBit i else c.testBit (i - 2) := by
  have := Nat.testBit_two_pow_mul_add c (i := 2) (b := z) (by omega) i
  simpa using this
theorem ev_bit (n : Nat) : ∀ i, (ev n).testBit i = (decide (i < 2 * n) && decide (i % 2 = 0)) := by
  induction n with
  | zero =>
    intro i
    show (0 : Nat).testBit i = _
    rw [Nat.zero_testBit, decide_eq_false (by omega), Bool.false_and]
  | succ n ih =>
    intro i
    show (4 * ev n + 1).testBit i = _
    rw [bit4 _ _ _ (by decide)]
    by_cases h : i < 2
    · rw [if_pos h, decide_eq_true (p := i < 2 * (n + 1)) (by omega)]
      rcases (show i = 0 ∨ i = 1 by omega) with rfl | rfl <;> decide
    · rw [if_neg h, ih]
      congr 1
      · exact decide_eq_decide.2 (by omega)
      · exact decide_eq_decide.2 (by omega)
theorem ev_lt48 (n : Nat) (h : n ≤ 24) : ev n < 2 ^ 48 := cnt.ev_lt n 48 (by omega)

/-- the free variables, as a word -/
def freeN (m : Nat) (L : List Int) : Nat := andN (ev m) (setOf L ||| oppN (setOf L))
theorem freeN_lt {m : Nat} (L : List Int) (h : m ≤ 24) : freeN m L < 2 ^ 48 := andN_lt _ _ (ev_lt48 m h)
theorem freeN_bit (m : Nat) (L : List Int) (i : Nat) (h : m ≤ 24) : (freeN m L).testBit i = (decide (i < 2 * m) && decide (i % 2 = 0) && !((setOf L).testBit i || (setOf L).testBit (swp i))) := by
  unfold freeN
  rw [andN_bit _ _ _ (ev_lt48 m h) (or_lt (setOf_lt L) (oppN_lt _)), ev_bit, Nat.testBit_or, oppN_bit]
  by_cases hi : i < 48
  · rw [decide_eq_true hi, Bool.true_and]
  · rw [decide_eq_false (p := i < 2 * m) (by omega)]
    simp
theorem free_even {m k : Nat} (L : List Int) (h : m ≤ 24) (hk : k < m) : (freeN m L).testBit (2 * k) = (!hasB L ((k : Int) + 1) && !hasB L (-((k : Int) + 1))) := by
  rw [freeN_bit m L _ h, decide_eq_true (by omega), decide_eq_true (by omega), has_pos L k (by omega), has_neg L k (by omega), show swp (2 * k) = 2 * k + 1 from if_pos (by omega)]
  cases (setOf L).testBit (2 * k) <;> cases (setOf L).testBit (2 * k + 1) <;> rfl
theorem free_odd {m k : Nat} (L : List Int) (h : m ≤ 24) : (freeN m L).testBit (2 * k + 1) = false := by
  rw [freeN_bit m L _ h, decide_eq_false (p := (2 * k + 1) % 2 = 0) (by omega)]
  simp
theorem free_yes {m k : Nat} {L : List Int} (h : m ≤ 24) (hk : k < m) (ha : hasB L ((k : Int) + 1) = false) (hb : hasB L (-((k : Int) + 1)) = false) : srt (freeN m L) (2 * (k + 1)) = srt (freeN m L) (2 * k) ++ [(k : Int) + 1] := by
  rw [show 2 * (k + 1) = 2 * k + 1 + 1 by omega, srt_no (free_odd L h), srt_yes (by rw [free_even L h hk, ha, hb]; rfl), litI_even]
theorem free_no {m k : Nat} {L : List Int} (h : m ≤ 24) (hk : k < m) (ha : hasB L ((k : Int) + 1) = true ∨ hasB L (-((k : Int) + 1)) = true) : srt (freeN m L) (2 * (k + 1)) = srt (freeN m L) (2 * k) := by
  rw [show 2 * (k + 1) = 2 * k + 1 + 1 by omega, srt_no (free_odd L h), srt_no (by
    rw [free_even L h hk]
    rcases ha with e | e <;> rw [e] <;> simp)]
theorem free_end {m : Nat} (L : List Int) (h : m ≤ 24) : srt (freeN m L) 48 = srt (freeN m L) (2 * m) := srt_skip (by omega) fun i h1 h2 => by
  rw [freeN_bit m L i h, decide_eq_false (by omega), Bool.false_and, Bool.false_and]

/-- what some clause has and none has the opposite of, as a word -/
def pureN (L : List Int) : Nat := andN (setOf L) (oppN (setOf L))
theorem pureN_lt (L : List Int) : pureN L < 2 ^ 48 := andN_lt _ _ (setOf_lt L)
theorem pureN_bit (L : List Int) (i : Nat) : (pureN L).testBit i = ((setOf L).testBit i && !(setOf L).testBit (swp i)) := by
  unfold pureN
  rw [andN_bit _ _ _ (setOf_lt L) (oppN_lt _), oppN_bit]
  by_cases hi : i < 48
  · rw [decide_eq_true hi, Bool.true_and]
  · rw [hi_bit (setOf_lt L) (by omega), Bool.false_and, Bool.false_and]
theorem pure_even {k : Nat} (L : List Int) (hk : k < 24) : (pureN L).testBit (2 * k) = (hasB L ((k : Int) + 1) && !hasB L (-((k : Int) + 1))) := by
  rw [pureN_bit, has_pos L k hk, has_neg L k hk, show swp (2 * k) = 2 * k + 1 from if_pos (by omega)]
theorem pure_odd {k : Nat} (L : List Int) (hk : k < 24) : (pureN L).testBit (2 * k + 1) = (hasB L (-((k : Int) + 1)) && !hasB L ((k : Int) + 1)) := by
  rw [pureN_bit, has_pos L k hk, has_neg L k hk, show swp (2 * k + 1) = 2 * k from if_neg (by omega)]
theorem pure_pos {k : Nat} {L : List Int} (hk : k < 24) (ha : hasB L ((k : Int) + 1) = true) (hb : hasB L (-((k : Int) + 1)) = false) : srt (pureN L) (2 * (k + 1)) = srt (pureN L) (2 * k) ++ [(k : Int) + 1] := by
  rw [show 2 * (k + 1) = 2 * k + 1 + 1 by omega, srt_no (by rw [pure_odd L hk, ha, hb]; rfl), srt_yes (by rw [pure_even L hk, ha, hb]; rfl), litI_even]
theorem pure_neg {k : Nat} {L : List Int} (hk : k < 24) (ha : hasB L ((k : Int) + 1) = false) (hb : hasB L (-((k : Int) + 1)) = true) : srt (pureN L) (2 * (k + 1)) = srt (pureN L) (2 * k) ++ [-((k : Int) + 1)] := by
  rw [show 2 * (k + 1) = 2 * k + 1 + 1 by omega, srt_yes (by rw [pure_odd L hk, ha, hb]; rfl), srt_no (by rw [pure_even L hk, ha, hb]; rfl), litI_odd]
theorem pure_no {k : Nat} {L : List Int} (hk : k < 24) (ha : hasB L ((k : Int) + 1) = hasB L (-((k : Int) + 1))) : srt (pureN L) (2 * (k + 1)) = srt (pureN L) (2 * k) := by
  rw [show 2 * (k + 1) = 2 * k + 1 + 1 by omega, srt_no (by rw [pure_odd L hk, ha]; cases hasB L (-((k : Int) + 1)) <;> rfl), srt_no (by rw [pure_even L hk, ha]; cases hasB L (-((k : Int) + 1)) <;> rfl)]
theorem setOf_append (A B : List Int) : setOf (A ++ B) = setOf A ||| setOf B := by
  apply Nat.eq_of_testBit_eq
  intro i
  rw [Nat.testBit_or, setOf_bit, setOf_bit, setOf_bit, List.any_append]
/-- all words in one -/
def orAll (S : List Nat) : Nat := S.foldl (· ||| ·) 0
theorem orAll_snoc (S : List Nat) (x : Nat) : orAll (S ++ [x]) = orAll S ||| x := by unfold orAll; rw [List.foldl_append]; rfl
theorem orAll_lt (S : List Nat) (h : ∀ s ∈ S, s < 2 ^ 48) : orAll S < 2 ^ 48 := by
  unfold orAll
  suffices H : ∀ (S : List Nat) (a : Nat), a < 2 ^ 48 → (∀ s ∈ S, s < 2 ^ 48) → S.foldl (· ||| ·) a < 2 ^ 48 from H S 0 (by decide) h
  intro S
  induction S with
  | nil => intro a ha _; exact ha
  | cons x l ih => intro a ha hs; exact ih _ (or_lt ha (hs x (by simp))) (fun s hm => hs s (by simp [hm]))
theorem orAll_flat (LL : List (List Int)) : orAll (LL.map setOf) = setOf LL.flatten := by
  unfold orAll
  suffices H : ∀ (LL : List (List Int)) (A : List Int), (LL.map setOf).foldl (· ||| ·) (setOf A) = setOf (A ++ LL.flatten) by
    have := H LL []
    simpa [setOf] using this
  intro LL
  induction LL with
  | nil => intro A; simp
  | cons L l ih =>
    intro A
    rw [List.map_cons, List.foldl_cons, ← setOf_append, ih, List.flatten_cons, List.append_assoc]
/-- a word whose literals' variables are at most m has no bit behind them -/
theorem set_hi {m : Nat} {L : List Int} (h : ∀ x ∈ L, ok.litIn (m : Int) x = true) (i : Nat) (hi : 2 * m ≤ i) : (setOf L).testBit i = false := by
  rw [setOf_bit, List.any_eq_false]
  intro x hx e
  rw [Bool.and_eq_true, decide_eq_true_iff] at e
  have k := h x hx
  unfold ok.litIn at k
  rw [Bool.and_eq_true, decide_eq_true_iff] at k
  have a := okB_iff.1 k.1
  have v := k.2
  rw [lits.varI_yes a] at v
  have p := e.2
  unfold bset.placeN lits.placeI at p
  split at p <;> split at v <;> omega
theorem pure_end {m : Nat} {L : List Int} (hm : m ≤ 24) (h : ∀ x ∈ L, ok.litIn (m : Int) x = true) : srt (pureN L) 48 = srt (pureN L) (2 * m) := srt_skip (by omega) fun i h1 h2 => by
  rw [pureN_bit, set_hi h i h1, Bool.false_and]
/-- what Free and Pure answer -/
def freeL (n : Int) (LL : List (List Int)) (L : List Int) : List Int := if ok.cnfB n LL then srt (freeN n.toNat L) 48 else []
def pureL (n : Int) (LL : List (List Int)) : List Int := if ok.cnfB n LL then srt (pureN LL.flatten) 48 else []
theorem freeL_len (n : Int) (LL : List (List Int)) (L : List Int) : (freeL n LL L).length ≤ 48 := by
  unfold freeL
  split
  · exact srt.srt_len _ _
  · exact Nat.zero_le _
theorem pureL_len (n : Int) (LL : List (List Int)) : (pureL n LL).length ≤ 48 := by
  unfold pureL
  split
  · exact srt.srt_len _ _
  · exact Nat.zero_le _
theorem cnf_facts {n : Int} {LL : List (List Int)} (h : ok.cnfB n LL = true) : 0 ≤ n ∧ n ≤ 24 ∧ LL.length ≤ 120 ∧ ∀ L ∈ LL, L.length ≤ 48 ∧ ∀ x ∈ L, ok.litIn n x = true := by
  unfold ok.cnfB at h
  simp only [Bool.and_eq_true, decide_eq_true_iff, List.all_eq_true] at h
  refine ⟨h.1.1.1, h.1.1.2, h.1.2, fun L hL => ?_⟩
  have k := h.2 L hL
  unfold ok.clB at k
  simp only [Bool.and_eq_true, decide_eq_true_iff, List.all_eq_true] at k
  exact ⟨k.2, k.1⟩
theorem flat_len {LL : List (List Int)} (h : ∀ L ∈ LL, L.length ≤ 48) : LL.flatten.length ≤ 48 * LL.length := by
  induction LL with
  | nil => simp
  | cons L l ih =>
    have h1 := h L (by simp)
    have h2 := ih (fun M hM => h M (by simp [hM]))
    rw [List.flatten_cons, List.length_append, List.length_cons]
    omega
end Go.Proofs.YtibpnocpafppaaaDoor.fm
