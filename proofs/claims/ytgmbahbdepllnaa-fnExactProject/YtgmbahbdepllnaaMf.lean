/- Plain mathematics of taking a literal to be true: where the formula that is left is true, and how often; no condition but that the literal is one. -/
import Derived.Test.YtgmbahbdepllnaaFz
import Derived.Test.YtgmbahbdepllnaaCt
namespace Go.Proofs.Ytgmbahbdepllnaa.mf
open Go.RowKit
open Go.Proofs.Ytgmbahbdepllnaa.lits (okB varI okB_iff)
open Go.Proofs.Ytgmbahbdepllnaa.tr (litT clT cnfT assignB trueB bitB)
open Go.Proofs.Ytgmbahbdepllnaa.ok (cnfB clB litIn)
open Go.Proofs.Ytgmbahbdepllnaa.cls (hasB)
open Go.Proofs.Ytgmbahbdepllnaa.wo (woL)
open Go.Proofs.Ytgmbahbdepllnaa.fx (fixL fixB)
open Go.Proofs.Ytgmbahbdepllnaa.cnt (C cntR asg)

/-- the value of a literal that is taken to be true -/
def sg (x : Int) : Int := if 0 < x then 1 else 0
theorem sg_neg {x : Int} (h : x ≠ 0) : sg (-x) = 1 - sg x := by
  unfold sg
  split <;> split <;> omega
/-- the place of a literal's variable -/
def pl (x : Int) : Nat := (varI x - 1).toNat
theorem var_pl {x : Int} (h : okB x = true) : varI x = (pl x : Int) + 1 ∧ varI (-x) = (pl x : Int) + 1 := by
  have a := okB_iff.1 h
  unfold pl
  rw [lits.varI_yes a, lits.varI_yes (x := -x) ⟨by omega, by omega, by omega⟩]
  split <;> split <;> omega
theorem pl_neg {x : Int} (h : okB x = true) : pl (-x) = pl x := by
  have := var_pl h
  unfold pl at *
  omega
/-- a literal at the assignment where its variable is set so -/
theorem lit_set {A : List Int} {x y : Int} (hx : okB x = true) (hl : pl x < A.length) : litT (A.set (pl x) (sg x)) y = if y = x then true else if y = -x then false else litT A y := by
  have hv := var_pl hx
  have h0 := (okB_iff.1 hx).1
  have hs : ∀ (B : List Int), pl x < B.length → (B.set (pl x) (sg x)).getD (pl x) 0 = sg x := fun B hB => by simp [hB]
  have hl' : pl x < (A.set (pl x) (sg x)).length := by rw [List.length_set]; exact hl
  by_cases e1 : y = x
  · subst e1
    rw [if_pos rfl, tr.litT_near hv.1 hl', hs A hl]
    unfold sg
    split <;> rename_i h <;> simp [h]
  · rw [if_neg e1]
    by_cases e2 : y = -x
    · subst e2
      rw [if_pos rfl, tr.litT_near hv.2 hl', hs A hl]
      unfold sg
      split
      · rename_i h
        rw [decide_eq_false (show ¬ 0 < -x by omega)]
        rfl
      · rename_i h
        rw [decide_eq_true (show 0 < -x by omega)]
        rfl
    · rw [if_neg e2]
      by_cases ho : okB y = true
      · have hy := var_pl ho
        have hne : pl y ≠ pl x := by
          intro e
          have a := okB_iff.1 ho
          have b := okB_iff.1 hx
          have h1 := hy.1
          have h2 := hv.1
          rw [lits.varI_yes a] at h1
          rw [lits.varI_yes b] at h2
          split at h1 <;> split at h2 <;> omega
        by_cases hm : pl y < A.length
        · rw [tr.litT_near hy.1 hm, tr.litT_near hy.1 (by rw [List.length_set]; exact hm)]
          have : (A.set (pl x) (sg x)).getD (pl y) 0 = A.getD (pl y) 0 := by
            simp [hne.symm]
          rw [this]
        · rw [tr.litT_far hy.1 hm, tr.litT_far hy.1 (by rw [List.length_set]; exact hm)]
      · have : varI y = 0 := lits.varI_no (fun h => ho (okB_iff.2 h))
        rw [tr.litT_no this, tr.litT_no this]
theorem cl_set {A L : List Int} {x : Int} (hx : okB x = true) (hl : pl x < A.length) : clT (A.set (pl x) (sg x)) L = (hasB L x || clT A (woL L (-x))) := by
  have h0 := (okB_iff.1 hx).1
  unfold tr.clT cls.hasB wo.woL
  rw [Bool.eq_iff_iff, Bool.or_eq_true, decide_eq_true_iff, List.any_eq_true, List.any_eq_true]
  constructor
  · rintro ⟨y, hy, ty⟩
    rw [lit_set hx hl] at ty
    by_cases e1 : y = x
    · exact .inl (e1 ▸ hy)
    · rw [if_neg e1] at ty
      by_cases e2 : y = -x
      · rw [if_pos e2] at ty
        cases ty
      · rw [if_neg e2] at ty
        exact .inr ⟨y, by rw [List.mem_filter]; exact ⟨hy, by simp [e2]⟩, ty⟩
  · rintro (h | ⟨y, hy, ty⟩)
    · exact ⟨x, h, by rw [lit_set hx hl, if_pos rfl]⟩
    · rw [List.mem_filter] at hy
      have e2 : y ≠ -x := by simpa using hy.2
      refine ⟨y, hy.1, ?_⟩
      rw [lit_set hx hl]
      by_cases e1 : y = x
      · rw [if_pos e1]
      · rw [if_neg e1, if_neg e2]
        exact ty
/-- what is left is true just where the formula is with the literal -/
theorem cnf_set {A : List Int} {LL : List (List Int)} {x : Int} (hx : okB x = true) (hl : pl x < A.length) : cnfT A (fixL x LL) = cnfT (A.set (pl x) (sg x)) LL := by
  unfold tr.cnfT fx.fixL
  rw [Bool.eq_iff_iff, List.all_eq_true, List.all_eq_true]
  constructor
  · intro h L hL
    rw [cl_set hx hl]
    cases e : hasB L x
    · rw [Bool.false_or]
      exact h _ (List.mem_map.2 ⟨L, List.mem_filter.2 ⟨hL, by rw [e]; rfl⟩, rfl⟩)
    · rfl
  · intro h K hK
    obtain ⟨L, hL, rfl⟩ := List.mem_map.1 hK
    rw [List.mem_filter] at hL
    have := h L hL.1
    rw [cl_set hx hl] at this
    have e : hasB L x = false := by simpa using hL.2
    rw [e, Bool.false_or] at this
    exact this
theorem cnfB_fix {n x : Int} {LL : List (List Int)} (h : cnfB n LL = true) : cnfB n (fixL x LL) = true := by
  unfold ok.cnfB at *
  simp only [Bool.and_eq_true, decide_eq_true_iff] at *
  refine ⟨⟨h.1.1, Nat.le_trans (fx.fixL_len x LL) h.1.2⟩, ?_⟩
  rw [List.all_eq_true] at *
  intro K hK
  unfold fx.fixL at hK
  obtain ⟨L, hL, rfl⟩ := List.mem_map.1 hK
  have := h.2 L (List.mem_filter.1 hL).1
  unfold ok.clB at *
  simp only [Bool.and_eq_true, decide_eq_true_iff] at *
  refine ⟨?_, Nat.le_trans (wo.woL_le L (-x)) this.2⟩
  rw [List.all_eq_true] at *
  intro y hy
  exact this.1 y (List.mem_filter.1 hy).1
theorem litIn_pl {n x : Int} (h : litIn n x = true) : okB x = true ∧ ((pl x : Nat) : Int) < n := by
  unfold ok.litIn at h
  rw [Bool.and_eq_true, decide_eq_true_iff] at h
  exact ⟨h.1, by have := var_pl h.1; omega⟩
theorem trueB_of {n : Int} {LL : List (List Int)} {A : List Int} (hc : cnfB n LL = true) (hl : (A.length : Int) = n) (hA : ∀ x ∈ A, x = 0 ∨ x = 1) : trueB n LL A = cnfT A LL := by
  unfold tr.trueB tr.assignB
  have : A.all bitB = true := by
    rw [List.all_eq_true]
    intro x hx
    unfold tr.bitB
    have := hA x hx
    exact decide_eq_true (by omega)
  rw [hc, decide_eq_true hl, this]
  rfl

/-- lists of bits with one place set: both ways make up twice as many -/
theorem C_congr {n : Nat} {f g : List Int → Bool} (h : ∀ l, l.length = n → f l = g l) : C n f = C n g := by
  induction n generalizing f g with
  | zero => simp only [cnt.C]; rw [h [] rfl]
  | succ n ih =>
    simp only [cnt.C]
    rw [ih (f := fun l => f (0 :: l)) (g := fun l => g (0 :: l)) (fun l hl => h _ (by simp [hl])), ih (f := fun l => f (1 :: l)) (g := fun l => g (1 :: l)) (fun l hl => h _ (by simp [hl]))]
theorem C_set (n : Nat) : ∀ (i : Nat) (p : List Int → Bool), i < n → C n (fun l => p (l.set i 0)) + C n (fun l => p (l.set i 1)) = 2 * C n p := by
  induction n with
  | zero => intro i p h; omega
  | succ n ih =>
    intro i p h
    cases i with
    | zero =>
      simp only [cnt.C, List.set_cons_zero]
      omega
    | succ i =>
      simp only [cnt.C, List.set_cons_succ]
      have h0 := ih i (fun l => p (0 :: l)) (by omega)
      have h1 := ih i (fun l => p (1 :: l)) (by omega)
      omega
theorem count_fix {m : Nat} {LL : List (List Int)} {x : Int} (hm : m ≤ 14) (hc : cnfB (m : Int) LL = true) (hx : litIn (m : Int) x = true) :
    ct.countI (m : Int) (fixL x LL) + ct.countI (m : Int) (fixL (-x) LL) = 2 * ct.countI (m : Int) LL := by
  have hp := litIn_pl hx
  have ho := hp.1
  have hon : okB (-x) = true := by
    have a := okB_iff.1 ho
    exact okB_iff.2 ⟨by omega, by omega, by omega⟩
  have e : ∀ MM, cnfB (m : Int) MM = true → ct.countI (m : Int) MM = (C m (fun l => cnfT l MM) : Int) := by
    intro MM hM
    unfold ct.countI ct.countN
    rw [hM, decide_eq_true (show (m : Int) ≤ 14 by omega), Int.toNat_natCast, cnt.cnt_asg m (fun l => cnfT l MM)]
    rfl
  rw [e _ (cnfB_fix hc), e _ (cnfB_fix hc), e _ hc]
  have s1 : C m (fun l => cnfT l (fixL x LL)) = C m (fun l => cnfT (l.set (pl x) (sg x)) LL) := C_congr (fun l hl => cnf_set ho (by omega))
  have s2 : C m (fun l => cnfT l (fixL (-x) LL)) = C m (fun l => cnfT (l.set (pl x) (1 - sg x)) LL) := C_congr (fun l hl => by
    rw [cnf_set hon (by rw [pl_neg ho]; omega), pl_neg ho, sg_neg (okB_iff.1 ho).1])
  have s3 := C_set m (pl x) (fun l => cnfT l LL) (by omega)
  rw [s1, s2]
  have : sg x = 0 ∨ sg x = 1 := by unfold sg; split <;> omega
  rcases this with h | h
  · rw [h]
    show ((C m (fun l => cnfT (l.set (pl x) 0) LL) : Nat) : Int) + ((C m (fun l => cnfT (l.set (pl x) 1) LL) : Nat) : Int) = _
    omega
  · rw [h]
    show ((C m (fun l => cnfT (l.set (pl x) 1) LL) : Nat) : Int) + ((C m (fun l => cnfT (l.set (pl x) 0) LL) : Nat) : Int) = _
    omega
theorem count_bd {m : Nat} (LL : List (List Int)) (hm : m ≤ 14) : -1 ≤ ct.countI (m : Int) LL ∧ ct.countI (m : Int) LL ≤ 16384 := by
  unfold ct.countI
  split
  · unfold ct.countN
    rw [Int.toNat_natCast]
    have h1 := ct.cntR_le (2 ^ m) (fun k => cnfT (asg m k []) LL)
    have h2 := ct.pow_bd hm
    omega
  · omega
theorem litIn_neg {n x : Int} (h : litIn n x = true) : litIn n (-x) = true := by
  have hp := litIn_pl h
  have a := okB_iff.1 hp.1
  have hv := var_pl hp.1
  unfold ok.litIn
  rw [Bool.and_eq_true, decide_eq_true_iff]
  exact ⟨okB_iff.2 ⟨by omega, by omega, by omega⟩, by omega⟩
end Go.Proofs.Ytgmbahbdepllnaa.mf
