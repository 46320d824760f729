/- Mathematics of Parity: its clauses are true just where so many literals are, odd or even; conditions: literals that are some. -/
import Derived.Test.YtmmfhcfanbfniaaTh
import Derived.Test.YtmmfhcfanbfniaaCnt
namespace Go.Proofs.Ytmmfhcfanbfniaa.t2
open Go.Proofs.Ytmmfhcfanbfniaa.lits (okB okB_iff varI)
open Go.Proofs.Ytmmfhcfanbfniaa.tr (litT clT cnfT)
open Go.Proofs.Ytmmfhcfanbfniaa.t1 (cntL)
open Go.Proofs.Ytmmfhcfanbfniaa.cnt (asg asg_out asg_len cntR C)
set_option linter.unusedVariables false

def wayC (L a : List Int) : List Int := List.zipWith (fun x b => if b = 1 then -x else x) L a
def oddB (a : List Int) : Bool := decide (a.sum % 2 = 1)
def parC (L : List Int) (odd : Bool) : List (List Int) := ((List.range (2 ^ L.length)).filter fun k => oddB (asg L.length k []) != odd).map fun k => wayC L (asg L.length k [])
def bitsL (A L : List Int) : List Int := L.map fun x => if litT A x then 1 else 0
theorem asg_succ (n k : Nat) : asg (n + 1) k [] = asg n (k / 2) [] ++ [((k % 2 : Nat) : Int)] := by rw [asg, asg_out]
theorem asg_bits (n : Nat) : ∀ k, ∀ b ∈ asg n k [], b = 0 ∨ b = 1 := by
  induction n with
  | zero => intro k b h; cases h
  | succ n ih =>
    intro k b h
    rw [asg_succ, List.mem_append, List.mem_singleton] at h
    rcases h with h | h
    · exact ih _ b h
    · omega
theorem asg_all (n : Nat) : ∀ a : List Int, a.length = n → (∀ b ∈ a, b = 0 ∨ b = 1) → ∃ k, k < 2 ^ n ∧ asg n k [] = a := by
  induction n with
  | zero =>
    intro a h _
    exact ⟨0, by simp, by rw [List.length_eq_zero_iff.1 h]; rfl⟩
  | succ n ih =>
    intro a h hb
    have hne : a ≠ [] := by intro e; rw [e] at h; simp at h
    have e := List.dropLast_concat_getLast hne
    obtain ⟨k, hk, ek⟩ := ih a.dropLast (by simp [h]) (fun b hb' => hb b (List.dropLast_subset a hb'))
    have hl := hb _ (List.getLast_mem hne)
    generalize a.getLast hne = z at *
    rcases hl with rfl | rfl
    · refine ⟨2 * k, by rw [Nat.pow_succ]; omega, ?_⟩
      rw [asg_succ, show 2 * k / 2 = k by omega, show 2 * k % 2 = 0 by omega, ek]
      exact e
    · refine ⟨2 * k + 1, by rw [Nat.pow_succ]; omega, ?_⟩
      rw [asg_succ, show (2 * k + 1) / 2 = k by omega, show (2 * k + 1) % 2 = 1 by omega, ek]
      exact e
theorem way_true {A : List Int} : ∀ (L a : List Int), (∀ x ∈ L, okB x = true) → a.length = L.length → (∀ b ∈ a, b = 0 ∨ b = 1) → clT A (wayC L a) = !decide (a = bitsL A L)
  | [], [], _, _, _ => rfl
  | [], b :: a, _, h, _ => by simp at h
  | x :: L, [], _, h, _ => by simp at h
  | x :: L, b :: a, hL, h, hb => by
    have ih := way_true (A := A) L a (fun y hy => hL y (List.mem_cons_of_mem _ hy)) (by simpa using h) (fun y hy => hb y (List.mem_cons_of_mem _ hy))
    have hx := lit_neg (A := A) (hL x (List.mem_cons_self ..))
    have e1 : clT A (wayC (x :: L) (b :: a)) = (litT A (if b = 1 then -x else x) || clT A (wayC L a)) := rfl
    have e2 : bitsL A (x :: L) = (if litT A x then 1 else 0) :: bitsL A L := rfl
    rw [e1, e2, ih]
    rcases hb b (List.mem_cons_self ..) with rfl | rfl
    · cases h1 : litT A x <;> simp [h1]
    · rw [if_pos rfl, hx]
      cases h1 : litT A x <;> simp
theorem bits_sum (A : List Int) : ∀ L, (bitsL A L).sum = (cntL A L : Int)
  | [] => rfl
  | x :: L => by
    have ih := bits_sum A L
    unfold cntL at *
    rw [List.countP_cons]
    have e2 : bitsL A (x :: L) = (if litT A x then 1 else 0) :: bitsL A L := rfl
    rw [e2, List.sum_cons, ih]
    cases litT A x <;> simp <;> omega
theorem bits_bits (A L : List Int) : ∀ b ∈ bitsL A L, b = 0 ∨ b = 1 := by
  intro b h
  unfold bitsL at h
  rw [List.mem_map] at h
  obtain ⟨x, _, rfl⟩ := h
  split
  · exact .inr rfl
  · exact .inl rfl
theorem odd_bits (A L : List Int) : oddB (bitsL A L) = decide (cntL A L % 2 = 1) := by
  unfold oddB
  rw [bits_sum]
  exact decide_eq_decide.2 (by omega)
theorem par_true {A L : List Int} {odd : Bool} (hL : ∀ x ∈ L, okB x = true) : cnfT A (parC L odd) = (decide (cntL A L % 2 = 1) == odd) := by
  rw [← odd_bits]
  obtain ⟨k0, hk0, e0⟩ := asg_all L.length (bitsL A L) (by simp [bitsL]) (bits_bits A L)
  rw [Bool.eq_iff_iff]
  unfold cnfT parC
  simp only [List.all_map, List.all_eq_true, List.mem_filter, List.mem_range, Function.comp_apply, bne_iff_ne, ne_eq, beq_iff_eq, and_imp]
  constructor
  · intro h
    have h1 := h k0 hk0
    rw [e0, way_true L _ hL (by simp [bitsL]) (bits_bits A L)] at h1
    simp only [decide_true, Bool.not_true, Bool.false_eq_true, imp_false, Classical.not_not] at h1
    exact h1
  · intro h k hk hne
    rw [way_true L _ hL (by rw [asg_len]; rfl) (asg_bits _ _)]
    simp only [Bool.not_eq_true', decide_eq_false_iff_not]
    intro e
    rw [e] at hne
    exact hne h
theorem par_cnt (L : List Int) (odd : Bool) : (parC L odd).length = C L.length (fun a => oddB a != odd) := by
  unfold parC
  rw [List.length_map, ← cnt.cnt_asg]
  rfl
theorem odd_cons (a : List Int) : oddB (0 :: a) = oddB a ∧ oddB (1 :: a) = !oddB a := by
  unfold oddB
  constructor
  · rw [List.sum_cons]
    exact decide_eq_decide.2 (by omega)
  · rw [List.sum_cons, ← decide_not]
    exact decide_eq_decide.2 (by omega)
theorem C_not (n : Nat) (f : List Int → Bool) : C n f + C n (fun a => !f a) = 2 ^ n := by
  induction n generalizing f with
  | zero => show (if f [] then 1 else 0) + (if (!f []) then 1 else 0) = 1; cases f [] <;> rfl
  | succ n ih =>
    show (C n (fun l => f (0 :: l)) + C n (fun l => f (1 :: l))) + (C n (fun l => !f (0 :: l)) + C n (fun l => !f (1 :: l))) = _
    have h0 := ih (fun l => f (0 :: l))
    have h1 := ih (fun l => f (1 :: l))
    rw [Nat.pow_succ]
    omega
theorem par_half {L : List Int} (odd : Bool) (h : L.length ≠ 0) : 2 * (parC L odd).length = 2 ^ L.length := by
  rw [par_cnt]
  obtain ⟨n, e⟩ : ∃ n, L.length = n + 1 := ⟨L.length - 1, by omega⟩
  rw [e]
  show 2 * (C n (fun l => oddB (0 :: l) != odd) + C n (fun l => oddB (1 :: l) != odd)) = _
  have h2 : (fun l => oddB (1 :: l) != odd) = fun l => !(oddB (0 :: l) != odd) := by
    funext l
    rw [(odd_cons l).1, (odd_cons l).2]
    cases oddB l <;> cases odd <;> rfl
  rw [h2, C_not, Nat.pow_succ]
  omega
theorem par_nil (odd : Bool) : (parC [] odd).length = if odd then 1 else 0 := by cases odd <;> rfl
theorem par_le {L : List Int} (odd : Bool) (h : L.length ≤ 7) : (parC L odd).length ≤ 64 := by
  by_cases h0 : L.length = 0
  · rw [List.length_eq_zero_iff.1 h0, par_nil]
    split <;> omega
  · have := par_half odd h0
    have : 2 ^ L.length ≤ 2 ^ 7 := Nat.pow_le_pow_right (by decide) h
    omega
theorem par_lens (L : List Int) (odd : Bool) : decide ((parC L odd).length = (parC L (!odd)).length) = decide (0 < L.length) := by
  by_cases h0 : L.length = 0
  · rw [List.length_eq_zero_iff.1 h0, par_nil, par_nil]
    cases odd <;> rfl
  · have h1 := par_half odd h0
    have h2 := par_half (!odd) h0
    exact decide_eq_decide.2 (by omega)
end Go.Proofs.Ytmmfhcfanbfniaa.t2
