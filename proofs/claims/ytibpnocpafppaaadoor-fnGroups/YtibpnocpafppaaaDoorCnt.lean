/- Plain mathematics of counting: all lists of n bits, told lowest first or highest first, are as many that have a property; how a set of every other bit is counted up by a borrow; no condition. -/
import Derived.Test.YtibpnocpafppaaaDoorTr
namespace Go.Proofs.YtibpnocpafppaaaDoor.cnt
open Go.RowKit

/-- how many numbers below m have a property -/
def cntR (m : Nat) (g : Nat → Bool) : Nat := ((List.range m).filter g).length
theorem cntR_succ (m : Nat) (g : Nat → Bool) : cntR (m + 1) g = cntR m g + (if g m then 1 else 0) := by
  unfold cntR
  rw [List.range_succ, List.filter_append, List.length_append]
  cases h : g m <;> simp [h]
theorem cntR_two (m : Nat) (g : Nat → Bool) : cntR (2 * m) g = cntR m (fun q => g (2 * q)) + cntR m (fun q => g (2 * q + 1)) := by
  induction m with
  | zero => rfl
  | succ m ih =>
    rw [show 2 * (m + 1) = 2 * m + 1 + 1 by omega, cntR_succ, cntR_succ, ih, cntR_succ, cntR_succ]
    omega
/-- how many lists of n bits have a property -/
def C : Nat → (List Int → Bool) → Nat
  | 0, f => if f [] then 1 else 0
  | n + 1, f => C n (fun l => f (0 :: l)) + C n (fun l => f (1 :: l))
theorem C_snoc (n : Nat) (f : List Int → Bool) : C (n + 1) f = C n (fun l => f (l ++ [0])) + C n (fun l => f (l ++ [1])) := by
  induction n generalizing f with
  | zero => rfl
  | succ n ih =>
    rw [C, ih, ih]
    show _ = (C n _ + C n _) + (C n _ + C n _)
    simp only [List.cons_append]
    omega
/-- the assignment number k, the first variable highest, ahead of out -/
def asg : Nat → Nat → List Int → List Int
  | 0, _, out => out
  | n + 1, k, out => asg n (k / 2) (((k % 2 : Nat) : Int) :: out)
theorem asg_out (n k : Nat) (out : List Int) : asg n k out = asg n k [] ++ out := by
  induction n generalizing k out with
  | zero => rfl
  | succ n ih =>
    rw [asg, asg, ih, ih (k / 2) [_], List.append_assoc]
    rfl
theorem asg_len (n k : Nat) (out : List Int) : (asg n k out).length = n + out.length := by
  induction n generalizing k out with
  | zero => simp [asg]
  | succ n ih =>
    rw [asg, ih, List.length_cons]
    omega
theorem cnt_asg (n : Nat) (f : List Int → Bool) : cntR (2 ^ n) (fun k => f (asg n k [])) = C n f := by
  induction n generalizing f with
  | zero =>
    show cntR 1 _ = _
    rw [cntR_succ]
    exact Nat.zero_add _
  | succ n ih =>
    have e : ∀ k, asg (n + 1) k [] = asg n (k / 2) [] ++ [((k % 2 : Nat) : Int)] := fun k => by rw [asg, asg_out]
    rw [Nat.pow_succ, Nat.mul_comm, cntR_two, C_snoc, ← ih, ← ih]
    congr 1
    · congr 1
      funext q
      rw [e, show 2 * q / 2 = q by omega, show 2 * q % 2 = 0 by omega]
      rfl
    · congr 1
      funext q
      rw [e, show (2 * q + 1) / 2 = q by omega, show (2 * q + 1) % 2 = 1 by omega]
      rfl
/-- the bits of j, the lowest first -/
def le : Nat → Nat → List Int
  | 0, _ => []
  | n + 1, j => ((j % 2 : Nat) : Int) :: le n (j / 2)
theorem le_len (n j : Nat) : (le n j).length = n := by
  induction n generalizing j with
  | zero => rfl
  | succ n ih => rw [le, List.length_cons, ih]
theorem cnt_le (n : Nat) (f : List Int → Bool) : cntR (2 ^ n) (fun j => f (le n j)) = C n f := by
  induction n generalizing f with
  | zero =>
    show cntR 1 _ = _
    rw [cntR_succ]
    exact Nat.zero_add _
  | succ n ih =>
    rw [Nat.pow_succ, Nat.mul_comm, cntR_two, C, ← ih, ← ih]
    congr 1
    · congr 1
      funext q
      rw [le, show 2 * q / 2 = q by omega, show 2 * q % 2 = 0 by omega]
      rfl
    · congr 1
      funext q
      rw [le, show (2 * q + 1) / 2 = q by omega, show (2 * q + 1) % 2 = 1 by omega]
      rfl
/-- both ways of going through all assignments come to the same number -/
theorem cnt_both (n : Nat) (f : List Int → Bool) : cntR (2 ^ n) (fun k => f (asg n k [])) = cntR (2 ^ n) (fun j => f (le n j)) := by rw [cnt_asg, cnt_le]

/-- every other bit, n of them -/
def ev : Nat → Nat
  | 0 => 0
  | n + 1 => 4 * ev n + 1
/-- the bits of j at every other place -/
def sp : Nat → Nat → Nat
  | 0, _ => 0
  | n + 1, j => 4 * sp n (j / 2) + j % 2
theorem sp_le (n j : Nat) : sp n j ≤ ev n := by
  induction n generalizing j with
  | zero => exact Nat.le_refl _
  | succ n ih =>
    have := ih (j / 2)
    simp only [sp, ev]
    omega
theorem ev_lt (n M : Nat) (h : 2 * n ≤ M) : ev n < 2 ^ M := by
  induction n generalizing M with
  | zero => exact Nat.two_pow_pos M
  | succ n ih =>
    obtain ⟨M', rfl⟩ : ∃ M', M = M' + 2 := ⟨M - 2, by omega⟩
    have := ih M' (by omega)
    simp only [ev]
    rw [Nat.pow_add]
    omega
theorem and4 (a b x y : Nat) (hx : x < 4) (hy : y < 4) : (4 * a + x) &&& (4 * b + y) = 4 * (a &&& b) + (x &&& y) := by
  have h := Nat.two_pow_add_eq_or_of_lt (i := 2) (b := x) (by omega) a
  have h' := Nat.two_pow_add_eq_or_of_lt (i := 2) (b := y) (by omega) b
  have hxy : x &&& y < 4 := Nat.lt_of_le_of_lt Nat.and_le_left hx
  apply Nat.eq_of_testBit_eq
  intro i
  rw [Nat.testBit_and]
  have e : ∀ c z : Nat, z < 4 → (4 * c + z).testBit i = if i < 2 then z.testBit i else c.testBit (i - 2) := by
    intro c z hz
    have := Nat.testBit_two_pow_mul_add c (i := 2) (b := z) (by omega) i
    simpa using this
  rw [e a x hx, e b y hy, e (a &&& b) (x &&& y) hxy]
  split
  · rw [Nat.testBit_and]
  · rw [Nat.testBit_and]
theorem mod4 (Y M z : Nat) (hz : z < 4) : (4 * Y + z) % 2 ^ (M + 2) = 4 * (Y % 2 ^ M) + z := by
  rw [Nat.pow_add, show (2 : Nat) ^ 2 = 4 by rfl, Nat.mul_comm (2 ^ M) 4]
  have h := Nat.mod_mul (x := 4 * Y + z) (a := 4) (b := 2 ^ M)
  rw [h, show (4 * Y + z) % 4 = z by omega, show (4 * Y + z) / 4 = Y by omega]
  omega
/-- one less than all of them, and cut: the next set; one less again: the set itself -/
theorem step (n : Nat) : ∀ (M j : Nat), 2 * n ≤ M → ((sp n j + 2 ^ M - ev n) % 2 ^ M) &&& ev n = sp n (j + 1) ∧ ((sp n j + 2 ^ M - ev n - 1) % 2 ^ M) &&& ev n = sp n j := by
  induction n with
  | zero =>
    intro M j _
    simp [sp, ev]
  | succ n ih =>
    intro M j hM
    obtain ⟨M', rfl⟩ : ∃ M', M = M' + 2 := ⟨M - 2, by omega⟩
    have i := ih M' (j / 2) (by omega)
    have lt := ev_lt n M' (by omega)
    have sl := sp_le n (j / 2)
    generalize hY : sp n (j / 2) + 2 ^ M' - ev n = Y at i
    have e1 : sp (n + 1) j + 2 ^ (M' + 2) - ev (n + 1) + 1 = 4 * Y + j % 2 := by
      simp only [sp, ev]
      rw [Nat.pow_add, show (2 : Nat) ^ 2 = 4 by rfl]
      omega
    have hr : j % 2 = 0 ∨ j % 2 = 1 := by omega
    have hY1 : 1 ≤ Y := by omega
    obtain ⟨Y', rfl⟩ : ∃ Y', Y = Y' + 1 := ⟨Y - 1, by omega⟩
    rw [Nat.add_sub_cancel] at i
    rcases hr with r | r
    · have e2 : sp (n + 1) j + 2 ^ (M' + 2) - ev (n + 1) = 4 * Y' + 3 := by omega
      have e3 : sp (n + 1) j + 2 ^ (M' + 2) - ev (n + 1) - 1 = 4 * Y' + 2 := by omega
      rw [e3, e2, mod4 _ _ 3 (by decide), mod4 _ _ 2 (by decide)]
      simp only [ev, sp]
      rw [and4 _ _ 3 1 (by decide) (by decide), and4 _ _ 2 1 (by decide) (by decide), i.2, r, show (j + 1) / 2 = j / 2 by omega, show (j + 1) % 2 = 1 by omega]
      exact ⟨rfl, rfl⟩
    · have e2 : sp (n + 1) j + 2 ^ (M' + 2) - ev (n + 1) = 4 * (Y' + 1) + 0 := by omega
      have e3 : sp (n + 1) j + 2 ^ (M' + 2) - ev (n + 1) - 1 = 4 * Y' + 3 := by omega
      rw [e3, e2, mod4 _ _ 0 (by decide), mod4 _ _ 3 (by decide)]
      simp only [ev, sp]
      rw [and4 _ _ 0 1 (by decide) (by decide), and4 _ _ 3 1 (by decide) (by decide), i.1, i.2, r, show (j + 1) / 2 = j / 2 + 1 by omega, show (j + 1) % 2 = 0 by omega]
      exact ⟨rfl, rfl⟩
theorem sp_zero (n : Nat) : sp n 0 = 0 := by
  induction n with
  | zero => rfl
  | succ n ih =>
    simp only [sp]
    rw [ih]
theorem sp_top (n : Nat) : sp n (2 ^ n) = 0 := by
  induction n with
  | zero => rfl
  | succ n ih =>
    simp only [sp]
    rw [Nat.pow_succ, show 2 ^ n * 2 / 2 = 2 ^ n by omega, ih, show 2 ^ n * 2 % 2 = 0 by omega]
/-- the walk comes back to nothing behind all of them, and not sooner -/
theorem sp_pos (n j : Nat) (h0 : 0 < j) (h : j < 2 ^ n) : sp n j ≠ 0 := by
  induction n generalizing j with
  | zero =>
    have : j < 1 := h
    omega
  | succ n ih =>
    simp only [sp]
    by_cases r : j % 2 = 0
    · have := ih (j / 2) (by omega) (by rw [Nat.pow_succ] at h; omega)
      omega
    · omega
end Go.Proofs.YtibpnocpafppaaaDoor.cnt
