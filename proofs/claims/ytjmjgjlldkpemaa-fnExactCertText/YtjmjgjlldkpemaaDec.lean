/- What spec.l01Dec answers: a number's decimal text; at every number of at most nine digits. -/
import Derived.Test.YtjmjgjlldkpemaaSl
import Derived.Lib.ItoaNum
namespace Go.Proofs.Ytjmjgjlldkpemaa.dec
open Go.ChangeShapes Go.WideShapes Go.ChangeAt Go.RowKit
open Go.Proofs.Ytjmjgjlldkpemaa.sl (hide unhide)
set_option linter.unusedVariables false

/-- a text out of its bytes -/
def str (l : List UInt8) : Value := .string ⟨l.toArray⟩
theorem nDigits_le : ∀ (k u : Nat), 1 ≤ k → u < 10 ^ k → Lib.nDigits u ≤ k
  | 0, _, h, _ => by omega
  | k + 1, u, _, h => by
    by_cases h10 : u < 10
    · rw [Lib.nDigits_small h10]
      omega
    · rw [Lib.nDigits_big h10]
      have hk : 1 ≤ k := by
        cases k with
        | zero => exact absurd h (by simp; omega)
        | succ k => omega
      have := nDigits_le k (u / 10) hk (by rw [Nat.pow_succ] at h; omega)
      omega
theorem digit : ∀ d, d < 10 → (⟨#[48, 49, 50, 51, 52, 53, 54, 55, 56, 57]⟩ : ByteArray).extract d (d + 1) = ⟨#[UInt8.ofNat (48 + d)]⟩ := by decide
theorem dec_small {r : Nat} (h : r < 10) : Lib.decDigits r = [UInt8.ofNat (48 + r % 10)] := by rw [Lib.decDigits, dif_pos h, Nat.mod_eq_of_lt h]
theorem dec_big {r : Nat} (h : ¬ r < 10) : Lib.decDigits r = Lib.decDigits (r / 10) ++ [UInt8.ofNat (48 + r % 10)] := by rw [Lib.decDigits, dif_neg h]

theorem cat (d : Nat) (h : d < 10) (o : List UInt8) : Value.string ((⟨#[48, 49, 50, 51, 52, 53, 54, 55, 56, 57]⟩ : ByteArray).extract d (d + 1) ++ ⟨o.toArray⟩) = str (UInt8.ofNat (48 + d) :: o) := by
  rw [digit d h]
  unfold str
  congr 1

theorem retcat (o : List UInt8) : Ending.returned (Value.string ((⟨#[45]⟩ : ByteArray) ++ ⟨o.toArray⟩)) = .returned (str (45 :: o)) := by
  unfold str
  congr 2

/-- what is left of the digits -/
def Left (u r : Nat) (o : List UInt8) : Prop := if r = 0 then Lib.decDigits u = o else Lib.decDigits u = Lib.decDigits r ++ o
theorem Left.step {u r : Nat} {o : List UInt8} (h : Left u r o) (hr : r ≠ 0) : Left u (r / 10) (UInt8.ofNat (48 + r % 10) :: o) := by
  unfold Left at *
  rw [if_neg hr] at h
  by_cases h10 : r < 10
  · rw [if_pos (by omega), h, dec_small h10]
    rfl
  · rw [if_neg (by omega), h, dec_big h10, List.append_assoc]
    rfl
theorem Left.len {u r : Nat} {o : List UInt8} (h : Left u r o) (hu : u < 10 ^ 9) : o.length ≤ 9 := by
  have h1 := Lib.decDigits_length u
  have h2 := nDigits_le 9 u (by decide) hu
  unfold Left at h
  split at h
  · rw [h] at h1
    omega
  · rw [h, List.length_append] at h1
    omega

end Go.Proofs.Ytjmjgjlldkpemaa.dec
