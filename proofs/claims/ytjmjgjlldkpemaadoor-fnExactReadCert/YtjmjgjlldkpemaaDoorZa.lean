/- Mathematics of words of 32 bits: turning round written in two ways, a word out of four bytes, sums that wrap round; no condition but that words are words. -/
import Derived.Laws.BitsLemmas
namespace Go.Proofs.YtjmjgjlldkpemaaDoor.za
set_option linter.unusedVariables false

/-- a word -/
def Wd (x : Int) : Prop := 0 ≤ x ∧ x < 4294967296
theorem wrap_wd (n : Int) : Wd (IntKind.u32.wrap n) := by
  unfold Wd
  rw [IntKind.wrap_u32]
  omega
theorem bits_wd (op : BinOp) (x y : Int) : Wd (bits op .u32 x y) := wrap_wd _
theorem wrap_id {x : Int} (h : Wd x) : IntKind.u32.wrap x = x := by
  unfold Wd at h
  rw [IntKind.wrap_u32]
  omega
/-- x turned round to the right by n places -/
def rotI (x : Int) (n : Nat) : Int := bits .xor .u32 (x / 2 ^ n) (x * 2 ^ (32 - n) % 4294967296)
theorem mod_wd (n : Int) : Wd (n % 4294967296) := by
  unfold Wd
  omega
theorem rot_wd (x : Int) (n : Nat) : Wd (rotI x n) := bits_wd _ _ _

theorem or_xor (a n : Nat) (ha : a < 2 ^ 32) (h1 : 1 ≤ n) (h2 : n ≤ 31) : ((a * 2 ^ (32 - n)) % 2 ^ 32 ||| a / 2 ^ n) = (a / 2 ^ n ^^^ (a * 2 ^ (32 - n)) % 2 ^ 32) := by
  apply Nat.eq_of_testBit_eq
  intro i
  rw [Nat.testBit_or, Nat.testBit_xor, Nat.testBit_mod_two_pow, Nat.testBit_mul_two_pow, Nat.testBit_div_two_pow]
  by_cases h : 32 - n ≤ i
  · have hz : a.testBit (i + n) = false := Nat.testBit_lt_two_pow (Nat.lt_of_lt_of_le ha (Nat.pow_le_pow_right (by decide) (by omega)))
    rw [hz]
    simp
  · simp [h]
theorem rot_or (x : Int) (n : Nat) (hx : Wd x) (h1 : 1 ≤ n) (h2 : n ≤ 31) : bits .or .u32 (x * 2 ^ (32 - n) % 4294967296) (x / 2 ^ n) = rotI x n := by
  obtain ⟨h3, h4⟩ := hx
  obtain ⟨a, rfl⟩ := Int.eq_ofNat_of_zero_le h3
  have ha : a < 2 ^ 32 := by omega
  have e1 : ((a : Int) * 2 ^ (32 - n)) % 4294967296 = (((a * 2 ^ (32 - n)) % 2 ^ 32 : Nat) : Int) := by
    simp
  have e2 : (a : Int) / 2 ^ n = ((a / 2 ^ n : Nat) : Int) := by simp
  unfold rotI
  rw [e1, e2]
  have hA : (a * 2 ^ (32 - n)) % 2 ^ 32 < 2 ^ 32 := Nat.mod_lt _ (by decide)
  have hB : a / 2 ^ n < 2 ^ 32 := Nat.lt_of_le_of_lt (Nat.div_le_self _ _) ha
  have key := or_xor a n ha h1 h2
  generalize (a * 2 ^ (32 - n)) % 2 ^ 32 = A at *
  generalize a / 2 ^ n = B at *
  have eb : ∀ A : Nat, A < 2 ^ 32 → A % 2 ^ IntKind.u32.bits = A := fun A h => Nat.mod_eq_of_lt h
  simp only [bits, BitVec.ofInt_natCast, BitVec.toNat_or, BitVec.toNat_xor, BitVec.toNat_ofNat, eb A hA, eb B hB, key]

/-- a word out of its four bytes -/
def g4 (a b c d : Int) : Int := a * 16777216 + b * 65536 + c * 256 + d
theorem or_step (x y : Int) (hx0 : 0 ≤ x) (hx1 : x < 16777216) (hy0 : 0 ≤ y) (hy1 : y < 256) : bits .or .u32 (x * 256 % 4294967296) y = x * 256 + y := by
  rw [show x * 256 % 4294967296 = x * 256 by omega]
  exact bits_join .u32 32 (by decide) (fun n h0 h1 => by rw [IntKind.wrap_u32]; omega) 8 (x * 256) y (by omega) (by omega) (by omega) hy0 (by omega) (by omega)
theorem add_assoc_w (a b c : Int) : (a + (b + c) % 4294967296) % 4294967296 = ((a + b) % 4294967296 + c) % 4294967296 := by
  omega
end Go.Proofs.YtjmjgjlldkpemaaDoor.za
