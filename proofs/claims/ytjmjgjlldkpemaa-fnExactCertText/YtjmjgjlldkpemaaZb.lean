/- Words turned round (the program's and the model's way) and words out of four bytes: what the small functions answer; no condition but that words are words and the places lie within. -/
import Derived.Test.YtjmjgjlldkpemaaZs
import Derived.Test.YtjmjgjlldkpemaaZa
import Derived.Test.YtjmjgjlldkpemaaDec
namespace Go.Proofs.Ytjmjgjlldkpemaa.zb
open Go.ChangeShapes Go.WideShapes Go.ChangeAt Go.RowKit
open Go.Proofs.Ytjmjgjlldkpemaa.sl (hide unhide ret_int ret_bool grown_refl grown_trans grown_drewN)
open Go.Proofs.Ytjmjgjlldkpemaa.za (Wd rotI g4)
set_option linter.unusedVariables false

theorem and31 (n : Nat) (h1 : 1 ≤ n) (h2 : n ≤ 31) : bits .and .u64 (IntKind.u64.wrap (-(n : Int))) 31 = 32 - (n : Int) := by
  rw [show IntKind.u64.wrap (-(n : Int)) = 18446744073709551616 - (n : Int) by simp only [IntKind.wrap, IntKind.bits, IntKind.signed]; simp; omega]
  have e := bits_mask .u64 64 (by decide) (fun n h0 h1 => by simp only [IntKind.wrap, IntKind.bits, IntKind.signed]; simp; omega) 5 (by decide) (18446744073709551616 - (n : Int)) (by omega) (by omega)
  rw [show (31 : Int) = 2 ^ 5 - 1 by decide, e]
  omega
/-- a text's byte as a number -/
def at_ (s : ByteArray) (k : Nat) : Int := ((s.data.toList.getD k 0).toNat : Int)
theorem at_bd (s : ByteArray) (k : Nat) : 0 ≤ at_ s k ∧ at_ s k < 256 := by
  unfold at_
  have := (s.data.toList.getD k 0).toNat_lt
  omega
theorem at_eq (s : ByteArray) (k : Nat) (h : k < s.size) : ((s[k].toNat : Nat) : Int) = at_ s k := by
  unfold at_
  have : s.data.toList.getD k 0 = s[k] := by
    rw [List.getD, List.getElem?_eq_getElem (by simpa using h)]
    rfl
  rw [this]

theorem wrap64 {x : Int} (h0 : -9223372036854775808 ≤ x) (h1 : x < 9223372036854775808) : IntKind.i64.wrap x = x := by
  rw [IntKind.wrap_i64]
  omega
/-- four bytes read one after the other -/
def rw4 (s : ByteArray) (k : Nat) : Int := match k with
  | 0 => 0
  | j + 1 => rw4 s j * 256 + at_ s j
theorem rw4_bd (s : ByteArray) : ∀ k, 0 ≤ rw4 s k ∧ rw4 s k < 256 ^ k
  | 0 => by simp [rw4]
  | j + 1 => by
    have h := rw4_bd s j
    have d := at_bd s j
    unfold rw4
    rw [Int.pow_succ]
    omega
end Go.Proofs.Ytjmjgjlldkpemaa.zb
