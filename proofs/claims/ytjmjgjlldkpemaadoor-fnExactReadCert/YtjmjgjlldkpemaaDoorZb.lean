/- Words turned round (the program's and the model's way) and words out of four bytes: what the small functions answer; no condition but that words are words and the places lie within. -/
import Derived.Test.YtjmjgjlldkpemaaDoorZs
import Derived.Test.YtjmjgjlldkpemaaDoorZa
import Derived.Test.YtjmjgjlldkpemaaDoorDec
namespace Go.Proofs.YtjmjgjlldkpemaaDoor.zb
open Go.ChangeShapes Go.WideShapes Go.ChangeAt Go.RowKit
open Go.Proofs.YtjmjgjlldkpemaaDoor.sl (hide unhide ret_int ret_bool grown_refl grown_trans grown_drewN)
open Go.Proofs.YtjmjgjlldkpemaaDoor.za (Wd rotI g4)
set_option linter.unusedVariables false

theorem specRot (x : Int) (n : Nat) (w : World) (hx : Wd x) (h1 : 1 ≤ n) (h2 : n ≤ 31) :
    Calls Tryd.prog 144 #[.int .u32 x, .int .u64 n] w fun e w' => e = .returned (.int .u32 (rotI x n)) ∧ w' = w := by
  obtain ⟨h3, h4⟩ := hx
  have b0 : (0 : Int) ≤ (n : Int) := by omega
  have b1 : (n : Int) ≤ 32 := by omega
  have b2 : (0 : Int) ≤ 32 - (n : Int) := by omega
  have b3 : (32 : Int) - (n : Int) ≤ 32 := by omega
  go_enter Tryd.func144, Tryd.ntmps144
  go_wp2
  go_ret
  exact ⟨rfl, rfl⟩

theorem and31 (n : Nat) (h1 : 1 ≤ n) (h2 : n ≤ 31) : bits .and .u64 (IntKind.u64.wrap (-(n : Int))) 31 = 32 - (n : Int) := by
  rw [show IntKind.u64.wrap (-(n : Int)) = 18446744073709551616 - (n : Int) by simp only [IntKind.wrap, IntKind.bits, IntKind.signed]; simp; omega]
  have e := bits_mask .u64 64 (by decide) (fun n h0 h1 => by simp only [IntKind.wrap, IntKind.bits, IntKind.signed]; simp; omega) 5 (by decide) (18446744073709551616 - (n : Int)) (by omega) (by omega)
  rw [show (31 : Int) = 2 ^ 5 - 1 by decide, e]
  omega
/-- a text's byte as a number -/
def at_ (s : ByteArray) (k : Nat) : Int := ((s.data.toList.getD k 0).toNat : Int)
theorem at_bd (s : ByteArray) (k : Nat) : 0 ≤ at_ s k ∧ at_ s k < 256 := by
  unfold at_
  have := (s.data.toList.getD k 0).toNat_lt
  omega
theorem at_eq (s : ByteArray) (k : Nat) (h : k < s.size) : ((s[k].toNat : Nat) : Int) = at_ s k := by
  unfold at_
  have : s.data.toList.getD k 0 = s[k] := by
    rw [List.getD, List.getElem?_eq_getElem (by simpa using h)]
    rfl
  rw [this]

theorem wrap64 {x : Int} (h0 : -9223372036854775808 ≤ x) (h1 : x < 9223372036854775808) : IntKind.i64.wrap x = x := by
  rw [IntKind.wrap_i64]
  omega
theorem specGet (s : ByteArray) (k : Nat) (w : World) (h : k + 4 ≤ s.size) (hs : s.size ≤ 1048576) :
    Calls Tryd.prog 145 #[.string s, .int .i64 k] w fun e w' => e = .returned (.int .u32 (g4 (at_ s k) (at_ s (k + 1)) (at_ s (k + 2)) (at_ s (k + 3)))) ∧ w.grownBy w' none := by
  obtain ⟨k1, hk1⟩ : ∃ k1, k1 = k + 1 := ⟨_, rfl⟩
  obtain ⟨k2, hk2⟩ : ∃ k2, k2 = k + 2 := ⟨_, rfl⟩
  obtain ⟨k3, hk3⟩ : ∃ k3, k3 = k + 3 := ⟨_, rfl⟩
  rw [← hk1, ← hk2, ← hk3]
  have i0 : (k : Int) < (s.size : Int) := by omega
  have i1 : (k1 : Int) < (s.size : Int) := by omega
  have i2 : (k2 : Int) < (s.size : Int) := by omega
  have i3 : (k3 : Int) < (s.size : Int) := by omega
  have l0 : k < s.size := by omega
  have l1 : k1 < s.size := by omega
  have l2 : k2 < s.size := by omega
  have l3 : k3 < s.size := by omega
  have e0 := at_eq s k l0
  have e1 := at_eq s k1 l1
  have e2 := at_eq s k2 l2
  have e3 := at_eq s k3 l3
  have d0 := at_bd s k
  have d1 := at_bd s k1
  have d2 := at_bd s k2
  have d3 := at_bd s k3
  have j1 : IntKind.i64.wrap ((k : Int) + 1) = (k1 : Int) := by rw [wrap64 (by omega) (by omega)]; omega
  have j2 : IntKind.i64.wrap ((k : Int) + 2) = (k2 : Int) := by rw [wrap64 (by omega) (by omega)]; omega
  have j3 : IntKind.i64.wrap ((k : Int) + 3) = (k3 : Int) := by rw [wrap64 (by omega) (by omega)]; omega
  generalize at_ s k = x0 at *
  generalize at_ s k1 = x1 at *
  generalize at_ s k2 = x2 at *
  generalize at_ s k3 = x3 at *
  have a0 : IntKind.i64.wrap x0 = x0 := wrap64 (by omega) (by omega)
  have a1 : IntKind.i64.wrap x1 = x1 := wrap64 (by omega) (by omega)
  have a2 : IntKind.i64.wrap x2 = x2 := wrap64 (by omega) (by omega)
  have a3 : IntKind.i64.wrap x3 = x3 := wrap64 (by omega) (by omega)
  clear hk1 hk2 hk3 h
  go_enter Tryd.func145, Tryd.ntmps145
  go_wp2
  go_quiet (fail)
  go_wp2
  go_ret
  exact ⟨rfl, grown_drewN _ _⟩

/-- four bytes read one after the other -/
def rw4 (s : ByteArray) (k : Nat) : Int := match k with
  | 0 => 0
  | j + 1 => rw4 s j * 256 + at_ s j
theorem rw4_bd (s : ByteArray) : ∀ k, 0 ≤ rw4 s k ∧ rw4 s k < 256 ^ k
  | 0 => by simp [rw4]
  | j + 1 => by
    have h := rw4_bd s j
    have d := at_bd s j
    unfold rw4
    rw [Int.pow_succ]
    omega
end Go.Proofs.YtjmjgjlldkpemaaDoor.zb
