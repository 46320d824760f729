/- Words turned round (the program's and the model's way) and words out of four bytes: what the small functions answer; no condition but that words are words and the places lie within. -/
import Derived.Test.YtheigbmkldlicaaDoorZs
import Derived.Test.YtheigbmkldlicaaDoorZa
import Derived.Test.YtheigbmkldlicaaDoorDec
namespace Go.Proofs.YtheigbmkldlicaaDoor.zb
open Go.ChangeShapes Go.WideShapes Go.ChangeAt Go.RowKit
open Go.Proofs.YtheigbmkldlicaaDoor.sl (hide unhide ret_int ret_bool grown_refl grown_trans grown_drewN)
open Go.Proofs.YtheigbmkldlicaaDoor.za (Wd rotI g4)
set_option linter.unusedVariables false

theorem specRot (x : Int) (n : Nat) (w : World) (hx : Wd x) (h1 : 1 ≤ n) (h2 : n ≤ 31) :
    Calls Tryd.prog 168 #[.int .u32 x, .int .u64 n] w fun e w' => e = .returned (.int .u32 (rotI x n)) ∧ w' = w := by
  obtain ⟨h3, h4⟩ := hx
  have b0 : (0 : Int) ≤ (n : Int) := by omega
  have b1 : (n : Int) ≤ 32 := by omega
  have b2 : (0 : Int) ≤ 32 - (n : Int) := by omega
  have b3 : (32 : Int) - (n : Int) ≤ 32 := by omega
  go_enter Tryd.func168, Tryd.ntmps168
  go_wp2
  go_ret
  exact ⟨rfl, rfl⟩

theorem and31 (n : Nat) (h1 : 1 ≤ n) (h2 : n ≤ 31) : bits .and .u64 (IntKind.u64.wrap (-(n : Int))) 31 = 32 - (n : Int) := by
  rw [show IntKind.u64.wrap (-(n : Int)) = 18446744073709551616 - (n : Int) by simp only [IntKind.wrap, IntKind.bits, IntKind.signed]; simp; omega]
  have e := bits_mask .u64 64 (by decide) (fun n h0 h1 => by simp only [IntKind.wrap, IntKind.bits, IntKind.signed]; simp; omega) 5 (by decide) (18446744073709551616 - (n : Int)) (by omega) (by omega)
  rw [show (31 : Int) = 2 ^ 5 - 1 by decide, e]
  omega
theorem rotate (x : Int) (n : Nat) (w : World) (hx : Wd x) (h1 : 1 ≤ n) (h2 : n ≤ 31) :
    Calls Tryd.prog 207 #[.int .u32 x, .int .i64 (-(n : Int))] w fun e w' => e = .returned (.int .u32 (rotI x n)) ∧ w' = w := by
  have R := hide (za.rot_or x n hx h1 h2)
  obtain ⟨h3, h4⟩ := hx
  obtain ⟨m, hm⟩ : ∃ m, m = 32 - n := ⟨_, rfl⟩
  have e : bits .and .u64 (IntKind.u64.wrap (-(n : Int))) 31 = (m : Int) := by rw [and31 n h1 h2]; omega
  have HM : Hid (32 - m = n ∧ 32 - n = m) := ⟨by omega, by omega⟩
  have b0 : (0 : Int) ≤ (m : Int) := by omega
  have b1 : (m : Int) ≤ 32 := by omega
  have b2 : (0 : Int) ≤ 32 - (m : Int) := by omega
  have b3 : (32 : Int) - (m : Int) ≤ 32 := by omega
  clear hm h1 h2
  go_enter Tryd.func207, Tryd.ntmps207
  go_wp2
  go_ret
  refine ⟨ret_int ?_, rfl⟩
  rw [(unhide HM).1, ← unhide R, (unhide HM).2]

theorem rot (x : Int) (n : Nat) (w : World) (hx : Wd x) (h1 : 1 ≤ n) (h2 : n ≤ 31) :
    Calls Tryd.prog 198 #[.int .u32 x, .int .i64 n] w fun e w' => e = .returned (.int .u32 (rotI x n)) ∧ w' = w := by
  go_enter Tryd.func198, Tryd.ntmps198
  go_wp2_with (go_at_call 207; refine (rotate x n _ hx h1 h2).mono ?_; rintro e w' ⟨rfl, rfl⟩)
  go_ret
  exact ⟨rfl, rfl⟩

/-- a text's byte as a number -/
def at_ (s : ByteArray) (k : Nat) : Int := ((s.data.toList.getD k 0).toNat : Int)
theorem at_bd (s : ByteArray) (k : Nat) : 0 ≤ at_ s k ∧ at_ s k < 256 := by
  unfold at_
  have := (s.data.toList.getD k 0).toNat_lt
  omega
theorem at_eq (s : ByteArray) (k : Nat) (h : k < s.size) : ((s[k].toNat : Nat) : Int) = at_ s k := by
  unfold at_
  have : s.data.toList.getD k 0 = s[k] := by
    rw [List.getD, List.getElem?_eq_getElem (by simpa using h)]
    rfl
  rw [this]

theorem wrap64 {x : Int} (h0 : -9223372036854775808 ≤ x) (h1 : x < 9223372036854775808) : IntKind.i64.wrap x = x := by
  rw [IntKind.wrap_i64]
  omega
theorem specGet (s : ByteArray) (k : Nat) (w : World) (h : k + 4 ≤ s.size) (hs : s.size ≤ 1048576) :
    Calls Tryd.prog 192 #[.string s, .int .i64 k] w fun e w' => e = .returned (.int .u32 (g4 (at_ s k) (at_ s (k + 1)) (at_ s (k + 2)) (at_ s (k + 3)))) ∧ w.grownBy w' none := by
  obtain ⟨k1, hk1⟩ : ∃ k1, k1 = k + 1 := ⟨_, rfl⟩
  obtain ⟨k2, hk2⟩ : ∃ k2, k2 = k + 2 := ⟨_, rfl⟩
  obtain ⟨k3, hk3⟩ : ∃ k3, k3 = k + 3 := ⟨_, rfl⟩
  rw [← hk1, ← hk2, ← hk3]
  have i0 : (k : Int) < (s.size : Int) := by omega
  have i1 : (k1 : Int) < (s.size : Int) := by omega
  have i2 : (k2 : Int) < (s.size : Int) := by omega
  have i3 : (k3 : Int) < (s.size : Int) := by omega
  have l0 : k < s.size := by omega
  have l1 : k1 < s.size := by omega
  have l2 : k2 < s.size := by omega
  have l3 : k3 < s.size := by omega
  have e0 := at_eq s k l0
  have e1 := at_eq s k1 l1
  have e2 := at_eq s k2 l2
  have e3 := at_eq s k3 l3
  have d0 := at_bd s k
  have d1 := at_bd s k1
  have d2 := at_bd s k2
  have d3 := at_bd s k3
  have j1 : IntKind.i64.wrap ((k : Int) + 1) = (k1 : Int) := by rw [wrap64 (by omega) (by omega)]; omega
  have j2 : IntKind.i64.wrap ((k : Int) + 2) = (k2 : Int) := by rw [wrap64 (by omega) (by omega)]; omega
  have j3 : IntKind.i64.wrap ((k : Int) + 3) = (k3 : Int) := by rw [wrap64 (by omega) (by omega)]; omega
  generalize at_ s k = x0 at *
  generalize at_ s k1 = x1 at *
  generalize at_ s k2 = x2 at *
  generalize at_ s k3 = x3 at *
  have a0 : IntKind.i64.wrap x0 = x0 := wrap64 (by omega) (by omega)
  have a1 : IntKind.i64.wrap x1 = x1 := wrap64 (by omega) (by omega)
  have a2 : IntKind.i64.wrap x2 = x2 := wrap64 (by omega) (by omega)
  have a3 : IntKind.i64.wrap x3 = x3 := wrap64 (by omega) (by omega)
  clear hk1 hk2 hk3 h
  go_enter Tryd.func192, Tryd.ntmps192
  go_wp2
  go_quiet (fail)
  go_wp2
  go_ret
  exact ⟨rfl, grown_drewN _ _⟩

/-- four bytes read one after the other -/
def rw4 (s : ByteArray) (k : Nat) : Int := match k with
  | 0 => 0
  | j + 1 => rw4 s j * 256 + at_ s j
theorem rw4_bd (s : ByteArray) : ∀ k, 0 ≤ rw4 s k ∧ rw4 s k < 256 ^ k
  | 0 => by simp [rw4]
  | j + 1 => by
    have h := rw4_bd s j
    have d := at_bd s j
    unfold rw4
    rw [Int.pow_succ]
    omega
theorem readWord (s : ByteArray) (w : World) (h : 4 ≤ s.size) (hs : s.size ≤ 1048576) :
    Calls Tryd.prog 197 #[.string s] w fun e w' => e = .returned (.int .u32 (g4 (at_ s 0) (at_ s 1) (at_ s 2) (at_ s 3))) ∧ w' = w := by
  go_enter Tryd.func197, Tryd.ntmps197
  go_wp2
  go_loop [3, 4, 5] (fun q _ i => ∃ k : Nat, k ≤ 4 ∧ i = .int .i64 k ∧ q = .int .u32 (rw4 s k)) (fun _ _ i => 4 - (intOf i).toNat)
  case atStart => exact ⟨0, by omega, rfl, rfl⟩
  case round =>
    obtain ⟨k, hk, rfl, rfl⟩ := hrel
    by_cases hlt : k < 4
    · have i0 : (k : Int) < 4 := by omega
      have i1 : (k : Int) < (s.size : Int) := by omega
      have e0 := at_eq s k (by omega)
      have d0 := at_bd s k
      have hb := rw4_bd s k
      have hb' : rw4 s k < 16777216 := by
        rcases (show k = 0 ∨ k = 1 ∨ k = 2 ∨ k = 3 by omega) with rfl | rfl | rfl | rfl <;> simp at hb <;> omega
      have HR : Hid (rw4 s (k + 1) = rw4 s k * 256 + at_ s k) := rfl
      have HO := hide (za.or_step (rw4 s k) (at_ s k) hb.1 hb' d0.1 d0.2)
      generalize at_ s k = x0 at *
      generalize rw4 s k = q at *
      clear hb
      go_wp2
      go_round
      case rel => exact ⟨k + 1, by omega, by go_num, by rw [unhide HR, ← unhide HO]⟩
      case measure => simp [intOf]; omega
    · have i0 : ¬ (k : Int) < 4 := by omega
      have HK : Hid (k = 4) := by show k = 4; omega
      go_wp2
      go_ret
      refine ⟨ret_int ?_, rfl⟩
      rw [unhide HK]
      simp only [rw4, g4]
      omega
end Go.Proofs.YtheigbmkldlicaaDoor.zb
