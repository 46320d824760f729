/- What spec.l01Dec answers: a number's decimal text; at every number of at most nine digits. -/
import Derived.Test.YtfokbkaommfnoaaGreatDoorSl
import Derived.Lib.ItoaNum
namespace Go.Proofs.YtfokbkaommfnoaaGreatDoor.dec
open Go.ChangeShapes Go.WideShapes Go.ChangeAt Go.RowKit
open Go.Proofs.YtfokbkaommfnoaaGreatDoor.sl (hide unhide)
set_option linter.unusedVariables false

/-- a text out of its bytes -/
def str (l : List UInt8) : Value := .string ⟨l.toArray⟩
theorem nDigits_le : ∀ (k u : Nat), 1 ≤ k → u < 10 ^ k → Lib.nDigits u ≤ k
  | 0, _, h, _ => by omega
  | k + 1, u, _, h => by
    by_cases h10 : u < 10
    · rw [Lib.nDigits_small h10]
      omega
    · rw [Lib.nDigits_big h10]
      have hk : 1 ≤ k := by
        cases k with
        | zero => exact absurd h (by simp; omega)
        | succ k => omega
      have := nDigits_le k (u / 10) hk (by rw [Nat.pow_succ] at h; omega)
      omega
theorem digit : ∀ d, d < 10 → (⟨#[48, 49, 50, 51, 52, 53, 54, 55, 56, 57]⟩ : ByteArray).extract d (d + 1) = ⟨#[UInt8.ofNat (48 + d)]⟩ := by decide
theorem dec_small {r : Nat} (h : r < 10) : Lib.decDigits r = [UInt8.ofNat (48 + r % 10)] := by rw [Lib.decDigits, dif_pos h, Nat.mod_eq_of_lt h]
theorem dec_big {r : Nat} (h : ¬ r < 10) : Lib.decDigits r = Lib.decDigits (r / 10) ++ [UInt8.ofNat (48 + r % 10)] := by rw [Lib.decDigits, dif_neg h]

theorem cat (d : Nat) (h : d < 10) (o : List UInt8) : Value.string ((⟨#[48, 49, 50, 51, 52, 53, 54, 55, 56, 57]⟩ : ByteArray).extract d (d + 1) ++ ⟨o.toArray⟩) = str (UInt8.ofNat (48 + d) :: o) := by
  rw [digit d h]
  unfold str
  congr 1

theorem retcat (o : List UInt8) : Ending.returned (Value.string ((⟨#[45]⟩ : ByteArray) ++ ⟨o.toArray⟩)) = .returned (str (45 :: o)) := by
  unfold str
  congr 2

/-- what is left of the digits -/
def Left (u r : Nat) (o : List UInt8) : Prop := if r = 0 then Lib.decDigits u = o else Lib.decDigits u = Lib.decDigits r ++ o
theorem Left.step {u r : Nat} {o : List UInt8} (h : Left u r o) (hr : r ≠ 0) : Left u (r / 10) (UInt8.ofNat (48 + r % 10) :: o) := by
  unfold Left at *
  rw [if_neg hr] at h
  by_cases h10 : r < 10
  · rw [if_pos (by omega), h, dec_small h10]
    rfl
  · rw [if_neg (by omega), h, dec_big h10, List.append_assoc]
    rfl
theorem Left.len {u r : Nat} {o : List UInt8} (h : Left u r o) (hu : u < 10 ^ 9) : o.length ≤ 9 := by
  have h1 := Lib.decDigits_length u
  have h2 := nDigits_le 9 u (by decide) hu
  unfold Left at h
  split at h
  · rw [h] at h1
    omega
  · rw [h, List.length_append] at h1
    omega

set_option maxHeartbeats 800000 in
set_option maxRecDepth 100000 in
theorem decPos (u : Nat) (w : World) (h0 : 0 < u) (hu : u < 10 ^ 9) : Calls Tryz.prog 26 #[.int .i64 (u : Int)] w fun e w' => e = .returned (str (Lib.decDigits u)) ∧ w' = w := by
  have hz : (((u : Int)) == 0) = false := by simp; omega
  have hnn : ¬ ((u : Int) < 0) := by omega
  go_enter Tryz.func26, Tryz.ntmps26
  go_wp2
  go_loop [3, 4] (fun s m => ∃ (r : Nat) (o : List UInt8), m = .int .i64 (r : Int) ∧ s = str o ∧ r ≤ u ∧ Hid (Left u r o)) (fun _ m => (intOf m).toNat)
  case atStart => exact ⟨u, [], rfl, rfl, Nat.le_refl _, by show Left u u []; unfold Left; rw [if_neg (by omega), List.append_nil]⟩
  case round =>
    obtain ⟨r, o, rfl, rfl, hru, hl⟩ := hrel
    have hol := (unhide hl).len hu
    by_cases hr : r = 0
    · have E : Hid (Lib.decDigits u = o) := by
        have := unhide hl
        unfold Left at this
        rw [if_pos hr] at this
        exact this
      subst hr
      clear hl
      go_wp2
      go_ret
      exact ⟨by rw [unhide E]; rfl, rfl⟩
    · have hne : (((r : Int)) != 0) = true := by simp; omega
      have N := (unhide hl).step hr
      have D := digit (r % 10) (Nat.mod_lt _ (by decide))
      obtain ⟨d, hd⟩ : ∃ d, d = r % 10 := ⟨_, rfl⟩
      obtain ⟨q, hq⟩ : ∃ q, q = r / 10 := ⟨_, rfl⟩
      have e1 : (r : Int) % 10 = (d : Int) := by omega
      have e2 : (r : Int) / 10 = (q : Int) := by omega
      have hd10 : d < 10 := by omega
      have hqr : q < r := by omega
      have hr64 : (r : Int) < 1000000000 := by omega
      rw [← hd, ← hq] at N
      rw [← hd] at D
      have NN := hide N
      clear N D hd hq hl
      have h10 : d = 0 ∨ d = 1 ∨ d = 2 ∨ d = 3 ∨ d = 4 ∨ d = 5 ∨ d = 6 ∨ d = 7 ∨ d = 8 ∨ d = 9 := by omega
      clear hd10
      unfold str
      rcases h10 with rfl | rfl | rfl | rfl | rfl | rfl | rfl | rfl | rfl | rfl
      · go_wp2
        go_round
        case rel => exact ⟨q, _, rfl, cat 0 (by decide) o, by omega, NN⟩
        case measure => simp [intOf]; omega
      · go_wp2
        go_round
        case rel => exact ⟨q, _, rfl, cat 1 (by decide) o, by omega, NN⟩
        case measure => simp [intOf]; omega
      · go_wp2
        go_round
        case rel => exact ⟨q, _, rfl, cat 2 (by decide) o, by omega, NN⟩
        case measure => simp [intOf]; omega
      · go_wp2
        go_round
        case rel => exact ⟨q, _, rfl, cat 3 (by decide) o, by omega, NN⟩
        case measure => simp [intOf]; omega
      · go_wp2
        go_round
        case rel => exact ⟨q, _, rfl, cat 4 (by decide) o, by omega, NN⟩
        case measure => simp [intOf]; omega
      · go_wp2
        go_round
        case rel => exact ⟨q, _, rfl, cat 5 (by decide) o, by omega, NN⟩
        case measure => simp [intOf]; omega
      · go_wp2
        go_round
        case rel => exact ⟨q, _, rfl, cat 6 (by decide) o, by omega, NN⟩
        case measure => simp [intOf]; omega
      · go_wp2
        go_round
        case rel => exact ⟨q, _, rfl, cat 7 (by decide) o, by omega, NN⟩
        case measure => simp [intOf]; omega
      · go_wp2
        go_round
        case rel => exact ⟨q, _, rfl, cat 8 (by decide) o, by omega, NN⟩
        case measure => simp [intOf]; omega
      · go_wp2
        go_round
        case rel => exact ⟨q, _, rfl, cat 9 (by decide) o, by omega, NN⟩
        case measure => simp [intOf]; omega

set_option maxHeartbeats 800000 in
set_option maxRecDepth 100000 in
theorem decNeg (u : Nat) (w : World) (h0 : 0 < u) (hu : u < 10 ^ 9) : Calls Tryz.prog 26 #[.int .i64 (-(u : Int))] w fun e w' => e = .returned (str (45 :: Lib.decDigits u)) ∧ w' = w := by
  have hz : ((-(u : Int)) == 0) = false := by simp; omega
  have hnn : -(u : Int) < 0 := by omega
  go_enter Tryz.func26, Tryz.ntmps26
  go_wp2
  go_loop [3, 4] (fun s m => ∃ (r : Nat) (o : List UInt8), m = .int .i64 (-(r : Int)) ∧ s = str o ∧ r ≤ u ∧ Hid (Left u r o)) (fun _ m => (-(intOf m)).toNat)
  case atStart => exact ⟨u, [], rfl, rfl, Nat.le_refl _, by show Left u u []; unfold Left; rw [if_neg (by omega), List.append_nil]⟩
  case round =>
    obtain ⟨r, o, rfl, rfl, hru, hl⟩ := hrel
    have hol := (unhide hl).len hu
    by_cases hr : r = 0
    · have E : Hid (Lib.decDigits u = o) := by
        have := unhide hl
        unfold Left at this
        rw [if_pos hr] at this
        exact this
      subst hr
      clear hl
      unfold str
      go_wp2
      go_ret
      exact ⟨by rw [unhide E]; exact retcat o, rfl⟩
    · have hne : ((-(r : Int)) != 0) = true := by simp; omega
      have N := (unhide hl).step hr
      have D := digit (r % 10) (Nat.mod_lt _ (by decide))
      obtain ⟨d, hd⟩ : ∃ d, d = r % 10 := ⟨_, rfl⟩
      obtain ⟨q, hq⟩ : ∃ q, q = r / 10 := ⟨_, rfl⟩
      have e1 : (-(r : Int)).tmod 10 = -(d : Int) := by rw [Int.neg_tmod, Int.tmod_eq_emod_of_nonneg (by omega)]; omega
      have e2 : (-(r : Int)).tdiv 10 = -(q : Int) := by rw [Int.neg_tdiv, Int.tdiv_eq_ediv_of_nonneg (by omega)]; omega
      have hd10 : d < 10 := by omega
      have hqr : q < r := by omega
      have hr64 : -1000000000 < -(r : Int) := by omega
      rw [← hd, ← hq] at N
      rw [← hd] at D
      have NN := hide N
      clear N D hd hq hl
      have h10 : d = 0 ∨ d = 1 ∨ d = 2 ∨ d = 3 ∨ d = 4 ∨ d = 5 ∨ d = 6 ∨ d = 7 ∨ d = 8 ∨ d = 9 := by omega
      clear hd10
      unfold str
      rcases h10 with rfl | rfl | rfl | rfl | rfl | rfl | rfl | rfl | rfl | rfl
      · go_wp2
        go_round
        case rel => exact ⟨q, _, rfl, cat 0 (by decide) o, by omega, NN⟩
        case measure => simp [intOf]; omega
      · go_wp2
        go_round
        case rel => exact ⟨q, _, rfl, cat 1 (by decide) o, by omega, NN⟩
        case measure => simp [intOf]; omega
      · go_wp2
        go_round
        case rel => exact ⟨q, _, rfl, cat 2 (by decide) o, by omega, NN⟩
        case measure => simp [intOf]; omega
      · go_wp2
        go_round
        case rel => exact ⟨q, _, rfl, cat 3 (by decide) o, by omega, NN⟩
        case measure => simp [intOf]; omega
      · go_wp2
        go_round
        case rel => exact ⟨q, _, rfl, cat 4 (by decide) o, by omega, NN⟩
        case measure => simp [intOf]; omega
      · go_wp2
        go_round
        case rel => exact ⟨q, _, rfl, cat 5 (by decide) o, by omega, NN⟩
        case measure => simp [intOf]; omega
      · go_wp2
        go_round
        case rel => exact ⟨q, _, rfl, cat 6 (by decide) o, by omega, NN⟩
        case measure => simp [intOf]; omega
      · go_wp2
        go_round
        case rel => exact ⟨q, _, rfl, cat 7 (by decide) o, by omega, NN⟩
        case measure => simp [intOf]; omega
      · go_wp2
        go_round
        case rel => exact ⟨q, _, rfl, cat 8 (by decide) o, by omega, NN⟩
        case measure => simp [intOf]; omega
      · go_wp2
        go_round
        case rel => exact ⟨q, _, rfl, cat 9 (by decide) o, by omega, NN⟩
        case measure => simp [intOf]; omega

/-- a number's text -/
theorem l01Dec (n : Int) (w : World) (h1 : -1000000000 < n) (h2 : n < 1000000000) : Calls Tryz.prog 26 #[.int .i64 n] w fun e w' => e = .returned (str (Lib.itoa n)) ∧ w' = w := by
  unfold Lib.itoa
  by_cases h0 : n = 0
  · subst h0
    go_enter Tryz.func26, Tryz.ntmps26
    go_wp2
    go_ret
    exact ⟨by rw [dec_small (by decide)]; rfl, rfl⟩
  · by_cases hn : n < 0
    · rw [if_pos hn]
      have e : n = -((n.natAbs : Nat) : Int) := by omega
      have c := decNeg n.natAbs w (by omega) (by omega)
      rw [← e] at c
      exact c
    · rw [if_neg hn]
      have e : n = ((n.toNat : Nat) : Int) := by omega
      have c := decPos n.toNat w (by omega) (by omega)
      rw [← e] at c
      exact c
end Go.Proofs.YtfokbkaommfnoaaGreatDoor.dec
