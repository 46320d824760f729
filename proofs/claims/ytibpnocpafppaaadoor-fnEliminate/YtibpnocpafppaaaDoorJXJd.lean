/- Mathematics of Project: a look at both ways of one variable counts the same from either; the word in which one variable is turned. -/
import Derived.Test.YtibpnocpafppaaaDoorJXJa
import Derived.Test.YtibpnocpafppaaaDoorJXAt
import Derived.Test.YtibpnocpafppaaaDoorJLc
namespace Go.Proofs.YtibpnocpafppaaaDoor.jd
open Go.ChangeShapes Go.WideShapes Go.ChangeAt Go.RowKit
open sl (hide unhide ret_bool)
open lits (okB okB_iff varI)
open bset (setOf placeN withN withN_bit placeN_le placeC)
open ok (litIn clB cnfB)
open tr (litT clT cnfT)
open cnt (le le_len cntR C asg asg_len)
open at_ (at_ at_bits at_lt)
set_option linter.unusedVariables false
theorem C_congr (n : Nat) : ∀ (f g : List Int → Bool), (∀ a, a.length = n → (∀ b ∈ a, b = 0 ∨ b = 1) → f a = g a) → C n f = C n g := by
 induction n with
 | zero =>
  intro f g h
  show (if f [] then 1 else 0) = (if g [] then 1 else 0)
  rw [h [] rfl (fun b hb => by cases hb)]
 | succ n ih =>
  intro f g h
  show C n _ + C n _ = C n _ + C n _
  rw [ih _ (fun l => g (0 :: l)) (fun a ha hb => h (0 :: a) (by simp [ha]) (fun b hb' => by rcases List.mem_cons.1 hb' with rfl | h'; exact .inl rfl; exact hb b h')),
   ih (fun l => f (1 :: l)) (fun l => g (1 :: l)) (fun a ha hb => h (1 :: a) (by simp [ha]) (fun b hb' => by rcases List.mem_cons.1 hb' with rfl | h'; exact .inr rfl; exact hb b h'))]
def flp (i : Nat) (a : List Int) : List Int := a.set i (1 - a.getD i 0)
theorem C_flip (n : Nat) : ∀ (i : Nat) (f : List Int → Bool), i < n → C n f = C n (fun a => f (flp i a)) := by
 induction n with
 | zero => intro i f h; omega
 | succ n ih =>
  intro i f h
  cases i with
  | zero =>
   show C n (fun l => f (0 :: l)) + C n (fun l => f (1 :: l)) = C n (fun l => f (1 :: l)) + C n (fun l => f (0 :: l))
   omega
  | succ i =>
   show C n (fun l => f (0 :: l)) + C n (fun l => f (1 :: l)) = C n (fun l => f (0 :: flp i l)) + C n (fun l => f (1 :: flp i l))
   rw [ih i (fun l => f (0 :: l)) (by omega), ih i (fun l => f (1 :: l)) (by omega)]
theorem set_same (a : List Int) (i : Nat) : a.set i (a.getD i 0) = a := by
 by_cases h : i < a.length
 ·rw [show a.getD i 0 = a[i] by simp [h]]
  exact List.set_getElem_self h
 ·exact List.set_eq_of_length_le (by omega)
def fP (i : Nat) (LL : List (List Int)) (a : List Int) : Bool := decide (a.getD i 0 = 1) && (cnfT a LL || cnfT (a.set i 0) LL)
def fM (i : Nat) (LL : List (List Int)) (a : List Int) : Bool := !decide (a.getD i 0 = 1) && (cnfT a LL || cnfT (a.set i 1) LL)
theorem both_ways (n i : Nat) (LL : List (List Int)) (h : i < n) : C n (fP i LL) = C n (fM i LL) := by
 rw [C_flip n i (fP i LL) h]
 refine C_congr n _ _ fun a ha hb => ?_
 have hz : a.getD i 0 = 0 ∨ a.getD i 0 = 1 := by
  rw [show a.getD i 0 = a[i]'(by omega) by simp [ha, h]]
  exact hb _ (List.getElem_mem _)
 have e := set_same a i
 unfold fP fM flp
 rw [ja.set_get, if_pos ⟨rfl, by omega⟩, List.set_set]
 rcases hz with z | z
 ·rw [z] at e ⊢
  rw [e, Bool.or_comm]
  rfl
 ·rw [z]
  rfl
theorem le_ge (n : Nat) : ∀ (i j : Nat), (le n j).getD i 0 = 1 → 2 ^ i ≤ j := by
 induction n with
 | zero => intro i j h; simp [cnt.le] at h
 | succ n ih =>
  intro i j h
  cases i with
  | zero =>
   have e : (le (n + 1) j).getD 0 0 = ((j % 2 : Nat) : Int) := rfl
   rw [e] at h
   show 1 ≤ j
   omega
  | succ i =>
   have e : (le (n + 1) j).getD (i + 1) 0 = (le n (j / 2)).getD i 0 := rfl
   rw [e] at h
   have := ih i (j / 2) h
   rw [Nat.pow_succ]
   omega
theorem le_down (n : Nat) : ∀ (i j : Nat), (le n j).getD i 0 = 1 → le n (j - 2 ^ i) = (le n j).set i 0 := by
 induction n with
 | zero => intro i j h; simp [cnt.le] at h
 | succ n ih =>
  intro i j h
  cases i with
  | zero =>
   have e : (le (n + 1) j).getD 0 0 = ((j % 2 : Nat) : Int) := rfl
   rw [e] at h
   show (((j - 2 ^ 0) % 2 : Nat) : Int) :: le n ((j - 2 ^ 0) / 2) = 0 :: le n (j / 2)
   rw [Nat.pow_zero, show (j - 1) % 2 = 0 by omega, show (j - 1) / 2 = j / 2 by omega]
   rfl
  | succ i =>
   have e : (le (n + 1) j).getD (i + 1) 0 = (le n (j / 2)).getD i 0 := rfl
   have hg := le_ge (n + 1) (i + 1) j h
   rw [e] at h
   show (((j - 2 ^ (i + 1)) % 2 : Nat) : Int) :: le n ((j - 2 ^ (i + 1)) / 2) = ((j % 2 : Nat) : Int) :: (le n (j / 2)).set i 0
   rw [Nat.pow_succ] at *
   rw [← ih i (j / 2) h, show (j - 2 ^ i * 2) % 2 = j % 2 by omega, show (j - 2 ^ i * 2) / 2 = j / 2 - 2 ^ i by omega]
theorem at_small (n : Nat) : ∀ j, at_ n j < 2 ^ (2 * n) := by
 induction n with
 | zero => intro j; simp [at_]
 | succ n ih =>
  intro j
  have := ih (j / 2)
  have e : at_ (n + 1) j = 4 * at_ n (j / 2) + (if j % 2 = 1 then 1 else 2) := rfl
  rw [e, show 2 * (n + 1) = 2 * n + 2 by omega, Nat.pow_add]
  split <;> omega
theorem place_pos {v : Nat} (h0 : 1 ≤ v) (h1 : v ≤ 24) : placeN (v : Int) = 2 * (v - 1) ∧ placeN (-(v : Int)) = 2 * (v - 1) + 1 := by
 unfold bset.placeN lits.placeI
 rw [if_neg (show ¬ (v : Int) < 0 by omega), if_pos (show -(v : Int) < 0 by omega)]
 omega
theorem word_down {m j v : Nat} (h0 : 1 ≤ v) (hv : v ≤ m) (hm : m ≤ 24) (h : (le m j).getD (v - 1) 0 = 1) : withN (srt.woN (at_ m j) (v : Int)) (-(v : Int)) = at_ m (j - 2 ^ (v - 1)) := by
 obtain ⟨p1, p2⟩ := place_pos h0 (show v ≤ 24 by omega)
 apply Nat.eq_of_testBit_eq
 intro k
 rw [withN_bit, srt.woN_bit _ _ _ (at_lt m j hm) (okB_iff.2 ⟨by omega, by omega, by omega⟩), p1, p2]
 by_cases hk : k < 2 * m
 ·have hd := le_down m (v - 1) j h
  have sg := ja.set_get (le m j) (v - 1)
  rcases (show ∃ q, q < m ∧ (k = 2 * q ∨ k = 2 * q + 1) from ⟨k / 2, by omega, by omega⟩) with ⟨q, hq, rfl | rfl⟩
  ·rw [(at_bits m j q hq).1, (at_bits m _ q hq).1, hd, sg, le_len]
   by_cases e : v - 1 = q
   ·subst e
    simp [hq]
   ·have e2 : ¬ 2 * (v - 1) = 2 * q := by omega
    have e3 : ¬ 2 * (v - 1) + 1 = 2 * q := by omega
    rw [decide_eq_false e2, decide_eq_false e3, if_neg (fun hh => e hh.1)]
    simp
  ·rw [(at_bits m j q hq).2, (at_bits m _ q hq).2, hd, sg, le_len]
   by_cases e : v - 1 = q
   ·subst e
    simp [hq]
   ·have e2 : ¬ 2 * (v - 1) = 2 * q + 1 := by omega
    have e3 : ¬ 2 * (v - 1) + 1 = 2 * q + 1 := by omega
    rw [decide_eq_false e2, decide_eq_false e3, if_neg (fun hh => e hh.1)]
    simp
 ·have b1 : (at_ m j).testBit k = false := Nat.testBit_lt_two_pow (Nat.lt_of_lt_of_le (at_small m j) (Nat.pow_le_pow_right (by decide) (by omega)))
  have b2 : (at_ m (j - 2 ^ (v - 1))).testBit k = false := Nat.testBit_lt_two_pow (Nat.lt_of_lt_of_le (at_small m _) (Nat.pow_le_pow_right (by decide) (by omega)))
  have e3 : ¬ 2 * (v - 1) + 1 = k := by omega
  rw [b1, b2]
  simp [e3]
def projN (m v : Nat) (LL : List (List Int)) : Nat := C m (fM (v - 1) LL)
def projI (n v : Int) (LL : List (List Int)) : Int := if ge.hvB n v LL && decide (n ≤ 14) then (projN n.toNat v.toNat LL : Int) else -1
def gP (m v : Nat) (LL : List (List Int)) (j : Nat) : Bool := fP (v - 1) LL (le m j)
theorem proj_range {m v : Nat} {LL : List (List Int)} (h0 : 1 ≤ v) (h : v ≤ m) : ((List.range (2 ^ m)).filter (gP m v LL)).length = projN m v LL := by
 have h1 := cnt.cnt_le m (fP (v - 1) LL)
 unfold cntR at h1
 unfold gP projN
 rw [h1, both_ways m (v - 1) LL (by omega)]
theorem proj_asg {m v : Nat} {LL : List (List Int)} : cntR (2 ^ m) (fun k => fM (v - 1) LL (asg m k [])) = projN m v LL := cnt.cnt_asg m (fM (v - 1) LL)
theorem proj_le {m v : Nat} (LL : List (List Int)) (hm : m ≤ 14) : projN m v LL ≤ 16384 := by
 rw [← proj_asg]
 unfold cntR
 have h1 := List.length_filter_le (fun k => fM (v - 1) LL (asg m k [])) (List.range (2 ^ m))
 rw [List.length_range] at h1
 have : 2 ^ m ≤ 2 ^ 14 := Nat.pow_le_pow_right (by decide) hm
 omega
theorem proj_no {n v : Int} {LL : List (List Int)} (h : ge.hvB n v LL = false ∨ ¬ n ≤ 14) : projI n v LL = -1 := by
 unfold projI
 rcases h with h | h
 ·rw [h]; rfl
 ·rw [decide_eq_false h, Bool.and_false]; rfl
theorem proj_yes {m v : Nat} {LL : List (List Int)} (h : ge.hvB (m : Int) (v : Int) LL = true) (hm : m ≤ 14) : projI (m : Int) (v : Int) LL = (projN m v LL : Int) := by
 unfold projI
 rw [h, decide_eq_true (show (m : Int) ≤ 14 by omega)]
 rfl
theorem looks {m v j : Nat} {LL : List (List Int)} (h0 : 1 ≤ v) (h : v ≤ m) (hm : m ≤ 24) (hc : LL.all (clB (m : Int)) = true) :
  (at_ m j).testBit (placeN (v : Int)) = decide ((le m j).getD (v - 1) 0 = 1)
  ∧ su.meets (LL.map setOf) (at_ m j) = cnfT (le m j) LL
  ∧ ((le m j).getD (v - 1) 0 = 1 → su.meets (LL.map setOf) (withN (srt.woN (at_ m j) (v : Int)) (-(v : Int))) = cnfT ((le m j).set (v - 1) 0) LL) := by
 refine ⟨?_, at_.meets_at hc, fun hb => ?_⟩
 ·rw [(place_pos h0 (by omega)).1]
  exact (at_bits m j (v - 1) (by omega)).1
 ·rw [word_down h0 h hm hb, at_.meets_at hc, le_down m (v - 1) j hb]
end Go.Proofs.YtibpnocpafppaaaDoor.jd
