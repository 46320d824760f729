/- What spec.l01Num answers at every text of at most 2^20 bytes. -/
import Derived.Test.YtjmjgjlldkpemaaDoorRdM
import Derived.WalkSpells
namespace Go.Proofs.YtjmjgjlldkpemaaDoor.rd
open Go.ChangeShapes Go.WideShapes Go.ChangeAt Go.RowKit
open Go.Proofs.YtjmjgjlldkpemaaDoor.dec (str)
open Go.Proofs.YtjmjgjlldkpemaaDoor.sl (hide unhide ret_bool ret_int)
set_option linter.unusedVariables false

/-- the bytes of a text -/
def bytes (s : ByteArray) : List UInt8 := s.data.toList
theorem toList_bytes (s : ByteArray) : s.toList = bytes s := ByteArray.toList_eq s
theorem bytes_len (s : ByteArray) : (bytes s).length = s.size := by unfold bytes; rw [Array.length_toList]; rfl
theorem bytes_extract (s : ByteArray) (a b : Nat) : bytes (s.extract a b) = ((bytes s).take b).drop a := by
  unfold bytes
  rw [ByteArray.data_extract, Array.toList_extract, List.drop_take]
theorem bytes_take (s : ByteArray) (k : Nat) (h : k < s.size) : (bytes s).take (k + 1) = (bytes s).take k ++ [s[k]] := by
  unfold bytes
  rw [List.take_succ_eq_append_getElem (by rw [Array.length_toList]; exact h)]
  rfl
theorem bytes_mem (s : ByteArray) (k : Nat) (h : k < s.size) : s[k] ∈ bytes s := by
  unfold bytes
  exact Array.getElem_mem_toList (h := h)
theorem val_lt (l : List UInt8) (h : l.all (fun c => decide (48 ≤ c.toNat ∧ c.toNat ≤ 57)) = true) : val l < 10 ^ l.length := by
  have gen : ∀ (l : List UInt8) (a k : Nat), l.all (fun c => decide (48 ≤ c.toNat ∧ c.toNat ≤ 57)) = true → a < 10 ^ k → l.foldl (fun a c => 10 * a + (c.toNat - 48)) a < 10 ^ (k + l.length) := by
    intro l
    induction l with
    | nil => intro a k _ h; exact h
    | cons c l ih =>
      intro a k hl ha
      rw [List.all_cons, Bool.and_eq_true, decide_eq_true_iff] at hl
      rw [List.foldl_cons, List.length_cons, show k + (l.length + 1) = (k + 1) + l.length from by omega]
      refine ih _ _ hl.2 ?_
      rw [Nat.pow_succ]
      omega
  have := gen l 0 0 h (by decide)
  rwa [Nat.zero_add] at this

theorem inC (x : Int) (w : World) : Calls Tryd.prog 53 #[.int .i64 x, .int .i64 48, .int .i64 57] w fun e w' => e = .returned (.bool (decide (48 ≤ x ∧ x ≤ 57))) ∧ w' = w := by
  by_cases h1 : 48 ≤ x
  · by_cases h2 : x ≤ 57
    · rw [decide_eq_true ⟨h1, h2⟩]
      go_enter Tryd.func53, Tryd.ntmps53
      go_wp2
      go_ret
      exact ⟨rfl, rfl⟩
    · rw [decide_eq_false (fun h => h2 h.2)]
      go_enter Tryd.func53, Tryd.ntmps53
      go_wp2
      go_ret
      exact ⟨rfl, rfl⟩
  · rw [decide_eq_false (fun h => h1 h.1)]
    have h1' : decide (48 ≤ x) = false := decide_eq_false h1
    go_enter Tryd.func53, Tryd.ntmps53
    go_wp2
    go_ret
    exact ⟨rfl, rfl⟩

/-- every byte is a digit -/
def dig (l : List UInt8) : Bool := l.all fun c => decide (48 ≤ c.toNat ∧ c.toNat ≤ 57)
theorem dig_hit (s : ByteArray) (k : Nat) (h : k < s.size) (hx : decide (48 ≤ (s[k].toNat : Int) ∧ (s[k].toNat : Int) ≤ 57) = false) : dig (bytes s) = false := by
  unfold dig
  rw [List.all_eq_false]
  refine ⟨s[k], bytes_mem s k h, ?_⟩
  rw [decide_eq_false_iff_not] at hx
  simp only [decide_eq_true_iff]
  omega
theorem dig_step (s : ByteArray) (k : Nat) (h : k < s.size) (hd : dig ((bytes s).take k) = true) (hx : decide (48 ≤ (s[k].toNat : Int) ∧ (s[k].toNat : Int) ≤ 57) = true) : dig ((bytes s).take (k + 1)) = true := by
  unfold dig at *
  rw [bytes_take s k h, List.all_append, hd]
  rw [decide_eq_true_iff] at hx
  simp only [List.all_cons, List.all_nil, Bool.and_true, Bool.true_and, decide_eq_true_iff]
  omega
theorem val_step (s : ByteArray) (k : Nat) (h : k < s.size) (hx : decide (48 ≤ (s[k].toNat : Int) ∧ (s[k].toNat : Int) ≤ 57) = true) : ((val ((bytes s).take (k + 1)) : Nat) : Int) = 10 * ((val ((bytes s).take k) : Nat) : Int) + (s[k].toNat : Int) - 48 := by
  rw [decide_eq_true_iff] at hx
  rw [bytes_take s k h, val_snoc]
  omega
theorem val_small (s : ByteArray) (k : Nat) (h9 : s.size ≤ 9) (hd : dig ((bytes s).take k) = true) : val ((bytes s).take k) < 1000000000 := by
  have h1 := val_lt _ hd
  have h2 : ((bytes s).take k).length ≤ 9 := by
    rw [List.length_take, bytes_len]
    omega
  have h3 : 10 ^ ((bytes s).take k).length ≤ 10 ^ 9 := Nat.pow_le_pow_right (by decide) h2
  omega
theorem ret_eq (n : Int) (q : List UInt8) (s : ByteArray) : Ending.returned (.tuple #[.int .i64 n, .bool (q == s.toList)]) = .returned (.tuple #[.int .i64 n, .bool (decide (q = bytes s))]) := by
  rw [show (q == s.toList) = decide (q = bytes s) from by rw [Bool.eq_iff_iff, beq_iff_eq, decide_eq_true_iff, toList_bytes]]
/-- what is answered where there are one to nine digits -/
def fin (neg : Bool) (s d : List UInt8) : Int × Bool := if dig d then ((if neg then -((val d : Nat) : Int) else ((val d : Nat) : Int)), decide (Lib.itoa (if neg then -((val d : Nat) : Int) else ((val d : Nat) : Int)) = s)) else (0, false)
theorem fin_no {neg : Bool} {s d : List UInt8} (h : dig d = false) : fin neg s d = (0, false) := by unfold fin; rw [h]; rfl
theorem fin_neg {s d : List UInt8} (h : dig d = true) : fin true s d = (-((val d : Nat) : Int), decide (Lib.itoa (-((val d : Nat) : Int)) = s)) := by unfold fin; rw [h]; rfl
theorem fin_pos {s d : List UInt8} (h : dig d = true) : fin false s d = (((val d : Nat) : Int), decide (Lib.itoa ((val d : Nat) : Int) = s)) := by unfold fin; rw [h]; rfl

theorem num_fin {l : List UInt8} (h : decide (1 ≤ (numDig l).length ∧ (numDig l).length ≤ 9) = true) (neg : Bool) (hn : neg = decide ((numDig l).length < l.length)) : num l = fin neg l (numDig l) := by
  unfold num numOk numV fin
  rw [h, Bool.true_and, hn]
  show (if dig (numDig l) then _ else _) = _
  by_cases h2 : (numDig l).length < l.length
  · rw [decide_eq_true h2, if_pos h2]
    rfl
  · rw [decide_eq_false h2, if_neg h2]
    rfl
theorem num_no {l : List UInt8} (h : decide (1 ≤ (numDig l).length ∧ (numDig l).length ≤ 9) = false) : num l = (0, false) := by
  unfold num numOk
  rw [h]
  rfl

end Go.Proofs.YtjmjgjlldkpemaaDoor.rd
