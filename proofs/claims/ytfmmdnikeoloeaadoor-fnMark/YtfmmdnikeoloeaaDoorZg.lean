/- HexBytes of the model: two digits a byte, refused at the first pair that is none; no condition but on sizes. -/
import Derived.Test.YtfmmdnikeoloeaaDoorZe
import Derived.Lib.Bytealg
namespace Go.Proofs.YtfmmdnikeoloeaaDoor.zg
open Go.ChangeShapes Go.WideShapes Go.ChangeAt Go.RowKit
open Go.Proofs.YtfmmdnikeoloeaaDoor.sl (hide unhide ret_int ret_bool grown_refl grown_trans grown_drewN)
open Go.Proofs.YtfmmdnikeoloeaaDoor.zb (at_ at_bd at_eq wrap64)
open Go.Proofs.YtfmmdnikeoloeaaDoor.byt (Byt MadeB run_app run_back run_of)
open Go.Proofs.YtfmmdnikeoloeaaDoor.ze (of_own made_nil MadeB.kept wpB appB cell_new one_at bts bts_length)
open Go.Proofs.YtfmmdnikeoloeaaDoor.dec (str)
set_option linter.unusedVariables false

/-- the number of a hexadecimal digit, -1 of what is none -/
def dv (c : Int) : Int := if 48 ≤ c ∧ c ≤ 57 then c - 48 else if 97 ≤ c ∧ c ≤ 102 then c - 87 else -1
theorem dv_bd (c : Int) : -1 ≤ dv c ∧ dv c ≤ 15 := by
  unfold dv
  split
  · omega
  · split <;> omega
def okc (s : ByteArray) (k : Nat) : Bool := decide (0 ≤ dv (at_ s k))
/-- the first k bytes are digits -/
def Good (s : ByteArray) (k : Nat) : Prop := ∀ j, j < k → 0 ≤ dv (at_ s j)
theorem Good.succ {s : ByteArray} {k : Nat} (h : Good s k) (h1 : 0 ≤ dv (at_ s k)) : Good s (k + 1) := fun j hj => by
  by_cases e : j = k
  · rw [e]; exact h1
  · exact h j (by omega)
def vl (s : ByteArray) : Nat → List UInt8
  | 0 => []
  | j + 1 => vl s j ++ [UInt8.ofNat (16 * dv (at_ s (2 * j)) + dv (at_ s (2 * j + 1))).toNat]
theorem vl_length (s : ByteArray) : ∀ j, (vl s j).length = j
  | 0 => rfl
  | j + 1 => by rw [vl, List.length_append, vl_length s j]; rfl
/-- whether a text is hexadecimal -/
def hexOk (s : ByteArray) : Bool := decide (s.size % 2 = 0 ∧ s.size ≤ 120000) && (List.range s.size).all (okc s)
theorem hexOk_yes {s : ByteArray} (h0 : s.size % 2 = 0) (h1 : s.size ≤ 120000) (h : Good s s.size) : hexOk s = true := by
  unfold hexOk
  rw [Bool.and_eq_true, decide_eq_true_iff, List.all_eq_true]
  exact ⟨⟨h0, h1⟩, fun j hj => by unfold okc; exact decide_eq_true (h j (List.mem_range.1 hj))⟩
theorem hexOk_no {s : ByteArray} {j : Nat} (hj : j < s.size) (h : dv (at_ s j) < 0) : hexOk s = false := by
  cases e : hexOk s
  · rfl
  · unfold hexOk at e
    rw [Bool.and_eq_true, List.all_eq_true] at e
    have := e.2 j (List.mem_range.2 hj)
    unfold okc at this
    have := of_decide_eq_true this
    omega
theorem hexOk_size {s : ByteArray} (h : ¬ (s.size % 2 = 0 ∧ s.size ≤ 120000)) : hexOk s = false := by
  unfold hexOk
  rw [decide_eq_false h]
  rfl
/-- what HexBytes answers -/
def hexB (s : ByteArray) : List UInt8 := if hexOk s then vl s (s.size / 2) else []

theorem specIn (x a b : Int) (w : World) : Calls Tryd.prog 45 #[.int .i64 x, .int .i64 a, .int .i64 b] w fun e w' => e = .returned (.bool (decide (a ≤ x ∧ x ≤ b))) ∧ w' = w := by
  by_cases h1 : a ≤ x
  · by_cases h2 : x ≤ b
    · rw [decide_eq_true (And.intro h1 h2)]
      go_enter Tryd.func45, Tryd.ntmps45
      go_wp2
      go_ret
      exact ⟨rfl, rfl⟩
    · rw [decide_eq_false (fun h => h2 h.2)]
      go_enter Tryd.func45, Tryd.ntmps45
      go_wp2
      go_ret
      exact ⟨rfl, rfl⟩
  · rw [decide_eq_false (fun h => h1 h.1)]
    go_enter Tryd.func45, Tryd.ntmps45
    go_wp2
    go_ret
    exact ⟨rfl, rfl⟩
end Go.Proofs.YtfmmdnikeoloeaaDoor.zg
