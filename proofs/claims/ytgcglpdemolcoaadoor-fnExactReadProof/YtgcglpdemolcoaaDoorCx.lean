/- Formulas as texts: what headText, a builder's Len and CnfText of the program answer at every formula of at most 2^20 numbers, where the library's table of powers lies as its text lays it. -/
import Derived.Test.YtgcglpdemolcoaaDoorTxtW
import Derived.Test.YtgcglpdemolcoaaDoorOk
namespace Go.Proofs.YtgcglpdemolcoaaDoor.cx
open Go.ChangeShapes Go.WideShapes Go.ChangeAt Go.RowKit
open Go.Proofs.YtgcglpdemolcoaaDoor.sl (Sl hide unhide grown_refl grown_trans grown_drewN of_below below_of)
open Go.Proofs.YtgcglpdemolcoaaDoor.dec (str)
open Go.Proofs.YtgcglpdemolcoaaDoor.css (Sls tot)
open Go.Proofs.YtgcglpdemolcoaaDoor.ok (cnfB clB)
open Go.Proofs.YtgcglpdemolcoaaDoor.txt (Pow text body)
set_option linter.unusedVariables false

/-- a formula's first line -/
def hd (n c : Int) : List UInt8 := [112, 32, 99, 110, 102, 32] ++ Lib.itoa n ++ [32] ++ Lib.itoa c
/-- its clauses' lines -/
def lines (LL : List (List Int)) : List UInt8 := LL.flatMap fun L => text L ++ [10]
/-- .. and both -/
def whole (n : Int) (LL : List (List Int)) : List UInt8 := hd n (LL.length : Int) ++ [10] ++ lines LL
/-- CnfText -/
def cnfT (n : Int) (LL : List (List Int)) : List UInt8 := if cnfB n LL && decide ((whole n LL).length ≤ 12000) then whole n LL else []
theorem cnfT_no {n : Int} {LL : List (List Int)} (h : cnfB n LL = false) : cnfT n LL = [] := by unfold cnfT; rw [h]; rfl
theorem cnfT_long {n : Int} {LL : List (List Int)} (h : 12000 < (whole n LL).length) : cnfT n LL = [] := by
  unfold cnfT
  rw [decide_eq_false (by omega), Bool.and_false]
  rfl
theorem cnfT_yes {n : Int} {LL : List (List Int)} (h : cnfB n LL = true) (hl : ¬ 12000 < (whole n LL).length) : cnfT n LL = whole n LL := by
  unfold cnfT
  rw [h, decide_eq_true (by omega)]
  rfl
theorem itoa_len {x : Int} (h1 : -9223372036854775808 ≤ x) (h2 : x ≤ 9223372036854775807) : (Lib.itoa x).length ≤ 20 := by
  unfold Lib.itoa
  split
  · have a := Lib.decDigits_length x.natAbs
    have b := dec.nDigits_le 19 x.natAbs (by decide) (by omega)
    rw [List.length_cons]
    omega
  · have a := Lib.decDigits_length x.toNat
    have b := dec.nDigits_le 19 x.toNat (by decide) (by omega)
    omega
theorem hd_len {n c : Int} (h1 : -9223372036854775808 ≤ n ∧ n ≤ 9223372036854775807) (h2 : -9223372036854775808 ≤ c ∧ c ≤ 9223372036854775807) : (hd n c).length ≤ 47 := by
  have a := itoa_len h1.1 h1.2
  have b := itoa_len h2.1 h2.2
  unfold hd
  simp only [List.length_append, List.length_cons, List.length_nil]
  omega
theorem text_len (L : List Int) : (text L).length ≤ 529 := by
  cases h : cls.okAll L
  · rw [txt.text_no h]
    simp
  · rw [txt.text_yes h, List.length_append]
    have := txt.body_take_len h L.length
    rw [List.take_length] at this
    simp only [List.length_cons, List.length_nil]
    omega
theorem lines_len (LL : List (List Int)) : (lines LL).length ≤ 530 * LL.length := by
  induction LL with
  | nil => simp [lines]
  | cons L LL ih =>
    have e : lines (L :: LL) = text L ++ [10] ++ lines LL := by simp [lines]
    have := text_len L
    rw [e]
    simp only [List.length_append, List.length_cons, List.length_nil]
    omega
theorem lines_step (LL : List (List Int)) (k : Nat) (h : k < LL.length) : lines (LL.take (k + 1)) = lines (LL.take k) ++ (text (LL.getD k []) ++ [10]) := by
  rw [css.take_snoc LL k h]
  simp [lines]
theorem cat4 (a b : List UInt8) : Ending.returned (Value.string ((⟨#[112, 32, 99, 110, 102, 32]⟩ : ByteArray) ++ ⟨a.toArray⟩ ++ ⟨#[32]⟩ ++ ⟨b.toArray⟩)) = .returned (str ([112, 32, 99, 110, 102, 32] ++ a ++ [32] ++ b)) := by
  unfold str
  have e : (⟨#[112, 32, 99, 110, 102, 32]⟩ : ByteArray) ++ ⟨a.toArray⟩ ++ ⟨#[32]⟩ ++ ⟨b.toArray⟩ = ⟨([112, 32, 99, 110, 102, 32] ++ a ++ [32] ++ b).toArray⟩ := ByteArray.ext (by simp)
  rw [e]

theorem row_len {B : Nat} {e : TypeId} {v : Value} {xs : List Value} {n : Nat} {w : World} (h : w.ownsRow B e 1 v n xs) : ∃ a cap, v = .slice a n cap := by
  rcases h with ⟨_, ⟨rfl, rfl⟩ | ⟨k, cap, _, rfl, _⟩⟩
  · exact ⟨_, _, rfl⟩
  · exact ⟨_, _, rfl⟩

end Go.Proofs.YtgcglpdemolcoaaDoor.cx
