/- A clause's text, as a plain function on lists of bytes. -/
import Derived.Test.YtfokbkaommfnoaaGreatDoorCls
import Derived.Test.YtfokbkaommfnoaaGreatDoorDec
namespace Go.Proofs.YtfokbkaommfnoaaGreatDoor.txt
open Go.RowKit
open Go.Proofs.YtfokbkaommfnoaaGreatDoor.lits (okB okB_iff)
open Go.Proofs.YtfokbkaommfnoaaGreatDoor.cls (okAll)

/-- the texts of numbers, each with a blank behind it -/
def body (L : List Int) : List UInt8 := L.flatMap fun x => Lib.itoa x ++ [32]
/-- ClauseText -/
def text (L : List Int) : List UInt8 := if okAll L then body L ++ [48] else []
theorem body_snoc (L : List Int) (x : Int) : body (L ++ [x]) = body L ++ (Lib.itoa x ++ [32]) := by simp [body]
theorem body_step (L : List Int) (k : Nat) (h : k < L.length) : body (L.take (k + 1)) = body (L.take k) ++ (Lib.itoa (L.getD k 0) ++ [32]) := by
  rw [List.take_succ_eq_append_getElem h, body_snoc, show L.getD k 0 = L[k] by simp [h]]
theorem itoa_len {x : Int} (h1 : -1000000000 < x) (h2 : x < 1000000000) : (Lib.itoa x).length ≤ 10 := by
  unfold Lib.itoa
  split
  · have := dec.nDigits_le 9 x.natAbs (by decide) (by omega)
    rw [List.length_cons, Lib.decDigits_length]
    omega
  · have := dec.nDigits_le 9 x.toNat (by decide) (by omega)
    rw [Lib.decDigits_length]
    omega
theorem lit_of {L : List Int} {k : Nat} (hok : L.all okB = true) (h : k < L.length) : L.getD k 0 ≠ 0 ∧ -24 ≤ L.getD k 0 ∧ L.getD k 0 ≤ 24 := by
  rw [show L.getD k 0 = L[k] by simp [h]]
  exact okB_iff.1 (List.all_eq_true.1 hok _ (List.getElem_mem h))
theorem body_len (L : List Int) (hok : L.all okB = true) : (body L).length ≤ 11 * L.length := by
  induction L with
  | nil => simp [body]
  | cons x l ih =>
    rw [List.all_cons, Bool.and_eq_true] at hok
    have h1 := okB_iff.1 hok.1
    have h2 := itoa_len (x := x) (by omega) (by omega)
    have h3 := ih hok.2
    have e : body (x :: l) = (Lib.itoa x ++ [32]) ++ body l := by simp [body]
    rw [e, List.length_append, List.length_append, List.length_cons]
    simp
    omega
theorem take_ok {L : List Int} (hok : L.all okB = true) (k : Nat) : (L.take k).all okB = true := by
  rw [List.all_eq_true] at *
  exact fun x hx => hok x (List.mem_of_mem_take hx)
theorem body_take_len {L : List Int} (hok : okAll L = true) (k : Nat) : (body (L.take k)).length ≤ 528 := by
  unfold okAll at hok
  rw [Bool.and_eq_true, decide_eq_true_iff] at hok
  have h1 := body_len _ (take_ok hok.1 k)
  have h2 : (L.take k).length ≤ L.length := List.length_take_le' _ _
  omega
theorem text_no {L : List Int} (h : okAll L = false) : text L = [] := by unfold text; rw [h]; rfl
theorem text_yes {L : List Int} (h : okAll L = true) : text L = body L ++ [48] := by unfold text; rw [h]; rfl
end Go.Proofs.YtfokbkaommfnoaaGreatDoor.txt
