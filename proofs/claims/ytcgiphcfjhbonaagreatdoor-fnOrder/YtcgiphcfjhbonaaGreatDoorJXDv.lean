/- What FnAssign draws and asks: lists of values, the literals that are true at them, and that an assignment comes back from its text; whatever the bytes. -/
import Derived.Test.YtcgiphcfjhbonaaGreatDoorJOr
import Derived.Test.YtcgiphcfjhbonaaGreatDoorJOd
namespace Go.Proofs.YtcgiphcfjhbonaaGreatDoor.dv
open Go.ChangeShapes Go.WideShapes Go.ChangeAt Go.RowKit
open sl (Sl Own ints hide unhide ret_int ret_bool grown_refl grown_trans grown_trans' grown_drewN below_of of_below)
open wo (Made)
open tr (bitB)
open as_ (tl tl_step tl_len litAt asText)
open ra (bit bitsOf goodA raB raL)
open draw (Cur Bs newCur grown_new)
open dcls (MadeC MadeC.start appendC)
set_option linter.unusedVariables false
theorem bit_lit {x : Int} (h : bitB x = true) (i : Nat) : bit (litAt i x) = x := by
 unfold tr.bitB at h
 have := of_decide_eq_true h
 have hx : x = 0 ∨ x = 1 := by omega
 rcases hx with rfl | rfl
 ·have e : litAt i 0 = -(i : Int) - 1 := if_neg (by decide)
  rw [e]
  exact if_neg (by omega)
 ·have e : litAt i 1 = (i : Int) + 1 := if_pos rfl
  rw [e]
  exact if_pos (by omega)
theorem bits_tl (A : List Int) : ∀ k, A.all bitB = true → bitsOf (tl k A) = A := by
 induction A with
 | nil => intro k _; rfl
 | cons x l ih =>
  intro k h
  rw [List.all_cons, Bool.and_eq_true] at h
  show bit (litAt k x) :: bitsOf (tl (k + 1) l) = x :: l
  rw [bit_lit h.1, ih (k + 1) h.2]
theorem back {A : List Int} (hl : A.length ≤ 24) (hb : A.all bitB = true) :
  rd.readB (asText A) = true ∧ rd.readL (asText A) = tl 0 A ∧ raB (asText A) (A.length : Int) = true ∧ raL (asText A) (A.length : Int) = A ∧ raB (asText A) ((A.length : Int) + 1) = false := by
 have e := as_.asText_yes hl hb
 have r := rd.read_full (ra.tl_okAll hl)
 have h1 : rd.readB (asText A) = true := by unfold rd.readB; rw [e, r]; rfl
 have h2 : rd.readL (asText A) = tl 0 A := by unfold rd.readL; rw [e, r]; rfl
 have h3 : goodA (tl 0 A) = true := by unfold ra.goodA; rw [bits_tl A 0 hb]; exact decide_eq_true rfl
 have h4 : raB (asText A) (A.length : Int) = true := by unfold ra.raB; rw [h1, h2, h3, tl_len, decide_eq_true rfl]; rfl
 refine ⟨h1, h2, h4, ?_, ?_⟩
 ·rw [ra.ra_yes h4, h2, bits_tl A 0 hb]
 ·unfold ra.raB
  rw [h2, tl_len, decide_eq_false (by omega)]
  simp
end Go.Proofs.YtcgiphcfjhbonaaGreatDoor.dv
