/- What the laws draw of assignments (values), and what stays while a cursor turns; whatever the bytes. -/
import Derived.Test.YtfokbkaommfnoaaGreatDoorDCl
namespace Go.Proofs.YtfokbkaommfnoaaGreatDoor.dva
open Go.ChangeShapes Go.WideShapes Go.ChangeAt Go.RowKit
open Go.Proofs.YtfokbkaommfnoaaGreatDoor.sl (Sl ints hide unhide grown_refl grown_trans grown_trans' of_below below_of grown_drewN)
open Go.Proofs.YtfokbkaommfnoaaGreatDoor.draw (Cur Bs I64 newCur grown_new)
open Go.Proofs.YtfokbkaommfnoaaGreatDoor.wo (Made)
set_option linter.unusedVariables false

theorem madeC_own {c : Nat} {w wr w1 : World} {lo : Nat} {v : Value} {L : List Int} (h : wr.ownsRow lo 3 1 v L.length (ints L)) (hc : c < lo) (g : wr.grownBy w1 (some c)) : w1.ownsRow lo 3 1 v L.length (ints L) := by
  refine h.kept g ?_
  cases e : v.ownBlock with
  | none => exact .inl rfl
  | some k => exact .inr (fun e' => by cases e'; have := (h.lt _ e).1; omega)

theorem cur_ty : (76 : Nat) ≠ 3 := by decide
theorem cur_ne {w : World} {c lo n : Nat} {v : Value} {xs : List Value} (h : w.ownsRow lo 3 1 v n xs) (hc : Cur w c) : v.ownBlock ≠ some c := by
  intro e
  obtain ⟨cs, fz, hk⟩ := css.own_kind h c e
  obtain ⟨_, _, _, _, _, _, _, hb, _⟩ := hc
  rw [hb] at hk
  simp only [Option.some.injEq, Obj.cells.injEq] at hk
  exact cur_ty hk.2.1
theorem row_turn {w w1 : World} {c lo : Nat} {v : Value} {L : List Int} (h : w.ownsRow lo 3 1 v L.length (ints L)) (hc : Cur w c) (g : w.grownBy w1 (some c)) : w1.ownsRow lo 3 1 v L.length (ints L) := by
  refine h.kept g ?_
  cases e : v.ownBlock with
  | none => exact .inl rfl
  | some k => exact .inr (fun e' => cur_ne h hc (e.trans e'))
theorem row_none {w w1 : World} {lo : Nat} {v : Value} {L : List Int} (h : w.ownsRow lo 3 1 v L.length (ints L)) (g : w.grownBy w1 none) : w1.ownsRow lo 3 1 v L.length (ints L) := by
  refine h.kept g ?_
  cases e : v.ownBlock with
  | none => exact .inl rfl
  | some k => exact .inr (fun e' => by cases e')
end Go.Proofs.YtfokbkaommfnoaaGreatDoor.dva
