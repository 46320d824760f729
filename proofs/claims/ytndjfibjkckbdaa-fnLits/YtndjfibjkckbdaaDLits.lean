/- What DrawLitBefore draws: two numbers that an int can hold, whatever the bytes; nothing old is written. -/
import Derived.Test.YtndjfibjkckbdaaDraw
namespace Go.Proofs.Ytndjfibjkckbdaa.dlits
open Go.ChangeShapes Go.WideShapes Go.ChangeAt Go.RowKit
open Go.Proofs.Ytndjfibjkckbdaa.sl (hide unhide grown_trans')
open Go.Proofs.Ytndjfibjkckbdaa.draw (Cur Bs I64 newCur grown_new)
set_option linter.unusedVariables false

theorem drawLitBefore (a : Option Addr) (n cap : Nat) (w : World) (hn : n ≤ 1048576) (hB : Bs w a n) :
    Calls Try.prog 12 #[.slice a n cap] w fun e w' => ∃ x y : Int, e = .returned (.tuple #[.int .i64 x, .int .i64 y]) ∧ I64 x ∧ I64 y ∧ w.grownBy w' none := by
  have HB := hide hB
  clear hB
  go_enter Try.func12, Try.ntmps12
  go_wp2_with fail
  refine (newCur a n cap _ hn (unhide HB)).mono ?_; rintro e w1 ⟨rfl, hc1, g1⟩
  have HC1 := hide hc1
  have G1 := hide g1
  clear hc1 g1
  go_wp2_with fail
  refine (draw.lit _ _ _ (unhide HC1) (by decide) (by decide)).mono ?_; rintro e w2 ⟨x, rfl, hx, hc2, g2⟩
  have HX := hide hx
  have HC2 := hide hc2
  have G2 := hide (grown_new (unhide G1) g2 (Nat.le_refl _))
  clear hx hc2 g2 HC1 G1
  go_wp2_with fail
  refine (draw.lit _ _ _ (unhide HC2) (by decide) (by decide)).mono ?_; rintro e w3 ⟨y, rfl, hy, hc3, g3⟩
  have HY := hide hy
  have G3 := hide (grown_new (unhide G2) g3 (Nat.le_refl _))
  clear hy hc3 g3 HC2 G2
  go_wp2_with fail
  go_ret2
  exact ⟨x, y, rfl, unhide HX, unhide HY, unhide G3⟩
end Go.Proofs.Ytndjfibjkckbdaa.dlits
