/- What the laws draw of assignments (values), and what stays while a cursor turns; whatever the bytes. -/
import Derived.Test.YtfhmdpbnnieohaaDoorJXDraw
import Derived.Test.YtfhmdpbnnieohaaDoorJPn
namespace Go.Proofs.YtfhmdpbnnieohaaDoor.dva
open Go.ChangeShapes Go.WideShapes Go.ChangeAt Go.RowKit
open sl (Sl ints hide unhide grown_refl grown_trans grown_trans' of_below below_of grown_drewN)
open draw (Cur Bs newCur grown_new)
open wo (Made)
set_option linter.unusedVariables false
set_option maxHeartbeats 400000 in
theorem at_ (a : Option Addr) (n cap : Nat) (i : Int) (w : World) (hn : n ≤ 1048576) (i0 : 0 ≤ i) (i1 : i ≤ 1000) (hB : Bs w a n) :
  Calls Tryd.prog 5 #[.slice a n cap, .int .i64 i] w fun e w' => ∃ x : Int, e = .returned (.int .i64 x) ∧ 0 ≤ x ∧ x ≤ 255 ∧ w' = w := by
 obtain ⟨k, rfl⟩ := Int.eq_ofNat_of_zero_le i0
 by_cases h : k < n
 ·rcases hB with h0 | ⟨b, off, rfl, hb, hx⟩
  ·omega
  ·obtain ⟨x, hx1, c1⟩ := hx k h
   have hi : (k : Int) < (n : Int) := by omega
   clear hx
   go_enter Tryd.func5, Tryd.ntmps5
   go_wp2
   go_ret
   exact ⟨_, rfl, by omega, by omega, rfl⟩
 ·have hi : decide ((k : Int) < (n : Int)) = false := decide_eq_false (by omega)
  clear hB
  go_enter Tryd.func5, Tryd.ntmps5
  go_wp2
  go_ret
  refine ⟨_, rfl, ?_, ?_, rfl⟩
  ·omega
  ·omega
end Go.Proofs.YtfhmdpbnnieohaaDoor.dva
