/- What the laws' own comparisons of lists answer at lists that are alike, and what DrawFix draws; whatever the bytes. -/
import Derived.Test.YtfhmdpbnnieohaaDoorJXDVa
import Derived.Deep.LoopGhost
import Derived.Deep.CutRange
import Derived.Deep.CutBlock
namespace Go.Proofs.YtfhmdpbnnieohaaDoor.df
open Go.ChangeShapes Go.WideShapes Go.ChangeAt Go.RowKit
open sl (Sl Own ints hide unhide grown_refl grown_trans grown_trans' of_below below_of grown_drewN)
open css (Sls OwnS tot)
open cf (Box)
open draw (Cur Bs newCur grown_new)
set_option linter.unusedVariables false
theorem sameQ (v u : Value) (L : List Int) (w : World) (hL : L.length ≤ 1048576) (hv : Sl w v L) (hu : Sl w u L) :
  Calls Tryd.prog 34 #[v, u] w fun e w' => e = .returned (.bool true) ∧ ∃ m, w' = w.drewN m := by
 obtain ⟨a, cap, rfl, ha⟩ := hv
 obtain ⟨c, cap', rfl, hc⟩ := hu
 rcases ha with rfl | ⟨b, off, rfl, hb, hcb⟩
 ·go_enter Tryd.func34, Tryd.ntmps34
  go_wp2
  refine wp_loop_rounds 1 ?_
  rw [rounds_succ]
  go_wp2
  go_ret
  exact ⟨rfl, 0, rfl⟩
 ·rcases hc with rfl | ⟨d, off', rfl, hd, hcd⟩
  ·go_enter Tryd.func34, Tryd.ntmps34
   go_wp2
   refine wp_loop_rounds 1 ?_
   rw [rounds_succ]
   go_wp2
   go_ret
   exact ⟨rfl, 0, rfl⟩
  ·have HB := hide hcb
   have HD := hide hcd
   clear hcb hcd
   go_enter Tryd.func34, Tryd.ntmps34
   go_wp2
   go_loopw [5] (fun i wr => ∃ k : Nat, k ≤ L.length ∧ i = .int .i64 k ∧ ∃ m, Hid (wr = w.drewN m)) (fun i _ => L.length - (intOf i).toNat)
   case atStart => exact ⟨0, Nat.zero_le _, rfl, 0, rfl⟩
   case round =>
    obtain ⟨k, hk, rfl, m, hg⟩ := hrel
    have hg' := unhide hg
    clear hg
    subst hg'
    by_cases hlt : k < L.length
    ·have c1 : w.cell? ⟨b, off + k, none⟩ = some (.int .i64 (L.getD k 0)) := unhide HB k hlt
     have c2 : w.cell? ⟨d, off' + k, none⟩ = some (.int .i64 (L.getD k 0)) := unhide HD k hlt
     have hi : (k : Int) < (L.length : Int) := by omega
     generalize L.getD k 0 = x at *
     go_wp2
     go_quiet (fail)
     go_wp2
     go_roundw
     case rel => exact ⟨k + 1, by omega, by go_num, _, rfl⟩
     case measure => simp [intOf]; omega
    ·have hi : ¬ (k : Int) < (L.length : Int) := by omega
     go_wp2
     go_ret
     exact ⟨rfl, m, rfl⟩
theorem sameList (v u : Value) (LL : List (List Int)) (w : World) (hn : LL.length ≤ 1048576) (hin : ∀ i, (LL.getD i []).length ≤ 1048576) (hv : Sls w v LL) (hu : Sls w u LL) :
  Calls Tryd.prog 13 #[v, u] w fun e w' => e = .returned (.bool true) ∧ w.grownBy w' none := by
 obtain ⟨a, cap, rfl, ha⟩ := hv
 obtain ⟨c, cap', rfl, hc⟩ := hu
 have HA := hide ha
 have HC := hide hc
 clear ha hc
 go_enter Tryd.func13, Tryd.ntmps13
 go_wp2
 go_loopw [5] (fun i wr => ∃ k : Nat, k ≤ LL.length ∧ i = .int .i64 k ∧ w.grownBy wr none) (fun i _ => LL.length - (intOf i).toNat)
 case atStart => exact ⟨0, Nat.zero_le _, rfl, grown_refl _⟩
 case round =>
  obtain ⟨k, hk, rfl, hg⟩ := hrel
  by_cases hlt : k < LL.length
  ·rcases unhide HA with h | ⟨b, off, rfl, hb, hcb⟩
   ·rw [h] at hlt
    simp at hlt
   ·rcases unhide HC with h | ⟨d, off', rfl, hd, hcd⟩
    ·rw [h] at hlt
     simp at hlt
    ·obtain ⟨x, hx, sx⟩ := hcb k hlt
     obtain ⟨y, hy, sy⟩ := hcd k hlt
     have c1 : wr.cell? ⟨b, off + k, none⟩ = some x := hg.cell hx (fun e => by cases e)
     have c2 : wr.cell? ⟨d, off' + k, none⟩ = some y := hg.cell hy (fun e => by cases e)
     have hL := hin k
     generalize LL.getD k [] = L at *
     have C := hide (fun n => sameQ x y L (wr.drewN n) hL ((sx.kept hg (.inl rfl)).kept (grown_drewN wr n) (.inl rfl)) ((sy.kept hg (.inl rfl)).kept (grown_drewN wr n) (.inl rfl)))
     have hi : (k : Int) < (LL.length : Int) := by omega
     have G := hide hg
     clear hg hcb hcd HA HC hx hy sx sy
     go_wp2
     go_quiet (first | (go_at_call 34; exact Calls.quiet_of (unhide C _)))
     go_wp2
     go_roundw
     case rel => exact ⟨k + 1, by omega, by go_num, grown_trans (unhide G) (grown_drewN _ _)⟩
     case measure => simp [intOf]; omega
  ·have hi : ¬ (k : Int) < (LL.length : Int) := by omega
   have G := hide hg
   clear hg HA HC
   go_wp2
   go_ret
   exact ⟨rfl, unhide G⟩
end Go.Proofs.YtfhmdpbnnieohaaDoor.df
