/- Own lists of lists: none, and one that an inner call made; no condition. -/
import Derived.Test.YtcgiphcfjhbonaaGreatDoorJXCf
namespace Go.Proofs.YtcgiphcfjhbonaaGreatDoor.rq
open Go.ChangeShapes Go.WideShapes Go.ChangeAt Go.RowKit
open css (OwnS)
open sl (grown_trans)
set_option linter.unusedVariables false
theorem nilS (w : World) : OwnS w.heap.size (w.alloc (.cells #[] 43)).heap.size (w.alloc (.cells #[] 43)) (.slice (some ⟨w.heap.size, 0, none⟩) 0 0) [] :=
 ⟨[], rfl, World.ownsRow_lit w #[] 0 (Nat.le_refl _) (Nat.zero_le _) rfl, (fun k e => by cases e; rw [World.size_alloc]; exact Nat.lt_succ_self _), (fun p hp => by cases hp), .nil⟩
theorem sub_own {w w1 w2 : World} {r : Value} {LL : List (List Int)} (g : w.grownBy w1 none) (o : OwnS w1.heap.size w2.heap.size w2 r LL) (k : w1.grownBy w2 none) : OwnS w.heap.size w2.heap.size w2 r LL ∧ w.grownBy w2 none :=
 ⟨o.sub g.size (Nat.le_refl _), grown_trans g k⟩
end Go.Proofs.YtcgiphcfjhbonaaGreatDoor.rq
namespace Go.Proofs.YtcgiphcfjhbonaaGreatDoor.rd
open Go.ChangeShapes Go.WideShapes Go.ChangeAt Go.RowKit
end Go.Proofs.YtcgiphcfjhbonaaGreatDoor.rd
namespace Go.Proofs.YtcgiphcfjhbonaaGreatDoor.qw
open Go.ChangeShapes Go.WideShapes Go.ChangeAt Go.RowKit
end Go.Proofs.YtcgiphcfjhbonaaGreatDoor.qw
namespace Go.Proofs.YtcgiphcfjhbonaaGreatDoor.ks
open Go.ChangeShapes Go.WideShapes Go.ChangeAt Go.RowKit
theorem row_form {w : World} {b n z : Nat} {e : TypeId} {v : Value} {xs : List Value} (h : w.ownsRow b e z v n xs) : ∃ a cap, v = .slice a n cap := by
 rcases h.2 with ⟨hv, h0⟩ | ⟨g, cap, cur, hv, _⟩
 ·exact ⟨none, 0, by rw [hv, h0]⟩
 ·exact ⟨_, cap, hv⟩
end Go.Proofs.YtcgiphcfjhbonaaGreatDoor.ks
