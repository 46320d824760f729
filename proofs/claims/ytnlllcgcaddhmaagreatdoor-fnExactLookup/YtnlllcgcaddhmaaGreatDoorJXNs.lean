/- Own lists of lists: none, and one that an inner call made; no condition. -/
import Derived.Test.YtnlllcgcaddhmaaGreatDoorJOn
namespace Go.Proofs.YtnlllcgcaddhmaaGreatDoor.rq
open Go.ChangeShapes Go.WideShapes Go.ChangeAt Go.RowKit
open css (OwnS)
open sl (grown_trans)
set_option linter.unusedVariables false
end Go.Proofs.YtnlllcgcaddhmaaGreatDoor.rq
namespace Go.Proofs.YtnlllcgcaddhmaaGreatDoor.rd
open Go.ChangeShapes Go.WideShapes Go.ChangeAt Go.RowKit
end Go.Proofs.YtnlllcgcaddhmaaGreatDoor.rd
namespace Go.Proofs.YtnlllcgcaddhmaaGreatDoor.qw
open Go.ChangeShapes Go.WideShapes Go.ChangeAt Go.RowKit
theorem own_take {w : World} {lo g n cap k : Nat} {t : TypeId} {xs : List Value} (h : w.ownsRow lo t 1 (.slice (some ⟨g, 0, none⟩) n cap) n xs) (hk : k ≤ n) : w.ownsRow lo t 1 (.slice (some ⟨g, 0, none⟩) k cap) k (xs.take k) := by
 obtain ⟨hl, h2⟩ := h
 refine ⟨by rw [List.length_take]; omega, ?_⟩
 rcases h2 with ⟨e, _⟩ | ⟨g', cap', cur, e, hb, hg, hn, hm, hc, ht⟩
 ·cases e
 ·injection e with e1 e2 e3
  injection e1 with e1
  injection e1 with e1
  subst e1
  subst e3
  refine .inr ⟨g, cap, cur, rfl, hb, hg, by omega, hm, hc, ?_⟩
  rw [← ht, List.take_take]
  congr 1
  omega
end Go.Proofs.YtnlllcgcaddhmaaGreatDoor.qw
namespace Go.Proofs.YtnlllcgcaddhmaaGreatDoor.ks
open Go.ChangeShapes Go.WideShapes Go.ChangeAt Go.RowKit
theorem row_form {w : World} {b n z : Nat} {e : TypeId} {v : Value} {xs : List Value} (h : w.ownsRow b e z v n xs) : ∃ a cap, v = .slice a n cap := by
 rcases h.2 with ⟨hv, h0⟩ | ⟨g, cap, cur, hv, _⟩
 ·exact ⟨none, 0, by rw [hv, h0]⟩
 ·exact ⟨_, cap, hv⟩
end Go.Proofs.YtnlllcgcaddhmaaGreatDoor.ks
