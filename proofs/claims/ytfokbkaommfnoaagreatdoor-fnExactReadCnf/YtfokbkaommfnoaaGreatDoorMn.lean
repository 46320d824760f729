/- Small facts on slices of integers that a call makes. -/
import Derived.Test.YtfokbkaommfnoaaGreatDoorWo
import Derived.Test.YtfokbkaommfnoaaGreatDoorCls
namespace Go.Proofs.YtfokbkaommfnoaaGreatDoor.mn
open Go.Proofs.YtfokbkaommfnoaaGreatDoor.sl (grown_trans)
open Go.Proofs.YtfokbkaommfnoaaGreatDoor.wo (Made)
open Go.Proofs.YtfokbkaommfnoaaGreatDoor.cls (okAll)
theorem own_mono {w : World} {base base' : Nat} {e : TypeId} {v : Value} {n : Nat} {xs : List Value} (h : w.ownsRow base e 1 v n xs) (hb : base' ≤ base) : w.ownsRow base' e 1 v n xs := by
  obtain ⟨h1, h2⟩ := h
  refine ⟨h1, ?_⟩
  rcases h2 with h2 | ⟨g, cap, cur, e1, hg, r⟩
  · exact .inl h2
  · exact .inr ⟨g, cap, cur, e1, Nat.le_trans hb hg, r⟩
theorem made_trans {w w1 w2 : World} {u : Value} {M : List Int} (h : Made w1 w2 u M) (g : w.grownBy w1 none) : Made w w2 u M :=
  ⟨own_mono h.1 g.size, grown_trans g h.2⟩
theorem made_nil (w : World) : Made w (w.alloc (.cells #[] 3)) (.slice (some ⟨w.heap.size, 0, none⟩) 0 0) [] :=
  ⟨World.ownsRow_lit w #[] 0 (Nat.le_refl _) (Nat.zero_le _) rfl, World.grownBy_alloc _ _ _⟩
theorem okAll_len {L : List Int} (h : okAll L = true) : L.length ≤ 48 := by
  unfold okAll at h
  rw [Bool.and_eq_true, decide_eq_true_iff] at h
  exact h.2
end Go.Proofs.YtfokbkaommfnoaaGreatDoor.mn
