/- spec.l01Pick at a list of texts: it tells one of them. -/
import Derived.Test.YtfokbkaommfnoaaGreatDoorDraw
namespace Go.Proofs.YtfokbkaommfnoaaGreatDoor.pk
open Go.ChangeShapes Go.WideShapes Go.ChangeAt Go.RowKit
open Go.Proofs.YtfokbkaommfnoaaGreatDoor.sl (Sl ints hide unhide grown_refl grown_trans grown_trans' of_below below_of grown_drewN)
open Go.Proofs.YtfokbkaommfnoaaGreatDoor.draw (Cur Bs I64 newCur grown_new)
set_option linter.unusedVariables false

theorem pickS (c b : Nat) (D : List ByteArray) (w : World) (hc : Cur w c) (hbc : c < b) (hD : 0 < D.length) (hD1 : D.length ≤ 1048576) (h : ∀ j, j < D.length → w.cell? ⟨b, j, none⟩ = some (.string (D.getD j ByteArray.empty))) :
    Calls Tryz.prog 61 #[.pointer (some ⟨c, 0, none⟩), .slice (some ⟨b, 0, none⟩) D.length D.length] w fun e w' => ∃ s, e = .returned (.string s) ∧ s ∈ D ∧ Cur w' c ∧ w.grownBy w' (some c) := by
  have HC := hide hc
  have HB := hide h
  clear hc h
  go_enter Tryz.func61, Tryz.ntmps61
  go_wp2_with fail
  refine (draw.below c _ _ (unhide HC) (by omega) (by omega)).mono ?_; rintro e w1 ⟨x, rfl, x0, x1, hc1, g1⟩
  obtain ⟨j, rfl⟩ := Int.eq_ofNat_of_zero_le x0
  have hj : j < D.length := by omega
  have c1 : w1.cell? ⟨b, j, none⟩ = some (.string (D.getD j ByteArray.empty)) := g1.cell (unhide HB j hj) (fun e => by injection e with e; exact absurd e (by show b ≠ c; omega))
  have hm : D.getD j ByteArray.empty ∈ D := by rw [show D.getD j ByteArray.empty = D[j] by simp [hj]]; exact List.getElem_mem hj
  generalize D.getD j ByteArray.empty = y at *
  have HM := hide hm
  have HC1 := hide hc1
  have G1 := hide g1
  clear hc1 g1 hm HB HC
  go_wp2_with fail
  go_ret
  exact ⟨_, rfl, unhide HM, unhide HC1, unhide G1⟩

theorem laid_cell (w : World) (D : List ByteArray) (t : TypeId) : ∀ j, j < D.length → (w.alloc (.cells (D.map Value.string).toArray t)).cell? ⟨w.heap.size, j, none⟩ = some (.string (D.getD j ByteArray.empty)) := by
  intro j hj
  have h : (w.alloc (.cells (D.map Value.string).toArray t)).heap[w.heap.size]? = some (.cells (D.map Value.string).toArray t) := heap_alloc_new w _
  unfold World.cell?
  rw [h]
  simp [hj]
end Go.Proofs.YtfokbkaommfnoaaGreatDoor.pk
