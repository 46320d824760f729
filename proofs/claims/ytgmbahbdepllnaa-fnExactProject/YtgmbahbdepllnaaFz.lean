/- What impl.Fix answers at every formula that holds at most 2^20 values and every number, with the clauses in memory of their own; no other condition. -/
import Derived.Test.YtgmbahbdepllnaaFy
namespace Go.Proofs.Ytgmbahbdepllnaa.fx
open Go.ChangeShapes Go.WideShapes Go.ChangeAt Go.RowKit
open Go.Proofs.Ytgmbahbdepllnaa.lits (okB varI)
open Go.Proofs.Ytgmbahbdepllnaa.cls (hasB)
open Go.Proofs.Ytgmbahbdepllnaa.wo (woL)
open Go.Proofs.Ytgmbahbdepllnaa.sl (Sl Own ints marks hide unhide ret_int ret_bool grown_refl grown_trans grown_drewN below_of of_below)
open Go.Proofs.Ytgmbahbdepllnaa.css (Sls OwnS Outs tot sumLen marksS)
open Go.Proofs.Ytgmbahbdepllnaa.cf (Box)
open Go.Proofs.Ytgmbahbdepllnaa.gr (MidF)
open Go.Proofs.Ytgmbahbdepllnaa.ok (cnfB litIn)
set_option linter.unusedVariables false
attribute [local go_sem ↓] Go.wp_at_zero Go.wp_at_succ

theorem midA {w w2 : World} {n : Int} {len : Nat} {Bs : List (Nat × Value × Value)} (g : w.grownBy w2 none) (hl : len ≤ 1048576) (hB : ∀ b ∈ Bs, Box 26 w2 b.1 b.2.1 b.2.2) :
    MidF w ((w2.alloc (.cells (madeCells #[.slice none 0 0] len) 33)).alloc (.cells #[.int .i64 n, .slice (some ⟨w2.heap.size, 0, none⟩) 0 len] 26)).drew (w2.heap.size + 1) n [] Bs := by
  have gs := g.size
  have g1 := World.grownBy_alloc w2 (.cells (madeCells #[.slice none 0 0] len) 33) none
  have g2 := World.grownBy_alloc (w2.alloc (.cells (madeCells #[.slice none 0 0] len) 33)) (.cells #[.int .i64 n, .slice (some ⟨w2.heap.size, 0, none⟩) 0 len] 26) none
  have gd := cf.grown_drew ((w2.alloc (.cells (madeCells #[.slice none 0 0] len) 33)).alloc (.cells #[.int .i64 n, .slice (some ⟨w2.heap.size, 0, none⟩) 0 len] 26)) none
  have gg := grown_trans (r := none) (grown_trans (r := none) g1 g2) gd
  refine ⟨by omega, grown_trans g gg, fun b hb => ⟨?_, (hB b hb).kept gg⟩, some ⟨w2.heap.size, 0, none⟩, len, ?_, ?_⟩
  · have := (hB b hb).lt
    omega
  · have := (Box.new 26 (w2.alloc (.cells (madeCells #[.slice none 0 0] len) 33)) (.int .i64 n) (.slice (some ⟨w2.heap.size, 0, none⟩) 0 len)).kept gd
    rw [World.size_alloc] at this
    exact this
  · exact (((gr.ownS_made w2 len w.heap.size gs hl).kept g2).kept gd).sub (Nat.le_refl _) (by show _ ≤ (World.alloc _ _).heap.size; rw [World.size_alloc, World.size_alloc]; omega)
theorem midB {w w2 : World} {n : Int} {len : Nat} {Bs : List (Nat × Value × Value)} (g : w.grownBy w2 none) (hl : len ≤ 1048576) (hB : ∀ b ∈ Bs, Box 26 w2 b.1 b.2.1 b.2.2) :
    MidF w ((w2.alloc (.cells #[.int .i64 n, .slice (some ⟨w2.heap.size + 1, 0, none⟩) 0 len] 26)).alloc (.cells (madeCells #[.slice none 0 0] len) 33)).drew w2.heap.size n [] Bs := by
  have gs := g.size
  have g1 := World.grownBy_alloc w2 (.cells #[.int .i64 n, .slice (some ⟨w2.heap.size + 1, 0, none⟩) 0 len] 26) none
  have g2 := World.grownBy_alloc (w2.alloc (.cells #[.int .i64 n, .slice (some ⟨w2.heap.size + 1, 0, none⟩) 0 len] 26)) (.cells (madeCells #[.slice none 0 0] len) 33) none
  have gd := cf.grown_drew ((w2.alloc (.cells #[.int .i64 n, .slice (some ⟨w2.heap.size + 1, 0, none⟩) 0 len] 26)).alloc (.cells (madeCells #[.slice none 0 0] len) 33)) none
  have gg := grown_trans (r := none) (grown_trans (r := none) g1 g2) gd
  refine ⟨by omega, grown_trans g gg, fun b hb => ⟨?_, (hB b hb).kept gg⟩, some ⟨w2.heap.size + 1, 0, none⟩, len, ?_, ?_⟩
  · have := (hB b hb).lt
    omega
  · exact ((Box.new 26 w2 (.int .i64 n) (.slice (some ⟨w2.heap.size + 1, 0, none⟩) 0 len)).kept g2).kept gd
  · have := gr.ownS_made (w2.alloc (.cells #[.int .i64 n, .slice (some ⟨w2.heap.size + 1, 0, none⟩) 0 len] 26)) len w.heap.size (by rw [World.size_alloc]; omega) hl
    rw [World.size_alloc] at this
    exact (this.kept gd).sub (Nat.le_refl _) (by show _ ≤ (World.alloc _ _).heap.size; rw [World.size_alloc, World.size_alloc]; omega)

theorem tot_cons (L : List Int) (l : List (List Int)) : tot (L :: l) = tot l + L.length + 1 := by
  unfold css.tot
  simp
  omega
theorem fixL_tot (x : Int) (LL : List (List Int)) : tot (fixL x LL) ≤ tot LL := by
  induction LL with
  | nil => exact Nat.le_refl _
  | cons L l ih =>
    have e : fixL x (L :: l) = if hasB L x then fixL x l else woL L (-x) :: fixL x l := by
      unfold fixL
      rw [List.filter_cons]
      cases hasB L x <;> simp
    rw [e, tot_cons]
    have hl := wo.woL_le L (-x)
    split
    · omega
    · rw [tot_cons]
      omega
end Go.Proofs.Ytgmbahbdepllnaa.fx
