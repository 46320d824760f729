/- Pigeon of the model, at any number. -/
import Derived.Test.YtfhmdpbnnieohaaDoorJPu
import Derived.Test.YtfhmdpbnnieohaaDoorJXTi
import Derived.Test.YtfhmdpbnnieohaaDoorJXTk
namespace Go.Proofs.YtfhmdpbnnieohaaDoor.t2
open Go.ChangeShapes Go.WideShapes Go.ChangeAt Go.RowKit
open lits (okB okB_iff)
open sl (Sl Own ints hide unhide ret_int ret_bool grown_refl grown_trans grown_drewN)
open css (Sls OwnS tot Apart own_ne own_ne' own_kind own_mono)
open cf (Box)
open wo (Made)
set_option linter.unusedVariables false
structure FM (w wr : World) (c : Nat) (N : Int) (v : Value) (M : List (List Int)) : Prop where
 lo : w.heap.size < c
 g : w.grownBy wr none
 b : Box 27 wr c (.int .i64 N) v
 r : Box 27 wr w.heap.size (.int .i64 0) (.slice none 0 0)
 o : OwnS w.heap.size wr.heap.size wr v M
theorem FM.kept {w wr w1 : World} {c : Nat} {N : Int} {v : Value} {M : List (List Int)} (h : FM w wr c N v M) (g : wr.grownBy w1 none) : FM w w1 c N v M :=
 ⟨h.lo, grown_trans h.g g, h.b.kept g, h.r.kept g, (h.o.kept g).sub (Nat.le_refl _) g.size⟩
theorem FM.new (w : World) (N : Int) : FM w ((w.alloc (.cells #[.int .i64 0, .slice none 0 0] 27)).alloc (.cells #[.int .i64 N, .slice none 0 0] 27)) (w.heap.size + 1) N (.slice none 0 0) [] := by
 have g1 := World.grownBy_alloc w (.cells #[.int .i64 0, .slice none 0 0] 27) none
 have g2 := World.grownBy_alloc (w.alloc (.cells #[.int .i64 0, .slice none 0 0] 27)) (.cells #[.int .i64 N, .slice none 0 0] 27) none
 have b2 := Box.new 27 (w.alloc (.cells #[.int .i64 0, .slice none 0 0] 27)) (.int .i64 N) (.slice none 0 0)
 rw [World.size_alloc] at b2
 exact ⟨Nat.lt_succ_self _, grown_trans g1 g2, b2, (Box.new 27 w (.int .i64 0) (.slice none 0 0)).kept g2, ownS_nil ..⟩
theorem FM.put {w wr wx w1 : World} {c : Nat} {N : Int} {v v' : Value} {M M' : List (List Int)} (h : FM w wr c N v M) (g : wr.grownBy wx none) (o1 : OwnS w.heap.size w1.heap.size w1 v' M') (g1 : wx.grownBy w1 v.ownBlock) :
  (w1.cell? ⟨c, 1, none⟩ = some v ∧ w1.frozen? ⟨c, 1, none⟩ = false) ∧ FM w (w1.setCell ⟨c, 1, none⟩ v') c N v' M' := by
 have hx := h.kept g
 obtain ⟨D, _, ho, _⟩ := hx.o
 have nb : v.ownBlock ≠ some c := gr.box_ne ho gr.ty1 hx.b
 have nr : v.ownBlock ≠ some w.heap.size := gr.box_ne ho gr.ty1 hx.r
 have b1 := hx.b.by g1 nb
 have r1 := hx.r.by g1 nr
 have gg := app.grown_joinS hx.g hx.o g1
 refine ⟨⟨b1.c1, b1.f 1⟩, h.lo, cf.grown_set gg (by have := h.lo; omega), b1.set1 _, r1.setO (by have := h.lo; omega), ?_⟩
 rw [cf.size_set]
 exact gr.ownS_set o1 b1
def FI (w : World) (c : Nat) (N : Int) (M : List (List Int)) (wr : World) : Prop := ∃ a n k, FM w wr c N (.slice a n k) M ∧ n = M.length
theorem FI.to {w wr : World} {c : Nat} {N : Int} {v : Value} {M : List (List Int)} (h : FM w wr c N v M) : FI w c N M wr := by
 obtain ⟨a, k, rfl⟩ := h.o.len
 exact ⟨a, _, k, h, rfl⟩
theorem cnfE_of {w : World} {b : Bool} {N : Int} {R : List (List Int)} {e : Ending} {w' : World} (h : CnfE w b N R e w') : ∃ u, e = .returned (.tuple #[.agg #[.int .i64 (if b then N else 0), u], .bool b]) ∧ OwnS w.heap.size w'.heap.size w' u (if b then R else []) ∧ w.grownBy w' none := by
 obtain ⟨a, c, rfl, o, g⟩ := h
 exact ⟨_, rfl, o, g⟩
theorem pig_tot {n : Nat} (h0 : 1 ≤ n) (hn : n ≤ 4) : tot (pigC n) ≤ 1048576 := by
 refine tot_few (pig_len h0 hn) fun C hC => ?_
 unfold pigC at hC
 rw [List.mem_append] at hC
 rcases hC with hC | hC
 ·unfold rowsT at hC
  rw [List.mem_map] at hC
  obtain ⟨i, _, rfl⟩ := hC
  rw [rowL_len]
  omega
 ·unfold colsT at hC
  rw [List.mem_flatMap] at hC
  obtain ⟨j, _, hC⟩ := hC
  exact most_len (by rw [colL_len]; omega) C hC
end Go.Proofs.YtfhmdpbnnieohaaDoor.t2
