/- Formulas (a number and a slice of slices) in memory, and what the small helpers on them (a size, a copy, an equality, marks) do; no condition but that a formula holds at most 2^20 values. -/
import Derived.Test.YtibpnocpafppaaaDoorJXCss
import Derived.Laws.Rows
import Derived.Laws.ResultCell
namespace Go.Proofs.YtibpnocpafppaaaDoor.cf
open Go.ChangeShapes Go.WideShapes Go.ChangeAt Go.RowKit
open sl (Sl Own ints hide unhide ret_int ret_bool grown_refl grown_trans grown_drewN below_of of_below)
open css (Sls OwnS Outs tot)
set_option linter.unusedVariables false
def Box (t : TypeId) (w : World) (c : Nat) (x y : Value) : Prop := w.heap[c]? = some (.cells #[x, y] t (0, 0))
theorem Box.c0 {t : TypeId} {w : World} {c : Nat} {x y : Value} (h : Box t w c x y) : w.cell? ⟨c, 0, none⟩ = some x := by
 unfold Box at h
 simp [World.cell?, h]
theorem Box.c1 {t : TypeId} {w : World} {c : Nat} {x y : Value} (h : Box t w c x y) : w.cell? ⟨c, 1, none⟩ = some y := by
 unfold Box at h
 simp [World.cell?, h]
theorem Box.f {t : TypeId} {w : World} {c : Nat} {x y : Value} (h : Box t w c x y) (i : Nat) : w.frozen? ⟨c, i, none⟩ = false := by
 unfold Box at h
 simp [World.frozen?, h]
theorem Box.lt {t : TypeId} {w : World} {c : Nat} {x y : Value} (h : Box t w c x y) : c < w.heap.size := (Array.getElem?_eq_some_iff.1 h).1
theorem Box.by {t : TypeId} {w w' : World} {c : Nat} {x y : Value} {r : Option Nat} (h : Box t w c x y) (g : w.grownBy w' r) (hr : r ≠ some c) : Box t w' c x y := by
 unfold Box
 rw [g.block c h.lt (fun e => hr e.symm)]
 exact h
theorem Box.kept {t : TypeId} {w w' : World} {c : Nat} {x y : Value} (h : Box t w c x y) (g : w.grownBy w' none) : Box t w' c x y := h.by g (fun e => by cases e)
theorem Box.new (t : TypeId) (w : World) (x y : Value) : Box t (w.alloc (.cells #[x, y] t)) w.heap.size x y := by
 show (w.heap.push _)[w.heap.size]? = _
 simp
theorem Box.set1 {t : TypeId} {w : World} {c : Nat} {x y : Value} (h : Box t w c x y) (u : Value) : Box t (w.setCell ⟨c, 1, none⟩ u) c x u := by
 unfold Box at *
 simp [World.setCell, Array.getElem?_modify, h]
theorem Box.set0 {t : TypeId} {w : World} {c : Nat} {x y : Value} (h : Box t w c x y) (u : Value) : Box t (w.setCell ⟨c, 0, none⟩ u) c u y := by
 unfold Box at *
 simp [World.setCell, Array.getElem?_modify, h]
theorem sizeCnf : (Tryd.prog.info? 26).map (·.size) = some 2 := by kernel_rfl
theorem ret_box {fn : Func} {p : Tmp} {tmps : Array Value} {w : World} {c : Nat} {x y : Value} (h : fn.results = #[.cell p 26]) (hp : tmps.getD p undef = .pointer (some ⟨c, 0, none⟩)) (hb : Box 26 w c x y) :
  (results fn tmps).run Tryd.prog w = .ok (.agg #[x, y]) w :=
 results_cell_row h tmps w c 26 #[x, y] (0, 0) _ hp hb Tryd.underlying26 rfl sizeCnf
theorem ret_box2 {fn : Func} {p u : Tmp} {tmps : Array Value} {w : World} {c : Nat} {x y : Value} (h : fn.results = #[.cell p 26, .tmp u]) (hp : tmps.getD p undef = .pointer (some ⟨c, 0, none⟩)) (hb : Box 26 w c x y) :
  (results fn tmps).run Tryd.prog w = .ok (.tuple #[.agg #[x, y], tmps.getD u undef]) w := by
 rw [results_cell_tmp h, hp]
 simp only [asAddr, Sem.run_pure, Result.andThen_ok]
 rw [run_loadVar_row w c 26 26 #[x, y] (0, 0) _ hb Tryd.underlying26 rfl sizeCnf]
 rfl
theorem size_set (w : World) (a : Addr) (u : Value) : (w.setCell a u).heap.size = w.heap.size := by simp [World.setCell]
theorem grown_set {w w1 : World} {c i : Nat} {u : Value} (g : w.grownBy w1 none) (h : w.heap.size ≤ c) : w.grownBy (w1.setCell ⟨c, i, none⟩ u) none :=
 ⟨g.os, g.tape, g.output, by rw [size_set]; exact g.size, fun k hk _ => (Below.heap_setCell _ _ _ _ (by show k ≠ c; omega)).trans (g.block k hk (fun e => by cases e))⟩
theorem Box.setO {t : TypeId} {w : World} {c d i : Nat} {x y u : Value} (h : Box t w c x y) (hd : d ≠ c) : Box t (w.setCell ⟨d, i, none⟩ u) c x y :=
 h.by (sl.grown_setCell w d i u) (fun e => hd (by cases e; rfl))
theorem grown_drew (w : World) (r : Option Nat) : w.grownBy w.drew r := ⟨rfl, rfl, rfl, Nat.le_refl _, fun _ _ _ => rfl⟩
end Go.Proofs.YtibpnocpafppaaaDoor.cf
