/- Machines (a formula, a path and two numbers) in memory, and what the small helpers on them (a size, a copy, an equality, marks) do; no condition but that a machine holds at most 2^20 values. -/
import Derived.Test.YtnlllcgcaddhmaaGreatDoorJOn
namespace Go.Proofs.YtnlllcgcaddhmaaGreatDoor.qa
open Go.ChangeShapes Go.WideShapes Go.ChangeAt Go.RowKit
open sl (Sl Own ints marks hide unhide ret_int ret_bool grown_refl grown_trans grown_drewN below_of of_below)
open css (Sls OwnS Outs tot sumLen marksS)
open cf (Box)
set_option linter.unusedVariables false
def Box5 (t : TypeId) (w : World) (c : Nat) (a b p x y : Value) : Prop := w.heap[c]? = some (.cells #[a, b, p, x, y] t (0, 0))
theorem Box5.c0 {t : TypeId} {w : World} {c : Nat} {a b p x y : Value} (h : Box5 t w c a b p x y) : w.cell? ⟨c, 0, none⟩ = some a := by
 unfold Box5 at h
 simp [World.cell?, h]
theorem Box5.c1 {t : TypeId} {w : World} {c : Nat} {a b p x y : Value} (h : Box5 t w c a b p x y) : w.cell? ⟨c, 1, none⟩ = some b := by
 unfold Box5 at h
 simp [World.cell?, h]
theorem Box5.c2 {t : TypeId} {w : World} {c : Nat} {a b p x y : Value} (h : Box5 t w c a b p x y) : w.cell? ⟨c, 2, none⟩ = some p := by
 unfold Box5 at h
 simp [World.cell?, h]
theorem Box5.c3 {t : TypeId} {w : World} {c : Nat} {a b p x y : Value} (h : Box5 t w c a b p x y) : w.cell? ⟨c, 3, none⟩ = some x := by
 unfold Box5 at h
 simp [World.cell?, h]
theorem Box5.c4 {t : TypeId} {w : World} {c : Nat} {a b p x y : Value} (h : Box5 t w c a b p x y) : w.cell? ⟨c, 4, none⟩ = some y := by
 unfold Box5 at h
 simp [World.cell?, h]
theorem Box5.f {t : TypeId} {w : World} {c : Nat} {a b p x y : Value} (h : Box5 t w c a b p x y) (i : Nat) : w.frozen? ⟨c, i, none⟩ = false := by
 unfold Box5 at h
 simp [World.frozen?, h]
theorem Box5.lt {t : TypeId} {w : World} {c : Nat} {a b p x y : Value} (h : Box5 t w c a b p x y) : c < w.heap.size := (Array.getElem?_eq_some_iff.1 h).1
theorem Box5.by {t : TypeId} {w w' : World} {c : Nat} {a b p x y : Value} {r : Option Nat} (h : Box5 t w c a b p x y) (g : w.grownBy w' r) (hr : r ≠ some c) : Box5 t w' c a b p x y := by
 unfold Box5
 rw [g.block c h.lt (fun e => hr e.symm)]
 exact h
theorem Box5.kept {t : TypeId} {w w' : World} {c : Nat} {a b p x y : Value} (h : Box5 t w c a b p x y) (g : w.grownBy w' none) : Box5 t w' c a b p x y := h.by g (fun e => by cases e)
theorem Box5.new (t : TypeId) (w : World) (a b p x y : Value) : Box5 t (w.alloc (.cells #[a, b, p, x, y] t)) w.heap.size a b p x y := by
 show (w.heap.push _)[w.heap.size]? = _
 simp
theorem Box5.set0 {t : TypeId} {w : World} {c : Nat} {a b p x y : Value} (h : Box5 t w c a b p x y) (u : Value) : Box5 t (w.setCell ⟨c, 0, none⟩ u) c u b p x y := by
 unfold Box5 at *
 simp [World.setCell, Array.getElem?_modify, h]
theorem Box5.set1 {t : TypeId} {w : World} {c : Nat} {a b p x y : Value} (h : Box5 t w c a b p x y) (u : Value) : Box5 t (w.setCell ⟨c, 1, none⟩ u) c a u p x y := by
 unfold Box5 at *
 simp [World.setCell, Array.getElem?_modify, h]
theorem Box5.set2 {t : TypeId} {w : World} {c : Nat} {a b p x y : Value} (h : Box5 t w c a b p x y) (u : Value) : Box5 t (w.setCell ⟨c, 2, none⟩ u) c a b u x y := by
 unfold Box5 at *
 simp [World.setCell, Array.getElem?_modify, h]
theorem Box5.set3 {t : TypeId} {w : World} {c : Nat} {a b p x y : Value} (h : Box5 t w c a b p x y) (u : Value) : Box5 t (w.setCell ⟨c, 3, none⟩ u) c a b p u y := by
 unfold Box5 at *
 simp [World.setCell, Array.getElem?_modify, h]
theorem Box5.set4 {t : TypeId} {w : World} {c : Nat} {a b p x y : Value} (h : Box5 t w c a b p x y) (u : Value) : Box5 t (w.setCell ⟨c, 4, none⟩ u) c a b p x u := by
 unfold Box5 at *
 simp [World.setCell, Array.getElem?_modify, h]
theorem Box5.setO {t : TypeId} {w : World} {c d i : Nat} {a b p x y u : Value} (h : Box5 t w c a b p x y) (hd : d ≠ c) : Box5 t (w.setCell ⟨d, i, none⟩ u) c a b p x y :=
 h.by (sl.grown_setCell w d i u) (fun e => hd (by cases e; rfl))
theorem sizeM : (Tryz.prog.info? 106).map (·.size) = some 5 := by kernel_rfl
theorem ret_box5 {fn : Func} {q : Tmp} {tmps : Array Value} {w : World} {c : Nat} {a b p x y : Value} (h : fn.results = #[.cell q 106]) (hp : tmps.getD q undef = .pointer (some ⟨c, 0, none⟩)) (hb : Box5 106 w c a b p x y) :
  (results fn tmps).run Tryz.prog w = .ok (.agg #[a, b, p, x, y]) w :=
 results_cell_row h tmps w c 106 #[a, b, p, x, y] (0, 0) _ hp hb Tryz.underlying106 rfl sizeM
theorem ret_box52 {fn : Func} {q u : Tmp} {tmps : Array Value} {w : World} {c : Nat} {a b p x y : Value} (h : fn.results = #[.cell q 106, .tmp u]) (hp : tmps.getD q undef = .pointer (some ⟨c, 0, none⟩)) (hb : Box5 106 w c a b p x y) :
  (results fn tmps).run Tryz.prog w = .ok (.tuple #[.agg #[a, b, p, x, y], tmps.getD u undef]) w := by
 rw [results_cell_tmp h, hp]
 simp only [asAddr, Sem.run_pure, Result.andThen_ok]
 rw [run_loadVar_row w c 106 106 #[a, b, p, x, y] (0, 0) _ hb Tryz.underlying106 rfl sizeM]
 rfl
def OwnM (lo hi : Nat) (w : World) (u p : Value) (LL : List (List Int)) (P : List Int) : Prop := ∃ mid, lo ≤ mid ∧ mid ≤ hi ∧ OwnS lo mid w u LL ∧ Own mid hi w p P
theorem OwnM.kept {lo hi : Nat} {w w' : World} {u p : Value} {LL : List (List Int)} {P : List Int} (h : OwnM lo hi w u p LL P) (g : w.grownBy w' none) : OwnM lo hi w' u p LL P := by
 obtain ⟨m, h1, h2, h3, h4⟩ := h
 exact ⟨m, h1, h2, h3.kept g, h4.kept g⟩
theorem OwnM.outs {lo hi lo' hi' : Nat} {w w' : World} {u p : Value} {LL : List (List Int)} {P : List Int} (h : OwnM lo hi w u p LL P) (g : Outs lo' hi' w w') (d : hi ≤ lo' ∨ hi' ≤ lo) : OwnM lo hi w' u p LL P := by
 obtain ⟨m, h1, h2, h3, h4⟩ := h
 exact ⟨m, h1, h2, h3.outs g (by omega), css.own_outs h4 g (by omega)⟩
theorem OwnM.sls {lo hi : Nat} {w : World} {u p : Value} {LL : List (List Int)} {P : List Int} (h : OwnM lo hi w u p LL P) : Sls w u LL := by
 obtain ⟨m, h1, h2, h3, h4⟩ := h
 exact h3.sls
theorem OwnM.sl {lo hi : Nat} {w : World} {u p : Value} {LL : List (List Int)} {P : List Int} (h : OwnM lo hi w u p LL P) : Sl w p P := by
 obtain ⟨m, h1, h2, h3, h4⟩ := h
 exact h4.sl
theorem OwnM.len {lo hi : Nat} {w : World} {u p : Value} {LL : List (List Int)} {P : List Int} (h : OwnM lo hi w u p LL P) : ∃ a c a' c', u = .slice a LL.length c ∧ p = .slice a' P.length c' := by
 obtain ⟨a, c, h1⟩ := h.sls
 obtain ⟨a', c', h2, _⟩ := h.sl
 exact ⟨a, c, a', c', h1.1, h2⟩
theorem OwnM.sub {lo lo' hi hi' : Nat} {w : World} {u p : Value} {LL : List (List Int)} {P : List Int} (h : OwnM lo hi w u p LL P) (a : lo' ≤ lo) (b : hi ≤ hi') : OwnM lo' hi' w u p LL P := by
 obtain ⟨m, h1, h2, h3, h4⟩ := h
 exact ⟨m, by omega, by omega, h3.sub a (Nat.le_refl _), ⟨h4.1, fun k e => Nat.lt_of_lt_of_le (h4.2 k e) b⟩⟩
end Go.Proofs.YtnlllcgcaddhmaaGreatDoor.qa
