/- Structs of four values in memory; what the small helpers on certificates (a size, a copy, an equality) do; no condition but on sizes. -/
import Derived.Test.YtnlllcgcaddhmaaGreatDoorJXSl
namespace Go.Proofs.YtnlllcgcaddhmaaGreatDoor.yb
open Go.ChangeShapes Go.WideShapes Go.ChangeAt Go.RowKit
open sl (hide unhide ret_int ret_bool grown_refl grown_trans grown_drewN)
set_option linter.unusedVariables false
def Box4 (t : TypeId) (w : World) (c : Nat) (a b p x : Value) : Prop := w.heap[c]? = some (.cells #[a, b, p, x] t (0, 0))
theorem Box4.c0 {t : TypeId} {w : World} {c : Nat} {a b p x : Value} (h : Box4 t w c a b p x) : w.cell? ⟨c, 0, none⟩ = some a := by
 unfold Box4 at h
 simp [World.cell?, h]
theorem Box4.c1 {t : TypeId} {w : World} {c : Nat} {a b p x : Value} (h : Box4 t w c a b p x) : w.cell? ⟨c, 1, none⟩ = some b := by
 unfold Box4 at h
 simp [World.cell?, h]
theorem Box4.c2 {t : TypeId} {w : World} {c : Nat} {a b p x : Value} (h : Box4 t w c a b p x) : w.cell? ⟨c, 2, none⟩ = some p := by
 unfold Box4 at h
 simp [World.cell?, h]
theorem Box4.c3 {t : TypeId} {w : World} {c : Nat} {a b p x : Value} (h : Box4 t w c a b p x) : w.cell? ⟨c, 3, none⟩ = some x := by
 unfold Box4 at h
 simp [World.cell?, h]
theorem Box4.f {t : TypeId} {w : World} {c : Nat} {a b p x : Value} (h : Box4 t w c a b p x) (i : Nat) : w.frozen? ⟨c, i, none⟩ = false := by
 unfold Box4 at h
 simp [World.frozen?, h]
theorem Box4.lt {t : TypeId} {w : World} {c : Nat} {a b p x : Value} (h : Box4 t w c a b p x) : c < w.heap.size := (Array.getElem?_eq_some_iff.1 h).1
theorem Box4.by {t : TypeId} {w w' : World} {c : Nat} {a b p x : Value} {r : Option Nat} (h : Box4 t w c a b p x) (g : w.grownBy w' r) (hr : r ≠ some c) : Box4 t w' c a b p x := by
 unfold Box4
 rw [g.block c h.lt (fun e => hr e.symm)]
 exact h
theorem Box4.kept {t : TypeId} {w w' : World} {c : Nat} {a b p x : Value} (h : Box4 t w c a b p x) (g : w.grownBy w' none) : Box4 t w' c a b p x := h.by g (fun e => by cases e)
theorem Box4.new (t : TypeId) (w : World) (a b p x : Value) : Box4 t (w.alloc (.cells #[a, b, p, x] t)) w.heap.size a b p x := by
 show (w.heap.push _)[w.heap.size]? = _
 simp
theorem Box4.set0 {t : TypeId} {w : World} {c : Nat} {a b p x : Value} (h : Box4 t w c a b p x) (u : Value) : Box4 t (w.setCell ⟨c, 0, none⟩ u) c u b p x := by
 unfold Box4 at *
 simp [World.setCell, Array.getElem?_modify, h]
theorem Box4.set1 {t : TypeId} {w : World} {c : Nat} {a b p x : Value} (h : Box4 t w c a b p x) (u : Value) : Box4 t (w.setCell ⟨c, 1, none⟩ u) c a u p x := by
 unfold Box4 at *
 simp [World.setCell, Array.getElem?_modify, h]
theorem Box4.set2 {t : TypeId} {w : World} {c : Nat} {a b p x : Value} (h : Box4 t w c a b p x) (u : Value) : Box4 t (w.setCell ⟨c, 2, none⟩ u) c a b u x := by
 unfold Box4 at *
 simp [World.setCell, Array.getElem?_modify, h]
theorem Box4.set3 {t : TypeId} {w : World} {c : Nat} {a b p x : Value} (h : Box4 t w c a b p x) (u : Value) : Box4 t (w.setCell ⟨c, 3, none⟩ u) c a b p u := by
 unfold Box4 at *
 simp [World.setCell, Array.getElem?_modify, h]
theorem Box4.setO {t : TypeId} {w : World} {c d i : Nat} {a b p x u : Value} (h : Box4 t w c a b p x) (hd : d ≠ c) : Box4 t (w.setCell ⟨d, i, none⟩ u) c a b p x :=
 h.by (sl.grown_setCell w d i u) (fun e => hd (by cases e; rfl))
theorem Box4.setA {t : TypeId} {w : World} {c : Nat} {a b p x : Value} (h : Box4 t w c a b p x) (a' b' p' x' : Value) : Box4 t ((((w.setCell ⟨c, 0, none⟩ a').setCell ⟨c, 1, none⟩ b').setCell ⟨c, 2, none⟩ p').setCell ⟨c, 3, none⟩ x') c a' b' p' x' := (((h.set0 a').set1 b').set2 p').set3 x'
theorem size_set (w : World) (a : Addr) (u : Value) : (w.setCell a u).heap.size = w.heap.size := by simp [World.setCell]
theorem grown_set {w w1 : World} {c i : Nat} {u : Value} (g : w.grownBy w1 none) (h : w.heap.size ≤ c) : w.grownBy (w1.setCell ⟨c, i, none⟩ u) none :=
 ⟨g.os, g.tape, g.output, by rw [size_set]; exact g.size, fun k hk _ => (Below.heap_setCell _ _ _ _ (by show k ≠ c; omega)).trans (g.block k hk (fun e => by cases e))⟩
theorem grown_setA {w w1 : World} {c : Nat} {a b p x : Value} (g : w.grownBy w1 none) (h : w.heap.size ≤ c) : w.grownBy ((((w1.setCell ⟨c, 0, none⟩ a).setCell ⟨c, 1, none⟩ b).setCell ⟨c, 2, none⟩ p).setCell ⟨c, 3, none⟩ x) none := grown_set (grown_set (grown_set (grown_set g h) h) h) h
abbrev Cr := ByteArray × Bool × ByteArray × ByteArray
end Go.Proofs.YtnlllcgcaddhmaaGreatDoor.yb
