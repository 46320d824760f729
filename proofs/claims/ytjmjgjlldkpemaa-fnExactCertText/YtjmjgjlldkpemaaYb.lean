/- Structs of four values in memory; what the small helpers on certificates (a size, a copy, an equality) do; no condition but on sizes. -/
import Derived.Test.YtjmjgjlldkpemaaSl
namespace Go.Proofs.Ytjmjgjlldkpemaa.yb
open Go.ChangeShapes Go.WideShapes Go.ChangeAt Go.RowKit
open Go.Proofs.Ytjmjgjlldkpemaa.sl (hide unhide ret_int ret_bool grown_refl grown_trans grown_drewN)
set_option linter.unusedVariables false
/-- block c holds four values, of type t -/
def Box4 (t : TypeId) (w : World) (c : Nat) (a b p x : Value) : Prop := w.heap[c]? = some (.cells #[a, b, p, x] t (0, 0))
theorem Box4.c0 {t : TypeId} {w : World} {c : Nat} {a b p x : Value} (h : Box4 t w c a b p x) : w.cell? ⟨c, 0, none⟩ = some a := by
  unfold Box4 at h
  simp [World.cell?, h]
theorem Box4.c1 {t : TypeId} {w : World} {c : Nat} {a b p x : Value} (h : Box4 t w c a b p x) : w.cell? ⟨c, 1, none⟩ = some b := by
  unfold Box4 at h
  simp [World.cell?, h]
theorem Box4.c2 {t : TypeId} {w : World} {c : Nat} {a b p x : Value} (h : Box4 t w c a b p x) : w.cell? ⟨c, 2, none⟩ = some p := by
  unfold Box4 at h
  simp [World.cell?, h]
theorem Box4.c3 {t : TypeId} {w : World} {c : Nat} {a b p x : Value} (h : Box4 t w c a b p x) : w.cell? ⟨c, 3, none⟩ = some x := by
  unfold Box4 at h
  simp [World.cell?, h]
theorem Box4.f {t : TypeId} {w : World} {c : Nat} {a b p x : Value} (h : Box4 t w c a b p x) (i : Nat) : w.frozen? ⟨c, i, none⟩ = false := by
  unfold Box4 at h
  simp [World.frozen?, h]
theorem Box4.lt {t : TypeId} {w : World} {c : Nat} {a b p x : Value} (h : Box4 t w c a b p x) : c < w.heap.size := (Array.getElem?_eq_some_iff.1 h).1
theorem Box4.by {t : TypeId} {w w' : World} {c : Nat} {a b p x : Value} {r : Option Nat} (h : Box4 t w c a b p x) (g : w.grownBy w' r) (hr : r ≠ some c) : Box4 t w' c a b p x := by
  unfold Box4
  rw [g.block c h.lt (fun e => hr e.symm)]
  exact h
theorem Box4.kept {t : TypeId} {w w' : World} {c : Nat} {a b p x : Value} (h : Box4 t w c a b p x) (g : w.grownBy w' none) : Box4 t w' c a b p x := h.by g (fun e => by cases e)
theorem Box4.new (t : TypeId) (w : World) (a b p x : Value) : Box4 t (w.alloc (.cells #[a, b, p, x] t)) w.heap.size a b p x := by
  show (w.heap.push _)[w.heap.size]? = _
  simp
theorem Box4.set0 {t : TypeId} {w : World} {c : Nat} {a b p x : Value} (h : Box4 t w c a b p x) (u : Value) : Box4 t (w.setCell ⟨c, 0, none⟩ u) c u b p x := by
  unfold Box4 at *
  simp [World.setCell, Array.getElem?_modify, h]
theorem Box4.set1 {t : TypeId} {w : World} {c : Nat} {a b p x : Value} (h : Box4 t w c a b p x) (u : Value) : Box4 t (w.setCell ⟨c, 1, none⟩ u) c a u p x := by
  unfold Box4 at *
  simp [World.setCell, Array.getElem?_modify, h]
theorem Box4.set2 {t : TypeId} {w : World} {c : Nat} {a b p x : Value} (h : Box4 t w c a b p x) (u : Value) : Box4 t (w.setCell ⟨c, 2, none⟩ u) c a b u x := by
  unfold Box4 at *
  simp [World.setCell, Array.getElem?_modify, h]
theorem Box4.set3 {t : TypeId} {w : World} {c : Nat} {a b p x : Value} (h : Box4 t w c a b p x) (u : Value) : Box4 t (w.setCell ⟨c, 3, none⟩ u) c a b p u := by
  unfold Box4 at *
  simp [World.setCell, Array.getElem?_modify, h]
theorem Box4.setO {t : TypeId} {w : World} {c d i : Nat} {a b p x u : Value} (h : Box4 t w c a b p x) (hd : d ≠ c) : Box4 t (w.setCell ⟨d, i, none⟩ u) c a b p x :=
  h.by (sl.grown_setCell w d i u) (fun e => hd (by cases e; rfl))
theorem Box4.setA {t : TypeId} {w : World} {c : Nat} {a b p x : Value} (h : Box4 t w c a b p x) (a' b' p' x' : Value) : Box4 t ((((w.setCell ⟨c, 0, none⟩ a').setCell ⟨c, 1, none⟩ b').setCell ⟨c, 2, none⟩ p').setCell ⟨c, 3, none⟩ x') c a' b' p' x' := (((h.set0 a').set1 b').set2 p').set3 x'
theorem size_set (w : World) (a : Addr) (u : Value) : (w.setCell a u).heap.size = w.heap.size := by simp [World.setCell]
theorem grown_set {w w1 : World} {c i : Nat} {u : Value} (g : w.grownBy w1 none) (h : w.heap.size ≤ c) : w.grownBy (w1.setCell ⟨c, i, none⟩ u) none :=
  ⟨g.os, g.tape, g.output, by rw [size_set]; exact g.size, fun k hk _ => (Below.heap_setCell _ _ _ _ (by show k ≠ c; omega)).trans (g.block k hk (fun e => by cases e))⟩
theorem grown_setA {w w1 : World} {c : Nat} {a b p x : Value} (g : w.grownBy w1 none) (h : w.heap.size ≤ c) : w.grownBy ((((w1.setCell ⟨c, 0, none⟩ a).setCell ⟨c, 1, none⟩ b).setCell ⟨c, 2, none⟩ p).setCell ⟨c, 3, none⟩ x) none := grown_set (grown_set (grown_set (grown_set g h) h) h) h
theorem sizeQ : (Try.prog.info? 26).map (·.size) = some 4 := by kernel_rfl
theorem ret_box {fn : Func} {p : Tmp} {tmps : Array Value} {w : World} {c : Nat} {a b q x : Value} (h : fn.results = #[.cell p 26]) (hp : tmps.getD p undef = .pointer (some ⟨c, 0, none⟩)) (hb : Box4 26 w c a b q x) :
    (results fn tmps).run Try.prog w = .ok (.agg #[a, b, q, x]) w :=
  results_cell_row h tmps w c 26 #[a, b, q, x] (0, 0) _ hp hb Try.underlying26 rfl sizeQ
theorem ret_box2 {fn : Func} {p u : Tmp} {tmps : Array Value} {w : World} {c : Nat} {a b q x : Value} (h : fn.results = #[.cell p 26, .tmp u]) (hp : tmps.getD p undef = .pointer (some ⟨c, 0, none⟩)) (hb : Box4 26 w c a b q x) :
    (results fn tmps).run Try.prog w = .ok (.tuple #[.agg #[a, b, q, x], tmps.getD u undef]) w := by
  rw [results_cell_tmp h, hp]
  simp only [asAddr, Sem.run_pure, Result.andThen_ok]
  rw [run_loadVar_row w c 26 26 #[a, b, q, x] (0, 0) _ hb Try.underlying26 rfl sizeQ]
  rfl
theorem wrap_in {x : Int} (h1 : -9223372036854775808 ≤ x) (h2 : x < 9223372036854775808) : IntKind.i64.wrap x = x := by
  rw [IntKind.wrap_i64]
  omega
set_option maxHeartbeats 1600000 in
theorem szCert (d : ByteArray) (sat : Bool) (b m : ByteArray) (k : Int) (w : World) (hk : 0 ≤ k ∧ k ≤ 1048576) (hd : d.size ≤ maxLen) (hb : b.size ≤ maxLen) (hm : m.size ≤ maxLen) :
    Calls Try.prog 4 #[.agg #[.string d, .bool sat, .string b, .string m], .int .i64 k] w fun e w' => e = .returned (.int .i64 (if (d.size : Int) + b.size + m.size ≤ k then k - d.size - b.size - m.size else -1)) ∧ w.grownBy w' none := by
  have G0 := hide (World.grownBy_alloc w (.cells #[.string d, .bool sat, .string b, .string m] 23) none)
  unfold maxLen at hd hb hm
  obtain ⟨k1, h1⟩ : ∃ x, x = k - (d.size : Int) := ⟨_, rfl⟩
  have e1 : IntKind.i64.wrap (k - (d.size : Int)) = k1 := by rw [wrap_in (by omega) (by omega), h1]
  rw [IntKind.wrap_i64] at e1
  by_cases c1 : k1 < 0
  · rw [if_neg (by omega)]
    clear h1
    go_enter Try.func4, Try.ntmps4
    go_wp2
    go_ret
    exact ⟨rfl, unhide G0⟩
  obtain ⟨k2, h2⟩ : ∃ x, x = k1 - (b.size : Int) := ⟨_, rfl⟩
  have e2 : IntKind.i64.wrap (k1 - (b.size : Int)) = k2 := by rw [wrap_in (by omega) (by omega), h2]
  rw [IntKind.wrap_i64] at e2
  by_cases c2 : k2 < 0
  · rw [if_neg (by omega)]
    clear h1 h2
    go_enter Try.func4, Try.ntmps4
    go_wp2
    go_ret
    exact ⟨rfl, unhide G0⟩
  obtain ⟨k3, h3⟩ : ∃ x, x = k2 - (m.size : Int) := ⟨_, rfl⟩
  have e3 : IntKind.i64.wrap (k2 - (m.size : Int)) = k3 := by rw [wrap_in (by omega) (by omega), h3]
  rw [IntKind.wrap_i64] at e3
  by_cases c3 : k3 < 0
  · rw [if_neg (by omega)]
    clear h1 h2 h3
    go_enter Try.func4, Try.ntmps4
    go_wp2
    go_ret
    exact ⟨rfl, unhide G0⟩
  · rw [if_pos (by omega)]
    clear h1 h2 h3
    go_enter Try.func4, Try.ntmps4
    go_wp2
    go_ret
    exact ⟨rfl, unhide G0⟩
theorem toCert (d : ByteArray) (sat : Bool) (b m : ByteArray) (w : World) :
    Calls Try.prog 6 #[.agg #[.string d, .bool sat, .string b, .string m]] w fun e w' => e = .returned (.agg #[.string d, .bool sat, .string b, .string m]) ∧ w.grownBy w' none := by
  go_enter Try.func6, Try.ntmps6
  go_wp2
  refine bodyPost_ret (ret_box rfl rfl (c := w.heap.size + 1) ?_) rfl ⟨rfl, grown_trans (World.grownBy_alloc _ _ none) (grown_trans (World.grownBy_alloc _ _ none) (World.grownBy_alloc _ _ none))⟩
  have := (Box4.new 26 (w.alloc (.cells #[.string d, .bool sat, .string b, .string m] 23)) (.string d) (.bool sat) (.string b) (.string m)).kept (World.grownBy_alloc _ (.cells #[.string d, .bool sat, .string b, .string m] 26) none)
  rw [World.size_alloc] at this
  exact this
end Go.Proofs.Ytjmjgjlldkpemaa.yb
