/- What Fix (of the program and of its model) answers at every formula that holds at most 2^20 values and every number, with the clauses in memory of their own; no other condition. -/
import Derived.Test.YtibpnocpafppaaaDoorFx
import Derived.Deep.RegionHeld3
namespace Go.Proofs.YtibpnocpafppaaaDoor.fx
open Go.ChangeShapes Go.WideShapes Go.ChangeAt Go.RowKit
open Go.Proofs.YtibpnocpafppaaaDoor.lits (okB varI)
open Go.Proofs.YtibpnocpafppaaaDoor.cls (hasB)
open Go.Proofs.YtibpnocpafppaaaDoor.wo (woL)
open Go.Proofs.YtibpnocpafppaaaDoor.sl (Sl Own ints marks hide unhide ret_int ret_bool grown_refl grown_trans grown_drewN below_of of_below)
open Go.Proofs.YtibpnocpafppaaaDoor.css (Sls OwnS Outs tot sumLen marksS)
open Go.Proofs.YtibpnocpafppaaaDoor.cf (Box)
open Go.Proofs.YtibpnocpafppaaaDoor.gr (MidF)
open Go.Proofs.YtibpnocpafppaaaDoor.ok (cnfB litIn)
set_option linter.unusedVariables false
attribute [local go_sem ↓] Go.wp_at_zero Go.wp_at_succ

def fixN (n : Int) (LL : List (List Int)) (x : Int) : Int := if fixB n LL x then n else 0
def fixR (n : Int) (LL : List (List Int)) (x : Int) : List (List Int) := if fixB n LL x then fixL x LL else []
theorem fix_no {n x : Int} {LL : List (List Int)} (h : fixB n LL x = false) : fixN n LL x = 0 ∧ fixR n LL x = [] := by
  unfold fixN fixR
  rw [h]
  exact ⟨rfl, rfl⟩
theorem fix_yes {n x : Int} {LL : List (List Int)} (h : fixB n LL x = true) : fixN n LL x = n ∧ fixR n LL x = fixL x LL := by
  unfold fixN fixR
  rw [h]
  exact ⟨rfl, rfl⟩
theorem ownS_nil (lo hi : Nat) (w : World) : OwnS lo hi w (.slice none 0 0) [] :=
  ⟨[], rfl, World.ownsRow_nil .., (fun k e => by cases e), (fun p hp => by cases hp), .nil⟩
/-- the blocks that both begin with: the formula, the answer's -/
def ini (w : World) (n : Int) (v : Value) : World := (w.alloc (.cells #[.int .i64 n, v] 26)).alloc (.cells #[.int .i64 0, .slice none 0 0] 26)
theorem ini_grown (w : World) (n : Int) (v : Value) : w.grownBy (ini w n v) none := grown_trans (World.grownBy_alloc _ _ _) (World.grownBy_alloc _ _ _)
theorem ini_box0 (w : World) (n : Int) (v : Value) : Box 26 (ini w n v) w.heap.size (.int .i64 n) v := (Box.new 26 w (.int .i64 n) v).kept (World.grownBy_alloc _ _ _)
theorem ini_box1 (w : World) (n : Int) (v : Value) : Box 26 (ini w n v) (w.heap.size + 1) (.int .i64 0) (.slice none 0 0) := by
  have := Box.new 26 (w.alloc (.cells #[.int .i64 n, v] 26)) (.int .i64 0) (.slice none 0 0)
  rw [World.size_alloc] at this
  exact this

/-- Fix's answer where it is refused -/
theorem ret_no {fn : Func} {p u : Tmp} {tmps : Array Value} {w w1 : World} (hr : fn.results = #[.cell p 26, .tmp u]) (hp : tmps.getD p undef = .pointer (some ⟨w.heap.size + 1, 0, none⟩)) (hu : tmps.getD u undef = .bool false) (hb : Box 26 w1 (w.heap.size + 1) (.int .i64 0) (.slice none 0 0)) (g : w.grownBy w1 none)
    {n x : Int} {LL : List (List Int)} (h : fixB n LL x = false) :
    ∃ e, (results fn tmps).run Tryd.prog ((w1.setCell ⟨w.heap.size + 1, 0, none⟩ (.int .i64 0)).setCell ⟨w.heap.size + 1, 1, none⟩ (.slice none 0 0)) = .ok e ((w1.setCell ⟨w.heap.size + 1, 0, none⟩ (.int .i64 0)).setCell ⟨w.heap.size + 1, 1, none⟩ (.slice none 0 0)) ∧
      ∃ q, Ending.returned e = .returned (.tuple #[.agg #[.int .i64 (fixN n LL x), q], .bool (fixB n LL x)]) ∧ OwnS w.heap.size ((w1.setCell ⟨w.heap.size + 1, 0, none⟩ (.int .i64 0)).setCell ⟨w.heap.size + 1, 1, none⟩ (.slice none 0 0)).heap.size ((w1.setCell ⟨w.heap.size + 1, 0, none⟩ (.int .i64 0)).setCell ⟨w.heap.size + 1, 1, none⟩ (.slice none 0 0)) q (fixR n LL x) ∧
      w.grownBy ((w1.setCell ⟨w.heap.size + 1, 0, none⟩ (.int .i64 0)).setCell ⟨w.heap.size + 1, 1, none⟩ (.slice none 0 0)) none := by
  refine ⟨_, cf.ret_box2 hr hp ((hb.set0 (.int .i64 0)).set1 (.slice none 0 0)), .slice none 0 0, ?_, ?_, cf.grown_set (cf.grown_set g (by omega)) (by omega)⟩
  · rw [hu, (fix_no h).1, h]
  · rw [(fix_no h).2]
    exact ownS_nil _ _ _

theorem ret_no' {fn : Func} {p u : Tmp} {a : Act} {w w1 : World} {n x : Int} {LL : List (List Int)} (hb : Box 26 w1 (w.heap.size + 1) (.int .i64 0) (.slice none 0 0)) (g : w.grownBy w1 none) (h : fixB n LL x = false)
    (hr : fn.results = #[.cell p 26, .tmp u]) (hp : a.tmps.getD p undef = .pointer (some ⟨w.heap.size + 1, 0, none⟩)) (hu : a.tmps.getD u undef = .bool false) (hd : a.defers = []) :
    bodyPost Tryd.prog fn (fun e w' => ∃ q, e = .returned (.tuple #[.agg #[.int .i64 (fixN n LL x), q], .bool (fixB n LL x)]) ∧ OwnS w.heap.size w'.heap.size w' q (fixR n LL x) ∧ w.grownBy w' none) Exit.ret a ((w1.setCell ⟨w.heap.size + 1, 0, none⟩ (.int .i64 0)).setCell ⟨w.heap.size + 1, 1, none⟩ (.slice none 0 0)) := by
  obtain ⟨e, he, hq⟩ := ret_no hr hp hu hb g h
  exact bodyPost_ret he hd hq

end Go.Proofs.YtibpnocpafppaaaDoor.fx
