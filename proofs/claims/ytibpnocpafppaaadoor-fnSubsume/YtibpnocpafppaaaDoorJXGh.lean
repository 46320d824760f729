/- FlipVar and SwapVars: what the program and its model answer at every formula of the call's own that holds at most 2^20 values, and any numbers. -/
import Derived.Test.YtibpnocpafppaaaDoorJXGe
namespace Go.Proofs.YtibpnocpafppaaaDoor.ge
open Go.ChangeShapes Go.WideShapes Go.ChangeAt Go.RowKit
open cf (Box)
open ok (cnfB)
open lits (okB varI)
open css (Sls OwnS tot Apart own_ne own_ne' own_kind own_mono)
open sl (Sl Own ints hide unhide ret_int ret_bool grown_refl grown_trans)
set_option linter.unusedVariables false
def outN (b : Bool) (n : Int) : Int := if b then n else 0
def outR (b : Bool) (R : List (List Int)) : List (List Int) := if b then R else []
def OutE (b : Bool) (n : Int) (R : List (List Int)) (w : World) (e : Ending) (w' : World) : Prop :=
 ∃ q, e = .returned (.tuple #[.agg #[.int .i64 (outN b n), q], .bool b]) ∧ OwnS w.heap.size w'.heap.size w' q (outR b R) ∧ w.grownBy w' none
theorem ini_all (w : World) (x y : Value) : w.grownBy ((w.alloc (.cells #[x, y] 26)).alloc (.cells #[.int .i64 0, .slice none 0 0] 26)) none ∧ Box 26 ((w.alloc (.cells #[x, y] 26)).alloc (.cells #[.int .i64 0, .slice none 0 0] 26)) w.heap.size x y
  ∧ Box 26 ((w.alloc (.cells #[x, y] 26)).alloc (.cells #[.int .i64 0, .slice none 0 0] 26)) (w.heap.size + 1) (.int .i64 0) (.slice none 0 0) := by
 have b1 := Box.new 26 (w.alloc (.cells #[x, y] 26)) (.int .i64 0) (.slice none 0 0)
 rw [World.size_alloc] at b1
 exact ⟨grown_trans (World.grownBy_alloc _ _ _) (World.grownBy_alloc _ _ _), (Box.new _ _ _ _).kept (World.grownBy_alloc _ _ _), b1⟩
theorem out_no {fn : Func} {p u : Tmp} {a : Act} {w w1 : World} {n : Int} {R : List (List Int)} {b : Bool} (hb : b = false) (bx : Box 26 w1 (w.heap.size + 1) (.int .i64 0) (.slice none 0 0)) (g : w.grownBy w1 none)
  (hr : fn.results = #[.cell p 26, .tmp u]) (hp : a.tmps.getD p undef = .pointer (some ⟨w.heap.size + 1, 0, none⟩)) (hu : a.tmps.getD u undef = .bool false) (hd : a.defers = []) :
  bodyPost Tryd.prog fn (fun e w' => OutE b n R w e w') .ret a ((w1.setCell ⟨w.heap.size + 1, 0, none⟩ (.int .i64 0)).setCell ⟨w.heap.size + 1, 1, none⟩ (.slice none 0 0)) := by
 subst hb
 have h := cf.ret_box2 (tmps := a.tmps) hr hp ((bx.set0 (.int .i64 0)).set1 (.slice none 0 0))
 rw [hu] at h
 exact bodyPost_ret h hd ⟨_, rfl, fx.ownS_nil _ _ _, cf.grown_set (cf.grown_set g (by omega)) (by omega)⟩
end Go.Proofs.YtibpnocpafppaaaDoor.ge
