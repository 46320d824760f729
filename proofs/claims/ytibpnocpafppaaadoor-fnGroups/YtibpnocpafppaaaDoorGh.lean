/- FlipVar and SwapVars: what the program and its model answer at every formula of the call's own that holds at most 2^20 values, and any numbers. -/
import Derived.Test.YtibpnocpafppaaaDoorGg
namespace Go.Proofs.YtibpnocpafppaaaDoor.ge
open Go.ChangeShapes Go.WideShapes Go.ChangeAt Go.RowKit
open Go.Proofs.YtibpnocpafppaaaDoor.cf (Box)
open Go.Proofs.YtibpnocpafppaaaDoor.ok (cnfB)
open Go.Proofs.YtibpnocpafppaaaDoor.lits (okB varI)
open Go.Proofs.YtibpnocpafppaaaDoor.css (Sls OwnS tot Apart own_ne own_ne' own_kind own_mono)
open Go.Proofs.YtibpnocpafppaaaDoor.sl (Sl Own ints hide unhide ret_int ret_bool grown_refl grown_trans)
set_option linter.unusedVariables false

/-- whether f is right and x one of its variables -/
def hvB (n x : Int) (LL : List (List Int)) : Bool := cnfB n LL && decide (1 ≤ x ∧ x ≤ n)
theorem hv_yes {n x : Int} {LL : List (List Int)} (h : hvB n x LL = true) : cnfB n LL = true ∧ 1 ≤ x ∧ x ≤ n ∧ n ≤ 24 := by
  unfold hvB at h
  rw [Bool.and_eq_true, decide_eq_true_iff] at h
  have h1 := h.1
  unfold ok.cnfB at h1
  rw [Bool.and_eq_true, Bool.and_eq_true, decide_eq_true_iff] at h1
  exact ⟨h.1, h.2.1, h.2.2, h1.1.1.2⟩
theorem hasVariable (v : Value) (n x : Int) (LL : List (List Int)) (w : World) (hn : tot LL ≤ 1048576) (hv : Sls w v LL) :
    Calls Tryd.prog 71 #[.agg #[.int .i64 n, v], .int .i64 x] w fun e w' => e = .returned (.bool (hvB n x LL)) ∧ w.grownBy w' none := by
  have hv0 := hv
  obtain ⟨a, cap, rfl, _⟩ := hv
  have g0 := World.grownBy_alloc w (.cells #[.int .i64 n, .slice a LL.length cap] 26) none
  have C := hide (ok.implCnfOk _ n LL _ hn (hv0.kept g0))
  have G0 := hide g0
  have bx := hide (cf.Box.new 26 w (.int .i64 n) (.slice a LL.length cap))
  clear g0 hv0
  go_enter Tryd.func71, Tryd.ntmps71
  go_wp2_with fail
  refine (unhide C).mono ?_; rintro e w1 ⟨rfl, g1⟩
  have G1 := hide (grown_trans (r := none) (unhide G0) g1)
  have bx1 := (unhide bx).kept g1
  have x0 := bx1.c0
  have x1 := bx1.c1
  clear C g1 bx bx1
  cases hb : cnfB n LL
  · have E := hide (show hvB n x LL = false by simp [hvB, hb])
    clear hb
    go_wp2_with fail
    go_ret
    exact ⟨ret_bool (unhide E).symm, unhide G1⟩
  · by_cases h1 : 1 ≤ x
    · have h1' : decide (1 ≤ x) = true := decide_eq_true h1
      have E := hide (show hvB n x LL = decide (x ≤ n) by unfold hvB; rw [hb, Bool.true_and]; exact decide_eq_decide.2 ⟨fun h => h.2, fun h => ⟨h1, h⟩⟩)
      clear hb
      go_wp2_with fail
      go_ret
      exact ⟨ret_bool (unhide E).symm, unhide G1⟩
    · have h1' : decide (1 ≤ x) = false := decide_eq_false h1
      have E := hide (show hvB n x LL = false by unfold hvB; rw [decide_eq_false (fun h => h1 h.1), Bool.and_false])
      clear hb
      go_wp2_with fail
      go_ret
      exact ⟨ret_bool (unhide E).symm, unhide G1⟩

def outN (b : Bool) (n : Int) : Int := if b then n else 0
def outR (b : Bool) (R : List (List Int)) : List (List Int) := if b then R else []
def OutE (b : Bool) (n : Int) (R : List (List Int)) (w : World) (e : Ending) (w' : World) : Prop :=
  ∃ q, e = .returned (.tuple #[.agg #[.int .i64 (outN b n), q], .bool b]) ∧ OwnS w.heap.size w'.heap.size w' q (outR b R) ∧ w.grownBy w' none
/-- the two variables that each begins with -/
theorem ini_all (w : World) (x y : Value) : w.grownBy ((w.alloc (.cells #[x, y] 26)).alloc (.cells #[.int .i64 0, .slice none 0 0] 26)) none ∧ Box 26 ((w.alloc (.cells #[x, y] 26)).alloc (.cells #[.int .i64 0, .slice none 0 0] 26)) w.heap.size x y
    ∧ Box 26 ((w.alloc (.cells #[x, y] 26)).alloc (.cells #[.int .i64 0, .slice none 0 0] 26)) (w.heap.size + 1) (.int .i64 0) (.slice none 0 0) := by
  have b1 := Box.new 26 (w.alloc (.cells #[x, y] 26)) (.int .i64 0) (.slice none 0 0)
  rw [World.size_alloc] at b1
  exact ⟨grown_trans (World.grownBy_alloc _ _ _) (World.grownBy_alloc _ _ _), (Box.new _ _ _ _).kept (World.grownBy_alloc _ _ _), b1⟩
theorem out_no {fn : Func} {p u : Tmp} {a : Act} {w w1 : World} {n : Int} {R : List (List Int)} {b : Bool} (hb : b = false) (bx : Box 26 w1 (w.heap.size + 1) (.int .i64 0) (.slice none 0 0)) (g : w.grownBy w1 none)
    (hr : fn.results = #[.cell p 26, .tmp u]) (hp : a.tmps.getD p undef = .pointer (some ⟨w.heap.size + 1, 0, none⟩)) (hu : a.tmps.getD u undef = .bool false) (hd : a.defers = []) :
    bodyPost Tryd.prog fn (fun e w' => OutE b n R w e w') .ret a ((w1.setCell ⟨w.heap.size + 1, 0, none⟩ (.int .i64 0)).setCell ⟨w.heap.size + 1, 1, none⟩ (.slice none 0 0)) := by
  subst hb
  have h := cf.ret_box2 (tmps := a.tmps) hr hp ((bx.set0 (.int .i64 0)).set1 (.slice none 0 0))
  rw [hu] at h
  exact bodyPost_ret h hd ⟨_, rfl, fx.ownS_nil _ _ _, cf.grown_set (cf.grown_set g (by omega)) (by omega)⟩
theorem out_yes {fn : Func} {p u : Tmp} {a : Act} {w w1 w2 : World} {n : Int} {q : Value} {R : List (List Int)} {b : Bool} (hb : b = true) (bx : Box 26 w1 (w.heap.size + 1) (.int .i64 0) (.slice none 0 0)) (g : w.grownBy w1 none) (o : OwnS w1.heap.size w2.heap.size w2 q R) (g2 : w1.grownBy w2 none)
    (hr : fn.results = #[.cell p 26, .tmp u]) (hp : a.tmps.getD p undef = .pointer (some ⟨w.heap.size + 1, 0, none⟩)) (hu : a.tmps.getD u undef = .bool true) (hd : a.defers = []) :
    bodyPost Tryd.prog fn (fun e w' => OutE b n R w e w') .ret a ((w2.setCell ⟨w.heap.size + 1, 0, none⟩ (.int .i64 n)).setCell ⟨w.heap.size + 1, 1, none⟩ q) := by
  subst hb
  have b2 := bx.kept g2
  have h := cf.ret_box2 (tmps := a.tmps) hr hp ((b2.set0 (.int .i64 n)).set1 q)
  rw [hu] at h
  refine bodyPost_ret h hd ⟨_, rfl, ?_, cf.grown_set (cf.grown_set (grown_trans g g2) (by omega)) (by omega)⟩
  rw [cf.size_set, cf.size_set]
  exact (gr.ownS_set (gr.ownS_set o b2) (b2.set0 _)).sub g.size (Nat.le_refl _)

def flR (v : Int) (LL : List (List Int)) : List (List Int) := LL.map (List.map (exZ v (-v)))
def swR (v u : Int) (LL : List (List Int)) : List (List Int) := LL.map (List.map (exZ v u))

end Go.Proofs.YtibpnocpafppaaaDoor.ge
