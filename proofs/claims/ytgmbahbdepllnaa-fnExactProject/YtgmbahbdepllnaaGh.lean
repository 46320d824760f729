/- FlipVar and SwapVars: what the program and its model answer at every formula of the call's own that holds at most 2^20 values, and any numbers. -/
import Derived.Test.YtgmbahbdepllnaaGg
namespace Go.Proofs.Ytgmbahbdepllnaa.ge
open Go.ChangeShapes Go.WideShapes Go.ChangeAt Go.RowKit
open Go.Proofs.Ytgmbahbdepllnaa.cf (Box)
open Go.Proofs.Ytgmbahbdepllnaa.ok (cnfB)
open Go.Proofs.Ytgmbahbdepllnaa.lits (okB varI)
open Go.Proofs.Ytgmbahbdepllnaa.css (Sls OwnS tot Apart own_ne own_ne' own_kind own_mono)
open Go.Proofs.Ytgmbahbdepllnaa.sl (Sl Own ints hide unhide ret_int ret_bool grown_refl grown_trans)
set_option linter.unusedVariables false

/-- whether f is right and x one of its variables -/
def hvB (n x : Int) (LL : List (List Int)) : Bool := cnfB n LL && decide (1 ≤ x ∧ x ≤ n)
theorem hv_yes {n x : Int} {LL : List (List Int)} (h : hvB n x LL = true) : cnfB n LL = true ∧ 1 ≤ x ∧ x ≤ n ∧ n ≤ 24 := by
  unfold hvB at h
  rw [Bool.and_eq_true, decide_eq_true_iff] at h
  have h1 := h.1
  unfold ok.cnfB at h1
  rw [Bool.and_eq_true, Bool.and_eq_true, decide_eq_true_iff] at h1
  exact ⟨h.1, h.2.1, h.2.2, h1.1.1.2⟩
theorem hasVariable (v : Value) (n x : Int) (LL : List (List Int)) (w : World) (hn : tot LL ≤ 1048576) (hv : Sls w v LL) :
    Calls Try.prog 41 #[.agg #[.int .i64 n, v], .int .i64 x] w fun e w' => e = .returned (.bool (hvB n x LL)) ∧ w.grownBy w' none := by
  have hv0 := hv
  obtain ⟨a, cap, rfl, _⟩ := hv
  have g0 := World.grownBy_alloc w (.cells #[.int .i64 n, .slice a LL.length cap] 26) none
  have C := hide (ok.implCnfOk _ n LL _ hn (hv0.kept g0))
  have G0 := hide g0
  have bx := hide (cf.Box.new 26 w (.int .i64 n) (.slice a LL.length cap))
  clear g0 hv0
  go_enter Try.func41, Try.ntmps41
  go_wp2_with fail
  refine (unhide C).mono ?_; rintro e w1 ⟨rfl, g1⟩
  have G1 := hide (grown_trans (r := none) (unhide G0) g1)
  have bx1 := (unhide bx).kept g1
  have x0 := bx1.c0
  have x1 := bx1.c1
  clear C g1 bx bx1
  cases hb : cnfB n LL
  · have E := hide (show hvB n x LL = false by simp [hvB, hb])
    clear hb
    go_wp2_with fail
    go_ret
    exact ⟨ret_bool (unhide E).symm, unhide G1⟩
  · by_cases h1 : 1 ≤ x
    · have h1' : decide (1 ≤ x) = true := decide_eq_true h1
      have E := hide (show hvB n x LL = decide (x ≤ n) by unfold hvB; rw [hb, Bool.true_and]; exact decide_eq_decide.2 ⟨fun h => h.2, fun h => ⟨h1, h⟩⟩)
      clear hb
      go_wp2_with fail
      go_ret
      exact ⟨ret_bool (unhide E).symm, unhide G1⟩
    · have h1' : decide (1 ≤ x) = false := decide_eq_false h1
      have E := hide (show hvB n x LL = false by unfold hvB; rw [decide_eq_false (fun h => h1 h.1), Bool.and_false])
      clear hb
      go_wp2_with fail
      go_ret
      exact ⟨ret_bool (unhide E).symm, unhide G1⟩

def outN (b : Bool) (n : Int) : Int := if b then n else 0
def outR (b : Bool) (R : List (List Int)) : List (List Int) := if b then R else []
def OutE (b : Bool) (n : Int) (R : List (List Int)) (w : World) (e : Ending) (w' : World) : Prop :=
  ∃ q, e = .returned (.tuple #[.agg #[.int .i64 (outN b n), q], .bool b]) ∧ OwnS w.heap.size w'.heap.size w' q (outR b R) ∧ w.grownBy w' none
/-- the two variables that each begins with -/
theorem ini_all (w : World) (x y : Value) : w.grownBy ((w.alloc (.cells #[x, y] 26)).alloc (.cells #[.int .i64 0, .slice none 0 0] 26)) none ∧ Box 26 ((w.alloc (.cells #[x, y] 26)).alloc (.cells #[.int .i64 0, .slice none 0 0] 26)) w.heap.size x y
    ∧ Box 26 ((w.alloc (.cells #[x, y] 26)).alloc (.cells #[.int .i64 0, .slice none 0 0] 26)) (w.heap.size + 1) (.int .i64 0) (.slice none 0 0) := by
  have b1 := Box.new 26 (w.alloc (.cells #[x, y] 26)) (.int .i64 0) (.slice none 0 0)
  rw [World.size_alloc] at b1
  exact ⟨grown_trans (World.grownBy_alloc _ _ _) (World.grownBy_alloc _ _ _), (Box.new _ _ _ _).kept (World.grownBy_alloc _ _ _), b1⟩
theorem out_no {fn : Func} {p u : Tmp} {a : Act} {w w1 : World} {n : Int} {R : List (List Int)} {b : Bool} (hb : b = false) (bx : Box 26 w1 (w.heap.size + 1) (.int .i64 0) (.slice none 0 0)) (g : w.grownBy w1 none)
    (hr : fn.results = #[.cell p 26, .tmp u]) (hp : a.tmps.getD p undef = .pointer (some ⟨w.heap.size + 1, 0, none⟩)) (hu : a.tmps.getD u undef = .bool false) (hd : a.defers = []) :
    bodyPost Try.prog fn (fun e w' => OutE b n R w e w') .ret a ((w1.setCell ⟨w.heap.size + 1, 0, none⟩ (.int .i64 0)).setCell ⟨w.heap.size + 1, 1, none⟩ (.slice none 0 0)) := by
  subst hb
  have h := cf.ret_box2 (tmps := a.tmps) hr hp ((bx.set0 (.int .i64 0)).set1 (.slice none 0 0))
  rw [hu] at h
  exact bodyPost_ret h hd ⟨_, rfl, fx.ownS_nil _ _ _, cf.grown_set (cf.grown_set g (by omega)) (by omega)⟩
theorem out_yes {fn : Func} {p u : Tmp} {a : Act} {w w1 w2 : World} {n : Int} {q : Value} {R : List (List Int)} {b : Bool} (hb : b = true) (bx : Box 26 w1 (w.heap.size + 1) (.int .i64 0) (.slice none 0 0)) (g : w.grownBy w1 none) (o : OwnS w1.heap.size w2.heap.size w2 q R) (g2 : w1.grownBy w2 none)
    (hr : fn.results = #[.cell p 26, .tmp u]) (hp : a.tmps.getD p undef = .pointer (some ⟨w.heap.size + 1, 0, none⟩)) (hu : a.tmps.getD u undef = .bool true) (hd : a.defers = []) :
    bodyPost Try.prog fn (fun e w' => OutE b n R w e w') .ret a ((w2.setCell ⟨w.heap.size + 1, 0, none⟩ (.int .i64 n)).setCell ⟨w.heap.size + 1, 1, none⟩ q) := by
  subst hb
  have b2 := bx.kept g2
  have h := cf.ret_box2 (tmps := a.tmps) hr hp ((b2.set0 (.int .i64 n)).set1 q)
  rw [hu] at h
  refine bodyPost_ret h hd ⟨_, rfl, ?_, cf.grown_set (cf.grown_set (grown_trans g g2) (by omega)) (by omega)⟩
  rw [cf.size_set, cf.size_set]
  exact (gr.ownS_set (gr.ownS_set o b2) (b2.set0 _)).sub g.size (Nat.le_refl _)

def flR (v : Int) (LL : List (List Int)) : List (List Int) := LL.map (List.map (exZ v (-v)))
def swR (v u : Int) (LL : List (List Int)) : List (List Int) := LL.map (List.map (exZ v u))

set_option maxHeartbeats 1000000 in
theorem implFlip (v : Value) (n x : Int) (LL : List (List Int)) (lo hi : Nat) (w : World) (hn : tot LL ≤ 1048576) (hv : OwnS lo hi w v LL) :
    Calls Try.prog 13 #[.agg #[.int .i64 n, v], .int .i64 x] w fun e w' => OutE (hvB n x LL) n (flR x LL) w e w' := by
  obtain ⟨va, vc, rfl⟩ := hv.len
  obtain ⟨g0, b0, b1⟩ := ini_all w (.int .i64 n) (.slice va LL.length vc)
  have C := hide (hasVariable _ n x LL _ hn (hv.kept g0).sls)
  have C2 := hide (fun (w1 : World) (g : w.grownBy w1 none) (hx : 1 ≤ x ∧ x ≤ 24) => exchangedIn (.slice va LL.length vc) n x (-x) LL lo hi w1 (by omega) (by omega) hn (hv.kept g))
  have G0 := hide g0
  have B0 := hide b0
  have B1 := hide b1
  clear hv g0 b0 b1
  go_enter Try.func13, Try.ntmps13
  go_wp2_with fail
  refine (unhide C).mono ?_; rintro e w1 ⟨rfl, g1⟩
  have G1 := hide (grown_trans (r := none) (unhide G0) g1)
  have bx0 := (unhide B0).kept g1
  have bx1 := (unhide B1).kept g1
  have x0 := bx0.c0
  have x1 := bx0.c1
  have y0 := bx1.c0
  have y1 := bx1.c1
  have y2 := bx1.f 0
  have y3 := bx1.f 1
  have X1 := hide bx1
  clear C g1 bx0 bx1 B0 B1 G0
  cases hb : hvB n x LL
  · have E := hide hb
    clear hb C2
    go_wp2_with fail
    (try simp only [Exit.inBlock, Exit.then])
    exact out_no (unhide E) (unhide X1) (unhide G1) rfl rfl rfl rfl
  · have E := hide hb
    obtain ⟨_, h1, h2, h3⟩ := hv_yes hb
    have C3 := hide (unhide C2 w1 (unhide G1) ⟨h1, by omega⟩)
    clear hb C2
    go_wp2_with fail
    refine (unhide C3).mono ?_; rintro e w2 ⟨q, rfl, o2, g2⟩
    obtain ⟨qa, qc, rfl⟩ := o2.len
    have bx2 := (unhide X1).kept g2
    have z0 := bx2.c0
    have z1 := bx2.c1
    have z2 := bx2.f 0
    have z3 := bx2.f 1
    rw [List.length_map] at o2
    have O2 := hide o2
    have G2 := hide g2
    clear o2 g2 bx2 C3 x0 x1 y0 y1 y2 y3
    go_wp2_with fail
    (try simp only [Exit.inBlock, Exit.then])
    exact out_yes (unhide E) (unhide X1) (unhide G1) (unhide O2) (unhide G2) rfl rfl rfl rfl

set_option maxHeartbeats 1000000 in
theorem implSwap (v : Value) (n x y : Int) (LL : List (List Int)) (lo hi : Nat) (w : World) (hn : tot LL ≤ 1048576) (hv : OwnS lo hi w v LL) :
    Calls Try.prog 14 #[.agg #[.int .i64 n, v], .int .i64 x, .int .i64 y] w fun e w' => OutE (hvB n x LL && hvB n y LL) n (swR x y LL) w e w' := by
  obtain ⟨va, vc, rfl⟩ := hv.len
  obtain ⟨g0, b0, b1⟩ := ini_all w (.int .i64 n) (.slice va LL.length vc)
  have C := hide (fun (w1 : World) (g : w.grownBy w1 none) (x : Int) => hasVariable _ n x LL w1 hn (hv.kept g).sls)
  have C2 := hide (fun (w1 : World) (g : w.grownBy w1 none) (hx : 1 ≤ x ∧ x ≤ 24) (hy : 1 ≤ y ∧ y ≤ 24) => exchangedIn (.slice va LL.length vc) n x y LL lo hi w1 (by omega) (by omega) hn (hv.kept g))
  have G0 := hide g0
  have B0 := hide b0
  have B1 := hide b1
  clear hv g0 b0 b1
  go_enter Try.func14, Try.ntmps14
  go_wp2_with fail
  refine (unhide C _ (unhide G0) x).mono ?_; rintro e w1 ⟨rfl, g1⟩
  have G1 := hide (grown_trans (r := none) (unhide G0) g1)
  have bx0 := (unhide B0).kept g1
  have bx1 := (unhide B1).kept g1
  have x0 := bx0.c0
  have x1 := bx0.c1
  have y0 := bx1.c0
  have y1 := bx1.c1
  have y2 := bx1.f 0
  have y3 := bx1.f 1
  have X0 := hide bx0
  have X1 := hide bx1
  clear g1 bx0 bx1 B0 B1 G0
  cases hb : hvB n x LL
  · have E := hide (show (hvB n x LL && hvB n y LL) = false by rw [hb]; rfl)
    clear hb C2
    go_wp2_with fail
    (try simp only [Exit.inBlock, Exit.then])
    exact out_no (unhide E) (unhide X1) (unhide G1) rfl rfl rfl rfl
  · obtain ⟨_, h1, h2, h3⟩ := hv_yes hb
    have EX := hide hb
    clear hb
    go_wp2_with fail
    refine (unhide C _ (unhide G1) y).mono ?_; rintro e w2 ⟨rfl, g2⟩
    have G2 := hide (grown_trans (r := none) (unhide G1) g2)
    have bx0 := (unhide X0).kept g2
    have bx1 := (unhide X1).kept g2
    clear x0 x1 y0 y1 y2 y3
    have x0 := bx0.c0
    have x1 := bx0.c1
    have y0 := bx1.c0
    have y1 := bx1.c1
    have y2 := bx1.f 0
    have y3 := bx1.f 1
    have X2 := hide bx1
    clear g2 bx0 bx1 X0 X1 G1 C
    cases hb : hvB n y LL
    · have E := hide (show (hvB n x LL && hvB n y LL) = false by rw [hb, Bool.and_false])
      clear hb C2
      go_wp2_with fail
      (try simp only [Exit.inBlock, Exit.then])
      exact out_no (unhide E) (unhide X2) (unhide G2) rfl rfl rfl rfl
    · obtain ⟨_, h4, h5, h6⟩ := hv_yes hb
      have E := hide (show (hvB n x LL && hvB n y LL) = true by rw [hb, unhide EX]; rfl)
      have C3 := hide (unhide C2 w2 (unhide G2) ⟨h1, by omega⟩ ⟨h4, by omega⟩)
      clear hb C2
      go_wp2_with fail
      refine (unhide C3).mono ?_; rintro e w3 ⟨q, rfl, o2, g2⟩
      obtain ⟨qa, qc, rfl⟩ := o2.len
      have bx2 := (unhide X2).kept g2
      have z0 := bx2.c0
      have z1 := bx2.c1
      have z2 := bx2.f 0
      have z3 := bx2.f 1
      rw [List.length_map] at o2
      have O2 := hide o2
      have G3 := hide g2
      clear o2 g2 bx2 C3 x0 x1 y0 y1 y2 y3
      go_wp2_with fail
      (try simp only [Exit.inBlock, Exit.then])
      exact out_yes (unhide E) (unhide X2) (unhide G2) (unhide O2) (unhide G3) rfl rfl rfl rfl
end Go.Proofs.Ytgmbahbdepllnaa.ge
