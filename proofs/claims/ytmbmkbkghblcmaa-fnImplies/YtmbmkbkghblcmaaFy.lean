/- What Fix (of the program and of its model) answers at every formula that holds at most 2^20 values and every number, with the clauses in memory of their own; no other condition. -/
import Derived.Test.YtmbmkbkghblcmaaFx
import Derived.Deep.RegionHeld3
namespace Go.Proofs.Ytmbmkbkghblcmaa.fx
open Go.ChangeShapes Go.WideShapes Go.ChangeAt Go.RowKit
open Go.Proofs.Ytmbmkbkghblcmaa.lits (okB varI)
open Go.Proofs.Ytmbmkbkghblcmaa.cls (hasB)
open Go.Proofs.Ytmbmkbkghblcmaa.wo (woL)
open Go.Proofs.Ytmbmkbkghblcmaa.sl (Sl Own ints marks hide unhide ret_int ret_bool grown_refl grown_trans grown_drewN below_of of_below)
open Go.Proofs.Ytmbmkbkghblcmaa.css (Sls OwnS Outs tot sumLen marksS)
open Go.Proofs.Ytmbmkbkghblcmaa.cf (Box)
open Go.Proofs.Ytmbmkbkghblcmaa.gr (MidF)
open Go.Proofs.Ytmbmkbkghblcmaa.ok (cnfB litIn)
set_option linter.unusedVariables false
attribute [local go_sem ↓] Go.wp_at_zero Go.wp_at_succ

def fixN (n : Int) (LL : List (List Int)) (x : Int) : Int := if fixB n LL x then n else 0
def fixR (n : Int) (LL : List (List Int)) (x : Int) : List (List Int) := if fixB n LL x then fixL x LL else []
theorem fix_no {n x : Int} {LL : List (List Int)} (h : fixB n LL x = false) : fixN n LL x = 0 ∧ fixR n LL x = [] := by
  unfold fixN fixR
  rw [h]
  exact ⟨rfl, rfl⟩
theorem fix_yes {n x : Int} {LL : List (List Int)} (h : fixB n LL x = true) : fixN n LL x = n ∧ fixR n LL x = fixL x LL := by
  unfold fixN fixR
  rw [h]
  exact ⟨rfl, rfl⟩
theorem ownS_nil (lo hi : Nat) (w : World) : OwnS lo hi w (.slice none 0 0) [] :=
  ⟨[], rfl, World.ownsRow_nil .., (fun k e => by cases e), (fun p hp => by cases hp), .nil⟩
/-- the blocks that both begin with: the formula, the answer's -/
def ini (w : World) (n : Int) (v : Value) : World := (w.alloc (.cells #[.int .i64 n, v] 26)).alloc (.cells #[.int .i64 0, .slice none 0 0] 26)
theorem ini_grown (w : World) (n : Int) (v : Value) : w.grownBy (ini w n v) none := grown_trans (World.grownBy_alloc _ _ _) (World.grownBy_alloc _ _ _)
theorem ini_box0 (w : World) (n : Int) (v : Value) : Box 26 (ini w n v) w.heap.size (.int .i64 n) v := (Box.new 26 w (.int .i64 n) v).kept (World.grownBy_alloc _ _ _)
theorem ini_box1 (w : World) (n : Int) (v : Value) : Box 26 (ini w n v) (w.heap.size + 1) (.int .i64 0) (.slice none 0 0) := by
  have := Box.new 26 (w.alloc (.cells #[.int .i64 n, v] 26)) (.int .i64 0) (.slice none 0 0)
  rw [World.size_alloc] at this
  exact this

/-- Fix's answer where it is refused -/
theorem ret_no {fn : Func} {p u : Tmp} {tmps : Array Value} {w w1 : World} (hr : fn.results = #[.cell p 26, .tmp u]) (hp : tmps.getD p undef = .pointer (some ⟨w.heap.size + 1, 0, none⟩)) (hu : tmps.getD u undef = .bool false) (hb : Box 26 w1 (w.heap.size + 1) (.int .i64 0) (.slice none 0 0)) (g : w.grownBy w1 none)
    {n x : Int} {LL : List (List Int)} (h : fixB n LL x = false) :
    ∃ e, (results fn tmps).run Try.prog ((w1.setCell ⟨w.heap.size + 1, 0, none⟩ (.int .i64 0)).setCell ⟨w.heap.size + 1, 1, none⟩ (.slice none 0 0)) = .ok e ((w1.setCell ⟨w.heap.size + 1, 0, none⟩ (.int .i64 0)).setCell ⟨w.heap.size + 1, 1, none⟩ (.slice none 0 0)) ∧
      ∃ q, Ending.returned e = .returned (.tuple #[.agg #[.int .i64 (fixN n LL x), q], .bool (fixB n LL x)]) ∧ OwnS w.heap.size ((w1.setCell ⟨w.heap.size + 1, 0, none⟩ (.int .i64 0)).setCell ⟨w.heap.size + 1, 1, none⟩ (.slice none 0 0)).heap.size ((w1.setCell ⟨w.heap.size + 1, 0, none⟩ (.int .i64 0)).setCell ⟨w.heap.size + 1, 1, none⟩ (.slice none 0 0)) q (fixR n LL x) ∧
      w.grownBy ((w1.setCell ⟨w.heap.size + 1, 0, none⟩ (.int .i64 0)).setCell ⟨w.heap.size + 1, 1, none⟩ (.slice none 0 0)) none := by
  refine ⟨_, cf.ret_box2 hr hp ((hb.set0 (.int .i64 0)).set1 (.slice none 0 0)), .slice none 0 0, ?_, ?_, cf.grown_set (cf.grown_set g (by omega)) (by omega)⟩
  · rw [hu, (fix_no h).1, h]
  · rw [(fix_no h).2]
    exact ownS_nil _ _ _

theorem ret_no' {fn : Func} {p u : Tmp} {a : Act} {w w1 : World} {n x : Int} {LL : List (List Int)} (hb : Box 26 w1 (w.heap.size + 1) (.int .i64 0) (.slice none 0 0)) (g : w.grownBy w1 none) (h : fixB n LL x = false)
    (hr : fn.results = #[.cell p 26, .tmp u]) (hp : a.tmps.getD p undef = .pointer (some ⟨w.heap.size + 1, 0, none⟩)) (hu : a.tmps.getD u undef = .bool false) (hd : a.defers = []) :
    bodyPost Try.prog fn (fun e w' => ∃ q, e = .returned (.tuple #[.agg #[.int .i64 (fixN n LL x), q], .bool (fixB n LL x)]) ∧ OwnS w.heap.size w'.heap.size w' q (fixR n LL x) ∧ w.grownBy w' none) Exit.ret a ((w1.setCell ⟨w.heap.size + 1, 0, none⟩ (.int .i64 0)).setCell ⟨w.heap.size + 1, 1, none⟩ (.slice none 0 0)) := by
  obtain ⟨e, he, hq⟩ := ret_no hr hp hu hb g h
  exact bodyPost_ret he hd hq

set_option maxHeartbeats 2000000 in
theorem specFix (v : Value) (n x : Int) (LL : List (List Int)) (w : World) (hn : tot LL ≤ 1048576) (hv : Sls w v LL) :
    Calls Try.prog 11 #[.agg #[.int .i64 n, v], .int .i64 x] w fun e w' => ∃ u, e = .returned (.tuple #[.agg #[.int .i64 (fixN n LL x), u], .bool (fixB n LL x)]) ∧ OwnS w.heap.size w'.heap.size w' u (fixR n LL x) ∧ w.grownBy w' none := by
  have cc := ok.specCnfOk v n LL (ini w n v).drew hn ((hv.kept (ini_grown w n v)).kept (cf.grown_drew _ none))
  have cx := lits.specLitOk x
  have cv := lits.specLitVar x
  have I0 := hide (ini_grown w n v)
  have I1 := hide (ini_box0 w n v)
  have I2 := hide (ini_box1 w n v)
  have CF := hide (fun w1 (g : w.grownBy w1 none) hx => l02Fix v n x LL w1 hn hx (hv.kept g))
  have GD := hide (cf.grown_drew (ini w n v) none)
  clear hv
  unfold ini at cc I0 I1 I2 GD
  have leaf : ∀ b, fixB n LL x = b → (okB x = true ∧ b = true → x ≠ 0 ∧ -24 ≤ x ∧ x ≤ 24) := fun b _ h => lits.okB_iff.1 h.1
  cases hb : cnfB n LL
  · rw [hb] at cc
    have CC := hide cc
    have E := hide (show fixB n LL x = false by unfold fixB; rw [hb]; rfl)
    clear cc cx cv hb leaf CF
    go_enter Try.func11, Try.ntmps11
    go_wp2_with fail
    first
      | (go_region_with (first
        | (go_at_call 20; refine (unhide CC).mono ?_; rintro e w2 ⟨rfl, g2⟩; have G2 := hide (grown_trans (r := none) (unhide GD) g2); have k0 := ((unhide I1).kept (unhide G2)).c0; have k1 := ((unhide I1).kept (unhide G2)).c1; clear g2)))
      | fail
    all_goals
      have b2 := (unhide I2).kept (unhide G2)
      have r0 := b2.c0
      have r1 := b2.c1
      have f0 := b2.f 0
      have f1 := b2.f 1
      have B2 := hide b2
      clear b2
      go_wp2_with fail
      (try simp only [Exit.inBlock, Exit.then])
      exact ret_no' (unhide B2) (grown_trans (r := none) (unhide I0) (unhide G2)) (unhide E) rfl (by rfl) (by rfl) (by rfl)
  · rw [hb] at cc
    have CC := hide cc
    cases hx : okB x
    · rw [hx] at cx
      have CX := hide cx
      have E := hide (show fixB n LL x = false by unfold fixB litIn; rw [hx]; simp)
      clear cc cx cv hb hx leaf CF
      go_enter Try.func11, Try.ntmps11
      go_wp2_with fail
      first
        | (go_region_with (first
          | (go_at_call 20; refine (unhide CC).mono ?_; rintro e w2 ⟨rfl, g2⟩; have G2 := hide (grown_trans (r := none) (unhide GD) g2); have k0 := ((unhide I1).kept (unhide G2)).c0; have k1 := ((unhide I1).kept (unhide G2)).c1; clear g2)
          | (go_at_call 38; refine (unhide CX _).mono ?_; rintro e w3 ⟨rfl, rfl⟩)))
        | fail
      all_goals
        have b2 := (unhide I2).kept (unhide G2)
        have r0 := b2.c0
        have r1 := b2.c1
        have f0 := b2.f 0
        have f1 := b2.f 1
        have B2 := hide b2
        clear b2
        go_wp2_with fail
        (try simp only [Exit.inBlock, Exit.then])
        exact ret_no' (unhide B2) (grown_trans (r := none) (unhide I0) (unhide G2)) (unhide E) rfl (by rfl) (by rfl) (by rfl)
    · rw [hx] at cx
      have CX := hide cx
      have CV := hide cv
      have hlit := lits.okB_iff.1 hx
      by_cases hq : varI x ≤ n
      · have E := hide (show fixB n LL x = true by unfold fixB litIn; rw [hb, hx, decide_eq_true hq]; rfl)
        clear cc cx cv hb hx leaf
        generalize varI x = y at *
        have hq' : ¬ n < y := by omega
        have hq2 : decide (n < y) = false := decide_eq_false hq'
        have HL := hide hlit
        clear hlit
        go_enter Try.func11, Try.ntmps11
        go_wp2_with fail
        go_region_held3 (fun w' => w'.cell? ⟨w.heap.size, 0, none⟩ = some (.int .i64 n) ∧ w'.cell? ⟨w.heap.size, 1, none⟩ = some v) (go_keep) (first
          | (go_at_call 20; refine (unhide CC).mono ?_; rintro e w2 ⟨rfl, g2⟩; have G2 := hide (grown_trans (r := none) (unhide GD) g2); have k0 := ((unhide I1).kept (unhide G2)).c0; have k1 := ((unhide I1).kept (unhide G2)).c1; clear g2)
          | (go_at_call 38; refine (unhide CX _).mono ?_; rintro e w3 ⟨rfl, hw3⟩; have hw3' := hw3.symm; clear hw3; subst hw3')
          | (go_at_call 39; refine (unhide CV _).mono ?_; rintro e w4 ⟨rfl, hw4⟩; have hw4' := hw4.symm; clear hw4; subst hw4'))
        all_goals
          have b2 := (unhide I2).kept (unhide G2)
          have G3 := hide (grown_trans (r := none) (unhide I0) (unhide G2))
          have B2 := hide b2
          clear b2
          go_wp2_with fail
          refine (unhide CF w2 (unhide G3) (unhide HL)).mono ?_; rintro e w5 ⟨u5, rfl, o5, g5⟩
          obtain ⟨ua, uc, rfl⟩ := o5.len
          have b5 := (unhide B2).kept g5
          have r0 := b5.c0
          have r1 := b5.c1
          have f0 := b5.f 0
          have f1 := b5.f 1
          have B5 := hide b5
          have O5 := hide (o5.sub (lo' := w.heap.size) (unhide G3).size (Nat.le_refl _))
          have G5 := hide (grown_trans (r := none) (unhide G3) g5)
          clear b5 o5 g5
          go_wp2_with fail
          (try simp only [Exit.inBlock, Exit.then])
          refine bodyPost_ret (cf.ret_box2 rfl rfl (((unhide B5).set0 (.int .i64 n)).set1 (.slice ua (fixL x LL).length uc))) rfl ⟨.slice ua (fixL x LL).length uc, ?_, ?_, ?_⟩
          · rw [(fix_yes (unhide E)).1, unhide E]
            rfl
          · rw [(fix_yes (unhide E)).2, cf.size_set, cf.size_set]
            exact gr.ownS_set (gr.ownS_set (unhide O5) (unhide B5)) ((unhide B5).set0 (.int .i64 n))
          · exact cf.grown_set (cf.grown_set (unhide G5) (by omega)) (by omega)
      · have E := hide (show fixB n LL x = false by unfold fixB litIn; rw [decide_eq_false hq]; simp)
        clear cc cx cv hb hx leaf CF hlit
        generalize varI x = y at *
        have hq' : n < y := by omega
        go_enter Try.func11, Try.ntmps11
        go_wp2_with fail
        go_region_held3 (fun w' => w'.cell? ⟨w.heap.size, 0, none⟩ = some (.int .i64 n) ∧ w'.cell? ⟨w.heap.size, 1, none⟩ = some v) (go_keep) (first
          | (go_at_call 20; refine (unhide CC).mono ?_; rintro e w2 ⟨rfl, g2⟩; have G2 := hide (grown_trans (r := none) (unhide GD) g2); have k0 := ((unhide I1).kept (unhide G2)).c0; have k1 := ((unhide I1).kept (unhide G2)).c1; clear g2)
          | (go_at_call 38; refine (unhide CX _).mono ?_; rintro e w3 ⟨rfl, hw3⟩; have hw3' := hw3.symm; clear hw3; subst hw3')
          | (go_at_call 39; refine (unhide CV _).mono ?_; rintro e w4 ⟨rfl, hw4⟩; have hw4' := hw4.symm; clear hw4; subst hw4'))
        all_goals
          have b2 := (unhide I2).kept (unhide G2)
          have r0 := b2.c0
          have r1 := b2.c1
          have f0 := b2.f 0
          have f1 := b2.f 1
          have B2 := hide b2
          clear b2
          go_wp2_with fail
          (try simp only [Exit.inBlock, Exit.then])
          exact ret_no' (unhide B2) (grown_trans (r := none) (unhide I0) (unhide G2)) (unhide E) rfl (by rfl) (by rfl) (by rfl)
end Go.Proofs.Ytmbmkbkghblcmaa.fx
