/- FlipVar and SwapVars of the model, and both sides together: at every formula of the call's own that holds at most 2^20 values, and any numbers. -/
import Derived.Test.YtgmbahbdepllnaaGh
namespace Go.Proofs.Ytgmbahbdepllnaa.ge
open Go.ChangeShapes Go.WideShapes Go.ChangeAt Go.RowKit
open Go.Proofs.Ytgmbahbdepllnaa.cf (Box)
open Go.Proofs.Ytgmbahbdepllnaa.ok (cnfB)
open Go.Proofs.Ytgmbahbdepllnaa.lits (okB varI)
open Go.Proofs.Ytgmbahbdepllnaa.css (Sls OwnS tot Apart own_ne own_ne' own_kind own_mono)
open Go.Proofs.Ytgmbahbdepllnaa.sl (Sl Own ints hide unhide ret_int ret_bool grown_refl grown_trans)
set_option linter.unusedVariables false

set_option maxHeartbeats 1000000 in
theorem specFlip (v : Value) (n x : Int) (LL : List (List Int)) (lo hi : Nat) (w : World) (hn : tot LL ≤ 1048576) (hhi : hi ≤ w.heap.size) (hv : OwnS lo hi w v LL) :
    Calls Try.prog 15 #[.agg #[.int .i64 n, v], .int .i64 x] w fun e w' => OutE (hvB n x LL) n (flR x LL) w e w' := by
  obtain ⟨va, vc, rfl⟩ := hv.len
  obtain ⟨g0, b0, b1⟩ := ini_all w (.int .i64 n) (.slice va LL.length vc)
  have C := hide (ok.specCnfOk _ n LL _ hn (hv.kept g0).sls)
  have C2 := hide (fun (w1 : World) (g : w.grownBy w1 none) (hx : 1 ≤ x ∧ x ≤ 24) => l14Each (.slice va LL.length vc) n x x (-1) LL lo hi w1 (by omega) (by omega) (by omega) hn (Nat.le_trans hhi g.size) (hv.kept g))
  have LI := hide (fun w1 => ok.l01In x 1 n w1)
  have G0 := hide g0
  have B0 := hide b0
  have B1 := hide b1
  clear hv g0 b0 b1
  go_enter Try.func15, Try.ntmps15
  go_wp2_with fail
  refine (unhide C).mono ?_; rintro e w1 ⟨rfl, g1⟩
  have G1 := hide (grown_trans (r := none) (unhide G0) g1)
  have bx0 := (unhide B0).kept g1
  have bx1 := (unhide B1).kept g1
  have x0 := bx0.c0
  have x1 := bx0.c1
  have y0 := bx1.c0
  have y1 := bx1.c1
  have y2 := bx1.f 0
  have y3 := bx1.f 1
  have X1 := hide bx1
  clear C g1 bx0 bx1 B0 B1 G0
  cases hb : cnfB n LL
  · have E := hide (show hvB n x LL = false by simp [hvB, hb])
    clear hb C2
    go_wp2_with fail
    (try simp only [Exit.inBlock, Exit.then])
    exact out_no (unhide E) (unhide X1) (unhide G1) rfl rfl rfl rfl
  · have HV := hide (show hvB n x LL = decide (1 ≤ x ∧ x ≤ n) by simp [hvB, hb])
    have HB := hide hb
    clear hb
    go_wp2_with fail
    refine (unhide LI _).mono ?_; rintro e w2 ⟨rfl, hw⟩; have hw' := hw.symm; clear hw; subst hw'
    by_cases hd : 1 ≤ x ∧ x ≤ n
    · have E := hide ((unhide HV).trans (decide_eq_true hd))
      have hd' : decide (1 ≤ x ∧ x ≤ n) = true := decide_eq_true hd
      rw [hd']
      obtain ⟨_, h1, h2, h3⟩ := hv_yes (unhide E)
      have C3 := hide (unhide C2 w1 (unhide G1) ⟨h1, by omega⟩)
      have ER := hide (map_eq (unhide HB) (fun z hz => flip_eq (v := x) ⟨h1, by omega⟩ hz))
      clear hd hd' C2 LI HV
      go_wp2_with fail
      refine (unhide C3).mono ?_; rintro e w3 ⟨q, rfl, o2, g2⟩
      obtain ⟨qa, qc, rfl⟩ := o2.len
      have bx2 := (unhide X1).kept g2
      have z0 := bx2.c0
      have z1 := bx2.c1
      have z2 := bx2.f 0
      have z3 := bx2.f 1
      rw [List.length_map, unhide ER] at o2
      have O2 := hide o2
      have G2 := hide g2
      clear o2 g2 bx2 C3 x0 x1 y0 y1 y2 y3
      go_wp2_with fail
      (try simp only [Exit.inBlock, Exit.then])
      exact out_yes (unhide E) (unhide X1) (unhide G1) (unhide O2) (unhide G2) rfl rfl rfl rfl
    · have E := hide ((unhide HV).trans (decide_eq_false hd))
      have hd' : decide (1 ≤ x ∧ x ≤ n) = false := decide_eq_false hd
      rw [hd']
      clear hd hd' C2 LI HV
      go_wp2_with fail
      (try simp only [Exit.inBlock, Exit.then])
      exact out_no (unhide E) (unhide X1) (unhide G1) rfl rfl rfl rfl

set_option maxHeartbeats 1000000 in
theorem specSwap (v : Value) (n x y : Int) (LL : List (List Int)) (lo hi : Nat) (w : World) (hn : tot LL ≤ 1048576) (hhi : hi ≤ w.heap.size) (hv : OwnS lo hi w v LL) :
    Calls Try.prog 16 #[.agg #[.int .i64 n, v], .int .i64 x, .int .i64 y] w fun e w' => OutE (hvB n x LL && hvB n y LL) n (swR x y LL) w e w' := by
  obtain ⟨va, vc, rfl⟩ := hv.len
  obtain ⟨g0, b0, b1⟩ := ini_all w (.int .i64 n) (.slice va LL.length vc)
  have C := hide (ok.specCnfOk _ n LL _ hn (hv.kept g0).sls)
  have C2 := hide (fun (w1 : World) (g : w.grownBy w1 none) (hx : 1 ≤ x ∧ x ≤ 24) (hy : 1 ≤ y ∧ y ≤ 24) => l14Each (.slice va LL.length vc) n x y 1 LL lo hi w1 (by omega) (by omega) (by omega) hn (Nat.le_trans hhi g.size) (hv.kept g))
  have LI := hide (fun x w1 => ok.l01In x 1 n w1)
  have G0 := hide g0
  have B0 := hide b0
  have B1 := hide b1
  clear hv g0 b0 b1
  go_enter Try.func16, Try.ntmps16
  go_wp2_with fail
  refine (unhide C).mono ?_; rintro e w1 ⟨rfl, g1⟩
  have G1 := hide (grown_trans (r := none) (unhide G0) g1)
  have bx0 := (unhide B0).kept g1
  have bx1 := (unhide B1).kept g1
  have x0 := bx0.c0
  have x1 := bx0.c1
  have y0 := bx1.c0
  have y1 := bx1.c1
  have y2 := bx1.f 0
  have y3 := bx1.f 1
  have X1 := hide bx1
  clear C g1 bx0 bx1 B0 B1 G0
  cases hb : cnfB n LL
  · have E := hide (show (hvB n x LL && hvB n y LL) = false by simp [hvB, hb])
    clear hb C2
    go_wp2_with fail
    (try simp only [Exit.inBlock, Exit.then])
    exact out_no (unhide E) (unhide X1) (unhide G1) rfl rfl rfl rfl
  · have HV := hide (show ∀ x, hvB n x LL = decide (1 ≤ x ∧ x ≤ n) by intro x; simp [hvB, hb])
    have HB := hide hb
    clear hb
    go_wp2_with fail
    refine (unhide LI x _).mono ?_; rintro e w2 ⟨rfl, hw⟩; have hw' := hw.symm; clear hw; subst hw'
    by_cases hd : 1 ≤ x ∧ x ≤ n
    · have EX := hide ((unhide HV x).trans (decide_eq_true hd))
      have hd' : decide (1 ≤ x ∧ x ≤ n) = true := decide_eq_true hd
      rw [hd']
      clear hd hd'
      go_wp2_with fail
      refine (unhide LI y _).mono ?_; rintro e w3 ⟨rfl, hw⟩; have hw' := hw.symm; clear hw; subst hw'
      by_cases hd : 1 ≤ y ∧ y ≤ n
      · have EY := hide ((unhide HV y).trans (decide_eq_true hd))
        have hd' : decide (1 ≤ y ∧ y ≤ n) = true := decide_eq_true hd
        rw [hd']
        obtain ⟨_, h1, h2, h3⟩ := hv_yes (unhide EX)
        obtain ⟨_, h4, h5, h6⟩ := hv_yes (unhide EY)
        have E := hide (show (hvB n x LL && hvB n y LL) = true by rw [unhide EX, unhide EY]; rfl)
        have C3 := hide (unhide C2 w1 (unhide G1) ⟨h1, by omega⟩ ⟨h4, by omega⟩)
        have ER := hide (map_eq (unhide HB) (fun z hz => swap_eq (v := x) (w := y) ⟨h1, by omega⟩ ⟨h4, by omega⟩ hz))
        clear hd hd' C2 LI HV EX EY
        go_wp2_with fail
        refine (unhide C3).mono ?_; rintro e w4 ⟨q, rfl, o2, g2⟩
        obtain ⟨qa, qc, rfl⟩ := o2.len
        have bx2 := (unhide X1).kept g2
        have z0 := bx2.c0
        have z1 := bx2.c1
        have z2 := bx2.f 0
        have z3 := bx2.f 1
        rw [List.length_map, unhide ER] at o2
        have O2 := hide o2
        have G2 := hide g2
        clear o2 g2 bx2 C3 x0 x1 y0 y1 y2 y3
        go_wp2_with fail
        (try simp only [Exit.inBlock, Exit.then])
        exact out_yes (unhide E) (unhide X1) (unhide G1) (unhide O2) (unhide G2) rfl rfl rfl rfl
      · have E := hide (show (hvB n x LL && hvB n y LL) = false by rw [(unhide HV y).trans (decide_eq_false hd), Bool.and_false])
        have hd' : decide (1 ≤ y ∧ y ≤ n) = false := decide_eq_false hd
        rw [hd']
        clear hd hd' C2 LI HV EX
        go_wp2_with fail
        (try simp only [Exit.inBlock, Exit.then])
        exact out_no (unhide E) (unhide X1) (unhide G1) rfl rfl rfl rfl
    · have E := hide (show (hvB n x LL && hvB n y LL) = false by rw [(unhide HV x).trans (decide_eq_false hd), Bool.false_and])
      have hd' : decide (1 ≤ x ∧ x ≤ n) = false := decide_eq_false hd
      rw [hd']
      clear hd hd' C2 LI HV
      go_wp2_with fail
      (try simp only [Exit.inBlock, Exit.then])
      exact out_no (unhide E) (unhide X1) (unhide G1) rfl rfl rfl rfl

theorem tot_map (f : Int → Int) (LL : List (List Int)) : tot (LL.map (List.map f)) = tot LL := by
  unfold css.tot
  simp [List.map_map, Function.comp_def]
theorem tot_out (b : Bool) {R : List (List Int)} (h : tot R ≤ 1048576) : tot (outR b R) ≤ 1048576 := by
  cases b
  · show tot [] ≤ _
    decide
  · exact h
theorem bothFlip (n x : Int) (LL : List (List Int)) (hn : tot LL ≤ 1048576) : ∃ (N : Int) (b : Bool) (R : List (List Int)), tot R ≤ 1048576 ∧
    (∀ v lo hi w, OwnS lo hi w v LL → hi ≤ w.heap.size → Calls Try.prog 15 #[.agg #[.int .i64 n, v], .int .i64 x] w fun e w' => ∃ q, e = .returned (.tuple #[.agg #[.int .i64 N, q], .bool b]) ∧ OwnS w.heap.size w'.heap.size w' q R ∧ w.grownBy w' none) ∧
    (∀ v lo hi w, OwnS lo hi w v LL → Calls Try.prog 13 #[.agg #[.int .i64 n, v], .int .i64 x] w fun e w' => ∃ q, e = .returned (.tuple #[.agg #[.int .i64 N, q], .bool b]) ∧ OwnS w.heap.size w'.heap.size w' q R ∧ w.grownBy w' none) :=
  ⟨outN (hvB n x LL) n, hvB n x LL, outR (hvB n x LL) (flR x LL), tot_out _ (by unfold flR; rw [tot_map]; exact hn), fun v lo hi w h1 h2 => specFlip v n x LL lo hi w hn h2 h1, fun v lo hi w h1 => implFlip v n x LL lo hi w hn h1⟩
theorem bothSwap (n x y : Int) (LL : List (List Int)) (hn : tot LL ≤ 1048576) : ∃ (N : Int) (b : Bool) (R : List (List Int)), tot R ≤ 1048576 ∧
    (∀ v lo hi w, OwnS lo hi w v LL → hi ≤ w.heap.size → Calls Try.prog 16 #[.agg #[.int .i64 n, v], .int .i64 x, .int .i64 y] w fun e w' => ∃ q, e = .returned (.tuple #[.agg #[.int .i64 N, q], .bool b]) ∧ OwnS w.heap.size w'.heap.size w' q R ∧ w.grownBy w' none) ∧
    (∀ v lo hi w, OwnS lo hi w v LL → Calls Try.prog 14 #[.agg #[.int .i64 n, v], .int .i64 x, .int .i64 y] w fun e w' => ∃ q, e = .returned (.tuple #[.agg #[.int .i64 N, q], .bool b]) ∧ OwnS w.heap.size w'.heap.size w' q R ∧ w.grownBy w' none) :=
  ⟨outN (hvB n x LL && hvB n y LL) n, hvB n x LL && hvB n y LL, outR (hvB n x LL && hvB n y LL) (swR x y LL), tot_out _ (by unfold swR; rw [tot_map]; exact hn), fun v lo hi w h1 h2 => specSwap v n x y LL lo hi w hn h2 h1, fun v lo hi w h1 => implSwap v n x y LL lo hi w hn h1⟩
end Go.Proofs.Ytgmbahbdepllnaa.ge
