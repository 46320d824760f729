/- For all bytes the law FnTurn returns true: impl.FlipVar and impl.SwapVars tell the flags that their models tell, the swapped formula is the model's, a variable flipped twice and two swapped twice leave the formula, and either way it is true just where it was with the assignment turned; no condition. -/
import Derived.Test.YtgmbahbdepllnaaRows
import Derived.Test.YtgmbahbdepllnaaJc
import Derived.WalkKit
import Derived.ProofKit
import Derived.OpenShut
import Derived.ShutString
import Derived.ChangeOld
import Derived.Below
namespace Go.Proofs.Ytgmbahbdepllnaa.fnTurn
open Go.ChangeShapes Go.WideShapes Go.ChangeAt Go.RowKit
open Go.ChangeMaps (open_string shut_string)
set_option linter.unusedVariables false

theorem own : ownKnob Try.prog.godebug = none := by kernel_rfl
theorem laidOut : laidOutB Try.prog = true := by kernel_rfl

/-- what the walk is told of a slice of integers that came in -/
def IsRow (k : IntKind) (w : World) (a : Option Addr) (len cap : Nat) (zs : List Int) : Prop :=
  (a = none ∧ len = 0 ∧ cap = 0 ∧ zs = []) ∨
  ∃ x, a = some x ∧ len ≤ cap ∧ cap ≤ maxLen ∧ zs.length = cap ∧ (∀ i, i < zs.length → w.cell? (x.add i) = some (.int k (zs.getD i 0))) ∧ ∀ n ∈ zs, (Lit.int k n).wf = true

/-! ### the walk -/
set_option maxRecDepth 100000 in
set_option maxHeartbeats 8000000 in
theorem walk (a0 : Option Addr) (len0 cap0 : Nat) (z0 : List Int) (w : World) (w0 : IsRow .u8 w a0 len0 cap0 z0) :
    Calls Try.prog 3 #[.slice a0 len0 cap0] w fun e w' => e = .returned (.bool true) ∧ Below w.heap.size w w' := by
  have hB := draw.of_rowB w0
  have hm : len0 ≤ 9223372036854775807 := by
    rcases w0 with ⟨_, h, _, _⟩ | ⟨_, _, h1, h2, _⟩
    · omega
    · unfold maxLen at h2
      omega
  clear w0
  by_cases hbig : 1048576 < len0
  · have C := sl.hide (draw.big a0 len0 cap0 w hm)
    rw [decide_eq_true hbig] at C
    go_enter Try.func3, Try.ntmps3
    go_wp2_with fail
    refine (sl.unhide C).mono ?_; rintro e w' ⟨rfl, rfl⟩
    go_wp2_with fail
    go_ret
    exact ⟨rfl, Below.refl _ _⟩
  have C := sl.hide (draw.big a0 len0 cap0 w hm)
  rw [decide_eq_false hbig] at C
  have HB := sl.hide hB
  have hlen : len0 ≤ 1048576 := by omega
  clear hB hbig
  go_enter Try.func3, Try.ntmps3
  go_wp2_with fail
  refine (sl.unhide C).mono ?_; rintro e w' ⟨rfl, hw⟩; have hw' := hw.symm; clear hw; subst hw'
  clear C hm
  go_wp2_with fail
  refine (jb.drawSwap a0 len0 cap0 _ hlen (sl.unhide HB)).mono ?_; rintro e w1 ⟨n, v, x, y, LL, rfl, hx, hy, bd, o1, g1⟩
  obtain ⟨va, vc, rfl⟩ := o1.len
  have ht : css.tot LL ≤ 1048576 := Nat.le_trans (df.tot_bd bd (Nat.le_refl _)) (by decide)
  have hn25 : -1 ≤ n ∧ n ≤ 25 := bd.1
  have hLl : LL.length ≤ 1048576 := Nat.le_trans (css.tot_len _) ht
  have hLi : ∀ i, (LL.getD i []).length ≤ 1048576 := fun i => Nat.le_trans (css.tot_in _ i) ht
  have gA := World.grownBy_alloc w1 (.cells #[.int .i64 n, .slice va LL.length vc] 26) none
  have F1_ := sl.hide (cf.Box.new 26 w1 (.int .i64 n) (.slice va LL.length vc))
  have G1_ := sl.hide (sl.grown_trans (r := none) g1 gA)
  have P1_ := sl.hide (o1.kept gA)
  obtain ⟨b1, N1, R1, hR1, i1, m1, q1⟩ := jb.flipAll n x LL ht
  obtain ⟨b2, N2, R2, hR2, i2, m2, q2⟩ := jb.swapAll n x y LL ht
  have I1 := sl.hide i1
  have M1 := sl.hide m1
  have Q1 := sl.hide q1
  have I2 := sl.hide i2
  have M2 := sl.hide m2
  have Q2 := sl.hide q2
  have HLI := sl.hide hLi
  have LR2 := sl.hide (And.intro (Nat.le_trans (css.tot_len _) hR2) (fun i => Nat.le_trans (css.tot_in R2 i) hR2))
  clear g1 gA o1 bd i1 m1 q1 i2 m2 q2 hLi
  have zF0 := (sl.unhide F1_).c0
  have zF1 := (sl.unhide F1_).c1
  go_wp2_with fail
  refine (sl.unhide I1 _ _ _ _ (jb.now (sl.unhide P1_)) (Nat.le_refl _)).mono ?_; rintro e w2 ⟨a2, c2, rfl, o2, g2⟩
  clear zF0 zF1
  have gA := World.grownBy_alloc w2 (.cells #[.int .i64 N1, .slice a2 R1.length c2] 26) none
  have gB := sl.grown_trans (r := none) g2 gA
  have s2 := sl.hide g2.size
  have P2_ := sl.hide ((sl.unhide P1_).kept (gB))
  have F2_ := sl.hide ((sl.unhide F1_).kept (gB))
  have G2_ := sl.hide (sl.grown_trans (r := none) (sl.unhide G1_) (gB))
  clear P1_ F1_ G1_
  have A2_ := sl.hide (o2.kept gA)
  have A_2_ := sl.hide (cf.Box.new 26 w2 (.int .i64 N1) (.slice a2 R1.length c2))
  clear gA gB o2 g2
  have zF0 := (sl.unhide F2_).c0
  have zF1 := (sl.unhide F2_).c1
  go_wp2_with fail
  refine (sl.unhide I2 _ _ _ _ (jb.now (sl.unhide P2_)) (Nat.le_refl _)).mono ?_; rintro e w3 ⟨a3, c3, rfl, o3, g3⟩
  clear zF0 zF1
  have gA := World.grownBy_alloc w3 (.cells #[.int .i64 N2, .slice a3 R2.length c3] 26) none
  have gB := sl.grown_trans (r := none) g3 gA
  have s3 := sl.hide g3.size
  have P3_ := sl.hide ((sl.unhide P2_).kept (gB))
  have A3_ := sl.hide ((sl.unhide A2_).kept (gB))
  have F3_ := sl.hide ((sl.unhide F2_).kept (gB))
  have A_3_ := sl.hide ((sl.unhide A_2_).kept (gB))
  have G3_ := sl.hide (sl.grown_trans (r := none) (sl.unhide G2_) (gB))
  clear P2_ A2_ F2_ A_2_ G2_
  have B3_ := sl.hide (o3.kept gA)
  have B_3_ := sl.hide (cf.Box.new 26 w3 (.int .i64 N2) (.slice a3 R2.length c3))
  clear gA gB o3 g3
  have zF0 := (sl.unhide F3_).c0
  have zF1 := (sl.unhide F3_).c1
  go_wp2_with fail
  refine (sl.unhide M1 _ _ _ _ (jb.now (sl.unhide P3_)) (Nat.le_refl _)).mono ?_; rintro e w4 ⟨a4, c4, rfl, o4, g4⟩
  clear zF0 zF1
  have gA := World.grownBy_alloc w4 (.cells #[.int .i64 N1, .slice a4 R1.length c4] 26) none
  have gB := sl.grown_trans (r := none) g4 gA
  have s4 := sl.hide g4.size
  have P4_ := sl.hide ((sl.unhide P3_).kept (gB))
  have A4_ := sl.hide ((sl.unhide A3_).kept (gB))
  have B4_ := sl.hide ((sl.unhide B3_).kept (gB))
  have F4_ := sl.hide ((sl.unhide F3_).kept (gB))
  have A_4_ := sl.hide ((sl.unhide A_3_).kept (gB))
  have B_4_ := sl.hide ((sl.unhide B_3_).kept (gB))
  have G4_ := sl.hide (sl.grown_trans (r := none) (sl.unhide G3_) (gB))
  clear P3_ A3_ B3_ F3_ A_3_ B_3_ G3_
  have U4_ := sl.hide (o4.kept gA)
  have U_4_ := sl.hide (cf.Box.new 26 w4 (.int .i64 N1) (.slice a4 R1.length c4))
  clear gA gB o4 g4
  have zF0 := (sl.unhide F4_).c0
  have zF1 := (sl.unhide F4_).c1
  go_wp2_with fail
  refine (sl.unhide M2 _ _ _ _ (jb.now (sl.unhide P4_)) (Nat.le_refl _)).mono ?_; rintro e w5 ⟨a5, c5, rfl, o5, g5⟩
  clear zF0 zF1
  have gA := World.grownBy_alloc w5 (.cells #[.int .i64 N2, .slice a5 R2.length c5] 26) none
  have gB := sl.grown_trans (r := none) g5 gA
  have s5 := sl.hide g5.size
  have P5_ := sl.hide ((sl.unhide P4_).kept (gB))
  have A5_ := sl.hide ((sl.unhide A4_).kept (gB))
  have B5_ := sl.hide ((sl.unhide B4_).kept (gB))
  have F5_ := sl.hide ((sl.unhide F4_).kept (gB))
  have A_5_ := sl.hide ((sl.unhide A_4_).kept (gB))
  have B_5_ := sl.hide ((sl.unhide B_4_).kept (gB))
  have G5_ := sl.hide (sl.grown_trans (r := none) (sl.unhide G4_) (gB))
  clear P4_ A4_ B4_ F4_ A_4_ B_4_ G4_
  have W5_ := sl.hide (o5.kept gA)
  have W_5_ := sl.hide (cf.Box.new 26 w5 (.int .i64 N2) (.slice a5 R2.length c5))
  clear gA gB o5 g5
  have zB_0 := (sl.unhide B_5_).c0
  have zB_1 := (sl.unhide B_5_).c1
  have zW_0 := (sl.unhide W_5_).c0
  have zW_1 := (sl.unhide W_5_).c1
  go_wp2_with fail
  refine (df.sameList _ _ R2 _ (sl.unhide LR2).1 (sl.unhide LR2).2 (sl.unhide B5_).sls (sl.unhide W5_).sls).mono ?_; rintro e w6 ⟨rfl, g6⟩
  clear zB_0 zB_1 zW_0 zW_1
  have P6_ := sl.hide ((sl.unhide P5_).kept (g6))
  have A6_ := sl.hide ((sl.unhide A5_).kept (g6))
  have B6_ := sl.hide ((sl.unhide B5_).kept (g6))
  have F6_ := sl.hide ((sl.unhide F5_).kept (g6))
  have A_6_ := sl.hide ((sl.unhide A_5_).kept (g6))
  have B_6_ := sl.hide ((sl.unhide B_5_).kept (g6))
  have G6_ := sl.hide (sl.grown_trans (r := none) (sl.unhide G5_) (g6))
  clear P5_ A5_ B5_ F5_ A_5_ B_5_ G5_
  clear g6
  have zF0 := (sl.unhide F6_).c0
  have zF1 := (sl.unhide F6_).c1
  go_wp2_with fail
  refine (jb.valuesA a0 len0 cap0 n _ hlen hn25.2 ((sl.unhide HB).below (sl.below_of (sl.unhide G6_)))).mono ?_; rintro e w7 ⟨xv, X, rfl, hX, hbits, mx⟩
  clear zF0 zF1 HB
  have P7_ := sl.hide ((sl.unhide P6_).kept (mx.2))
  have A7_ := sl.hide ((sl.unhide A6_).kept (mx.2))
  have B7_ := sl.hide ((sl.unhide B6_).kept (mx.2))
  have F7_ := sl.hide ((sl.unhide F6_).kept (mx.2))
  have A_7_ := sl.hide ((sl.unhide A_6_).kept (mx.2))
  have B_7_ := sl.hide ((sl.unhide B_6_).kept (mx.2))
  have G7_ := sl.hide (sl.grown_trans (r := none) (sl.unhide G6_) (mx.2))
  clear P6_ A6_ B6_ F6_ A_6_ B_6_ G6_
  have X7_ := sl.hide (sl.Own.of mx.1)
  obtain ⟨xa, xc, rfl, _⟩ := (sl.Own.of mx.1).sl
  have HBI := sl.hide hbits
  have hX25 : X.length ≤ 25 := by omega
  have HXN := sl.hide hX
  clear mx hbits hX
  cases b1
  · cases b2
    · go_wp2_with fail
      go_ret
      exact ⟨rfl, sl.below_of (sl.unhide G7_)⟩
    · obtain ⟨hv, hN, hT, hM⟩ := sl.unhide Q2 rfl
      subst N2
      have hXn : (X.length : Int) = n := by have := sl.unhide HXN; omega
      have hMX := hM X hXn (sl.unhide HBI)
      obtain ⟨i, hi⟩ : ∃ i : Nat, x = (i : Int) + 1 := ⟨(x - 1).toNat, by omega⟩
      subst x
      obtain ⟨j, hj⟩ : ∃ j : Nat, y = (j : Int) + 1 := ⟨(y - 1).toNat, by omega⟩
      subst y
      rw [show ((i : Int) + 1 - 1).toNat = i by omega, show ((j : Int) + 1 - 1).toNat = j by omega] at hMX
      have hil : i < X.length := by omega
      have hjl : j < X.length := by omega
      have TT := sl.hide hT
      have HM := sl.hide hMX
      clear hM hMX hT hv hXn
      have zB_0 := (sl.unhide B_7_).c0
      have zB_1 := (sl.unhide B_7_).c1
      go_wp2_with fail
      refine (sl.unhide TT _ _ _ _ (jb.now (sl.unhide B7_)) (Nat.le_refl _)).mono ?_; rintro e w8 ⟨a8, c8, rfl, o8, g8⟩
      clear zB_0 zB_1
      have gA := World.grownBy_alloc w8 (.cells #[.int .i64 n, .slice a8 LL.length c8] 26) none
      have gB := sl.grown_trans (r := none) g8 gA
      have s8 := sl.hide g8.size
      have P8_ := sl.hide ((sl.unhide P7_).kept (gB))
      have A8_ := sl.hide ((sl.unhide A7_).kept (gB))
      have B8_ := sl.hide ((sl.unhide B7_).kept (gB))
      have F8_ := sl.hide ((sl.unhide F7_).kept (gB))
      have A_8_ := sl.hide ((sl.unhide A_7_).kept (gB))
      have B_8_ := sl.hide ((sl.unhide B_7_).kept (gB))
      have X8_ := sl.hide ((sl.unhide X7_).kept (gB))
      have G8_ := sl.hide (sl.grown_trans (r := none) (sl.unhide G7_) (gB))
      clear P7_ A7_ B7_ F7_ A_7_ B_7_ X7_ G7_
      have C8_ := sl.hide (o8.kept gA)
      have C_8_ := sl.hide (cf.Box.new 26 w8 (.int .i64 n) (.slice a8 LL.length c8))
      clear gA gB o8 g8
      obtain ⟨Wk, hWk⟩ : ∃ Wk, Wk = w8.alloc (.cells #[.int .i64 n, .slice a8 LL.length c8] 26) := ⟨_, rfl⟩
      rw [← hWk] at X8_ G8_ P8_ A8_ B8_ C8_ F8_ A_8_ B_8_ C_8_
      obtain ⟨xg, xc2, ex, hxg⟩ := jb.own_some (sl.unhide X8_) (by omega)
      injection ex with ex1 ex2 ex3
      subst ex1 ex3
      have MN := sl.hide (app.made_nil Wk)
      have AN := sl.hide ((sl.unhide X8_).kept (World.grownBy_alloc Wk (.cells #[] 3) none))
      have HWk := sl.hide hWk
      clear hWk
      go_upto_region 19 with fail
      rw [← sl.unhide HWk]
      clear HWk
      go_wp2_with (at_builtin; refine app.appendI (A := []) (sl.unhide MN).2 (sl.unhide MN).1 (sl.unhide AN) (by show 0 + X.length ≤ 4194304; omega) rfl _ _ rfl rfl rfl ?_)
      intro vb w9 m9 g9
      clear g9 MN AN
      obtain ⟨gb, bc, rfl⟩ := df.made_some m9 (by omega)
      have hgb := jb.made_new m9
      have hne : ¬ gb = xg := by omega
      have hne2 : ¬ xg = gb := by omega
      have x1c := jb.own_cell ((sl.unhide X8_).kept m9.2) hil
      have x2c := jb.own_cell ((sl.unhide X8_).kept m9.2) hjl
      have y1c := jb.own_cell (sl.Own.of m9.1) hil
      have y2c := jb.own_cell (sl.Own.of m9.1) hjl
      have zb := jb.get_bits (i := i) (sl.unhide HBI)
      have i0 : (0 : Int) ≤ (i : Int) ∧ (i : Int) < (X.length : Int) := by omega
      have j0 : (0 : Int) ≤ (j : Int) ∧ (j : Int) < (X.length : Int) := by omega
      obtain ⟨⟨u6, cb6⟩, fb6, mA, _⟩ := df.stored i (X.getD j 0) m9 hil
      obtain ⟨⟨u7, cb7⟩, fb7, mB, _⟩ := df.stored j (X.getD i 0) mA (by rw [List.length_set]; exact hjl)
      rw [List.length_set, List.length_set] at mB
      have MA := sl.hide mB
      clear mA mB cb6 u6
      obtain ⟨z, hz⟩ : ∃ z, z = X.getD i 0 := ⟨_, rfl⟩
      obtain ⟨q, hq⟩ : ∃ q, q = X.getD j 0 := ⟨_, rfl⟩
      rw [← hz] at x1c y1c
      rw [← hq] at x2c y2c
      rw [← hz, ← hq] at MA HM
      rw [← hq] at cb7 fb7
      clear hz hq zb
      clear m9
      go_upto_region 22 with fail
      obtain ⟨Wz, hWz⟩ : ∃ Wz, Wz = (w9.setCell ⟨gb, i, none⟩ (.int .i64 q)).setCell ⟨gb, j, none⟩ (.int .i64 z) := ⟨_, rfl⟩
      rw [← hWz]
      rw [← hWz] at MA
      clear hWz fb6 y1c hne hne2 hgb hxg x1c x2c y2c cb7 fb7
      have P10_ := sl.hide ((sl.unhide P8_).kept ((sl.unhide MA).2))
      have A10_ := sl.hide ((sl.unhide A8_).kept ((sl.unhide MA).2))
      have B10_ := sl.hide ((sl.unhide B8_).kept ((sl.unhide MA).2))
      have C10_ := sl.hide ((sl.unhide C8_).kept ((sl.unhide MA).2))
      have F10_ := sl.hide ((sl.unhide F8_).kept ((sl.unhide MA).2))
      have A_10_ := sl.hide ((sl.unhide A_8_).kept ((sl.unhide MA).2))
      have B_10_ := sl.hide ((sl.unhide B_8_).kept ((sl.unhide MA).2))
      have C_10_ := sl.hide ((sl.unhide C_8_).kept ((sl.unhide MA).2))
      have X10_ := sl.hide ((sl.unhide X8_).kept ((sl.unhide MA).2))
      have G10_ := sl.hide (sl.grown_trans (r := none) (sl.unhide G8_) ((sl.unhide MA).2))
      clear P8_ A8_ B8_ C8_ F8_ A_8_ B_8_ C_8_ X8_ G8_
      have CQ := sl.hide (fun w9 (g : Wz.grownBy w9 none) => df.sameList _ _ LL w9 hLl (sl.unhide HLI) ((sl.unhide C10_).kept g).sls ((sl.unhide P10_).kept g).sls)
      have ca := fun w9 (g : Wz.grownBy w9 none) => tr.implCnfTrue _ _ n R2 X w9 hR2 (by omega) ((sl.unhide B10_).kept g).sls ((sl.unhide X10_).kept g).sl
      have cb := fun w9 (g : Wz.grownBy w9 none) => tr.implCnfTrue _ _ n LL ((X.set i q).set j z) w9 ht (by rw [List.length_set, List.length_set]; omega) ((sl.unhide P10_).kept g).sls ((sl.Own.of (sl.unhide MA).1).kept g).sl
      rw [sl.unhide HM] at ca
      generalize tr.trueB n LL ((X.set i q).set j z) = bv at ca cb
      have CA := sl.hide ca
      have CB := sl.hide cb
      have CK := sl.hide (fun (w9 : World) (g : Wz.grownBy w9 none) => And.intro ((sl.unhide F10_).kept g).c0 (And.intro ((sl.unhide F10_).kept g).c1 (And.intro ((sl.unhide B_10_).kept g).c0 (And.intro ((sl.unhide B_10_).kept g).c1 ((sl.unhide C_10_).kept g).c1))))
      obtain ⟨k1, k2, k3, k4, k5⟩ := sl.unhide CK Wz (sl.grown_refl _)
      clear ca cb HM MA TT
      go_cut [153] (fun q wx => q = .bool false ∧ Hid (Wz.grownBy wx none))
      case first =>
        have GX := sl.hide (cf.grown_drew Wz none)
        clear X10_ G10_ P10_ A10_ B10_ C10_ F10_ A_10_ B_10_ C_10_
        go_region_held3 (fun w' => w'.cell? ⟨w1.heap.size, 0, none⟩ = some (.int .i64 n) ∧ w'.cell? ⟨w1.heap.size, 1, none⟩ = some (.slice va LL.length vc) ∧ w'.cell? ⟨w3.heap.size, 0, none⟩ = some (.int .i64 n) ∧ w'.cell? ⟨w3.heap.size, 1, none⟩ = some (.slice a3 R2.length c3) ∧ w'.cell? ⟨w8.heap.size, 1, none⟩ = some (.slice a8 LL.length c8)) (go_keep) (first
          | (go_at_call 17; refine (sl.unhide CQ _ (sl.unhide GX)).mono ?_; rintro e w9 ⟨rfl, g9⟩; replace GX := sl.hide (sl.grown_trans (r := none) (sl.unhide GX) g9); obtain ⟨k1, k2, k3, k4, k5⟩ := sl.unhide CK _ (sl.unhide GX); clear g9)
          | (go_at_call_of 19 (Value.agg #[Value.int IntKind.i64 n, Value.slice a3 R2.length c3]); refine (sl.unhide CA _ (sl.unhide GX)).mono ?_; rintro e w9 ⟨rfl, g9⟩; replace GX := sl.hide (sl.grown_trans (r := none) (sl.unhide GX) g9); obtain ⟨k1, k2, k3, k4, k5⟩ := sl.unhide CK _ (sl.unhide GX); clear g9)
          | (go_at_call_of 19 (Value.agg #[Value.int IntKind.i64 n, Value.slice va LL.length vc]); refine (sl.unhide CB _ (sl.unhide GX)).mono ?_; rintro e w9 ⟨rfl, g9⟩; replace GX := sl.hide (sl.grown_trans (r := none) (sl.unhide GX) g9); obtain ⟨k1, k2, k3, k4, k5⟩ := sl.unhide CK _ (sl.unhide GX); clear g9))
        all_goals
          go_wp2_with fail
          go_meet
          exact ⟨by simp, GX⟩
      case rest =>
        obtain ⟨rfl, hgc⟩ := hcut
        have gc := sl.unhide hgc
        have P11_ := sl.hide ((sl.unhide P10_).kept (gc))
        have A11_ := sl.hide ((sl.unhide A10_).kept (gc))
        have B11_ := sl.hide ((sl.unhide B10_).kept (gc))
        have F11_ := sl.hide ((sl.unhide F10_).kept (gc))
        have A_11_ := sl.hide ((sl.unhide A_10_).kept (gc))
        have B_11_ := sl.hide ((sl.unhide B_10_).kept (gc))
        have X11_ := sl.hide ((sl.unhide X10_).kept (gc))
        have G11_ := sl.hide (sl.grown_trans (r := none) (sl.unhide G10_) (gc))
        clear P10_ A10_ B10_ F10_ A_10_ B_10_ X10_ G10_
        clear gc hgc CQ CA CB CK k1 k2 k3 k4 k5
        go_wp2_with fail
        go_ret
        exact ⟨rfl, sl.below_of (sl.unhide G11_)⟩
  · obtain ⟨hv, hN, hT, hM⟩ := sl.unhide Q1 rfl
    subst N1
    have hXn : (X.length : Int) = n := by have := sl.unhide HXN; omega
    have hMX := hM X hXn (sl.unhide HBI)
    obtain ⟨i, hi⟩ : ∃ i : Nat, x = (i : Int) + 1 := ⟨(x - 1).toNat, by omega⟩
    subst x
    rw [show ((i : Int) + 1 - 1).toNat = i by omega] at hMX
    have hil : i < X.length := by omega
    have TT := sl.hide hT
    have HM := sl.hide hMX
    clear hM hMX hT hv hXn
    have zA_0 := (sl.unhide A_7_).c0
    have zA_1 := (sl.unhide A_7_).c1
    go_wp2_with fail
    refine (sl.unhide TT _ _ _ _ (jb.now (sl.unhide A7_)) (Nat.le_refl _)).mono ?_; rintro e w8 ⟨a8, c8, rfl, o8, g8⟩
    clear zA_0 zA_1
    have gA := World.grownBy_alloc w8 (.cells #[.int .i64 n, .slice a8 LL.length c8] 26) none
    have gB := sl.grown_trans (r := none) g8 gA
    have s8 := sl.hide g8.size
    have P8_ := sl.hide ((sl.unhide P7_).kept (gB))
    have A8_ := sl.hide ((sl.unhide A7_).kept (gB))
    have B8_ := sl.hide ((sl.unhide B7_).kept (gB))
    have F8_ := sl.hide ((sl.unhide F7_).kept (gB))
    have A_8_ := sl.hide ((sl.unhide A_7_).kept (gB))
    have B_8_ := sl.hide ((sl.unhide B_7_).kept (gB))
    have X8_ := sl.hide ((sl.unhide X7_).kept (gB))
    have G8_ := sl.hide (sl.grown_trans (r := none) (sl.unhide G7_) (gB))
    clear P7_ A7_ B7_ F7_ A_7_ B_7_ X7_ G7_
    have C8_ := sl.hide (o8.kept gA)
    have C_8_ := sl.hide (cf.Box.new 26 w8 (.int .i64 n) (.slice a8 LL.length c8))
    clear gA gB o8 g8
    obtain ⟨Wk, hWk⟩ : ∃ Wk, Wk = w8.alloc (.cells #[.int .i64 n, .slice a8 LL.length c8] 26) := ⟨_, rfl⟩
    rw [← hWk] at X8_ G8_ P8_ A8_ B8_ C8_ F8_ A_8_ B_8_ C_8_
    obtain ⟨xg, xc2, ex, hxg⟩ := jb.own_some (sl.unhide X8_) (by omega)
    injection ex with ex1 ex2 ex3
    subst ex1 ex3
    have MN := sl.hide (app.made_nil Wk)
    have AN := sl.hide ((sl.unhide X8_).kept (World.grownBy_alloc Wk (.cells #[] 3) none))
    have HWk := sl.hide hWk
    clear hWk
    go_upto_region 13 with fail
    rw [← sl.unhide HWk]
    clear HWk
    go_wp2_with (at_builtin; refine app.appendI (A := []) (sl.unhide MN).2 (sl.unhide MN).1 (sl.unhide AN) (by show 0 + X.length ≤ 4194304; omega) rfl _ _ rfl rfl rfl ?_)
    intro vb w9 m9 g9
    clear g9 MN AN
    obtain ⟨gb, bc, rfl⟩ := df.made_some m9 (by omega)
    have hgb := jb.made_new m9
    have hne : ¬ gb = xg := by omega
    have hne2 : ¬ xg = gb := by omega
    have x1c := jb.own_cell ((sl.unhide X8_).kept m9.2) hil
    have y1c := jb.own_cell (sl.Own.of m9.1) hil
    have zb := jb.get_bits (i := i) (sl.unhide HBI)
    have i0 : (0 : Int) ≤ (i : Int) ∧ (i : Int) < (X.length : Int) := by omega
    obtain ⟨⟨u6, cb6⟩, fb6, mA, _⟩ := df.stored i (1 - X.getD i 0) m9 hil
    rw [List.length_set] at mA
    have MA := sl.hide mA
    clear mA cb6 u6 x1c
    obtain ⟨z, hz⟩ : ∃ z, z = X.getD i 0 := ⟨_, rfl⟩
    rw [← hz] at y1c zb MA HM
    clear hz
    have zb0 : 0 ≤ z ∧ z ≤ 1 := by omega
    clear m9
    go_upto_region 15 with fail
    obtain ⟨Wz, hWz⟩ : ∃ Wz, Wz = w9.setCell ⟨gb, i, none⟩ (.int .i64 (1 - z)) := ⟨_, rfl⟩
    rw [← hWz]
    rw [← hWz] at MA
    clear hWz fb6 y1c hne hne2 hgb hxg
    have P10_ := sl.hide ((sl.unhide P8_).kept ((sl.unhide MA).2))
    have A10_ := sl.hide ((sl.unhide A8_).kept ((sl.unhide MA).2))
    have B10_ := sl.hide ((sl.unhide B8_).kept ((sl.unhide MA).2))
    have C10_ := sl.hide ((sl.unhide C8_).kept ((sl.unhide MA).2))
    have F10_ := sl.hide ((sl.unhide F8_).kept ((sl.unhide MA).2))
    have A_10_ := sl.hide ((sl.unhide A_8_).kept ((sl.unhide MA).2))
    have B_10_ := sl.hide ((sl.unhide B_8_).kept ((sl.unhide MA).2))
    have C_10_ := sl.hide ((sl.unhide C_8_).kept ((sl.unhide MA).2))
    have X10_ := sl.hide ((sl.unhide X8_).kept ((sl.unhide MA).2))
    have G10_ := sl.hide (sl.grown_trans (r := none) (sl.unhide G8_) ((sl.unhide MA).2))
    clear P8_ A8_ B8_ C8_ F8_ A_8_ B_8_ C_8_ X8_ G8_
    have CQ := sl.hide (fun w9 (g : Wz.grownBy w9 none) => df.sameList _ _ LL w9 hLl (sl.unhide HLI) ((sl.unhide C10_).kept g).sls ((sl.unhide P10_).kept g).sls)
    have ca := fun w9 (g : Wz.grownBy w9 none) => tr.implCnfTrue _ _ n R1 X w9 hR1 (by omega) ((sl.unhide A10_).kept g).sls ((sl.unhide X10_).kept g).sl
    have cb := fun w9 (g : Wz.grownBy w9 none) => tr.implCnfTrue _ _ n LL (X.set i (1 - z)) w9 ht (by rw [List.length_set]; omega) ((sl.unhide P10_).kept g).sls ((sl.Own.of (sl.unhide MA).1).kept g).sl
    rw [sl.unhide HM] at ca
    generalize tr.trueB n LL (X.set i (1 - z)) = bv at ca cb
    have CA := sl.hide ca
    have CB := sl.hide cb
    have CK := sl.hide (fun (w9 : World) (g : Wz.grownBy w9 none) => And.intro ((sl.unhide F10_).kept g).c0 (And.intro ((sl.unhide F10_).kept g).c1 (And.intro ((sl.unhide A_10_).kept g).c0 (And.intro ((sl.unhide A_10_).kept g).c1 ((sl.unhide C_10_).kept g).c1))))
    obtain ⟨k1, k2, k3, k4, k5⟩ := sl.unhide CK Wz (sl.grown_refl _)
    clear ca cb HM MA TT
    go_cut [109] (fun q wx => q = .bool false ∧ Hid (Wz.grownBy wx none))
    case first =>
      have GX := sl.hide (cf.grown_drew Wz none)
      clear X10_ G10_ P10_ A10_ B10_ C10_ F10_ A_10_ B_10_ C_10_
      go_region_held3 (fun w' => w'.cell? ⟨w1.heap.size, 0, none⟩ = some (.int .i64 n) ∧ w'.cell? ⟨w1.heap.size, 1, none⟩ = some (.slice va LL.length vc) ∧ w'.cell? ⟨w2.heap.size, 0, none⟩ = some (.int .i64 n) ∧ w'.cell? ⟨w2.heap.size, 1, none⟩ = some (.slice a2 R1.length c2) ∧ w'.cell? ⟨w8.heap.size, 1, none⟩ = some (.slice a8 LL.length c8)) (go_keep) (first
        | (go_at_call 17; refine (sl.unhide CQ _ (sl.unhide GX)).mono ?_; rintro e w9 ⟨rfl, g9⟩; replace GX := sl.hide (sl.grown_trans (r := none) (sl.unhide GX) g9); obtain ⟨k1, k2, k3, k4, k5⟩ := sl.unhide CK _ (sl.unhide GX); clear g9)
        | (go_at_call_of 19 (Value.agg #[Value.int IntKind.i64 n, Value.slice a2 R1.length c2]); refine (sl.unhide CA _ (sl.unhide GX)).mono ?_; rintro e w9 ⟨rfl, g9⟩; replace GX := sl.hide (sl.grown_trans (r := none) (sl.unhide GX) g9); obtain ⟨k1, k2, k3, k4, k5⟩ := sl.unhide CK _ (sl.unhide GX); clear g9)
        | (go_at_call_of 19 (Value.agg #[Value.int IntKind.i64 n, Value.slice va LL.length vc]); refine (sl.unhide CB _ (sl.unhide GX)).mono ?_; rintro e w9 ⟨rfl, g9⟩; replace GX := sl.hide (sl.grown_trans (r := none) (sl.unhide GX) g9); obtain ⟨k1, k2, k3, k4, k5⟩ := sl.unhide CK _ (sl.unhide GX); clear g9))
      all_goals
        go_wp2_with fail
        go_meet
        exact ⟨by simp, GX⟩
    case rest =>
      obtain ⟨rfl, hgc⟩ := hcut
      have gc := sl.unhide hgc
      have P11_ := sl.hide ((sl.unhide P10_).kept (gc))
      have A11_ := sl.hide ((sl.unhide A10_).kept (gc))
      have B11_ := sl.hide ((sl.unhide B10_).kept (gc))
      have F11_ := sl.hide ((sl.unhide F10_).kept (gc))
      have A_11_ := sl.hide ((sl.unhide A_10_).kept (gc))
      have B_11_ := sl.hide ((sl.unhide B_10_).kept (gc))
      have X11_ := sl.hide ((sl.unhide X10_).kept (gc))
      have G11_ := sl.hide (sl.grown_trans (r := none) (sl.unhide G10_) (gc))
      clear P10_ A10_ B10_ F10_ A_10_ B_10_ X10_ G10_
      clear gc hgc CQ CA CB CK k1 k2 k3 k4 k5
      cases b2
      · go_wp2_with fail
        go_ret
        exact ⟨rfl, sl.below_of (sl.unhide G11_)⟩
      · obtain ⟨hv, hN, hT, hM⟩ := sl.unhide Q2 rfl
        subst N2
        have hXn : (X.length : Int) = n := by have := sl.unhide HXN; omega
        have hMX := hM X hXn (sl.unhide HBI)
        obtain ⟨j, hj⟩ : ∃ j : Nat, y = (j : Int) + 1 := ⟨(y - 1).toNat, by omega⟩
        subst y
        rw [show ((i : Int) + 1 - 1).toNat = i by omega, show ((j : Int) + 1 - 1).toNat = j by omega] at hMX
        have hil : i < X.length := by omega
        have hjl : j < X.length := by omega
        have TT := sl.hide hT
        have HM := sl.hide hMX
        clear hM hMX hT hv hXn
        have zB_0 := (sl.unhide B_11_).c0
        have zB_1 := (sl.unhide B_11_).c1
        go_wp2_with fail
        refine (sl.unhide TT _ _ _ _ (jb.now (sl.unhide B11_)) (Nat.le_refl _)).mono ?_; rintro e w12 ⟨a12, c12, rfl, o12, g12⟩
        clear zB_0 zB_1
        have gA := World.grownBy_alloc w12 (.cells #[.int .i64 n, .slice a12 LL.length c12] 26) none
        have gB := sl.grown_trans (r := none) g12 gA
        have s12 := sl.hide g12.size
        have P12_ := sl.hide ((sl.unhide P11_).kept (gB))
        have A12_ := sl.hide ((sl.unhide A11_).kept (gB))
        have B12_ := sl.hide ((sl.unhide B11_).kept (gB))
        have F12_ := sl.hide ((sl.unhide F11_).kept (gB))
        have A_12_ := sl.hide ((sl.unhide A_11_).kept (gB))
        have B_12_ := sl.hide ((sl.unhide B_11_).kept (gB))
        have X12_ := sl.hide ((sl.unhide X11_).kept (gB))
        have G12_ := sl.hide (sl.grown_trans (r := none) (sl.unhide G11_) (gB))
        clear P11_ A11_ B11_ F11_ A_11_ B_11_ X11_ G11_
        have C12_ := sl.hide (o12.kept gA)
        have C_12_ := sl.hide (cf.Box.new 26 w12 (.int .i64 n) (.slice a12 LL.length c12))
        clear gA gB o12 g12
        obtain ⟨Wk, hWk⟩ : ∃ Wk, Wk = w12.alloc (.cells #[.int .i64 n, .slice a12 LL.length c12] 26) := ⟨_, rfl⟩
        rw [← hWk] at X12_ G12_ P12_ A12_ B12_ C12_ F12_ A_12_ B_12_ C_12_
        have hxg : xg < Wk.heap.size := ((sl.unhide X12_).1.lt xg rfl).2
        have MN := sl.hide (app.made_nil Wk)
        have AN := sl.hide ((sl.unhide X12_).kept (World.grownBy_alloc Wk (.cells #[] 3) none))
        have HWk := sl.hide hWk
        clear hWk
        go_upto_region 19 with fail
        rw [← sl.unhide HWk]
        clear HWk
        go_wp2_with (at_builtin; refine app.appendI (A := []) (sl.unhide MN).2 (sl.unhide MN).1 (sl.unhide AN) (by show 0 + X.length ≤ 4194304; omega) rfl _ _ rfl rfl rfl ?_)
        intro vb w13 m13 g13
        clear g13 MN AN
        obtain ⟨gb, bc, rfl⟩ := df.made_some m13 (by omega)
        have hgb := jb.made_new m13
        have hne : ¬ gb = xg := by omega
        have hne2 : ¬ xg = gb := by omega
        have x1c := jb.own_cell ((sl.unhide X12_).kept m13.2) hil
        have x2c := jb.own_cell ((sl.unhide X12_).kept m13.2) hjl
        have y1c := jb.own_cell (sl.Own.of m13.1) hil
        have y2c := jb.own_cell (sl.Own.of m13.1) hjl
        have zb := jb.get_bits (i := i) (sl.unhide HBI)
        have i0 : (0 : Int) ≤ (i : Int) ∧ (i : Int) < (X.length : Int) := by omega
        have j0 : (0 : Int) ≤ (j : Int) ∧ (j : Int) < (X.length : Int) := by omega
        obtain ⟨⟨u6, cb6⟩, fb6, mA, _⟩ := df.stored i (X.getD j 0) m13 hil
        obtain ⟨⟨u7, cb7⟩, fb7, mB, _⟩ := df.stored j (X.getD i 0) mA (by rw [List.length_set]; exact hjl)
        rw [List.length_set, List.length_set] at mB
        have MA := sl.hide mB
        clear mA mB cb6 u6
        obtain ⟨z, hz⟩ : ∃ z, z = X.getD i 0 := ⟨_, rfl⟩
        obtain ⟨q, hq⟩ : ∃ q, q = X.getD j 0 := ⟨_, rfl⟩
        rw [← hz] at x1c y1c
        rw [← hq] at x2c y2c
        rw [← hz, ← hq] at MA HM
        rw [← hq] at cb7 fb7
        clear hz hq zb
        clear m13
        go_upto_region 22 with fail
        obtain ⟨Wz, hWz⟩ : ∃ Wz, Wz = (w13.setCell ⟨gb, i, none⟩ (.int .i64 q)).setCell ⟨gb, j, none⟩ (.int .i64 z) := ⟨_, rfl⟩
        rw [← hWz]
        rw [← hWz] at MA
        clear hWz fb6 y1c hne hne2 hgb hxg x1c x2c y2c cb7 fb7
        have P14_ := sl.hide ((sl.unhide P12_).kept ((sl.unhide MA).2))
        have A14_ := sl.hide ((sl.unhide A12_).kept ((sl.unhide MA).2))
        have B14_ := sl.hide ((sl.unhide B12_).kept ((sl.unhide MA).2))
        have C14_ := sl.hide ((sl.unhide C12_).kept ((sl.unhide MA).2))
        have F14_ := sl.hide ((sl.unhide F12_).kept ((sl.unhide MA).2))
        have A_14_ := sl.hide ((sl.unhide A_12_).kept ((sl.unhide MA).2))
        have B_14_ := sl.hide ((sl.unhide B_12_).kept ((sl.unhide MA).2))
        have C_14_ := sl.hide ((sl.unhide C_12_).kept ((sl.unhide MA).2))
        have X14_ := sl.hide ((sl.unhide X12_).kept ((sl.unhide MA).2))
        have G14_ := sl.hide (sl.grown_trans (r := none) (sl.unhide G12_) ((sl.unhide MA).2))
        clear P12_ A12_ B12_ C12_ F12_ A_12_ B_12_ C_12_ X12_ G12_
        have CQ := sl.hide (fun w9 (g : Wz.grownBy w9 none) => df.sameList _ _ LL w9 hLl (sl.unhide HLI) ((sl.unhide C14_).kept g).sls ((sl.unhide P14_).kept g).sls)
        have ca := fun w9 (g : Wz.grownBy w9 none) => tr.implCnfTrue _ _ n R2 X w9 hR2 (by omega) ((sl.unhide B14_).kept g).sls ((sl.unhide X14_).kept g).sl
        have cb := fun w9 (g : Wz.grownBy w9 none) => tr.implCnfTrue _ _ n LL ((X.set i q).set j z) w9 ht (by rw [List.length_set, List.length_set]; omega) ((sl.unhide P14_).kept g).sls ((sl.Own.of (sl.unhide MA).1).kept g).sl
        rw [sl.unhide HM] at ca
        generalize tr.trueB n LL ((X.set i q).set j z) = bv at ca cb
        have CA := sl.hide ca
        have CB := sl.hide cb
        have CK := sl.hide (fun (w9 : World) (g : Wz.grownBy w9 none) => And.intro ((sl.unhide F14_).kept g).c0 (And.intro ((sl.unhide F14_).kept g).c1 (And.intro ((sl.unhide B_14_).kept g).c0 (And.intro ((sl.unhide B_14_).kept g).c1 ((sl.unhide C_14_).kept g).c1))))
        obtain ⟨k1, k2, k3, k4, k5⟩ := sl.unhide CK Wz (sl.grown_refl _)
        clear ca cb HM MA TT
        go_cut [153] (fun q wx => q = .bool false ∧ Hid (Wz.grownBy wx none))
        case first =>
          have GX := sl.hide (cf.grown_drew Wz none)
          clear X14_ G14_ P14_ A14_ B14_ C14_ F14_ A_14_ B_14_ C_14_
          go_region_held3 (fun w' => w'.cell? ⟨w1.heap.size, 0, none⟩ = some (.int .i64 n) ∧ w'.cell? ⟨w1.heap.size, 1, none⟩ = some (.slice va LL.length vc) ∧ w'.cell? ⟨w3.heap.size, 0, none⟩ = some (.int .i64 n) ∧ w'.cell? ⟨w3.heap.size, 1, none⟩ = some (.slice a3 R2.length c3) ∧ w'.cell? ⟨w12.heap.size, 1, none⟩ = some (.slice a12 LL.length c12)) (go_keep) (first
            | (go_at_call 17; refine (sl.unhide CQ _ (sl.unhide GX)).mono ?_; rintro e w9 ⟨rfl, g9⟩; replace GX := sl.hide (sl.grown_trans (r := none) (sl.unhide GX) g9); obtain ⟨k1, k2, k3, k4, k5⟩ := sl.unhide CK _ (sl.unhide GX); clear g9)
            | (go_at_call_of 19 (Value.agg #[Value.int IntKind.i64 n, Value.slice a3 R2.length c3]); refine (sl.unhide CA _ (sl.unhide GX)).mono ?_; rintro e w9 ⟨rfl, g9⟩; replace GX := sl.hide (sl.grown_trans (r := none) (sl.unhide GX) g9); obtain ⟨k1, k2, k3, k4, k5⟩ := sl.unhide CK _ (sl.unhide GX); clear g9)
            | (go_at_call_of 19 (Value.agg #[Value.int IntKind.i64 n, Value.slice va LL.length vc]); refine (sl.unhide CB _ (sl.unhide GX)).mono ?_; rintro e w9 ⟨rfl, g9⟩; replace GX := sl.hide (sl.grown_trans (r := none) (sl.unhide GX) g9); obtain ⟨k1, k2, k3, k4, k5⟩ := sl.unhide CK _ (sl.unhide GX); clear g9))
          all_goals
            go_wp2_with fail
            go_meet
            exact ⟨by simp, GX⟩
        case rest =>
          obtain ⟨rfl, hgc⟩ := hcut
          have gc := sl.unhide hgc
          have P15_ := sl.hide ((sl.unhide P14_).kept (gc))
          have A15_ := sl.hide ((sl.unhide A14_).kept (gc))
          have B15_ := sl.hide ((sl.unhide B14_).kept (gc))
          have F15_ := sl.hide ((sl.unhide F14_).kept (gc))
          have A_15_ := sl.hide ((sl.unhide A_14_).kept (gc))
          have B_15_ := sl.hide ((sl.unhide B_14_).kept (gc))
          have X15_ := sl.hide ((sl.unhide X14_).kept (gc))
          have G15_ := sl.hide (sl.grown_trans (r := none) (sl.unhide G14_) (gc))
          clear P14_ A14_ B14_ F14_ A_14_ B_14_ X14_ G14_
          clear gc hgc CQ CA CB CK k1 k2 k3 k4 k5
          go_wp2_with fail
          go_ret
          exact ⟨rfl, sl.below_of (sl.unhide G15_)⟩

/-! ### the row's step (the guide's own frame) -/
set_option maxRecDepth 100000 in
theorem lifted (os : Os) (started : os.Started) (H : Type) (enc : TypeId × Value → H) :
    ReturnsInHanded {} Try.checked os 3 .any (Rows.fnTurnSpec.pre6 enc Try.prog Try.f3 Rows.fnTurnRow.domain false) (Rows.fnTurnSpec.post enc Try.prog Try.f3 false true false false) := by
  refine returnsInHanded_of_change (C := Try.checked) own started (by kernel_rfl) Try.func3
    (ChangeSpec.witness6 (enc := enc) (C := Try.checked) false ⟨#[], #[.slice none 0 0], []⟩ 8 (by kernel_rfl) (by kernel_rfl) (by kernel_rfl) (by kernel_rfl)) ?_
  intro W base args ds gs before hval0 hW hcnd _
  have hval : ∀ (j : Nat) t v, Try.f3.params[j]? = some t → args[j]? = some v → Value.okWide Try.prog W .any base t v := hval0
  have hW' := hW
  obtain ⟨p, q, hA0, hV, rfl, hfz, hnd⟩ := hW
  have hA : DataW.TrodAll enc Try.prog W 0 (fun _ => true) true Try.f3.params.toList args.toList ds p := hA0
  rw [Try.params3] at hA hval
  obtain ⟨v0, vs0, d0, ds0, p0, q0, hargs, rfl, rfl, h0, r0⟩ := trodAll_cons hA
  obtain ⟨rfl, rfl, rfl⟩ := trodAll_nil r0
  obtain rfl : args = #[v0] := by cases args; simp_all
  obtain ⟨rfl, rfl⟩ := trodVars_none hV
  obtain ⟨a0, len0, cap0, rfl⟩ := okWide_slice Try.underlying22 (hval 0 22 v0 rfl rfl)
  have k0 := h0
  have lt0 : ∀ x ∈ p0, x.block < W.heap.size := by obtain ⟨m, hm⟩ := k0; exact DataW.trod_lt m _ _ _ hm
  obtain ⟨z0, w0⟩ : ∃ zs, IsRow .u8 W a0 len0 cap0 zs := by
    obtain ⟨fuel, hf⟩ := h0
    rcases open_ints Try.underlying22 Try.underlying5 (by kernel_rfl) hf with ⟨hcs, _⟩ | ⟨x, l, c, zs, hcs, _, hl, hm, hz, _, hcell, hwz⟩
    · simp [Value.cells] at hcs
      obtain ⟨rfl, rfl, rfl⟩ := hcs
      exact ⟨[], .inl ⟨rfl, rfl, rfl, rfl⟩⟩
    · simp [Value.cells] at hcs
      obtain ⟨rfl, rfl, rfl⟩ := hcs
      exact ⟨zs, .inr ⟨_, rfl, hl, hm, by simpa using hz, hcell, hwz⟩⟩
  clear hA0 hval0
  refine (walk a0 len0 cap0 z0 W w0).mono fun e W' ⟨he, bel⟩ => ?_
  subst he
  exact ⟨_, rfl, _, _, _, [], _, [], hW', trodAll_mk1 (shut_bool Try.underlying4 _), (trodAll_cons_mk (Below.trod laidOut (by kernel_rfl) (of_decide_eq_true (by kernel_rfl)) k0 bel lt0) trodAll_mk0), rfl, bel.frame _, fun h => by cases h⟩

theorem over : Rows.fnTurnRow.holds Try.pinned (OpenSpec.ofChange Rows.fnTurnSpec) :=
  OpenClaim.holds_of_wide 3 Try.f3 rfl rfl rfl rfl rfl rfl rfl ⟨rfl, rfl, rfl, rfl, rfl⟩ rfl rfl rfl rfl rfl (by kernel_rfl) Try.func3 (by kernel_rfl)
    (of_decide_eq_true (by kernel_rfl)) (by unfold Func.isWrapper; first | (rw [if_pos (by decide +kernel)]; kernel_rfl) | (rw [if_neg (by decide +kernel)]; exact ⟨rfl, rfl⟩))
    (fun os started H enc _ => lifted os started H enc)

/-- the statement -/
theorem proved : Rows.FnTurnSaid := over
#print axioms proved
end Go.Proofs.Ytgmbahbdepllnaa.fnTurn
