/- At every formula and every number impl.Eliminate answers as spec.Eliminate, its answer owns its memory, and it writes into no argument (the law FnExactEliminate returns true); no condition. -/
import Derived.Test.YtibpnocpafppaaaDoorCards
import Derived.Test.YtibpnocpafppaaaDoorTie
import Derived.Test.YtibpnocpafppaaaDoorRow
import Derived.Test.YtibpnocpafppaaaDoorEm
import Derived.WalkKit
import Derived.ProofKit
import Derived.OpenShut
import Derived.ShutString
import Derived.ChangeOld
import Derived.Below
import Derived.Deep.DeepHandedRow
import Derived.Lib.LaidTab
import Derived.Lib.TrailingZeros
import Derived.Stop.LaidErr
import Derived.Stop.LaidTwo
import Derived.LaidHandle
import Derived.LaidSub
namespace Go.Proofs.YtibpnocpafppaaaDoor.fnExactEliminate
open Go.ChangeShapes Go.WideShapes Go.ChangeAt Go.RowKit
open Go.ChangeMaps (open_string shut_string)
set_option linter.unusedVariables false

theorem own : ownKnob Tryd.prog.godebug = none := by kernel_rfl
theorem laidOut : laidOutB Tryd.prog = true := by kernel_rfl

theorem gTab : Tryd.prog.globalNamed "math/bits.deBruijn64tab" = some 0 := by kernel_rfl
theorem gTabType : (Tryd.prog.globals[0]?).map (·.type) = some 132 := by kernel_rfl
theorem cellsTab : Tryd.prog.cellsOf 132 = 64 := by kernel_rfl
theorem cellsByte : Tryd.prog.cellsOf 5 = 1 := by kernel_rfl
/-- what the row's list gives: the table's cells hold its numbers -/
theorem table {W : World} (h : laidMetH Tryd.prog Rows.fnExactEliminateRow.laid W) : srt.Tab W := by
  have t : Lib.TabIs Tryd.prog W "math/bits.deBruijn64tab" .u8 (Lib.deBruijn64tab.map fun (n : Nat) => (n : Int)) :=
    Lib.tabIs_of_head (rest := []) gTab gTabType Tryd.underlying132 Tryd.underlying5 cellsByte cellsTab h
  intro j hj
  have c := t.cell gTab j (by rw [List.length_map]; exact hj)
  rw [c]
  congr 2
  rw [List.getD, List.getD, List.getElem?_map]
  cases Lib.deBruijn64tab[j]? <;> rfl

/-! ### the walk -/
set_option maxRecDepth 100000 in
set_option maxHeartbeats 8000000 in
theorem walk (n0 : Int) (v0 : Value) (LL0 : List (List Int)) (a1 : Int) (w : World) (f0 : (Lit.int .i64 n0).wf = true) (w0 : row.IsRows w v0 LL0) (w1 : (Lit.int .i64 a1).wf = true) (hT : srt.Tab w) :
    Calls Tryd.prog 7 #[.agg #[.int .i64 n0, v0], .int .i64 a1] w fun e w' => e = .returned (.bool true) ∧ Below w.heap.size w w' := by
  have TT := sl.hide hT
  clear hT
  obtain ⟨hS0, hl0, hk0⟩ := w0
  have S_ := trivial
  have s1 := sl.hide (World.grownBy_alloc w (.cells #[(.int .i64 n0), v0] 46) none).size
  have B1 := sl.hide (sl.below_of (World.grownBy_alloc w (.cells #[(.int .i64 n0), v0] 46) none))
  have q1 : Hid ((w.alloc (.cells #[(.int .i64 n0), v0] 46)).heap.size = w.heap.size + 1) := World.size_alloc ..
  have F0_1 := sl.hide (cf.Box.new 46 w (.int .i64 n0) v0)
  have S0 := sl.hide hS0
  clear hS0
  go_enter Tryd.func7, Tryd.ntmps7
  have zF0_0 := (sl.unhide F0_1).c0
  have zF0_1 := (sl.unhide F0_1).c1
  go_wp2_with fail
  refine (cf.szCnf v0 n0 LL0 1048576 _ (by decide) (by decide) hl0 hk0 ((sl.unhide S0).below (sl.unhide B1))).mono ?_; rintro e w2 ⟨r0, rfl, g2, hr⟩
  clear zF0_0 zF0_1
  have s2 := sl.hide (g2).size
  have B2 := sl.hide (sl.below_none (sl.unhide B1) (g2))
  have F0_2 := sl.hide ((sl.unhide F0_1).kept (g2))
  clear g2 B1 F0_1
  rcases hr with rfl | ⟨hr0, hr1⟩
  · go_wp2_with fail
    go_ret
    exact ⟨rfl, sl.unhide B2⟩
  have hn0 : css.tot LL0 ≤ 1048576 := by omega
  have hq0 : ¬ r0 < 0 := by omega
  have hb0 : 0 ≤ r0 ∧ r0 ≤ 1048576 := by omega
  have ht0 := sl.hide hr1
  clear hr0 hr1
  obtain ⟨N, b, R, hR, cs, ci⟩ := el.bothEliminate n0 a1 LL0 hn0
  have CS := sl.hide cs
  have CI := sl.hide ci
  clear cs ci
  have hz1 : decide ((1 : Int) + (css.sumLen LL0 : Int) < 0) = false := decide_eq_false (by omega)
  have hz2 : ¬ (1 : Int) + (css.sumLen R : Int) < 0 := by omega
  have zF0_0 := (sl.unhide F0_2).c0
  have zF0_1 := (sl.unhide F0_2).c1
  go_wp2_with fail
  refine (cf.toCnf v0 n0 LL0 _ hn0 ((sl.unhide S0).below (sl.unhide B2))).mono ?_; rintro e w3 ⟨u3, rfl, o3, g3⟩
  clear zF0_0 zF0_1
  obtain ⟨a3_, c3_, rfl⟩ := o3.len
  have s3 := sl.hide (g3).size
  have B3 := sl.hide (sl.below_none (sl.unhide B2) (g3))
  have F0_3 := sl.hide ((sl.unhide F0_2).kept (g3))
  have P3 := sl.hide o3
  clear o3 g3 B2 F0_2
  go_wp2_with fail
  refine (sl.unhide CS _ _ (sl.unhide P3).sls).mono ?_; rintro e w4 ⟨u4, rfl, o4, g4⟩
  obtain ⟨a4_, c4_, rfl⟩ := o4.len
  have s4 := sl.hide (g4).size
  have B4 := sl.hide (sl.below_none (sl.unhide B3) (g4))
  have P4 := sl.hide ((sl.unhide P3).kept (g4))
  have F0_4 := sl.hide ((sl.unhide F0_3).kept (g4))
  have UA4 := sl.hide o4
  clear o4 g4 B3 P3 F0_3
  clear P4
  have pF0_0 := (sl.unhide F0_4).c0
  have pF0_1 := (sl.unhide F0_4).c1
  have pF0_l := (sl.unhide F0_4).lt
  have s5 := sl.hide (World.grownBy_alloc w4 (.cells #[(.int .i64 N), (.slice a4_ R.length c4_)] 26) none).size
  have B5 := sl.hide (sl.below_none (sl.unhide B4) (World.grownBy_alloc w4 (.cells #[(.int .i64 N), (.slice a4_ R.length c4_)] 26) none))
  have UA5 := sl.hide ((sl.unhide UA4).kept (World.grownBy_alloc w4 (.cells #[(.int .i64 N), (.slice a4_ R.length c4_)] 26) none))
  have F0_5 := sl.hide ((sl.unhide F0_4).kept (World.grownBy_alloc w4 (.cells #[(.int .i64 N), (.slice a4_ R.length c4_)] 26) none))
  have q5 : Hid ((w4.alloc (.cells #[(.int .i64 N), (.slice a4_ R.length c4_)] 26)).heap.size = w4.heap.size + 1) := World.size_alloc ..
  have U5 := sl.hide (cf.Box.new 26 w4 (.int .i64 N) (.slice a4_ R.length c4_))
  clear B4 UA4 F0_4
  have zF0_0 := (sl.unhide F0_5).c0
  have zF0_1 := (sl.unhide F0_5).c1
  go_wp2_with fail
  refine (cf.toCnf v0 n0 LL0 _ hn0 ((sl.unhide S0).below (sl.unhide B5))).mono ?_; rintro e w6 ⟨u6, rfl, o6, g6⟩
  clear pF0_0 pF0_1 pF0_l zF0_0 zF0_1
  obtain ⟨a6_, c6_, rfl⟩ := o6.len
  have s6 := sl.hide (g6).size
  have B6 := sl.hide (sl.below_none (sl.unhide B5) (g6))
  have UA6 := sl.hide ((sl.unhide UA5).kept (g6))
  have F0_6 := sl.hide ((sl.unhide F0_5).kept (g6))
  have U6 := sl.hide ((sl.unhide U5).kept (g6))
  have X6 := sl.hide o6
  clear o6 g6 B5 UA5 F0_5 U5
  have s7 := sl.hide (World.grownBy_alloc w6 (.cells #[(.int .i64 n0), (.slice a6_ LL0.length c6_)] 26) none).size
  have B7 := sl.hide (sl.below_none (sl.unhide B6) (World.grownBy_alloc w6 (.cells #[(.int .i64 n0), (.slice a6_ LL0.length c6_)] 26) none))
  have UA7 := sl.hide ((sl.unhide UA6).kept (World.grownBy_alloc w6 (.cells #[(.int .i64 n0), (.slice a6_ LL0.length c6_)] 26) none))
  have X7 := sl.hide ((sl.unhide X6).kept (World.grownBy_alloc w6 (.cells #[(.int .i64 n0), (.slice a6_ LL0.length c6_)] 26) none))
  have F0_7 := sl.hide ((sl.unhide F0_6).kept (World.grownBy_alloc w6 (.cells #[(.int .i64 n0), (.slice a6_ LL0.length c6_)] 26) none))
  have U7 := sl.hide ((sl.unhide U6).kept (World.grownBy_alloc w6 (.cells #[(.int .i64 n0), (.slice a6_ LL0.length c6_)] 26) none))
  have q7 : Hid ((w6.alloc (.cells #[(.int .i64 n0), (.slice a6_ LL0.length c6_)] 26)).heap.size = w6.heap.size + 1) := World.size_alloc ..
  have V7 := sl.hide (cf.Box.new 26 w6 (.int .i64 n0) (.slice a6_ LL0.length c6_))
  clear B6 UA6 X6 F0_6 U6
  have zV0 := (sl.unhide V7).c0
  have zV1 := (sl.unhide V7).c1
  go_wp2_with fail
  refine (sl.unhide CI _ _ ((sl.unhide TT).below (sl.unhide B7)) (sl.unhide X7).sls).mono ?_; rintro e w8 ⟨u8, rfl, o8, g8⟩
  clear zV0 zV1
  obtain ⟨a8_, c8_, rfl⟩ := o8.len
  have s8 := sl.hide (g8).size
  have B8 := sl.hide (sl.below_none (sl.unhide B7) (g8))
  have UA8 := sl.hide ((sl.unhide UA7).kept (g8))
  have X8 := sl.hide ((sl.unhide X7).kept (g8))
  have F0_8 := sl.hide ((sl.unhide F0_7).kept (g8))
  have U8 := sl.hide ((sl.unhide U7).kept (g8))
  have V8 := sl.hide ((sl.unhide V7).kept (g8))
  have GA8 := sl.hide o8
  clear o8 g8 B7 UA7 X7 F0_7 U7 V7
  have pU0 := (sl.unhide U8).c0
  have pU1 := (sl.unhide U8).c1
  have pUl := (sl.unhide U8).lt
  have s9 := sl.hide (World.grownBy_alloc w8 (.cells #[(.int .i64 N), (.slice a8_ R.length c8_)] 26) none).size
  have B9 := sl.hide (sl.below_none (sl.unhide B8) (World.grownBy_alloc w8 (.cells #[(.int .i64 N), (.slice a8_ R.length c8_)] 26) none))
  have UA9 := sl.hide ((sl.unhide UA8).kept (World.grownBy_alloc w8 (.cells #[(.int .i64 N), (.slice a8_ R.length c8_)] 26) none))
  have X9 := sl.hide ((sl.unhide X8).kept (World.grownBy_alloc w8 (.cells #[(.int .i64 N), (.slice a8_ R.length c8_)] 26) none))
  have GA9 := sl.hide ((sl.unhide GA8).kept (World.grownBy_alloc w8 (.cells #[(.int .i64 N), (.slice a8_ R.length c8_)] 26) none))
  have F0_9 := sl.hide ((sl.unhide F0_8).kept (World.grownBy_alloc w8 (.cells #[(.int .i64 N), (.slice a8_ R.length c8_)] 26) none))
  have U9 := sl.hide ((sl.unhide U8).kept (World.grownBy_alloc w8 (.cells #[(.int .i64 N), (.slice a8_ R.length c8_)] 26) none))
  have V9 := sl.hide ((sl.unhide V8).kept (World.grownBy_alloc w8 (.cells #[(.int .i64 N), (.slice a8_ R.length c8_)] 26) none))
  have q9 : Hid ((w8.alloc (.cells #[(.int .i64 N), (.slice a8_ R.length c8_)] 26)).heap.size = w8.heap.size + 1) := World.size_alloc ..
  have G9 := sl.hide (cf.Box.new 26 w8 (.int .i64 N) (.slice a8_ R.length c8_))
  clear B8 UA8 X8 GA8 F0_8 U8 V8
  have zU0 := (sl.unhide U9).c0
  have zU1 := (sl.unhide U9).c1
  have zG0 := (sl.unhide G9).c0
  have zG1 := (sl.unhide G9).c1
  go_wp2_with fail
  refine (cf.eqCnf _ _ N R _ hR (sl.unhide GA9).sls (sl.unhide UA9).sls).mono ?_; rintro e w10 ⟨rfl, g10⟩
  clear pU0 pU1 pUl zU0 zU1 zG0 zG1
  have s10 := sl.hide (g10).size
  have B10 := sl.hide (sl.below_none (sl.unhide B9) (g10))
  have UA10 := sl.hide ((sl.unhide UA9).kept (g10))
  have X10 := sl.hide ((sl.unhide X9).kept (g10))
  have GA10 := sl.hide ((sl.unhide GA9).kept (g10))
  have F0_10 := sl.hide ((sl.unhide F0_9).kept (g10))
  have U10 := sl.hide ((sl.unhide U9).kept (g10))
  have V10 := sl.hide ((sl.unhide V9).kept (g10))
  have G10 := sl.hide ((sl.unhide G9).kept (g10))
  clear g10 B9 UA9 X9 GA9 F0_9 U9 V9 G9
  go_upto_region 10 with fail
  go_cut [49] (fun q wx => q = .bool false ∧ Hid (w10.grownBy wx none))
  case first =>
    have T5 := sl.hide (cf.toCnf v0 n0 LL0 w10.drew hn0 (((sl.unhide S0).below (sl.unhide B10)).kept (cf.grown_drew w10 none)))
    have E5 := sl.hide (fun u6 wA (g6 : w10.drew.grownBy wA none) (o6 : css.OwnS w10.drew.heap.size wA.heap.size wA u6 LL0) => cf.eqCnf _ u6 n0 LL0 wA hn0 ((sl.unhide X10).kept (sl.grown_trans (r := none) (cf.grown_drew w10 none) g6)).sls o6.sls)
    have X5' := sl.hide (fun wA (g6 : w10.drew.grownBy wA none) => (sl.unhide V10).kept (sl.grown_trans (r := none) (cf.grown_drew w10 none) g6))
    have G5 := sl.hide (fun wA wB (g6 : w10.drew.grownBy wA none) (g7 : wA.grownBy wB none) => sl.grown_trans (r := none) (sl.grown_trans (r := none) (cf.grown_drew w10 none) g6) g7)
    have x0 := (sl.unhide F0_10).c0
    have x1 := (sl.unhide F0_10).c1
    have y0 := (sl.unhide V10).c0
    have y1 := (sl.unhide V10).c1
    clear UA10 X10 GA10 F0_10 U10 V10 G10 B10
    go_region_with (first
      | (go_at_call 42; refine (sl.unhide T5).mono ?_; rintro e wA ⟨u6, rfl, o6, g6⟩; have z0 := (sl.unhide X5' wA g6).c0; have z1 := (sl.unhide X5' wA g6).c1; have E6 := sl.hide (sl.unhide E5 u6 wA g6 o6); have G6 := sl.hide (fun wB => sl.unhide G5 wA wB g6); clear g6 o6)
      | (go_at_call 43; refine (sl.unhide E6).mono ?_; rintro e wB ⟨rfl, g7⟩; have G7 := sl.hide (sl.unhide G6 wB g7); clear g7))
    all_goals (go_wp2_with fail; go_meet; exact ⟨rfl, G7⟩)
  case rest =>
    obtain ⟨rfl, hg⟩ := hcut
    have g11 := sl.unhide hg
    have s11 := sl.hide (g11).size
    have B11 := sl.hide (sl.below_none (sl.unhide B10) (g11))
    have UA11 := sl.hide ((sl.unhide UA10).kept (g11))
    have X11 := sl.hide ((sl.unhide X10).kept (g11))
    have GA11 := sl.hide ((sl.unhide GA10).kept (g11))
    have F0_11 := sl.hide ((sl.unhide F0_10).kept (g11))
    have U11 := sl.hide ((sl.unhide U10).kept (g11))
    have V11 := sl.hide ((sl.unhide V10).kept (g11))
    have G11 := sl.hide ((sl.unhide G10).kept (g11))
    clear g11 hg B10 UA10 X10 GA10 F0_10 U10 V10 G10
    have zV0 := (sl.unhide V11).c0
    have zV1 := (sl.unhide V11).c1
    go_wp2_with fail
    refine (cf.markCnf _ n0 LL0 1 _ _ _ hn0 (by omega) (by omega) (sl.unhide X11)).mono ?_; rintro e w12 ⟨rfl, o12, g12⟩
    clear zV0 zV1
    have s12 := sl.hide g12.size
    have B12 := sl.hide (css.below_outs (sl.unhide B11) (by have s1_ := sl.unhide s1; have q1_ := sl.unhide q1; have s2_ := sl.unhide s2; have s3_ := sl.unhide s3; have s4_ := sl.unhide s4; have s5_ := sl.unhide s5; have q5_ := sl.unhide q5; have s6_ := sl.unhide s6; have s7_ := sl.unhide s7; have q7_ := sl.unhide q7; have s8_ := sl.unhide s8; have s9_ := sl.unhide s9; have q9_ := sl.unhide q9; have s10_ := sl.unhide s10; have s11_ := sl.unhide s11; have s12_ := sl.unhide s12; omega) g12)
    have UA12 := sl.hide (css.OwnS.outs (sl.unhide UA11) g12 (by have s1_ := sl.unhide s1; have q1_ := sl.unhide q1; have s2_ := sl.unhide s2; have s3_ := sl.unhide s3; have s4_ := sl.unhide s4; have s5_ := sl.unhide s5; have q5_ := sl.unhide q5; have s6_ := sl.unhide s6; have s7_ := sl.unhide s7; have q7_ := sl.unhide q7; have s8_ := sl.unhide s8; have s9_ := sl.unhide s9; have q9_ := sl.unhide q9; have s10_ := sl.unhide s10; have s11_ := sl.unhide s11; have s12_ := sl.unhide s12; omega))
    have GA12 := sl.hide (css.OwnS.outs (sl.unhide GA11) g12 (by have s1_ := sl.unhide s1; have q1_ := sl.unhide q1; have s2_ := sl.unhide s2; have s3_ := sl.unhide s3; have s4_ := sl.unhide s4; have s5_ := sl.unhide s5; have q5_ := sl.unhide q5; have s6_ := sl.unhide s6; have s7_ := sl.unhide s7; have q7_ := sl.unhide q7; have s8_ := sl.unhide s8; have s9_ := sl.unhide s9; have q9_ := sl.unhide q9; have s10_ := sl.unhide s10; have s11_ := sl.unhide s11; have s12_ := sl.unhide s12; omega))
    have F0_12 := sl.hide ((sl.unhide F0_11).outs g12 (by have s1_ := sl.unhide s1; have q1_ := sl.unhide q1; have s2_ := sl.unhide s2; have s3_ := sl.unhide s3; have s4_ := sl.unhide s4; have s5_ := sl.unhide s5; have q5_ := sl.unhide q5; have s6_ := sl.unhide s6; have s7_ := sl.unhide s7; have q7_ := sl.unhide q7; have s8_ := sl.unhide s8; have s9_ := sl.unhide s9; have q9_ := sl.unhide q9; have s10_ := sl.unhide s10; have s11_ := sl.unhide s11; have s12_ := sl.unhide s12; omega))
    have U12 := sl.hide ((sl.unhide U11).outs g12 (by have s1_ := sl.unhide s1; have q1_ := sl.unhide q1; have s2_ := sl.unhide s2; have s3_ := sl.unhide s3; have s4_ := sl.unhide s4; have s5_ := sl.unhide s5; have q5_ := sl.unhide q5; have s6_ := sl.unhide s6; have s7_ := sl.unhide s7; have q7_ := sl.unhide q7; have s8_ := sl.unhide s8; have s9_ := sl.unhide s9; have q9_ := sl.unhide q9; have s10_ := sl.unhide s10; have s11_ := sl.unhide s11; have s12_ := sl.unhide s12; omega))
    have V12 := sl.hide ((sl.unhide V11).outs g12 (by have s1_ := sl.unhide s1; have q1_ := sl.unhide q1; have s2_ := sl.unhide s2; have s3_ := sl.unhide s3; have s4_ := sl.unhide s4; have s5_ := sl.unhide s5; have q5_ := sl.unhide q5; have s6_ := sl.unhide s6; have s7_ := sl.unhide s7; have q7_ := sl.unhide q7; have s8_ := sl.unhide s8; have s9_ := sl.unhide s9; have q9_ := sl.unhide q9; have s10_ := sl.unhide s10; have s11_ := sl.unhide s11; have s12_ := sl.unhide s12; omega))
    have G12 := sl.hide ((sl.unhide G11).outs g12 (by have s1_ := sl.unhide s1; have q1_ := sl.unhide q1; have s2_ := sl.unhide s2; have s3_ := sl.unhide s3; have s4_ := sl.unhide s4; have s5_ := sl.unhide s5; have q5_ := sl.unhide q5; have s6_ := sl.unhide s6; have s7_ := sl.unhide s7; have q7_ := sl.unhide q7; have s8_ := sl.unhide s8; have s9_ := sl.unhide s9; have q9_ := sl.unhide q9; have s10_ := sl.unhide s10; have s11_ := sl.unhide s11; have s12_ := sl.unhide s12; omega))
    clear o12 g12 X11 B11 UA11 GA11 F0_11 U11 V11 G11
    have zU0 := (sl.unhide U12).c0
    have zU1 := (sl.unhide U12).c1
    have zG0 := (sl.unhide G12).c0
    have zG1 := (sl.unhide G12).c1
    go_wp2_with fail
    refine (cf.eqCnf _ _ N R _ hR (sl.unhide GA12).sls (sl.unhide UA12).sls).mono ?_; rintro e w13 ⟨rfl, g13⟩
    clear zU0 zU1 zG0 zG1
    have s13 := sl.hide (g13).size
    have B13 := sl.hide (sl.below_none (sl.unhide B12) (g13))
    have UA13 := sl.hide ((sl.unhide UA12).kept (g13))
    have GA13 := sl.hide ((sl.unhide GA12).kept (g13))
    have F0_13 := sl.hide ((sl.unhide F0_12).kept (g13))
    have U13 := sl.hide ((sl.unhide U12).kept (g13))
    have V13 := sl.hide ((sl.unhide V12).kept (g13))
    have G13 := sl.hide ((sl.unhide G12).kept (g13))
    clear g13 B12 UA12 GA12 F0_12 U12 V12 G12
    have zG0 := (sl.unhide G13).c0
    have zG1 := (sl.unhide G13).c1
    go_wp2_with fail
    refine (cf.markCnf _ N R 1 _ _ _ hR (by omega) (by omega) (sl.unhide GA13)).mono ?_; rintro e w14 ⟨rfl, o14, g14⟩
    clear zG0 zG1
    have s14 := sl.hide g14.size
    have B14 := sl.hide (css.below_outs (sl.unhide B13) (by have s1_ := sl.unhide s1; have q1_ := sl.unhide q1; have s2_ := sl.unhide s2; have s3_ := sl.unhide s3; have s4_ := sl.unhide s4; have s5_ := sl.unhide s5; have q5_ := sl.unhide q5; have s6_ := sl.unhide s6; have s7_ := sl.unhide s7; have q7_ := sl.unhide q7; have s8_ := sl.unhide s8; have s9_ := sl.unhide s9; have q9_ := sl.unhide q9; have s10_ := sl.unhide s10; have s11_ := sl.unhide s11; have s12_ := sl.unhide s12; have s13_ := sl.unhide s13; have s14_ := sl.unhide s14; omega) g14)
    have UA14 := sl.hide (css.OwnS.outs (sl.unhide UA13) g14 (by have s1_ := sl.unhide s1; have q1_ := sl.unhide q1; have s2_ := sl.unhide s2; have s3_ := sl.unhide s3; have s4_ := sl.unhide s4; have s5_ := sl.unhide s5; have q5_ := sl.unhide q5; have s6_ := sl.unhide s6; have s7_ := sl.unhide s7; have q7_ := sl.unhide q7; have s8_ := sl.unhide s8; have s9_ := sl.unhide s9; have q9_ := sl.unhide q9; have s10_ := sl.unhide s10; have s11_ := sl.unhide s11; have s12_ := sl.unhide s12; have s13_ := sl.unhide s13; have s14_ := sl.unhide s14; omega))
    have F0_14 := sl.hide ((sl.unhide F0_13).outs g14 (by have s1_ := sl.unhide s1; have q1_ := sl.unhide q1; have s2_ := sl.unhide s2; have s3_ := sl.unhide s3; have s4_ := sl.unhide s4; have s5_ := sl.unhide s5; have q5_ := sl.unhide q5; have s6_ := sl.unhide s6; have s7_ := sl.unhide s7; have q7_ := sl.unhide q7; have s8_ := sl.unhide s8; have s9_ := sl.unhide s9; have q9_ := sl.unhide q9; have s10_ := sl.unhide s10; have s11_ := sl.unhide s11; have s12_ := sl.unhide s12; have s13_ := sl.unhide s13; have s14_ := sl.unhide s14; omega))
    have U14 := sl.hide ((sl.unhide U13).outs g14 (by have s1_ := sl.unhide s1; have q1_ := sl.unhide q1; have s2_ := sl.unhide s2; have s3_ := sl.unhide s3; have s4_ := sl.unhide s4; have s5_ := sl.unhide s5; have q5_ := sl.unhide q5; have s6_ := sl.unhide s6; have s7_ := sl.unhide s7; have q7_ := sl.unhide q7; have s8_ := sl.unhide s8; have s9_ := sl.unhide s9; have q9_ := sl.unhide q9; have s10_ := sl.unhide s10; have s11_ := sl.unhide s11; have s12_ := sl.unhide s12; have s13_ := sl.unhide s13; have s14_ := sl.unhide s14; omega))
    have V14 := sl.hide ((sl.unhide V13).outs g14 (by have s1_ := sl.unhide s1; have q1_ := sl.unhide q1; have s2_ := sl.unhide s2; have s3_ := sl.unhide s3; have s4_ := sl.unhide s4; have s5_ := sl.unhide s5; have q5_ := sl.unhide q5; have s6_ := sl.unhide s6; have s7_ := sl.unhide s7; have q7_ := sl.unhide q7; have s8_ := sl.unhide s8; have s9_ := sl.unhide s9; have q9_ := sl.unhide q9; have s10_ := sl.unhide s10; have s11_ := sl.unhide s11; have s12_ := sl.unhide s12; have s13_ := sl.unhide s13; have s14_ := sl.unhide s14; omega))
    have G14 := sl.hide ((sl.unhide G13).outs g14 (by have s1_ := sl.unhide s1; have q1_ := sl.unhide q1; have s2_ := sl.unhide s2; have s3_ := sl.unhide s3; have s4_ := sl.unhide s4; have s5_ := sl.unhide s5; have q5_ := sl.unhide q5; have s6_ := sl.unhide s6; have s7_ := sl.unhide s7; have q7_ := sl.unhide q7; have s8_ := sl.unhide s8; have s9_ := sl.unhide s9; have q9_ := sl.unhide q9; have s10_ := sl.unhide s10; have s11_ := sl.unhide s11; have s12_ := sl.unhide s12; have s13_ := sl.unhide s13; have s14_ := sl.unhide s14; omega))
    have GA14 := sl.hide o14
    clear o14 g14 GA13 B13 UA13 F0_13 U13 V13 G13
    have zG0 := (sl.unhide G14).c0
    have zG1 := (sl.unhide G14).c1
    go_wp2_with fail
    refine (cf.heldCnf _ N R 1 _ hR (by decide) (by decide) (sl.unhide GA14).sls).mono ?_; rintro e w15 ⟨rfl, g15⟩
    clear zG0 zG1
    have s15 := sl.hide (g15).size
    have B15 := sl.hide (sl.below_none (sl.unhide B14) (g15))
    have UA15 := sl.hide ((sl.unhide UA14).kept (g15))
    have GA15 := sl.hide ((sl.unhide GA14).kept (g15))
    have F0_15 := sl.hide ((sl.unhide F0_14).kept (g15))
    have U15 := sl.hide ((sl.unhide U14).kept (g15))
    have V15 := sl.hide ((sl.unhide V14).kept (g15))
    have G15 := sl.hide ((sl.unhide G14).kept (g15))
    clear g15 B14 UA14 GA14 F0_14 U14 V14 G14
    have zF0_0 := (sl.unhide F0_15).c0
    have zF0_1 := (sl.unhide F0_15).c1
    go_wp2_with fail
    refine (cf.toCnf v0 n0 LL0 _ hn0 ((sl.unhide S0).below (sl.unhide B15))).mono ?_; rintro e w16 ⟨u16, rfl, o16, g16⟩
    clear zF0_0 zF0_1
    obtain ⟨a16_, c16_, rfl⟩ := o16.len
    have s16 := sl.hide (g16).size
    have B16 := sl.hide (sl.below_none (sl.unhide B15) (g16))
    have UA16 := sl.hide ((sl.unhide UA15).kept (g16))
    have GA16 := sl.hide ((sl.unhide GA15).kept (g16))
    have F0_16 := sl.hide ((sl.unhide F0_15).kept (g16))
    have U16 := sl.hide ((sl.unhide U15).kept (g16))
    have V16 := sl.hide ((sl.unhide V15).kept (g16))
    have G16 := sl.hide ((sl.unhide G15).kept (g16))
    have Y16 := sl.hide o16
    clear o16 g16 B15 UA15 GA15 F0_15 U15 V15 G15
    go_wp2_with fail
    refine (sl.unhide CI _ _ ((sl.unhide TT).below (sl.unhide B16)) (sl.unhide Y16).sls).mono ?_; rintro e w17 ⟨u17, rfl, o17, g17⟩
    obtain ⟨a17_, c17_, rfl⟩ := o17.len
    have s17 := sl.hide (g17).size
    have B17 := sl.hide (sl.below_none (sl.unhide B16) (g17))
    have UA17 := sl.hide ((sl.unhide UA16).kept (g17))
    have GA17 := sl.hide ((sl.unhide GA16).kept (g17))
    have Y17 := sl.hide ((sl.unhide Y16).kept (g17))
    have F0_17 := sl.hide ((sl.unhide F0_16).kept (g17))
    have U17 := sl.hide ((sl.unhide U16).kept (g17))
    have V17 := sl.hide ((sl.unhide V16).kept (g17))
    have G17 := sl.hide ((sl.unhide G16).kept (g17))
    have HA17 := sl.hide o17
    clear o17 g17 B16 UA16 GA16 Y16 F0_16 U16 V16 G16
    clear Y17
    have pU0 := (sl.unhide U17).c0
    have pU1 := (sl.unhide U17).c1
    have pUl := (sl.unhide U17).lt
    have s18 := sl.hide (World.grownBy_alloc w17 (.cells #[(.int .i64 N), (.slice a17_ R.length c17_)] 26) none).size
    have B18 := sl.hide (sl.below_none (sl.unhide B17) (World.grownBy_alloc w17 (.cells #[(.int .i64 N), (.slice a17_ R.length c17_)] 26) none))
    have UA18 := sl.hide ((sl.unhide UA17).kept (World.grownBy_alloc w17 (.cells #[(.int .i64 N), (.slice a17_ R.length c17_)] 26) none))
    have GA18 := sl.hide ((sl.unhide GA17).kept (World.grownBy_alloc w17 (.cells #[(.int .i64 N), (.slice a17_ R.length c17_)] 26) none))
    have HA18 := sl.hide ((sl.unhide HA17).kept (World.grownBy_alloc w17 (.cells #[(.int .i64 N), (.slice a17_ R.length c17_)] 26) none))
    have F0_18 := sl.hide ((sl.unhide F0_17).kept (World.grownBy_alloc w17 (.cells #[(.int .i64 N), (.slice a17_ R.length c17_)] 26) none))
    have U18 := sl.hide ((sl.unhide U17).kept (World.grownBy_alloc w17 (.cells #[(.int .i64 N), (.slice a17_ R.length c17_)] 26) none))
    have V18 := sl.hide ((sl.unhide V17).kept (World.grownBy_alloc w17 (.cells #[(.int .i64 N), (.slice a17_ R.length c17_)] 26) none))
    have G18 := sl.hide ((sl.unhide G17).kept (World.grownBy_alloc w17 (.cells #[(.int .i64 N), (.slice a17_ R.length c17_)] 26) none))
    have q18 : Hid ((w17.alloc (.cells #[(.int .i64 N), (.slice a17_ R.length c17_)] 26)).heap.size = w17.heap.size + 1) := World.size_alloc ..
    have H18 := sl.hide (cf.Box.new 26 w17 (.int .i64 N) (.slice a17_ R.length c17_))
    clear B17 UA17 GA17 HA17 F0_17 U17 V17 G17
    have zU0 := (sl.unhide U18).c0
    have zU1 := (sl.unhide U18).c1
    have zH0 := (sl.unhide H18).c0
    have zH1 := (sl.unhide H18).c1
    go_wp2_with fail
    refine (cf.eqCnf _ _ N R _ hR (sl.unhide HA18).sls (sl.unhide UA18).sls).mono ?_; rintro e w19 ⟨rfl, g19⟩
    clear pU0 pU1 pUl zU0 zU1 zH0 zH1
    have s19 := sl.hide (g19).size
    have B19 := sl.hide (sl.below_none (sl.unhide B18) (g19))
    have UA19 := sl.hide ((sl.unhide UA18).kept (g19))
    have GA19 := sl.hide ((sl.unhide GA18).kept (g19))
    have HA19 := sl.hide ((sl.unhide HA18).kept (g19))
    have F0_19 := sl.hide ((sl.unhide F0_18).kept (g19))
    have U19 := sl.hide ((sl.unhide U18).kept (g19))
    have V19 := sl.hide ((sl.unhide V18).kept (g19))
    have G19 := sl.hide ((sl.unhide G18).kept (g19))
    have H19 := sl.hide ((sl.unhide H18).kept (g19))
    clear g19 B18 UA18 GA18 HA18 F0_18 U18 V18 G18 H18
    have zG0 := (sl.unhide G19).c0
    have zG1 := (sl.unhide G19).c1
    go_wp2_with fail
    refine (cf.heldCnf _ N R 1 _ hR (by decide) (by decide) (sl.unhide GA19).sls).mono ?_; rintro e w20 ⟨rfl, g20⟩
    clear zG0 zG1
    have s20 := sl.hide (g20).size
    have B20 := sl.hide (sl.below_none (sl.unhide B19) (g20))
    have UA20 := sl.hide ((sl.unhide UA19).kept (g20))
    have GA20 := sl.hide ((sl.unhide GA19).kept (g20))
    have HA20 := sl.hide ((sl.unhide HA19).kept (g20))
    have F0_20 := sl.hide ((sl.unhide F0_19).kept (g20))
    have U20 := sl.hide ((sl.unhide U19).kept (g20))
    have V20 := sl.hide ((sl.unhide V19).kept (g20))
    have G20 := sl.hide ((sl.unhide G19).kept (g20))
    have H20 := sl.hide ((sl.unhide H19).kept (g20))
    clear g20 B19 UA19 GA19 HA19 F0_19 U19 V19 G19 H19
    go_wp2_with fail
    go_ret
    exact ⟨rfl, sl.unhide B20⟩

/-! ### the row's step (the guide's own frame) -/
set_option maxRecDepth 100000 in
theorem contract (H : Type) (enc : TypeId × Value → H) (W : World) (base : Nat) (args : Array Value) (ds gs : List (DataW H)) (before : List MemPlace)
    (hval : ∀ (j : Nat) t v, Tryd.f7.params[j]? = some t → args[j]? = some v → Value.okWide Tryd.prog W .any base t v)
    (hW : DataW.Whole enc Tryd.prog Tryd.f7.params.toList Rows.fnExactEliminateSpec.vars false W args.toList ds gs before) (hL : laidMetH Tryd.prog Rows.fnExactEliminateRow.laid W) :
    Calls Tryd.prog 7 args W fun e W' => ∃ v, e = .returned v ∧ Rows.fnExactEliminateSpec.post enc Tryd.prog Tryd.f7 false true false false W args v W' := by
  have hW' := hW
  obtain ⟨p, q, hA0, hV, rfl, hfz, hnd⟩ := hW
  have hA : DataW.TrodAll enc Tryd.prog W 0 (fun _ => true) true Tryd.f7.params.toList args.toList ds p := hA0
  rw [Tryd.params7] at hA hval
  obtain ⟨x0, vs0, d0, ds0, p0, q0, hargs, rfl, rfl, h0, r0⟩ := trodAll_cons hA
  obtain ⟨x1, vs1, d1, ds1, p1, q1, rfl, rfl, rfl, h1, r1⟩ := trodAll_cons r0
  obtain ⟨rfl, rfl, rfl⟩ := trodAll_nil r1
  obtain rfl : args = #[x0, x1] := by cases args; simp_all
  obtain ⟨rfl, rfl⟩ := trodVars_none hV
  obtain ⟨cs0, rfl, _⟩ := okWide_struct Tryd.underlying46 (hval 0 46 _ rfl rfl)
  have k0 := h0
  have lt0 : ∀ x ∈ p0, x.block < W.heap.size := by obtain ⟨m, hm⟩ := k0; exact DataW.trod_lt m _ _ _ hm
  obtain ⟨n0, v0, LL0, e0, f0, w0⟩ : ∃ n v LL, cs0 = #[.int .i64 n, v] ∧ (Lit.int .i64 n).wf = true ∧ row.IsRows W v LL := by
    obtain ⟨fuel, hf⟩ := h0
    obtain ⟨n, v, LL, e, hw, hv⟩ := row.open_cnf hf
    refine ⟨n, v, LL, ?_, hw, hv⟩
    cases cs0
    simpa [Value.cells] using e
  subst e0
  have k1 := h1
  have lt1 : ∀ x ∈ p1, x.block < W.heap.size := by obtain ⟨m, hm⟩ := k1; exact DataW.trod_lt m _ _ _ hm
  obtain ⟨a1, rfl, rfl, rfl, w1⟩ := open_int Tryd.underlying3 (hval 1 3 _ rfl rfl) h1
  clear hA0
  refine (walk n0 v0 LL0 a1 W f0 w0 w1 (table hL)).mono fun e W' ⟨he, bel⟩ => ?_
  subst he
  exact ⟨_, rfl, _, _, _, [], _, [], hW', trodAll_mk1 (shut_bool Tryd.underlying4 _), (trodAll_cons_mk (Below.trod laidOut (by kernel_rfl) (of_decide_eq_true (by kernel_rfl)) k0 bel lt0) (trodAll_cons_mk (Below.trod laidOut (by kernel_rfl) (of_decide_eq_true (by kernel_rfl)) k1 bel lt1) trodAll_mk0)), rfl, bel.frame _, fun h => by cases h⟩

set_option maxRecDepth 100000 in
theorem lifted (os : Os) (started : os.Started) (H : Type) (enc : TypeId × Value → H) (F : Stop.Interp) :
    ReturnsInHanded {} Tryd.checked os 7 .any ((OpenSpec.ofChange Rows.fnExactEliminateSpec).preRow enc Tryd.prog Tryd.f7 Rows.fnExactEliminateRow.domain false Rows.fnExactEliminateRow.laid) (((OpenSpec.ofChange Rows.fnExactEliminateSpec).at F).post enc Tryd.prog Tryd.f7 false true false false) := by
  refine returnsInHanded_of_row (C := Tryd.checked) (s := OpenSpec.ofChange Rows.fnExactEliminateSpec) own started (by kernel_rfl) Tryd.func7
    (witness_row_at (enc := enc) (C := Tryd.checked) false ({ World.holding Tryd.prog os ⟨#[], #[], []⟩ with heap := (World.holding Tryd.prog os ⟨#[], #[], []⟩).heap.modify 0 fun | .cells _ t frozen => .cells (Lib.deBruijn64tab.map fun (n : Nat) => Value.int .u8 n).toArray t frozen | o => o } : World) #[.agg #[.int .i64 0, .slice none 0 0], .int .i64 0] rfl (by kernel_rfl) (by kernel_rfl) (by kernel_rfl)
      (OpenSpec.preRow_of_cond 8 (x := ([.agg [.lit (.int .i64 0), .nil], .lit (.int .i64 0)], [], [])) (by kernel_rfl) (by kernel_rfl) (fun k hk => by cases hk) (by kernel_rfl) (laidMet_of_run' 8 (by kernel_rfl) (by kernel_rfl)))) ?_
  intro W base args ds gs before hval hW _ _ _ hL _ _
  exact contract H enc W base args ds gs before hval hW hL

theorem said : Rows.FnExactEliminateSaid :=
  OpenClaim.holds_of_cond 7 Tryd.f7 rfl rfl rfl rfl rfl rfl rfl ⟨rfl, rfl, rfl, rfl, rfl⟩ rfl rfl rfl rfl rfl (by kernel_rfl) Tryd.func7 (by kernel_rfl)
    (of_decide_eq_true (by kernel_rfl)) (by unfold Func.isWrapper; first | (rw [if_pos (by decide +kernel)]; kernel_rfl) | (rw [if_neg (by decide +kernel)]; exact ⟨rfl, rfl⟩))
    (fun os started H enc _ F => by rw [OpenClaim.pre_eq_preRow]; exact lifted os started H enc F)

theorem plain (f : FuncId) (fn : Func) (hf : Tryd.pinned.checked.prog.funcNamed "loop.example/g00123/laws.FnExactEliminate" = some f) (hfn : Tryd.pinned.checked.prog.funcs[f]? = some fn) :
    false = Tryd.pinned.checked.prog.looks [] ∧ ∀ (j : Nat) t, fn.params[j]? = some t → Tryd.pinned.checked.prog.wantsStandIn t = false := by
  obtain rfl : f = 7 := Option.some.inj ((show Tryd.prog.funcNamed "loop.example/g00123/laws.FnExactEliminate" = some 7 by kernel_rfl).symm.trans hf) |>.symm
  obtain rfl : fn = Tryd.f7 := (Option.some.inj (Tryd.func7.symm.trans hfn)).symm
  refine ⟨by kernel_rfl, fun j t ht => ?_⟩
  rw [Tryd.params7] at ht
  have hm := Array.mem_of_getElem? ht
  simp only [List.mem_toArray, List.mem_cons, List.not_mem_nil, or_false] at hm
  rcases hm with rfl | rfl
  · exact (show Tryd.prog.wantsStandIn 46 = false by kernel_rfl)
  · exact (show Tryd.prog.wantsStandIn 3 = false by kernel_rfl)

/-- the statement: the row's tied card -/
theorem proved : Rows.FnExactEliminateCardSaid :=
  Claim7.holds_tied_plain_at .later [] _ _ _ _ said (fun _ h => by cases h) (by kernel_rfl) (fun _ h => by cases h) fnExactEliminate_row_tie rfl ⟨rfl, rfl⟩ (by kernel_rfl) rfl plain (by kernel_rfl)
#print axioms proved
end Go.Proofs.YtibpnocpafppaaaDoor.fnExactEliminate
