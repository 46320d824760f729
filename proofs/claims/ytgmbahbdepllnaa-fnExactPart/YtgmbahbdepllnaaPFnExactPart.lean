/- At every formula and every list impl.Part answers as spec.Part, its answer owns its memory, and it writes into no argument (the law FnExactPart returns true); no condition. -/
import Derived.Test.YtgmbahbdepllnaaRows
import Derived.Test.YtgmbahbdepllnaaRow
import Derived.Test.YtgmbahbdepllnaaGl
import Derived.WalkKit
import Derived.ProofKit
import Derived.OpenShut
import Derived.ShutString
import Derived.ChangeOld
import Derived.Below
namespace Go.Proofs.Ytgmbahbdepllnaa.fnExactPart
open Go.ChangeShapes Go.WideShapes Go.ChangeAt Go.RowKit
open Go.ChangeMaps (open_string shut_string)
set_option linter.unusedVariables false

theorem own : ownKnob Try.prog.godebug = none := by kernel_rfl
theorem laidOut : laidOutB Try.prog = true := by kernel_rfl

/-- what the walk is told of a slice of integers that came in -/
def IsRow (k : IntKind) (w : World) (a : Option Addr) (len cap : Nat) (zs : List Int) : Prop :=
  (a = none ∧ len = 0 ∧ cap = 0 ∧ zs = []) ∨
  ∃ x, a = some x ∧ len ≤ cap ∧ cap ≤ maxLen ∧ zs.length = cap ∧ (∀ i, i < zs.length → w.cell? (x.add i) = some (.int k (zs.getD i 0))) ∧ ∀ n ∈ zs, (Lit.int k n).wf = true

/-! ### the walk -/
set_option maxRecDepth 100000 in
set_option maxHeartbeats 8000000 in
theorem walk (n0 : Int) (v0 : Value) (LL0 : List (List Int)) (a1 : Option Addr) (len1 cap1 : Nat) (z1 : List Int) (w : World) (f0 : (Lit.int .i64 n0).wf = true) (w0 : row.IsRows w v0 LL0) (w1 : IsRow .i64 w a1 len1 cap1 z1) :
    Calls Try.prog 4 #[.agg #[.int .i64 n0, v0], .slice a1 len1 cap1] w fun e w' => e = .returned (.bool true) ∧ Below w.heap.size w w' := by
  obtain ⟨hS0, hl0, hk0⟩ := w0
  obtain ⟨L1, rfl, hS1, _⟩ := sl.of_row w1
  have S_ := trivial
  have s1 := sl.hide (World.grownBy_alloc w (.cells #[(.int .i64 n0), v0] 36) none).size
  have B1 := sl.hide (sl.below_of (World.grownBy_alloc w (.cells #[(.int .i64 n0), v0] 36) none))
  have q1 : Hid ((w.alloc (.cells #[(.int .i64 n0), v0] 36)).heap.size = w.heap.size + 1) := World.size_alloc ..
  have F0_1 := sl.hide (cf.Box.new 36 w (.int .i64 n0) v0)
  have S0 := sl.hide hS0
  have S1 := sl.hide hS1
  clear hS0
  clear hS1
  by_cases hbig1 : 1048576 < L1.length
  · have hi1 : (1048576 : Int) < (L1.length : Int) := by omega
    go_enter Try.func4, Try.ntmps4
    go_wp2
    go_ret
    exact ⟨rfl, sl.unhide B1⟩
  have hi1 : ¬ (1048576 : Int) < (L1.length : Int) := by omega
  have hL1 : L1.length ≤ 1048576 := by omega
  clear hbig1
  go_enter Try.func4, Try.ntmps4
  have zF0_0 := (sl.unhide F0_1).c0
  have zF0_1 := (sl.unhide F0_1).c1
  go_wp2_with fail
  refine (cf.szCnf v0 n0 LL0 1048576 _ (by decide) (by decide) hl0 hk0 ((sl.unhide S0).below (sl.unhide B1))).mono ?_; rintro e w2 ⟨r0, rfl, g2, hr⟩
  clear zF0_0 zF0_1
  have s2 := sl.hide (g2).size
  have B2 := sl.hide (sl.below_none (sl.unhide B1) (g2))
  have F0_2 := sl.hide ((sl.unhide F0_1).kept (g2))
  clear g2 B1 F0_1
  rcases hr with rfl | ⟨hr0, hr1⟩
  · go_wp2_with fail
    go_ret
    exact ⟨rfl, sl.unhide B2⟩
  have hn0 : css.tot LL0 ≤ 1048576 := by omega
  have hq0 : ¬ r0 < 0 := by omega
  have hb0 : 0 ≤ r0 ∧ r0 ≤ 1048576 := by omega
  have ht0 := sl.hide hr1
  clear hr0 hr1
  obtain ⟨N, b, R, hR, cs, ci⟩ := gj.bothPart n0 LL0 L1 hn0 hL1
  have CS := sl.hide cs
  have CI := sl.hide ci
  clear cs ci
  have hsl : css.sumLen LL0 ≤ 1048576 := Nat.le_trans (css.sumLen_le LL0) hn0
  have hz1 : decide ((1 : Int) + (css.sumLen LL0 : Int) + (L1.length : Int) < 0) = false := decide_eq_false (by omega)
  have hz2 : ¬ (1 : Int) + (css.sumLen R : Int) < 0 := by omega
  have zF0_0 := (sl.unhide F0_2).c0
  have zF0_1 := (sl.unhide F0_2).c1
  go_wp2_with fail
  refine (cf.toCnf v0 n0 LL0 _ hn0 ((sl.unhide S0).below (sl.unhide B2))).mono ?_; rintro e w3 ⟨u3, rfl, o3, g3⟩
  clear zF0_0 zF0_1
  obtain ⟨a3_, c3_, rfl⟩ := o3.len
  have s3 := sl.hide (g3).size
  have B3 := sl.hide (sl.below_none (sl.unhide B2) (g3))
  have F0_3 := sl.hide ((sl.unhide F0_2).kept (g3))
  have P3 := sl.hide o3
  clear o3 g3 B2 F0_2
  go_wp2_with fail
  refine (sl.toIntS _ L1 _ hL1 ((sl.unhide S1).below (sl.unhide B3))).mono ?_; rintro e w4 ⟨rfl, o4, g4⟩
  have s4 := sl.hide (g4).size
  have B4 := sl.hide (sl.below_none (sl.unhide B3) (g4))
  have P4 := sl.hide ((sl.unhide P3).kept (g4))
  have F0_4 := sl.hide ((sl.unhide F0_3).kept (g4))
  have I4 := sl.hide (sl.Own.of o4)
  clear o4 g4 B3 P3 F0_3
  go_wp2_with fail
  refine (sl.unhide CS _ _ _ _ _ (sl.unhide P4) (by have s1_ := sl.unhide s1; have q1_ := sl.unhide q1; have s2_ := sl.unhide s2; have s3_ := sl.unhide s3; have s4_ := sl.unhide s4; omega) (by have s1_ := sl.unhide s1; have q1_ := sl.unhide q1; have s2_ := sl.unhide s2; have s3_ := sl.unhide s3; have s4_ := sl.unhide s4; omega) (sl.unhide I4).sl).mono ?_; rintro e w5 ⟨u5, rfl, o5, g5⟩
  obtain ⟨a5_, c5_, rfl⟩ := o5.len
  have s5 := sl.hide (g5).size
  have B5 := sl.hide (sl.below_none (sl.unhide B4) (g5))
  have P5 := sl.hide ((sl.unhide P4).kept (g5))
  have I5 := sl.hide ((sl.unhide I4).kept (g5))
  have F0_5 := sl.hide ((sl.unhide F0_4).kept (g5))
  have UA5 := sl.hide o5
  clear o5 g5 B4 P4 I4 F0_4
  clear P5 I5
  have pF0_0 := (sl.unhide F0_5).c0
  have pF0_1 := (sl.unhide F0_5).c1
  have pF0_l := (sl.unhide F0_5).lt
  have s6 := sl.hide (World.grownBy_alloc w5 (.cells #[(.int .i64 N), (.slice a5_ R.length c5_)] 26) none).size
  have B6 := sl.hide (sl.below_none (sl.unhide B5) (World.grownBy_alloc w5 (.cells #[(.int .i64 N), (.slice a5_ R.length c5_)] 26) none))
  have UA6 := sl.hide ((sl.unhide UA5).kept (World.grownBy_alloc w5 (.cells #[(.int .i64 N), (.slice a5_ R.length c5_)] 26) none))
  have F0_6 := sl.hide ((sl.unhide F0_5).kept (World.grownBy_alloc w5 (.cells #[(.int .i64 N), (.slice a5_ R.length c5_)] 26) none))
  have q6 : Hid ((w5.alloc (.cells #[(.int .i64 N), (.slice a5_ R.length c5_)] 26)).heap.size = w5.heap.size + 1) := World.size_alloc ..
  have U6 := sl.hide (cf.Box.new 26 w5 (.int .i64 N) (.slice a5_ R.length c5_))
  clear B5 UA5 F0_5
  have zF0_0 := (sl.unhide F0_6).c0
  have zF0_1 := (sl.unhide F0_6).c1
  go_wp2_with fail
  refine (cf.toCnf v0 n0 LL0 _ hn0 ((sl.unhide S0).below (sl.unhide B6))).mono ?_; rintro e w7 ⟨u7, rfl, o7, g7⟩
  clear pF0_0 pF0_1 pF0_l zF0_0 zF0_1
  obtain ⟨a7_, c7_, rfl⟩ := o7.len
  have s7 := sl.hide (g7).size
  have B7 := sl.hide (sl.below_none (sl.unhide B6) (g7))
  have UA7 := sl.hide ((sl.unhide UA6).kept (g7))
  have F0_7 := sl.hide ((sl.unhide F0_6).kept (g7))
  have U7 := sl.hide ((sl.unhide U6).kept (g7))
  have X7 := sl.hide o7
  clear o7 g7 B6 UA6 F0_6 U6
  have s8 := sl.hide (World.grownBy_alloc w7 (.cells #[(.int .i64 n0), (.slice a7_ LL0.length c7_)] 26) none).size
  have B8 := sl.hide (sl.below_none (sl.unhide B7) (World.grownBy_alloc w7 (.cells #[(.int .i64 n0), (.slice a7_ LL0.length c7_)] 26) none))
  have UA8 := sl.hide ((sl.unhide UA7).kept (World.grownBy_alloc w7 (.cells #[(.int .i64 n0), (.slice a7_ LL0.length c7_)] 26) none))
  have X8 := sl.hide ((sl.unhide X7).kept (World.grownBy_alloc w7 (.cells #[(.int .i64 n0), (.slice a7_ LL0.length c7_)] 26) none))
  have F0_8 := sl.hide ((sl.unhide F0_7).kept (World.grownBy_alloc w7 (.cells #[(.int .i64 n0), (.slice a7_ LL0.length c7_)] 26) none))
  have U8 := sl.hide ((sl.unhide U7).kept (World.grownBy_alloc w7 (.cells #[(.int .i64 n0), (.slice a7_ LL0.length c7_)] 26) none))
  have q8 : Hid ((w7.alloc (.cells #[(.int .i64 n0), (.slice a7_ LL0.length c7_)] 26)).heap.size = w7.heap.size + 1) := World.size_alloc ..
  have V8 := sl.hide (cf.Box.new 26 w7 (.int .i64 n0) (.slice a7_ LL0.length c7_))
  clear B7 UA7 X7 F0_7 U7
  go_wp2_with fail
  refine (sl.toIntS _ L1 _ hL1 ((sl.unhide S1).below (sl.unhide B8))).mono ?_; rintro e w9 ⟨rfl, o9, g9⟩
  simp only [World.size_alloc] at o9
  have s9 := sl.hide (g9).size
  have B9 := sl.hide (sl.below_none (sl.unhide B8) (g9))
  have UA9 := sl.hide ((sl.unhide UA8).kept (g9))
  have X9 := sl.hide ((sl.unhide X8).kept (g9))
  have F0_9 := sl.hide ((sl.unhide F0_8).kept (g9))
  have U9 := sl.hide ((sl.unhide U8).kept (g9))
  have V9 := sl.hide ((sl.unhide V8).kept (g9))
  have I9 := sl.hide (sl.Own.of o9)
  clear o9 g9 B8 UA8 X8 F0_8 U8 V8
  have zV0 := (sl.unhide V9).c0
  have zV1 := (sl.unhide V9).c1
  go_wp2_with fail
  refine (sl.unhide CI _ _ _ _ _ (sl.unhide X9) (by have s1_ := sl.unhide s1; have q1_ := sl.unhide q1; have s2_ := sl.unhide s2; have s3_ := sl.unhide s3; have s4_ := sl.unhide s4; have s5_ := sl.unhide s5; have s6_ := sl.unhide s6; have q6_ := sl.unhide q6; have s7_ := sl.unhide s7; have s8_ := sl.unhide s8; have q8_ := sl.unhide q8; have s9_ := sl.unhide s9; omega) (by have s1_ := sl.unhide s1; have q1_ := sl.unhide q1; have s2_ := sl.unhide s2; have s3_ := sl.unhide s3; have s4_ := sl.unhide s4; have s5_ := sl.unhide s5; have s6_ := sl.unhide s6; have q6_ := sl.unhide q6; have s7_ := sl.unhide s7; have s8_ := sl.unhide s8; have q8_ := sl.unhide q8; have s9_ := sl.unhide s9; omega) (sl.unhide I9).sl).mono ?_; rintro e w10 ⟨u10, rfl, o10, g10⟩
  clear zV0 zV1
  obtain ⟨a10_, c10_, rfl⟩ := o10.len
  have s10 := sl.hide (g10).size
  have B10 := sl.hide (sl.below_none (sl.unhide B9) (g10))
  have UA10 := sl.hide ((sl.unhide UA9).kept (g10))
  have X10 := sl.hide ((sl.unhide X9).kept (g10))
  have I10 := sl.hide ((sl.unhide I9).kept (g10))
  have F0_10 := sl.hide ((sl.unhide F0_9).kept (g10))
  have U10 := sl.hide ((sl.unhide U9).kept (g10))
  have V10 := sl.hide ((sl.unhide V9).kept (g10))
  have GA10 := sl.hide o10
  clear o10 g10 B9 UA9 X9 I9 F0_9 U9 V9
  have pU0 := (sl.unhide U10).c0
  have pU1 := (sl.unhide U10).c1
  have pUl := (sl.unhide U10).lt
  have s11 := sl.hide (World.grownBy_alloc w10 (.cells #[(.int .i64 N), (.slice a10_ R.length c10_)] 26) none).size
  have B11 := sl.hide (sl.below_none (sl.unhide B10) (World.grownBy_alloc w10 (.cells #[(.int .i64 N), (.slice a10_ R.length c10_)] 26) none))
  have UA11 := sl.hide ((sl.unhide UA10).kept (World.grownBy_alloc w10 (.cells #[(.int .i64 N), (.slice a10_ R.length c10_)] 26) none))
  have X11 := sl.hide ((sl.unhide X10).kept (World.grownBy_alloc w10 (.cells #[(.int .i64 N), (.slice a10_ R.length c10_)] 26) none))
  have I11 := sl.hide ((sl.unhide I10).kept (World.grownBy_alloc w10 (.cells #[(.int .i64 N), (.slice a10_ R.length c10_)] 26) none))
  have GA11 := sl.hide ((sl.unhide GA10).kept (World.grownBy_alloc w10 (.cells #[(.int .i64 N), (.slice a10_ R.length c10_)] 26) none))
  have F0_11 := sl.hide ((sl.unhide F0_10).kept (World.grownBy_alloc w10 (.cells #[(.int .i64 N), (.slice a10_ R.length c10_)] 26) none))
  have U11 := sl.hide ((sl.unhide U10).kept (World.grownBy_alloc w10 (.cells #[(.int .i64 N), (.slice a10_ R.length c10_)] 26) none))
  have V11 := sl.hide ((sl.unhide V10).kept (World.grownBy_alloc w10 (.cells #[(.int .i64 N), (.slice a10_ R.length c10_)] 26) none))
  have q11 : Hid ((w10.alloc (.cells #[(.int .i64 N), (.slice a10_ R.length c10_)] 26)).heap.size = w10.heap.size + 1) := World.size_alloc ..
  have G11 := sl.hide (cf.Box.new 26 w10 (.int .i64 N) (.slice a10_ R.length c10_))
  clear B10 UA10 X10 I10 GA10 F0_10 U10 V10
  have zU0 := (sl.unhide U11).c0
  have zU1 := (sl.unhide U11).c1
  have zG0 := (sl.unhide G11).c0
  have zG1 := (sl.unhide G11).c1
  go_wp2_with fail
  refine (cf.eqCnf _ _ N R _ hR (sl.unhide GA11).sls (sl.unhide UA11).sls).mono ?_; rintro e w12 ⟨rfl, g12⟩
  clear pU0 pU1 pUl zU0 zU1 zG0 zG1
  have s12 := sl.hide (g12).size
  have B12 := sl.hide (sl.below_none (sl.unhide B11) (g12))
  have UA12 := sl.hide ((sl.unhide UA11).kept (g12))
  have X12 := sl.hide ((sl.unhide X11).kept (g12))
  have I12 := sl.hide ((sl.unhide I11).kept (g12))
  have GA12 := sl.hide ((sl.unhide GA11).kept (g12))
  have F0_12 := sl.hide ((sl.unhide F0_11).kept (g12))
  have U12 := sl.hide ((sl.unhide U11).kept (g12))
  have V12 := sl.hide ((sl.unhide V11).kept (g12))
  have G12 := sl.hide ((sl.unhide G11).kept (g12))
  clear g12 B11 UA11 X11 I11 GA11 F0_11 U11 V11 G11
  go_upto_region 13 with fail
  go_cut [56] (fun q wx => q = .bool false ∧ Hid (w12.grownBy wx none))
  case first =>
    have T5 := sl.hide (cf.toCnf v0 n0 LL0 w12.drew hn0 (((sl.unhide S0).below (sl.unhide B12)).kept (cf.grown_drew w12 none)))
    have E5 := sl.hide (fun u6 wA (g6 : w12.drew.grownBy wA none) (o6 : css.OwnS w12.drew.heap.size wA.heap.size wA u6 LL0) => cf.eqCnf _ u6 n0 LL0 wA hn0 ((sl.unhide X12).kept (sl.grown_trans (r := none) (cf.grown_drew w12 none) g6)).sls o6.sls)
    have X5' := sl.hide (fun wA (g6 : w12.drew.grownBy wA none) => (sl.unhide V12).kept (sl.grown_trans (r := none) (cf.grown_drew w12 none) g6))
    have G5 := sl.hide (fun wA wB (g6 : w12.drew.grownBy wA none) (g7 : wA.grownBy wB none) => sl.grown_trans (r := none) (sl.grown_trans (r := none) (cf.grown_drew w12 none) g6) g7)
    have x0 := (sl.unhide F0_12).c0
    have x1 := (sl.unhide F0_12).c1
    have y0 := (sl.unhide V12).c0
    have y1 := (sl.unhide V12).c1
    clear UA12 X12 I12 GA12 F0_12 U12 V12 G12 B12
    go_region_with (first
      | (go_at_call 22; refine (sl.unhide T5).mono ?_; rintro e wA ⟨u6, rfl, o6, g6⟩; have z0 := (sl.unhide X5' wA g6).c0; have z1 := (sl.unhide X5' wA g6).c1; have E6 := sl.hide (sl.unhide E5 u6 wA g6 o6); have G6 := sl.hide (fun wB => sl.unhide G5 wA wB g6); clear g6 o6)
      | (go_at_call 25; refine (sl.unhide E6).mono ?_; rintro e wB ⟨rfl, g7⟩; have G7 := sl.hide (sl.unhide G6 wB g7); clear g7))
    all_goals (go_wp2_with fail; go_meet; exact ⟨rfl, G7⟩)
  case rest =>
    obtain ⟨rfl, hg⟩ := hcut
    have g13 := sl.unhide hg
    have s13 := sl.hide (g13).size
    have B13 := sl.hide (sl.below_none (sl.unhide B12) (g13))
    have UA13 := sl.hide ((sl.unhide UA12).kept (g13))
    have X13 := sl.hide ((sl.unhide X12).kept (g13))
    have I13 := sl.hide ((sl.unhide I12).kept (g13))
    have GA13 := sl.hide ((sl.unhide GA12).kept (g13))
    have F0_13 := sl.hide ((sl.unhide F0_12).kept (g13))
    have U13 := sl.hide ((sl.unhide U12).kept (g13))
    have V13 := sl.hide ((sl.unhide V12).kept (g13))
    have G13 := sl.hide ((sl.unhide G12).kept (g13))
    clear g13 hg B12 UA12 X12 I12 GA12 F0_12 U12 V12 G12
    go_wp2_with fail
    refine (sl.toIntS _ L1 _ hL1 ((sl.unhide S1).below (sl.unhide B13))).mono ?_; rintro e w14 ⟨rfl, o14, g14⟩
    have s14 := sl.hide (g14).size
    have B14 := sl.hide (sl.below_none (sl.unhide B13) (g14))
    have UA14 := sl.hide ((sl.unhide UA13).kept (g14))
    have X14 := sl.hide ((sl.unhide X13).kept (g14))
    have I14 := sl.hide ((sl.unhide I13).kept (g14))
    have GA14 := sl.hide ((sl.unhide GA13).kept (g14))
    have F0_14 := sl.hide ((sl.unhide F0_13).kept (g14))
    have U14 := sl.hide ((sl.unhide U13).kept (g14))
    have V14 := sl.hide ((sl.unhide V13).kept (g14))
    have G14 := sl.hide ((sl.unhide G13).kept (g14))
    have IJ14 := sl.hide (sl.Own.of o14)
    clear o14 g14 B13 UA13 X13 I13 GA13 F0_13 U13 V13 G13
    go_wp2_with fail
    refine (sl.eqIntS _ _ _ _ hL1 (sl.unhide I14).sl (sl.unhide IJ14).sl).mono ?_; rintro e w15 ⟨rfl, g15⟩
    have s15 := sl.hide (g15).size
    have B15 := sl.hide (sl.below_none (sl.unhide B14) (g15))
    have UA15 := sl.hide ((sl.unhide UA14).kept (g15))
    have X15 := sl.hide ((sl.unhide X14).kept (g15))
    have I15 := sl.hide ((sl.unhide I14).kept (g15))
    have GA15 := sl.hide ((sl.unhide GA14).kept (g15))
    have IJ15 := sl.hide ((sl.unhide IJ14).kept (g15))
    have F0_15 := sl.hide ((sl.unhide F0_14).kept (g15))
    have U15 := sl.hide ((sl.unhide U14).kept (g15))
    have V15 := sl.hide ((sl.unhide V14).kept (g15))
    have G15 := sl.hide ((sl.unhide G14).kept (g15))
    clear g15 B14 UA14 X14 I14 GA14 IJ14 F0_14 U14 V14 G14
    clear IJ15
    have zV0 := (sl.unhide V15).c0
    have zV1 := (sl.unhide V15).c1
    go_wp2_with fail
    refine (cf.markCnf _ n0 LL0 1 _ _ _ hn0 (by omega) (by omega) (sl.unhide X15)).mono ?_; rintro e w16 ⟨rfl, o16, g16⟩
    clear zV0 zV1
    have s16 := sl.hide g16.size
    have B16 := sl.hide (css.below_outs (sl.unhide B15) (by have s1_ := sl.unhide s1; have q1_ := sl.unhide q1; have s2_ := sl.unhide s2; have s3_ := sl.unhide s3; have s4_ := sl.unhide s4; have s5_ := sl.unhide s5; have s6_ := sl.unhide s6; have q6_ := sl.unhide q6; have s7_ := sl.unhide s7; have s8_ := sl.unhide s8; have q8_ := sl.unhide q8; have s9_ := sl.unhide s9; have s10_ := sl.unhide s10; have s11_ := sl.unhide s11; have q11_ := sl.unhide q11; have s12_ := sl.unhide s12; have s13_ := sl.unhide s13; have s14_ := sl.unhide s14; have s15_ := sl.unhide s15; have s16_ := sl.unhide s16; omega) g16)
    have UA16 := sl.hide (css.OwnS.outs (sl.unhide UA15) g16 (by have s1_ := sl.unhide s1; have q1_ := sl.unhide q1; have s2_ := sl.unhide s2; have s3_ := sl.unhide s3; have s4_ := sl.unhide s4; have s5_ := sl.unhide s5; have s6_ := sl.unhide s6; have q6_ := sl.unhide q6; have s7_ := sl.unhide s7; have s8_ := sl.unhide s8; have q8_ := sl.unhide q8; have s9_ := sl.unhide s9; have s10_ := sl.unhide s10; have s11_ := sl.unhide s11; have q11_ := sl.unhide q11; have s12_ := sl.unhide s12; have s13_ := sl.unhide s13; have s14_ := sl.unhide s14; have s15_ := sl.unhide s15; have s16_ := sl.unhide s16; omega))
    have I16 := sl.hide (css.own_outs (sl.unhide I15) g16 (by have s1_ := sl.unhide s1; have q1_ := sl.unhide q1; have s2_ := sl.unhide s2; have s3_ := sl.unhide s3; have s4_ := sl.unhide s4; have s5_ := sl.unhide s5; have s6_ := sl.unhide s6; have q6_ := sl.unhide q6; have s7_ := sl.unhide s7; have s8_ := sl.unhide s8; have q8_ := sl.unhide q8; have s9_ := sl.unhide s9; have s10_ := sl.unhide s10; have s11_ := sl.unhide s11; have q11_ := sl.unhide q11; have s12_ := sl.unhide s12; have s13_ := sl.unhide s13; have s14_ := sl.unhide s14; have s15_ := sl.unhide s15; have s16_ := sl.unhide s16; omega))
    have GA16 := sl.hide (css.OwnS.outs (sl.unhide GA15) g16 (by have s1_ := sl.unhide s1; have q1_ := sl.unhide q1; have s2_ := sl.unhide s2; have s3_ := sl.unhide s3; have s4_ := sl.unhide s4; have s5_ := sl.unhide s5; have s6_ := sl.unhide s6; have q6_ := sl.unhide q6; have s7_ := sl.unhide s7; have s8_ := sl.unhide s8; have q8_ := sl.unhide q8; have s9_ := sl.unhide s9; have s10_ := sl.unhide s10; have s11_ := sl.unhide s11; have q11_ := sl.unhide q11; have s12_ := sl.unhide s12; have s13_ := sl.unhide s13; have s14_ := sl.unhide s14; have s15_ := sl.unhide s15; have s16_ := sl.unhide s16; omega))
    have F0_16 := sl.hide ((sl.unhide F0_15).outs g16 (by have s1_ := sl.unhide s1; have q1_ := sl.unhide q1; have s2_ := sl.unhide s2; have s3_ := sl.unhide s3; have s4_ := sl.unhide s4; have s5_ := sl.unhide s5; have s6_ := sl.unhide s6; have q6_ := sl.unhide q6; have s7_ := sl.unhide s7; have s8_ := sl.unhide s8; have q8_ := sl.unhide q8; have s9_ := sl.unhide s9; have s10_ := sl.unhide s10; have s11_ := sl.unhide s11; have q11_ := sl.unhide q11; have s12_ := sl.unhide s12; have s13_ := sl.unhide s13; have s14_ := sl.unhide s14; have s15_ := sl.unhide s15; have s16_ := sl.unhide s16; omega))
    have U16 := sl.hide ((sl.unhide U15).outs g16 (by have s1_ := sl.unhide s1; have q1_ := sl.unhide q1; have s2_ := sl.unhide s2; have s3_ := sl.unhide s3; have s4_ := sl.unhide s4; have s5_ := sl.unhide s5; have s6_ := sl.unhide s6; have q6_ := sl.unhide q6; have s7_ := sl.unhide s7; have s8_ := sl.unhide s8; have q8_ := sl.unhide q8; have s9_ := sl.unhide s9; have s10_ := sl.unhide s10; have s11_ := sl.unhide s11; have q11_ := sl.unhide q11; have s12_ := sl.unhide s12; have s13_ := sl.unhide s13; have s14_ := sl.unhide s14; have s15_ := sl.unhide s15; have s16_ := sl.unhide s16; omega))
    have V16 := sl.hide ((sl.unhide V15).outs g16 (by have s1_ := sl.unhide s1; have q1_ := sl.unhide q1; have s2_ := sl.unhide s2; have s3_ := sl.unhide s3; have s4_ := sl.unhide s4; have s5_ := sl.unhide s5; have s6_ := sl.unhide s6; have q6_ := sl.unhide q6; have s7_ := sl.unhide s7; have s8_ := sl.unhide s8; have q8_ := sl.unhide q8; have s9_ := sl.unhide s9; have s10_ := sl.unhide s10; have s11_ := sl.unhide s11; have q11_ := sl.unhide q11; have s12_ := sl.unhide s12; have s13_ := sl.unhide s13; have s14_ := sl.unhide s14; have s15_ := sl.unhide s15; have s16_ := sl.unhide s16; omega))
    have G16 := sl.hide ((sl.unhide G15).outs g16 (by have s1_ := sl.unhide s1; have q1_ := sl.unhide q1; have s2_ := sl.unhide s2; have s3_ := sl.unhide s3; have s4_ := sl.unhide s4; have s5_ := sl.unhide s5; have s6_ := sl.unhide s6; have q6_ := sl.unhide q6; have s7_ := sl.unhide s7; have s8_ := sl.unhide s8; have q8_ := sl.unhide q8; have s9_ := sl.unhide s9; have s10_ := sl.unhide s10; have s11_ := sl.unhide s11; have q11_ := sl.unhide q11; have s12_ := sl.unhide s12; have s13_ := sl.unhide s13; have s14_ := sl.unhide s14; have s15_ := sl.unhide s15; have s16_ := sl.unhide s16; omega))
    clear o16 g16 X15 B15 UA15 I15 GA15 F0_15 U15 V15 G15
    go_wp2_with fail
    refine (sl.markIntS _ L1 (1 + (css.sumLen LL0 : Int)) _ _ hL1 (by omega) (by omega) (sl.unhide I16).1).mono ?_; rintro e w17 ⟨rfl, o17, gx17⟩
    have g17 := css.outs_by gx17 (fun q hq => And.intro ((sl.unhide I16).1.lt q hq).1 ((sl.unhide I16).2 q hq))
    have s17 := sl.hide g17.size
    have B17 := sl.hide (css.below_outs (sl.unhide B16) (by have s1_ := sl.unhide s1; have q1_ := sl.unhide q1; have s2_ := sl.unhide s2; have s3_ := sl.unhide s3; have s4_ := sl.unhide s4; have s5_ := sl.unhide s5; have s6_ := sl.unhide s6; have q6_ := sl.unhide q6; have s7_ := sl.unhide s7; have s8_ := sl.unhide s8; have q8_ := sl.unhide q8; have s9_ := sl.unhide s9; have s10_ := sl.unhide s10; have s11_ := sl.unhide s11; have q11_ := sl.unhide q11; have s12_ := sl.unhide s12; have s13_ := sl.unhide s13; have s14_ := sl.unhide s14; have s15_ := sl.unhide s15; have s16_ := sl.unhide s16; have s17_ := sl.unhide s17; omega) g17)
    have UA17 := sl.hide (css.OwnS.outs (sl.unhide UA16) g17 (by have s1_ := sl.unhide s1; have q1_ := sl.unhide q1; have s2_ := sl.unhide s2; have s3_ := sl.unhide s3; have s4_ := sl.unhide s4; have s5_ := sl.unhide s5; have s6_ := sl.unhide s6; have q6_ := sl.unhide q6; have s7_ := sl.unhide s7; have s8_ := sl.unhide s8; have q8_ := sl.unhide q8; have s9_ := sl.unhide s9; have s10_ := sl.unhide s10; have s11_ := sl.unhide s11; have q11_ := sl.unhide q11; have s12_ := sl.unhide s12; have s13_ := sl.unhide s13; have s14_ := sl.unhide s14; have s15_ := sl.unhide s15; have s16_ := sl.unhide s16; have s17_ := sl.unhide s17; omega))
    have GA17 := sl.hide (css.OwnS.outs (sl.unhide GA16) g17 (by have s1_ := sl.unhide s1; have q1_ := sl.unhide q1; have s2_ := sl.unhide s2; have s3_ := sl.unhide s3; have s4_ := sl.unhide s4; have s5_ := sl.unhide s5; have s6_ := sl.unhide s6; have q6_ := sl.unhide q6; have s7_ := sl.unhide s7; have s8_ := sl.unhide s8; have q8_ := sl.unhide q8; have s9_ := sl.unhide s9; have s10_ := sl.unhide s10; have s11_ := sl.unhide s11; have q11_ := sl.unhide q11; have s12_ := sl.unhide s12; have s13_ := sl.unhide s13; have s14_ := sl.unhide s14; have s15_ := sl.unhide s15; have s16_ := sl.unhide s16; have s17_ := sl.unhide s17; omega))
    have F0_17 := sl.hide ((sl.unhide F0_16).outs g17 (by have s1_ := sl.unhide s1; have q1_ := sl.unhide q1; have s2_ := sl.unhide s2; have s3_ := sl.unhide s3; have s4_ := sl.unhide s4; have s5_ := sl.unhide s5; have s6_ := sl.unhide s6; have q6_ := sl.unhide q6; have s7_ := sl.unhide s7; have s8_ := sl.unhide s8; have q8_ := sl.unhide q8; have s9_ := sl.unhide s9; have s10_ := sl.unhide s10; have s11_ := sl.unhide s11; have q11_ := sl.unhide q11; have s12_ := sl.unhide s12; have s13_ := sl.unhide s13; have s14_ := sl.unhide s14; have s15_ := sl.unhide s15; have s16_ := sl.unhide s16; have s17_ := sl.unhide s17; omega))
    have U17 := sl.hide ((sl.unhide U16).outs g17 (by have s1_ := sl.unhide s1; have q1_ := sl.unhide q1; have s2_ := sl.unhide s2; have s3_ := sl.unhide s3; have s4_ := sl.unhide s4; have s5_ := sl.unhide s5; have s6_ := sl.unhide s6; have q6_ := sl.unhide q6; have s7_ := sl.unhide s7; have s8_ := sl.unhide s8; have q8_ := sl.unhide q8; have s9_ := sl.unhide s9; have s10_ := sl.unhide s10; have s11_ := sl.unhide s11; have q11_ := sl.unhide q11; have s12_ := sl.unhide s12; have s13_ := sl.unhide s13; have s14_ := sl.unhide s14; have s15_ := sl.unhide s15; have s16_ := sl.unhide s16; have s17_ := sl.unhide s17; omega))
    have V17 := sl.hide ((sl.unhide V16).outs g17 (by have s1_ := sl.unhide s1; have q1_ := sl.unhide q1; have s2_ := sl.unhide s2; have s3_ := sl.unhide s3; have s4_ := sl.unhide s4; have s5_ := sl.unhide s5; have s6_ := sl.unhide s6; have q6_ := sl.unhide q6; have s7_ := sl.unhide s7; have s8_ := sl.unhide s8; have q8_ := sl.unhide q8; have s9_ := sl.unhide s9; have s10_ := sl.unhide s10; have s11_ := sl.unhide s11; have q11_ := sl.unhide q11; have s12_ := sl.unhide s12; have s13_ := sl.unhide s13; have s14_ := sl.unhide s14; have s15_ := sl.unhide s15; have s16_ := sl.unhide s16; have s17_ := sl.unhide s17; omega))
    have G17 := sl.hide ((sl.unhide G16).outs g17 (by have s1_ := sl.unhide s1; have q1_ := sl.unhide q1; have s2_ := sl.unhide s2; have s3_ := sl.unhide s3; have s4_ := sl.unhide s4; have s5_ := sl.unhide s5; have s6_ := sl.unhide s6; have q6_ := sl.unhide q6; have s7_ := sl.unhide s7; have s8_ := sl.unhide s8; have q8_ := sl.unhide q8; have s9_ := sl.unhide s9; have s10_ := sl.unhide s10; have s11_ := sl.unhide s11; have q11_ := sl.unhide q11; have s12_ := sl.unhide s12; have s13_ := sl.unhide s13; have s14_ := sl.unhide s14; have s15_ := sl.unhide s15; have s16_ := sl.unhide s16; have s17_ := sl.unhide s17; omega))
    clear o17 g17 gx17 I16 B16 UA16 GA16 F0_16 U16 V16 G16
    have zU0 := (sl.unhide U17).c0
    have zU1 := (sl.unhide U17).c1
    have zG0 := (sl.unhide G17).c0
    have zG1 := (sl.unhide G17).c1
    go_wp2_with fail
    refine (cf.eqCnf _ _ N R _ hR (sl.unhide GA17).sls (sl.unhide UA17).sls).mono ?_; rintro e w18 ⟨rfl, g18⟩
    clear zU0 zU1 zG0 zG1
    have s18 := sl.hide (g18).size
    have B18 := sl.hide (sl.below_none (sl.unhide B17) (g18))
    have UA18 := sl.hide ((sl.unhide UA17).kept (g18))
    have GA18 := sl.hide ((sl.unhide GA17).kept (g18))
    have F0_18 := sl.hide ((sl.unhide F0_17).kept (g18))
    have U18 := sl.hide ((sl.unhide U17).kept (g18))
    have V18 := sl.hide ((sl.unhide V17).kept (g18))
    have G18 := sl.hide ((sl.unhide G17).kept (g18))
    clear g18 B17 UA17 GA17 F0_17 U17 V17 G17
    have zG0 := (sl.unhide G18).c0
    have zG1 := (sl.unhide G18).c1
    go_wp2_with fail
    refine (cf.markCnf _ N R 1 _ _ _ hR (by omega) (by omega) (sl.unhide GA18)).mono ?_; rintro e w19 ⟨rfl, o19, g19⟩
    clear zG0 zG1
    have s19 := sl.hide g19.size
    have B19 := sl.hide (css.below_outs (sl.unhide B18) (by have s1_ := sl.unhide s1; have q1_ := sl.unhide q1; have s2_ := sl.unhide s2; have s3_ := sl.unhide s3; have s4_ := sl.unhide s4; have s5_ := sl.unhide s5; have s6_ := sl.unhide s6; have q6_ := sl.unhide q6; have s7_ := sl.unhide s7; have s8_ := sl.unhide s8; have q8_ := sl.unhide q8; have s9_ := sl.unhide s9; have s10_ := sl.unhide s10; have s11_ := sl.unhide s11; have q11_ := sl.unhide q11; have s12_ := sl.unhide s12; have s13_ := sl.unhide s13; have s14_ := sl.unhide s14; have s15_ := sl.unhide s15; have s16_ := sl.unhide s16; have s17_ := sl.unhide s17; have s18_ := sl.unhide s18; have s19_ := sl.unhide s19; omega) g19)
    have UA19 := sl.hide (css.OwnS.outs (sl.unhide UA18) g19 (by have s1_ := sl.unhide s1; have q1_ := sl.unhide q1; have s2_ := sl.unhide s2; have s3_ := sl.unhide s3; have s4_ := sl.unhide s4; have s5_ := sl.unhide s5; have s6_ := sl.unhide s6; have q6_ := sl.unhide q6; have s7_ := sl.unhide s7; have s8_ := sl.unhide s8; have q8_ := sl.unhide q8; have s9_ := sl.unhide s9; have s10_ := sl.unhide s10; have s11_ := sl.unhide s11; have q11_ := sl.unhide q11; have s12_ := sl.unhide s12; have s13_ := sl.unhide s13; have s14_ := sl.unhide s14; have s15_ := sl.unhide s15; have s16_ := sl.unhide s16; have s17_ := sl.unhide s17; have s18_ := sl.unhide s18; have s19_ := sl.unhide s19; omega))
    have F0_19 := sl.hide ((sl.unhide F0_18).outs g19 (by have s1_ := sl.unhide s1; have q1_ := sl.unhide q1; have s2_ := sl.unhide s2; have s3_ := sl.unhide s3; have s4_ := sl.unhide s4; have s5_ := sl.unhide s5; have s6_ := sl.unhide s6; have q6_ := sl.unhide q6; have s7_ := sl.unhide s7; have s8_ := sl.unhide s8; have q8_ := sl.unhide q8; have s9_ := sl.unhide s9; have s10_ := sl.unhide s10; have s11_ := sl.unhide s11; have q11_ := sl.unhide q11; have s12_ := sl.unhide s12; have s13_ := sl.unhide s13; have s14_ := sl.unhide s14; have s15_ := sl.unhide s15; have s16_ := sl.unhide s16; have s17_ := sl.unhide s17; have s18_ := sl.unhide s18; have s19_ := sl.unhide s19; omega))
    have U19 := sl.hide ((sl.unhide U18).outs g19 (by have s1_ := sl.unhide s1; have q1_ := sl.unhide q1; have s2_ := sl.unhide s2; have s3_ := sl.unhide s3; have s4_ := sl.unhide s4; have s5_ := sl.unhide s5; have s6_ := sl.unhide s6; have q6_ := sl.unhide q6; have s7_ := sl.unhide s7; have s8_ := sl.unhide s8; have q8_ := sl.unhide q8; have s9_ := sl.unhide s9; have s10_ := sl.unhide s10; have s11_ := sl.unhide s11; have q11_ := sl.unhide q11; have s12_ := sl.unhide s12; have s13_ := sl.unhide s13; have s14_ := sl.unhide s14; have s15_ := sl.unhide s15; have s16_ := sl.unhide s16; have s17_ := sl.unhide s17; have s18_ := sl.unhide s18; have s19_ := sl.unhide s19; omega))
    have V19 := sl.hide ((sl.unhide V18).outs g19 (by have s1_ := sl.unhide s1; have q1_ := sl.unhide q1; have s2_ := sl.unhide s2; have s3_ := sl.unhide s3; have s4_ := sl.unhide s4; have s5_ := sl.unhide s5; have s6_ := sl.unhide s6; have q6_ := sl.unhide q6; have s7_ := sl.unhide s7; have s8_ := sl.unhide s8; have q8_ := sl.unhide q8; have s9_ := sl.unhide s9; have s10_ := sl.unhide s10; have s11_ := sl.unhide s11; have q11_ := sl.unhide q11; have s12_ := sl.unhide s12; have s13_ := sl.unhide s13; have s14_ := sl.unhide s14; have s15_ := sl.unhide s15; have s16_ := sl.unhide s16; have s17_ := sl.unhide s17; have s18_ := sl.unhide s18; have s19_ := sl.unhide s19; omega))
    have G19 := sl.hide ((sl.unhide G18).outs g19 (by have s1_ := sl.unhide s1; have q1_ := sl.unhide q1; have s2_ := sl.unhide s2; have s3_ := sl.unhide s3; have s4_ := sl.unhide s4; have s5_ := sl.unhide s5; have s6_ := sl.unhide s6; have q6_ := sl.unhide q6; have s7_ := sl.unhide s7; have s8_ := sl.unhide s8; have q8_ := sl.unhide q8; have s9_ := sl.unhide s9; have s10_ := sl.unhide s10; have s11_ := sl.unhide s11; have q11_ := sl.unhide q11; have s12_ := sl.unhide s12; have s13_ := sl.unhide s13; have s14_ := sl.unhide s14; have s15_ := sl.unhide s15; have s16_ := sl.unhide s16; have s17_ := sl.unhide s17; have s18_ := sl.unhide s18; have s19_ := sl.unhide s19; omega))
    have GA19 := sl.hide o19
    clear o19 g19 GA18 B18 UA18 F0_18 U18 V18 G18
    have zG0 := (sl.unhide G19).c0
    have zG1 := (sl.unhide G19).c1
    go_wp2_with fail
    refine (cf.heldCnf _ N R 1 _ hR (by decide) (by decide) (sl.unhide GA19).sls).mono ?_; rintro e w20 ⟨rfl, g20⟩
    clear zG0 zG1
    have s20 := sl.hide (g20).size
    have B20 := sl.hide (sl.below_none (sl.unhide B19) (g20))
    have UA20 := sl.hide ((sl.unhide UA19).kept (g20))
    have GA20 := sl.hide ((sl.unhide GA19).kept (g20))
    have F0_20 := sl.hide ((sl.unhide F0_19).kept (g20))
    have U20 := sl.hide ((sl.unhide U19).kept (g20))
    have V20 := sl.hide ((sl.unhide V19).kept (g20))
    have G20 := sl.hide ((sl.unhide G19).kept (g20))
    clear g20 B19 UA19 GA19 F0_19 U19 V19 G19
    have zF0_0 := (sl.unhide F0_20).c0
    have zF0_1 := (sl.unhide F0_20).c1
    go_wp2_with fail
    refine (cf.toCnf v0 n0 LL0 _ hn0 ((sl.unhide S0).below (sl.unhide B20))).mono ?_; rintro e w21 ⟨u21, rfl, o21, g21⟩
    clear zF0_0 zF0_1
    obtain ⟨a21_, c21_, rfl⟩ := o21.len
    have s21 := sl.hide (g21).size
    have B21 := sl.hide (sl.below_none (sl.unhide B20) (g21))
    have UA21 := sl.hide ((sl.unhide UA20).kept (g21))
    have GA21 := sl.hide ((sl.unhide GA20).kept (g21))
    have F0_21 := sl.hide ((sl.unhide F0_20).kept (g21))
    have U21 := sl.hide ((sl.unhide U20).kept (g21))
    have V21 := sl.hide ((sl.unhide V20).kept (g21))
    have G21 := sl.hide ((sl.unhide G20).kept (g21))
    have Y21 := sl.hide o21
    clear o21 g21 B20 UA20 GA20 F0_20 U20 V20 G20
    go_wp2_with fail
    refine (sl.toIntS _ L1 _ hL1 ((sl.unhide S1).below (sl.unhide B21))).mono ?_; rintro e w22 ⟨rfl, o22, g22⟩
    have s22 := sl.hide (g22).size
    have B22 := sl.hide (sl.below_none (sl.unhide B21) (g22))
    have UA22 := sl.hide ((sl.unhide UA21).kept (g22))
    have GA22 := sl.hide ((sl.unhide GA21).kept (g22))
    have Y22 := sl.hide ((sl.unhide Y21).kept (g22))
    have F0_22 := sl.hide ((sl.unhide F0_21).kept (g22))
    have U22 := sl.hide ((sl.unhide U21).kept (g22))
    have V22 := sl.hide ((sl.unhide V21).kept (g22))
    have G22 := sl.hide ((sl.unhide G21).kept (g22))
    have I22 := sl.hide (sl.Own.of o22)
    clear o22 g22 B21 UA21 GA21 Y21 F0_21 U21 V21 G21
    go_wp2_with fail
    refine (sl.unhide CI _ _ _ _ _ (sl.unhide Y22) (by have s1_ := sl.unhide s1; have q1_ := sl.unhide q1; have s2_ := sl.unhide s2; have s3_ := sl.unhide s3; have s4_ := sl.unhide s4; have s5_ := sl.unhide s5; have s6_ := sl.unhide s6; have q6_ := sl.unhide q6; have s7_ := sl.unhide s7; have s8_ := sl.unhide s8; have q8_ := sl.unhide q8; have s9_ := sl.unhide s9; have s10_ := sl.unhide s10; have s11_ := sl.unhide s11; have q11_ := sl.unhide q11; have s12_ := sl.unhide s12; have s13_ := sl.unhide s13; have s14_ := sl.unhide s14; have s15_ := sl.unhide s15; have s16_ := sl.unhide s16; have s17_ := sl.unhide s17; have s18_ := sl.unhide s18; have s19_ := sl.unhide s19; have s20_ := sl.unhide s20; have s21_ := sl.unhide s21; have s22_ := sl.unhide s22; omega) (by have s1_ := sl.unhide s1; have q1_ := sl.unhide q1; have s2_ := sl.unhide s2; have s3_ := sl.unhide s3; have s4_ := sl.unhide s4; have s5_ := sl.unhide s5; have s6_ := sl.unhide s6; have q6_ := sl.unhide q6; have s7_ := sl.unhide s7; have s8_ := sl.unhide s8; have q8_ := sl.unhide q8; have s9_ := sl.unhide s9; have s10_ := sl.unhide s10; have s11_ := sl.unhide s11; have q11_ := sl.unhide q11; have s12_ := sl.unhide s12; have s13_ := sl.unhide s13; have s14_ := sl.unhide s14; have s15_ := sl.unhide s15; have s16_ := sl.unhide s16; have s17_ := sl.unhide s17; have s18_ := sl.unhide s18; have s19_ := sl.unhide s19; have s20_ := sl.unhide s20; have s21_ := sl.unhide s21; have s22_ := sl.unhide s22; omega) (sl.unhide I22).sl).mono ?_; rintro e w23 ⟨u23, rfl, o23, g23⟩
    obtain ⟨a23_, c23_, rfl⟩ := o23.len
    have s23 := sl.hide (g23).size
    have B23 := sl.hide (sl.below_none (sl.unhide B22) (g23))
    have UA23 := sl.hide ((sl.unhide UA22).kept (g23))
    have GA23 := sl.hide ((sl.unhide GA22).kept (g23))
    have Y23 := sl.hide ((sl.unhide Y22).kept (g23))
    have I23 := sl.hide ((sl.unhide I22).kept (g23))
    have F0_23 := sl.hide ((sl.unhide F0_22).kept (g23))
    have U23 := sl.hide ((sl.unhide U22).kept (g23))
    have V23 := sl.hide ((sl.unhide V22).kept (g23))
    have G23 := sl.hide ((sl.unhide G22).kept (g23))
    have HA23 := sl.hide o23
    clear o23 g23 B22 UA22 GA22 Y22 I22 F0_22 U22 V22 G22
    clear Y23 I23
    have pU0 := (sl.unhide U23).c0
    have pU1 := (sl.unhide U23).c1
    have pUl := (sl.unhide U23).lt
    have s24 := sl.hide (World.grownBy_alloc w23 (.cells #[(.int .i64 N), (.slice a23_ R.length c23_)] 26) none).size
    have B24 := sl.hide (sl.below_none (sl.unhide B23) (World.grownBy_alloc w23 (.cells #[(.int .i64 N), (.slice a23_ R.length c23_)] 26) none))
    have UA24 := sl.hide ((sl.unhide UA23).kept (World.grownBy_alloc w23 (.cells #[(.int .i64 N), (.slice a23_ R.length c23_)] 26) none))
    have GA24 := sl.hide ((sl.unhide GA23).kept (World.grownBy_alloc w23 (.cells #[(.int .i64 N), (.slice a23_ R.length c23_)] 26) none))
    have HA24 := sl.hide ((sl.unhide HA23).kept (World.grownBy_alloc w23 (.cells #[(.int .i64 N), (.slice a23_ R.length c23_)] 26) none))
    have F0_24 := sl.hide ((sl.unhide F0_23).kept (World.grownBy_alloc w23 (.cells #[(.int .i64 N), (.slice a23_ R.length c23_)] 26) none))
    have U24 := sl.hide ((sl.unhide U23).kept (World.grownBy_alloc w23 (.cells #[(.int .i64 N), (.slice a23_ R.length c23_)] 26) none))
    have V24 := sl.hide ((sl.unhide V23).kept (World.grownBy_alloc w23 (.cells #[(.int .i64 N), (.slice a23_ R.length c23_)] 26) none))
    have G24 := sl.hide ((sl.unhide G23).kept (World.grownBy_alloc w23 (.cells #[(.int .i64 N), (.slice a23_ R.length c23_)] 26) none))
    have q24 : Hid ((w23.alloc (.cells #[(.int .i64 N), (.slice a23_ R.length c23_)] 26)).heap.size = w23.heap.size + 1) := World.size_alloc ..
    have H24 := sl.hide (cf.Box.new 26 w23 (.int .i64 N) (.slice a23_ R.length c23_))
    clear B23 UA23 GA23 HA23 F0_23 U23 V23 G23
    have zU0 := (sl.unhide U24).c0
    have zU1 := (sl.unhide U24).c1
    have zH0 := (sl.unhide H24).c0
    have zH1 := (sl.unhide H24).c1
    go_wp2_with fail
    refine (cf.eqCnf _ _ N R _ hR (sl.unhide HA24).sls (sl.unhide UA24).sls).mono ?_; rintro e w25 ⟨rfl, g25⟩
    clear pU0 pU1 pUl zU0 zU1 zH0 zH1
    have s25 := sl.hide (g25).size
    have B25 := sl.hide (sl.below_none (sl.unhide B24) (g25))
    have UA25 := sl.hide ((sl.unhide UA24).kept (g25))
    have GA25 := sl.hide ((sl.unhide GA24).kept (g25))
    have HA25 := sl.hide ((sl.unhide HA24).kept (g25))
    have F0_25 := sl.hide ((sl.unhide F0_24).kept (g25))
    have U25 := sl.hide ((sl.unhide U24).kept (g25))
    have V25 := sl.hide ((sl.unhide V24).kept (g25))
    have G25 := sl.hide ((sl.unhide G24).kept (g25))
    have H25 := sl.hide ((sl.unhide H24).kept (g25))
    clear g25 B24 UA24 GA24 HA24 F0_24 U24 V24 G24 H24
    have zG0 := (sl.unhide G25).c0
    have zG1 := (sl.unhide G25).c1
    go_wp2_with fail
    refine (cf.heldCnf _ N R 1 _ hR (by decide) (by decide) (sl.unhide GA25).sls).mono ?_; rintro e w26 ⟨rfl, g26⟩
    clear zG0 zG1
    have s26 := sl.hide (g26).size
    have B26 := sl.hide (sl.below_none (sl.unhide B25) (g26))
    have UA26 := sl.hide ((sl.unhide UA25).kept (g26))
    have GA26 := sl.hide ((sl.unhide GA25).kept (g26))
    have HA26 := sl.hide ((sl.unhide HA25).kept (g26))
    have F0_26 := sl.hide ((sl.unhide F0_25).kept (g26))
    have U26 := sl.hide ((sl.unhide U25).kept (g26))
    have V26 := sl.hide ((sl.unhide V25).kept (g26))
    have G26 := sl.hide ((sl.unhide G25).kept (g26))
    have H26 := sl.hide ((sl.unhide H25).kept (g26))
    clear g26 B25 UA25 GA25 HA25 F0_25 U25 V25 G25 H25
    go_wp2_with fail
    go_ret
    exact ⟨rfl, sl.unhide B26⟩

/-! ### the row's step (the guide's own frame) -/
set_option maxRecDepth 100000 in
theorem lifted (os : Os) (started : os.Started) (H : Type) (enc : TypeId × Value → H) :
    ReturnsInHanded {} Try.checked os 4 .any (Rows.fnExactPartSpec.pre6 enc Try.prog Try.f4 Rows.fnExactPartRow.domain false) (Rows.fnExactPartSpec.post enc Try.prog Try.f4 false true false false) := by
  refine returnsInHanded_of_change (C := Try.checked) own started (by kernel_rfl) Try.func4
    (ChangeSpec.witness6 (enc := enc) (C := Try.checked) false ⟨#[], #[.agg #[.int .i64 0, .slice none 0 0], .slice none 0 0], []⟩ 8 (by kernel_rfl) (by kernel_rfl) (by kernel_rfl) (by kernel_rfl)) ?_
  intro W base args ds gs before hval0 hW hcnd _
  have hval : ∀ (j : Nat) t v, Try.f4.params[j]? = some t → args[j]? = some v → Value.okWide Try.prog W .any base t v := hval0
  have hW' := hW
  obtain ⟨p, q, hA0, hV, rfl, hfz, hnd⟩ := hW
  have hA : DataW.TrodAll enc Try.prog W 0 (fun _ => true) true Try.f4.params.toList args.toList ds p := hA0
  rw [Try.params4] at hA hval
  obtain ⟨x0, vs0, d0, ds0, p0, q0, hargs, rfl, rfl, h0, r0⟩ := trodAll_cons hA
  obtain ⟨x1, vs1, d1, ds1, p1, q1, rfl, rfl, rfl, h1, r1⟩ := trodAll_cons r0
  obtain ⟨rfl, rfl, rfl⟩ := trodAll_nil r1
  obtain rfl : args = #[x0, x1] := by cases args; simp_all
  obtain ⟨rfl, rfl⟩ := trodVars_none hV
  obtain ⟨cs0, rfl, _⟩ := okWide_struct Try.underlying36 (hval 0 36 _ rfl rfl)
  have k0 := h0
  have lt0 : ∀ x ∈ p0, x.block < W.heap.size := by obtain ⟨m, hm⟩ := k0; exact DataW.trod_lt m _ _ _ hm
  obtain ⟨n0, v0, LL0, e0, f0, w0⟩ : ∃ n v LL, cs0 = #[.int .i64 n, v] ∧ (Lit.int .i64 n).wf = true ∧ row.IsRows W v LL := by
    obtain ⟨fuel, hf⟩ := h0
    obtain ⟨n, v, LL, e, hw, hv⟩ := row.open_cnf hf
    refine ⟨n, v, LL, ?_, hw, hv⟩
    cases cs0
    simpa [Value.cells] using e
  subst e0
  obtain ⟨a1, len1, cap1, rfl⟩ := okWide_slice Try.underlying33 (hval 1 33 _ rfl rfl)
  have k1 := h1
  have lt1 : ∀ x ∈ p1, x.block < W.heap.size := by obtain ⟨m, hm⟩ := k1; exact DataW.trod_lt m _ _ _ hm
  obtain ⟨z1, w1⟩ : ∃ zs, IsRow .i64 W a1 len1 cap1 zs := by
    obtain ⟨fuel, hf⟩ := h1
    rcases open_ints Try.underlying33 Try.underlying3 (by kernel_rfl) hf with ⟨hcs, _⟩ | ⟨x, l, c, zs, hcs, _, hl, hm, hz, _, hcell, hwz⟩
    · simp [Value.cells] at hcs
      obtain ⟨rfl, rfl, rfl⟩ := hcs
      exact ⟨[], .inl ⟨rfl, rfl, rfl, rfl⟩⟩
    · simp [Value.cells] at hcs
      obtain ⟨rfl, rfl, rfl⟩ := hcs
      exact ⟨zs, .inr ⟨_, rfl, hl, hm, by simpa using hz, hcell, hwz⟩⟩
  clear hA0 hval0
  refine (walk n0 v0 LL0 a1 len1 cap1 z1 W f0 w0 w1).mono fun e W' ⟨he, bel⟩ => ?_
  subst he
  exact ⟨_, rfl, _, _, _, [], _, [], hW', trodAll_mk1 (shut_bool Try.underlying4 _), (trodAll_cons_mk (Below.trod laidOut (by kernel_rfl) (of_decide_eq_true (by kernel_rfl)) k0 bel lt0) (trodAll_cons_mk (Below.trod laidOut (by kernel_rfl) (of_decide_eq_true (by kernel_rfl)) k1 bel lt1) trodAll_mk0)), rfl, bel.frame _, fun h => by cases h⟩

theorem over : Rows.fnExactPartRow.holds Try.pinned (OpenSpec.ofChange Rows.fnExactPartSpec) :=
  OpenClaim.holds_of_wide 4 Try.f4 rfl rfl rfl rfl rfl rfl rfl ⟨rfl, rfl, rfl, rfl, rfl⟩ rfl rfl rfl rfl rfl (by kernel_rfl) Try.func4 (by kernel_rfl)
    (of_decide_eq_true (by kernel_rfl)) (by unfold Func.isWrapper; first | (rw [if_pos (by decide +kernel)]; kernel_rfl) | (rw [if_neg (by decide +kernel)]; exact ⟨rfl, rfl⟩))
    (fun os started H enc _ => lifted os started H enc)

/-- the statement -/
theorem proved : Rows.FnExactPartSaid := over
#print axioms proved
end Go.Proofs.Ytgmbahbdepllnaa.fnExactPart
