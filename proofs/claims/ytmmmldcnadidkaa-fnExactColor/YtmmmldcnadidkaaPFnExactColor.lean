/- At every number, list of edges and number of colours impl.Color answers as spec.Color, writes into no argument, and its answer owns its memory (the law FnExactColor returns true); no condition. -/
import Derived.Test.YtmmmldcnadidkaaRows
import Derived.Test.YtmmmldcnadidkaaRow
import Derived.Test.YtmmmldcnadidkaaEi
import Derived.WalkKit
import Derived.ProofKit
import Derived.OpenShut
import Derived.ShutString
import Derived.ChangeOld
import Derived.Below
namespace Go.Proofs.Ytmmmldcnadidkaa.fnExactColor
open Go.ChangeShapes Go.WideShapes Go.ChangeAt Go.RowKit
open Go.ChangeMaps (open_string shut_string)
set_option linter.unusedVariables false

theorem own : ownKnob Try.prog.godebug = none := by kernel_rfl
theorem laidOut : laidOutB Try.prog = true := by kernel_rfl

/-! ### the walk -/
set_option maxRecDepth 100000 in
set_option maxHeartbeats 8000000 in
theorem walk (a0 : Int) (v1 : Value) (m1 : Nat) (e1 : Nat → Int) (a2 : Int) (w : World) (w0 : (Lit.int .i64 a0).wf = true) (w1 : ed.IsEds w v1 m1 e1) (w2 : (Lit.int .i64 a2).wf = true) :
    Calls Try.prog 3 #[.int .i64 a0, v1, .int .i64 a2] w fun e w' => e = .returned (.bool true) ∧ Below w.heap.size w w' := by
  obtain ⟨hS1, hl1, hk1⟩ := w1
  have S1 := sl.hide hS1
  clear hS1 hk1
  have S_ := Below.refl w.heap.size w
  clear S_
  have C0 := sl.hide (ed.szA2S v1 m1 e1 1048576 w (by decide) (by decide) hl1 (sl.unhide S1))
  obtain ⟨a1_, c1_, rfl⟩ := (sl.unhide S1).len
  obtain ⟨N, b, R, hR, cs, ci⟩ := t2.bothColor a0 a2 m1 e1 hl1
  have CS := sl.hide cs
  have CI := sl.hide ci
  clear cs ci hl1
  have hz2 : ¬ (1 : Int) + (css.sumLen R : Int) < 0 := by omega
  go_enter Try.func3, Try.ntmps3
  go_wp2_with fail
  refine (sl.unhide C0).mono ?_; rintro e w' ⟨r, rfl, hw, hr⟩; have hw' := hw.symm; clear hw; subst hw'
  clear C0
  rcases hr with rfl | ⟨hr0, hr1⟩
  · go_wp2_with fail
    go_ret
    exact ⟨rfl, Below.refl _ _⟩
  have hm1 : m1 ≤ 1048576 := by omega
  have hq1 : ¬ r < 0 := by omega
  clear hr0 hr1
  have hz1 : decide ((1 : Int) + 2 * (m1 : Int) < 0) = false := decide_eq_false (by omega)
  have B0 := sl.hide (Below.refl w.heap.size w)
  go_wp2_with fail
  refine (ed.toA2S _ m1 e1 _ hm1 ((sl.unhide S1).below (sl.unhide B0))).mono ?_; rintro e w1 ⟨u1, rfl, o1, g1⟩
  obtain ⟨a1_, c1_, rfl⟩ := o1.len
  have s1 := sl.hide (g1).size
  have B1 := sl.hide (sl.below_none (sl.unhide B0) (g1))
  have E1 := sl.hide o1
  clear o1 g1 B0
  go_wp2_with fail
  refine (sl.unhide CS _ _ (sl.unhide E1).eds).mono ?_; rintro e w2 ⟨u2, rfl, o2, g2⟩
  obtain ⟨a2_, c2_, rfl⟩ := o2.len
  have s2 := sl.hide (g2).size
  have B2 := sl.hide (sl.below_none (sl.unhide B1) (g2))
  have E2 := sl.hide ((sl.unhide E1).kept (g2))
  have UA2 := sl.hide o2
  clear o2 g2 B1 E1
  clear E2
  have s3 := sl.hide (World.grownBy_alloc w2 (.cells #[(.int .i64 N), (.slice a2_ R.length c2_)] 26) none).size
  have B3 := sl.hide (sl.below_none (sl.unhide B2) (World.grownBy_alloc w2 (.cells #[(.int .i64 N), (.slice a2_ R.length c2_)] 26) none))
  have UA3 := sl.hide ((sl.unhide UA2).kept (World.grownBy_alloc w2 (.cells #[(.int .i64 N), (.slice a2_ R.length c2_)] 26) none))
  have q3 : Hid ((w2.alloc (.cells #[(.int .i64 N), (.slice a2_ R.length c2_)] 26)).heap.size = w2.heap.size + 1) := World.size_alloc ..
  have U3 := sl.hide (cf.Box.new 26 w2 (.int .i64 N) (.slice a2_ R.length c2_))
  clear B2 UA2
  go_wp2_with fail
  refine (ed.toA2S _ m1 e1 _ hm1 ((sl.unhide S1).below (sl.unhide B3))).mono ?_; rintro e w4 ⟨u4, rfl, o4, g4⟩
  obtain ⟨a4_, c4_, rfl⟩ := o4.len
  have s4 := sl.hide (g4).size
  have B4 := sl.hide (sl.below_none (sl.unhide B3) (g4))
  have UA4 := sl.hide ((sl.unhide UA3).kept (g4))
  have U4 := sl.hide ((sl.unhide U3).kept (g4))
  have E4 := sl.hide o4
  clear o4 g4 B3 UA3 U3
  go_wp2_with fail
  refine (sl.unhide CI _ _ (sl.unhide E4).eds).mono ?_; rintro e w5 ⟨u5, rfl, o5, g5⟩
  obtain ⟨a5_, c5_, rfl⟩ := o5.len
  have s5 := sl.hide (g5).size
  have B5 := sl.hide (sl.below_none (sl.unhide B4) (g5))
  have UA5 := sl.hide ((sl.unhide UA4).kept (g5))
  have E5 := sl.hide ((sl.unhide E4).kept (g5))
  have U5 := sl.hide ((sl.unhide U4).kept (g5))
  have GA5 := sl.hide o5
  clear o5 g5 B4 UA4 E4 U4
  have pU0 := (sl.unhide U5).c0
  have pU1 := (sl.unhide U5).c1
  have pUl := (sl.unhide U5).lt
  have s6 := sl.hide (World.grownBy_alloc w5 (.cells #[(.int .i64 N), (.slice a5_ R.length c5_)] 26) none).size
  have B6 := sl.hide (sl.below_none (sl.unhide B5) (World.grownBy_alloc w5 (.cells #[(.int .i64 N), (.slice a5_ R.length c5_)] 26) none))
  have UA6 := sl.hide ((sl.unhide UA5).kept (World.grownBy_alloc w5 (.cells #[(.int .i64 N), (.slice a5_ R.length c5_)] 26) none))
  have E6 := sl.hide ((sl.unhide E5).kept (World.grownBy_alloc w5 (.cells #[(.int .i64 N), (.slice a5_ R.length c5_)] 26) none))
  have GA6 := sl.hide ((sl.unhide GA5).kept (World.grownBy_alloc w5 (.cells #[(.int .i64 N), (.slice a5_ R.length c5_)] 26) none))
  have U6 := sl.hide ((sl.unhide U5).kept (World.grownBy_alloc w5 (.cells #[(.int .i64 N), (.slice a5_ R.length c5_)] 26) none))
  have q6 : Hid ((w5.alloc (.cells #[(.int .i64 N), (.slice a5_ R.length c5_)] 26)).heap.size = w5.heap.size + 1) := World.size_alloc ..
  have G6 := sl.hide (cf.Box.new 26 w5 (.int .i64 N) (.slice a5_ R.length c5_))
  clear B5 UA5 E5 GA5 U5
  have zU0 := (sl.unhide U6).c0
  have zU1 := (sl.unhide U6).c1
  have zG0 := (sl.unhide G6).c0
  have zG1 := (sl.unhide G6).c1
  go_wp2_with fail
  refine (cf.eqCnf _ _ N R _ hR (sl.unhide GA6).sls (sl.unhide UA6).sls).mono ?_; rintro e w7 ⟨rfl, g7⟩
  clear pU0 pU1 pUl zU0 zU1 zG0 zG1
  have s7 := sl.hide (g7).size
  have B7 := sl.hide (sl.below_none (sl.unhide B6) (g7))
  have UA7 := sl.hide ((sl.unhide UA6).kept (g7))
  have E7 := sl.hide ((sl.unhide E6).kept (g7))
  have GA7 := sl.hide ((sl.unhide GA6).kept (g7))
  have U7 := sl.hide ((sl.unhide U6).kept (g7))
  have G7 := sl.hide ((sl.unhide G6).kept (g7))
  clear g7 B6 UA6 E6 GA6 U6 G6
  go_wp2_with fail
  refine (ed.toA2S _ m1 e1 _ hm1 ((sl.unhide S1).below (sl.unhide B7))).mono ?_; rintro e w8 ⟨u8, rfl, o8, g8⟩
  obtain ⟨a8_, c8_, rfl⟩ := o8.len
  have s8 := sl.hide (g8).size
  have B8 := sl.hide (sl.below_none (sl.unhide B7) (g8))
  have UA8 := sl.hide ((sl.unhide UA7).kept (g8))
  have E8 := sl.hide ((sl.unhide E7).kept (g8))
  have GA8 := sl.hide ((sl.unhide GA7).kept (g8))
  have U8 := sl.hide ((sl.unhide U7).kept (g8))
  have G8 := sl.hide ((sl.unhide G7).kept (g8))
  have K8 := sl.hide o8
  clear o8 g8 B7 UA7 E7 GA7 U7 G7
  go_wp2_with fail
  refine (ed.eqA2S _ _ m1 e1 _ hm1 (sl.unhide E8).eds (sl.unhide K8).eds).mono ?_; rintro e w9 ⟨rfl, g9⟩
  have s9 := sl.hide (g9).size
  have B9 := sl.hide (sl.below_none (sl.unhide B8) (g9))
  have UA9 := sl.hide ((sl.unhide UA8).kept (g9))
  have E9 := sl.hide ((sl.unhide E8).kept (g9))
  have GA9 := sl.hide ((sl.unhide GA8).kept (g9))
  have K9 := sl.hide ((sl.unhide K8).kept (g9))
  have U9 := sl.hide ((sl.unhide U8).kept (g9))
  have G9 := sl.hide ((sl.unhide G8).kept (g9))
  clear g9 B8 UA8 E8 GA8 K8 U8 G8
  clear K9
  go_wp2_with fail
  refine (ed.markA2S _ m1 e1 1 _ _ _ hm1 (by omega) (by omega) (sl.unhide E9)).mono ?_; rintro e w10 ⟨rfl, g10⟩
  have s10 := sl.hide g10.size
  have B10 := sl.hide (css.below_outs (sl.unhide B9) (by have s1_ := sl.unhide s1; have s2_ := sl.unhide s2; have s3_ := sl.unhide s3; have q3_ := sl.unhide q3; have s4_ := sl.unhide s4; have s5_ := sl.unhide s5; have s6_ := sl.unhide s6; have q6_ := sl.unhide q6; have s7_ := sl.unhide s7; have s8_ := sl.unhide s8; have s9_ := sl.unhide s9; have s10_ := sl.unhide s10; omega) g10)
  have UA10 := sl.hide (css.OwnS.outs (sl.unhide UA9) g10 (by have s1_ := sl.unhide s1; have s2_ := sl.unhide s2; have s3_ := sl.unhide s3; have q3_ := sl.unhide q3; have s4_ := sl.unhide s4; have s5_ := sl.unhide s5; have s6_ := sl.unhide s6; have q6_ := sl.unhide q6; have s7_ := sl.unhide s7; have s8_ := sl.unhide s8; have s9_ := sl.unhide s9; have s10_ := sl.unhide s10; omega))
  have GA10 := sl.hide (css.OwnS.outs (sl.unhide GA9) g10 (by have s1_ := sl.unhide s1; have s2_ := sl.unhide s2; have s3_ := sl.unhide s3; have q3_ := sl.unhide q3; have s4_ := sl.unhide s4; have s5_ := sl.unhide s5; have s6_ := sl.unhide s6; have q6_ := sl.unhide q6; have s7_ := sl.unhide s7; have s8_ := sl.unhide s8; have s9_ := sl.unhide s9; have s10_ := sl.unhide s10; omega))
  have U10 := sl.hide ((sl.unhide U9).outs g10 (by have s1_ := sl.unhide s1; have s2_ := sl.unhide s2; have s3_ := sl.unhide s3; have q3_ := sl.unhide q3; have s4_ := sl.unhide s4; have s5_ := sl.unhide s5; have s6_ := sl.unhide s6; have q6_ := sl.unhide q6; have s7_ := sl.unhide s7; have s8_ := sl.unhide s8; have s9_ := sl.unhide s9; have s10_ := sl.unhide s10; omega))
  have G10 := sl.hide ((sl.unhide G9).outs g10 (by have s1_ := sl.unhide s1; have s2_ := sl.unhide s2; have s3_ := sl.unhide s3; have q3_ := sl.unhide q3; have s4_ := sl.unhide s4; have s5_ := sl.unhide s5; have s6_ := sl.unhide s6; have q6_ := sl.unhide q6; have s7_ := sl.unhide s7; have s8_ := sl.unhide s8; have s9_ := sl.unhide s9; have s10_ := sl.unhide s10; omega))
  clear g10 E9 B9 UA9 GA9 U9 G9
  have zU0 := (sl.unhide U10).c0
  have zU1 := (sl.unhide U10).c1
  have zG0 := (sl.unhide G10).c0
  have zG1 := (sl.unhide G10).c1
  go_wp2_with fail
  refine (cf.eqCnf _ _ N R _ hR (sl.unhide GA10).sls (sl.unhide UA10).sls).mono ?_; rintro e w11 ⟨rfl, g11⟩
  clear zU0 zU1 zG0 zG1
  have s11 := sl.hide (g11).size
  have B11 := sl.hide (sl.below_none (sl.unhide B10) (g11))
  have UA11 := sl.hide ((sl.unhide UA10).kept (g11))
  have GA11 := sl.hide ((sl.unhide GA10).kept (g11))
  have U11 := sl.hide ((sl.unhide U10).kept (g11))
  have G11 := sl.hide ((sl.unhide G10).kept (g11))
  clear g11 B10 UA10 GA10 U10 G10
  have zG0 := (sl.unhide G11).c0
  have zG1 := (sl.unhide G11).c1
  go_wp2_with fail
  refine (cf.markCnf _ N R 1 _ _ _ hR (by omega) (by omega) (sl.unhide GA11)).mono ?_; rintro e w12 ⟨rfl, o12, g12⟩
  clear zG0 zG1
  have s12 := sl.hide g12.size
  have B12 := sl.hide (css.below_outs (sl.unhide B11) (by have s1_ := sl.unhide s1; have s2_ := sl.unhide s2; have s3_ := sl.unhide s3; have q3_ := sl.unhide q3; have s4_ := sl.unhide s4; have s5_ := sl.unhide s5; have s6_ := sl.unhide s6; have q6_ := sl.unhide q6; have s7_ := sl.unhide s7; have s8_ := sl.unhide s8; have s9_ := sl.unhide s9; have s10_ := sl.unhide s10; have s11_ := sl.unhide s11; have s12_ := sl.unhide s12; omega) g12)
  have UA12 := sl.hide (css.OwnS.outs (sl.unhide UA11) g12 (by have s1_ := sl.unhide s1; have s2_ := sl.unhide s2; have s3_ := sl.unhide s3; have q3_ := sl.unhide q3; have s4_ := sl.unhide s4; have s5_ := sl.unhide s5; have s6_ := sl.unhide s6; have q6_ := sl.unhide q6; have s7_ := sl.unhide s7; have s8_ := sl.unhide s8; have s9_ := sl.unhide s9; have s10_ := sl.unhide s10; have s11_ := sl.unhide s11; have s12_ := sl.unhide s12; omega))
  have U12 := sl.hide ((sl.unhide U11).outs g12 (by have s1_ := sl.unhide s1; have s2_ := sl.unhide s2; have s3_ := sl.unhide s3; have q3_ := sl.unhide q3; have s4_ := sl.unhide s4; have s5_ := sl.unhide s5; have s6_ := sl.unhide s6; have q6_ := sl.unhide q6; have s7_ := sl.unhide s7; have s8_ := sl.unhide s8; have s9_ := sl.unhide s9; have s10_ := sl.unhide s10; have s11_ := sl.unhide s11; have s12_ := sl.unhide s12; omega))
  have G12 := sl.hide ((sl.unhide G11).outs g12 (by have s1_ := sl.unhide s1; have s2_ := sl.unhide s2; have s3_ := sl.unhide s3; have q3_ := sl.unhide q3; have s4_ := sl.unhide s4; have s5_ := sl.unhide s5; have s6_ := sl.unhide s6; have q6_ := sl.unhide q6; have s7_ := sl.unhide s7; have s8_ := sl.unhide s8; have s9_ := sl.unhide s9; have s10_ := sl.unhide s10; have s11_ := sl.unhide s11; have s12_ := sl.unhide s12; omega))
  have GA12 := sl.hide o12
  clear o12 g12 GA11 B11 UA11 U11 G11
  have zG0 := (sl.unhide G12).c0
  have zG1 := (sl.unhide G12).c1
  go_wp2_with fail
  refine (cf.heldCnf _ N R 1 _ hR (by decide) (by decide) (sl.unhide GA12).sls).mono ?_; rintro e w13 ⟨rfl, g13⟩
  clear zG0 zG1
  have s13 := sl.hide (g13).size
  have B13 := sl.hide (sl.below_none (sl.unhide B12) (g13))
  have UA13 := sl.hide ((sl.unhide UA12).kept (g13))
  have GA13 := sl.hide ((sl.unhide GA12).kept (g13))
  have U13 := sl.hide ((sl.unhide U12).kept (g13))
  have G13 := sl.hide ((sl.unhide G12).kept (g13))
  clear g13 B12 UA12 GA12 U12 G12
  go_wp2_with fail
  refine (ed.toA2S _ m1 e1 _ hm1 ((sl.unhide S1).below (sl.unhide B13))).mono ?_; rintro e w14 ⟨u14, rfl, o14, g14⟩
  obtain ⟨a14_, c14_, rfl⟩ := o14.len
  have s14 := sl.hide (g14).size
  have B14 := sl.hide (sl.below_none (sl.unhide B13) (g14))
  have UA14 := sl.hide ((sl.unhide UA13).kept (g14))
  have GA14 := sl.hide ((sl.unhide GA13).kept (g14))
  have U14 := sl.hide ((sl.unhide U13).kept (g14))
  have G14 := sl.hide ((sl.unhide G13).kept (g14))
  have E14 := sl.hide o14
  clear o14 g14 B13 UA13 GA13 U13 G13
  go_wp2_with fail
  refine (sl.unhide CI _ _ (sl.unhide E14).eds).mono ?_; rintro e w15 ⟨u15, rfl, o15, g15⟩
  obtain ⟨a15_, c15_, rfl⟩ := o15.len
  have s15 := sl.hide (g15).size
  have B15 := sl.hide (sl.below_none (sl.unhide B14) (g15))
  have UA15 := sl.hide ((sl.unhide UA14).kept (g15))
  have GA15 := sl.hide ((sl.unhide GA14).kept (g15))
  have E15 := sl.hide ((sl.unhide E14).kept (g15))
  have U15 := sl.hide ((sl.unhide U14).kept (g15))
  have G15 := sl.hide ((sl.unhide G14).kept (g15))
  have HA15 := sl.hide o15
  clear o15 g15 B14 UA14 GA14 E14 U14 G14
  clear E15
  have pU0 := (sl.unhide U15).c0
  have pU1 := (sl.unhide U15).c1
  have pUl := (sl.unhide U15).lt
  have s16 := sl.hide (World.grownBy_alloc w15 (.cells #[(.int .i64 N), (.slice a15_ R.length c15_)] 26) none).size
  have B16 := sl.hide (sl.below_none (sl.unhide B15) (World.grownBy_alloc w15 (.cells #[(.int .i64 N), (.slice a15_ R.length c15_)] 26) none))
  have UA16 := sl.hide ((sl.unhide UA15).kept (World.grownBy_alloc w15 (.cells #[(.int .i64 N), (.slice a15_ R.length c15_)] 26) none))
  have GA16 := sl.hide ((sl.unhide GA15).kept (World.grownBy_alloc w15 (.cells #[(.int .i64 N), (.slice a15_ R.length c15_)] 26) none))
  have HA16 := sl.hide ((sl.unhide HA15).kept (World.grownBy_alloc w15 (.cells #[(.int .i64 N), (.slice a15_ R.length c15_)] 26) none))
  have U16 := sl.hide ((sl.unhide U15).kept (World.grownBy_alloc w15 (.cells #[(.int .i64 N), (.slice a15_ R.length c15_)] 26) none))
  have G16 := sl.hide ((sl.unhide G15).kept (World.grownBy_alloc w15 (.cells #[(.int .i64 N), (.slice a15_ R.length c15_)] 26) none))
  have q16 : Hid ((w15.alloc (.cells #[(.int .i64 N), (.slice a15_ R.length c15_)] 26)).heap.size = w15.heap.size + 1) := World.size_alloc ..
  have H16 := sl.hide (cf.Box.new 26 w15 (.int .i64 N) (.slice a15_ R.length c15_))
  clear B15 UA15 GA15 HA15 U15 G15
  have zU0 := (sl.unhide U16).c0
  have zU1 := (sl.unhide U16).c1
  have zH0 := (sl.unhide H16).c0
  have zH1 := (sl.unhide H16).c1
  go_wp2_with fail
  refine (cf.eqCnf _ _ N R _ hR (sl.unhide HA16).sls (sl.unhide UA16).sls).mono ?_; rintro e w17 ⟨rfl, g17⟩
  clear pU0 pU1 pUl zU0 zU1 zH0 zH1
  have s17 := sl.hide (g17).size
  have B17 := sl.hide (sl.below_none (sl.unhide B16) (g17))
  have UA17 := sl.hide ((sl.unhide UA16).kept (g17))
  have GA17 := sl.hide ((sl.unhide GA16).kept (g17))
  have HA17 := sl.hide ((sl.unhide HA16).kept (g17))
  have U17 := sl.hide ((sl.unhide U16).kept (g17))
  have G17 := sl.hide ((sl.unhide G16).kept (g17))
  have H17 := sl.hide ((sl.unhide H16).kept (g17))
  clear g17 B16 UA16 GA16 HA16 U16 G16 H16
  have zG0 := (sl.unhide G17).c0
  have zG1 := (sl.unhide G17).c1
  go_wp2_with fail
  refine (cf.heldCnf _ N R 1 _ hR (by decide) (by decide) (sl.unhide GA17).sls).mono ?_; rintro e w18 ⟨rfl, g18⟩
  clear zG0 zG1
  have s18 := sl.hide (g18).size
  have B18 := sl.hide (sl.below_none (sl.unhide B17) (g18))
  have UA18 := sl.hide ((sl.unhide UA17).kept (g18))
  have GA18 := sl.hide ((sl.unhide GA17).kept (g18))
  have HA18 := sl.hide ((sl.unhide HA17).kept (g18))
  have U18 := sl.hide ((sl.unhide U17).kept (g18))
  have G18 := sl.hide ((sl.unhide G17).kept (g18))
  have H18 := sl.hide ((sl.unhide H17).kept (g18))
  clear g18 B17 UA17 GA17 HA17 U17 G17 H17
  go_wp2_with fail
  go_ret
  exact ⟨rfl, sl.unhide B18⟩

/-! ### the row's step (the guide's own frame) -/
set_option maxRecDepth 100000 in
theorem lifted (os : Os) (started : os.Started) (H : Type) (enc : TypeId × Value → H) :
    ReturnsInHanded {} Try.checked os 3 .any (Rows.fnExactColorSpec.pre6 enc Try.prog Try.f3 Rows.fnExactColorRow.domain false) (Rows.fnExactColorSpec.post enc Try.prog Try.f3 false true false false) := by
  refine returnsInHanded_of_change (C := Try.checked) own started (by kernel_rfl) Try.func3
    (ChangeSpec.witness6 (enc := enc) (C := Try.checked) false ⟨#[], #[.int .i64 0, .slice none 0 0, .int .i64 0], []⟩ 8 (by kernel_rfl) (by kernel_rfl) (by kernel_rfl) (by kernel_rfl)) ?_
  intro W base args ds gs before hval0 hW hcnd _
  have hval : ∀ (j : Nat) t v, Try.f3.params[j]? = some t → args[j]? = some v → Value.okWide Try.prog W .any base t v := hval0
  have hW' := hW
  obtain ⟨p, q, hA0, hV, rfl, hfz, hnd⟩ := hW
  have hA : DataW.TrodAll enc Try.prog W 0 (fun _ => true) true Try.f3.params.toList args.toList ds p := hA0
  rw [Try.params3] at hA hval
  obtain ⟨x0, vs0, d0, ds0, p0, q0, hargs, rfl, rfl, h0, r0⟩ := trodAll_cons hA
  obtain ⟨x1, vs1, d1, ds1, p1, q1, rfl, rfl, rfl, h1, r1⟩ := trodAll_cons r0
  obtain ⟨x2, vs2, d2, ds2, p2, q2, rfl, rfl, rfl, h2, r2⟩ := trodAll_cons r1
  obtain ⟨rfl, rfl, rfl⟩ := trodAll_nil r2
  obtain rfl : args = #[x0, x1, x2] := by cases args; simp_all
  obtain ⟨rfl, rfl⟩ := trodVars_none hV
  have k0 := h0
  have lt0 : ∀ x ∈ p0, x.block < W.heap.size := by obtain ⟨m, hm⟩ := k0; exact DataW.trod_lt m _ _ _ hm
  obtain ⟨a0, rfl, rfl, rfl, w0⟩ := open_int Try.underlying3 (hval 0 3 _ rfl rfl) h0
  obtain ⟨sa1, slen1, scap1, rfl⟩ := okWide_slice Try.underlying22 (hval 1 22 _ rfl rfl)
  have k1 := h1
  have lt1 : ∀ x ∈ p1, x.block < W.heap.size := by obtain ⟨m, hm⟩ := k1; exact DataW.trod_lt m _ _ _ hm
  obtain ⟨v1, m1, fe1, e1, w1⟩ : ∃ v m f, Value.slice sa1 slen1 scap1 = v ∧ ed.IsEds W v m f := by
    obtain ⟨fuel, hf⟩ := h1
    obtain ⟨v, m, f, e, hv⟩ := ed.open_eds hf
    exact ⟨v, m, f, by simpa [Value.cells] using e, hv⟩
  subst e1
  have k2 := h2
  have lt2 : ∀ x ∈ p2, x.block < W.heap.size := by obtain ⟨m, hm⟩ := k2; exact DataW.trod_lt m _ _ _ hm
  obtain ⟨a2, rfl, rfl, rfl, w2⟩ := open_int Try.underlying3 (hval 2 3 _ rfl rfl) h2
  clear hA0 hval0
  refine (walk a0 (.slice sa1 slen1 scap1) m1 fe1 a2 W w0 w1 w2).mono fun e W' ⟨he, bel⟩ => ?_
  subst he
  exact ⟨_, rfl, _, _, _, [], _, [], hW', trodAll_mk1 (shut_bool Try.underlying4 _), (trodAll_cons_mk (Below.trod laidOut (by kernel_rfl) (of_decide_eq_true (by kernel_rfl)) k0 bel lt0) (trodAll_cons_mk (Below.trod laidOut (by kernel_rfl) (of_decide_eq_true (by kernel_rfl)) k1 bel lt1) (trodAll_cons_mk (Below.trod laidOut (by kernel_rfl) (of_decide_eq_true (by kernel_rfl)) k2 bel lt2) trodAll_mk0))), rfl, bel.frame _, fun h => by cases h⟩

theorem over : Rows.fnExactColorRow.holds Try.pinned (OpenSpec.ofChange Rows.fnExactColorSpec) :=
  OpenClaim.holds_of_wide 3 Try.f3 rfl rfl rfl rfl rfl rfl rfl ⟨rfl, rfl, rfl, rfl, rfl⟩ rfl rfl rfl rfl rfl (by kernel_rfl) Try.func3 (by kernel_rfl)
    (of_decide_eq_true (by kernel_rfl)) (by unfold Func.isWrapper; first | (rw [if_pos (by decide +kernel)]; kernel_rfl) | (rw [if_neg (by decide +kernel)]; exact ⟨rfl, rfl⟩))
    (fun os started H enc _ => lifted os started H enc)

/-- the statement -/
theorem proved : Rows.FnExactColorSaid := over
#print axioms proved
end Go.Proofs.Ytmmmldcnadidkaa.fnExactColor
