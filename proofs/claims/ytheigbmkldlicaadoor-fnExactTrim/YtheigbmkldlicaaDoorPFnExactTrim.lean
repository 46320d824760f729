/- At every formula and every list of lists of numbers impl.Trim answers as spec.Trim, writes nothing into its arguments and its answer owns its memory (the law FnExactTrim returns true); the library's table of places lies as its text lays it (tied). -/
import Derived.Test.YtheigbmkldlicaaDoorCards
import Derived.Test.YtheigbmkldlicaaDoorTie
import Derived.Test.YtheigbmkldlicaaDoorRow
import Derived.Test.YtheigbmkldlicaaDoorJTrm
import Derived.WalkKit
import Derived.ProofKit
import Derived.OpenShut
import Derived.ShutString
import Derived.ChangeOld
import Derived.Below
import Derived.Deep.DeepHandedRow
import Derived.Lib.LaidTab
import Derived.Lib.TrailingZeros
import Derived.Stop.LaidErr
import Derived.LaidHandle
import Derived.LaidSub
namespace Go.Proofs.YtheigbmkldlicaaDoor.fnExactTrim
open Go.ChangeShapes Go.WideShapes Go.ChangeAt Go.RowKit
open Go.ChangeMaps (open_string shut_string)
set_option linter.unusedVariables false

theorem own : ownKnob Tryd.prog.godebug = none := by kernel_rfl
theorem laidOut : laidOutB Tryd.prog = true := by kernel_rfl

theorem gTab : Tryd.prog.globalNamed "math/bits.deBruijn64tab" = some 1 := by kernel_rfl
theorem gTabType : (Tryd.prog.globals[1]?).map (·.type) = some 190 := by kernel_rfl
theorem cellsTab : Tryd.prog.cellsOf 190 = 64 := by kernel_rfl
theorem cellsByte : Tryd.prog.cellsOf 5 = 1 := by kernel_rfl
/-- what the row's list gives: the table's cells hold its numbers -/
theorem table {W : World} (h : laidMetH Tryd.prog Rows.fnExactTrimRow.laid W) : srt.Tab W := by
  have t : Lib.TabIs Tryd.prog W "math/bits.deBruijn64tab" .u8 (Lib.deBruijn64tab.map fun (n : Nat) => (n : Int)) :=
    Lib.tabIs_of_head (rest := []) gTab gTabType Tryd.underlying190 Tryd.underlying5 cellsByte cellsTab h
  intro j hj
  have c := t.cell gTab j (by rw [List.length_map]; exact hj)
  rw [c]
  congr 2
  rw [List.getD, List.getD, List.getElem?_map]
  cases Lib.deBruijn64tab[j]? <;> rfl

/-! ### the walk -/
set_option maxRecDepth 100000 in
set_option maxHeartbeats 8000000 in
theorem walk (n0 : Int) (v0 : Value) (LL0 : List (List Int)) (v1 : Value) (LL1 : List (List Int)) (w : World) (f0 : (Lit.int .i64 n0).wf = true) (w0 : row.IsRows w v0 LL0) (w1 : row.IsRows w v1 LL1) (hT : srt.Tab w) :
    Calls Tryd.prog 8 #[.agg #[.int .i64 n0, v0], v1] w fun e w' => e = .returned (.bool true) ∧ Below w.heap.size w w' := by
  have TT := sl.hide hT
  clear hT
  obtain ⟨hS0, hl0, hk0⟩ := w0
  obtain ⟨hS1, hl1, hk1⟩ := w1
  have S_ := trivial
  have s1 := sl.hide (World.grownBy_alloc w (.cells #[(.int .i64 n0), v0] 47) none).size
  have B1 := sl.hide (sl.below_of (World.grownBy_alloc w (.cells #[(.int .i64 n0), v0] 47) none))
  have q1 : Hid ((w.alloc (.cells #[(.int .i64 n0), v0] 47)).heap.size = w.heap.size + 1) := World.size_alloc ..
  have F0_1 := sl.hide (cf.Box.new 47 w (.int .i64 n0) v0)
  have S0 := sl.hide hS0
  have S1 := sl.hide hS1
  clear hS0
  clear hS1
  go_enter Tryd.func8, Tryd.ntmps8
  have zF0_0 := (sl.unhide F0_1).c0
  have zF0_1 := (sl.unhide F0_1).c1
  go_wp2_with fail
  refine (cf.szCnf v0 n0 LL0 1048576 _ (by decide) (by decide) hl0 hk0 ((sl.unhide S0).below (sl.unhide B1))).mono ?_; rintro e w2 ⟨r0, rfl, g2, hr⟩
  clear zF0_0 zF0_1
  have s2 := sl.hide (g2).size
  have B2 := sl.hide (sl.below_none (sl.unhide B1) (g2))
  have F0_2 := sl.hide ((sl.unhide F0_1).kept (g2))
  clear g2 B1 F0_1
  rcases hr with rfl | ⟨hr0, hr1⟩
  · go_wp2_with fail
    go_ret
    exact ⟨rfl, sl.unhide B2⟩
  have hn0 : css.tot LL0 ≤ 1048576 := by omega
  have hq0 : ¬ r0 < 0 := by omega
  have hb0 : 0 ≤ r0 ∧ r0 ≤ 1048576 := by omega
  have ht0 := sl.hide hr1
  clear hr0 hr1
  go_wp2_with fail
  refine (css.szIntSS v1 LL1 r0 _ (by omega) (by omega) hl1 hk1 ((sl.unhide S1).below (sl.unhide B2))).mono ?_; rintro e w' ⟨r1, rfl, hw, hr⟩; have hw' := hw.symm; clear hw; subst hw'
  rcases hr with rfl | ⟨hr0, hr1⟩
  · go_wp2_with fail
    go_ret
    exact ⟨rfl, sl.unhide B2⟩
  have hn1 : css.tot LL1 ≤ 1048576 := by omega
  have hq1 : ¬ r1 < 0 := by omega
  have hb1 : 0 ≤ r1 ∧ r1 ≤ 1048576 := by omega
  have hl1_ : LL1.length ≤ 1048576 := Nat.le_trans (css.tot_len LL1) hn1
  have hin1 : Hid (∀ i, (LL1.getD i []).length ≤ 1048576) := fun i => Nat.le_trans (css.tot_in LL1 i) hn1
  have ht1 := sl.hide hr1
  clear hr0 hr1
  obtain ⟨R, b, hR, cs, ci⟩ := xt.bothT n0 LL0 LL1 hn0 hn1
  have CS := sl.hide cs
  have CI := sl.hide ci
  clear cs ci
  have hl : R.length ≤ 1048576 := Nat.le_trans (css.tot_len R) hR
  have hin : Hid (∀ i, (R.getD i []).length ≤ 1048576) := fun i => Nat.le_trans (css.tot_in R i) hR
  have hz1 : decide ((1 : Int) + (css.sumLen LL0 : Int) + (css.sumLen LL1 : Int) < 0) = false := decide_eq_false (by omega)
  have hsl : css.sumLen LL0 ≤ 1048576 := Nat.le_trans (css.sumLen_le LL0) hn0
  have hz2 : ¬ (1 : Int) + (css.sumLen R : Int) < 0 := by omega
  have zF0_0 := (sl.unhide F0_2).c0
  have zF0_1 := (sl.unhide F0_2).c1
  go_wp2_with fail
  refine (cf.toCnf v0 n0 LL0 _ hn0 ((sl.unhide S0).below (sl.unhide B2))).mono ?_; rintro e w3 ⟨u3, rfl, o3, g3⟩
  clear zF0_0 zF0_1
  obtain ⟨a3_, c3_, rfl⟩ := o3.len
  have s3 := sl.hide (g3).size
  have B3 := sl.hide (sl.below_none (sl.unhide B2) (g3))
  have F0_3 := sl.hide ((sl.unhide F0_2).kept (g3))
  have P3 := sl.hide o3
  clear o3 g3 B2 F0_2
  go_wp2_with fail
  refine (css.toIntSS v1 LL1 _ hl1_ (sl.unhide hin1) ((sl.unhide S1).below (sl.unhide B3))).mono ?_; rintro e w4 ⟨u4, rfl, o4, g4⟩
  obtain ⟨a4_, c4_, rfl⟩ := o4.len
  have s4 := sl.hide (g4).size
  have B4 := sl.hide (sl.below_none (sl.unhide B3) (g4))
  have P4 := sl.hide ((sl.unhide P3).kept (g4))
  have F0_4 := sl.hide ((sl.unhide F0_3).kept (g4))
  have Q4 := sl.hide o4
  clear o4 g4 B3 P3 F0_3
  go_wp2_with fail
  refine (sl.unhide CS _ _ _ _ _ _ _ (sl.unhide P4) (by have s1_ := sl.unhide s1; have q1_ := sl.unhide q1; have s2_ := sl.unhide s2; have s3_ := sl.unhide s3; have s4_ := sl.unhide s4; omega) (sl.unhide Q4)).mono ?_; rintro e w5 ⟨u5, rfl, o5, g5⟩
  obtain ⟨a5_, c5_, rfl⟩ := o5.len
  have s5 := sl.hide (g5).size
  have B5 := sl.hide (sl.below_none (sl.unhide B4) (g5))
  have P5 := sl.hide ((sl.unhide P4).kept (g5))
  have Q5 := sl.hide ((sl.unhide Q4).kept (g5))
  have F0_5 := sl.hide ((sl.unhide F0_4).kept (g5))
  have KW5 := sl.hide o5
  clear o5 g5 B4 P4 Q4 F0_4
  clear P5 Q5
  have zF0_0 := (sl.unhide F0_5).c0
  have zF0_1 := (sl.unhide F0_5).c1
  go_wp2_with fail
  refine (cf.toCnf v0 n0 LL0 _ hn0 ((sl.unhide S0).below (sl.unhide B5))).mono ?_; rintro e w6 ⟨u6, rfl, o6, g6⟩
  clear zF0_0 zF0_1
  obtain ⟨a6_, c6_, rfl⟩ := o6.len
  have s6 := sl.hide (g6).size
  have B6 := sl.hide (sl.below_none (sl.unhide B5) (g6))
  have KW6 := sl.hide ((sl.unhide KW5).kept (g6))
  have F0_6 := sl.hide ((sl.unhide F0_5).kept (g6))
  have X6 := sl.hide o6
  clear o6 g6 B5 KW5 F0_5
  have s7 := sl.hide (World.grownBy_alloc w6 (.cells #[(.int .i64 n0), (.slice a6_ LL0.length c6_)] 26) none).size
  have B7 := sl.hide (sl.below_none (sl.unhide B6) (World.grownBy_alloc w6 (.cells #[(.int .i64 n0), (.slice a6_ LL0.length c6_)] 26) none))
  have KW7 := sl.hide ((sl.unhide KW6).kept (World.grownBy_alloc w6 (.cells #[(.int .i64 n0), (.slice a6_ LL0.length c6_)] 26) none))
  have X7 := sl.hide ((sl.unhide X6).kept (World.grownBy_alloc w6 (.cells #[(.int .i64 n0), (.slice a6_ LL0.length c6_)] 26) none))
  have F0_7 := sl.hide ((sl.unhide F0_6).kept (World.grownBy_alloc w6 (.cells #[(.int .i64 n0), (.slice a6_ LL0.length c6_)] 26) none))
  have q7 : Hid ((w6.alloc (.cells #[(.int .i64 n0), (.slice a6_ LL0.length c6_)] 26)).heap.size = w6.heap.size + 1) := World.size_alloc ..
  have V7 := sl.hide (cf.Box.new 26 w6 (.int .i64 n0) (.slice a6_ LL0.length c6_))
  clear B6 KW6 X6 F0_6
  go_wp2_with fail
  refine (css.toIntSS v1 LL1 _ hl1_ (sl.unhide hin1) ((sl.unhide S1).below (sl.unhide B7))).mono ?_; rintro e w8 ⟨u8, rfl, o8, g8⟩
  simp only [World.size_alloc] at o8
  obtain ⟨a8_, c8_, rfl⟩ := o8.len
  have s8 := sl.hide (g8).size
  have B8 := sl.hide (sl.below_none (sl.unhide B7) (g8))
  have KW8 := sl.hide ((sl.unhide KW7).kept (g8))
  have X8 := sl.hide ((sl.unhide X7).kept (g8))
  have F0_8 := sl.hide ((sl.unhide F0_7).kept (g8))
  have V8 := sl.hide ((sl.unhide V7).kept (g8))
  have J8 := sl.hide o8
  clear o8 g8 B7 KW7 X7 F0_7 V7
  have zV0 := (sl.unhide V8).c0
  have zV1 := (sl.unhide V8).c1
  go_wp2_with fail
  refine (sl.unhide CI _ _ _ _ _ ((sl.unhide TT).below (sl.unhide B8)) (sl.unhide X8).sls (sl.unhide J8)).mono ?_; rintro e w9 ⟨u9, rfl, o9, g9⟩
  clear zV0 zV1
  obtain ⟨a9_, c9_, rfl⟩ := o9.len
  have s9 := sl.hide (g9).size
  have B9 := sl.hide (sl.below_none (sl.unhide B8) (g9))
  have KW9 := sl.hide ((sl.unhide KW8).kept (g9))
  have X9 := sl.hide ((sl.unhide X8).kept (g9))
  have J9 := sl.hide ((sl.unhide J8).kept (g9))
  have F0_9 := sl.hide ((sl.unhide F0_8).kept (g9))
  have V9 := sl.hide ((sl.unhide V8).kept (g9))
  have KG9 := sl.hide o9
  clear o9 g9 B8 KW8 X8 J8 F0_8 V8
  go_wp2_with fail
  refine (css.eqIntSS _ _ R _ hl (sl.unhide hin) (sl.unhide KG9).sls (sl.unhide KW9).sls).mono ?_; rintro e w10 ⟨rfl, g10⟩
  have s10 := sl.hide (g10).size
  have B10 := sl.hide (sl.below_none (sl.unhide B9) (g10))
  have KW10 := sl.hide ((sl.unhide KW9).kept (g10))
  have X10 := sl.hide ((sl.unhide X9).kept (g10))
  have J10 := sl.hide ((sl.unhide J9).kept (g10))
  have KG10 := sl.hide ((sl.unhide KG9).kept (g10))
  have F0_10 := sl.hide ((sl.unhide F0_9).kept (g10))
  have V10 := sl.hide ((sl.unhide V9).kept (g10))
  clear g10 B9 KW9 X9 J9 KG9 F0_9 V9
  go_upto_region 14 with fail
  go_cut [58] (fun q wx => q = .bool false ∧ Hid (w10.grownBy wx none))
  case first =>
    have T5 := sl.hide (cf.toCnf v0 n0 LL0 w10.drew hn0 (((sl.unhide S0).below (sl.unhide B10)).kept (cf.grown_drew w10 none)))
    have E5 := sl.hide (fun u6 wA (g6 : w10.drew.grownBy wA none) (o6 : css.OwnS w10.drew.heap.size wA.heap.size wA u6 LL0) => cf.eqCnf _ u6 n0 LL0 wA hn0 ((sl.unhide X10).kept (sl.grown_trans (r := none) (cf.grown_drew w10 none) g6)).sls o6.sls)
    have X5' := sl.hide (fun wA (g6 : w10.drew.grownBy wA none) => (sl.unhide V10).kept (sl.grown_trans (r := none) (cf.grown_drew w10 none) g6))
    have G5 := sl.hide (fun wA wB (g6 : w10.drew.grownBy wA none) (g7 : wA.grownBy wB none) => sl.grown_trans (r := none) (sl.grown_trans (r := none) (cf.grown_drew w10 none) g6) g7)
    have x0 := (sl.unhide F0_10).c0
    have x1 := (sl.unhide F0_10).c1
    have y0 := (sl.unhide V10).c0
    have y1 := (sl.unhide V10).c1
    clear KW10 X10 J10 KG10 F0_10 V10 B10
    go_region_with (first
      | (go_at_call 33; refine (sl.unhide T5).mono ?_; rintro e wA ⟨u6, rfl, o6, g6⟩; have z0 := (sl.unhide X5' wA g6).c0; have z1 := (sl.unhide X5' wA g6).c1; have E6 := sl.hide (sl.unhide E5 u6 wA g6 o6); have G6 := sl.hide (fun wB => sl.unhide G5 wA wB g6); clear g6 o6)
      | (go_at_call 35; refine (sl.unhide E6).mono ?_; rintro e wB ⟨rfl, g7⟩; have G7 := sl.hide (sl.unhide G6 wB g7); clear g7))
    all_goals (go_wp2_with fail; go_meet; exact ⟨rfl, G7⟩)
  case rest =>
    obtain ⟨rfl, hg⟩ := hcut
    have g11 := sl.unhide hg
    have s11 := sl.hide (g11).size
    have B11 := sl.hide (sl.below_none (sl.unhide B10) (g11))
    have KW11 := sl.hide ((sl.unhide KW10).kept (g11))
    have X11 := sl.hide ((sl.unhide X10).kept (g11))
    have J11 := sl.hide ((sl.unhide J10).kept (g11))
    have KG11 := sl.hide ((sl.unhide KG10).kept (g11))
    have F0_11 := sl.hide ((sl.unhide F0_10).kept (g11))
    have V11 := sl.hide ((sl.unhide V10).kept (g11))
    clear g11 hg B10 KW10 X10 J10 KG10 F0_10 V10
    go_wp2_with fail
    refine (css.toIntSS v1 LL1 _ hl1_ (sl.unhide hin1) ((sl.unhide S1).below (sl.unhide B11))).mono ?_; rintro e w12 ⟨u12, rfl, o12, g12⟩
    obtain ⟨a12_, c12_, rfl⟩ := o12.len
    have s12 := sl.hide (g12).size
    have B12 := sl.hide (sl.below_none (sl.unhide B11) (g12))
    have KW12 := sl.hide ((sl.unhide KW11).kept (g12))
    have X12 := sl.hide ((sl.unhide X11).kept (g12))
    have J12 := sl.hide ((sl.unhide J11).kept (g12))
    have KG12 := sl.hide ((sl.unhide KG11).kept (g12))
    have F0_12 := sl.hide ((sl.unhide F0_11).kept (g12))
    have V12 := sl.hide ((sl.unhide V11).kept (g12))
    have JK12 := sl.hide o12
    clear o12 g12 B11 KW11 X11 J11 KG11 F0_11 V11
    go_wp2_with fail
    refine (css.eqIntSS _ _ LL1 _ hl1_ (sl.unhide hin1) (sl.unhide J12).sls (sl.unhide JK12).sls).mono ?_; rintro e w13 ⟨rfl, g13⟩
    have s13 := sl.hide (g13).size
    have B13 := sl.hide (sl.below_none (sl.unhide B12) (g13))
    have KW13 := sl.hide ((sl.unhide KW12).kept (g13))
    have X13 := sl.hide ((sl.unhide X12).kept (g13))
    have J13 := sl.hide ((sl.unhide J12).kept (g13))
    have KG13 := sl.hide ((sl.unhide KG12).kept (g13))
    have JK13 := sl.hide ((sl.unhide JK12).kept (g13))
    have F0_13 := sl.hide ((sl.unhide F0_12).kept (g13))
    have V13 := sl.hide ((sl.unhide V12).kept (g13))
    clear g13 B12 KW12 X12 J12 KG12 JK12 F0_12 V12
    clear JK13
    have zV0 := (sl.unhide V13).c0
    have zV1 := (sl.unhide V13).c1
    go_wp2_with fail
    refine (cf.markCnf _ n0 LL0 1 _ _ _ hn0 (by omega) (by omega) (sl.unhide X13)).mono ?_; rintro e w14 ⟨rfl, o14, g14⟩
    clear zV0 zV1
    have s14 := sl.hide g14.size
    have B14 := sl.hide (css.below_outs (sl.unhide B13) (by have s1_ := sl.unhide s1; have q1_ := sl.unhide q1; have s2_ := sl.unhide s2; have s3_ := sl.unhide s3; have s4_ := sl.unhide s4; have s5_ := sl.unhide s5; have s6_ := sl.unhide s6; have s7_ := sl.unhide s7; have q7_ := sl.unhide q7; have s8_ := sl.unhide s8; have s9_ := sl.unhide s9; have s10_ := sl.unhide s10; have s11_ := sl.unhide s11; have s12_ := sl.unhide s12; have s13_ := sl.unhide s13; have s14_ := sl.unhide s14; omega) g14)
    have KW14 := sl.hide (css.OwnS.outs (sl.unhide KW13) g14 (by have s1_ := sl.unhide s1; have q1_ := sl.unhide q1; have s2_ := sl.unhide s2; have s3_ := sl.unhide s3; have s4_ := sl.unhide s4; have s5_ := sl.unhide s5; have s6_ := sl.unhide s6; have s7_ := sl.unhide s7; have q7_ := sl.unhide q7; have s8_ := sl.unhide s8; have s9_ := sl.unhide s9; have s10_ := sl.unhide s10; have s11_ := sl.unhide s11; have s12_ := sl.unhide s12; have s13_ := sl.unhide s13; have s14_ := sl.unhide s14; omega))
    have J14 := sl.hide (css.OwnS.outs (sl.unhide J13) g14 (by have s1_ := sl.unhide s1; have q1_ := sl.unhide q1; have s2_ := sl.unhide s2; have s3_ := sl.unhide s3; have s4_ := sl.unhide s4; have s5_ := sl.unhide s5; have s6_ := sl.unhide s6; have s7_ := sl.unhide s7; have q7_ := sl.unhide q7; have s8_ := sl.unhide s8; have s9_ := sl.unhide s9; have s10_ := sl.unhide s10; have s11_ := sl.unhide s11; have s12_ := sl.unhide s12; have s13_ := sl.unhide s13; have s14_ := sl.unhide s14; omega))
    have KG14 := sl.hide (css.OwnS.outs (sl.unhide KG13) g14 (by have s1_ := sl.unhide s1; have q1_ := sl.unhide q1; have s2_ := sl.unhide s2; have s3_ := sl.unhide s3; have s4_ := sl.unhide s4; have s5_ := sl.unhide s5; have s6_ := sl.unhide s6; have s7_ := sl.unhide s7; have q7_ := sl.unhide q7; have s8_ := sl.unhide s8; have s9_ := sl.unhide s9; have s10_ := sl.unhide s10; have s11_ := sl.unhide s11; have s12_ := sl.unhide s12; have s13_ := sl.unhide s13; have s14_ := sl.unhide s14; omega))
    have F0_14 := sl.hide ((sl.unhide F0_13).outs g14 (by have s1_ := sl.unhide s1; have q1_ := sl.unhide q1; have s2_ := sl.unhide s2; have s3_ := sl.unhide s3; have s4_ := sl.unhide s4; have s5_ := sl.unhide s5; have s6_ := sl.unhide s6; have s7_ := sl.unhide s7; have q7_ := sl.unhide q7; have s8_ := sl.unhide s8; have s9_ := sl.unhide s9; have s10_ := sl.unhide s10; have s11_ := sl.unhide s11; have s12_ := sl.unhide s12; have s13_ := sl.unhide s13; have s14_ := sl.unhide s14; omega))
    have V14 := sl.hide ((sl.unhide V13).outs g14 (by have s1_ := sl.unhide s1; have q1_ := sl.unhide q1; have s2_ := sl.unhide s2; have s3_ := sl.unhide s3; have s4_ := sl.unhide s4; have s5_ := sl.unhide s5; have s6_ := sl.unhide s6; have s7_ := sl.unhide s7; have q7_ := sl.unhide q7; have s8_ := sl.unhide s8; have s9_ := sl.unhide s9; have s10_ := sl.unhide s10; have s11_ := sl.unhide s11; have s12_ := sl.unhide s12; have s13_ := sl.unhide s13; have s14_ := sl.unhide s14; omega))
    clear o14 g14 X13 B13 KW13 J13 KG13 F0_13 V13
    go_wp2_with fail
    refine (css.markIntSS _ LL1 (1 + (css.sumLen LL0 : Int)) _ _ _ hn1 (by omega) (by omega) (sl.unhide J14)).mono ?_; rintro e w15 ⟨rfl, o15, g15⟩
    have s15 := sl.hide g15.size
    have B15 := sl.hide (css.below_outs (sl.unhide B14) (by have s1_ := sl.unhide s1; have q1_ := sl.unhide q1; have s2_ := sl.unhide s2; have s3_ := sl.unhide s3; have s4_ := sl.unhide s4; have s5_ := sl.unhide s5; have s6_ := sl.unhide s6; have s7_ := sl.unhide s7; have q7_ := sl.unhide q7; have s8_ := sl.unhide s8; have s9_ := sl.unhide s9; have s10_ := sl.unhide s10; have s11_ := sl.unhide s11; have s12_ := sl.unhide s12; have s13_ := sl.unhide s13; have s14_ := sl.unhide s14; have s15_ := sl.unhide s15; omega) g15)
    have KW15 := sl.hide (css.OwnS.outs (sl.unhide KW14) g15 (by have s1_ := sl.unhide s1; have q1_ := sl.unhide q1; have s2_ := sl.unhide s2; have s3_ := sl.unhide s3; have s4_ := sl.unhide s4; have s5_ := sl.unhide s5; have s6_ := sl.unhide s6; have s7_ := sl.unhide s7; have q7_ := sl.unhide q7; have s8_ := sl.unhide s8; have s9_ := sl.unhide s9; have s10_ := sl.unhide s10; have s11_ := sl.unhide s11; have s12_ := sl.unhide s12; have s13_ := sl.unhide s13; have s14_ := sl.unhide s14; have s15_ := sl.unhide s15; omega))
    have KG15 := sl.hide (css.OwnS.outs (sl.unhide KG14) g15 (by have s1_ := sl.unhide s1; have q1_ := sl.unhide q1; have s2_ := sl.unhide s2; have s3_ := sl.unhide s3; have s4_ := sl.unhide s4; have s5_ := sl.unhide s5; have s6_ := sl.unhide s6; have s7_ := sl.unhide s7; have q7_ := sl.unhide q7; have s8_ := sl.unhide s8; have s9_ := sl.unhide s9; have s10_ := sl.unhide s10; have s11_ := sl.unhide s11; have s12_ := sl.unhide s12; have s13_ := sl.unhide s13; have s14_ := sl.unhide s14; have s15_ := sl.unhide s15; omega))
    have F0_15 := sl.hide ((sl.unhide F0_14).outs g15 (by have s1_ := sl.unhide s1; have q1_ := sl.unhide q1; have s2_ := sl.unhide s2; have s3_ := sl.unhide s3; have s4_ := sl.unhide s4; have s5_ := sl.unhide s5; have s6_ := sl.unhide s6; have s7_ := sl.unhide s7; have q7_ := sl.unhide q7; have s8_ := sl.unhide s8; have s9_ := sl.unhide s9; have s10_ := sl.unhide s10; have s11_ := sl.unhide s11; have s12_ := sl.unhide s12; have s13_ := sl.unhide s13; have s14_ := sl.unhide s14; have s15_ := sl.unhide s15; omega))
    have V15 := sl.hide ((sl.unhide V14).outs g15 (by have s1_ := sl.unhide s1; have q1_ := sl.unhide q1; have s2_ := sl.unhide s2; have s3_ := sl.unhide s3; have s4_ := sl.unhide s4; have s5_ := sl.unhide s5; have s6_ := sl.unhide s6; have s7_ := sl.unhide s7; have q7_ := sl.unhide q7; have s8_ := sl.unhide s8; have s9_ := sl.unhide s9; have s10_ := sl.unhide s10; have s11_ := sl.unhide s11; have s12_ := sl.unhide s12; have s13_ := sl.unhide s13; have s14_ := sl.unhide s14; have s15_ := sl.unhide s15; omega))
    clear o15 g15 J14 B14 KW14 KG14 F0_14 V14
    go_wp2_with fail
    refine (css.eqIntSS _ _ R _ hl (sl.unhide hin) (sl.unhide KG15).sls (sl.unhide KW15).sls).mono ?_; rintro e w16 ⟨rfl, g16⟩
    have s16 := sl.hide (g16).size
    have B16 := sl.hide (sl.below_none (sl.unhide B15) (g16))
    have KW16 := sl.hide ((sl.unhide KW15).kept (g16))
    have KG16 := sl.hide ((sl.unhide KG15).kept (g16))
    have F0_16 := sl.hide ((sl.unhide F0_15).kept (g16))
    have V16 := sl.hide ((sl.unhide V15).kept (g16))
    clear g16 B15 KW15 KG15 F0_15 V15
    go_wp2_with fail
    refine (css.markIntSS _ R 1 _ _ _ hR (by omega) (by omega) (sl.unhide KG16)).mono ?_; rintro e w17 ⟨rfl, o17, g17⟩
    have s17 := sl.hide g17.size
    have B17 := sl.hide (css.below_outs (sl.unhide B16) (by have s1_ := sl.unhide s1; have q1_ := sl.unhide q1; have s2_ := sl.unhide s2; have s3_ := sl.unhide s3; have s4_ := sl.unhide s4; have s5_ := sl.unhide s5; have s6_ := sl.unhide s6; have s7_ := sl.unhide s7; have q7_ := sl.unhide q7; have s8_ := sl.unhide s8; have s9_ := sl.unhide s9; have s10_ := sl.unhide s10; have s11_ := sl.unhide s11; have s12_ := sl.unhide s12; have s13_ := sl.unhide s13; have s14_ := sl.unhide s14; have s15_ := sl.unhide s15; have s16_ := sl.unhide s16; have s17_ := sl.unhide s17; omega) g17)
    have KW17 := sl.hide (css.OwnS.outs (sl.unhide KW16) g17 (by have s1_ := sl.unhide s1; have q1_ := sl.unhide q1; have s2_ := sl.unhide s2; have s3_ := sl.unhide s3; have s4_ := sl.unhide s4; have s5_ := sl.unhide s5; have s6_ := sl.unhide s6; have s7_ := sl.unhide s7; have q7_ := sl.unhide q7; have s8_ := sl.unhide s8; have s9_ := sl.unhide s9; have s10_ := sl.unhide s10; have s11_ := sl.unhide s11; have s12_ := sl.unhide s12; have s13_ := sl.unhide s13; have s14_ := sl.unhide s14; have s15_ := sl.unhide s15; have s16_ := sl.unhide s16; have s17_ := sl.unhide s17; omega))
    have F0_17 := sl.hide ((sl.unhide F0_16).outs g17 (by have s1_ := sl.unhide s1; have q1_ := sl.unhide q1; have s2_ := sl.unhide s2; have s3_ := sl.unhide s3; have s4_ := sl.unhide s4; have s5_ := sl.unhide s5; have s6_ := sl.unhide s6; have s7_ := sl.unhide s7; have q7_ := sl.unhide q7; have s8_ := sl.unhide s8; have s9_ := sl.unhide s9; have s10_ := sl.unhide s10; have s11_ := sl.unhide s11; have s12_ := sl.unhide s12; have s13_ := sl.unhide s13; have s14_ := sl.unhide s14; have s15_ := sl.unhide s15; have s16_ := sl.unhide s16; have s17_ := sl.unhide s17; omega))
    have V17 := sl.hide ((sl.unhide V16).outs g17 (by have s1_ := sl.unhide s1; have q1_ := sl.unhide q1; have s2_ := sl.unhide s2; have s3_ := sl.unhide s3; have s4_ := sl.unhide s4; have s5_ := sl.unhide s5; have s6_ := sl.unhide s6; have s7_ := sl.unhide s7; have q7_ := sl.unhide q7; have s8_ := sl.unhide s8; have s9_ := sl.unhide s9; have s10_ := sl.unhide s10; have s11_ := sl.unhide s11; have s12_ := sl.unhide s12; have s13_ := sl.unhide s13; have s14_ := sl.unhide s14; have s15_ := sl.unhide s15; have s16_ := sl.unhide s16; have s17_ := sl.unhide s17; omega))
    have KG17 := sl.hide o17
    clear o17 g17 KG16 B16 KW16 F0_16 V16
    go_wp2_with fail
    refine (css.heldIntSS _ R 1 _ hR (by decide) (by decide) (sl.unhide KG17).sls).mono ?_; rintro e v' ⟨rfl, hw⟩; have hw' := hw.symm; clear hw; subst hw'
    have zF0_0 := (sl.unhide F0_17).c0
    have zF0_1 := (sl.unhide F0_17).c1
    go_wp2_with fail
    refine (cf.toCnf v0 n0 LL0 _ hn0 ((sl.unhide S0).below (sl.unhide B17))).mono ?_; rintro e w18 ⟨u18, rfl, o18, g18⟩
    clear zF0_0 zF0_1
    obtain ⟨a18_, c18_, rfl⟩ := o18.len
    have s18 := sl.hide (g18).size
    have B18 := sl.hide (sl.below_none (sl.unhide B17) (g18))
    have KW18 := sl.hide ((sl.unhide KW17).kept (g18))
    have KG18 := sl.hide ((sl.unhide KG17).kept (g18))
    have F0_18 := sl.hide ((sl.unhide F0_17).kept (g18))
    have V18 := sl.hide ((sl.unhide V17).kept (g18))
    have Y18 := sl.hide o18
    clear o18 g18 B17 KW17 KG17 F0_17 V17
    go_wp2_with fail
    refine (css.toIntSS v1 LL1 _ hl1_ (sl.unhide hin1) ((sl.unhide S1).below (sl.unhide B18))).mono ?_; rintro e w19 ⟨u19, rfl, o19, g19⟩
    obtain ⟨a19_, c19_, rfl⟩ := o19.len
    have s19 := sl.hide (g19).size
    have B19 := sl.hide (sl.below_none (sl.unhide B18) (g19))
    have KW19 := sl.hide ((sl.unhide KW18).kept (g19))
    have KG19 := sl.hide ((sl.unhide KG18).kept (g19))
    have Y19 := sl.hide ((sl.unhide Y18).kept (g19))
    have F0_19 := sl.hide ((sl.unhide F0_18).kept (g19))
    have V19 := sl.hide ((sl.unhide V18).kept (g19))
    have Z19 := sl.hide o19
    clear o19 g19 B18 KW18 KG18 Y18 F0_18 V18
    go_wp2_with fail
    refine (sl.unhide CI _ _ _ _ _ ((sl.unhide TT).below (sl.unhide B19)) (sl.unhide Y19).sls (sl.unhide Z19)).mono ?_; rintro e w20 ⟨u20, rfl, o20, g20⟩
    obtain ⟨a20_, c20_, rfl⟩ := o20.len
    have s20 := sl.hide (g20).size
    have B20 := sl.hide (sl.below_none (sl.unhide B19) (g20))
    have KW20 := sl.hide ((sl.unhide KW19).kept (g20))
    have KG20 := sl.hide ((sl.unhide KG19).kept (g20))
    have Y20 := sl.hide ((sl.unhide Y19).kept (g20))
    have Z20 := sl.hide ((sl.unhide Z19).kept (g20))
    have F0_20 := sl.hide ((sl.unhide F0_19).kept (g20))
    have V20 := sl.hide ((sl.unhide V19).kept (g20))
    have KH20 := sl.hide o20
    clear o20 g20 B19 KW19 KG19 Y19 Z19 F0_19 V19
    clear Y20 Z20
    go_wp2_with fail
    refine (css.eqIntSS _ _ R _ hl (sl.unhide hin) (sl.unhide KH20).sls (sl.unhide KW20).sls).mono ?_; rintro e w21 ⟨rfl, g21⟩
    have s21 := sl.hide (g21).size
    have B21 := sl.hide (sl.below_none (sl.unhide B20) (g21))
    have KW21 := sl.hide ((sl.unhide KW20).kept (g21))
    have KG21 := sl.hide ((sl.unhide KG20).kept (g21))
    have KH21 := sl.hide ((sl.unhide KH20).kept (g21))
    have F0_21 := sl.hide ((sl.unhide F0_20).kept (g21))
    have V21 := sl.hide ((sl.unhide V20).kept (g21))
    clear g21 B20 KW20 KG20 KH20 F0_20 V20
    go_wp2_with fail
    refine (css.heldIntSS _ R 1 _ hR (by decide) (by decide) (sl.unhide KG21).sls).mono ?_; rintro e v' ⟨rfl, hw⟩; have hw' := hw.symm; clear hw; subst hw'
    go_wp2_with fail
    go_ret
    exact ⟨rfl, sl.unhide B21⟩

/-! ### the row's step (the guide's own frame) -/
set_option maxRecDepth 100000 in
theorem contract (H : Type) (enc : TypeId × Value → H) (W : World) (base : Nat) (args : Array Value) (ds gs : List (DataW H)) (before : List MemPlace)
    (hval : ∀ (j : Nat) t v, Tryd.f8.params[j]? = some t → args[j]? = some v → Value.okWide Tryd.prog W .any base t v)
    (hW : DataW.Whole enc Tryd.prog Tryd.f8.params.toList Rows.fnExactTrimSpec.vars false W args.toList ds gs before) (hL : laidMetH Tryd.prog Rows.fnExactTrimRow.laid W) :
    Calls Tryd.prog 8 args W fun e W' => ∃ v, e = .returned v ∧ Rows.fnExactTrimSpec.post enc Tryd.prog Tryd.f8 false true false false W args v W' := by
  have hW' := hW
  obtain ⟨p, q, hA0, hV, rfl, hfz, hnd⟩ := hW
  have hA : DataW.TrodAll enc Tryd.prog W 0 (fun _ => true) true Tryd.f8.params.toList args.toList ds p := hA0
  rw [Tryd.params8] at hA hval
  obtain ⟨x0, vs0, d0, ds0, p0, q0, hargs, rfl, rfl, h0, r0⟩ := trodAll_cons hA
  obtain ⟨x1, vs1, d1, ds1, p1, q1, rfl, rfl, rfl, h1, r1⟩ := trodAll_cons r0
  obtain ⟨rfl, rfl, rfl⟩ := trodAll_nil r1
  obtain rfl : args = #[x0, x1] := by cases args; simp_all
  obtain ⟨rfl, rfl⟩ := trodVars_none hV
  obtain ⟨cs0, rfl, _⟩ := okWide_struct Tryd.underlying47 (hval 0 47 _ rfl rfl)
  have k0 := h0
  have lt0 : ∀ x ∈ p0, x.block < W.heap.size := by obtain ⟨m, hm⟩ := k0; exact DataW.trod_lt m _ _ _ hm
  obtain ⟨n0, v0, LL0, e0, f0, w0⟩ : ∃ n v LL, cs0 = #[.int .i64 n, v] ∧ (Lit.int .i64 n).wf = true ∧ row.IsRows W v LL := by
    obtain ⟨fuel, hf⟩ := h0
    obtain ⟨n, v, LL, e, hw, hv⟩ := row.open_cnf hf
    refine ⟨n, v, LL, ?_, hw, hv⟩
    cases cs0
    simpa [Value.cells] using e
  subst e0
  obtain ⟨sa1, slen1, scap1, rfl⟩ := okWide_slice Tryd.underlying24 (hval 1 24 _ rfl rfl)
  have k1 := h1
  have lt1 : ∀ x ∈ p1, x.block < W.heap.size := by obtain ⟨m, hm⟩ := k1; exact DataW.trod_lt m _ _ _ hm
  obtain ⟨v1, LL1, e1, w1⟩ : ∃ v LL, Value.slice sa1 slen1 scap1 = v ∧ row.IsRows W v LL := by
    obtain ⟨fuel, hf⟩ := h1
    obtain ⟨v, LL, e, hv⟩ := row.open_rows hf
    exact ⟨v, LL, by simpa [Value.cells] using e, hv⟩
  subst e1
  clear hA0
  refine (walk n0 v0 LL0 (.slice sa1 slen1 scap1) LL1 W f0 w0 w1 (table hL)).mono fun e W' ⟨he, bel⟩ => ?_
  subst he
  exact ⟨_, rfl, _, _, _, [], _, [], hW', trodAll_mk1 (shut_bool Tryd.underlying4 _), (trodAll_cons_mk (Below.trod laidOut (by kernel_rfl) (of_decide_eq_true (by kernel_rfl)) k0 bel lt0) (trodAll_cons_mk (Below.trod laidOut (by kernel_rfl) (of_decide_eq_true (by kernel_rfl)) k1 bel lt1) trodAll_mk0)), rfl, bel.frame _, fun h => by cases h⟩

set_option maxRecDepth 100000 in
theorem lifted (os : Os) (started : os.Started) (H : Type) (enc : TypeId × Value → H) (F : Stop.Interp) :
    ReturnsInHanded {} Tryd.checked os 8 .any ((OpenSpec.ofChange Rows.fnExactTrimSpec).preRow enc Tryd.prog Tryd.f8 Rows.fnExactTrimRow.domain false Rows.fnExactTrimRow.laid) (((OpenSpec.ofChange Rows.fnExactTrimSpec).at F).post enc Tryd.prog Tryd.f8 false true false false) := by
  refine returnsInHanded_of_row (C := Tryd.checked) (s := OpenSpec.ofChange Rows.fnExactTrimSpec) own started (by kernel_rfl) Tryd.func8
    (witness_row_at (enc := enc) (C := Tryd.checked) false ({ World.holding Tryd.prog os ⟨#[], #[], []⟩ with heap := (World.holding Tryd.prog os ⟨#[], #[], []⟩).heap.modify 1 fun | .cells _ t frozen => .cells (Lib.deBruijn64tab.map fun (n : Nat) => Value.int .u8 n).toArray t frozen | o => o } : World) #[.agg #[.int .i64 0, .slice none 0 0], .slice none 0 0] rfl (by kernel_rfl) (by kernel_rfl) (by kernel_rfl)
      (OpenSpec.preRow_of_cond 8 (x := ([.agg [.lit (.int .i64 0), .nil], .nil], [], [])) (by kernel_rfl) (by kernel_rfl) (fun k hk => by cases hk) (by kernel_rfl) (laidMet_of_run' 8 (by kernel_rfl) (by kernel_rfl)))) ?_
  intro W base args ds gs before hval hW _ _ _ hL _ _
  exact contract H enc W base args ds gs before hval hW hL

theorem said : Rows.FnExactTrimSaid :=
  OpenClaim.holds_of_cond 8 Tryd.f8 rfl rfl rfl rfl rfl rfl rfl ⟨rfl, rfl, rfl, rfl, rfl⟩ rfl rfl rfl rfl rfl (by kernel_rfl) Tryd.func8 (by kernel_rfl)
    (of_decide_eq_true (by kernel_rfl)) (by unfold Func.isWrapper; first | (rw [if_pos (by decide +kernel)]; kernel_rfl) | (rw [if_neg (by decide +kernel)]; exact ⟨rfl, rfl⟩))
    (fun os started H enc _ F => by rw [OpenClaim.pre_eq_preRow]; exact lifted os started H enc F)

theorem plain (f : FuncId) (fn : Func) (hf : Tryd.pinned.checked.prog.funcNamed "loop.example/g00123/laws.FnExactTrim" = some f) (hfn : Tryd.pinned.checked.prog.funcs[f]? = some fn) :
    false = Tryd.pinned.checked.prog.looks [] ∧ ∀ (j : Nat) t, fn.params[j]? = some t → Tryd.pinned.checked.prog.wantsStandIn t = false := by
  obtain rfl : f = 8 := Option.some.inj ((show Tryd.prog.funcNamed "loop.example/g00123/laws.FnExactTrim" = some 8 by kernel_rfl).symm.trans hf) |>.symm
  obtain rfl : fn = Tryd.f8 := (Option.some.inj (Tryd.func8.symm.trans hfn)).symm
  refine ⟨by kernel_rfl, fun j t ht => ?_⟩
  rw [Tryd.params8] at ht
  have hm := Array.mem_of_getElem? ht
  simp only [List.mem_toArray, List.mem_cons, List.not_mem_nil, or_false] at hm
  rcases hm with rfl | rfl
  · exact (show Tryd.prog.wantsStandIn 47 = false by kernel_rfl)
  · exact (show Tryd.prog.wantsStandIn 24 = false by kernel_rfl)

/-- the statement: the row's tied card -/
theorem proved : Rows.FnExactTrimCardSaid :=
  Claim7.holds_tied_plain_at .later [] _ _ _ _ said (fun _ h => by cases h) (by kernel_rfl) (fun _ h => by cases h) fnExactTrim_row_tie rfl ⟨rfl, rfl⟩ (by kernel_rfl) rfl plain (by kernel_rfl)
#print axioms proved
end Go.Proofs.YtheigbmkldlicaaDoor.fnExactTrim
