/- At every formula impl.Groups answers as spec.Groups, its answer owns its memory, and it writes into no argument (the law FnExactGroups returns true); no condition. -/
import Derived.Test.YtibpnocpafppaaaDoorCards
import Derived.Test.YtibpnocpafppaaaDoorTie
import Derived.Test.YtibpnocpafppaaaDoorRow
import Derived.Test.YtibpnocpafppaaaDoorFv
import Derived.WalkKit
import Derived.ProofKit
import Derived.OpenShut
import Derived.ShutString
import Derived.ChangeOld
import Derived.Below
import Derived.Deep.DeepHandedRow
import Derived.Lib.LaidTab
import Derived.Lib.TrailingZeros
import Derived.Stop.LaidErr
import Derived.Stop.LaidTwo
import Derived.LaidHandle
import Derived.LaidSub
namespace Go.Proofs.YtibpnocpafppaaaDoor.fnExactGroups
open Go.ChangeShapes Go.WideShapes Go.ChangeAt Go.RowKit
open Go.ChangeMaps (open_string shut_string)
set_option linter.unusedVariables false

theorem own : ownKnob Tryd.prog.godebug = none := by kernel_rfl
theorem laidOut : laidOutB Tryd.prog = true := by kernel_rfl

theorem gTab : Tryd.prog.globalNamed "math/bits.deBruijn64tab" = some 0 := by kernel_rfl
theorem gTabType : (Tryd.prog.globals[0]?).map (·.type) = some 132 := by kernel_rfl
theorem cellsTab : Tryd.prog.cellsOf 132 = 64 := by kernel_rfl
theorem cellsByte : Tryd.prog.cellsOf 5 = 1 := by kernel_rfl
/-- what the row's list gives: the table's cells hold its numbers -/
theorem table {W : World} (h : laidMetH Tryd.prog Rows.fnExactGroupsRow.laid W) : srt.Tab W := by
  have t : Lib.TabIs Tryd.prog W "math/bits.deBruijn64tab" .u8 (Lib.deBruijn64tab.map fun (n : Nat) => (n : Int)) :=
    Lib.tabIs_of_head (rest := []) gTab gTabType Tryd.underlying132 Tryd.underlying5 cellsByte cellsTab h
  intro j hj
  have c := t.cell gTab j (by rw [List.length_map]; exact hj)
  rw [c]
  congr 2
  rw [List.getD, List.getD, List.getElem?_map]
  cases Lib.deBruijn64tab[j]? <;> rfl

/-! ### the walk -/
set_option maxRecDepth 100000 in
set_option maxHeartbeats 8000000 in
theorem walk (n0 : Int) (v0 : Value) (LL0 : List (List Int)) (w : World) (f0 : (Lit.int .i64 n0).wf = true) (w0 : row.IsRows w v0 LL0) (hT : srt.Tab w) :
    Calls Tryd.prog 8 #[.agg #[.int .i64 n0, v0]] w fun e w' => e = .returned (.bool true) ∧ Below w.heap.size w w' := by
  have TT := sl.hide hT
  clear hT
  obtain ⟨hS0, hl0, hk0⟩ := w0
  have S_ := trivial
  have s1 := sl.hide (World.grownBy_alloc w (.cells #[(.int .i64 n0), v0] 46) none).size
  have B1 := sl.hide (sl.below_of (World.grownBy_alloc w (.cells #[(.int .i64 n0), v0] 46) none))
  have q1 : Hid ((w.alloc (.cells #[(.int .i64 n0), v0] 46)).heap.size = w.heap.size + 1) := World.size_alloc ..
  have F0_1 := sl.hide (cf.Box.new 46 w (.int .i64 n0) v0)
  have S0 := sl.hide hS0
  clear hS0
  go_enter Tryd.func8, Tryd.ntmps8
  have zF0_0 := (sl.unhide F0_1).c0
  have zF0_1 := (sl.unhide F0_1).c1
  go_wp2_with fail
  refine (cf.szCnf v0 n0 LL0 1048576 _ (by decide) (by decide) hl0 hk0 ((sl.unhide S0).below (sl.unhide B1))).mono ?_; rintro e w2 ⟨r0, rfl, g2, hr⟩
  clear zF0_0 zF0_1
  have s2 := sl.hide (g2).size
  have B2 := sl.hide (sl.below_none (sl.unhide B1) (g2))
  have F0_2 := sl.hide ((sl.unhide F0_1).kept (g2))
  clear g2 B1 F0_1
  rcases hr with rfl | ⟨hr0, hr1⟩
  · go_wp2_with fail
    go_ret
    exact ⟨rfl, sl.unhide B2⟩
  have hn0 : css.tot LL0 ≤ 1048576 := by omega
  have hq0 : ¬ r0 < 0 := by omega
  have hb0 : 0 ≤ r0 ∧ r0 ≤ 1048576 := by omega
  have ht0 := sl.hide hr1
  clear hr0 hr1
  obtain ⟨R, hR, cs, ci⟩ := fi.bothGroups n0 LL0 hn0
  have CS := sl.hide cs
  have CI := sl.hide ci
  clear cs ci
  have hl : R.length ≤ 1048576 := Nat.le_trans (css.tot_len R) hR
  have hin : Hid (∀ i, (R.getD i []).length ≤ 1048576) := fun i => Nat.le_trans (css.tot_in R i) hR
  have hz1 : decide ((1 : Int) + (css.sumLen LL0 : Int) < 0) = false := decide_eq_false (by omega)
  have hz2 : ¬ (1 : Int) + (css.sumLen R : Int) < 0 := by omega
  have zF0_0 := (sl.unhide F0_2).c0
  have zF0_1 := (sl.unhide F0_2).c1
  go_wp2_with fail
  refine (cf.toCnf v0 n0 LL0 _ hn0 ((sl.unhide S0).below (sl.unhide B2))).mono ?_; rintro e w3 ⟨u3, rfl, o3, g3⟩
  clear zF0_0 zF0_1
  obtain ⟨a3_, c3_, rfl⟩ := o3.len
  have s3 := sl.hide (g3).size
  have B3 := sl.hide (sl.below_none (sl.unhide B2) (g3))
  have F0_3 := sl.hide ((sl.unhide F0_2).kept (g3))
  have P3 := sl.hide o3
  clear o3 g3 B2 F0_2
  go_wp2_with fail
  refine (sl.unhide CS _ _ (sl.unhide P3).sls).mono ?_; rintro e w4 ⟨u4, rfl, o4, g4⟩
  obtain ⟨a4_, c4_, rfl⟩ := o4.len
  have s4 := sl.hide (g4).size
  have B4 := sl.hide (sl.below_none (sl.unhide B3) (g4))
  have P4 := sl.hide ((sl.unhide P3).kept (g4))
  have F0_4 := sl.hide ((sl.unhide F0_3).kept (g4))
  have KW4 := sl.hide o4
  clear o4 g4 B3 P3 F0_3
  clear P4
  have zF0_0 := (sl.unhide F0_4).c0
  have zF0_1 := (sl.unhide F0_4).c1
  go_wp2_with fail
  refine (cf.toCnf v0 n0 LL0 _ hn0 ((sl.unhide S0).below (sl.unhide B4))).mono ?_; rintro e w5 ⟨u5, rfl, o5, g5⟩
  clear zF0_0 zF0_1
  obtain ⟨a5_, c5_, rfl⟩ := o5.len
  have s5 := sl.hide (g5).size
  have B5 := sl.hide (sl.below_none (sl.unhide B4) (g5))
  have KW5 := sl.hide ((sl.unhide KW4).kept (g5))
  have F0_5 := sl.hide ((sl.unhide F0_4).kept (g5))
  have X5 := sl.hide o5
  clear o5 g5 B4 KW4 F0_4
  have s6 := sl.hide (World.grownBy_alloc w5 (.cells #[(.int .i64 n0), (.slice a5_ LL0.length c5_)] 26) none).size
  have B6 := sl.hide (sl.below_none (sl.unhide B5) (World.grownBy_alloc w5 (.cells #[(.int .i64 n0), (.slice a5_ LL0.length c5_)] 26) none))
  have KW6 := sl.hide ((sl.unhide KW5).kept (World.grownBy_alloc w5 (.cells #[(.int .i64 n0), (.slice a5_ LL0.length c5_)] 26) none))
  have X6 := sl.hide ((sl.unhide X5).kept (World.grownBy_alloc w5 (.cells #[(.int .i64 n0), (.slice a5_ LL0.length c5_)] 26) none))
  have F0_6 := sl.hide ((sl.unhide F0_5).kept (World.grownBy_alloc w5 (.cells #[(.int .i64 n0), (.slice a5_ LL0.length c5_)] 26) none))
  have q6 : Hid ((w5.alloc (.cells #[(.int .i64 n0), (.slice a5_ LL0.length c5_)] 26)).heap.size = w5.heap.size + 1) := World.size_alloc ..
  have V6 := sl.hide (cf.Box.new 26 w5 (.int .i64 n0) (.slice a5_ LL0.length c5_))
  clear B5 KW5 X5 F0_5
  have zV0 := (sl.unhide V6).c0
  have zV1 := (sl.unhide V6).c1
  go_wp2_with fail
  refine (sl.unhide CI _ _ ((sl.unhide TT).below (sl.unhide B6)) (sl.unhide X6).sls).mono ?_; rintro e w7 ⟨u7, rfl, o7, g7⟩
  clear zV0 zV1
  simp only [World.size_alloc] at o7
  obtain ⟨a7_, c7_, rfl⟩ := o7.len
  have s7 := sl.hide (g7).size
  have B7 := sl.hide (sl.below_none (sl.unhide B6) (g7))
  have KW7 := sl.hide ((sl.unhide KW6).kept (g7))
  have X7 := sl.hide ((sl.unhide X6).kept (g7))
  have F0_7 := sl.hide ((sl.unhide F0_6).kept (g7))
  have V7 := sl.hide ((sl.unhide V6).kept (g7))
  have KG7 := sl.hide o7
  clear o7 g7 B6 KW6 X6 F0_6 V6
  go_wp2_with fail
  refine (css.eqIntSS _ _ R _ hl (sl.unhide hin) (sl.unhide KG7).sls (sl.unhide KW7).sls).mono ?_; rintro e w8 ⟨rfl, g8⟩
  have s8 := sl.hide (g8).size
  have B8 := sl.hide (sl.below_none (sl.unhide B7) (g8))
  have KW8 := sl.hide ((sl.unhide KW7).kept (g8))
  have X8 := sl.hide ((sl.unhide X7).kept (g8))
  have KG8 := sl.hide ((sl.unhide KG7).kept (g8))
  have F0_8 := sl.hide ((sl.unhide F0_7).kept (g8))
  have V8 := sl.hide ((sl.unhide V7).kept (g8))
  clear g8 B7 KW7 X7 KG7 F0_7 V7
  go_upto_region 10 with fail
  go_cut [31] (fun q wx => q = .bool false ∧ Hid (w8.grownBy wx none))
  case first =>
    have T5 := sl.hide (cf.toCnf v0 n0 LL0 w8.drew hn0 (((sl.unhide S0).below (sl.unhide B8)).kept (cf.grown_drew w8 none)))
    have E5 := sl.hide (fun u6 wA (g6 : w8.drew.grownBy wA none) (o6 : css.OwnS w8.drew.heap.size wA.heap.size wA u6 LL0) => cf.eqCnf _ u6 n0 LL0 wA hn0 ((sl.unhide X8).kept (sl.grown_trans (r := none) (cf.grown_drew w8 none) g6)).sls o6.sls)
    have X5' := sl.hide (fun wA (g6 : w8.drew.grownBy wA none) => (sl.unhide V8).kept (sl.grown_trans (r := none) (cf.grown_drew w8 none) g6))
    have G5 := sl.hide (fun wA wB (g6 : w8.drew.grownBy wA none) (g7 : wA.grownBy wB none) => sl.grown_trans (r := none) (sl.grown_trans (r := none) (cf.grown_drew w8 none) g6) g7)
    have x0 := (sl.unhide F0_8).c0
    have x1 := (sl.unhide F0_8).c1
    have y0 := (sl.unhide V8).c0
    have y1 := (sl.unhide V8).c1
    clear KW8 X8 KG8 F0_8 V8 B8
    go_region_with (first
      | (go_at_call 42; refine (sl.unhide T5).mono ?_; rintro e wA ⟨u6, rfl, o6, g6⟩; have z0 := (sl.unhide X5' wA g6).c0; have z1 := (sl.unhide X5' wA g6).c1; have E6 := sl.hide (sl.unhide E5 u6 wA g6 o6); have G6 := sl.hide (fun wB => sl.unhide G5 wA wB g6); clear g6 o6)
      | (go_at_call 43; refine (sl.unhide E6).mono ?_; rintro e wB ⟨rfl, g7⟩; have G7 := sl.hide (sl.unhide G6 wB g7); clear g7))
    all_goals (go_wp2_with fail; go_meet; exact ⟨rfl, G7⟩)
  case rest =>
    obtain ⟨rfl, hg⟩ := hcut
    have g9 := sl.unhide hg
    have s9 := sl.hide (g9).size
    have B9 := sl.hide (sl.below_none (sl.unhide B8) (g9))
    have KW9 := sl.hide ((sl.unhide KW8).kept (g9))
    have X9 := sl.hide ((sl.unhide X8).kept (g9))
    have KG9 := sl.hide ((sl.unhide KG8).kept (g9))
    have F0_9 := sl.hide ((sl.unhide F0_8).kept (g9))
    have V9 := sl.hide ((sl.unhide V8).kept (g9))
    clear g9 hg B8 KW8 X8 KG8 F0_8 V8
    have zV0 := (sl.unhide V9).c0
    have zV1 := (sl.unhide V9).c1
    go_wp2_with fail
    refine (cf.markCnf _ n0 LL0 1 _ _ _ hn0 (by omega) (by omega) (sl.unhide X9)).mono ?_; rintro e w10 ⟨rfl, o10, g10⟩
    clear zV0 zV1
    have s10 := sl.hide g10.size
    have B10 := sl.hide (css.below_outs (sl.unhide B9) (by have s1_ := sl.unhide s1; have q1_ := sl.unhide q1; have s2_ := sl.unhide s2; have s3_ := sl.unhide s3; have s4_ := sl.unhide s4; have s5_ := sl.unhide s5; have s6_ := sl.unhide s6; have q6_ := sl.unhide q6; have s7_ := sl.unhide s7; have s8_ := sl.unhide s8; have s9_ := sl.unhide s9; have s10_ := sl.unhide s10; omega) g10)
    have KW10 := sl.hide (css.OwnS.outs (sl.unhide KW9) g10 (by have s1_ := sl.unhide s1; have q1_ := sl.unhide q1; have s2_ := sl.unhide s2; have s3_ := sl.unhide s3; have s4_ := sl.unhide s4; have s5_ := sl.unhide s5; have s6_ := sl.unhide s6; have q6_ := sl.unhide q6; have s7_ := sl.unhide s7; have s8_ := sl.unhide s8; have s9_ := sl.unhide s9; have s10_ := sl.unhide s10; omega))
    have KG10 := sl.hide (css.OwnS.outs (sl.unhide KG9) g10 (by have s1_ := sl.unhide s1; have q1_ := sl.unhide q1; have s2_ := sl.unhide s2; have s3_ := sl.unhide s3; have s4_ := sl.unhide s4; have s5_ := sl.unhide s5; have s6_ := sl.unhide s6; have q6_ := sl.unhide q6; have s7_ := sl.unhide s7; have s8_ := sl.unhide s8; have s9_ := sl.unhide s9; have s10_ := sl.unhide s10; omega))
    have F0_10 := sl.hide ((sl.unhide F0_9).outs g10 (by have s1_ := sl.unhide s1; have q1_ := sl.unhide q1; have s2_ := sl.unhide s2; have s3_ := sl.unhide s3; have s4_ := sl.unhide s4; have s5_ := sl.unhide s5; have s6_ := sl.unhide s6; have q6_ := sl.unhide q6; have s7_ := sl.unhide s7; have s8_ := sl.unhide s8; have s9_ := sl.unhide s9; have s10_ := sl.unhide s10; omega))
    have V10 := sl.hide ((sl.unhide V9).outs g10 (by have s1_ := sl.unhide s1; have q1_ := sl.unhide q1; have s2_ := sl.unhide s2; have s3_ := sl.unhide s3; have s4_ := sl.unhide s4; have s5_ := sl.unhide s5; have s6_ := sl.unhide s6; have q6_ := sl.unhide q6; have s7_ := sl.unhide s7; have s8_ := sl.unhide s8; have s9_ := sl.unhide s9; have s10_ := sl.unhide s10; omega))
    clear o10 g10 X9 B9 KW9 KG9 F0_9 V9
    go_wp2_with fail
    refine (css.eqIntSS _ _ R _ hl (sl.unhide hin) (sl.unhide KG10).sls (sl.unhide KW10).sls).mono ?_; rintro e w11 ⟨rfl, g11⟩
    have s11 := sl.hide (g11).size
    have B11 := sl.hide (sl.below_none (sl.unhide B10) (g11))
    have KW11 := sl.hide ((sl.unhide KW10).kept (g11))
    have KG11 := sl.hide ((sl.unhide KG10).kept (g11))
    have F0_11 := sl.hide ((sl.unhide F0_10).kept (g11))
    have V11 := sl.hide ((sl.unhide V10).kept (g11))
    clear g11 B10 KW10 KG10 F0_10 V10
    go_wp2_with fail
    refine (css.markIntSS _ R 1 _ _ _ hR (by omega) (by omega) (sl.unhide KG11)).mono ?_; rintro e w12 ⟨rfl, o12, g12⟩
    have s12 := sl.hide g12.size
    have B12 := sl.hide (css.below_outs (sl.unhide B11) (by have s1_ := sl.unhide s1; have q1_ := sl.unhide q1; have s2_ := sl.unhide s2; have s3_ := sl.unhide s3; have s4_ := sl.unhide s4; have s5_ := sl.unhide s5; have s6_ := sl.unhide s6; have q6_ := sl.unhide q6; have s7_ := sl.unhide s7; have s8_ := sl.unhide s8; have s9_ := sl.unhide s9; have s10_ := sl.unhide s10; have s11_ := sl.unhide s11; have s12_ := sl.unhide s12; omega) g12)
    have KW12 := sl.hide (css.OwnS.outs (sl.unhide KW11) g12 (by have s1_ := sl.unhide s1; have q1_ := sl.unhide q1; have s2_ := sl.unhide s2; have s3_ := sl.unhide s3; have s4_ := sl.unhide s4; have s5_ := sl.unhide s5; have s6_ := sl.unhide s6; have q6_ := sl.unhide q6; have s7_ := sl.unhide s7; have s8_ := sl.unhide s8; have s9_ := sl.unhide s9; have s10_ := sl.unhide s10; have s11_ := sl.unhide s11; have s12_ := sl.unhide s12; omega))
    have F0_12 := sl.hide ((sl.unhide F0_11).outs g12 (by have s1_ := sl.unhide s1; have q1_ := sl.unhide q1; have s2_ := sl.unhide s2; have s3_ := sl.unhide s3; have s4_ := sl.unhide s4; have s5_ := sl.unhide s5; have s6_ := sl.unhide s6; have q6_ := sl.unhide q6; have s7_ := sl.unhide s7; have s8_ := sl.unhide s8; have s9_ := sl.unhide s9; have s10_ := sl.unhide s10; have s11_ := sl.unhide s11; have s12_ := sl.unhide s12; omega))
    have V12 := sl.hide ((sl.unhide V11).outs g12 (by have s1_ := sl.unhide s1; have q1_ := sl.unhide q1; have s2_ := sl.unhide s2; have s3_ := sl.unhide s3; have s4_ := sl.unhide s4; have s5_ := sl.unhide s5; have s6_ := sl.unhide s6; have q6_ := sl.unhide q6; have s7_ := sl.unhide s7; have s8_ := sl.unhide s8; have s9_ := sl.unhide s9; have s10_ := sl.unhide s10; have s11_ := sl.unhide s11; have s12_ := sl.unhide s12; omega))
    have KG12 := sl.hide o12
    clear o12 g12 KG11 B11 KW11 F0_11 V11
    go_wp2_with fail
    refine (css.heldIntSS _ R 1 _ hR (by decide) (by decide) (sl.unhide KG12).sls).mono ?_; rintro e v' ⟨rfl, hw⟩; have hw' := hw.symm; clear hw; subst hw'
    have zF0_0 := (sl.unhide F0_12).c0
    have zF0_1 := (sl.unhide F0_12).c1
    go_wp2_with fail
    refine (cf.toCnf v0 n0 LL0 _ hn0 ((sl.unhide S0).below (sl.unhide B12))).mono ?_; rintro e w13 ⟨u13, rfl, o13, g13⟩
    clear zF0_0 zF0_1
    obtain ⟨a13_, c13_, rfl⟩ := o13.len
    have s13 := sl.hide (g13).size
    have B13 := sl.hide (sl.below_none (sl.unhide B12) (g13))
    have KW13 := sl.hide ((sl.unhide KW12).kept (g13))
    have KG13 := sl.hide ((sl.unhide KG12).kept (g13))
    have F0_13 := sl.hide ((sl.unhide F0_12).kept (g13))
    have V13 := sl.hide ((sl.unhide V12).kept (g13))
    have Y13 := sl.hide o13
    clear o13 g13 B12 KW12 KG12 F0_12 V12
    go_wp2_with fail
    refine (sl.unhide CI _ _ ((sl.unhide TT).below (sl.unhide B13)) (sl.unhide Y13).sls).mono ?_; rintro e w14 ⟨u14, rfl, o14, g14⟩
    obtain ⟨a14_, c14_, rfl⟩ := o14.len
    have s14 := sl.hide (g14).size
    have B14 := sl.hide (sl.below_none (sl.unhide B13) (g14))
    have KW14 := sl.hide ((sl.unhide KW13).kept (g14))
    have KG14 := sl.hide ((sl.unhide KG13).kept (g14))
    have Y14 := sl.hide ((sl.unhide Y13).kept (g14))
    have F0_14 := sl.hide ((sl.unhide F0_13).kept (g14))
    have V14 := sl.hide ((sl.unhide V13).kept (g14))
    have KH14 := sl.hide o14
    clear o14 g14 B13 KW13 KG13 Y13 F0_13 V13
    clear Y14
    go_wp2_with fail
    refine (css.eqIntSS _ _ R _ hl (sl.unhide hin) (sl.unhide KH14).sls (sl.unhide KW14).sls).mono ?_; rintro e w15 ⟨rfl, g15⟩
    have s15 := sl.hide (g15).size
    have B15 := sl.hide (sl.below_none (sl.unhide B14) (g15))
    have KW15 := sl.hide ((sl.unhide KW14).kept (g15))
    have KG15 := sl.hide ((sl.unhide KG14).kept (g15))
    have KH15 := sl.hide ((sl.unhide KH14).kept (g15))
    have F0_15 := sl.hide ((sl.unhide F0_14).kept (g15))
    have V15 := sl.hide ((sl.unhide V14).kept (g15))
    clear g15 B14 KW14 KG14 KH14 F0_14 V14
    go_wp2_with fail
    refine (css.heldIntSS _ R 1 _ hR (by decide) (by decide) (sl.unhide KG15).sls).mono ?_; rintro e v' ⟨rfl, hw⟩; have hw' := hw.symm; clear hw; subst hw'
    go_wp2_with fail
    go_ret
    exact ⟨rfl, sl.unhide B15⟩

/-! ### the row's step (the guide's own frame) -/
set_option maxRecDepth 100000 in
theorem contract (H : Type) (enc : TypeId × Value → H) (W : World) (base : Nat) (args : Array Value) (ds gs : List (DataW H)) (before : List MemPlace)
    (hval : ∀ (j : Nat) t v, Tryd.f8.params[j]? = some t → args[j]? = some v → Value.okWide Tryd.prog W .any base t v)
    (hW : DataW.Whole enc Tryd.prog Tryd.f8.params.toList Rows.fnExactGroupsSpec.vars false W args.toList ds gs before) (hL : laidMetH Tryd.prog Rows.fnExactGroupsRow.laid W) :
    Calls Tryd.prog 8 args W fun e W' => ∃ v, e = .returned v ∧ Rows.fnExactGroupsSpec.post enc Tryd.prog Tryd.f8 false true false false W args v W' := by
  have hW' := hW
  obtain ⟨p, q, hA0, hV, rfl, hfz, hnd⟩ := hW
  have hA : DataW.TrodAll enc Tryd.prog W 0 (fun _ => true) true Tryd.f8.params.toList args.toList ds p := hA0
  rw [Tryd.params8] at hA hval
  obtain ⟨x0, vs0, d0, ds0, p0, q0, hargs, rfl, rfl, h0, r0⟩ := trodAll_cons hA
  obtain ⟨rfl, rfl, rfl⟩ := trodAll_nil r0
  obtain rfl : args = #[x0] := by cases args; simp_all
  obtain ⟨rfl, rfl⟩ := trodVars_none hV
  obtain ⟨cs0, rfl, _⟩ := okWide_struct Tryd.underlying46 (hval 0 46 _ rfl rfl)
  have k0 := h0
  have lt0 : ∀ x ∈ p0, x.block < W.heap.size := by obtain ⟨m, hm⟩ := k0; exact DataW.trod_lt m _ _ _ hm
  obtain ⟨n0, v0, LL0, e0, f0, w0⟩ : ∃ n v LL, cs0 = #[.int .i64 n, v] ∧ (Lit.int .i64 n).wf = true ∧ row.IsRows W v LL := by
    obtain ⟨fuel, hf⟩ := h0
    obtain ⟨n, v, LL, e, hw, hv⟩ := row.open_cnf hf
    refine ⟨n, v, LL, ?_, hw, hv⟩
    cases cs0
    simpa [Value.cells] using e
  subst e0
  clear hA0
  refine (walk n0 v0 LL0 W f0 w0 (table hL)).mono fun e W' ⟨he, bel⟩ => ?_
  subst he
  exact ⟨_, rfl, _, _, _, [], _, [], hW', trodAll_mk1 (shut_bool Tryd.underlying4 _), (trodAll_cons_mk (Below.trod laidOut (by kernel_rfl) (of_decide_eq_true (by kernel_rfl)) k0 bel lt0) trodAll_mk0), rfl, bel.frame _, fun h => by cases h⟩

set_option maxRecDepth 100000 in
theorem lifted (os : Os) (started : os.Started) (H : Type) (enc : TypeId × Value → H) (F : Stop.Interp) :
    ReturnsInHanded {} Tryd.checked os 8 .any ((OpenSpec.ofChange Rows.fnExactGroupsSpec).preRow enc Tryd.prog Tryd.f8 Rows.fnExactGroupsRow.domain false Rows.fnExactGroupsRow.laid) (((OpenSpec.ofChange Rows.fnExactGroupsSpec).at F).post enc Tryd.prog Tryd.f8 false true false false) := by
  refine returnsInHanded_of_row (C := Tryd.checked) (s := OpenSpec.ofChange Rows.fnExactGroupsSpec) own started (by kernel_rfl) Tryd.func8
    (witness_row_at (enc := enc) (C := Tryd.checked) false ({ World.holding Tryd.prog os ⟨#[], #[], []⟩ with heap := (World.holding Tryd.prog os ⟨#[], #[], []⟩).heap.modify 0 fun | .cells _ t frozen => .cells (Lib.deBruijn64tab.map fun (n : Nat) => Value.int .u8 n).toArray t frozen | o => o } : World) #[.agg #[.int .i64 0, .slice none 0 0]] rfl (by kernel_rfl) (by kernel_rfl) (by kernel_rfl)
      (OpenSpec.preRow_of_cond 8 (x := ([.agg [.lit (.int .i64 0), .nil]], [], [])) (by kernel_rfl) (by kernel_rfl) (fun k hk => by cases hk) (by kernel_rfl) (laidMet_of_run' 8 (by kernel_rfl) (by kernel_rfl)))) ?_
  intro W base args ds gs before hval hW _ _ _ hL _ _
  exact contract H enc W base args ds gs before hval hW hL

theorem said : Rows.FnExactGroupsSaid :=
  OpenClaim.holds_of_cond 8 Tryd.f8 rfl rfl rfl rfl rfl rfl rfl ⟨rfl, rfl, rfl, rfl, rfl⟩ rfl rfl rfl rfl rfl (by kernel_rfl) Tryd.func8 (by kernel_rfl)
    (of_decide_eq_true (by kernel_rfl)) (by unfold Func.isWrapper; first | (rw [if_pos (by decide +kernel)]; kernel_rfl) | (rw [if_neg (by decide +kernel)]; exact ⟨rfl, rfl⟩))
    (fun os started H enc _ F => by rw [OpenClaim.pre_eq_preRow]; exact lifted os started H enc F)

theorem plain (f : FuncId) (fn : Func) (hf : Tryd.pinned.checked.prog.funcNamed "loop.example/g00123/laws.FnExactGroups" = some f) (hfn : Tryd.pinned.checked.prog.funcs[f]? = some fn) :
    false = Tryd.pinned.checked.prog.looks [] ∧ ∀ (j : Nat) t, fn.params[j]? = some t → Tryd.pinned.checked.prog.wantsStandIn t = false := by
  obtain rfl : f = 8 := Option.some.inj ((show Tryd.prog.funcNamed "loop.example/g00123/laws.FnExactGroups" = some 8 by kernel_rfl).symm.trans hf) |>.symm
  obtain rfl : fn = Tryd.f8 := (Option.some.inj (Tryd.func8.symm.trans hfn)).symm
  refine ⟨by kernel_rfl, fun j t ht => ?_⟩
  rw [Tryd.params8] at ht
  obtain rfl : t = 46 := by simpa using Array.mem_of_getElem? ht
  exact (show Tryd.prog.wantsStandIn 46 = false by kernel_rfl)

/-- the statement: the row's tied card -/
theorem proved : Rows.FnExactGroupsCardSaid :=
  Claim7.holds_tied_plain_at .later [] _ _ _ _ said (fun _ h => by cases h) (by kernel_rfl) (fun _ h => by cases h) fnExactGroups_row_tie rfl ⟨rfl, rfl⟩ (by kernel_rfl) rfl plain (by kernel_rfl)
#print axioms proved
end Go.Proofs.YtibpnocpafppaaaDoor.fnExactGroups
