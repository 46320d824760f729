/- At every formula and every list of numbers impl.Force answers as spec.Force, writes nothing into an argument and its answer owns its memory (the law FnExactForce returns true); the library's table of places lies as its text lays it (tied). -/
import Derived.Test.YtloenjaonkdlaaaDoorCards
import Derived.Test.YtloenjaonkdlaaaDoorTie
import Derived.Test.YtloenjaonkdlaaaDoorRow
import Derived.Test.YtloenjaonkdlaaaDoorSx
import Derived.WalkKit
import Derived.ProofKit
import Derived.OpenShut
import Derived.ShutString
import Derived.ChangeOld
import Derived.Below
import Derived.Deep.DeepHandedRow
import Derived.Lib.LaidTab
import Derived.Lib.TrailingZeros
import Derived.Stop.LaidErr
import Derived.LaidHandle
import Derived.LaidSub
namespace Go.Proofs.YtloenjaonkdlaaaDoor.fnExactForce
open Go.ChangeShapes Go.WideShapes Go.ChangeAt Go.RowKit
open Go.ChangeMaps (open_string shut_string)
set_option linter.unusedVariables false

theorem own : ownKnob Tryd.prog.godebug = none := by kernel_rfl
theorem laidOut : laidOutB Tryd.prog = true := by kernel_rfl

/-- what the walk is told of a slice of integers that came in -/
def IsRow (k : IntKind) (w : World) (a : Option Addr) (len cap : Nat) (zs : List Int) : Prop :=
  (a = none ∧ len = 0 ∧ cap = 0 ∧ zs = []) ∨
  ∃ x, a = some x ∧ len ≤ cap ∧ cap ≤ maxLen ∧ zs.length = cap ∧ (∀ i, i < zs.length → w.cell? (x.add i) = some (.int k (zs.getD i 0))) ∧ ∀ n ∈ zs, (Lit.int k n).wf = true

theorem gTab : Tryd.prog.globalNamed "math/bits.deBruijn64tab" = some 1 := by kernel_rfl
theorem gTabType : (Tryd.prog.globals[1]?).map (·.type) = some 174 := by kernel_rfl
theorem cellsTab : Tryd.prog.cellsOf 174 = 64 := by kernel_rfl
theorem cellsByte : Tryd.prog.cellsOf 5 = 1 := by kernel_rfl
/-- what the row's list gives: the table's cells hold its numbers -/
theorem table {W : World} (h : laidMetH Tryd.prog Rows.fnExactForceRow.laid W) : srt.Tab W := by
  have t : Lib.TabIs Tryd.prog W "math/bits.deBruijn64tab" .u8 (Lib.deBruijn64tab.map fun (n : Nat) => (n : Int)) :=
    Lib.tabIs_of_head (rest := []) gTab gTabType Tryd.underlying174 Tryd.underlying5 cellsByte cellsTab h
  intro j hj
  have c := t.cell gTab j (by rw [List.length_map]; exact hj)
  rw [c]
  congr 2
  rw [List.getD, List.getD, List.getElem?_map]
  cases Lib.deBruijn64tab[j]? <;> rfl

/-! ### the walk -/
set_option maxRecDepth 100000 in
set_option maxHeartbeats 8000000 in
theorem walk (n0 : Int) (v0 : Value) (LL0 : List (List Int)) (a1 : Option Addr) (len1 cap1 : Nat) (z1 : List Int) (w : World) (f0 : (Lit.int .i64 n0).wf = true) (w0 : row.IsRows w v0 LL0) (w1 : IsRow .i64 w a1 len1 cap1 z1) (hT : srt.Tab w) :
    Calls Tryd.prog 10 #[.agg #[.int .i64 n0, v0], .slice a1 len1 cap1] w fun e w' => e = .returned (.bool true) ∧ Below w.heap.size w w' := by
  have TT := sl.hide hT
  clear hT
  obtain ⟨hS0, hl0, hk0⟩ := w0
  obtain ⟨L1, rfl, hS1, _⟩ := sl.of_row w1
  have S_ := trivial
  have s1 := sl.hide (World.grownBy_alloc w (.cells #[(.int .i64 n0), v0] 56) none).size
  have B1 := sl.hide (sl.below_of (World.grownBy_alloc w (.cells #[(.int .i64 n0), v0] 56) none))
  have q1 : Hid ((w.alloc (.cells #[(.int .i64 n0), v0] 56)).heap.size = w.heap.size + 1) := World.size_alloc ..
  have F0_1 := sl.hide (cf.Box.new 56 w (.int .i64 n0) v0)
  have S0 := sl.hide hS0
  have S1 := sl.hide hS1
  clear hS0
  clear hS1
  by_cases hbig1 : 1048576 < L1.length
  · have hi1 : (1048576 : Int) < (L1.length : Int) := by omega
    go_enter Tryd.func10, Tryd.ntmps10
    go_wp2
    go_ret
    exact ⟨rfl, sl.unhide B1⟩
  have hi1 : ¬ (1048576 : Int) < (L1.length : Int) := by omega
  have hL1 : L1.length ≤ 1048576 := by omega
  clear hbig1
  go_enter Tryd.func10, Tryd.ntmps10
  have zF0_0 := (sl.unhide F0_1).c0
  have zF0_1 := (sl.unhide F0_1).c1
  go_wp2_with fail
  refine (cf.szCnf v0 n0 LL0 1048576 _ (by decide) (by decide) hl0 hk0 ((sl.unhide S0).below (sl.unhide B1))).mono ?_; rintro e w2 ⟨r0, rfl, g2, hr⟩
  clear zF0_0 zF0_1
  have s2 := sl.hide (g2).size
  have B2 := sl.hide (sl.below_none (sl.unhide B1) (g2))
  have F0_2 := sl.hide ((sl.unhide F0_1).kept (g2))
  clear g2 B1 F0_1
  rcases hr with rfl | ⟨hr0, hr1⟩
  · go_wp2_with fail
    go_ret
    exact ⟨rfl, sl.unhide B2⟩
  have hn0 : css.tot LL0 ≤ 1048576 := by omega
  have hq0 : ¬ r0 < 0 := by omega
  have hb0 : 0 ≤ r0 ∧ r0 ≤ 1048576 := by omega
  have ht0 := sl.hide hr1
  clear hr0 hr1
  obtain ⟨R, b, hR48, cs, ci⟩ := sp.bothF n0 LL0 L1 hn0 hL1
  have hR : R.length ≤ 2097152 := by omega
  have CS := sl.hide cs
  have CI := sl.hide ci
  clear cs ci
  have hz1 : decide ((1 : Int) + (css.sumLen LL0 : Int) + (L1.length : Int) < 0) = false := decide_eq_false (by omega)
  have hsl : css.sumLen LL0 ≤ 1048576 := Nat.le_trans (css.sumLen_le LL0) hn0
  have hz2 : ¬ (1 : Int) + (R.length : Int) < 0 := by omega
  have zF0_0 := (sl.unhide F0_2).c0
  have zF0_1 := (sl.unhide F0_2).c1
  go_wp2_with fail
  refine (cf.toCnf v0 n0 LL0 _ hn0 ((sl.unhide S0).below (sl.unhide B2))).mono ?_; rintro e w3 ⟨u3, rfl, o3, g3⟩
  clear zF0_0 zF0_1
  obtain ⟨a3_, c3_, rfl⟩ := o3.len
  have s3 := sl.hide (g3).size
  have B3 := sl.hide (sl.below_none (sl.unhide B2) (g3))
  have F0_3 := sl.hide ((sl.unhide F0_2).kept (g3))
  have P3 := sl.hide o3
  clear o3 g3 B2 F0_2
  go_wp2_with fail
  refine (sl.toIntS _ L1 _ hL1 ((sl.unhide S1).below (sl.unhide B3))).mono ?_; rintro e w4 ⟨rfl, o4, g4⟩
  have s4 := sl.hide (g4).size
  have B4 := sl.hide (sl.below_none (sl.unhide B3) (g4))
  have P4 := sl.hide ((sl.unhide P3).kept (g4))
  have F0_4 := sl.hide ((sl.unhide F0_3).kept (g4))
  have I4 := sl.hide (sl.Own.of o4)
  clear o4 g4 B3 P3 F0_3
  go_wp2_with fail
  refine (sl.unhide CS _ _ _ _ _ (sl.unhide P4).sls (sl.unhide I4)).mono ?_; rintro e w5 ⟨u5, rfl, o5, g5⟩
  have s5 := sl.hide (g5).size
  have B5 := sl.hide (sl.below_none (sl.unhide B4) (g5))
  have P5 := sl.hide ((sl.unhide P4).kept (g5))
  have I5 := sl.hide ((sl.unhide I4).kept (g5))
  have F0_5 := sl.hide ((sl.unhide F0_4).kept (g5))
  have IW5 := sl.hide (sl.Own.of o5)
  clear o5 g5 B4 P4 I4 F0_4
  clear P5 I5
  have zF0_0 := (sl.unhide F0_5).c0
  have zF0_1 := (sl.unhide F0_5).c1
  go_wp2_with fail
  refine (cf.toCnf v0 n0 LL0 _ hn0 ((sl.unhide S0).below (sl.unhide B5))).mono ?_; rintro e w6 ⟨u6, rfl, o6, g6⟩
  clear zF0_0 zF0_1
  obtain ⟨a6_, c6_, rfl⟩ := o6.len
  have s6 := sl.hide (g6).size
  have B6 := sl.hide (sl.below_none (sl.unhide B5) (g6))
  have IW6 := sl.hide ((sl.unhide IW5).kept (g6))
  have F0_6 := sl.hide ((sl.unhide F0_5).kept (g6))
  have X6 := sl.hide o6
  clear o6 g6 B5 IW5 F0_5
  have s7 := sl.hide (World.grownBy_alloc w6 (.cells #[(.int .i64 n0), (.slice a6_ LL0.length c6_)] 34) none).size
  have B7 := sl.hide (sl.below_none (sl.unhide B6) (World.grownBy_alloc w6 (.cells #[(.int .i64 n0), (.slice a6_ LL0.length c6_)] 34) none))
  have IW7 := sl.hide ((sl.unhide IW6).kept (World.grownBy_alloc w6 (.cells #[(.int .i64 n0), (.slice a6_ LL0.length c6_)] 34) none))
  have X7 := sl.hide ((sl.unhide X6).kept (World.grownBy_alloc w6 (.cells #[(.int .i64 n0), (.slice a6_ LL0.length c6_)] 34) none))
  have F0_7 := sl.hide ((sl.unhide F0_6).kept (World.grownBy_alloc w6 (.cells #[(.int .i64 n0), (.slice a6_ LL0.length c6_)] 34) none))
  have q7 : Hid ((w6.alloc (.cells #[(.int .i64 n0), (.slice a6_ LL0.length c6_)] 34)).heap.size = w6.heap.size + 1) := World.size_alloc ..
  have V7 := sl.hide (cf.Box.new 34 w6 (.int .i64 n0) (.slice a6_ LL0.length c6_))
  clear B6 IW6 X6 F0_6
  go_wp2_with fail
  refine (sl.toIntS _ L1 _ hL1 ((sl.unhide S1).below (sl.unhide B7))).mono ?_; rintro e w8 ⟨rfl, o8, g8⟩
  simp only [World.size_alloc] at o8
  have s8 := sl.hide (g8).size
  have B8 := sl.hide (sl.below_none (sl.unhide B7) (g8))
  have IW8 := sl.hide ((sl.unhide IW7).kept (g8))
  have X8 := sl.hide ((sl.unhide X7).kept (g8))
  have F0_8 := sl.hide ((sl.unhide F0_7).kept (g8))
  have V8 := sl.hide ((sl.unhide V7).kept (g8))
  have I8 := sl.hide (sl.Own.of o8)
  clear o8 g8 B7 IW7 X7 F0_7 V7
  have zV0 := (sl.unhide V8).c0
  have zV1 := (sl.unhide V8).c1
  go_wp2_with fail
  refine (sl.unhide CI _ _ _ _ _ ((sl.unhide TT).below (sl.unhide B8)) (sl.unhide X8).sls (sl.unhide I8)).mono ?_; rintro e w9 ⟨u9, rfl, o9, g9⟩
  clear zV0 zV1
  have s9 := sl.hide (g9).size
  have B9 := sl.hide (sl.below_none (sl.unhide B8) (g9))
  have IW9 := sl.hide ((sl.unhide IW8).kept (g9))
  have X9 := sl.hide ((sl.unhide X8).kept (g9))
  have I9 := sl.hide ((sl.unhide I8).kept (g9))
  have F0_9 := sl.hide ((sl.unhide F0_8).kept (g9))
  have V9 := sl.hide ((sl.unhide V8).kept (g9))
  have IG9 := sl.hide (sl.Own.of o9)
  clear o9 g9 B8 IW8 X8 I8 F0_8 V8
  go_wp2_with fail
  refine (slw.eqIntS _ _ _ _ hR (sl.unhide IG9).sl (sl.unhide IW9).sl).mono ?_; rintro e w10 ⟨rfl, g10⟩
  have s10 := sl.hide (g10).size
  have B10 := sl.hide (sl.below_none (sl.unhide B9) (g10))
  have IW10 := sl.hide ((sl.unhide IW9).kept (g10))
  have X10 := sl.hide ((sl.unhide X9).kept (g10))
  have I10 := sl.hide ((sl.unhide I9).kept (g10))
  have IG10 := sl.hide ((sl.unhide IG9).kept (g10))
  have F0_10 := sl.hide ((sl.unhide F0_9).kept (g10))
  have V10 := sl.hide ((sl.unhide V9).kept (g10))
  clear g10 B9 IW9 X9 I9 IG9 F0_9 V9
  go_upto_region 13 with fail
  go_cut [56] (fun q wx => q = .bool false ∧ Hid (w10.grownBy wx none))
  case first =>
    have T5 := sl.hide (cf.toCnf v0 n0 LL0 w10.drew hn0 (((sl.unhide S0).below (sl.unhide B10)).kept (cf.grown_drew w10 none)))
    have E5 := sl.hide (fun u6 wA (g6 : w10.drew.grownBy wA none) (o6 : css.OwnS w10.drew.heap.size wA.heap.size wA u6 LL0) => cf.eqCnf _ u6 n0 LL0 wA hn0 ((sl.unhide X10).kept (sl.grown_trans (r := none) (cf.grown_drew w10 none) g6)).sls o6.sls)
    have X5' := sl.hide (fun wA (g6 : w10.drew.grownBy wA none) => (sl.unhide V10).kept (sl.grown_trans (r := none) (cf.grown_drew w10 none) g6))
    have G5 := sl.hide (fun wA wB (g6 : w10.drew.grownBy wA none) (g7 : wA.grownBy wB none) => sl.grown_trans (r := none) (sl.grown_trans (r := none) (cf.grown_drew w10 none) g6) g7)
    have x0 := (sl.unhide F0_10).c0
    have x1 := (sl.unhide F0_10).c1
    have y0 := (sl.unhide V10).c0
    have y1 := (sl.unhide V10).c1
    clear IW10 X10 I10 IG10 F0_10 V10 B10
    go_region_with (first
      | (go_at_call 54; refine (sl.unhide T5).mono ?_; rintro e wA ⟨u6, rfl, o6, g6⟩; have z0 := (sl.unhide X5' wA g6).c0; have z1 := (sl.unhide X5' wA g6).c1; have E6 := sl.hide (sl.unhide E5 u6 wA g6 o6); have G6 := sl.hide (fun wB => sl.unhide G5 wA wB g6); clear g6 o6)
      | (go_at_call 56; refine (sl.unhide E6).mono ?_; rintro e wB ⟨rfl, g7⟩; have G7 := sl.hide (sl.unhide G6 wB g7); clear g7))
    all_goals (go_wp2_with fail; go_meet; exact ⟨rfl, G7⟩)
  case rest =>
    obtain ⟨rfl, hg⟩ := hcut
    have g11 := sl.unhide hg
    have s11 := sl.hide (g11).size
    have B11 := sl.hide (sl.below_none (sl.unhide B10) (g11))
    have IW11 := sl.hide ((sl.unhide IW10).kept (g11))
    have X11 := sl.hide ((sl.unhide X10).kept (g11))
    have I11 := sl.hide ((sl.unhide I10).kept (g11))
    have IG11 := sl.hide ((sl.unhide IG10).kept (g11))
    have F0_11 := sl.hide ((sl.unhide F0_10).kept (g11))
    have V11 := sl.hide ((sl.unhide V10).kept (g11))
    clear g11 hg B10 IW10 X10 I10 IG10 F0_10 V10
    go_wp2_with fail
    refine (sl.toIntS _ L1 _ hL1 ((sl.unhide S1).below (sl.unhide B11))).mono ?_; rintro e w12 ⟨rfl, o12, g12⟩
    have s12 := sl.hide (g12).size
    have B12 := sl.hide (sl.below_none (sl.unhide B11) (g12))
    have IW12 := sl.hide ((sl.unhide IW11).kept (g12))
    have X12 := sl.hide ((sl.unhide X11).kept (g12))
    have I12 := sl.hide ((sl.unhide I11).kept (g12))
    have IG12 := sl.hide ((sl.unhide IG11).kept (g12))
    have F0_12 := sl.hide ((sl.unhide F0_11).kept (g12))
    have V12 := sl.hide ((sl.unhide V11).kept (g12))
    have IJ12 := sl.hide (sl.Own.of o12)
    clear o12 g12 B11 IW11 X11 I11 IG11 F0_11 V11
    go_wp2_with fail
    refine (sl.eqIntS _ _ _ _ hL1 (sl.unhide I12).sl (sl.unhide IJ12).sl).mono ?_; rintro e w13 ⟨rfl, g13⟩
    have s13 := sl.hide (g13).size
    have B13 := sl.hide (sl.below_none (sl.unhide B12) (g13))
    have IW13 := sl.hide ((sl.unhide IW12).kept (g13))
    have X13 := sl.hide ((sl.unhide X12).kept (g13))
    have I13 := sl.hide ((sl.unhide I12).kept (g13))
    have IG13 := sl.hide ((sl.unhide IG12).kept (g13))
    have IJ13 := sl.hide ((sl.unhide IJ12).kept (g13))
    have F0_13 := sl.hide ((sl.unhide F0_12).kept (g13))
    have V13 := sl.hide ((sl.unhide V12).kept (g13))
    clear g13 B12 IW12 X12 I12 IG12 IJ12 F0_12 V12
    clear IJ13
    have zV0 := (sl.unhide V13).c0
    have zV1 := (sl.unhide V13).c1
    go_wp2_with fail
    refine (cf.markCnf _ n0 LL0 1 _ _ _ hn0 (by omega) (by omega) (sl.unhide X13)).mono ?_; rintro e w14 ⟨rfl, o14, g14⟩
    clear zV0 zV1
    have s14 := sl.hide g14.size
    have B14 := sl.hide (css.below_outs (sl.unhide B13) (by have s1_ := sl.unhide s1; have q1_ := sl.unhide q1; have s2_ := sl.unhide s2; have s3_ := sl.unhide s3; have s4_ := sl.unhide s4; have s5_ := sl.unhide s5; have s6_ := sl.unhide s6; have s7_ := sl.unhide s7; have q7_ := sl.unhide q7; have s8_ := sl.unhide s8; have s9_ := sl.unhide s9; have s10_ := sl.unhide s10; have s11_ := sl.unhide s11; have s12_ := sl.unhide s12; have s13_ := sl.unhide s13; have s14_ := sl.unhide s14; omega) g14)
    have IW14 := sl.hide (css.own_outs (sl.unhide IW13) g14 (by have s1_ := sl.unhide s1; have q1_ := sl.unhide q1; have s2_ := sl.unhide s2; have s3_ := sl.unhide s3; have s4_ := sl.unhide s4; have s5_ := sl.unhide s5; have s6_ := sl.unhide s6; have s7_ := sl.unhide s7; have q7_ := sl.unhide q7; have s8_ := sl.unhide s8; have s9_ := sl.unhide s9; have s10_ := sl.unhide s10; have s11_ := sl.unhide s11; have s12_ := sl.unhide s12; have s13_ := sl.unhide s13; have s14_ := sl.unhide s14; omega))
    have I14 := sl.hide (css.own_outs (sl.unhide I13) g14 (by have s1_ := sl.unhide s1; have q1_ := sl.unhide q1; have s2_ := sl.unhide s2; have s3_ := sl.unhide s3; have s4_ := sl.unhide s4; have s5_ := sl.unhide s5; have s6_ := sl.unhide s6; have s7_ := sl.unhide s7; have q7_ := sl.unhide q7; have s8_ := sl.unhide s8; have s9_ := sl.unhide s9; have s10_ := sl.unhide s10; have s11_ := sl.unhide s11; have s12_ := sl.unhide s12; have s13_ := sl.unhide s13; have s14_ := sl.unhide s14; omega))
    have IG14 := sl.hide (css.own_outs (sl.unhide IG13) g14 (by have s1_ := sl.unhide s1; have q1_ := sl.unhide q1; have s2_ := sl.unhide s2; have s3_ := sl.unhide s3; have s4_ := sl.unhide s4; have s5_ := sl.unhide s5; have s6_ := sl.unhide s6; have s7_ := sl.unhide s7; have q7_ := sl.unhide q7; have s8_ := sl.unhide s8; have s9_ := sl.unhide s9; have s10_ := sl.unhide s10; have s11_ := sl.unhide s11; have s12_ := sl.unhide s12; have s13_ := sl.unhide s13; have s14_ := sl.unhide s14; omega))
    have F0_14 := sl.hide ((sl.unhide F0_13).outs g14 (by have s1_ := sl.unhide s1; have q1_ := sl.unhide q1; have s2_ := sl.unhide s2; have s3_ := sl.unhide s3; have s4_ := sl.unhide s4; have s5_ := sl.unhide s5; have s6_ := sl.unhide s6; have s7_ := sl.unhide s7; have q7_ := sl.unhide q7; have s8_ := sl.unhide s8; have s9_ := sl.unhide s9; have s10_ := sl.unhide s10; have s11_ := sl.unhide s11; have s12_ := sl.unhide s12; have s13_ := sl.unhide s13; have s14_ := sl.unhide s14; omega))
    have V14 := sl.hide ((sl.unhide V13).outs g14 (by have s1_ := sl.unhide s1; have q1_ := sl.unhide q1; have s2_ := sl.unhide s2; have s3_ := sl.unhide s3; have s4_ := sl.unhide s4; have s5_ := sl.unhide s5; have s6_ := sl.unhide s6; have s7_ := sl.unhide s7; have q7_ := sl.unhide q7; have s8_ := sl.unhide s8; have s9_ := sl.unhide s9; have s10_ := sl.unhide s10; have s11_ := sl.unhide s11; have s12_ := sl.unhide s12; have s13_ := sl.unhide s13; have s14_ := sl.unhide s14; omega))
    clear o14 g14 X13 B13 IW13 I13 IG13 F0_13 V13
    go_wp2_with fail
    refine (sl.markIntS _ L1 (1 + (css.sumLen LL0 : Int)) _ _ hL1 (by omega) (by omega) (sl.unhide I14).1).mono ?_; rintro e w15 ⟨rfl, o15, gx15⟩
    have g15 := css.outs_by gx15 (fun q hq => And.intro ((sl.unhide I14).1.lt q hq).1 ((sl.unhide I14).2 q hq))
    have s15 := sl.hide g15.size
    have B15 := sl.hide (css.below_outs (sl.unhide B14) (by have s1_ := sl.unhide s1; have q1_ := sl.unhide q1; have s2_ := sl.unhide s2; have s3_ := sl.unhide s3; have s4_ := sl.unhide s4; have s5_ := sl.unhide s5; have s6_ := sl.unhide s6; have s7_ := sl.unhide s7; have q7_ := sl.unhide q7; have s8_ := sl.unhide s8; have s9_ := sl.unhide s9; have s10_ := sl.unhide s10; have s11_ := sl.unhide s11; have s12_ := sl.unhide s12; have s13_ := sl.unhide s13; have s14_ := sl.unhide s14; have s15_ := sl.unhide s15; omega) g15)
    have IW15 := sl.hide (css.own_outs (sl.unhide IW14) g15 (by have s1_ := sl.unhide s1; have q1_ := sl.unhide q1; have s2_ := sl.unhide s2; have s3_ := sl.unhide s3; have s4_ := sl.unhide s4; have s5_ := sl.unhide s5; have s6_ := sl.unhide s6; have s7_ := sl.unhide s7; have q7_ := sl.unhide q7; have s8_ := sl.unhide s8; have s9_ := sl.unhide s9; have s10_ := sl.unhide s10; have s11_ := sl.unhide s11; have s12_ := sl.unhide s12; have s13_ := sl.unhide s13; have s14_ := sl.unhide s14; have s15_ := sl.unhide s15; omega))
    have IG15 := sl.hide (css.own_outs (sl.unhide IG14) g15 (by have s1_ := sl.unhide s1; have q1_ := sl.unhide q1; have s2_ := sl.unhide s2; have s3_ := sl.unhide s3; have s4_ := sl.unhide s4; have s5_ := sl.unhide s5; have s6_ := sl.unhide s6; have s7_ := sl.unhide s7; have q7_ := sl.unhide q7; have s8_ := sl.unhide s8; have s9_ := sl.unhide s9; have s10_ := sl.unhide s10; have s11_ := sl.unhide s11; have s12_ := sl.unhide s12; have s13_ := sl.unhide s13; have s14_ := sl.unhide s14; have s15_ := sl.unhide s15; omega))
    have F0_15 := sl.hide ((sl.unhide F0_14).outs g15 (by have s1_ := sl.unhide s1; have q1_ := sl.unhide q1; have s2_ := sl.unhide s2; have s3_ := sl.unhide s3; have s4_ := sl.unhide s4; have s5_ := sl.unhide s5; have s6_ := sl.unhide s6; have s7_ := sl.unhide s7; have q7_ := sl.unhide q7; have s8_ := sl.unhide s8; have s9_ := sl.unhide s9; have s10_ := sl.unhide s10; have s11_ := sl.unhide s11; have s12_ := sl.unhide s12; have s13_ := sl.unhide s13; have s14_ := sl.unhide s14; have s15_ := sl.unhide s15; omega))
    have V15 := sl.hide ((sl.unhide V14).outs g15 (by have s1_ := sl.unhide s1; have q1_ := sl.unhide q1; have s2_ := sl.unhide s2; have s3_ := sl.unhide s3; have s4_ := sl.unhide s4; have s5_ := sl.unhide s5; have s6_ := sl.unhide s6; have s7_ := sl.unhide s7; have q7_ := sl.unhide q7; have s8_ := sl.unhide s8; have s9_ := sl.unhide s9; have s10_ := sl.unhide s10; have s11_ := sl.unhide s11; have s12_ := sl.unhide s12; have s13_ := sl.unhide s13; have s14_ := sl.unhide s14; have s15_ := sl.unhide s15; omega))
    clear o15 g15 gx15 I14 B14 IW14 IG14 F0_14 V14
    go_wp2_with fail
    refine (slw.eqIntS _ _ _ _ hR (sl.unhide IG15).sl (sl.unhide IW15).sl).mono ?_; rintro e w16 ⟨rfl, g16⟩
    have s16 := sl.hide (g16).size
    have B16 := sl.hide (sl.below_none (sl.unhide B15) (g16))
    have IW16 := sl.hide ((sl.unhide IW15).kept (g16))
    have IG16 := sl.hide ((sl.unhide IG15).kept (g16))
    have F0_16 := sl.hide ((sl.unhide F0_15).kept (g16))
    have V16 := sl.hide ((sl.unhide V15).kept (g16))
    clear g16 B15 IW15 IG15 F0_15 V15
    go_wp2_with fail
    refine (slw.markIntS _ R 1 _ _ hR (by omega) (by omega) (sl.unhide IG16).1).mono ?_; rintro e w17 ⟨rfl, o17, gx17⟩
    have g17 := css.outs_by gx17 (fun q hq => And.intro ((sl.unhide IG16).1.lt q hq).1 ((sl.unhide IG16).2 q hq))
    have s17 := sl.hide g17.size
    have B17 := sl.hide (css.below_outs (sl.unhide B16) (by have s1_ := sl.unhide s1; have q1_ := sl.unhide q1; have s2_ := sl.unhide s2; have s3_ := sl.unhide s3; have s4_ := sl.unhide s4; have s5_ := sl.unhide s5; have s6_ := sl.unhide s6; have s7_ := sl.unhide s7; have q7_ := sl.unhide q7; have s8_ := sl.unhide s8; have s9_ := sl.unhide s9; have s10_ := sl.unhide s10; have s11_ := sl.unhide s11; have s12_ := sl.unhide s12; have s13_ := sl.unhide s13; have s14_ := sl.unhide s14; have s15_ := sl.unhide s15; have s16_ := sl.unhide s16; have s17_ := sl.unhide s17; omega) g17)
    have IW17 := sl.hide (css.own_outs (sl.unhide IW16) g17 (by have s1_ := sl.unhide s1; have q1_ := sl.unhide q1; have s2_ := sl.unhide s2; have s3_ := sl.unhide s3; have s4_ := sl.unhide s4; have s5_ := sl.unhide s5; have s6_ := sl.unhide s6; have s7_ := sl.unhide s7; have q7_ := sl.unhide q7; have s8_ := sl.unhide s8; have s9_ := sl.unhide s9; have s10_ := sl.unhide s10; have s11_ := sl.unhide s11; have s12_ := sl.unhide s12; have s13_ := sl.unhide s13; have s14_ := sl.unhide s14; have s15_ := sl.unhide s15; have s16_ := sl.unhide s16; have s17_ := sl.unhide s17; omega))
    have F0_17 := sl.hide ((sl.unhide F0_16).outs g17 (by have s1_ := sl.unhide s1; have q1_ := sl.unhide q1; have s2_ := sl.unhide s2; have s3_ := sl.unhide s3; have s4_ := sl.unhide s4; have s5_ := sl.unhide s5; have s6_ := sl.unhide s6; have s7_ := sl.unhide s7; have q7_ := sl.unhide q7; have s8_ := sl.unhide s8; have s9_ := sl.unhide s9; have s10_ := sl.unhide s10; have s11_ := sl.unhide s11; have s12_ := sl.unhide s12; have s13_ := sl.unhide s13; have s14_ := sl.unhide s14; have s15_ := sl.unhide s15; have s16_ := sl.unhide s16; have s17_ := sl.unhide s17; omega))
    have V17 := sl.hide ((sl.unhide V16).outs g17 (by have s1_ := sl.unhide s1; have q1_ := sl.unhide q1; have s2_ := sl.unhide s2; have s3_ := sl.unhide s3; have s4_ := sl.unhide s4; have s5_ := sl.unhide s5; have s6_ := sl.unhide s6; have s7_ := sl.unhide s7; have q7_ := sl.unhide q7; have s8_ := sl.unhide s8; have s9_ := sl.unhide s9; have s10_ := sl.unhide s10; have s11_ := sl.unhide s11; have s12_ := sl.unhide s12; have s13_ := sl.unhide s13; have s14_ := sl.unhide s14; have s15_ := sl.unhide s15; have s16_ := sl.unhide s16; have s17_ := sl.unhide s17; omega))
    have IG17 := sl.hide ((sl.unhide IG16).marked o17)
    clear o17 g17 gx17 IG16 B16 IW16 F0_16 V16
    go_wp2_with fail
    refine (slw.heldIntS _ _ 1 _ hR (by decide) (by decide) (sl.unhide IG17).sl).mono ?_; rintro e v' ⟨rfl, hw⟩; have hw' := hw.symm; clear hw; subst hw'
    have zF0_0 := (sl.unhide F0_17).c0
    have zF0_1 := (sl.unhide F0_17).c1
    go_wp2_with fail
    refine (cf.toCnf v0 n0 LL0 _ hn0 ((sl.unhide S0).below (sl.unhide B17))).mono ?_; rintro e w18 ⟨u18, rfl, o18, g18⟩
    clear zF0_0 zF0_1
    obtain ⟨a18_, c18_, rfl⟩ := o18.len
    have s18 := sl.hide (g18).size
    have B18 := sl.hide (sl.below_none (sl.unhide B17) (g18))
    have IW18 := sl.hide ((sl.unhide IW17).kept (g18))
    have IG18 := sl.hide ((sl.unhide IG17).kept (g18))
    have F0_18 := sl.hide ((sl.unhide F0_17).kept (g18))
    have V18 := sl.hide ((sl.unhide V17).kept (g18))
    have Y18 := sl.hide o18
    clear o18 g18 B17 IW17 IG17 F0_17 V17
    go_wp2_with fail
    refine (sl.toIntS _ L1 _ hL1 ((sl.unhide S1).below (sl.unhide B18))).mono ?_; rintro e w19 ⟨rfl, o19, g19⟩
    have s19 := sl.hide (g19).size
    have B19 := sl.hide (sl.below_none (sl.unhide B18) (g19))
    have IW19 := sl.hide ((sl.unhide IW18).kept (g19))
    have IG19 := sl.hide ((sl.unhide IG18).kept (g19))
    have Y19 := sl.hide ((sl.unhide Y18).kept (g19))
    have F0_19 := sl.hide ((sl.unhide F0_18).kept (g19))
    have V19 := sl.hide ((sl.unhide V18).kept (g19))
    have I19 := sl.hide (sl.Own.of o19)
    clear o19 g19 B18 IW18 IG18 Y18 F0_18 V18
    go_wp2_with fail
    refine (sl.unhide CI _ _ _ _ _ ((sl.unhide TT).below (sl.unhide B19)) (sl.unhide Y19).sls (sl.unhide I19)).mono ?_; rintro e w20 ⟨u20, rfl, o20, g20⟩
    have s20 := sl.hide (g20).size
    have B20 := sl.hide (sl.below_none (sl.unhide B19) (g20))
    have IW20 := sl.hide ((sl.unhide IW19).kept (g20))
    have IG20 := sl.hide ((sl.unhide IG19).kept (g20))
    have Y20 := sl.hide ((sl.unhide Y19).kept (g20))
    have I20 := sl.hide ((sl.unhide I19).kept (g20))
    have F0_20 := sl.hide ((sl.unhide F0_19).kept (g20))
    have V20 := sl.hide ((sl.unhide V19).kept (g20))
    have IH20 := sl.hide (sl.Own.of o20)
    clear o20 g20 B19 IW19 IG19 Y19 I19 F0_19 V19
    clear Y20 I20
    go_wp2_with fail
    refine (slw.eqIntS _ _ _ _ hR (sl.unhide IH20).sl (sl.unhide IW20).sl).mono ?_; rintro e w21 ⟨rfl, g21⟩
    have s21 := sl.hide (g21).size
    have B21 := sl.hide (sl.below_none (sl.unhide B20) (g21))
    have IW21 := sl.hide ((sl.unhide IW20).kept (g21))
    have IG21 := sl.hide ((sl.unhide IG20).kept (g21))
    have IH21 := sl.hide ((sl.unhide IH20).kept (g21))
    have F0_21 := sl.hide ((sl.unhide F0_20).kept (g21))
    have V21 := sl.hide ((sl.unhide V20).kept (g21))
    clear g21 B20 IW20 IG20 IH20 F0_20 V20
    go_wp2_with fail
    refine (slw.heldIntS _ _ 1 _ hR (by decide) (by decide) (sl.unhide IG21).sl).mono ?_; rintro e v' ⟨rfl, hw⟩; have hw' := hw.symm; clear hw; subst hw'
    go_wp2_with fail
    go_ret
    exact ⟨rfl, sl.unhide B21⟩

/-! ### the row's step (the guide's own frame) -/
set_option maxRecDepth 100000 in
theorem contract (H : Type) (enc : TypeId × Value → H) (W : World) (base : Nat) (args : Array Value) (ds gs : List (DataW H)) (before : List MemPlace)
    (hval : ∀ (j : Nat) t v, Tryd.f10.params[j]? = some t → args[j]? = some v → Value.okWide Tryd.prog W .any base t v)
    (hW : DataW.Whole enc Tryd.prog Tryd.f10.params.toList Rows.fnExactForceSpec.vars false W args.toList ds gs before) (hL : laidMetH Tryd.prog Rows.fnExactForceRow.laid W) :
    Calls Tryd.prog 10 args W fun e W' => ∃ v, e = .returned v ∧ Rows.fnExactForceSpec.post enc Tryd.prog Tryd.f10 false true false false W args v W' := by
  have hW' := hW
  obtain ⟨p, q, hA0, hV, rfl, hfz, hnd⟩ := hW
  have hA : DataW.TrodAll enc Tryd.prog W 0 (fun _ => true) true Tryd.f10.params.toList args.toList ds p := hA0
  rw [Tryd.params10] at hA hval
  obtain ⟨x0, vs0, d0, ds0, p0, q0, hargs, rfl, rfl, h0, r0⟩ := trodAll_cons hA
  obtain ⟨x1, vs1, d1, ds1, p1, q1, rfl, rfl, rfl, h1, r1⟩ := trodAll_cons r0
  obtain ⟨rfl, rfl, rfl⟩ := trodAll_nil r1
  obtain rfl : args = #[x0, x1] := by cases args; simp_all
  obtain ⟨rfl, rfl⟩ := trodVars_none hV
  obtain ⟨cs0, rfl, _⟩ := okWide_struct Tryd.underlying56 (hval 0 56 _ rfl rfl)
  have k0 := h0
  have lt0 : ∀ x ∈ p0, x.block < W.heap.size := by obtain ⟨m, hm⟩ := k0; exact DataW.trod_lt m _ _ _ hm
  obtain ⟨n0, v0, LL0, e0, f0, w0⟩ : ∃ n v LL, cs0 = #[.int .i64 n, v] ∧ (Lit.int .i64 n).wf = true ∧ row.IsRows W v LL := by
    obtain ⟨fuel, hf⟩ := h0
    obtain ⟨n, v, LL, e, hw, hv⟩ := row.open_cnf hf
    refine ⟨n, v, LL, ?_, hw, hv⟩
    cases cs0
    simpa [Value.cells] using e
  subst e0
  obtain ⟨a1, len1, cap1, rfl⟩ := okWide_slice Tryd.underlying24 (hval 1 24 _ rfl rfl)
  have k1 := h1
  have lt1 : ∀ x ∈ p1, x.block < W.heap.size := by obtain ⟨m, hm⟩ := k1; exact DataW.trod_lt m _ _ _ hm
  obtain ⟨z1, w1⟩ : ∃ zs, IsRow .i64 W a1 len1 cap1 zs := by
    obtain ⟨fuel, hf⟩ := h1
    rcases open_ints Tryd.underlying24 Tryd.underlying3 (by kernel_rfl) hf with ⟨hcs, _⟩ | ⟨x, l, c, zs, hcs, _, hl, hm, hz, _, hcell, hwz⟩
    · simp [Value.cells] at hcs
      obtain ⟨rfl, rfl, rfl⟩ := hcs
      exact ⟨[], .inl ⟨rfl, rfl, rfl, rfl⟩⟩
    · simp [Value.cells] at hcs
      obtain ⟨rfl, rfl, rfl⟩ := hcs
      exact ⟨zs, .inr ⟨_, rfl, hl, hm, by simpa using hz, hcell, hwz⟩⟩
  clear hA0
  refine (walk n0 v0 LL0 a1 len1 cap1 z1 W f0 w0 w1 (table hL)).mono fun e W' ⟨he, bel⟩ => ?_
  subst he
  exact ⟨_, rfl, _, _, _, [], _, [], hW', trodAll_mk1 (shut_bool Tryd.underlying4 _), (trodAll_cons_mk (Below.trod laidOut (by kernel_rfl) (of_decide_eq_true (by kernel_rfl)) k0 bel lt0) (trodAll_cons_mk (Below.trod laidOut (by kernel_rfl) (of_decide_eq_true (by kernel_rfl)) k1 bel lt1) trodAll_mk0)), rfl, bel.frame _, fun h => by cases h⟩

set_option maxRecDepth 100000 in
theorem lifted (os : Os) (started : os.Started) (H : Type) (enc : TypeId × Value → H) (F : Stop.Interp) :
    ReturnsInHanded {} Tryd.checked os 10 .any ((OpenSpec.ofChange Rows.fnExactForceSpec).preRow enc Tryd.prog Tryd.f10 Rows.fnExactForceRow.domain false Rows.fnExactForceRow.laid) (((OpenSpec.ofChange Rows.fnExactForceSpec).at F).post enc Tryd.prog Tryd.f10 false true false false) := by
  refine returnsInHanded_of_row (C := Tryd.checked) (s := OpenSpec.ofChange Rows.fnExactForceSpec) own started (by kernel_rfl) Tryd.func10
    (witness_row_at (enc := enc) (C := Tryd.checked) false ({ World.holding Tryd.prog os ⟨#[], #[], []⟩ with heap := (World.holding Tryd.prog os ⟨#[], #[], []⟩).heap.modify 1 fun | .cells _ t frozen => .cells (Lib.deBruijn64tab.map fun (n : Nat) => Value.int .u8 n).toArray t frozen | o => o } : World) #[.agg #[.int .i64 0, .slice none 0 0], .slice none 0 0] rfl (by kernel_rfl) (by kernel_rfl) (by kernel_rfl)
      (OpenSpec.preRow_of_cond 8 (x := ([.agg [.lit (.int .i64 0), .nil], .nil], [], [])) (by kernel_rfl) (by kernel_rfl) (fun k hk => by cases hk) (by kernel_rfl) (laidMet_of_run' 8 (by kernel_rfl) (by kernel_rfl)))) ?_
  intro W base args ds gs before hval hW _ _ _ hL _ _
  exact contract H enc W base args ds gs before hval hW hL

theorem said : Rows.FnExactForceSaid :=
  OpenClaim.holds_of_cond 10 Tryd.f10 rfl rfl rfl rfl rfl rfl rfl ⟨rfl, rfl, rfl, rfl, rfl⟩ rfl rfl rfl rfl rfl (by kernel_rfl) Tryd.func10 (by kernel_rfl)
    (of_decide_eq_true (by kernel_rfl)) (by unfold Func.isWrapper; first | (rw [if_pos (by decide +kernel)]; kernel_rfl) | (rw [if_neg (by decide +kernel)]; exact ⟨rfl, rfl⟩))
    (fun os started H enc _ F => by rw [OpenClaim.pre_eq_preRow]; exact lifted os started H enc F)

theorem plain (f : FuncId) (fn : Func) (hf : Tryd.pinned.checked.prog.funcNamed "loop.example/g00123/laws.FnExactForce" = some f) (hfn : Tryd.pinned.checked.prog.funcs[f]? = some fn) :
    true = Tryd.pinned.checked.prog.looks [] ∧ ∀ (j : Nat) t, fn.params[j]? = some t → Tryd.pinned.checked.prog.wantsStandIn t = false := by
  obtain rfl : f = 10 := Option.some.inj ((show Tryd.prog.funcNamed "loop.example/g00123/laws.FnExactForce" = some 10 by kernel_rfl).symm.trans hf) |>.symm
  obtain rfl : fn = Tryd.f10 := (Option.some.inj (Tryd.func10.symm.trans hfn)).symm
  refine ⟨by kernel_rfl, fun j t ht => ?_⟩
  rw [Tryd.params10] at ht
  have hm := Array.mem_of_getElem? ht
  simp only [List.mem_toArray, List.mem_cons, List.not_mem_nil, or_false] at hm
  rcases hm with rfl | rfl
  · exact (show Tryd.prog.wantsStandIn 56 = false by kernel_rfl)
  · exact (show Tryd.prog.wantsStandIn 24 = false by kernel_rfl)

/-- the statement: the row's tied card -/
theorem proved : Rows.FnExactForceCardSaid :=
  Claim7.holds_tied_plain_at .later [] _ _ _ _ said (fun _ h => by cases h) (by kernel_rfl) (fun _ h => by cases h) fnExactForce_row_tie rfl ⟨rfl, rfl⟩ (by kernel_rfl) rfl plain (by kernel_rfl)
#print axioms proved
end Go.Proofs.YtloenjaonkdlaaaDoor.fnExactForce
