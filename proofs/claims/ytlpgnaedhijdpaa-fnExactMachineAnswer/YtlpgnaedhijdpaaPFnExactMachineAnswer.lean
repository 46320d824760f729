/- At every machine impl.MachineAnswer answers as spec.MachineAnswer, writes nothing into its argument and its answer owns its memory (the law FnExactMachineAnswer returns true); no condition. -/
import Derived.Test.YtlpgnaedhijdpaaRows
import Derived.Test.YtlpgnaedhijdpaaRm
import Derived.Test.YtlpgnaedhijdpaaQd
import Derived.WalkKit
import Derived.ProofKit
import Derived.OpenShut
import Derived.ShutString
import Derived.ChangeOld
import Derived.Below
namespace Go.Proofs.Ytlpgnaedhijdpaa.fnExactMachineAnswer
open Go.ChangeShapes Go.WideShapes Go.ChangeAt Go.RowKit
open Go.ChangeMaps (open_string shut_string)
set_option linter.unusedVariables false

theorem own : ownKnob Try.prog.godebug = none := by kernel_rfl
theorem laidOut : laidOutB Try.prog = true := by kernel_rfl

/-! ### the walk -/
set_option maxRecDepth 100000 in
set_option maxHeartbeats 8000000 in
theorem walk (n0 : Int) (v0 : Value) (LL0 : List (List Int)) (q0 : Value) (P0 : List Int) (ss0 kk0 : Int) (w : World) (w0 : row.IsRows w v0 LL0) (p0 : sl.Sl w q0 P0) (l0 : P0.length ≤ 9223372036854775807) :
    Calls Try.prog 7 #[.agg #[.int .i64 n0, v0, q0, .int .i64 ss0, .int .i64 kk0]] w fun e w' => e = .returned (.bool true) ∧ Below w.heap.size w w' := by
  obtain ⟨hS0, hl0, hk0⟩ := w0
  have T0 := sl.hide p0
  obtain ⟨qa0, qc0, rfl, _⟩ := p0
  have s1 := sl.hide (World.grownBy_alloc w (.cells #[.int .i64 n0, v0, .slice qa0 P0.length qc0, .int .i64 ss0, .int .i64 kk0] 47) none).size
  have B1 := sl.hide (sl.below_of (World.grownBy_alloc w (.cells #[.int .i64 n0, v0, .slice qa0 P0.length qc0, .int .i64 ss0, .int .i64 kk0] 47) none))
  have q1 : Hid ((w.alloc (.cells #[.int .i64 n0, v0, .slice qa0 P0.length qc0, .int .i64 ss0, .int .i64 kk0] 47)).heap.size = w.heap.size + 1) := World.size_alloc ..
  have F0_1 := sl.hide (qa.Box5.new 47 w (.int .i64 n0) v0 (.slice qa0 P0.length qc0) (.int .i64 ss0) (.int .i64 kk0))
  have S0 := sl.hide hS0
  clear hS0
  go_enter Try.func7, Try.ntmps7
  have zF0_0 := (sl.unhide F0_1).c0
  have zF0_1 := (sl.unhide F0_1).c1
  have zF0_2 := (sl.unhide F0_1).c2
  have zF0_3 := (sl.unhide F0_1).c3
  have zF0_4 := (sl.unhide F0_1).c4
  go_wp2_with fail
  refine (qa.szMachine v0 qa0 qc0 n0 ss0 kk0 LL0 P0 1048576 _ (by decide) (by decide) hl0 hk0 l0 ((sl.unhide S0).below (sl.unhide B1))).mono ?_; rintro e w2 ⟨r0, rfl, g2, hr⟩
  clear zF0_0 zF0_1 zF0_2 zF0_3 zF0_4
  have s2 := sl.hide (g2).size
  have B2 := sl.hide (sl.below_none (sl.unhide B1) (g2))
  have F0_2 := sl.hide ((sl.unhide F0_1).kept (g2))
  clear g2 B1 F0_1
  rcases hr with rfl | ⟨hr0, hr1⟩
  · go_wp2_with fail
    go_ret
    exact ⟨rfl, sl.unhide B2⟩
  have hn0 : css.tot LL0 ≤ 1048576 := by omega
  have hP0 : P0.length ≤ 1048576 := by omega
  have hq0 : ¬ r0 < 0 := by omega
  clear hr0 hr1 l0
  obtain ⟨R, b, hR, cs, ci⟩ := qd.bothA n0 ss0 kk0 LL0 P0 hn0 hP0
  have CS := sl.hide cs
  have CI := sl.hide ci
  clear cs ci
  have hsl : css.sumLen LL0 ≤ 1048576 := Nat.le_trans (css.sumLen_le LL0) hn0
  have hz1 : decide ((1 : Int) + (css.sumLen LL0 : Int) + (P0.length : Int) < 0) = false := decide_eq_false (by omega)
  have hz2 : ¬ (1 : Int) + (R.length : Int) < 0 := by omega
  have zF0_0 := (sl.unhide F0_2).c0
  have zF0_1 := (sl.unhide F0_2).c1
  have zF0_2 := (sl.unhide F0_2).c2
  have zF0_3 := (sl.unhide F0_2).c3
  have zF0_4 := (sl.unhide F0_2).c4
  go_wp2_with fail
  refine (qa.toMachine v0 _ n0 ss0 kk0 LL0 P0 _ hn0 hP0 ((sl.unhide S0).below (sl.unhide B2)) ((sl.unhide T0).below (sl.unhide B2))).mono ?_; rintro e w3 ⟨u3, p3, rfl, o3, g3⟩
  clear zF0_0 zF0_1 zF0_2 zF0_3 zF0_4
  obtain ⟨a3_, c3_, b3_, d3_, rfl, rfl⟩ := o3.len
  have s3 := sl.hide (g3).size
  have B3 := sl.hide (sl.below_none (sl.unhide B2) (g3))
  have F0_3 := sl.hide ((sl.unhide F0_2).kept (g3))
  have MP3 := sl.hide o3
  clear o3 g3 B2 F0_2
  go_wp2_with fail
  refine (sl.unhide CS _ _ _ (sl.unhide MP3).sls (sl.unhide MP3).sl).mono ?_; rintro e w4 ⟨u4, rfl, o4, g4⟩
  have s4 := sl.hide (g4).size
  have B4 := sl.hide (sl.below_none (sl.unhide B3) (g4))
  have MP4 := sl.hide ((sl.unhide MP3).kept (g4))
  have F0_4 := sl.hide ((sl.unhide F0_3).kept (g4))
  have IW4 := sl.hide (sl.Own.of o4)
  clear o4 g4 B3 MP3 F0_3
  clear MP4
  have zF0_0 := (sl.unhide F0_4).c0
  have zF0_1 := (sl.unhide F0_4).c1
  have zF0_2 := (sl.unhide F0_4).c2
  have zF0_3 := (sl.unhide F0_4).c3
  have zF0_4 := (sl.unhide F0_4).c4
  go_wp2_with fail
  refine (qa.toMachine v0 _ n0 ss0 kk0 LL0 P0 _ hn0 hP0 ((sl.unhide S0).below (sl.unhide B4)) ((sl.unhide T0).below (sl.unhide B4))).mono ?_; rintro e w5 ⟨u5, p5, rfl, o5, g5⟩
  clear zF0_0 zF0_1 zF0_2 zF0_3 zF0_4
  obtain ⟨a5_, c5_, b5_, d5_, rfl, rfl⟩ := o5.len
  have s5 := sl.hide (g5).size
  have B5 := sl.hide (sl.below_none (sl.unhide B4) (g5))
  have IW5 := sl.hide ((sl.unhide IW4).kept (g5))
  have F0_5 := sl.hide ((sl.unhide F0_4).kept (g5))
  have MX5 := sl.hide o5
  clear o5 g5 B4 IW4 F0_4
  have s6 := sl.hide (World.grownBy_alloc w5 (.cells #[.int .i64 n0, .slice a5_ LL0.length c5_, .slice b5_ P0.length d5_, .int .i64 ss0, .int .i64 kk0] 51) none).size
  have B6 := sl.hide (sl.below_none (sl.unhide B5) (World.grownBy_alloc w5 (.cells #[.int .i64 n0, .slice a5_ LL0.length c5_, .slice b5_ P0.length d5_, .int .i64 ss0, .int .i64 kk0] 51) none))
  have IW6 := sl.hide ((sl.unhide IW5).kept (World.grownBy_alloc w5 (.cells #[.int .i64 n0, .slice a5_ LL0.length c5_, .slice b5_ P0.length d5_, .int .i64 ss0, .int .i64 kk0] 51) none))
  have MX6 := sl.hide ((sl.unhide MX5).kept (World.grownBy_alloc w5 (.cells #[.int .i64 n0, .slice a5_ LL0.length c5_, .slice b5_ P0.length d5_, .int .i64 ss0, .int .i64 kk0] 51) none))
  have F0_6 := sl.hide ((sl.unhide F0_5).kept (World.grownBy_alloc w5 (.cells #[.int .i64 n0, .slice a5_ LL0.length c5_, .slice b5_ P0.length d5_, .int .i64 ss0, .int .i64 kk0] 51) none))
  have q6 : Hid ((w5.alloc (.cells #[.int .i64 n0, .slice a5_ LL0.length c5_, .slice b5_ P0.length d5_, .int .i64 ss0, .int .i64 kk0] 51)).heap.size = w5.heap.size + 1) := World.size_alloc ..
  have V6 := sl.hide (qa.Box5.new 51 w5 (.int .i64 n0) (.slice a5_ LL0.length c5_) (.slice b5_ P0.length d5_) (.int .i64 ss0) (.int .i64 kk0))
  clear B5 IW5 MX5 F0_5
  have zV0 := (sl.unhide V6).c0
  have zV1 := (sl.unhide V6).c1
  have zV2 := (sl.unhide V6).c2
  have zV3 := (sl.unhide V6).c3
  have zV4 := (sl.unhide V6).c4
  go_wp2_with fail
  refine (sl.unhide CI _ _ _ (sl.unhide MX6).sls (sl.unhide MX6).sl).mono ?_; rintro e w7 ⟨u7, rfl, o7, g7⟩
  clear zV0 zV1 zV2 zV3 zV4
  simp only [World.size_alloc] at o7
  have s7 := sl.hide (g7).size
  have B7 := sl.hide (sl.below_none (sl.unhide B6) (g7))
  have IW7 := sl.hide ((sl.unhide IW6).kept (g7))
  have MX7 := sl.hide ((sl.unhide MX6).kept (g7))
  have F0_7 := sl.hide ((sl.unhide F0_6).kept (g7))
  have V7 := sl.hide ((sl.unhide V6).kept (g7))
  have IG7 := sl.hide (sl.Own.of o7)
  clear o7 g7 B6 IW6 MX6 F0_6 V6
  go_wp2_with fail
  refine (sl.eqIntS _ _ _ _ hR (sl.unhide IG7).sl (sl.unhide IW7).sl).mono ?_; rintro e w8 ⟨rfl, g8⟩
  have s8 := sl.hide (g8).size
  have B8 := sl.hide (sl.below_none (sl.unhide B7) (g8))
  have IW8 := sl.hide ((sl.unhide IW7).kept (g8))
  have MX8 := sl.hide ((sl.unhide MX7).kept (g8))
  have IG8 := sl.hide ((sl.unhide IG7).kept (g8))
  have F0_8 := sl.hide ((sl.unhide F0_7).kept (g8))
  have V8 := sl.hide ((sl.unhide V7).kept (g8))
  clear g8 B7 IW7 MX7 IG7 F0_7 V7
  go_upto_region 10 with fail
  go_cut [45] (fun q wx => q = .bool false ∧ Hid (w8.grownBy wx none))
  case first =>
    have T5 := sl.hide (qa.toMachine v0 _ n0 ss0 kk0 LL0 P0 w8.drew hn0 hP0 (((sl.unhide S0).below (sl.unhide B8)).kept (cf.grown_drew w8 none)) (((sl.unhide T0).below (sl.unhide B8)).kept (cf.grown_drew w8 none) (.inl rfl)))
    have E5 := sl.hide (fun u6 p6 wA (g6 : w8.drew.grownBy wA none) (o6 : qa.OwnM w8.drew.heap.size wA.heap.size wA u6 p6 LL0 P0) => qa.eqMachine _ u6 _ p6 n0 ss0 kk0 LL0 P0 wA hn0 hP0 ((sl.unhide MX8).kept (sl.grown_trans (r := none) (cf.grown_drew w8 none) g6)).sls o6.sls ((sl.unhide MX8).kept (sl.grown_trans (r := none) (cf.grown_drew w8 none) g6)).sl o6.sl)
    have X5' := sl.hide (fun wA (g6 : w8.drew.grownBy wA none) => (sl.unhide V8).kept (sl.grown_trans (r := none) (cf.grown_drew w8 none) g6))
    have F5' := sl.hide (fun wA (g6 : w8.drew.grownBy wA none) => (sl.unhide F0_8).kept (sl.grown_trans (r := none) (cf.grown_drew w8 none) g6))
    have G5 := sl.hide (fun wA wB (g6 : w8.drew.grownBy wA none) (g7 : wA.grownBy wB none) => sl.grown_trans (r := none) (sl.grown_trans (r := none) (cf.grown_drew w8 none) g6) g7)
    have x0 := (sl.unhide F0_8).c0
    have x1 := (sl.unhide F0_8).c1
    have x2 := (sl.unhide F0_8).c2
    have x3 := (sl.unhide F0_8).c3
    have x4 := (sl.unhide F0_8).c4
    have y0 := (sl.unhide V8).c0
    have y1 := (sl.unhide V8).c1
    have y2 := (sl.unhide V8).c2
    have y3 := (sl.unhide V8).c3
    have y4 := (sl.unhide V8).c4
    clear IW8 MX8 IG8 F0_8 V8 B8
    go_region_held3 (fun w' => w'.cell? ⟨w.heap.size, 0, none⟩ = some (.int .i64 n0) ∧ w'.cell? ⟨w.heap.size, 1, none⟩ = some (v0) ∧ w'.cell? ⟨w.heap.size, 2, none⟩ = some (.slice qa0 P0.length qc0) ∧ w'.cell? ⟨w.heap.size, 3, none⟩ = some (.int .i64 ss0) ∧ w'.cell? ⟨w.heap.size, 4, none⟩ = some (.int .i64 kk0) ∧ w'.cell? ⟨w5.heap.size, 0, none⟩ = some (.int .i64 n0) ∧ w'.cell? ⟨w5.heap.size, 1, none⟩ = some (.slice a5_ LL0.length c5_) ∧ w'.cell? ⟨w5.heap.size, 2, none⟩ = some (.slice b5_ P0.length d5_) ∧ w'.cell? ⟨w5.heap.size, 3, none⟩ = some (.int .i64 ss0) ∧ w'.cell? ⟨w5.heap.size, 4, none⟩ = some (.int .i64 kk0)) (go_keep) (first
      | (go_at_call 28; refine (sl.unhide T5).mono ?_; rintro e wA ⟨u6, p6, rfl, o6, g6⟩; have k0 := (sl.unhide F5' wA g6).c0; have k1 := (sl.unhide F5' wA g6).c1; have k2 := (sl.unhide F5' wA g6).c2; have k3 := (sl.unhide F5' wA g6).c3; have k4 := (sl.unhide F5' wA g6).c4; have z0 := (sl.unhide X5' wA g6).c0; have z1 := (sl.unhide X5' wA g6).c1; have z2 := (sl.unhide X5' wA g6).c2; have z3 := (sl.unhide X5' wA g6).c3; have z4 := (sl.unhide X5' wA g6).c4; have E6 := sl.hide (sl.unhide E5 u6 p6 wA g6 o6); have G6 := sl.hide (fun wB => sl.unhide G5 wA wB g6); have GA := sl.hide g6; clear g6 o6)
      | (go_at_call 30; refine (sl.unhide E6).mono ?_; rintro e wB ⟨rfl, g7⟩; have r0 := ((sl.unhide F5' wA (sl.unhide GA)).kept g7).c0; have r1 := ((sl.unhide F5' wA (sl.unhide GA)).kept g7).c1; have r2 := ((sl.unhide F5' wA (sl.unhide GA)).kept g7).c2; have r3 := ((sl.unhide F5' wA (sl.unhide GA)).kept g7).c3; have r4 := ((sl.unhide F5' wA (sl.unhide GA)).kept g7).c4; have t0 := ((sl.unhide X5' wA (sl.unhide GA)).kept g7).c0; have t1 := ((sl.unhide X5' wA (sl.unhide GA)).kept g7).c1; have t2 := ((sl.unhide X5' wA (sl.unhide GA)).kept g7).c2; have t3 := ((sl.unhide X5' wA (sl.unhide GA)).kept g7).c3; have t4 := ((sl.unhide X5' wA (sl.unhide GA)).kept g7).c4; have G7 := sl.hide (sl.unhide G6 wB g7); clear g7))
    all_goals (go_wp2_with fail; go_meet; exact ⟨rfl, G7⟩)
  case rest =>
    obtain ⟨rfl, hg⟩ := hcut
    have g9 := sl.unhide hg
    have s9 := sl.hide (g9).size
    have B9 := sl.hide (sl.below_none (sl.unhide B8) (g9))
    have IW9 := sl.hide ((sl.unhide IW8).kept (g9))
    have MX9 := sl.hide ((sl.unhide MX8).kept (g9))
    have IG9 := sl.hide ((sl.unhide IG8).kept (g9))
    have F0_9 := sl.hide ((sl.unhide F0_8).kept (g9))
    have V9 := sl.hide ((sl.unhide V8).kept (g9))
    clear g9 hg B8 IW8 MX8 IG8 F0_8 V8
    have zV0 := (sl.unhide V9).c0
    have zV1 := (sl.unhide V9).c1
    have zV2 := (sl.unhide V9).c2
    have zV3 := (sl.unhide V9).c3
    have zV4 := (sl.unhide V9).c4
    go_wp2_with fail
    refine (qa.markMachine _ _ n0 ss0 kk0 LL0 P0 1 _ _ _ hn0 hP0 (by omega) (by omega) (by have s1_ := sl.unhide s1; have q1_ := sl.unhide q1; have s2_ := sl.unhide s2; have s3_ := sl.unhide s3; have s4_ := sl.unhide s4; have s5_ := sl.unhide s5; have s6_ := sl.unhide s6; have q6_ := sl.unhide q6; have s7_ := sl.unhide s7; have s8_ := sl.unhide s8; have s9_ := sl.unhide s9; omega) (sl.unhide MX9)).mono ?_; rintro e w10 ⟨rfl, o10, g10⟩
    clear zV0 zV1 zV2 zV3 zV4
    have s10 := sl.hide g10.size
    have B10 := sl.hide (css.below_outs (sl.unhide B9) (by have s1_ := sl.unhide s1; have q1_ := sl.unhide q1; have s2_ := sl.unhide s2; have s3_ := sl.unhide s3; have s4_ := sl.unhide s4; have s5_ := sl.unhide s5; have s6_ := sl.unhide s6; have q6_ := sl.unhide q6; have s7_ := sl.unhide s7; have s8_ := sl.unhide s8; have s9_ := sl.unhide s9; have s10_ := sl.unhide s10; omega) g10)
    have IW10 := sl.hide (css.own_outs (sl.unhide IW9) g10 (by have s1_ := sl.unhide s1; have q1_ := sl.unhide q1; have s2_ := sl.unhide s2; have s3_ := sl.unhide s3; have s4_ := sl.unhide s4; have s5_ := sl.unhide s5; have s6_ := sl.unhide s6; have q6_ := sl.unhide q6; have s7_ := sl.unhide s7; have s8_ := sl.unhide s8; have s9_ := sl.unhide s9; have s10_ := sl.unhide s10; omega))
    have IG10 := sl.hide (css.own_outs (sl.unhide IG9) g10 (by have s1_ := sl.unhide s1; have q1_ := sl.unhide q1; have s2_ := sl.unhide s2; have s3_ := sl.unhide s3; have s4_ := sl.unhide s4; have s5_ := sl.unhide s5; have s6_ := sl.unhide s6; have q6_ := sl.unhide q6; have s7_ := sl.unhide s7; have s8_ := sl.unhide s8; have s9_ := sl.unhide s9; have s10_ := sl.unhide s10; omega))
    have F0_10 := sl.hide ((sl.unhide F0_9).outs g10 (by have s1_ := sl.unhide s1; have q1_ := sl.unhide q1; have s2_ := sl.unhide s2; have s3_ := sl.unhide s3; have s4_ := sl.unhide s4; have s5_ := sl.unhide s5; have s6_ := sl.unhide s6; have q6_ := sl.unhide q6; have s7_ := sl.unhide s7; have s8_ := sl.unhide s8; have s9_ := sl.unhide s9; have s10_ := sl.unhide s10; omega))
    have V10 := sl.hide ((sl.unhide V9).outs g10 (by have s1_ := sl.unhide s1; have q1_ := sl.unhide q1; have s2_ := sl.unhide s2; have s3_ := sl.unhide s3; have s4_ := sl.unhide s4; have s5_ := sl.unhide s5; have s6_ := sl.unhide s6; have q6_ := sl.unhide q6; have s7_ := sl.unhide s7; have s8_ := sl.unhide s8; have s9_ := sl.unhide s9; have s10_ := sl.unhide s10; omega))
    clear o10 g10 MX9 B9 IW9 IG9 F0_9 V9
    go_wp2_with fail
    refine (sl.eqIntS _ _ _ _ hR (sl.unhide IG10).sl (sl.unhide IW10).sl).mono ?_; rintro e w11 ⟨rfl, g11⟩
    have s11 := sl.hide (g11).size
    have B11 := sl.hide (sl.below_none (sl.unhide B10) (g11))
    have IW11 := sl.hide ((sl.unhide IW10).kept (g11))
    have IG11 := sl.hide ((sl.unhide IG10).kept (g11))
    have F0_11 := sl.hide ((sl.unhide F0_10).kept (g11))
    have V11 := sl.hide ((sl.unhide V10).kept (g11))
    clear g11 B10 IW10 IG10 F0_10 V10
    go_wp2_with fail
    refine (sl.markIntS _ R 1 _ _ hR (by omega) (by omega) (sl.unhide IG11).1).mono ?_; rintro e w12 ⟨rfl, o12, gx12⟩
    have g12 := css.outs_by gx12 (fun q hq => And.intro ((sl.unhide IG11).1.lt q hq).1 ((sl.unhide IG11).2 q hq))
    have s12 := sl.hide g12.size
    have B12 := sl.hide (css.below_outs (sl.unhide B11) (by have s1_ := sl.unhide s1; have q1_ := sl.unhide q1; have s2_ := sl.unhide s2; have s3_ := sl.unhide s3; have s4_ := sl.unhide s4; have s5_ := sl.unhide s5; have s6_ := sl.unhide s6; have q6_ := sl.unhide q6; have s7_ := sl.unhide s7; have s8_ := sl.unhide s8; have s9_ := sl.unhide s9; have s10_ := sl.unhide s10; have s11_ := sl.unhide s11; have s12_ := sl.unhide s12; omega) g12)
    have IW12 := sl.hide (css.own_outs (sl.unhide IW11) g12 (by have s1_ := sl.unhide s1; have q1_ := sl.unhide q1; have s2_ := sl.unhide s2; have s3_ := sl.unhide s3; have s4_ := sl.unhide s4; have s5_ := sl.unhide s5; have s6_ := sl.unhide s6; have q6_ := sl.unhide q6; have s7_ := sl.unhide s7; have s8_ := sl.unhide s8; have s9_ := sl.unhide s9; have s10_ := sl.unhide s10; have s11_ := sl.unhide s11; have s12_ := sl.unhide s12; omega))
    have F0_12 := sl.hide ((sl.unhide F0_11).outs g12 (by have s1_ := sl.unhide s1; have q1_ := sl.unhide q1; have s2_ := sl.unhide s2; have s3_ := sl.unhide s3; have s4_ := sl.unhide s4; have s5_ := sl.unhide s5; have s6_ := sl.unhide s6; have q6_ := sl.unhide q6; have s7_ := sl.unhide s7; have s8_ := sl.unhide s8; have s9_ := sl.unhide s9; have s10_ := sl.unhide s10; have s11_ := sl.unhide s11; have s12_ := sl.unhide s12; omega))
    have V12 := sl.hide ((sl.unhide V11).outs g12 (by have s1_ := sl.unhide s1; have q1_ := sl.unhide q1; have s2_ := sl.unhide s2; have s3_ := sl.unhide s3; have s4_ := sl.unhide s4; have s5_ := sl.unhide s5; have s6_ := sl.unhide s6; have q6_ := sl.unhide q6; have s7_ := sl.unhide s7; have s8_ := sl.unhide s8; have s9_ := sl.unhide s9; have s10_ := sl.unhide s10; have s11_ := sl.unhide s11; have s12_ := sl.unhide s12; omega))
    have IG12 := sl.hide ((sl.unhide IG11).marked o12)
    clear o12 g12 gx12 IG11 B11 IW11 F0_11 V11
    go_wp2_with fail
    refine (sl.heldIntS _ _ 1 _ hR (by decide) (by decide) (sl.unhide IG12).sl).mono ?_; rintro e v' ⟨rfl, hw⟩; have hw' := hw.symm; clear hw; subst hw'
    have zF0_0 := (sl.unhide F0_12).c0
    have zF0_1 := (sl.unhide F0_12).c1
    have zF0_2 := (sl.unhide F0_12).c2
    have zF0_3 := (sl.unhide F0_12).c3
    have zF0_4 := (sl.unhide F0_12).c4
    go_wp2_with fail
    refine (qa.toMachine v0 _ n0 ss0 kk0 LL0 P0 _ hn0 hP0 ((sl.unhide S0).below (sl.unhide B12)) ((sl.unhide T0).below (sl.unhide B12))).mono ?_; rintro e w13 ⟨u13, p13, rfl, o13, g13⟩
    clear zF0_0 zF0_1 zF0_2 zF0_3 zF0_4
    obtain ⟨a13_, c13_, b13_, d13_, rfl, rfl⟩ := o13.len
    have s13 := sl.hide (g13).size
    have B13 := sl.hide (sl.below_none (sl.unhide B12) (g13))
    have IW13 := sl.hide ((sl.unhide IW12).kept (g13))
    have IG13 := sl.hide ((sl.unhide IG12).kept (g13))
    have F0_13 := sl.hide ((sl.unhide F0_12).kept (g13))
    have V13 := sl.hide ((sl.unhide V12).kept (g13))
    have MY13 := sl.hide o13
    clear o13 g13 B12 IW12 IG12 F0_12 V12
    go_wp2_with fail
    refine (sl.unhide CI _ _ _ (sl.unhide MY13).sls (sl.unhide MY13).sl).mono ?_; rintro e w14 ⟨u14, rfl, o14, g14⟩
    have s14 := sl.hide (g14).size
    have B14 := sl.hide (sl.below_none (sl.unhide B13) (g14))
    have IW14 := sl.hide ((sl.unhide IW13).kept (g14))
    have IG14 := sl.hide ((sl.unhide IG13).kept (g14))
    have MY14 := sl.hide ((sl.unhide MY13).kept (g14))
    have F0_14 := sl.hide ((sl.unhide F0_13).kept (g14))
    have V14 := sl.hide ((sl.unhide V13).kept (g14))
    have IH14 := sl.hide (sl.Own.of o14)
    clear o14 g14 B13 IW13 IG13 MY13 F0_13 V13
    clear MY14
    go_wp2_with fail
    refine (sl.eqIntS _ _ _ _ hR (sl.unhide IH14).sl (sl.unhide IW14).sl).mono ?_; rintro e w15 ⟨rfl, g15⟩
    have s15 := sl.hide (g15).size
    have B15 := sl.hide (sl.below_none (sl.unhide B14) (g15))
    have IW15 := sl.hide ((sl.unhide IW14).kept (g15))
    have IG15 := sl.hide ((sl.unhide IG14).kept (g15))
    have IH15 := sl.hide ((sl.unhide IH14).kept (g15))
    have F0_15 := sl.hide ((sl.unhide F0_14).kept (g15))
    have V15 := sl.hide ((sl.unhide V14).kept (g15))
    clear g15 B14 IW14 IG14 IH14 F0_14 V14
    go_wp2_with fail
    refine (sl.heldIntS _ _ 1 _ hR (by decide) (by decide) (sl.unhide IG15).sl).mono ?_; rintro e v' ⟨rfl, hw⟩; have hw' := hw.symm; clear hw; subst hw'
    go_wp2_with fail
    go_ret
    exact ⟨rfl, sl.unhide B15⟩

/-! ### the row's step (the guide's own frame) -/
set_option maxRecDepth 100000 in
theorem lifted (os : Os) (started : os.Started) (H : Type) (enc : TypeId × Value → H) :
    ReturnsInHanded {} Try.checked os 7 .any (Rows.fnExactMachineAnswerSpec.pre6 enc Try.prog Try.f7 Rows.fnExactMachineAnswerRow.domain false) (Rows.fnExactMachineAnswerSpec.post enc Try.prog Try.f7 false true false false) := by
  refine returnsInHanded_of_change (C := Try.checked) own started (by kernel_rfl) Try.func7
    (ChangeSpec.witness6 (enc := enc) (C := Try.checked) false ⟨#[], #[.agg #[.int .i64 0, .slice none 0 0, .slice none 0 0, .int .i64 0, .int .i64 0]], []⟩ 8 (by kernel_rfl) (by kernel_rfl) (by kernel_rfl) (by kernel_rfl)) ?_
  intro W base args ds gs before hval0 hW hcnd _
  have hval : ∀ (j : Nat) t v, Try.f7.params[j]? = some t → args[j]? = some v → Value.okWide Try.prog W .any base t v := hval0
  have hW' := hW
  obtain ⟨p, q, hA0, hV, rfl, hfz, hnd⟩ := hW
  have hA : DataW.TrodAll enc Try.prog W 0 (fun _ => true) true Try.f7.params.toList args.toList ds p := hA0
  rw [Try.params7] at hA hval
  obtain ⟨x0, vs0, d0, ds0, p0, q0, hargs, rfl, rfl, h0, r0⟩ := trodAll_cons hA
  obtain ⟨rfl, rfl, rfl⟩ := trodAll_nil r0
  obtain rfl : args = #[x0] := by cases args; simp_all
  obtain ⟨rfl, rfl⟩ := trodVars_none hV
  obtain ⟨cs0, rfl, _⟩ := okWide_struct Try.underlying47 (hval 0 47 _ rfl rfl)
  have k0 := h0
  have lt0 : ∀ x ∈ p0, x.block < W.heap.size := by obtain ⟨m, hm⟩ := k0; exact DataW.trod_lt m _ _ _ hm
  obtain ⟨n0, v0, LL0, q0, P0, ss0, kk0, e0, w0, pp0, l0⟩ : ∃ n v LL q P st k, cs0 = #[.int .i64 n, v, q, .int .i64 st, .int .i64 k] ∧ row.IsRows W v LL ∧ sl.Sl W q P ∧ P.length ≤ 9223372036854775807 := by
    obtain ⟨fuel, hf⟩ := h0
    obtain ⟨n, v, LL, q, P, st, k, e, hv, hp, hl⟩ := row.open_mach hf
    refine ⟨n, v, LL, q, P, st, k, ?_, hv, hp, hl⟩
    cases cs0
    simpa [Value.cells] using e
  subst e0
  clear hA0 hval0
  refine (walk n0 v0 LL0 q0 P0 ss0 kk0 W w0 pp0 l0).mono fun e W' ⟨he, bel⟩ => ?_
  subst he
  exact ⟨_, rfl, _, _, _, [], _, [], hW', trodAll_mk1 (shut_bool Try.underlying4 _), (trodAll_cons_mk (Below.trod laidOut (by kernel_rfl) (of_decide_eq_true (by kernel_rfl)) k0 bel lt0) trodAll_mk0), rfl, bel.frame _, fun h => by cases h⟩

theorem over : Rows.fnExactMachineAnswerRow.holds Try.pinned (OpenSpec.ofChange Rows.fnExactMachineAnswerSpec) :=
  OpenClaim.holds_of_wide 7 Try.f7 rfl rfl rfl rfl rfl rfl rfl ⟨rfl, rfl, rfl, rfl, rfl⟩ rfl rfl rfl rfl rfl (by kernel_rfl) Try.func7 (by kernel_rfl)
    (of_decide_eq_true (by kernel_rfl)) (by unfold Func.isWrapper; first | (rw [if_pos (by decide +kernel)]; kernel_rfl) | (rw [if_neg (by decide +kernel)]; exact ⟨rfl, rfl⟩))
    (fun os started H enc _ => lifted os started H enc)

/-- the statement -/
theorem proved : Rows.FnExactMachineAnswerSaid := over
#print axioms proved
end Go.Proofs.Ytlpgnaedhijdpaa.fnExactMachineAnswer
