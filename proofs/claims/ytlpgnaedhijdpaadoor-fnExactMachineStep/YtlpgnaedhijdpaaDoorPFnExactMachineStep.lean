/- At every machine impl.MachineStep answers as spec.MachineStep, writes nothing into its argument and its answer owns its memory (the law FnExactMachineStep returns true); the library's table of places lies as its text lays it (tied). -/
import Derived.Test.YtlpgnaedhijdpaaDoorCards
import Derived.Test.YtlpgnaedhijdpaaDoorTie
import Derived.Test.YtlpgnaedhijdpaaDoorRm
import Derived.Test.YtlpgnaedhijdpaaDoorQk
import Derived.WalkKit
import Derived.ProofKit
import Derived.OpenShut
import Derived.ShutString
import Derived.ChangeOld
import Derived.Below
import Derived.Deep.DeepHandedRow
import Derived.Lib.LaidTab
import Derived.Lib.TrailingZeros
import Derived.Stop.LaidErr
import Derived.LaidHandle
import Derived.LaidSub
namespace Go.Proofs.YtlpgnaedhijdpaaDoor.fnExactMachineStep
open Go.ChangeShapes Go.WideShapes Go.ChangeAt Go.RowKit
open Go.ChangeMaps (open_string shut_string)
set_option linter.unusedVariables false

theorem own : ownKnob Tryd.prog.godebug = none := by kernel_rfl
theorem laidOut : laidOutB Tryd.prog = true := by kernel_rfl

theorem gTab : Tryd.prog.globalNamed "math/bits.deBruijn64tab" = some 3 := by kernel_rfl
theorem gTabType : (Tryd.prog.globals[3]?).map (·.type) = some 162 := by kernel_rfl
theorem cellsTab : Tryd.prog.cellsOf 162 = 64 := by kernel_rfl
theorem cellsByte : Tryd.prog.cellsOf 5 = 1 := by kernel_rfl
/-- what the row's list gives: the table's cells hold its numbers -/
theorem table {W : World} (h : laidMetH Tryd.prog Rows.fnExactMachineStepRow.laid W) : srt.Tab W := by
  have t : Lib.TabIs Tryd.prog W "math/bits.deBruijn64tab" .u8 (Lib.deBruijn64tab.map fun (n : Nat) => (n : Int)) :=
    Lib.tabIs_of_head (rest := []) gTab gTabType Tryd.underlying162 Tryd.underlying5 cellsByte cellsTab h
  intro j hj
  have c := t.cell gTab j (by rw [List.length_map]; exact hj)
  rw [c]
  congr 2
  rw [List.getD, List.getD, List.getElem?_map]
  cases Lib.deBruijn64tab[j]? <;> rfl

/-! ### the walk -/
set_option maxRecDepth 100000 in
set_option maxHeartbeats 8000000 in
theorem walk (n0 : Int) (v0 : Value) (LL0 : List (List Int)) (q0 : Value) (P0 : List Int) (ss0 kk0 : Int) (w : World) (w0 : row.IsRows w v0 LL0) (p0 : sl.Sl w q0 P0) (l0 : P0.length ≤ 9223372036854775807) (hT : srt.Tab w) :
    Calls Tryd.prog 8 #[.agg #[.int .i64 n0, v0, q0, .int .i64 ss0, .int .i64 kk0]] w fun e w' => e = .returned (.bool true) ∧ Below w.heap.size w w' := by
  have TT := sl.hide hT
  clear hT
  obtain ⟨hS0, hl0, hk0⟩ := w0
  have T0 := sl.hide p0
  obtain ⟨qa0, qc0, rfl, _⟩ := p0
  have s1 := sl.hide (World.grownBy_alloc w (.cells #[.int .i64 n0, v0, .slice qa0 P0.length qc0, .int .i64 ss0, .int .i64 kk0] 52) none).size
  have B1 := sl.hide (sl.below_of (World.grownBy_alloc w (.cells #[.int .i64 n0, v0, .slice qa0 P0.length qc0, .int .i64 ss0, .int .i64 kk0] 52) none))
  have q1 : Hid ((w.alloc (.cells #[.int .i64 n0, v0, .slice qa0 P0.length qc0, .int .i64 ss0, .int .i64 kk0] 52)).heap.size = w.heap.size + 1) := World.size_alloc ..
  have F0_1 := sl.hide (qa.Box5.new 52 w (.int .i64 n0) v0 (.slice qa0 P0.length qc0) (.int .i64 ss0) (.int .i64 kk0))
  have S0 := sl.hide hS0
  clear hS0
  go_enter Tryd.func8, Tryd.ntmps8
  have zF0_0 := (sl.unhide F0_1).c0
  have zF0_1 := (sl.unhide F0_1).c1
  have zF0_2 := (sl.unhide F0_1).c2
  have zF0_3 := (sl.unhide F0_1).c3
  have zF0_4 := (sl.unhide F0_1).c4
  go_wp2_with fail
  refine (qa.szMachine v0 qa0 qc0 n0 ss0 kk0 LL0 P0 1048576 _ (by decide) (by decide) hl0 hk0 l0 ((sl.unhide S0).below (sl.unhide B1))).mono ?_; rintro e w2 ⟨r0, rfl, g2, hr⟩
  clear zF0_0 zF0_1 zF0_2 zF0_3 zF0_4
  have s2 := sl.hide (g2).size
  have B2 := sl.hide (sl.below_none (sl.unhide B1) (g2))
  have F0_2 := sl.hide ((sl.unhide F0_1).kept (g2))
  clear g2 B1 F0_1
  rcases hr with rfl | ⟨hr0, hr1⟩
  · go_wp2_with fail
    go_ret
    exact ⟨rfl, sl.unhide B2⟩
  have hn0 : css.tot LL0 ≤ 1048576 := by omega
  have hP0 : P0.length ≤ 1048576 := by omega
  have hq0 : ¬ r0 < 0 := by omega
  clear hr0 hr1 l0
  obtain ⟨RP, RS, RK, hRP, cs, ci⟩ := qh.bothT n0 ss0 kk0 LL0 P0 hn0 hP0
  have CS := sl.hide cs
  have CI := sl.hide ci
  clear cs ci
  have hR := hn0
  have hsl : css.sumLen LL0 ≤ 1048576 := Nat.le_trans (css.sumLen_le LL0) hn0
  have hz1 : decide ((1 : Int) + (css.sumLen LL0 : Int) + (P0.length : Int) < 0) = false := decide_eq_false (by omega)
  have hz2 : ¬ (1 : Int) + (css.sumLen LL0 : Int) + (RP.length : Int) < 0 := by omega
  have zF0_0 := (sl.unhide F0_2).c0
  have zF0_1 := (sl.unhide F0_2).c1
  have zF0_2 := (sl.unhide F0_2).c2
  have zF0_3 := (sl.unhide F0_2).c3
  have zF0_4 := (sl.unhide F0_2).c4
  go_wp2_with fail
  refine (qa.toMachine v0 _ n0 ss0 kk0 LL0 P0 _ hn0 hP0 ((sl.unhide S0).below (sl.unhide B2)) ((sl.unhide T0).below (sl.unhide B2))).mono ?_; rintro e w3 ⟨u3, p3, rfl, o3, g3⟩
  clear zF0_0 zF0_1 zF0_2 zF0_3 zF0_4
  obtain ⟨a3_, c3_, b3_, d3_, rfl, rfl⟩ := o3.len
  have s3 := sl.hide (g3).size
  have B3 := sl.hide (sl.below_none (sl.unhide B2) (g3))
  have F0_3 := sl.hide ((sl.unhide F0_2).kept (g3))
  have MP3 := sl.hide o3
  clear o3 g3 B2 F0_2
  go_wp2_with fail
  refine (sl.unhide CS _ _ _ _ _ (sl.unhide MP3) (by have s1_ := sl.unhide s1; have q1_ := sl.unhide q1; have s2_ := sl.unhide s2; have s3_ := sl.unhide s3; omega)).mono ?_; rintro e w4 ⟨u4, p4, rfl, o4, g4⟩
  obtain ⟨a4_, c4_, b4_, d4_, rfl, rfl⟩ := o4.len
  have s4 := sl.hide (g4).size
  have B4 := sl.hide (sl.below_none (sl.unhide B3) (g4))
  have MP4 := sl.hide ((sl.unhide MP3).kept (g4))
  have F0_4 := sl.hide ((sl.unhide F0_3).kept (g4))
  have MU4 := sl.hide o4
  clear o4 g4 B3 MP3 F0_3
  clear MP4
  have pF0_0 := (sl.unhide F0_4).c0
  have pF0_1 := (sl.unhide F0_4).c1
  have pF0_2 := (sl.unhide F0_4).c2
  have pF0_3 := (sl.unhide F0_4).c3
  have pF0_4 := (sl.unhide F0_4).c4
  have pF0_l := (sl.unhide F0_4).lt
  have s5 := sl.hide (World.grownBy_alloc w4 (.cells #[.int .i64 n0, .slice a4_ LL0.length c4_, .slice b4_ RP.length d4_, .int .i64 RS, .int .i64 RK] 37) none).size
  have B5 := sl.hide (sl.below_none (sl.unhide B4) (World.grownBy_alloc w4 (.cells #[.int .i64 n0, .slice a4_ LL0.length c4_, .slice b4_ RP.length d4_, .int .i64 RS, .int .i64 RK] 37) none))
  have MU5 := sl.hide ((sl.unhide MU4).kept (World.grownBy_alloc w4 (.cells #[.int .i64 n0, .slice a4_ LL0.length c4_, .slice b4_ RP.length d4_, .int .i64 RS, .int .i64 RK] 37) none))
  have F0_5 := sl.hide ((sl.unhide F0_4).kept (World.grownBy_alloc w4 (.cells #[.int .i64 n0, .slice a4_ LL0.length c4_, .slice b4_ RP.length d4_, .int .i64 RS, .int .i64 RK] 37) none))
  have q5 : Hid ((w4.alloc (.cells #[.int .i64 n0, .slice a4_ LL0.length c4_, .slice b4_ RP.length d4_, .int .i64 RS, .int .i64 RK] 37)).heap.size = w4.heap.size + 1) := World.size_alloc ..
  have U5 := sl.hide (qa.Box5.new 37 w4 (.int .i64 n0) (.slice a4_ LL0.length c4_) (.slice b4_ RP.length d4_) (.int .i64 RS) (.int .i64 RK))
  clear B4 MU4 F0_4
  have zF0_0 := (sl.unhide F0_5).c0
  have zF0_1 := (sl.unhide F0_5).c1
  have zF0_2 := (sl.unhide F0_5).c2
  have zF0_3 := (sl.unhide F0_5).c3
  have zF0_4 := (sl.unhide F0_5).c4
  go_wp2_with fail
  refine (qa.toMachine v0 _ n0 ss0 kk0 LL0 P0 _ hn0 hP0 ((sl.unhide S0).below (sl.unhide B5)) ((sl.unhide T0).below (sl.unhide B5))).mono ?_; rintro e w6 ⟨u6, p6, rfl, o6, g6⟩
  clear pF0_0 pF0_1 pF0_2 pF0_3 pF0_4 pF0_l zF0_0 zF0_1 zF0_2 zF0_3 zF0_4
  obtain ⟨a6_, c6_, b6_, d6_, rfl, rfl⟩ := o6.len
  have s6 := sl.hide (g6).size
  have B6 := sl.hide (sl.below_none (sl.unhide B5) (g6))
  have MU6 := sl.hide ((sl.unhide MU5).kept (g6))
  have F0_6 := sl.hide ((sl.unhide F0_5).kept (g6))
  have U6 := sl.hide ((sl.unhide U5).kept (g6))
  have MX6 := sl.hide o6
  clear o6 g6 B5 MU5 F0_5 U5
  have s7 := sl.hide (World.grownBy_alloc w6 (.cells #[.int .i64 n0, .slice a6_ LL0.length c6_, .slice b6_ P0.length d6_, .int .i64 ss0, .int .i64 kk0] 37) none).size
  have B7 := sl.hide (sl.below_none (sl.unhide B6) (World.grownBy_alloc w6 (.cells #[.int .i64 n0, .slice a6_ LL0.length c6_, .slice b6_ P0.length d6_, .int .i64 ss0, .int .i64 kk0] 37) none))
  have MU7 := sl.hide ((sl.unhide MU6).kept (World.grownBy_alloc w6 (.cells #[.int .i64 n0, .slice a6_ LL0.length c6_, .slice b6_ P0.length d6_, .int .i64 ss0, .int .i64 kk0] 37) none))
  have MX7 := sl.hide ((sl.unhide MX6).kept (World.grownBy_alloc w6 (.cells #[.int .i64 n0, .slice a6_ LL0.length c6_, .slice b6_ P0.length d6_, .int .i64 ss0, .int .i64 kk0] 37) none))
  have F0_7 := sl.hide ((sl.unhide F0_6).kept (World.grownBy_alloc w6 (.cells #[.int .i64 n0, .slice a6_ LL0.length c6_, .slice b6_ P0.length d6_, .int .i64 ss0, .int .i64 kk0] 37) none))
  have U7 := sl.hide ((sl.unhide U6).kept (World.grownBy_alloc w6 (.cells #[.int .i64 n0, .slice a6_ LL0.length c6_, .slice b6_ P0.length d6_, .int .i64 ss0, .int .i64 kk0] 37) none))
  have q7 : Hid ((w6.alloc (.cells #[.int .i64 n0, .slice a6_ LL0.length c6_, .slice b6_ P0.length d6_, .int .i64 ss0, .int .i64 kk0] 37)).heap.size = w6.heap.size + 1) := World.size_alloc ..
  have V7 := sl.hide (qa.Box5.new 37 w6 (.int .i64 n0) (.slice a6_ LL0.length c6_) (.slice b6_ P0.length d6_) (.int .i64 ss0) (.int .i64 kk0))
  clear B6 MU6 MX6 F0_6 U6
  have zV0 := (sl.unhide V7).c0
  have zV1 := (sl.unhide V7).c1
  have zV2 := (sl.unhide V7).c2
  have zV3 := (sl.unhide V7).c3
  have zV4 := (sl.unhide V7).c4
  go_wp2_with fail
  refine (sl.unhide CI _ _ _ _ _ ((sl.unhide TT).below (sl.unhide B7)) (sl.unhide MX7)).mono ?_; rintro e w8 ⟨u8, p8, rfl, o8, g8⟩
  clear zV0 zV1 zV2 zV3 zV4
  obtain ⟨a8_, c8_, b8_, d8_, rfl, rfl⟩ := o8.len
  have s8 := sl.hide (g8).size
  have B8 := sl.hide (sl.below_none (sl.unhide B7) (g8))
  have MU8 := sl.hide ((sl.unhide MU7).kept (g8))
  have MX8 := sl.hide ((sl.unhide MX7).kept (g8))
  have F0_8 := sl.hide ((sl.unhide F0_7).kept (g8))
  have U8 := sl.hide ((sl.unhide U7).kept (g8))
  have V8 := sl.hide ((sl.unhide V7).kept (g8))
  have MG8 := sl.hide o8
  clear o8 g8 B7 MU7 MX7 F0_7 U7 V7
  have pU0 := (sl.unhide U8).c0
  have pU1 := (sl.unhide U8).c1
  have pU2 := (sl.unhide U8).c2
  have pU3 := (sl.unhide U8).c3
  have pU4 := (sl.unhide U8).c4
  have pUl := (sl.unhide U8).lt
  have s9 := sl.hide (World.grownBy_alloc w8 (.cells #[.int .i64 n0, .slice a8_ LL0.length c8_, .slice b8_ RP.length d8_, .int .i64 RS, .int .i64 RK] 37) none).size
  have B9 := sl.hide (sl.below_none (sl.unhide B8) (World.grownBy_alloc w8 (.cells #[.int .i64 n0, .slice a8_ LL0.length c8_, .slice b8_ RP.length d8_, .int .i64 RS, .int .i64 RK] 37) none))
  have MU9 := sl.hide ((sl.unhide MU8).kept (World.grownBy_alloc w8 (.cells #[.int .i64 n0, .slice a8_ LL0.length c8_, .slice b8_ RP.length d8_, .int .i64 RS, .int .i64 RK] 37) none))
  have MX9 := sl.hide ((sl.unhide MX8).kept (World.grownBy_alloc w8 (.cells #[.int .i64 n0, .slice a8_ LL0.length c8_, .slice b8_ RP.length d8_, .int .i64 RS, .int .i64 RK] 37) none))
  have MG9 := sl.hide ((sl.unhide MG8).kept (World.grownBy_alloc w8 (.cells #[.int .i64 n0, .slice a8_ LL0.length c8_, .slice b8_ RP.length d8_, .int .i64 RS, .int .i64 RK] 37) none))
  have F0_9 := sl.hide ((sl.unhide F0_8).kept (World.grownBy_alloc w8 (.cells #[.int .i64 n0, .slice a8_ LL0.length c8_, .slice b8_ RP.length d8_, .int .i64 RS, .int .i64 RK] 37) none))
  have U9 := sl.hide ((sl.unhide U8).kept (World.grownBy_alloc w8 (.cells #[.int .i64 n0, .slice a8_ LL0.length c8_, .slice b8_ RP.length d8_, .int .i64 RS, .int .i64 RK] 37) none))
  have V9 := sl.hide ((sl.unhide V8).kept (World.grownBy_alloc w8 (.cells #[.int .i64 n0, .slice a8_ LL0.length c8_, .slice b8_ RP.length d8_, .int .i64 RS, .int .i64 RK] 37) none))
  have q9 : Hid ((w8.alloc (.cells #[.int .i64 n0, .slice a8_ LL0.length c8_, .slice b8_ RP.length d8_, .int .i64 RS, .int .i64 RK] 37)).heap.size = w8.heap.size + 1) := World.size_alloc ..
  have G9 := sl.hide (qa.Box5.new 37 w8 (.int .i64 n0) (.slice a8_ LL0.length c8_) (.slice b8_ RP.length d8_) (.int .i64 RS) (.int .i64 RK))
  clear B8 MU8 MX8 MG8 F0_8 U8 V8
  have zU0 := (sl.unhide U9).c0
  have zU1 := (sl.unhide U9).c1
  have zU2 := (sl.unhide U9).c2
  have zU3 := (sl.unhide U9).c3
  have zU4 := (sl.unhide U9).c4
  have zG0 := (sl.unhide G9).c0
  have zG1 := (sl.unhide G9).c1
  have zG2 := (sl.unhide G9).c2
  have zG3 := (sl.unhide G9).c3
  have zG4 := (sl.unhide G9).c4
  go_wp2_with fail
  refine (qa.eqMachine _ _ _ _ n0 RS RK LL0 RP _ hR hRP (sl.unhide MG9).sls (sl.unhide MU9).sls (sl.unhide MG9).sl (sl.unhide MU9).sl).mono ?_; rintro e w10 ⟨rfl, g10⟩
  clear pU0 pU1 pU2 pU3 pU4 pUl zU0 zU1 zU2 zU3 zU4 zG0 zG1 zG2 zG3 zG4
  have s10 := sl.hide (g10).size
  have B10 := sl.hide (sl.below_none (sl.unhide B9) (g10))
  have MU10 := sl.hide ((sl.unhide MU9).kept (g10))
  have MX10 := sl.hide ((sl.unhide MX9).kept (g10))
  have MG10 := sl.hide ((sl.unhide MG9).kept (g10))
  have F0_10 := sl.hide ((sl.unhide F0_9).kept (g10))
  have U10 := sl.hide ((sl.unhide U9).kept (g10))
  have V10 := sl.hide ((sl.unhide V9).kept (g10))
  have G10 := sl.hide ((sl.unhide G9).kept (g10))
  clear g10 B9 MU9 MX9 MG9 F0_9 U9 V9 G9
  go_upto_region 10 with fail
  go_cut [31] (fun q wx => q = .bool false ∧ Hid (w10.grownBy wx none))
  case first =>
    have T5 := sl.hide (qa.toMachine v0 _ n0 ss0 kk0 LL0 P0 w10.drew hn0 hP0 (((sl.unhide S0).below (sl.unhide B10)).kept (cf.grown_drew w10 none)) (((sl.unhide T0).below (sl.unhide B10)).kept (cf.grown_drew w10 none) (.inl rfl)))
    have E5 := sl.hide (fun u6 p6 wA (g6 : w10.drew.grownBy wA none) (o6 : qa.OwnM w10.drew.heap.size wA.heap.size wA u6 p6 LL0 P0) => qa.eqMachine _ u6 _ p6 n0 ss0 kk0 LL0 P0 wA hn0 hP0 ((sl.unhide MX10).kept (sl.grown_trans (r := none) (cf.grown_drew w10 none) g6)).sls o6.sls ((sl.unhide MX10).kept (sl.grown_trans (r := none) (cf.grown_drew w10 none) g6)).sl o6.sl)
    have X5' := sl.hide (fun wA (g6 : w10.drew.grownBy wA none) => (sl.unhide V10).kept (sl.grown_trans (r := none) (cf.grown_drew w10 none) g6))
    have F5' := sl.hide (fun wA (g6 : w10.drew.grownBy wA none) => (sl.unhide F0_10).kept (sl.grown_trans (r := none) (cf.grown_drew w10 none) g6))
    have G5 := sl.hide (fun wA wB (g6 : w10.drew.grownBy wA none) (g7 : wA.grownBy wB none) => sl.grown_trans (r := none) (sl.grown_trans (r := none) (cf.grown_drew w10 none) g6) g7)
    have x0 := (sl.unhide F0_10).c0
    have x1 := (sl.unhide F0_10).c1
    have x2 := (sl.unhide F0_10).c2
    have x3 := (sl.unhide F0_10).c3
    have x4 := (sl.unhide F0_10).c4
    have y0 := (sl.unhide V10).c0
    have y1 := (sl.unhide V10).c1
    have y2 := (sl.unhide V10).c2
    have y3 := (sl.unhide V10).c3
    have y4 := (sl.unhide V10).c4
    clear MU10 MX10 MG10 F0_10 U10 V10 G10 B10
    go_region_held3 (fun w' => w'.cell? ⟨w.heap.size, 0, none⟩ = some (.int .i64 n0) ∧ w'.cell? ⟨w.heap.size, 1, none⟩ = some (v0) ∧ w'.cell? ⟨w.heap.size, 2, none⟩ = some (.slice qa0 P0.length qc0) ∧ w'.cell? ⟨w.heap.size, 3, none⟩ = some (.int .i64 ss0) ∧ w'.cell? ⟨w.heap.size, 4, none⟩ = some (.int .i64 kk0) ∧ w'.cell? ⟨w6.heap.size, 0, none⟩ = some (.int .i64 n0) ∧ w'.cell? ⟨w6.heap.size, 1, none⟩ = some (.slice a6_ LL0.length c6_) ∧ w'.cell? ⟨w6.heap.size, 2, none⟩ = some (.slice b6_ P0.length d6_) ∧ w'.cell? ⟨w6.heap.size, 3, none⟩ = some (.int .i64 ss0) ∧ w'.cell? ⟨w6.heap.size, 4, none⟩ = some (.int .i64 kk0)) (go_keep) (first
      | (go_at_call 39; refine (sl.unhide T5).mono ?_; rintro e wA ⟨u6, p6, rfl, o6, g6⟩; have k0 := (sl.unhide F5' wA g6).c0; have k1 := (sl.unhide F5' wA g6).c1; have k2 := (sl.unhide F5' wA g6).c2; have k3 := (sl.unhide F5' wA g6).c3; have k4 := (sl.unhide F5' wA g6).c4; have z0 := (sl.unhide X5' wA g6).c0; have z1 := (sl.unhide X5' wA g6).c1; have z2 := (sl.unhide X5' wA g6).c2; have z3 := (sl.unhide X5' wA g6).c3; have z4 := (sl.unhide X5' wA g6).c4; have E6 := sl.hide (sl.unhide E5 u6 p6 wA g6 o6); have G6 := sl.hide (fun wB => sl.unhide G5 wA wB g6); have GA := sl.hide g6; clear g6 o6)
      | (go_at_call 40; refine (sl.unhide E6).mono ?_; rintro e wB ⟨rfl, g7⟩; have r0 := ((sl.unhide F5' wA (sl.unhide GA)).kept g7).c0; have r1 := ((sl.unhide F5' wA (sl.unhide GA)).kept g7).c1; have r2 := ((sl.unhide F5' wA (sl.unhide GA)).kept g7).c2; have r3 := ((sl.unhide F5' wA (sl.unhide GA)).kept g7).c3; have r4 := ((sl.unhide F5' wA (sl.unhide GA)).kept g7).c4; have t0 := ((sl.unhide X5' wA (sl.unhide GA)).kept g7).c0; have t1 := ((sl.unhide X5' wA (sl.unhide GA)).kept g7).c1; have t2 := ((sl.unhide X5' wA (sl.unhide GA)).kept g7).c2; have t3 := ((sl.unhide X5' wA (sl.unhide GA)).kept g7).c3; have t4 := ((sl.unhide X5' wA (sl.unhide GA)).kept g7).c4; have G7 := sl.hide (sl.unhide G6 wB g7); clear g7))
    all_goals (go_wp2_with fail; go_meet; exact ⟨rfl, G7⟩)
  case rest =>
    obtain ⟨rfl, hg⟩ := hcut
    have g11 := sl.unhide hg
    have s11 := sl.hide (g11).size
    have B11 := sl.hide (sl.below_none (sl.unhide B10) (g11))
    have MU11 := sl.hide ((sl.unhide MU10).kept (g11))
    have MX11 := sl.hide ((sl.unhide MX10).kept (g11))
    have MG11 := sl.hide ((sl.unhide MG10).kept (g11))
    have F0_11 := sl.hide ((sl.unhide F0_10).kept (g11))
    have U11 := sl.hide ((sl.unhide U10).kept (g11))
    have V11 := sl.hide ((sl.unhide V10).kept (g11))
    have G11 := sl.hide ((sl.unhide G10).kept (g11))
    clear g11 hg B10 MU10 MX10 MG10 F0_10 U10 V10 G10
    have zV0 := (sl.unhide V11).c0
    have zV1 := (sl.unhide V11).c1
    have zV2 := (sl.unhide V11).c2
    have zV3 := (sl.unhide V11).c3
    have zV4 := (sl.unhide V11).c4
    go_wp2_with fail
    refine (qa.markMachine _ _ n0 ss0 kk0 LL0 P0 1 _ _ _ hn0 hP0 (by omega) (by omega) (by have s1_ := sl.unhide s1; have q1_ := sl.unhide q1; have s2_ := sl.unhide s2; have s3_ := sl.unhide s3; have s4_ := sl.unhide s4; have s5_ := sl.unhide s5; have q5_ := sl.unhide q5; have s6_ := sl.unhide s6; have s7_ := sl.unhide s7; have q7_ := sl.unhide q7; have s8_ := sl.unhide s8; have s9_ := sl.unhide s9; have q9_ := sl.unhide q9; have s10_ := sl.unhide s10; have s11_ := sl.unhide s11; omega) (sl.unhide MX11)).mono ?_; rintro e w12 ⟨rfl, o12, g12⟩
    clear zV0 zV1 zV2 zV3 zV4
    have s12 := sl.hide g12.size
    have B12 := sl.hide (css.below_outs (sl.unhide B11) (by have s1_ := sl.unhide s1; have q1_ := sl.unhide q1; have s2_ := sl.unhide s2; have s3_ := sl.unhide s3; have s4_ := sl.unhide s4; have s5_ := sl.unhide s5; have q5_ := sl.unhide q5; have s6_ := sl.unhide s6; have s7_ := sl.unhide s7; have q7_ := sl.unhide q7; have s8_ := sl.unhide s8; have s9_ := sl.unhide s9; have q9_ := sl.unhide q9; have s10_ := sl.unhide s10; have s11_ := sl.unhide s11; have s12_ := sl.unhide s12; omega) g12)
    have MU12 := sl.hide (qa.OwnM.outs (sl.unhide MU11) g12 (by have s1_ := sl.unhide s1; have q1_ := sl.unhide q1; have s2_ := sl.unhide s2; have s3_ := sl.unhide s3; have s4_ := sl.unhide s4; have s5_ := sl.unhide s5; have q5_ := sl.unhide q5; have s6_ := sl.unhide s6; have s7_ := sl.unhide s7; have q7_ := sl.unhide q7; have s8_ := sl.unhide s8; have s9_ := sl.unhide s9; have q9_ := sl.unhide q9; have s10_ := sl.unhide s10; have s11_ := sl.unhide s11; have s12_ := sl.unhide s12; omega))
    have MG12 := sl.hide (qa.OwnM.outs (sl.unhide MG11) g12 (by have s1_ := sl.unhide s1; have q1_ := sl.unhide q1; have s2_ := sl.unhide s2; have s3_ := sl.unhide s3; have s4_ := sl.unhide s4; have s5_ := sl.unhide s5; have q5_ := sl.unhide q5; have s6_ := sl.unhide s6; have s7_ := sl.unhide s7; have q7_ := sl.unhide q7; have s8_ := sl.unhide s8; have s9_ := sl.unhide s9; have q9_ := sl.unhide q9; have s10_ := sl.unhide s10; have s11_ := sl.unhide s11; have s12_ := sl.unhide s12; omega))
    have F0_12 := sl.hide ((sl.unhide F0_11).outs g12 (by have s1_ := sl.unhide s1; have q1_ := sl.unhide q1; have s2_ := sl.unhide s2; have s3_ := sl.unhide s3; have s4_ := sl.unhide s4; have s5_ := sl.unhide s5; have q5_ := sl.unhide q5; have s6_ := sl.unhide s6; have s7_ := sl.unhide s7; have q7_ := sl.unhide q7; have s8_ := sl.unhide s8; have s9_ := sl.unhide s9; have q9_ := sl.unhide q9; have s10_ := sl.unhide s10; have s11_ := sl.unhide s11; have s12_ := sl.unhide s12; omega))
    have U12 := sl.hide ((sl.unhide U11).outs g12 (by have s1_ := sl.unhide s1; have q1_ := sl.unhide q1; have s2_ := sl.unhide s2; have s3_ := sl.unhide s3; have s4_ := sl.unhide s4; have s5_ := sl.unhide s5; have q5_ := sl.unhide q5; have s6_ := sl.unhide s6; have s7_ := sl.unhide s7; have q7_ := sl.unhide q7; have s8_ := sl.unhide s8; have s9_ := sl.unhide s9; have q9_ := sl.unhide q9; have s10_ := sl.unhide s10; have s11_ := sl.unhide s11; have s12_ := sl.unhide s12; omega))
    have V12 := sl.hide ((sl.unhide V11).outs g12 (by have s1_ := sl.unhide s1; have q1_ := sl.unhide q1; have s2_ := sl.unhide s2; have s3_ := sl.unhide s3; have s4_ := sl.unhide s4; have s5_ := sl.unhide s5; have q5_ := sl.unhide q5; have s6_ := sl.unhide s6; have s7_ := sl.unhide s7; have q7_ := sl.unhide q7; have s8_ := sl.unhide s8; have s9_ := sl.unhide s9; have q9_ := sl.unhide q9; have s10_ := sl.unhide s10; have s11_ := sl.unhide s11; have s12_ := sl.unhide s12; omega))
    have G12 := sl.hide ((sl.unhide G11).outs g12 (by have s1_ := sl.unhide s1; have q1_ := sl.unhide q1; have s2_ := sl.unhide s2; have s3_ := sl.unhide s3; have s4_ := sl.unhide s4; have s5_ := sl.unhide s5; have q5_ := sl.unhide q5; have s6_ := sl.unhide s6; have s7_ := sl.unhide s7; have q7_ := sl.unhide q7; have s8_ := sl.unhide s8; have s9_ := sl.unhide s9; have q9_ := sl.unhide q9; have s10_ := sl.unhide s10; have s11_ := sl.unhide s11; have s12_ := sl.unhide s12; omega))
    clear o12 g12 MX11 B11 MU11 MG11 F0_11 U11 V11 G11
    have zU0 := (sl.unhide U12).c0
    have zU1 := (sl.unhide U12).c1
    have zU2 := (sl.unhide U12).c2
    have zU3 := (sl.unhide U12).c3
    have zU4 := (sl.unhide U12).c4
    have zG0 := (sl.unhide G12).c0
    have zG1 := (sl.unhide G12).c1
    have zG2 := (sl.unhide G12).c2
    have zG3 := (sl.unhide G12).c3
    have zG4 := (sl.unhide G12).c4
    go_wp2_with fail
    refine (qa.eqMachine _ _ _ _ n0 RS RK LL0 RP _ hR hRP (sl.unhide MG12).sls (sl.unhide MU12).sls (sl.unhide MG12).sl (sl.unhide MU12).sl).mono ?_; rintro e w13 ⟨rfl, g13⟩
    clear zU0 zU1 zU2 zU3 zU4 zG0 zG1 zG2 zG3 zG4
    have s13 := sl.hide (g13).size
    have B13 := sl.hide (sl.below_none (sl.unhide B12) (g13))
    have MU13 := sl.hide ((sl.unhide MU12).kept (g13))
    have MG13 := sl.hide ((sl.unhide MG12).kept (g13))
    have F0_13 := sl.hide ((sl.unhide F0_12).kept (g13))
    have U13 := sl.hide ((sl.unhide U12).kept (g13))
    have V13 := sl.hide ((sl.unhide V12).kept (g13))
    have G13 := sl.hide ((sl.unhide G12).kept (g13))
    clear g13 B12 MU12 MG12 F0_12 U12 V12 G12
    have zG0 := (sl.unhide G13).c0
    have zG1 := (sl.unhide G13).c1
    have zG2 := (sl.unhide G13).c2
    have zG3 := (sl.unhide G13).c3
    have zG4 := (sl.unhide G13).c4
    go_wp2_with fail
    refine (qa.markMachine _ _ n0 RS RK LL0 RP 1 _ _ _ hR hRP (by omega) (by omega) (by have s1_ := sl.unhide s1; have q1_ := sl.unhide q1; have s2_ := sl.unhide s2; have s3_ := sl.unhide s3; have s4_ := sl.unhide s4; have s5_ := sl.unhide s5; have q5_ := sl.unhide q5; have s6_ := sl.unhide s6; have s7_ := sl.unhide s7; have q7_ := sl.unhide q7; have s8_ := sl.unhide s8; have s9_ := sl.unhide s9; have q9_ := sl.unhide q9; have s10_ := sl.unhide s10; have s11_ := sl.unhide s11; have s12_ := sl.unhide s12; have s13_ := sl.unhide s13; omega) (sl.unhide MG13)).mono ?_; rintro e w14 ⟨rfl, o14, g14⟩
    clear zG0 zG1 zG2 zG3 zG4
    have s14 := sl.hide g14.size
    have B14 := sl.hide (css.below_outs (sl.unhide B13) (by have s1_ := sl.unhide s1; have q1_ := sl.unhide q1; have s2_ := sl.unhide s2; have s3_ := sl.unhide s3; have s4_ := sl.unhide s4; have s5_ := sl.unhide s5; have q5_ := sl.unhide q5; have s6_ := sl.unhide s6; have s7_ := sl.unhide s7; have q7_ := sl.unhide q7; have s8_ := sl.unhide s8; have s9_ := sl.unhide s9; have q9_ := sl.unhide q9; have s10_ := sl.unhide s10; have s11_ := sl.unhide s11; have s12_ := sl.unhide s12; have s13_ := sl.unhide s13; have s14_ := sl.unhide s14; omega) g14)
    have MU14 := sl.hide (qa.OwnM.outs (sl.unhide MU13) g14 (by have s1_ := sl.unhide s1; have q1_ := sl.unhide q1; have s2_ := sl.unhide s2; have s3_ := sl.unhide s3; have s4_ := sl.unhide s4; have s5_ := sl.unhide s5; have q5_ := sl.unhide q5; have s6_ := sl.unhide s6; have s7_ := sl.unhide s7; have q7_ := sl.unhide q7; have s8_ := sl.unhide s8; have s9_ := sl.unhide s9; have q9_ := sl.unhide q9; have s10_ := sl.unhide s10; have s11_ := sl.unhide s11; have s12_ := sl.unhide s12; have s13_ := sl.unhide s13; have s14_ := sl.unhide s14; omega))
    have F0_14 := sl.hide ((sl.unhide F0_13).outs g14 (by have s1_ := sl.unhide s1; have q1_ := sl.unhide q1; have s2_ := sl.unhide s2; have s3_ := sl.unhide s3; have s4_ := sl.unhide s4; have s5_ := sl.unhide s5; have q5_ := sl.unhide q5; have s6_ := sl.unhide s6; have s7_ := sl.unhide s7; have q7_ := sl.unhide q7; have s8_ := sl.unhide s8; have s9_ := sl.unhide s9; have q9_ := sl.unhide q9; have s10_ := sl.unhide s10; have s11_ := sl.unhide s11; have s12_ := sl.unhide s12; have s13_ := sl.unhide s13; have s14_ := sl.unhide s14; omega))
    have U14 := sl.hide ((sl.unhide U13).outs g14 (by have s1_ := sl.unhide s1; have q1_ := sl.unhide q1; have s2_ := sl.unhide s2; have s3_ := sl.unhide s3; have s4_ := sl.unhide s4; have s5_ := sl.unhide s5; have q5_ := sl.unhide q5; have s6_ := sl.unhide s6; have s7_ := sl.unhide s7; have q7_ := sl.unhide q7; have s8_ := sl.unhide s8; have s9_ := sl.unhide s9; have q9_ := sl.unhide q9; have s10_ := sl.unhide s10; have s11_ := sl.unhide s11; have s12_ := sl.unhide s12; have s13_ := sl.unhide s13; have s14_ := sl.unhide s14; omega))
    have V14 := sl.hide ((sl.unhide V13).outs g14 (by have s1_ := sl.unhide s1; have q1_ := sl.unhide q1; have s2_ := sl.unhide s2; have s3_ := sl.unhide s3; have s4_ := sl.unhide s4; have s5_ := sl.unhide s5; have q5_ := sl.unhide q5; have s6_ := sl.unhide s6; have s7_ := sl.unhide s7; have q7_ := sl.unhide q7; have s8_ := sl.unhide s8; have s9_ := sl.unhide s9; have q9_ := sl.unhide q9; have s10_ := sl.unhide s10; have s11_ := sl.unhide s11; have s12_ := sl.unhide s12; have s13_ := sl.unhide s13; have s14_ := sl.unhide s14; omega))
    have G14 := sl.hide ((sl.unhide G13).outs g14 (by have s1_ := sl.unhide s1; have q1_ := sl.unhide q1; have s2_ := sl.unhide s2; have s3_ := sl.unhide s3; have s4_ := sl.unhide s4; have s5_ := sl.unhide s5; have q5_ := sl.unhide q5; have s6_ := sl.unhide s6; have s7_ := sl.unhide s7; have q7_ := sl.unhide q7; have s8_ := sl.unhide s8; have s9_ := sl.unhide s9; have q9_ := sl.unhide q9; have s10_ := sl.unhide s10; have s11_ := sl.unhide s11; have s12_ := sl.unhide s12; have s13_ := sl.unhide s13; have s14_ := sl.unhide s14; omega))
    have MG14 := sl.hide o14
    clear o14 g14 MG13 B13 MU13 F0_13 U13 V13 G13
    have zG0 := (sl.unhide G14).c0
    have zG1 := (sl.unhide G14).c1
    have zG2 := (sl.unhide G14).c2
    have zG3 := (sl.unhide G14).c3
    have zG4 := (sl.unhide G14).c4
    go_wp2_with fail
    refine (qa.heldMachine _ _ n0 RS RK LL0 RP 1 _ hR hRP (by decide) (by decide) (sl.unhide MG14).sls (sl.unhide MG14).sl).mono ?_; rintro e w15 ⟨rfl, g15⟩
    clear zG0 zG1 zG2 zG3 zG4
    have s15 := sl.hide (g15).size
    have B15 := sl.hide (sl.below_none (sl.unhide B14) (g15))
    have MU15 := sl.hide ((sl.unhide MU14).kept (g15))
    have MG15 := sl.hide ((sl.unhide MG14).kept (g15))
    have F0_15 := sl.hide ((sl.unhide F0_14).kept (g15))
    have U15 := sl.hide ((sl.unhide U14).kept (g15))
    have V15 := sl.hide ((sl.unhide V14).kept (g15))
    have G15 := sl.hide ((sl.unhide G14).kept (g15))
    clear g15 B14 MU14 MG14 F0_14 U14 V14 G14
    have zF0_0 := (sl.unhide F0_15).c0
    have zF0_1 := (sl.unhide F0_15).c1
    have zF0_2 := (sl.unhide F0_15).c2
    have zF0_3 := (sl.unhide F0_15).c3
    have zF0_4 := (sl.unhide F0_15).c4
    go_wp2_with fail
    refine (qa.toMachine v0 _ n0 ss0 kk0 LL0 P0 _ hn0 hP0 ((sl.unhide S0).below (sl.unhide B15)) ((sl.unhide T0).below (sl.unhide B15))).mono ?_; rintro e w16 ⟨u16, p16, rfl, o16, g16⟩
    clear zF0_0 zF0_1 zF0_2 zF0_3 zF0_4
    obtain ⟨a16_, c16_, b16_, d16_, rfl, rfl⟩ := o16.len
    have s16 := sl.hide (g16).size
    have B16 := sl.hide (sl.below_none (sl.unhide B15) (g16))
    have MU16 := sl.hide ((sl.unhide MU15).kept (g16))
    have MG16 := sl.hide ((sl.unhide MG15).kept (g16))
    have F0_16 := sl.hide ((sl.unhide F0_15).kept (g16))
    have U16 := sl.hide ((sl.unhide U15).kept (g16))
    have V16 := sl.hide ((sl.unhide V15).kept (g16))
    have G16 := sl.hide ((sl.unhide G15).kept (g16))
    have MY16 := sl.hide o16
    clear o16 g16 B15 MU15 MG15 F0_15 U15 V15 G15
    go_wp2_with fail
    refine (sl.unhide CI _ _ _ _ _ ((sl.unhide TT).below (sl.unhide B16)) (sl.unhide MY16)).mono ?_; rintro e w17 ⟨u17, p17, rfl, o17, g17⟩
    obtain ⟨a17_, c17_, b17_, d17_, rfl, rfl⟩ := o17.len
    have s17 := sl.hide (g17).size
    have B17 := sl.hide (sl.below_none (sl.unhide B16) (g17))
    have MU17 := sl.hide ((sl.unhide MU16).kept (g17))
    have MG17 := sl.hide ((sl.unhide MG16).kept (g17))
    have MY17 := sl.hide ((sl.unhide MY16).kept (g17))
    have F0_17 := sl.hide ((sl.unhide F0_16).kept (g17))
    have U17 := sl.hide ((sl.unhide U16).kept (g17))
    have V17 := sl.hide ((sl.unhide V16).kept (g17))
    have G17 := sl.hide ((sl.unhide G16).kept (g17))
    have MH17 := sl.hide o17
    clear o17 g17 B16 MU16 MG16 MY16 F0_16 U16 V16 G16
    clear MY17
    have pU0 := (sl.unhide U17).c0
    have pU1 := (sl.unhide U17).c1
    have pU2 := (sl.unhide U17).c2
    have pU3 := (sl.unhide U17).c3
    have pU4 := (sl.unhide U17).c4
    have pUl := (sl.unhide U17).lt
    have s18 := sl.hide (World.grownBy_alloc w17 (.cells #[.int .i64 n0, .slice a17_ LL0.length c17_, .slice b17_ RP.length d17_, .int .i64 RS, .int .i64 RK] 37) none).size
    have B18 := sl.hide (sl.below_none (sl.unhide B17) (World.grownBy_alloc w17 (.cells #[.int .i64 n0, .slice a17_ LL0.length c17_, .slice b17_ RP.length d17_, .int .i64 RS, .int .i64 RK] 37) none))
    have MU18 := sl.hide ((sl.unhide MU17).kept (World.grownBy_alloc w17 (.cells #[.int .i64 n0, .slice a17_ LL0.length c17_, .slice b17_ RP.length d17_, .int .i64 RS, .int .i64 RK] 37) none))
    have MG18 := sl.hide ((sl.unhide MG17).kept (World.grownBy_alloc w17 (.cells #[.int .i64 n0, .slice a17_ LL0.length c17_, .slice b17_ RP.length d17_, .int .i64 RS, .int .i64 RK] 37) none))
    have MH18 := sl.hide ((sl.unhide MH17).kept (World.grownBy_alloc w17 (.cells #[.int .i64 n0, .slice a17_ LL0.length c17_, .slice b17_ RP.length d17_, .int .i64 RS, .int .i64 RK] 37) none))
    have F0_18 := sl.hide ((sl.unhide F0_17).kept (World.grownBy_alloc w17 (.cells #[.int .i64 n0, .slice a17_ LL0.length c17_, .slice b17_ RP.length d17_, .int .i64 RS, .int .i64 RK] 37) none))
    have U18 := sl.hide ((sl.unhide U17).kept (World.grownBy_alloc w17 (.cells #[.int .i64 n0, .slice a17_ LL0.length c17_, .slice b17_ RP.length d17_, .int .i64 RS, .int .i64 RK] 37) none))
    have V18 := sl.hide ((sl.unhide V17).kept (World.grownBy_alloc w17 (.cells #[.int .i64 n0, .slice a17_ LL0.length c17_, .slice b17_ RP.length d17_, .int .i64 RS, .int .i64 RK] 37) none))
    have G18 := sl.hide ((sl.unhide G17).kept (World.grownBy_alloc w17 (.cells #[.int .i64 n0, .slice a17_ LL0.length c17_, .slice b17_ RP.length d17_, .int .i64 RS, .int .i64 RK] 37) none))
    have q18 : Hid ((w17.alloc (.cells #[.int .i64 n0, .slice a17_ LL0.length c17_, .slice b17_ RP.length d17_, .int .i64 RS, .int .i64 RK] 37)).heap.size = w17.heap.size + 1) := World.size_alloc ..
    have H18 := sl.hide (qa.Box5.new 37 w17 (.int .i64 n0) (.slice a17_ LL0.length c17_) (.slice b17_ RP.length d17_) (.int .i64 RS) (.int .i64 RK))
    clear B17 MU17 MG17 MH17 F0_17 U17 V17 G17
    have zU0 := (sl.unhide U18).c0
    have zU1 := (sl.unhide U18).c1
    have zU2 := (sl.unhide U18).c2
    have zU3 := (sl.unhide U18).c3
    have zU4 := (sl.unhide U18).c4
    have zH0 := (sl.unhide H18).c0
    have zH1 := (sl.unhide H18).c1
    have zH2 := (sl.unhide H18).c2
    have zH3 := (sl.unhide H18).c3
    have zH4 := (sl.unhide H18).c4
    go_wp2_with fail
    refine (qa.eqMachine _ _ _ _ n0 RS RK LL0 RP _ hR hRP (sl.unhide MH18).sls (sl.unhide MU18).sls (sl.unhide MH18).sl (sl.unhide MU18).sl).mono ?_; rintro e w19 ⟨rfl, g19⟩
    clear pU0 pU1 pU2 pU3 pU4 pUl zU0 zU1 zU2 zU3 zU4 zH0 zH1 zH2 zH3 zH4
    have s19 := sl.hide (g19).size
    have B19 := sl.hide (sl.below_none (sl.unhide B18) (g19))
    have MU19 := sl.hide ((sl.unhide MU18).kept (g19))
    have MG19 := sl.hide ((sl.unhide MG18).kept (g19))
    have MH19 := sl.hide ((sl.unhide MH18).kept (g19))
    have F0_19 := sl.hide ((sl.unhide F0_18).kept (g19))
    have U19 := sl.hide ((sl.unhide U18).kept (g19))
    have V19 := sl.hide ((sl.unhide V18).kept (g19))
    have G19 := sl.hide ((sl.unhide G18).kept (g19))
    have H19 := sl.hide ((sl.unhide H18).kept (g19))
    clear g19 B18 MU18 MG18 MH18 F0_18 U18 V18 G18 H18
    have zG0 := (sl.unhide G19).c0
    have zG1 := (sl.unhide G19).c1
    have zG2 := (sl.unhide G19).c2
    have zG3 := (sl.unhide G19).c3
    have zG4 := (sl.unhide G19).c4
    go_wp2_with fail
    refine (qa.heldMachine _ _ n0 RS RK LL0 RP 1 _ hR hRP (by decide) (by decide) (sl.unhide MG19).sls (sl.unhide MG19).sl).mono ?_; rintro e w20 ⟨rfl, g20⟩
    clear zG0 zG1 zG2 zG3 zG4
    have s20 := sl.hide (g20).size
    have B20 := sl.hide (sl.below_none (sl.unhide B19) (g20))
    have MU20 := sl.hide ((sl.unhide MU19).kept (g20))
    have MG20 := sl.hide ((sl.unhide MG19).kept (g20))
    have MH20 := sl.hide ((sl.unhide MH19).kept (g20))
    have F0_20 := sl.hide ((sl.unhide F0_19).kept (g20))
    have U20 := sl.hide ((sl.unhide U19).kept (g20))
    have V20 := sl.hide ((sl.unhide V19).kept (g20))
    have G20 := sl.hide ((sl.unhide G19).kept (g20))
    have H20 := sl.hide ((sl.unhide H19).kept (g20))
    clear g20 B19 MU19 MG19 MH19 F0_19 U19 V19 G19 H19
    go_wp2_with fail
    go_ret
    exact ⟨rfl, sl.unhide B20⟩

/-! ### the row's step (the guide's own frame) -/
set_option maxRecDepth 100000 in
theorem contract (H : Type) (enc : TypeId × Value → H) (W : World) (base : Nat) (args : Array Value) (ds gs : List (DataW H)) (before : List MemPlace)
    (hval : ∀ (j : Nat) t v, Tryd.f8.params[j]? = some t → args[j]? = some v → Value.okWide Tryd.prog W .any base t v)
    (hW : DataW.Whole enc Tryd.prog Tryd.f8.params.toList Rows.fnExactMachineStepSpec.vars false W args.toList ds gs before) (hL : laidMetH Tryd.prog Rows.fnExactMachineStepRow.laid W) :
    Calls Tryd.prog 8 args W fun e W' => ∃ v, e = .returned v ∧ Rows.fnExactMachineStepSpec.post enc Tryd.prog Tryd.f8 false true false false W args v W' := by
  have hW' := hW
  obtain ⟨p, q, hA0, hV, rfl, hfz, hnd⟩ := hW
  have hA : DataW.TrodAll enc Tryd.prog W 0 (fun _ => true) true Tryd.f8.params.toList args.toList ds p := hA0
  rw [Tryd.params8] at hA hval
  obtain ⟨x0, vs0, d0, ds0, p0, q0, hargs, rfl, rfl, h0, r0⟩ := trodAll_cons hA
  obtain ⟨rfl, rfl, rfl⟩ := trodAll_nil r0
  obtain rfl : args = #[x0] := by cases args; simp_all
  obtain ⟨rfl, rfl⟩ := trodVars_none hV
  obtain ⟨cs0, rfl, _⟩ := okWide_struct Tryd.underlying52 (hval 0 52 _ rfl rfl)
  have k0 := h0
  have lt0 : ∀ x ∈ p0, x.block < W.heap.size := by obtain ⟨m, hm⟩ := k0; exact DataW.trod_lt m _ _ _ hm
  obtain ⟨n0, v0, LL0, q0, P0, ss0, kk0, e0, w0, pp0, l0⟩ : ∃ n v LL q P st k, cs0 = #[.int .i64 n, v, q, .int .i64 st, .int .i64 k] ∧ row.IsRows W v LL ∧ sl.Sl W q P ∧ P.length ≤ 9223372036854775807 := by
    obtain ⟨fuel, hf⟩ := h0
    obtain ⟨n, v, LL, q, P, st, k, e, hv, hp, hl⟩ := row.open_mach hf
    refine ⟨n, v, LL, q, P, st, k, ?_, hv, hp, hl⟩
    cases cs0
    simpa [Value.cells] using e
  subst e0
  clear hA0
  refine (walk n0 v0 LL0 q0 P0 ss0 kk0 W w0 pp0 l0 (table hL)).mono fun e W' ⟨he, bel⟩ => ?_
  subst he
  exact ⟨_, rfl, _, _, _, [], _, [], hW', trodAll_mk1 (shut_bool Tryd.underlying4 _), (trodAll_cons_mk (Below.trod laidOut (by kernel_rfl) (of_decide_eq_true (by kernel_rfl)) k0 bel lt0) trodAll_mk0), rfl, bel.frame _, fun h => by cases h⟩

set_option maxRecDepth 100000 in
theorem lifted (os : Os) (started : os.Started) (H : Type) (enc : TypeId × Value → H) (F : Stop.Interp) :
    ReturnsInHanded {} Tryd.checked os 8 .any ((OpenSpec.ofChange Rows.fnExactMachineStepSpec).preRow enc Tryd.prog Tryd.f8 Rows.fnExactMachineStepRow.domain false Rows.fnExactMachineStepRow.laid) (((OpenSpec.ofChange Rows.fnExactMachineStepSpec).at F).post enc Tryd.prog Tryd.f8 false true false false) := by
  refine returnsInHanded_of_row (C := Tryd.checked) (s := OpenSpec.ofChange Rows.fnExactMachineStepSpec) own started (by kernel_rfl) Tryd.func8
    (witness_row_at (enc := enc) (C := Tryd.checked) false ({ World.holding Tryd.prog os ⟨#[], #[], []⟩ with heap := (World.holding Tryd.prog os ⟨#[], #[], []⟩).heap.modify 3 fun | .cells _ t frozen => .cells (Lib.deBruijn64tab.map fun (n : Nat) => Value.int .u8 n).toArray t frozen | o => o } : World) #[.agg #[.int .i64 0, .slice none 0 0, .slice none 0 0, .int .i64 0, .int .i64 0]] rfl (by kernel_rfl) (by kernel_rfl) (by kernel_rfl)
      (OpenSpec.preRow_of_cond 8 (x := ([.agg [.agg [.lit (.int .i64 0), .nil], .nil, .lit (.int .i64 0), .lit (.int .i64 0)]], [], [])) (by kernel_rfl) (by kernel_rfl) (fun k hk => by cases hk) (by kernel_rfl) (laidMet_of_run' 8 (by kernel_rfl) (by kernel_rfl)))) ?_
  intro W base args ds gs before hval hW _ _ _ hL _ _
  exact contract H enc W base args ds gs before hval hW hL

theorem said : Rows.FnExactMachineStepSaid :=
  OpenClaim.holds_of_cond 8 Tryd.f8 rfl rfl rfl rfl rfl rfl rfl ⟨rfl, rfl, rfl, rfl, rfl⟩ rfl rfl rfl rfl rfl (by kernel_rfl) Tryd.func8 (by kernel_rfl)
    (of_decide_eq_true (by kernel_rfl)) (by unfold Func.isWrapper; first | (rw [if_pos (by decide +kernel)]; kernel_rfl) | (rw [if_neg (by decide +kernel)]; exact ⟨rfl, rfl⟩))
    (fun os started H enc _ F => by rw [OpenClaim.pre_eq_preRow]; exact lifted os started H enc F)

theorem plain (f : FuncId) (fn : Func) (hf : Tryd.pinned.checked.prog.funcNamed "loop.example/g00123/laws.FnExactMachineStep" = some f) (hfn : Tryd.pinned.checked.prog.funcs[f]? = some fn) :
    true = Tryd.pinned.checked.prog.looks [] ∧ ∀ (j : Nat) t, fn.params[j]? = some t → Tryd.pinned.checked.prog.wantsStandIn t = false := by
  obtain rfl : f = 8 := Option.some.inj ((show Tryd.prog.funcNamed "loop.example/g00123/laws.FnExactMachineStep" = some 8 by kernel_rfl).symm.trans hf) |>.symm
  obtain rfl : fn = Tryd.f8 := (Option.some.inj (Tryd.func8.symm.trans hfn)).symm
  refine ⟨by kernel_rfl, fun j t ht => ?_⟩
  rw [Tryd.params8] at ht
  obtain rfl : t = 52 := by simpa using Array.mem_of_getElem? ht
  exact (show Tryd.prog.wantsStandIn 52 = false by kernel_rfl)

/-- the statement: the row's tied card -/
theorem proved : Rows.FnExactMachineStepCardSaid :=
  Claim7.holds_tied_plain_at .later [] _ _ _ _ said (fun _ h => by cases h) (by kernel_rfl) (fun _ h => by cases h) fnExactMachineStep_row_tie rfl ⟨rfl, rfl⟩ (by kernel_rfl) rfl plain (by kernel_rfl)
#print axioms proved
end Go.Proofs.YtlpgnaedhijdpaaDoor.fnExactMachineStep
