/- MachineOk of the program answers as its model at every machine that came in, and writes into none; no condition but that a machine of more than 2^20 values is passed over by the law itself. -/
import Derived.Test.YtlpgnaedhijdpaaRows
import Derived.Test.YtlpgnaedhijdpaaRm
import Derived.Test.YtlpgnaedhijdpaaQb
import Derived.WalkKit
import Derived.ProofKit
import Derived.OpenShut
import Derived.ShutString
import Derived.ChangeOld
import Derived.Below
namespace Go.Proofs.Ytlpgnaedhijdpaa.fnExactMachineOk
open Go.ChangeShapes Go.WideShapes Go.ChangeAt Go.RowKit
open Go.ChangeMaps (open_string shut_string)
set_option linter.unusedVariables false

theorem own : ownKnob Try.prog.godebug = none := by kernel_rfl
theorem laidOut : laidOutB Try.prog = true := by kernel_rfl

/-! ### the walk -/
set_option maxRecDepth 100000 in
set_option maxHeartbeats 8000000 in
theorem walk (n0 : Int) (v0 : Value) (LL0 : List (List Int)) (q0 : Value) (P0 : List Int) (ss0 kk0 : Int) (w : World) (w0 : row.IsRows w v0 LL0) (p0 : sl.Sl w q0 P0) (l0 : P0.length ≤ 9223372036854775807) :
    Calls Try.prog 5 #[.agg #[.int .i64 n0, v0, q0, .int .i64 ss0, .int .i64 kk0]] w fun e w' => e = .returned (.bool true) ∧ Below w.heap.size w w' := by
  obtain ⟨hS0, hl0, hk0⟩ := w0
  have T0 := sl.hide p0
  obtain ⟨qa0, qc0, rfl, _⟩ := p0
  have s1 := sl.hide (World.grownBy_alloc w (.cells #[.int .i64 n0, v0, .slice qa0 P0.length qc0, .int .i64 ss0, .int .i64 kk0] 47) none).size
  have B1 := sl.hide (sl.below_of (World.grownBy_alloc w (.cells #[.int .i64 n0, v0, .slice qa0 P0.length qc0, .int .i64 ss0, .int .i64 kk0] 47) none))
  have q1 : Hid ((w.alloc (.cells #[.int .i64 n0, v0, .slice qa0 P0.length qc0, .int .i64 ss0, .int .i64 kk0] 47)).heap.size = w.heap.size + 1) := World.size_alloc ..
  have F0_1 := sl.hide (qa.Box5.new 47 w (.int .i64 n0) v0 (.slice qa0 P0.length qc0) (.int .i64 ss0) (.int .i64 kk0))
  have S0 := sl.hide hS0
  clear hS0
  go_enter Try.func5, Try.ntmps5
  have zF0_0 := (sl.unhide F0_1).c0
  have zF0_1 := (sl.unhide F0_1).c1
  have zF0_2 := (sl.unhide F0_1).c2
  have zF0_3 := (sl.unhide F0_1).c3
  have zF0_4 := (sl.unhide F0_1).c4
  go_wp2_with fail
  refine (qa.szMachine v0 qa0 qc0 n0 ss0 kk0 LL0 P0 1048576 _ (by decide) (by decide) hl0 hk0 l0 ((sl.unhide S0).below (sl.unhide B1))).mono ?_; rintro e w2 ⟨r0, rfl, g2, hr⟩
  clear zF0_0 zF0_1 zF0_2 zF0_3 zF0_4
  have s2 := sl.hide (g2).size
  have B2 := sl.hide (sl.below_none (sl.unhide B1) (g2))
  have F0_2 := sl.hide ((sl.unhide F0_1).kept (g2))
  clear g2 B1 F0_1
  rcases hr with rfl | ⟨hr0, hr1⟩
  · go_wp2_with fail
    go_ret
    exact ⟨rfl, sl.unhide B2⟩
  have hn0 : css.tot LL0 ≤ 1048576 := by omega
  have hP0 : P0.length ≤ 1048576 := by omega
  have hq0 : ¬ r0 < 0 := by omega
  clear hr0 hr1 l0
  obtain ⟨b, cs, ci⟩ := qb.bothK n0 ss0 kk0 LL0 P0 hn0 hP0
  have CS := sl.hide cs
  have CI := sl.hide ci
  clear cs ci
  have zF0_0 := (sl.unhide F0_2).c0
  have zF0_1 := (sl.unhide F0_2).c1
  have zF0_2 := (sl.unhide F0_2).c2
  have zF0_3 := (sl.unhide F0_2).c3
  have zF0_4 := (sl.unhide F0_2).c4
  go_wp2_with fail
  refine (qa.toMachine v0 _ n0 ss0 kk0 LL0 P0 _ hn0 hP0 ((sl.unhide S0).below (sl.unhide B2)) ((sl.unhide T0).below (sl.unhide B2))).mono ?_; rintro e w3 ⟨u3, p3, rfl, o3, g3⟩
  clear zF0_0 zF0_1 zF0_2 zF0_3 zF0_4
  obtain ⟨a3_, c3_, b3_, d3_, rfl, rfl⟩ := o3.len
  have s3 := sl.hide (g3).size
  have B3 := sl.hide (sl.below_none (sl.unhide B2) (g3))
  have F0_3 := sl.hide ((sl.unhide F0_2).kept (g3))
  have MP3 := sl.hide o3
  clear o3 g3 B2 F0_2
  go_wp2_with fail
  refine (sl.unhide CS _ _ _ (sl.unhide MP3).sls (sl.unhide MP3).sl).mono ?_; rintro e w4 ⟨rfl, g4⟩
  have s4 := sl.hide (g4).size
  have B4 := sl.hide (sl.below_none (sl.unhide B3) (g4))
  have MP4 := sl.hide ((sl.unhide MP3).kept (g4))
  have F0_4 := sl.hide ((sl.unhide F0_3).kept (g4))
  clear g4 B3 MP3 F0_3
  clear MP4
  have zF0_0 := (sl.unhide F0_4).c0
  have zF0_1 := (sl.unhide F0_4).c1
  have zF0_2 := (sl.unhide F0_4).c2
  have zF0_3 := (sl.unhide F0_4).c3
  have zF0_4 := (sl.unhide F0_4).c4
  go_wp2_with fail
  refine (qa.toMachine v0 _ n0 ss0 kk0 LL0 P0 _ hn0 hP0 ((sl.unhide S0).below (sl.unhide B4)) ((sl.unhide T0).below (sl.unhide B4))).mono ?_; rintro e w5 ⟨u5, p5, rfl, o5, g5⟩
  clear zF0_0 zF0_1 zF0_2 zF0_3 zF0_4
  obtain ⟨a5_, c5_, b5_, d5_, rfl, rfl⟩ := o5.len
  have s5 := sl.hide (g5).size
  have B5 := sl.hide (sl.below_none (sl.unhide B4) (g5))
  have F0_5 := sl.hide ((sl.unhide F0_4).kept (g5))
  have MX5 := sl.hide o5
  clear o5 g5 B4 F0_4
  have s6 := sl.hide (World.grownBy_alloc w5 (.cells #[.int .i64 n0, .slice a5_ LL0.length c5_, .slice b5_ P0.length d5_, .int .i64 ss0, .int .i64 kk0] 51) none).size
  have B6 := sl.hide (sl.below_none (sl.unhide B5) (World.grownBy_alloc w5 (.cells #[.int .i64 n0, .slice a5_ LL0.length c5_, .slice b5_ P0.length d5_, .int .i64 ss0, .int .i64 kk0] 51) none))
  have MX6 := sl.hide ((sl.unhide MX5).kept (World.grownBy_alloc w5 (.cells #[.int .i64 n0, .slice a5_ LL0.length c5_, .slice b5_ P0.length d5_, .int .i64 ss0, .int .i64 kk0] 51) none))
  have F0_6 := sl.hide ((sl.unhide F0_5).kept (World.grownBy_alloc w5 (.cells #[.int .i64 n0, .slice a5_ LL0.length c5_, .slice b5_ P0.length d5_, .int .i64 ss0, .int .i64 kk0] 51) none))
  have q6 : Hid ((w5.alloc (.cells #[.int .i64 n0, .slice a5_ LL0.length c5_, .slice b5_ P0.length d5_, .int .i64 ss0, .int .i64 kk0] 51)).heap.size = w5.heap.size + 1) := World.size_alloc ..
  have V6 := sl.hide (qa.Box5.new 51 w5 (.int .i64 n0) (.slice a5_ LL0.length c5_) (.slice b5_ P0.length d5_) (.int .i64 ss0) (.int .i64 kk0))
  clear B5 MX5 F0_5
  have zV0 := (sl.unhide V6).c0
  have zV1 := (sl.unhide V6).c1
  have zV2 := (sl.unhide V6).c2
  have zV3 := (sl.unhide V6).c3
  have zV4 := (sl.unhide V6).c4
  go_wp2_with fail
  refine (sl.unhide CI _ _ _ (sl.unhide MX6).sls (sl.unhide MX6).sl).mono ?_; rintro e w7 ⟨rfl, g7⟩
  clear zV0 zV1 zV2 zV3 zV4
  have s7 := sl.hide (g7).size
  have B7 := sl.hide (sl.below_none (sl.unhide B6) (g7))
  have MX7 := sl.hide ((sl.unhide MX6).kept (g7))
  have F0_7 := sl.hide ((sl.unhide F0_6).kept (g7))
  have V7 := sl.hide ((sl.unhide V6).kept (g7))
  clear g7 B6 MX6 F0_6 V6
  go_upto_region 10 with fail
  go_cut [26] (fun q wx => q = .bool false ∧ Hid (w7.grownBy wx none))
  case first =>
    have T5 := sl.hide (qa.toMachine v0 _ n0 ss0 kk0 LL0 P0 w7.drew hn0 hP0 (((sl.unhide S0).below (sl.unhide B7)).kept (cf.grown_drew w7 none)) (((sl.unhide T0).below (sl.unhide B7)).kept (cf.grown_drew w7 none) (.inl rfl)))
    have E5 := sl.hide (fun u6 p6 wA (g6 : w7.drew.grownBy wA none) (o6 : qa.OwnM w7.drew.heap.size wA.heap.size wA u6 p6 LL0 P0) => qa.eqMachine _ u6 _ p6 n0 ss0 kk0 LL0 P0 wA hn0 hP0 ((sl.unhide MX7).kept (sl.grown_trans (r := none) (cf.grown_drew w7 none) g6)).sls o6.sls ((sl.unhide MX7).kept (sl.grown_trans (r := none) (cf.grown_drew w7 none) g6)).sl o6.sl)
    have X5' := sl.hide (fun wA (g6 : w7.drew.grownBy wA none) => (sl.unhide V7).kept (sl.grown_trans (r := none) (cf.grown_drew w7 none) g6))
    have F5' := sl.hide (fun wA (g6 : w7.drew.grownBy wA none) => (sl.unhide F0_7).kept (sl.grown_trans (r := none) (cf.grown_drew w7 none) g6))
    have G5 := sl.hide (fun wA wB (g6 : w7.drew.grownBy wA none) (g7 : wA.grownBy wB none) => sl.grown_trans (r := none) (sl.grown_trans (r := none) (cf.grown_drew w7 none) g6) g7)
    have x0 := (sl.unhide F0_7).c0
    have x1 := (sl.unhide F0_7).c1
    have x2 := (sl.unhide F0_7).c2
    have x3 := (sl.unhide F0_7).c3
    have x4 := (sl.unhide F0_7).c4
    have y0 := (sl.unhide V7).c0
    have y1 := (sl.unhide V7).c1
    have y2 := (sl.unhide V7).c2
    have y3 := (sl.unhide V7).c3
    have y4 := (sl.unhide V7).c4
    clear MX7 F0_7 V7 B7
    go_region_held3 (fun w' => w'.cell? ⟨w.heap.size, 0, none⟩ = some (.int .i64 n0) ∧ w'.cell? ⟨w.heap.size, 1, none⟩ = some (v0) ∧ w'.cell? ⟨w.heap.size, 2, none⟩ = some (.slice qa0 P0.length qc0) ∧ w'.cell? ⟨w.heap.size, 3, none⟩ = some (.int .i64 ss0) ∧ w'.cell? ⟨w.heap.size, 4, none⟩ = some (.int .i64 kk0) ∧ w'.cell? ⟨w5.heap.size, 0, none⟩ = some (.int .i64 n0) ∧ w'.cell? ⟨w5.heap.size, 1, none⟩ = some (.slice a5_ LL0.length c5_) ∧ w'.cell? ⟨w5.heap.size, 2, none⟩ = some (.slice b5_ P0.length d5_) ∧ w'.cell? ⟨w5.heap.size, 3, none⟩ = some (.int .i64 ss0) ∧ w'.cell? ⟨w5.heap.size, 4, none⟩ = some (.int .i64 kk0)) (go_keep) (first
      | (go_at_call 28; refine (sl.unhide T5).mono ?_; rintro e wA ⟨u6, p6, rfl, o6, g6⟩; have k0 := (sl.unhide F5' wA g6).c0; have k1 := (sl.unhide F5' wA g6).c1; have k2 := (sl.unhide F5' wA g6).c2; have k3 := (sl.unhide F5' wA g6).c3; have k4 := (sl.unhide F5' wA g6).c4; have z0 := (sl.unhide X5' wA g6).c0; have z1 := (sl.unhide X5' wA g6).c1; have z2 := (sl.unhide X5' wA g6).c2; have z3 := (sl.unhide X5' wA g6).c3; have z4 := (sl.unhide X5' wA g6).c4; have E6 := sl.hide (sl.unhide E5 u6 p6 wA g6 o6); have G6 := sl.hide (fun wB => sl.unhide G5 wA wB g6); have GA := sl.hide g6; clear g6 o6)
      | (go_at_call 30; refine (sl.unhide E6).mono ?_; rintro e wB ⟨rfl, g7⟩; have r0 := ((sl.unhide F5' wA (sl.unhide GA)).kept g7).c0; have r1 := ((sl.unhide F5' wA (sl.unhide GA)).kept g7).c1; have r2 := ((sl.unhide F5' wA (sl.unhide GA)).kept g7).c2; have r3 := ((sl.unhide F5' wA (sl.unhide GA)).kept g7).c3; have r4 := ((sl.unhide F5' wA (sl.unhide GA)).kept g7).c4; have t0 := ((sl.unhide X5' wA (sl.unhide GA)).kept g7).c0; have t1 := ((sl.unhide X5' wA (sl.unhide GA)).kept g7).c1; have t2 := ((sl.unhide X5' wA (sl.unhide GA)).kept g7).c2; have t3 := ((sl.unhide X5' wA (sl.unhide GA)).kept g7).c3; have t4 := ((sl.unhide X5' wA (sl.unhide GA)).kept g7).c4; have G7 := sl.hide (sl.unhide G6 wB g7); clear g7))
    all_goals (go_wp2_with fail; go_meet; exact ⟨rfl, G7⟩)
  case rest =>
    obtain ⟨rfl, hg⟩ := hcut
    have g8 := sl.unhide hg
    have s8 := sl.hide (g8).size
    have B8 := sl.hide (sl.below_none (sl.unhide B7) (g8))
    have MX8 := sl.hide ((sl.unhide MX7).kept (g8))
    have F0_8 := sl.hide ((sl.unhide F0_7).kept (g8))
    have V8 := sl.hide ((sl.unhide V7).kept (g8))
    clear g8 hg B7 MX7 F0_7 V7
    go_wp2_with fail
    go_ret
    exact ⟨rfl, sl.unhide B8⟩

/-! ### the row's step (the guide's own frame) -/
set_option maxRecDepth 100000 in
theorem lifted (os : Os) (started : os.Started) (H : Type) (enc : TypeId × Value → H) :
    ReturnsInHanded {} Try.checked os 5 .any (Rows.fnExactMachineOkSpec.pre6 enc Try.prog Try.f5 Rows.fnExactMachineOkRow.domain false) (Rows.fnExactMachineOkSpec.post enc Try.prog Try.f5 false true false false) := by
  refine returnsInHanded_of_change (C := Try.checked) own started (by kernel_rfl) Try.func5
    (ChangeSpec.witness6 (enc := enc) (C := Try.checked) false ⟨#[], #[.agg #[.int .i64 0, .slice none 0 0, .slice none 0 0, .int .i64 0, .int .i64 0]], []⟩ 8 (by kernel_rfl) (by kernel_rfl) (by kernel_rfl) (by kernel_rfl)) ?_
  intro W base args ds gs before hval0 hW hcnd _
  have hval : ∀ (j : Nat) t v, Try.f5.params[j]? = some t → args[j]? = some v → Value.okWide Try.prog W .any base t v := hval0
  have hW' := hW
  obtain ⟨p, q, hA0, hV, rfl, hfz, hnd⟩ := hW
  have hA : DataW.TrodAll enc Try.prog W 0 (fun _ => true) true Try.f5.params.toList args.toList ds p := hA0
  rw [Try.params5] at hA hval
  obtain ⟨x0, vs0, d0, ds0, p0, q0, hargs, rfl, rfl, h0, r0⟩ := trodAll_cons hA
  obtain ⟨rfl, rfl, rfl⟩ := trodAll_nil r0
  obtain rfl : args = #[x0] := by cases args; simp_all
  obtain ⟨rfl, rfl⟩ := trodVars_none hV
  obtain ⟨cs0, rfl, _⟩ := okWide_struct Try.underlying47 (hval 0 47 _ rfl rfl)
  have k0 := h0
  have lt0 : ∀ x ∈ p0, x.block < W.heap.size := by obtain ⟨m, hm⟩ := k0; exact DataW.trod_lt m _ _ _ hm
  obtain ⟨n0, v0, LL0, q0, P0, ss0, kk0, e0, w0, pp0, l0⟩ : ∃ n v LL q P st k, cs0 = #[.int .i64 n, v, q, .int .i64 st, .int .i64 k] ∧ row.IsRows W v LL ∧ sl.Sl W q P ∧ P.length ≤ 9223372036854775807 := by
    obtain ⟨fuel, hf⟩ := h0
    obtain ⟨n, v, LL, q, P, st, k, e, hv, hp, hl⟩ := row.open_mach hf
    refine ⟨n, v, LL, q, P, st, k, ?_, hv, hp, hl⟩
    cases cs0
    simpa [Value.cells] using e
  subst e0
  clear hA0 hval0
  refine (walk n0 v0 LL0 q0 P0 ss0 kk0 W w0 pp0 l0).mono fun e W' ⟨he, bel⟩ => ?_
  subst he
  exact ⟨_, rfl, _, _, _, [], _, [], hW', trodAll_mk1 (shut_bool Try.underlying4 _), (trodAll_cons_mk (Below.trod laidOut (by kernel_rfl) (of_decide_eq_true (by kernel_rfl)) k0 bel lt0) trodAll_mk0), rfl, bel.frame _, fun h => by cases h⟩

theorem over : Rows.fnExactMachineOkRow.holds Try.pinned (OpenSpec.ofChange Rows.fnExactMachineOkSpec) :=
  OpenClaim.holds_of_wide 5 Try.f5 rfl rfl rfl rfl rfl rfl rfl ⟨rfl, rfl, rfl, rfl, rfl⟩ rfl rfl rfl rfl rfl (by kernel_rfl) Try.func5 (by kernel_rfl)
    (of_decide_eq_true (by kernel_rfl)) (by unfold Func.isWrapper; first | (rw [if_pos (by decide +kernel)]; kernel_rfl) | (rw [if_neg (by decide +kernel)]; exact ⟨rfl, rfl⟩))
    (fun os started H enc _ => lifted os started H enc)

/-- the statement -/
theorem proved : Rows.FnExactMachineOkSaid := over
#print axioms proved
end Go.Proofs.Ytlpgnaedhijdpaa.fnExactMachineOk
