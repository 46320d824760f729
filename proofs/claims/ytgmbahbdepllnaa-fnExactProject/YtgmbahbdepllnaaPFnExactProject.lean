/- At every formula and every number impl.Project answers as spec.Project and writes nothing (the law FnExactProject returns true); no condition. -/
import Derived.Test.YtgmbahbdepllnaaRows
import Derived.Test.YtgmbahbdepllnaaRow
import Derived.Test.YtgmbahbdepllnaaJf
import Derived.Test.YtgmbahbdepllnaaJe
import Derived.WalkKit
import Derived.ProofKit
import Derived.OpenShut
import Derived.ShutString
import Derived.ChangeOld
import Derived.Below
namespace Go.Proofs.Ytgmbahbdepllnaa.fnExactProject
open Go.ChangeShapes Go.WideShapes Go.ChangeAt Go.RowKit
open Go.ChangeMaps (open_string shut_string)
set_option linter.unusedVariables false

theorem own : ownKnob Try.prog.godebug = none := by kernel_rfl
theorem laidOut : laidOutB Try.prog = true := by kernel_rfl

/-! ### the walk -/
set_option maxRecDepth 100000 in
set_option maxHeartbeats 8000000 in
theorem walk (n0 : Int) (v0 : Value) (LL0 : List (List Int)) (a1 : Int) (w : World) (f0 : (Lit.int .i64 n0).wf = true) (w0 : row.IsRows w v0 LL0) (w1 : (Lit.int .i64 a1).wf = true) :
    Calls Try.prog 7 #[.agg #[.int .i64 n0, v0], .int .i64 a1] w fun e w' => e = .returned (.bool true) ∧ Below w.heap.size w w' := by
  obtain ⟨hS0, hl0, hk0⟩ := w0
  have S_ := trivial
  have s1 := sl.hide (World.grownBy_alloc w (.cells #[(.int .i64 n0), v0] 36) none).size
  have B1 := sl.hide (sl.below_of (World.grownBy_alloc w (.cells #[(.int .i64 n0), v0] 36) none))
  have q1 : Hid ((w.alloc (.cells #[(.int .i64 n0), v0] 36)).heap.size = w.heap.size + 1) := World.size_alloc ..
  have F0_1 := sl.hide (cf.Box.new 36 w (.int .i64 n0) v0)
  have S0 := sl.hide hS0
  clear hS0
  go_enter Try.func7, Try.ntmps7
  have zF0_0 := (sl.unhide F0_1).c0
  have zF0_1 := (sl.unhide F0_1).c1
  go_wp2_with fail
  refine (cf.szCnf v0 n0 LL0 1048576 _ (by decide) (by decide) hl0 hk0 ((sl.unhide S0).below (sl.unhide B1))).mono ?_; rintro e w2 ⟨r0, rfl, g2, hr⟩
  clear zF0_0 zF0_1
  have s2 := sl.hide (g2).size
  have B2 := sl.hide (sl.below_none (sl.unhide B1) (g2))
  have F0_2 := sl.hide ((sl.unhide F0_1).kept (g2))
  clear g2 B1 F0_1
  rcases hr with rfl | ⟨hr0, hr1⟩
  · go_wp2_with fail
    go_ret
    exact ⟨rfl, sl.unhide B2⟩
  have hn0 : css.tot LL0 ≤ 1048576 := by omega
  have hq0 : ¬ r0 < 0 := by omega
  have hb0 : 0 ≤ r0 ∧ r0 ≤ 1048576 := by omega
  have ht0 := sl.hide hr1
  clear hr0 hr1
  have zF0_0 := (sl.unhide F0_2).c0
  have zF0_1 := (sl.unhide F0_2).c1
  go_wp2_with fail
  refine (cf.toCnf v0 n0 LL0 _ hn0 ((sl.unhide S0).below (sl.unhide B2))).mono ?_; rintro e w3 ⟨u3, rfl, o3, g3⟩
  clear zF0_0 zF0_1
  obtain ⟨a3_, c3_, rfl⟩ := o3.len
  have s3 := sl.hide (g3).size
  have B3 := sl.hide (sl.below_none (sl.unhide B2) (g3))
  have F0_3 := sl.hide ((sl.unhide F0_2).kept (g3))
  have P3 := sl.hide o3
  clear o3 g3 B2 F0_2
  go_wp2_with fail
  refine (jf.specProject _ n0 a1 LL0 _ hn0 (sl.unhide P3).sls).mono ?_; rintro e w4 ⟨rfl, g4⟩
  generalize hbv : jd.projI n0 a1 LL0 = bv
  have HB := sl.hide hbv
  clear hbv
  have s4 := sl.hide (g4).size
  have B4 := sl.hide (sl.below_none (sl.unhide B3) (g4))
  have P4 := sl.hide ((sl.unhide P3).kept (g4))
  have F0_4 := sl.hide ((sl.unhide F0_3).kept (g4))
  clear g4 B3 P3 F0_3
  clear P4
  have zF0_0 := (sl.unhide F0_4).c0
  have zF0_1 := (sl.unhide F0_4).c1
  go_wp2_with fail
  refine (cf.toCnf v0 n0 LL0 _ hn0 ((sl.unhide S0).below (sl.unhide B4))).mono ?_; rintro e w5 ⟨u5, rfl, o5, g5⟩
  clear zF0_0 zF0_1
  obtain ⟨a5_, c5_, rfl⟩ := o5.len
  have s5 := sl.hide (g5).size
  have B5 := sl.hide (sl.below_none (sl.unhide B4) (g5))
  have F0_5 := sl.hide ((sl.unhide F0_4).kept (g5))
  have X5 := sl.hide o5
  clear o5 g5 B4 F0_4
  have s6 := sl.hide (World.grownBy_alloc w5 (.cells #[(.int .i64 n0), (.slice a5_ LL0.length c5_)] 26) none).size
  have B6 := sl.hide (sl.below_none (sl.unhide B5) (World.grownBy_alloc w5 (.cells #[(.int .i64 n0), (.slice a5_ LL0.length c5_)] 26) none))
  have X6 := sl.hide ((sl.unhide X5).kept (World.grownBy_alloc w5 (.cells #[(.int .i64 n0), (.slice a5_ LL0.length c5_)] 26) none))
  have F0_6 := sl.hide ((sl.unhide F0_5).kept (World.grownBy_alloc w5 (.cells #[(.int .i64 n0), (.slice a5_ LL0.length c5_)] 26) none))
  have q6 : Hid ((w5.alloc (.cells #[(.int .i64 n0), (.slice a5_ LL0.length c5_)] 26)).heap.size = w5.heap.size + 1) := World.size_alloc ..
  have V6 := sl.hide (cf.Box.new 26 w5 (.int .i64 n0) (.slice a5_ LL0.length c5_))
  clear B5 X5 F0_5
  have zV0 := (sl.unhide V6).c0
  have zV1 := (sl.unhide V6).c1
  go_wp2_with fail
  refine (je.implProject _ n0 a1 LL0 _ hn0 (sl.unhide X6).sls).mono ?_; rintro e w7 ⟨rfl, g7⟩
  clear zV0 zV1
  rw [sl.unhide HB]
  have s7 := sl.hide (g7).size
  have B7 := sl.hide (sl.below_none (sl.unhide B6) (g7))
  have X7 := sl.hide ((sl.unhide X6).kept (g7))
  have F0_7 := sl.hide ((sl.unhide F0_6).kept (g7))
  have V7 := sl.hide ((sl.unhide V6).kept (g7))
  clear g7 B6 X6 F0_6 V6
  go_upto_region 10 with fail
  go_cut [30] (fun q wx => q = .bool false ∧ Hid (w7.grownBy wx none))
  case first =>
    have T5 := sl.hide (cf.toCnf v0 n0 LL0 w7.drew hn0 (((sl.unhide S0).below (sl.unhide B7)).kept (cf.grown_drew w7 none)))
    have E5 := sl.hide (fun u6 wA (g6 : w7.drew.grownBy wA none) (o6 : css.OwnS w7.drew.heap.size wA.heap.size wA u6 LL0) => cf.eqCnf _ u6 n0 LL0 wA hn0 ((sl.unhide X7).kept (sl.grown_trans (r := none) (cf.grown_drew w7 none) g6)).sls o6.sls)
    have X5' := sl.hide (fun wA (g6 : w7.drew.grownBy wA none) => (sl.unhide V7).kept (sl.grown_trans (r := none) (cf.grown_drew w7 none) g6))
    have G5 := sl.hide (fun wA wB (g6 : w7.drew.grownBy wA none) (g7 : wA.grownBy wB none) => sl.grown_trans (r := none) (sl.grown_trans (r := none) (cf.grown_drew w7 none) g6) g7)
    have x0 := (sl.unhide F0_7).c0
    have x1 := (sl.unhide F0_7).c1
    have y0 := (sl.unhide V7).c0
    have y1 := (sl.unhide V7).c1
    clear X7 F0_7 V7 B7
    go_region_with (first
      | (go_at_call 22; refine (sl.unhide T5).mono ?_; rintro e wA ⟨u6, rfl, o6, g6⟩; have z0 := (sl.unhide X5' wA g6).c0; have z1 := (sl.unhide X5' wA g6).c1; have E6 := sl.hide (sl.unhide E5 u6 wA g6 o6); have G6 := sl.hide (fun wB => sl.unhide G5 wA wB g6); clear g6 o6)
      | (go_at_call 25; refine (sl.unhide E6).mono ?_; rintro e wB ⟨rfl, g7⟩; have G7 := sl.hide (sl.unhide G6 wB g7); clear g7))
    all_goals (go_wp2_with fail; go_meet; exact ⟨rfl, G7⟩)
  case rest =>
    obtain ⟨rfl, hg⟩ := hcut
    have g8 := sl.unhide hg
    have s8 := sl.hide (g8).size
    have B8 := sl.hide (sl.below_none (sl.unhide B7) (g8))
    have X8 := sl.hide ((sl.unhide X7).kept (g8))
    have F0_8 := sl.hide ((sl.unhide F0_7).kept (g8))
    have V8 := sl.hide ((sl.unhide V7).kept (g8))
    clear g8 hg B7 X7 F0_7 V7
    go_wp2_with fail
    go_ret
    exact ⟨rfl, sl.unhide B8⟩

/-! ### the row's step (the guide's own frame) -/
set_option maxRecDepth 100000 in
theorem lifted (os : Os) (started : os.Started) (H : Type) (enc : TypeId × Value → H) :
    ReturnsInHanded {} Try.checked os 7 .any (Rows.fnExactProjectSpec.pre6 enc Try.prog Try.f7 Rows.fnExactProjectRow.domain false) (Rows.fnExactProjectSpec.post enc Try.prog Try.f7 false true false false) := by
  refine returnsInHanded_of_change (C := Try.checked) own started (by kernel_rfl) Try.func7
    (ChangeSpec.witness6 (enc := enc) (C := Try.checked) false ⟨#[], #[.agg #[.int .i64 0, .slice none 0 0], .int .i64 0], []⟩ 8 (by kernel_rfl) (by kernel_rfl) (by kernel_rfl) (by kernel_rfl)) ?_
  intro W base args ds gs before hval0 hW hcnd _
  have hval : ∀ (j : Nat) t v, Try.f7.params[j]? = some t → args[j]? = some v → Value.okWide Try.prog W .any base t v := hval0
  have hW' := hW
  obtain ⟨p, q, hA0, hV, rfl, hfz, hnd⟩ := hW
  have hA : DataW.TrodAll enc Try.prog W 0 (fun _ => true) true Try.f7.params.toList args.toList ds p := hA0
  rw [Try.params7] at hA hval
  obtain ⟨x0, vs0, d0, ds0, p0, q0, hargs, rfl, rfl, h0, r0⟩ := trodAll_cons hA
  obtain ⟨x1, vs1, d1, ds1, p1, q1, rfl, rfl, rfl, h1, r1⟩ := trodAll_cons r0
  obtain ⟨rfl, rfl, rfl⟩ := trodAll_nil r1
  obtain rfl : args = #[x0, x1] := by cases args; simp_all
  obtain ⟨rfl, rfl⟩ := trodVars_none hV
  obtain ⟨cs0, rfl, _⟩ := okWide_struct Try.underlying36 (hval 0 36 _ rfl rfl)
  have k0 := h0
  have lt0 : ∀ x ∈ p0, x.block < W.heap.size := by obtain ⟨m, hm⟩ := k0; exact DataW.trod_lt m _ _ _ hm
  obtain ⟨n0, v0, LL0, e0, f0, w0⟩ : ∃ n v LL, cs0 = #[.int .i64 n, v] ∧ (Lit.int .i64 n).wf = true ∧ row.IsRows W v LL := by
    obtain ⟨fuel, hf⟩ := h0
    obtain ⟨n, v, LL, e, hw, hv⟩ := row.open_cnf hf
    refine ⟨n, v, LL, ?_, hw, hv⟩
    cases cs0
    simpa [Value.cells] using e
  subst e0
  have k1 := h1
  have lt1 : ∀ x ∈ p1, x.block < W.heap.size := by obtain ⟨m, hm⟩ := k1; exact DataW.trod_lt m _ _ _ hm
  obtain ⟨a1, rfl, rfl, rfl, w1⟩ := open_int Try.underlying3 (hval 1 3 _ rfl rfl) h1
  clear hA0 hval0
  refine (walk n0 v0 LL0 a1 W f0 w0 w1).mono fun e W' ⟨he, bel⟩ => ?_
  subst he
  exact ⟨_, rfl, _, _, _, [], _, [], hW', trodAll_mk1 (shut_bool Try.underlying4 _), (trodAll_cons_mk (Below.trod laidOut (by kernel_rfl) (of_decide_eq_true (by kernel_rfl)) k0 bel lt0) (trodAll_cons_mk (Below.trod laidOut (by kernel_rfl) (of_decide_eq_true (by kernel_rfl)) k1 bel lt1) trodAll_mk0)), rfl, bel.frame _, fun h => by cases h⟩

theorem over : Rows.fnExactProjectRow.holds Try.pinned (OpenSpec.ofChange Rows.fnExactProjectSpec) :=
  OpenClaim.holds_of_wide 7 Try.f7 rfl rfl rfl rfl rfl rfl rfl ⟨rfl, rfl, rfl, rfl, rfl⟩ rfl rfl rfl rfl rfl (by kernel_rfl) Try.func7 (by kernel_rfl)
    (of_decide_eq_true (by kernel_rfl)) (by unfold Func.isWrapper; first | (rw [if_pos (by decide +kernel)]; kernel_rfl) | (rw [if_neg (by decide +kernel)]; exact ⟨rfl, rfl⟩))
    (fun os started H enc _ => lifted os started H enc)

/-- the statement -/
theorem proved : Rows.FnExactProjectSaid := over
#print axioms proved
end Go.Proofs.Ytgmbahbdepllnaa.fnExactProject
