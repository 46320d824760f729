/- At every number impl.Pigeon answers as spec.Pigeon, and its answer owns its memory (the law FnExactPigeon returns true); no condition. -/
import Derived.Test.YtmmfhcfanbfniaaRows
import Derived.Test.YtmmfhcfanbfniaaRow
import Derived.Test.YtmmfhcfanbfniaaTx
import Derived.WalkKit
import Derived.ProofKit
import Derived.OpenShut
import Derived.ShutString
import Derived.ChangeOld
import Derived.Below
namespace Go.Proofs.Ytmmfhcfanbfniaa.fnExactPigeon
open Go.ChangeShapes Go.WideShapes Go.ChangeAt Go.RowKit
open Go.ChangeMaps (open_string shut_string)
set_option linter.unusedVariables false

theorem own : ownKnob Try.prog.godebug = none := by kernel_rfl

/-! ### the walk -/
theorem walk (a0 : Int) (w0 : (Lit.int .i64 a0).wf = true) (w : World) :
    Calls Try.prog 10 #[.int .i64 a0] w fun e w' => e = .returned (.bool true) ∧ Below w.heap.size w w' := by
  have S_ := Below.refl w.heap.size w
  clear S_
  obtain ⟨N, b, R, hR, cs, ci⟩ := t2.bothPigeon a0
  have CS := sl.hide cs
  have CI := sl.hide ci
  clear cs ci
  have hz2 : ¬ (1 : Int) + (css.sumLen R : Int) < 0 := by omega
  go_enter Try.func10, Try.ntmps10
  go_wp2_with fail
  refine (sl.unhide CS _).mono ?_; rintro e w1 ⟨u1, rfl, o1, g1⟩
  obtain ⟨a1_, c1_, rfl⟩ := o1.len
  have s1 := sl.hide (g1).size
  have B1 := sl.hide (sl.below_of (g1))
  have UA1 := sl.hide o1
  clear o1 g1
  have s2 := sl.hide (World.grownBy_alloc w1 (.cells #[(.int .i64 N), (.slice a1_ R.length c1_)] 52) none).size
  have B2 := sl.hide (sl.below_none (sl.unhide B1) (World.grownBy_alloc w1 (.cells #[(.int .i64 N), (.slice a1_ R.length c1_)] 52) none))
  have UA2 := sl.hide ((sl.unhide UA1).kept (World.grownBy_alloc w1 (.cells #[(.int .i64 N), (.slice a1_ R.length c1_)] 52) none))
  have q2 : Hid ((w1.alloc (.cells #[(.int .i64 N), (.slice a1_ R.length c1_)] 52)).heap.size = w1.heap.size + 1) := World.size_alloc ..
  have U2 := sl.hide (cf.Box.new 52 w1 (.int .i64 N) (.slice a1_ R.length c1_))
  clear B1 UA1
  go_wp2_with fail
  refine (sl.unhide CI _).mono ?_; rintro e w3 ⟨u3, rfl, o3, g3⟩
  obtain ⟨a3_, c3_, rfl⟩ := o3.len
  have s3 := sl.hide (g3).size
  have B3 := sl.hide (sl.below_none (sl.unhide B2) (g3))
  have UA3 := sl.hide ((sl.unhide UA2).kept (g3))
  have U3 := sl.hide ((sl.unhide U2).kept (g3))
  have GA3 := sl.hide o3
  clear o3 g3 B2 UA2 U2
  have pU0 := (sl.unhide U3).c0
  have pU1 := (sl.unhide U3).c1
  have pUl := (sl.unhide U3).lt
  have s4 := sl.hide (World.grownBy_alloc w3 (.cells #[(.int .i64 N), (.slice a3_ R.length c3_)] 52) none).size
  have B4 := sl.hide (sl.below_none (sl.unhide B3) (World.grownBy_alloc w3 (.cells #[(.int .i64 N), (.slice a3_ R.length c3_)] 52) none))
  have UA4 := sl.hide ((sl.unhide UA3).kept (World.grownBy_alloc w3 (.cells #[(.int .i64 N), (.slice a3_ R.length c3_)] 52) none))
  have GA4 := sl.hide ((sl.unhide GA3).kept (World.grownBy_alloc w3 (.cells #[(.int .i64 N), (.slice a3_ R.length c3_)] 52) none))
  have U4 := sl.hide ((sl.unhide U3).kept (World.grownBy_alloc w3 (.cells #[(.int .i64 N), (.slice a3_ R.length c3_)] 52) none))
  have q4 : Hid ((w3.alloc (.cells #[(.int .i64 N), (.slice a3_ R.length c3_)] 52)).heap.size = w3.heap.size + 1) := World.size_alloc ..
  have G4 := sl.hide (cf.Box.new 52 w3 (.int .i64 N) (.slice a3_ R.length c3_))
  clear B3 UA3 GA3 U3
  have zU0 := (sl.unhide U4).c0
  have zU1 := (sl.unhide U4).c1
  have zG0 := (sl.unhide G4).c0
  have zG1 := (sl.unhide G4).c1
  go_wp2_with fail
  refine (cf.eqCnf _ _ N R _ hR (sl.unhide GA4).sls (sl.unhide UA4).sls).mono ?_; rintro e w5 ⟨rfl, g5⟩
  clear pU0 pU1 pUl zU0 zU1 zG0 zG1
  have s5 := sl.hide (g5).size
  have B5 := sl.hide (sl.below_none (sl.unhide B4) (g5))
  have UA5 := sl.hide ((sl.unhide UA4).kept (g5))
  have GA5 := sl.hide ((sl.unhide GA4).kept (g5))
  have U5 := sl.hide ((sl.unhide U4).kept (g5))
  have G5 := sl.hide ((sl.unhide G4).kept (g5))
  clear g5 B4 UA4 GA4 U4 G4
  have zG0 := (sl.unhide G5).c0
  have zG1 := (sl.unhide G5).c1
  go_wp2_with fail
  refine (cf.markCnf _ N R 1 _ _ _ hR (by omega) (by omega) (sl.unhide GA5)).mono ?_; rintro e w6 ⟨rfl, o6, g6⟩
  clear zG0 zG1
  have s6 := sl.hide g6.size
  have B6 := sl.hide (css.below_outs (sl.unhide B5) (by have s1_ := sl.unhide s1; have s2_ := sl.unhide s2; have q2_ := sl.unhide q2; have s3_ := sl.unhide s3; have s4_ := sl.unhide s4; have q4_ := sl.unhide q4; have s5_ := sl.unhide s5; have s6_ := sl.unhide s6; omega) g6)
  have UA6 := sl.hide (css.OwnS.outs (sl.unhide UA5) g6 (by have s1_ := sl.unhide s1; have s2_ := sl.unhide s2; have q2_ := sl.unhide q2; have s3_ := sl.unhide s3; have s4_ := sl.unhide s4; have q4_ := sl.unhide q4; have s5_ := sl.unhide s5; have s6_ := sl.unhide s6; omega))
  have U6 := sl.hide ((sl.unhide U5).outs g6 (by have s1_ := sl.unhide s1; have s2_ := sl.unhide s2; have q2_ := sl.unhide q2; have s3_ := sl.unhide s3; have s4_ := sl.unhide s4; have q4_ := sl.unhide q4; have s5_ := sl.unhide s5; have s6_ := sl.unhide s6; omega))
  have G6 := sl.hide ((sl.unhide G5).outs g6 (by have s1_ := sl.unhide s1; have s2_ := sl.unhide s2; have q2_ := sl.unhide q2; have s3_ := sl.unhide s3; have s4_ := sl.unhide s4; have q4_ := sl.unhide q4; have s5_ := sl.unhide s5; have s6_ := sl.unhide s6; omega))
  have GA6 := sl.hide o6
  clear o6 g6 GA5 B5 UA5 U5 G5
  have zG0 := (sl.unhide G6).c0
  have zG1 := (sl.unhide G6).c1
  go_wp2_with fail
  refine (cf.heldCnf _ N R 1 _ hR (by decide) (by decide) (sl.unhide GA6).sls).mono ?_; rintro e w7 ⟨rfl, g7⟩
  clear zG0 zG1
  have s7 := sl.hide (g7).size
  have B7 := sl.hide (sl.below_none (sl.unhide B6) (g7))
  have UA7 := sl.hide ((sl.unhide UA6).kept (g7))
  have GA7 := sl.hide ((sl.unhide GA6).kept (g7))
  have U7 := sl.hide ((sl.unhide U6).kept (g7))
  have G7 := sl.hide ((sl.unhide G6).kept (g7))
  clear g7 B6 UA6 GA6 U6 G6
  go_wp2_with fail
  refine (sl.unhide CI _).mono ?_; rintro e w8 ⟨u8, rfl, o8, g8⟩
  obtain ⟨a8_, c8_, rfl⟩ := o8.len
  have s8 := sl.hide (g8).size
  have B8 := sl.hide (sl.below_none (sl.unhide B7) (g8))
  have UA8 := sl.hide ((sl.unhide UA7).kept (g8))
  have GA8 := sl.hide ((sl.unhide GA7).kept (g8))
  have U8 := sl.hide ((sl.unhide U7).kept (g8))
  have G8 := sl.hide ((sl.unhide G7).kept (g8))
  have HA8 := sl.hide o8
  clear o8 g8 B7 UA7 GA7 U7 G7
  have pU0 := (sl.unhide U8).c0
  have pU1 := (sl.unhide U8).c1
  have pUl := (sl.unhide U8).lt
  have s9 := sl.hide (World.grownBy_alloc w8 (.cells #[(.int .i64 N), (.slice a8_ R.length c8_)] 52) none).size
  have B9 := sl.hide (sl.below_none (sl.unhide B8) (World.grownBy_alloc w8 (.cells #[(.int .i64 N), (.slice a8_ R.length c8_)] 52) none))
  have UA9 := sl.hide ((sl.unhide UA8).kept (World.grownBy_alloc w8 (.cells #[(.int .i64 N), (.slice a8_ R.length c8_)] 52) none))
  have GA9 := sl.hide ((sl.unhide GA8).kept (World.grownBy_alloc w8 (.cells #[(.int .i64 N), (.slice a8_ R.length c8_)] 52) none))
  have HA9 := sl.hide ((sl.unhide HA8).kept (World.grownBy_alloc w8 (.cells #[(.int .i64 N), (.slice a8_ R.length c8_)] 52) none))
  have U9 := sl.hide ((sl.unhide U8).kept (World.grownBy_alloc w8 (.cells #[(.int .i64 N), (.slice a8_ R.length c8_)] 52) none))
  have G9 := sl.hide ((sl.unhide G8).kept (World.grownBy_alloc w8 (.cells #[(.int .i64 N), (.slice a8_ R.length c8_)] 52) none))
  have q9 : Hid ((w8.alloc (.cells #[(.int .i64 N), (.slice a8_ R.length c8_)] 52)).heap.size = w8.heap.size + 1) := World.size_alloc ..
  have H9 := sl.hide (cf.Box.new 52 w8 (.int .i64 N) (.slice a8_ R.length c8_))
  clear B8 UA8 GA8 HA8 U8 G8
  have zU0 := (sl.unhide U9).c0
  have zU1 := (sl.unhide U9).c1
  have zH0 := (sl.unhide H9).c0
  have zH1 := (sl.unhide H9).c1
  go_wp2_with fail
  refine (cf.eqCnf _ _ N R _ hR (sl.unhide HA9).sls (sl.unhide UA9).sls).mono ?_; rintro e w10 ⟨rfl, g10⟩
  clear pU0 pU1 pUl zU0 zU1 zH0 zH1
  have s10 := sl.hide (g10).size
  have B10 := sl.hide (sl.below_none (sl.unhide B9) (g10))
  have UA10 := sl.hide ((sl.unhide UA9).kept (g10))
  have GA10 := sl.hide ((sl.unhide GA9).kept (g10))
  have HA10 := sl.hide ((sl.unhide HA9).kept (g10))
  have U10 := sl.hide ((sl.unhide U9).kept (g10))
  have G10 := sl.hide ((sl.unhide G9).kept (g10))
  have H10 := sl.hide ((sl.unhide H9).kept (g10))
  clear g10 B9 UA9 GA9 HA9 U9 G9 H9
  have zG0 := (sl.unhide G10).c0
  have zG1 := (sl.unhide G10).c1
  go_wp2_with fail
  refine (cf.heldCnf _ N R 1 _ hR (by decide) (by decide) (sl.unhide GA10).sls).mono ?_; rintro e w11 ⟨rfl, g11⟩
  clear zG0 zG1
  have s11 := sl.hide (g11).size
  have B11 := sl.hide (sl.below_none (sl.unhide B10) (g11))
  have UA11 := sl.hide ((sl.unhide UA10).kept (g11))
  have GA11 := sl.hide ((sl.unhide GA10).kept (g11))
  have HA11 := sl.hide ((sl.unhide HA10).kept (g11))
  have U11 := sl.hide ((sl.unhide U10).kept (g11))
  have G11 := sl.hide ((sl.unhide G10).kept (g11))
  have H11 := sl.hide ((sl.unhide H10).kept (g11))
  clear g11 B10 UA10 GA10 HA10 U10 G10 H10
  go_wp2_with fail
  go_ret
  exact ⟨rfl, sl.unhide B11⟩

/-! ### the row's step (the guide's own frame) -/
set_option maxRecDepth 100000 in
theorem lifted (os : Os) (started : os.Started) (H : Type) (enc : TypeId × Value → H) :
    ReturnsInHanded {} Try.checked os 10 .any (Rows.fnExactPigeonSpec.pre6 enc Try.prog Try.f10 Rows.fnExactPigeonRow.domain false) (Rows.fnExactPigeonSpec.post enc Try.prog Try.f10 false true false false) := by
  refine returnsInHanded_of_change (C := Try.checked) own started (by kernel_rfl) Try.func10
    (ChangeSpec.witness6 (enc := enc) (C := Try.checked) false ⟨#[], #[.int .i64 0], []⟩ 8 (by kernel_rfl) (by kernel_rfl) (by kernel_rfl) (by kernel_rfl)) ?_
  intro W base args ds gs before hval0 hW hcnd _
  have hval : ∀ (j : Nat) t v, Try.f10.params[j]? = some t → args[j]? = some v → Value.okWide Try.prog W .any base t v := hval0
  have hW' := hW
  obtain ⟨p, q, hA0, hV, rfl, hfz, hnd⟩ := hW
  have hA : DataW.TrodAll enc Try.prog W 0 (fun _ => true) true Try.f10.params.toList args.toList ds p := hA0
  rw [Try.params10] at hA hval
  obtain ⟨v0, vs0, d0, ds0, p0, q0, hargs, rfl, rfl, h0, r0⟩ := trodAll_cons hA
  obtain ⟨rfl, rfl, rfl⟩ := trodAll_nil r0
  obtain rfl : args = #[v0] := by cases args; simp_all
  obtain ⟨rfl, rfl⟩ := trodVars_none hV
  obtain ⟨a0, rfl, rfl, rfl, w0⟩ := open_int Try.underlying3 (hval 0 3 v0 rfl rfl) h0
  clear hA0 hval0
  simp only [List.append_nil] at hW'
  refine (walk a0 w0 W).mono fun e W' ⟨he, hg⟩ => ?_
  subst he
  exact ⟨_, rfl, _, _, _, [], [], [], hW', trodAll_mk1 (shut_bool Try.underlying4 _), (trodAll_cons_mk (shut_int Try.underlying3 w0) trodAll_mk0), rfl, hg.frame _, fun h => by cases h⟩

theorem over : Rows.fnExactPigeonRow.holds Try.pinned (OpenSpec.ofChange Rows.fnExactPigeonSpec) :=
  OpenClaim.holds_of_wide 10 Try.f10 rfl rfl rfl rfl rfl rfl rfl ⟨rfl, rfl, rfl, rfl, rfl⟩ rfl rfl rfl rfl rfl (by kernel_rfl) Try.func10 (by kernel_rfl)
    (of_decide_eq_true (by kernel_rfl)) (by unfold Func.isWrapper; first | (rw [if_pos (by decide +kernel)]; kernel_rfl) | (rw [if_neg (by decide +kernel)]; exact ⟨rfl, rfl⟩))
    (fun os started H enc _ => lifted os started H enc)

/-- the statement -/
theorem proved : Rows.FnExactPigeonSaid :=
  over
#print axioms proved
end Go.Proofs.Ytmmfhcfanbfniaa.fnExactPigeon
