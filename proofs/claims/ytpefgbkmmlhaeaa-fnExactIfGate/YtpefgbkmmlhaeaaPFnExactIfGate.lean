/- At every four numbers impl.IfGate answers as spec.IfGate, and its answer owns its memory (the law FnExactIfGate returns true); no condition. -/
import Derived.Test.YtpefgbkmmlhaeaaRows
import Derived.Test.YtpefgbkmmlhaeaaT5
import Derived.WalkKit
import Derived.ProofKit
import Derived.OpenShut
import Derived.ShutString
import Derived.ChangeOld
import Derived.Below
namespace Go.Proofs.Ytpefgbkmmlhaeaa.fnExactIfGate
open Go.ChangeShapes Go.WideShapes Go.ChangeAt Go.RowKit
open Go.ChangeMaps (open_string shut_string)
set_option linter.unusedVariables false

theorem own : ownKnob Try.prog.godebug = none := by kernel_rfl

/-! ### the walk -/
theorem walk (a0 : Int) (a1 : Int) (a2 : Int) (a3 : Int) (w0 : (Lit.int .i64 a0).wf = true) (w1 : (Lit.int .i64 a1).wf = true) (w2 : (Lit.int .i64 a2).wf = true) (w3 : (Lit.int .i64 a3).wf = true) (w : World) :
    Calls Try.prog 12 #[.int .i64 a0, .int .i64 a1, .int .i64 a2, .int .i64 a3] w fun e w' => e = .returned (.bool true) ∧ Below w.heap.size w w' := by
  have S_ : Below w.heap.size w w := Below.refl _ _
  clear S_
  obtain ⟨R, b, hR, cs, ci⟩ := t2.bothIfGate a0 a1 a2 a3
  have CS := sl.hide cs
  have CI := sl.hide ci
  clear cs ci
  have hl : R.length ≤ 1048576 := Nat.le_trans (css.tot_len R) hR
  have hin : Hid (∀ i, (R.getD i []).length ≤ 1048576) := fun i => Nat.le_trans (css.tot_in R i) hR
  have hz2 : ¬ (1 : Int) + (css.sumLen R : Int) < 0 := by omega
  go_enter Try.func12, Try.ntmps12
  go_wp2_with fail
  refine (sl.unhide CS _).mono ?_; rintro e w1 ⟨u1, rfl, o1, g1⟩
  obtain ⟨a1_, c1_, rfl⟩ := o1.len
  have s1 := sl.hide (g1).size
  have B1 := sl.hide (sl.below_of (g1))
  have KW1 := sl.hide o1
  clear o1 g1
  go_wp2_with fail
  refine (sl.unhide CI _).mono ?_; rintro e w2 ⟨u2, rfl, o2, g2⟩
  obtain ⟨a2_, c2_, rfl⟩ := o2.len
  have s2 := sl.hide (g2).size
  have B2 := sl.hide (sl.below_none (sl.unhide B1) (g2))
  have KW2 := sl.hide ((sl.unhide KW1).kept (g2))
  have KG2 := sl.hide o2
  clear o2 g2 B1 KW1
  go_wp2_with fail
  refine (css.eqIntSS _ _ R _ hl (sl.unhide hin) (sl.unhide KG2).sls (sl.unhide KW2).sls).mono ?_; rintro e w3 ⟨rfl, g3⟩
  have s3 := sl.hide (g3).size
  have B3 := sl.hide (sl.below_none (sl.unhide B2) (g3))
  have KW3 := sl.hide ((sl.unhide KW2).kept (g3))
  have KG3 := sl.hide ((sl.unhide KG2).kept (g3))
  clear g3 B2 KW2 KG2
  go_wp2_with fail
  refine (css.markIntSS _ R 1 _ _ _ hR (by omega) (by omega) (sl.unhide KG3)).mono ?_; rintro e w4 ⟨rfl, o4, g4⟩
  have s4 := sl.hide g4.size
  have B4 := sl.hide (css.below_outs (sl.unhide B3) (by have s1_ := sl.unhide s1; have s2_ := sl.unhide s2; have s3_ := sl.unhide s3; have s4_ := sl.unhide s4; omega) g4)
  have KW4 := sl.hide (css.OwnS.outs (sl.unhide KW3) g4 (by have s1_ := sl.unhide s1; have s2_ := sl.unhide s2; have s3_ := sl.unhide s3; have s4_ := sl.unhide s4; omega))
  have KG4 := sl.hide o4
  clear o4 g4 KG3 B3 KW3
  go_wp2_with fail
  refine (css.heldIntSS _ R 1 _ hR (by decide) (by decide) (sl.unhide KG4).sls).mono ?_; rintro e v' ⟨rfl, hw⟩; have hw' := hw.symm; clear hw; subst hw'
  go_wp2_with fail
  refine (sl.unhide CI _).mono ?_; rintro e w5 ⟨u5, rfl, o5, g5⟩
  obtain ⟨a5_, c5_, rfl⟩ := o5.len
  have s5 := sl.hide (g5).size
  have B5 := sl.hide (sl.below_none (sl.unhide B4) (g5))
  have KW5 := sl.hide ((sl.unhide KW4).kept (g5))
  have KG5 := sl.hide ((sl.unhide KG4).kept (g5))
  have KH5 := sl.hide o5
  clear o5 g5 B4 KW4 KG4
  go_wp2_with fail
  refine (css.eqIntSS _ _ R _ hl (sl.unhide hin) (sl.unhide KH5).sls (sl.unhide KW5).sls).mono ?_; rintro e w6 ⟨rfl, g6⟩
  have s6 := sl.hide (g6).size
  have B6 := sl.hide (sl.below_none (sl.unhide B5) (g6))
  have KW6 := sl.hide ((sl.unhide KW5).kept (g6))
  have KG6 := sl.hide ((sl.unhide KG5).kept (g6))
  have KH6 := sl.hide ((sl.unhide KH5).kept (g6))
  clear g6 B5 KW5 KG5 KH5
  go_wp2_with fail
  refine (css.heldIntSS _ R 1 _ hR (by decide) (by decide) (sl.unhide KG6).sls).mono ?_; rintro e v' ⟨rfl, hw⟩; have hw' := hw.symm; clear hw; subst hw'
  go_wp2_with fail
  go_ret
  exact ⟨rfl, sl.unhide B6⟩

/-! ### the row's step (the guide's own frame) -/
set_option maxRecDepth 100000 in
theorem lifted (os : Os) (started : os.Started) (H : Type) (enc : TypeId × Value → H) :
    ReturnsInHanded {} Try.checked os 12 .any (Rows.fnExactIfGateSpec.pre6 enc Try.prog Try.f12 Rows.fnExactIfGateRow.domain false) (Rows.fnExactIfGateSpec.post enc Try.prog Try.f12 false true false false) := by
  refine returnsInHanded_of_change (C := Try.checked) own started (by kernel_rfl) Try.func12
    (ChangeSpec.witness6 (enc := enc) (C := Try.checked) false ⟨#[], #[.int .i64 0, .int .i64 0, .int .i64 0, .int .i64 0], []⟩ 8 (by kernel_rfl) (by kernel_rfl) (by kernel_rfl) (by kernel_rfl)) ?_
  intro W base args ds gs before hval0 hW hcnd _
  have hval : ∀ (j : Nat) t v, Try.f12.params[j]? = some t → args[j]? = some v → Value.okWide Try.prog W .any base t v := hval0
  have hW' := hW
  obtain ⟨p, q, hA0, hV, rfl, hfz, hnd⟩ := hW
  have hA : DataW.TrodAll enc Try.prog W 0 (fun _ => true) true Try.f12.params.toList args.toList ds p := hA0
  rw [Try.params12] at hA hval
  obtain ⟨v0, vs0, d0, ds0, p0, q0, hargs, rfl, rfl, h0, r0⟩ := trodAll_cons hA
  obtain ⟨v1, vs1, d1, ds1, p1, q1, rfl, rfl, rfl, h1, r1⟩ := trodAll_cons r0
  obtain ⟨v2, vs2, d2, ds2, p2, q2, rfl, rfl, rfl, h2, r2⟩ := trodAll_cons r1
  obtain ⟨v3, vs3, d3, ds3, p3, q3, rfl, rfl, rfl, h3, r3⟩ := trodAll_cons r2
  obtain ⟨rfl, rfl, rfl⟩ := trodAll_nil r3
  obtain rfl : args = #[v0, v1, v2, v3] := by cases args; simp_all
  obtain ⟨rfl, rfl⟩ := trodVars_none hV
  obtain ⟨a0, rfl, rfl, rfl, w0⟩ := open_int Try.underlying3 (hval 0 3 v0 rfl rfl) h0
  obtain ⟨a1, rfl, rfl, rfl, w1⟩ := open_int Try.underlying3 (hval 1 3 v1 rfl rfl) h1
  obtain ⟨a2, rfl, rfl, rfl, w2⟩ := open_int Try.underlying3 (hval 2 3 v2 rfl rfl) h2
  obtain ⟨a3, rfl, rfl, rfl, w3⟩ := open_int Try.underlying3 (hval 3 3 v3 rfl rfl) h3
  clear hA0 hval0
  simp only [List.append_nil] at hW'
  refine (walk a0 a1 a2 a3 w0 w1 w2 w3 W).mono fun e W' ⟨he, hg⟩ => ?_
  subst he
  exact ⟨_, rfl, _, _, _, [], [], [], hW', trodAll_mk1 (shut_bool Try.underlying4 _), (trodAll_cons_mk (shut_int Try.underlying3 w0) (trodAll_cons_mk (shut_int Try.underlying3 w1) (trodAll_cons_mk (shut_int Try.underlying3 w2) (trodAll_cons_mk (shut_int Try.underlying3 w3) trodAll_mk0)))), rfl, hg.frame _, fun h => by cases h⟩

theorem over : Rows.fnExactIfGateRow.holds Try.pinned (OpenSpec.ofChange Rows.fnExactIfGateSpec) :=
  OpenClaim.holds_of_wide 12 Try.f12 rfl rfl rfl rfl rfl rfl rfl ⟨rfl, rfl, rfl, rfl, rfl⟩ rfl rfl rfl rfl rfl (by kernel_rfl) Try.func12 (by kernel_rfl)
    (of_decide_eq_true (by kernel_rfl)) (by unfold Func.isWrapper; first | (rw [if_pos (by decide +kernel)]; kernel_rfl) | (rw [if_neg (by decide +kernel)]; exact ⟨rfl, rfl⟩))
    (fun os started H enc _ => lifted os started H enc)

/-- the statement -/
theorem proved : Rows.FnExactIfGateSaid :=
  over
#print axioms proved
end Go.Proofs.Ytpefgbkmmlhaeaa.fnExactIfGate
