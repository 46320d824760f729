/- At every list of numbers, for odd and for even, impl.Parity answers as spec.Parity, writes nothing into its argument and its answer owns its memory (the law FnExactParity returns true); no condition. -/
import Derived.Test.YtmmfhcfanbfniaaRows
import Derived.Test.YtmmfhcfanbfniaaRow
import Derived.Test.YtmmfhcfanbfniaaTo
import Derived.WalkKit
import Derived.ProofKit
import Derived.OpenShut
import Derived.ShutString
import Derived.ChangeOld
import Derived.Below
namespace Go.Proofs.Ytmmfhcfanbfniaa.fnExactParity
open Go.ChangeShapes Go.WideShapes Go.ChangeAt Go.RowKit
open Go.ChangeMaps (open_string shut_string)
set_option linter.unusedVariables false

theorem own : ownKnob Try.prog.godebug = none := by kernel_rfl
theorem laidOut : laidOutB Try.prog = true := by kernel_rfl

/-- what the walk is told of a slice of integers that came in -/
def IsRow (k : IntKind) (w : World) (a : Option Addr) (len cap : Nat) (zs : List Int) : Prop :=
  (a = none ∧ len = 0 ∧ cap = 0 ∧ zs = []) ∨
  ∃ x, a = some x ∧ len ≤ cap ∧ cap ≤ maxLen ∧ zs.length = cap ∧ (∀ i, i < zs.length → w.cell? (x.add i) = some (.int k (zs.getD i 0))) ∧ ∀ n ∈ zs, (Lit.int k n).wf = true

/-! ### the walk -/
theorem walk (a0 : Option Addr) (len0 cap0 : Nat) (z0 : List Int) (a1 : Bool) (w : World) (w0 : IsRow .i64 w a0 len0 cap0 z0) :
    Calls Try.prog 9 #[.slice a0 len0 cap0, .bool a1] w fun e w' => e = .returned (.bool true) ∧ Below w.heap.size w w' := by
  obtain ⟨L0, rfl, hS0, _⟩ := sl.of_row w0
  have S_ := trivial
  have S0 := sl.hide hS0
  clear hS0
  by_cases hbig0 : 1048576 < L0.length
  · have hi0 : (1048576 : Int) < (L0.length : Int) := by omega
    go_enter Try.func9, Try.ntmps9
    go_wp2
    go_ret
    exact ⟨rfl, Below.refl _ _⟩
  have hi0 : ¬ (1048576 : Int) < (L0.length : Int) := by omega
  have hL0 : L0.length ≤ 1048576 := by omega
  clear hbig0
  go_enter Try.func9, Try.ntmps9
  obtain ⟨R, b, hR, cs, ci⟩ := t2.bothParity L0 hL0 a1
  have CS := sl.hide cs
  have CI := sl.hide ci
  clear cs ci
  have hl : R.length ≤ 1048576 := Nat.le_trans (css.tot_len R) hR
  have hin : Hid (∀ i, (R.getD i []).length ≤ 1048576) := fun i => Nat.le_trans (css.tot_in R i) hR
  have hz2 : ¬ (1 : Int) + (css.sumLen R : Int) < 0 := by omega
  have hz1 : decide ((1 : Int) + (L0.length : Int) < 0) = false := decide_eq_false (by omega)
  go_wp2_with fail
  refine (sl.toIntS _ L0 _ hL0 (sl.unhide S0)).mono ?_; rintro e w1 ⟨rfl, o1, g1⟩
  have s1 := sl.hide (g1).size
  have B1 := sl.hide (sl.below_of (g1))
  have I1 := sl.hide (sl.Own.of o1)
  clear o1 g1
  go_wp2_with fail
  refine (sl.unhide CS _ _ (sl.unhide I1).sl).mono ?_; rintro e w2 ⟨u2, rfl, o2, g2⟩
  obtain ⟨a2_, c2_, rfl⟩ := o2.len
  have s2 := sl.hide (g2).size
  have B2 := sl.hide (sl.below_none (sl.unhide B1) (g2))
  have I2 := sl.hide ((sl.unhide I1).kept (g2))
  have KW2 := sl.hide o2
  clear o2 g2 B1 I1
  clear I2
  go_wp2_with fail
  refine (sl.toIntS _ L0 _ hL0 ((sl.unhide S0).below (sl.unhide B2))).mono ?_; rintro e w3 ⟨rfl, o3, g3⟩
  have s3 := sl.hide (g3).size
  have B3 := sl.hide (sl.below_none (sl.unhide B2) (g3))
  have KW3 := sl.hide ((sl.unhide KW2).kept (g3))
  have I3 := sl.hide (sl.Own.of o3)
  clear o3 g3 B2 KW2
  go_wp2_with fail
  refine (sl.unhide CI _ _ _ _ (sl.unhide I3) (Nat.le_refl _)).mono ?_; rintro e w4 ⟨u4, rfl, o4, g4⟩
  obtain ⟨a4_, c4_, rfl⟩ := o4.len
  have s4 := sl.hide (g4).size
  have B4 := sl.hide (sl.below_none (sl.unhide B3) (g4))
  have KW4 := sl.hide ((sl.unhide KW3).kept (g4))
  have I4 := sl.hide ((sl.unhide I3).kept (g4))
  have KG4 := sl.hide o4
  clear o4 g4 B3 KW3 I3
  go_wp2_with fail
  refine (css.eqIntSS _ _ R _ hl (sl.unhide hin) (sl.unhide KG4).sls (sl.unhide KW4).sls).mono ?_; rintro e w5 ⟨rfl, g5⟩
  have s5 := sl.hide (g5).size
  have B5 := sl.hide (sl.below_none (sl.unhide B4) (g5))
  have KW5 := sl.hide ((sl.unhide KW4).kept (g5))
  have I5 := sl.hide ((sl.unhide I4).kept (g5))
  have KG5 := sl.hide ((sl.unhide KG4).kept (g5))
  clear g5 B4 KW4 I4 KG4
  go_wp2_with fail
  refine (sl.toIntS _ L0 _ hL0 ((sl.unhide S0).below (sl.unhide B5))).mono ?_; rintro e w6 ⟨rfl, o6, g6⟩
  have s6 := sl.hide (g6).size
  have B6 := sl.hide (sl.below_none (sl.unhide B5) (g6))
  have KW6 := sl.hide ((sl.unhide KW5).kept (g6))
  have I6 := sl.hide ((sl.unhide I5).kept (g6))
  have KG6 := sl.hide ((sl.unhide KG5).kept (g6))
  have IK6 := sl.hide (sl.Own.of o6)
  clear o6 g6 B5 KW5 I5 KG5
  go_wp2_with fail
  refine (sl.eqIntS _ _ _ _ hL0 (sl.unhide I6).sl (sl.unhide IK6).sl).mono ?_; rintro e w7 ⟨rfl, g7⟩
  have s7 := sl.hide (g7).size
  have B7 := sl.hide (sl.below_none (sl.unhide B6) (g7))
  have KW7 := sl.hide ((sl.unhide KW6).kept (g7))
  have I7 := sl.hide ((sl.unhide I6).kept (g7))
  have KG7 := sl.hide ((sl.unhide KG6).kept (g7))
  have IK7 := sl.hide ((sl.unhide IK6).kept (g7))
  clear g7 B6 KW6 I6 KG6 IK6
  clear IK7
  go_wp2_with fail
  refine (sl.markIntS _ L0 1 _ _ hL0 (by omega) (by omega) (sl.unhide I7).1).mono ?_; rintro e w8 ⟨rfl, o8, gx8⟩
  have g8 := css.outs_by gx8 (fun q hq => And.intro ((sl.unhide I7).1.lt q hq).1 ((sl.unhide I7).2 q hq))
  have s8 := sl.hide g8.size
  have B8 := sl.hide (css.below_outs (sl.unhide B7) (by have s1_ := sl.unhide s1; have s2_ := sl.unhide s2; have s3_ := sl.unhide s3; have s4_ := sl.unhide s4; have s5_ := sl.unhide s5; have s6_ := sl.unhide s6; have s7_ := sl.unhide s7; have s8_ := sl.unhide s8; omega) g8)
  have KW8 := sl.hide (css.OwnS.outs (sl.unhide KW7) g8 (by have s1_ := sl.unhide s1; have s2_ := sl.unhide s2; have s3_ := sl.unhide s3; have s4_ := sl.unhide s4; have s5_ := sl.unhide s5; have s6_ := sl.unhide s6; have s7_ := sl.unhide s7; have s8_ := sl.unhide s8; omega))
  have KG8 := sl.hide (css.OwnS.outs (sl.unhide KG7) g8 (by have s1_ := sl.unhide s1; have s2_ := sl.unhide s2; have s3_ := sl.unhide s3; have s4_ := sl.unhide s4; have s5_ := sl.unhide s5; have s6_ := sl.unhide s6; have s7_ := sl.unhide s7; have s8_ := sl.unhide s8; omega))
  clear o8 g8 gx8 I7 B7 KW7 KG7
  go_wp2_with fail
  refine (css.eqIntSS _ _ R _ hl (sl.unhide hin) (sl.unhide KG8).sls (sl.unhide KW8).sls).mono ?_; rintro e w9 ⟨rfl, g9⟩
  have s9 := sl.hide (g9).size
  have B9 := sl.hide (sl.below_none (sl.unhide B8) (g9))
  have KW9 := sl.hide ((sl.unhide KW8).kept (g9))
  have KG9 := sl.hide ((sl.unhide KG8).kept (g9))
  clear g9 B8 KW8 KG8
  go_wp2_with fail
  refine (css.markIntSS _ R 1 _ _ _ hR (by omega) (by omega) (sl.unhide KG9)).mono ?_; rintro e w10 ⟨rfl, o10, g10⟩
  have s10 := sl.hide g10.size
  have B10 := sl.hide (css.below_outs (sl.unhide B9) (by have s1_ := sl.unhide s1; have s2_ := sl.unhide s2; have s3_ := sl.unhide s3; have s4_ := sl.unhide s4; have s5_ := sl.unhide s5; have s6_ := sl.unhide s6; have s7_ := sl.unhide s7; have s8_ := sl.unhide s8; have s9_ := sl.unhide s9; have s10_ := sl.unhide s10; omega) g10)
  have KW10 := sl.hide (css.OwnS.outs (sl.unhide KW9) g10 (by have s1_ := sl.unhide s1; have s2_ := sl.unhide s2; have s3_ := sl.unhide s3; have s4_ := sl.unhide s4; have s5_ := sl.unhide s5; have s6_ := sl.unhide s6; have s7_ := sl.unhide s7; have s8_ := sl.unhide s8; have s9_ := sl.unhide s9; have s10_ := sl.unhide s10; omega))
  have KG10 := sl.hide o10
  clear o10 g10 KG9 B9 KW9
  go_wp2_with fail
  refine (css.heldIntSS _ R 1 _ hR (by decide) (by decide) (sl.unhide KG10).sls).mono ?_; rintro e v' ⟨rfl, hw⟩; have hw' := hw.symm; clear hw; subst hw'
  go_wp2_with fail
  refine (sl.toIntS _ L0 _ hL0 ((sl.unhide S0).below (sl.unhide B10))).mono ?_; rintro e w11 ⟨rfl, o11, g11⟩
  have s11 := sl.hide (g11).size
  have B11 := sl.hide (sl.below_none (sl.unhide B10) (g11))
  have KW11 := sl.hide ((sl.unhide KW10).kept (g11))
  have KG11 := sl.hide ((sl.unhide KG10).kept (g11))
  have I11 := sl.hide (sl.Own.of o11)
  clear o11 g11 B10 KW10 KG10
  go_wp2_with fail
  refine (sl.unhide CI _ _ _ _ (sl.unhide I11) (Nat.le_refl _)).mono ?_; rintro e w12 ⟨u12, rfl, o12, g12⟩
  obtain ⟨a12_, c12_, rfl⟩ := o12.len
  have s12 := sl.hide (g12).size
  have B12 := sl.hide (sl.below_none (sl.unhide B11) (g12))
  have KW12 := sl.hide ((sl.unhide KW11).kept (g12))
  have KG12 := sl.hide ((sl.unhide KG11).kept (g12))
  have I12 := sl.hide ((sl.unhide I11).kept (g12))
  have KH12 := sl.hide o12
  clear o12 g12 B11 KW11 KG11 I11
  clear I12
  go_wp2_with fail
  refine (css.eqIntSS _ _ R _ hl (sl.unhide hin) (sl.unhide KH12).sls (sl.unhide KW12).sls).mono ?_; rintro e w13 ⟨rfl, g13⟩
  have s13 := sl.hide (g13).size
  have B13 := sl.hide (sl.below_none (sl.unhide B12) (g13))
  have KW13 := sl.hide ((sl.unhide KW12).kept (g13))
  have KG13 := sl.hide ((sl.unhide KG12).kept (g13))
  have KH13 := sl.hide ((sl.unhide KH12).kept (g13))
  clear g13 B12 KW12 KG12 KH12
  go_wp2_with fail
  refine (css.heldIntSS _ R 1 _ hR (by decide) (by decide) (sl.unhide KG13).sls).mono ?_; rintro e v' ⟨rfl, hw⟩; have hw' := hw.symm; clear hw; subst hw'
  go_wp2_with fail
  go_ret
  exact ⟨rfl, sl.unhide B13⟩

/-! ### the row's step (the guide's own frame) -/
set_option maxRecDepth 100000 in
theorem lifted (os : Os) (started : os.Started) (H : Type) (enc : TypeId × Value → H) :
    ReturnsInHanded {} Try.checked os 9 .any (Rows.fnExactParitySpec.pre6 enc Try.prog Try.f9 Rows.fnExactParityRow.domain false) (Rows.fnExactParitySpec.post enc Try.prog Try.f9 false true false false) := by
  refine returnsInHanded_of_change (C := Try.checked) own started (by kernel_rfl) Try.func9
    (ChangeSpec.witness6 (enc := enc) (C := Try.checked) false ⟨#[], #[.slice none 0 0, .bool false], []⟩ 8 (by kernel_rfl) (by kernel_rfl) (by kernel_rfl) (by kernel_rfl)) ?_
  intro W base args ds gs before hval0 hW hcnd _
  have hval : ∀ (j : Nat) t v, Try.f9.params[j]? = some t → args[j]? = some v → Value.okWide Try.prog W .any base t v := hval0
  have hW' := hW
  obtain ⟨p, q, hA0, hV, rfl, hfz, hnd⟩ := hW
  have hA : DataW.TrodAll enc Try.prog W 0 (fun _ => true) true Try.f9.params.toList args.toList ds p := hA0
  rw [Try.params9] at hA hval
  obtain ⟨v0, vs0, d0, ds0, p0, q0, hargs, rfl, rfl, h0, r0⟩ := trodAll_cons hA
  obtain ⟨v1, vs1, d1, ds1, p1, q1, rfl, rfl, rfl, h1, r1⟩ := trodAll_cons r0
  obtain ⟨rfl, rfl, rfl⟩ := trodAll_nil r1
  obtain rfl : args = #[v0, v1] := by cases args; simp_all
  obtain ⟨rfl, rfl⟩ := trodVars_none hV
  obtain ⟨a0, len0, cap0, rfl⟩ := okWide_slice Try.underlying24 (hval 0 24 v0 rfl rfl)
  have k0 := h0
  have lt0 : ∀ x ∈ p0, x.block < W.heap.size := by obtain ⟨m, hm⟩ := k0; exact DataW.trod_lt m _ _ _ hm
  obtain ⟨z0, w0⟩ : ∃ zs, IsRow .i64 W a0 len0 cap0 zs := by
    obtain ⟨fuel, hf⟩ := h0
    rcases open_ints Try.underlying24 Try.underlying3 (by kernel_rfl) hf with ⟨hcs, _⟩ | ⟨x, l, c, zs, hcs, _, hl, hm, hz, _, hcell, hwz⟩
    · simp [Value.cells] at hcs
      obtain ⟨rfl, rfl, rfl⟩ := hcs
      exact ⟨[], .inl ⟨rfl, rfl, rfl, rfl⟩⟩
    · simp [Value.cells] at hcs
      obtain ⟨rfl, rfl, rfl⟩ := hcs
      exact ⟨zs, .inr ⟨_, rfl, hl, hm, by simpa using hz, hcell, hwz⟩⟩
  obtain ⟨a1, rfl, rfl, rfl⟩ := open_bool Try.underlying4 (hval 1 4 v1 rfl rfl) h1
  clear hA0 hval0
  refine (walk a0 len0 cap0 z0 a1 W w0).mono fun e W' ⟨he, bel⟩ => ?_
  subst he
  exact ⟨_, rfl, _, _, _, [], _, [], hW', trodAll_mk1 (shut_bool Try.underlying4 _), (trodAll_cons_mk (Below.trod laidOut (by kernel_rfl) (of_decide_eq_true (by kernel_rfl)) k0 bel lt0) (trodAll_cons_mk (shut_bool Try.underlying4 _) trodAll_mk0)), rfl, bel.frame _, fun h => by cases h⟩

theorem over : Rows.fnExactParityRow.holds Try.pinned (OpenSpec.ofChange Rows.fnExactParitySpec) :=
  OpenClaim.holds_of_wide 9 Try.f9 rfl rfl rfl rfl rfl rfl rfl ⟨rfl, rfl, rfl, rfl, rfl⟩ rfl rfl rfl rfl rfl (by kernel_rfl) Try.func9 (by kernel_rfl)
    (of_decide_eq_true (by kernel_rfl)) (by unfold Func.isWrapper; first | (rw [if_pos (by decide +kernel)]; kernel_rfl) | (rw [if_neg (by decide +kernel)]; exact ⟨rfl, rfl⟩))
    (fun os started H enc _ => lifted os started H enc)

/-- the statement -/
theorem proved : Rows.FnExactParitySaid := over
#print axioms proved
end Go.Proofs.Ytmmfhcfanbfniaa.fnExactParity
