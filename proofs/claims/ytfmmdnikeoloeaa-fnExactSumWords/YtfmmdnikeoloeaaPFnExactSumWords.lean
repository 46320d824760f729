/- At every text impl.SumWords answers as spec.SumWords, writes nothing that was there, and its answer owns its memory (the law FnExactSumWords returns true); no condition. -/
import Derived.Test.YtfmmdnikeoloeaaRows
import Derived.Test.YtfmmdnikeoloeaaZd
import Derived.WalkKit
import Derived.ProofKit
import Derived.OpenShut
import Derived.ShutString
import Derived.ChangeOld
import Derived.Below
namespace Go.Proofs.Ytfmmdnikeoloeaa.fnExactSumWords
open Go.ChangeShapes Go.WideShapes Go.ChangeAt Go.RowKit
open Go.ChangeMaps (open_string shut_string)
set_option linter.unusedVariables false

theorem own : ownKnob Try.prog.godebug = none := by kernel_rfl

/-! ### the walk -/
theorem walk (a0 : ByteArray) (w0 : a0.size ≤ maxLen) (w : World) :
    Calls Try.prog 3 #[.string a0] w fun e w' => e = .returned (.bool true) ∧ Below w.heap.size w w' := by
  by_cases hbig : 1048576 < a0.size
  · have hi : (1048576 : Int) < (a0.size : Int) := by omega
    go_enter Try.func3, Try.ntmps3
    go_wp2
    go_ret
    exact ⟨rfl, Below.refl _ _⟩
  · have hi : ¬ (1048576 : Int) < (a0.size : Int) := by omega
    have hs : a0.size ≤ 1048576 := by omega
    have hM : (zc.wall a0).length ≤ 1048576 := by
      unfold zc.wall
      split
      · rw [zc.wds_length]; omega
      · simp
    have CS := sl.hide (fun w => zc.specSumWords a0 w hs)
    have CI := sl.hide (fun w => zd.implSumWords a0 w hs)
    generalize zc.wall a0 = L at *
    go_enter Try.func3, Try.ntmps3
    go_wp2_with fail
    refine (sl.unhide CS _).mono ?_; rintro e w1 ⟨u, rfl, m1⟩
    have B1 := sl.hide (sl.below_of m1.2)
    have U1 := sl.hide (zs.Own.of m1.1)
    clear m1 CS
    go_wp2_with fail
    refine (sl.unhide CI _).mono ?_; rintro e w2 ⟨v, rfl, m2⟩
    have s1 := (sl.unhide B1).size
    have B2 := sl.hide (sl.below_none (sl.unhide B1) m2.2)
    have U2 := sl.hide ((sl.unhide U1).kept m2.2)
    have V2 := sl.hide (zs.Own.of m2.1)
    clear m2 B1 U1
    go_wp2_with fail
    refine (zs.eqW _ _ L _ hM (sl.unhide V2).sl (sl.unhide U2).sl).mono ?_; rintro e w3 ⟨rfl, g3⟩
    have B3 := sl.hide (sl.below_none (sl.unhide B2) g3)
    have U3 := sl.hide ((sl.unhide U2).kept g3)
    have V3 := sl.hide ((sl.unhide V2).kept g3)
    clear g3 B2 U2 V2
    go_wp2_with fail
    refine (zs.markW _ L 1 _ _ hM (by decide) (by decide) (sl.unhide V3).1).mono ?_; rintro e w4 ⟨rfl, o4, g4⟩
    have B4 := sl.hide (zs.below_by (sl.unhide B3) (sl.unhide V3) (by omega) g4)
    have U4 := sl.hide ((sl.unhide U3).kept_by (sl.unhide V3) (.inl (Nat.le_refl _)) g4)
    have V4 := sl.hide ((sl.unhide V3).marked o4)
    clear o4 g4 B3 U3 V3
    go_wp2_with fail
    refine (zs.heldW _ _ 1 _ hM (by decide) (by decide) (sl.unhide V4).sl).mono ?_; rintro e w' ⟨rfl, rfl⟩
    have hq : ¬ (1 : Int) + (L.length : Int) < 0 := by omega
    go_wp2_with fail
    refine (sl.unhide CI _).mono ?_; rintro e w5 ⟨v5, rfl, m5⟩
    have B5 := sl.hide (sl.below_none (sl.unhide B4) m5.2)
    have U5 := sl.hide ((sl.unhide U4).kept m5.2)
    have V5 := sl.hide ((sl.unhide V4).kept m5.2)
    have H5 := sl.hide (zs.Own.of m5.1)
    clear m5 B4 U4 V4
    go_wp2_with fail
    refine (zs.eqW _ _ L _ hM (sl.unhide H5).sl (sl.unhide U5).sl).mono ?_; rintro e w6 ⟨rfl, g6⟩
    have B6 := sl.hide (sl.below_none (sl.unhide B5) g6)
    have V6 := sl.hide ((sl.unhide V5).kept g6)
    clear g6 B5 U5 V5 H5
    go_wp2_with fail
    refine (zs.heldW _ _ 1 _ hM (by decide) (by decide) (sl.unhide V6).sl).mono ?_; rintro e w' ⟨rfl, rfl⟩
    go_wp2_with fail
    go_ret
    exact ⟨rfl, sl.unhide B6⟩

/-! ### the row's step (the guide's own frame) -/
set_option maxRecDepth 100000 in
theorem lifted (os : Os) (started : os.Started) (H : Type) (enc : TypeId × Value → H) :
    ReturnsInHanded {} Try.checked os 3 .any (Rows.fnExactSumWordsSpec.pre6 enc Try.prog Try.f3 Rows.fnExactSumWordsRow.domain false) (Rows.fnExactSumWordsSpec.post enc Try.prog Try.f3 false true false false) := by
  refine returnsInHanded_of_change (C := Try.checked) own started (by kernel_rfl) Try.func3
    (ChangeSpec.witness6 (enc := enc) (C := Try.checked) false ⟨#[], #[.string ByteArray.empty], []⟩ 8 (by kernel_rfl) (by kernel_rfl) (by kernel_rfl) (by kernel_rfl)) ?_
  intro W base args ds gs before hval0 hW hcnd _
  have hval : ∀ (j : Nat) t v, Try.f3.params[j]? = some t → args[j]? = some v → Value.okWide Try.prog W .any base t v := hval0
  have hW' := hW
  obtain ⟨p, q, hA0, hV, rfl, hfz, hnd⟩ := hW
  have hA : DataW.TrodAll enc Try.prog W 0 (fun _ => true) true Try.f3.params.toList args.toList ds p := hA0
  rw [Try.params3] at hA hval
  obtain ⟨v0, vs0, d0, ds0, p0, q0, hargs, rfl, rfl, h0, r0⟩ := trodAll_cons hA
  obtain ⟨rfl, rfl, rfl⟩ := trodAll_nil r0
  obtain rfl : args = #[v0] := by cases args; simp_all
  obtain ⟨rfl, rfl⟩ := trodVars_none hV
  obtain ⟨a0, rfl, rfl, rfl, w0⟩ := open_string Try.underlying9 (hval 0 9 v0 rfl rfl) h0
  clear hA0 hval0
  simp only [List.append_nil] at hW'
  refine (walk a0 w0 W).mono fun e W' ⟨he, hg⟩ => ?_
  subst he
  exact ⟨_, rfl, _, _, _, [], [], [], hW', trodAll_mk1 (shut_bool Try.underlying4 _), (trodAll_cons_mk (shut_string Try.underlying9 w0) trodAll_mk0), rfl, hg.frame _, fun h => by cases h⟩

theorem over : Rows.fnExactSumWordsRow.holds Try.pinned (OpenSpec.ofChange Rows.fnExactSumWordsSpec) :=
  OpenClaim.holds_of_wide 3 Try.f3 rfl rfl rfl rfl rfl rfl rfl ⟨rfl, rfl, rfl, rfl, rfl⟩ rfl rfl rfl rfl rfl (by kernel_rfl) Try.func3 (by kernel_rfl)
    (of_decide_eq_true (by kernel_rfl)) (by unfold Func.isWrapper; first | (rw [if_pos (by decide +kernel)]; kernel_rfl) | (rw [if_neg (by decide +kernel)]; exact ⟨rfl, rfl⟩))
    (fun os started H enc _ => lifted os started H enc)

/-- the statement -/
theorem proved : Rows.FnExactSumWordsSaid :=
  over
#print axioms proved
end Go.Proofs.Ytfmmdnikeoloeaa.fnExactSumWords
