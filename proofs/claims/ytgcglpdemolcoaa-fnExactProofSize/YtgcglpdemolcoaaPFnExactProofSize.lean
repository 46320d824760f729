/- At every list of lists of numbers impl.ProofSize answers as spec.ProofSize and writes nothing into its argument (the law FnExactProofSize returns true). -/
import Derived.Test.YtgcglpdemolcoaaRows
import Derived.Test.YtgcglpdemolcoaaRow
import Derived.Test.YtgcglpdemolcoaaPs
import Derived.WalkKit
import Derived.ProofKit
import Derived.OpenShut
import Derived.ShutString
import Derived.ChangeOld
import Derived.Below
namespace Go.Proofs.Ytgcglpdemolcoaa.fnExactProofSize
open Go.ChangeShapes Go.WideShapes Go.ChangeAt Go.RowKit
open Go.ChangeMaps (open_string shut_string)
set_option linter.unusedVariables false

theorem own : ownKnob Try.prog.godebug = none := by kernel_rfl
theorem laidOut : laidOutB Try.prog = true := by kernel_rfl

/-! ### the walk -/
set_option maxRecDepth 100000 in
set_option maxHeartbeats 8000000 in
theorem walk (v0 : Value) (LL0 : List (List Int)) (w : World) (w0 : row.IsRows w v0 LL0) :
    Calls Try.prog 3 #[v0] w fun e w' => e = .returned (.bool true) ∧ Below w.heap.size w w' := by
  obtain ⟨hS0, hl0, hk0⟩ := w0
  have S0 := sl.hide hS0
  go_enter Try.func3, Try.ntmps3
  go_wp2_with fail
  refine (css.szIntSS v0 LL0 1048576 _ (by decide) (by decide) hl0 hk0 hS0).mono ?_; rintro e w' ⟨r0, rfl, hw, hr⟩; have hw' := hw.symm; clear hw; subst hw'
  rcases hr with rfl | ⟨hr0, hr1⟩
  · go_wp2_with fail
    go_ret
    exact ⟨rfl, Below.refl _ _⟩
  have hn0 : css.tot LL0 ≤ 1048576 := by omega
  have hq0 : ¬ r0 < 0 := by omega
  have hl : LL0.length ≤ 1048576 := Nat.le_trans (css.tot_len LL0) hn0
  have hin : Hid (∀ i, (LL0.getD i []).length ≤ 1048576) := fun i => Nat.le_trans (css.tot_in LL0 i) hn0
  have CT := sl.hide (fun (w' : World) (g : w.grownBy w' none) => css.toIntSS v0 LL0 w' hl (sl.unhide hin) (hS0.kept g))
  have hsl := css.sumLen_le LL0
  clear hr0 hr1 hS0 hl0 hk0
  go_wp2_with fail
  refine (sl.unhide CT _ (sl.grown_refl _)).mono ?_; rintro e w1 ⟨u1, rfl, o1, g1⟩
  obtain ⟨a1, c1, rfl⟩ := o1.len
  have G1 := sl.hide g1
  have C1 := sl.hide (ps.specProofSize _ LL0 w1 hn0 o1.sls)
  clear o1 g1
  go_wp2_with fail
  refine (sl.unhide C1).mono ?_; rintro e w' ⟨rfl, hw⟩; have hw' := hw.symm; clear hw; subst hw'
  clear C1
  go_wp2_with fail
  refine (sl.unhide CT _ (sl.unhide G1)).mono ?_; rintro e w2 ⟨u2, rfl, o2, g2⟩
  obtain ⟨a2, c2, rfl⟩ := o2.len
  have G2 := sl.hide (sl.grown_trans (r := none) (sl.unhide G1) g2)
  have C2 := sl.hide (ps.implProofSize _ LL0 w2 hn0 o2.sls)
  have O2 := sl.hide o2
  clear o2 g2
  generalize hq : (css.sumLen LL0 : Int) = q at *
  clear hq hsl
  go_wp2_with fail
  refine (sl.unhide C2).mono ?_; rintro e w' ⟨rfl, hw⟩; have hw' := hw.symm; clear hw; subst hw'
  clear C2
  go_wp2_with fail
  refine (sl.unhide CT _ (sl.unhide G2)).mono ?_; rintro e w3 ⟨u3, rfl, o3, g3⟩
  obtain ⟨a3, c3, rfl⟩ := o3.len
  have G3 := sl.hide (sl.grown_trans (r := none) (sl.unhide G2) g3)
  have C3 := sl.hide (css.eqIntSS _ _ LL0 w3 hl (sl.unhide hin) ((sl.unhide O2).kept g3).sls o3.sls)
  clear o3 g3
  go_wp2_with fail
  refine (sl.unhide C3).mono ?_; rintro e w4 ⟨rfl, g4⟩
  have G4 := sl.hide (sl.grown_trans (r := none) (sl.unhide G3) g4)
  clear g4
  go_wp2_with fail
  go_ret
  exact ⟨rfl, sl.below_of (sl.unhide G4)⟩

/-! ### the row's step (the guide's own frame) -/
set_option maxRecDepth 100000 in
theorem lifted (os : Os) (started : os.Started) (H : Type) (enc : TypeId × Value → H) :
    ReturnsInHanded {} Try.checked os 3 .any (Rows.fnExactProofSizeSpec.pre6 enc Try.prog Try.f3 Rows.fnExactProofSizeRow.domain false) (Rows.fnExactProofSizeSpec.post enc Try.prog Try.f3 false true false false) := by
  refine returnsInHanded_of_change (C := Try.checked) own started (by kernel_rfl) Try.func3
    (ChangeSpec.witness6 (enc := enc) (C := Try.checked) false ⟨#[], #[.slice none 0 0], []⟩ 8 (by kernel_rfl) (by kernel_rfl) (by kernel_rfl) (by kernel_rfl)) ?_
  intro W base args ds gs before hval0 hW hcnd _
  have hval : ∀ (j : Nat) t v, Try.f3.params[j]? = some t → args[j]? = some v → Value.okWide Try.prog W .any base t v := hval0
  have hW' := hW
  obtain ⟨p, q, hA0, hV, rfl, hfz, hnd⟩ := hW
  have hA : DataW.TrodAll enc Try.prog W 0 (fun _ => true) true Try.f3.params.toList args.toList ds p := hA0
  rw [Try.params3] at hA hval
  obtain ⟨x0, vs0, d0, ds0, p0, q0, hargs, rfl, rfl, h0, r0⟩ := trodAll_cons hA
  obtain ⟨rfl, rfl, rfl⟩ := trodAll_nil r0
  obtain rfl : args = #[x0] := by cases args; simp_all
  obtain ⟨rfl, rfl⟩ := trodVars_none hV
  obtain ⟨sa0, slen0, scap0, rfl⟩ := okWide_slice Try.underlying22 (hval 0 22 _ rfl rfl)
  have k0 := h0
  have lt0 : ∀ x ∈ p0, x.block < W.heap.size := by obtain ⟨m, hm⟩ := k0; exact DataW.trod_lt m _ _ _ hm
  obtain ⟨v0, LL0, e0, w0⟩ : ∃ v LL, Value.slice sa0 slen0 scap0 = v ∧ row.IsRows W v LL := by
    obtain ⟨fuel, hf⟩ := h0
    obtain ⟨v, LL, e, hv⟩ := row.open_rows hf
    exact ⟨v, LL, by simpa [Value.cells] using e, hv⟩
  subst e0
  clear hA0 hval0
  refine (walk (.slice sa0 slen0 scap0) LL0 W w0).mono fun e W' ⟨he, bel⟩ => ?_
  subst he
  exact ⟨_, rfl, _, _, _, [], _, [], hW', trodAll_mk1 (shut_bool Try.underlying4 _), (trodAll_cons_mk (Below.trod laidOut (by kernel_rfl) (of_decide_eq_true (by kernel_rfl)) k0 bel lt0) trodAll_mk0), rfl, bel.frame _, fun h => by cases h⟩

theorem over : Rows.fnExactProofSizeRow.holds Try.pinned (OpenSpec.ofChange Rows.fnExactProofSizeSpec) :=
  OpenClaim.holds_of_wide 3 Try.f3 rfl rfl rfl rfl rfl rfl rfl ⟨rfl, rfl, rfl, rfl, rfl⟩ rfl rfl rfl rfl rfl (by kernel_rfl) Try.func3 (by kernel_rfl)
    (of_decide_eq_true (by kernel_rfl)) (by unfold Func.isWrapper; first | (rw [if_pos (by decide +kernel)]; kernel_rfl) | (rw [if_neg (by decide +kernel)]; exact ⟨rfl, rfl⟩))
    (fun os started H enc _ => lifted os started H enc)

/-- the statement -/
theorem proved : Rows.FnExactProofSizeSaid := over
#print axioms proved
end Go.Proofs.Ytgcglpdemolcoaa.fnExactProofSize
