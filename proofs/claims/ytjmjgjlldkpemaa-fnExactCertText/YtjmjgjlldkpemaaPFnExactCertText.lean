/- At every certificate of at most 2^20 bytes CertText of the program answers as its model, and nothing that came in is written; no condition. -/
import Derived.Test.YtjmjgjlldkpemaaRows
import Derived.Test.YtjmjgjlldkpemaaYr
import Derived.Test.YtjmjgjlldkpemaaYa
import Derived.Test.YtjmjgjlldkpemaaYb
import Derived.WalkKit
import Derived.ProofKit
import Derived.OpenShut
import Derived.ShutString
import Derived.ChangeOld
import Derived.Below
namespace Go.Proofs.Ytjmjgjlldkpemaa.fnExactCertText
open Go.ChangeShapes Go.WideShapes Go.ChangeAt Go.RowKit
open Go.ChangeMaps (open_string shut_string)
set_option linter.unusedVariables false

theorem own : ownKnob Try.prog.godebug = none := by kernel_rfl
theorem laidOut : laidOutB Try.prog = true := by kernel_rfl

/-! ### the walk -/
set_option maxRecDepth 100000 in
set_option maxHeartbeats 8000000 in
theorem walk (d0 : ByteArray) (sat0 : Bool) (b0 m0 : ByteArray) (w : World) (wd0 : d0.size ≤ maxLen) (wb0 : b0.size ≤ maxLen) (wm0 : m0.size ≤ maxLen) :
    Calls Try.prog 3 #[.agg #[.string d0, .bool sat0, .string b0, .string m0]] w fun e w' => e = .returned (.bool true) ∧ Below w.heap.size w w' := by
  have CZ := sl.hide (yb.szCert d0 sat0 b0 m0 1048576 (w.alloc (.cells #[.string d0, .bool sat0, .string b0, .string m0] 23)) (by decide) wd0 wb0 wm0)
  have G0 := sl.hide (World.grownBy_alloc w (.cells #[.string d0, .bool sat0, .string b0, .string m0] 23) none)
  have F0 := sl.hide (yb.Box4.new 23 w (.string d0) (.bool sat0) (.string b0) (.string m0))
  have CT := sl.hide (fun w => yb.toCert d0 sat0 b0 m0 w)
  by_cases hs : (d0.size : Int) + b0.size + m0.size ≤ 1048576
  · rw [if_pos hs] at CZ
    have CS := sl.hide (fun w => ya.specCertText d0 sat0 b0 m0 w (by omega) (by omega) (by omega))
    have CI := sl.hide (fun w => ya.implCertText d0 sat0 b0 m0 w (by omega) (by omega) (by omega))
    generalize ya.certB d0 sat0 b0 m0 = X at *
    have hz : ¬ ((1048576 : Int) - d0.size - b0.size - m0.size < 0) := by omega
    clear hs wd0 wb0 wm0
    go_enter Try.func3, Try.ntmps3
    go_wp2_with fail
    refine (sl.unhide CZ).mono ?_; rintro e w1 ⟨rfl, g1⟩
    have G1 := sl.hide (sl.grown_trans (r := none) (sl.unhide G0) g1)
    have F1 := sl.hide ((sl.unhide F0).kept g1)
    have x0 := (sl.unhide F1).c0
    have x1 := (sl.unhide F1).c1
    have x2 := (sl.unhide F1).c2
    have x3 := (sl.unhide F1).c3
    clear g1 CZ G0 F0
    go_wp2_with fail
    refine (sl.unhide CT _).mono ?_; rintro e w2 ⟨rfl, g2⟩
    have G2 := sl.hide (sl.grown_trans (r := none) (sl.unhide G1) g2)
    have F2 := sl.hide ((sl.unhide F1).kept g2)
    clear g2 G1 F1 x0 x1 x2 x3
    go_wp2_with fail
    refine (sl.unhide CS _).mono ?_; rintro e w3 ⟨rfl, g3⟩
    have G3 := sl.hide (sl.grown_trans (r := none) (sl.unhide G2) g3)
    have F3 := sl.hide ((sl.unhide F2).kept g3)
    have x0 := (sl.unhide F3).c0
    have x1 := (sl.unhide F3).c1
    have x2 := (sl.unhide F3).c2
    have x3 := (sl.unhide F3).c3
    clear g3 G2 F2 CS
    go_wp2_with fail
    refine (sl.unhide CT _).mono ?_; rintro e w4 ⟨rfl, g4⟩
    have G4 := sl.hide (sl.grown_trans (r := none) (sl.unhide G3) g4)
    clear g4 G3 F3 x0 x1 x2 x3
    go_wp2_with fail
    refine (sl.unhide CI _).mono ?_; rintro e w5 ⟨rfl, g5⟩
    have G5 := sl.hide (sl.grown_trans (r := none) (sl.unhide G4) g5)
    clear g5 G4 CI
    go_wp2_with fail
    go_ret
    exact ⟨rfl, sl.below_of (sl.unhide G5)⟩
  · rw [if_neg hs] at CZ
    clear hs wd0 wb0 wm0
    go_enter Try.func3, Try.ntmps3
    go_wp2_with fail
    refine (sl.unhide CZ).mono ?_; rintro e w1 ⟨rfl, g1⟩
    have G1 := sl.hide (sl.grown_trans (r := none) (sl.unhide G0) g1)
    clear g1 CZ G0 F0
    go_wp2_with fail
    go_ret
    exact ⟨rfl, sl.below_of (sl.unhide G1)⟩

/-! ### the row's step (the guide's own frame) -/
set_option maxRecDepth 100000 in
theorem lifted (os : Os) (started : os.Started) (H : Type) (enc : TypeId × Value → H) :
    ReturnsInHanded {} Try.checked os 3 .any (Rows.fnExactCertTextSpec.pre6 enc Try.prog Try.f3 Rows.fnExactCertTextRow.domain false) (Rows.fnExactCertTextSpec.post enc Try.prog Try.f3 false true false false) := by
  refine returnsInHanded_of_change (C := Try.checked) own started (by kernel_rfl) Try.func3
    (ChangeSpec.witness6 (enc := enc) (C := Try.checked) false ⟨#[], #[.agg #[.string ByteArray.empty, .bool false, .string ByteArray.empty, .string ByteArray.empty]], []⟩ 8 (by kernel_rfl) (by kernel_rfl) (by kernel_rfl) (by kernel_rfl)) ?_
  intro W base args ds gs before hval0 hW hcnd _
  have hval : ∀ (j : Nat) t v, Try.f3.params[j]? = some t → args[j]? = some v → Value.okWide Try.prog W .any base t v := hval0
  have hW' := hW
  obtain ⟨p, q, hA0, hV, rfl, hfz, hnd⟩ := hW
  have hA : DataW.TrodAll enc Try.prog W 0 (fun _ => true) true Try.f3.params.toList args.toList ds p := hA0
  rw [Try.params3] at hA hval
  obtain ⟨x0, vs0, d0, ds0, p0, q0, hargs, rfl, rfl, h0, r0⟩ := trodAll_cons hA
  obtain ⟨rfl, rfl, rfl⟩ := trodAll_nil r0
  obtain rfl : args = #[x0] := by cases args; simp_all
  obtain ⟨rfl, rfl⟩ := trodVars_none hV
  obtain ⟨cs0, rfl, _⟩ := okWide_struct Try.underlying23 (hval 0 23 _ rfl rfl)
  have k0 := h0
  have lt0 : ∀ x ∈ p0, x.block < W.heap.size := by obtain ⟨m, hm⟩ := k0; exact DataW.trod_lt m _ _ _ hm
  obtain ⟨d0, sat0, b0, m0, e0, wd0, wb0, wm0⟩ : ∃ (d : ByteArray) (sat : Bool) (b m : ByteArray), cs0 = #[.string d, .bool sat, .string b, .string m] ∧ d.size ≤ maxLen ∧ b.size ≤ maxLen ∧ m.size ≤ maxLen := by
    obtain ⟨fuel, hf⟩ := h0
    obtain ⟨d, sat, b, m, e, h1, h2, h3⟩ := yr.open_cert hf
    refine ⟨d, sat, b, m, ?_, h1, h2, h3⟩
    cases cs0
    simpa [Value.cells] using e
  subst e0
  clear hA0 hval0
  refine (walk d0 sat0 b0 m0 W wd0 wb0 wm0).mono fun e W' ⟨he, bel⟩ => ?_
  subst he
  exact ⟨_, rfl, _, _, _, [], _, [], hW', trodAll_mk1 (shut_bool Try.underlying4 _), (trodAll_cons_mk (Below.trod laidOut (by kernel_rfl) (of_decide_eq_true (by kernel_rfl)) k0 bel lt0) trodAll_mk0), rfl, bel.frame _, fun h => by cases h⟩

theorem over : Rows.fnExactCertTextRow.holds Try.pinned (OpenSpec.ofChange Rows.fnExactCertTextSpec) :=
  OpenClaim.holds_of_wide 3 Try.f3 rfl rfl rfl rfl rfl rfl rfl ⟨rfl, rfl, rfl, rfl, rfl⟩ rfl rfl rfl rfl rfl (by kernel_rfl) Try.func3 (by kernel_rfl)
    (of_decide_eq_true (by kernel_rfl)) (by unfold Func.isWrapper; first | (rw [if_pos (by decide +kernel)]; kernel_rfl) | (rw [if_neg (by decide +kernel)]; exact ⟨rfl, rfl⟩))
    (fun os started H enc _ => lifted os started H enc)

/-- the statement -/
theorem proved : Rows.FnExactCertTextSaid := over
#print axioms proved
end Go.Proofs.Ytjmjgjlldkpemaa.fnExactCertText
