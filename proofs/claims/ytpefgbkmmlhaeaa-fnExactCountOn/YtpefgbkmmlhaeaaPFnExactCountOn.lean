/- At every two lists of numbers impl.CountOn answers as spec.CountOn and writes nothing (the law FnExactCountOn returns true); no condition. -/
import Derived.Test.YtpefgbkmmlhaeaaRows
import Derived.Test.YtpefgbkmmlhaeaaT1
import Derived.WalkKit
import Derived.ProofKit
import Derived.OpenShut
import Derived.ShutString
import Derived.ChangeOld
import Derived.Below
namespace Go.Proofs.Ytpefgbkmmlhaeaa.fnExactCountOn
open Go.ChangeShapes Go.WideShapes Go.ChangeAt Go.RowKit
open Go.ChangeMaps (open_string shut_string)
set_option linter.unusedVariables false

theorem own : ownKnob Try.prog.godebug = none := by kernel_rfl
theorem laidOut : laidOutB Try.prog = true := by kernel_rfl

/-- what the walk is told of a slice of integers that came in -/
def IsRow (k : IntKind) (w : World) (a : Option Addr) (len cap : Nat) (zs : List Int) : Prop :=
  (a = none ∧ len = 0 ∧ cap = 0 ∧ zs = []) ∨
  ∃ x, a = some x ∧ len ≤ cap ∧ cap ≤ maxLen ∧ zs.length = cap ∧ (∀ i, i < zs.length → w.cell? (x.add i) = some (.int k (zs.getD i 0))) ∧ ∀ n ∈ zs, (Lit.int k n).wf = true

/-! ### the walk -/
theorem walk (a0 : Option Addr) (len0 cap0 : Nat) (z0 : List Int) (a1 : Option Addr) (len1 cap1 : Nat) (z1 : List Int) (w : World) (w0 : IsRow .i64 w a0 len0 cap0 z0) (w1 : IsRow .i64 w a1 len1 cap1 z1) :
    Calls Try.prog 15 #[.slice a0 len0 cap0, .slice a1 len1 cap1] w fun e w' => e = .returned (.bool true) ∧ Below w.heap.size w w' := by
  obtain ⟨L0, rfl, hS0, _⟩ := sl.of_row w0
  obtain ⟨L1, rfl, hS1, _⟩ := sl.of_row w1
  have S_ := trivial
  have S0 := sl.hide hS0
  have S1 := sl.hide hS1
  clear hS0
  clear hS1
  by_cases hbig0 : 1048576 < L0.length
  · have hi0 : (1048576 : Int) < (L0.length : Int) := by omega
    go_enter Try.func15, Try.ntmps15
    go_wp2
    go_ret
    exact ⟨rfl, Below.refl _ _⟩
  have hi0 : ¬ (1048576 : Int) < (L0.length : Int) := by omega
  have hL0 : L0.length ≤ 1048576 := by omega
  clear hbig0
  by_cases hbig1 : 1048576 < L1.length
  · have hi1 : (1048576 : Int) < (L1.length : Int) := by omega
    go_enter Try.func15, Try.ntmps15
    go_wp2
    go_ret
    exact ⟨rfl, Below.refl _ _⟩
  have hi1 : ¬ (1048576 : Int) < (L1.length : Int) := by omega
  have hL1 : L1.length ≤ 1048576 := by omega
  clear hbig1
  go_enter Try.func15, Try.ntmps15
  go_wp2_with fail
  refine (sl.toIntS _ L0 _ hL0 (sl.unhide S0)).mono ?_; rintro e w1 ⟨rfl, o1, g1⟩
  have s1 := sl.hide (g1).size
  have B1 := sl.hide (sl.below_of (g1))
  have I1 := sl.hide (sl.Own.of o1)
  clear o1 g1
  go_wp2_with fail
  refine (sl.toIntS _ L1 _ hL1 ((sl.unhide S1).below (sl.unhide B1))).mono ?_; rintro e w2 ⟨rfl, o2, g2⟩
  have s2 := sl.hide (g2).size
  have B2 := sl.hide (sl.below_none (sl.unhide B1) (g2))
  have I2 := sl.hide ((sl.unhide I1).kept (g2))
  have IJ2 := sl.hide (sl.Own.of o2)
  clear o2 g2 B1 I1
  go_wp2_with fail
  refine (t1.specCountOn _ _ L0 L1 _ hL0 hL1 (sl.unhide I2).sl (sl.unhide IJ2).sl).mono ?_; rintro e w3 ⟨rfl, g3⟩
  generalize hbv : (t1.cntL L1 L0 : Int) = bv
  have HB := sl.hide hbv
  clear hbv
  have s3 := sl.hide (g3).size
  have B3 := sl.hide (sl.below_none (sl.unhide B2) (g3))
  have I3 := sl.hide ((sl.unhide I2).kept (g3))
  have IJ3 := sl.hide ((sl.unhide IJ2).kept (g3))
  clear g3 B2 I2 IJ2
  clear I3 IJ3
  go_wp2_with fail
  refine (sl.toIntS _ L0 _ hL0 ((sl.unhide S0).below (sl.unhide B3))).mono ?_; rintro e w4 ⟨rfl, o4, g4⟩
  have s4 := sl.hide (g4).size
  have B4 := sl.hide (sl.below_none (sl.unhide B3) (g4))
  have I4 := sl.hide (sl.Own.of o4)
  clear o4 g4 B3
  go_wp2_with fail
  refine (sl.toIntS _ L1 _ hL1 ((sl.unhide S1).below (sl.unhide B4))).mono ?_; rintro e w5 ⟨rfl, o5, g5⟩
  have s5 := sl.hide (g5).size
  have B5 := sl.hide (sl.below_none (sl.unhide B4) (g5))
  have I5 := sl.hide ((sl.unhide I4).kept (g5))
  have IJ5 := sl.hide (sl.Own.of o5)
  clear o5 g5 B4 I4
  go_wp2_with fail
  refine (t1.implCountOn _ _ L0 L1 _ hL0 hL1 (sl.unhide I5).sl (sl.unhide IJ5).sl).mono ?_; rintro e w' ⟨rfl, hw⟩; have hw' := hw.symm; clear hw; subst hw'
  rw [sl.unhide HB]
  go_wp2_with fail
  refine (sl.toIntS _ L0 _ hL0 ((sl.unhide S0).below (sl.unhide B5))).mono ?_; rintro e w6 ⟨rfl, o6, g6⟩
  have s6 := sl.hide (g6).size
  have B6 := sl.hide (sl.below_none (sl.unhide B5) (g6))
  have I6 := sl.hide ((sl.unhide I5).kept (g6))
  have IJ6 := sl.hide ((sl.unhide IJ5).kept (g6))
  have IK6 := sl.hide (sl.Own.of o6)
  clear o6 g6 B5 I5 IJ5
  go_wp2_with fail
  refine (sl.eqIntS _ _ _ _ hL0 (sl.unhide I6).sl (sl.unhide IK6).sl).mono ?_; rintro e w7 ⟨rfl, g7⟩
  have s7 := sl.hide (g7).size
  have B7 := sl.hide (sl.below_none (sl.unhide B6) (g7))
  have I7 := sl.hide ((sl.unhide I6).kept (g7))
  have IJ7 := sl.hide ((sl.unhide IJ6).kept (g7))
  have IK7 := sl.hide ((sl.unhide IK6).kept (g7))
  clear g7 B6 I6 IJ6 IK6
  go_wp2_with fail
  refine (sl.toIntS _ L1 _ hL1 ((sl.unhide S1).below (sl.unhide B7))).mono ?_; rintro e w8 ⟨rfl, o8, g8⟩
  have s8 := sl.hide (g8).size
  have B8 := sl.hide (sl.below_none (sl.unhide B7) (g8))
  have I8 := sl.hide ((sl.unhide I7).kept (g8))
  have IJ8 := sl.hide ((sl.unhide IJ7).kept (g8))
  have IK8 := sl.hide ((sl.unhide IK7).kept (g8))
  have IM8 := sl.hide (sl.Own.of o8)
  clear o8 g8 B7 I7 IJ7 IK7
  go_wp2_with fail
  refine (sl.eqIntS _ _ _ _ hL1 (sl.unhide IJ8).sl (sl.unhide IM8).sl).mono ?_; rintro e w9 ⟨rfl, g9⟩
  have s9 := sl.hide (g9).size
  have B9 := sl.hide (sl.below_none (sl.unhide B8) (g9))
  have I9 := sl.hide ((sl.unhide I8).kept (g9))
  have IJ9 := sl.hide ((sl.unhide IJ8).kept (g9))
  have IK9 := sl.hide ((sl.unhide IK8).kept (g9))
  have IM9 := sl.hide ((sl.unhide IM8).kept (g9))
  clear g9 B8 I8 IJ8 IK8 IM8
  go_wp2_with fail
  go_ret
  exact ⟨rfl, sl.unhide B9⟩

/-! ### the row's step (the guide's own frame) -/
set_option maxRecDepth 100000 in
theorem lifted (os : Os) (started : os.Started) (H : Type) (enc : TypeId × Value → H) :
    ReturnsInHanded {} Try.checked os 15 .any (Rows.fnExactCountOnSpec.pre6 enc Try.prog Try.f15 Rows.fnExactCountOnRow.domain false) (Rows.fnExactCountOnSpec.post enc Try.prog Try.f15 false true false false) := by
  refine returnsInHanded_of_change (C := Try.checked) own started (by kernel_rfl) Try.func15
    (ChangeSpec.witness6 (enc := enc) (C := Try.checked) false ⟨#[], #[.slice none 0 0, .slice none 0 0], []⟩ 8 (by kernel_rfl) (by kernel_rfl) (by kernel_rfl) (by kernel_rfl)) ?_
  intro W base args ds gs before hval0 hW hcnd _
  have hval : ∀ (j : Nat) t v, Try.f15.params[j]? = some t → args[j]? = some v → Value.okWide Try.prog W .any base t v := hval0
  have hW' := hW
  obtain ⟨p, q, hA0, hV, rfl, hfz, hnd⟩ := hW
  have hA : DataW.TrodAll enc Try.prog W 0 (fun _ => true) true Try.f15.params.toList args.toList ds p := hA0
  rw [Try.params15] at hA hval
  obtain ⟨v0, vs0, d0, ds0, p0, q0, hargs, rfl, rfl, h0, r0⟩ := trodAll_cons hA
  obtain ⟨v1, vs1, d1, ds1, p1, q1, rfl, rfl, rfl, h1, r1⟩ := trodAll_cons r0
  obtain ⟨rfl, rfl, rfl⟩ := trodAll_nil r1
  obtain rfl : args = #[v0, v1] := by cases args; simp_all
  obtain ⟨rfl, rfl⟩ := trodVars_none hV
  obtain ⟨a0, len0, cap0, rfl⟩ := okWide_slice Try.underlying24 (hval 0 24 v0 rfl rfl)
  have k0 := h0
  have lt0 : ∀ x ∈ p0, x.block < W.heap.size := by obtain ⟨m, hm⟩ := k0; exact DataW.trod_lt m _ _ _ hm
  obtain ⟨z0, w0⟩ : ∃ zs, IsRow .i64 W a0 len0 cap0 zs := by
    obtain ⟨fuel, hf⟩ := h0
    rcases open_ints Try.underlying24 Try.underlying3 (by kernel_rfl) hf with ⟨hcs, _⟩ | ⟨x, l, c, zs, hcs, _, hl, hm, hz, _, hcell, hwz⟩
    · simp [Value.cells] at hcs
      obtain ⟨rfl, rfl, rfl⟩ := hcs
      exact ⟨[], .inl ⟨rfl, rfl, rfl, rfl⟩⟩
    · simp [Value.cells] at hcs
      obtain ⟨rfl, rfl, rfl⟩ := hcs
      exact ⟨zs, .inr ⟨_, rfl, hl, hm, by simpa using hz, hcell, hwz⟩⟩
  obtain ⟨a1, len1, cap1, rfl⟩ := okWide_slice Try.underlying24 (hval 1 24 v1 rfl rfl)
  have k1 := h1
  have lt1 : ∀ x ∈ p1, x.block < W.heap.size := by obtain ⟨m, hm⟩ := k1; exact DataW.trod_lt m _ _ _ hm
  obtain ⟨z1, w1⟩ : ∃ zs, IsRow .i64 W a1 len1 cap1 zs := by
    obtain ⟨fuel, hf⟩ := h1
    rcases open_ints Try.underlying24 Try.underlying3 (by kernel_rfl) hf with ⟨hcs, _⟩ | ⟨x, l, c, zs, hcs, _, hl, hm, hz, _, hcell, hwz⟩
    · simp [Value.cells] at hcs
      obtain ⟨rfl, rfl, rfl⟩ := hcs
      exact ⟨[], .inl ⟨rfl, rfl, rfl, rfl⟩⟩
    · simp [Value.cells] at hcs
      obtain ⟨rfl, rfl, rfl⟩ := hcs
      exact ⟨zs, .inr ⟨_, rfl, hl, hm, by simpa using hz, hcell, hwz⟩⟩
  clear hA0 hval0
  refine (walk a0 len0 cap0 z0 a1 len1 cap1 z1 W w0 w1).mono fun e W' ⟨he, bel⟩ => ?_
  subst he
  exact ⟨_, rfl, _, _, _, [], _, [], hW', trodAll_mk1 (shut_bool Try.underlying4 _), (trodAll_cons_mk (Below.trod laidOut (by kernel_rfl) (of_decide_eq_true (by kernel_rfl)) k0 bel lt0) (trodAll_cons_mk (Below.trod laidOut (by kernel_rfl) (of_decide_eq_true (by kernel_rfl)) k1 bel lt1) trodAll_mk0)), rfl, bel.frame _, fun h => by cases h⟩

theorem over : Rows.fnExactCountOnRow.holds Try.pinned (OpenSpec.ofChange Rows.fnExactCountOnSpec) :=
  OpenClaim.holds_of_wide 15 Try.f15 rfl rfl rfl rfl rfl rfl rfl ⟨rfl, rfl, rfl, rfl, rfl⟩ rfl rfl rfl rfl rfl (by kernel_rfl) Try.func15 (by kernel_rfl)
    (of_decide_eq_true (by kernel_rfl)) (by unfold Func.isWrapper; first | (rw [if_pos (by decide +kernel)]; kernel_rfl) | (rw [if_neg (by decide +kernel)]; exact ⟨rfl, rfl⟩))
    (fun os started H enc _ => lifted os started H enc)

/-- the statement -/
theorem proved : Rows.FnExactCountOnSaid := over
#print axioms proved
end Go.Proofs.Ytpefgbkmmlhaeaa.fnExactCountOn
