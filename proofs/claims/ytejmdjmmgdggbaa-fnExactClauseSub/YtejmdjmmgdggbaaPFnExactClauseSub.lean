/- At every two lists of numbers impl.ClauseSub answers as spec.ClauseSub and writes nothing (the law FnExactClauseSub returns true); no condition. -/
import Derived.Test.YtejmdjmmgdggbaaRows
import Derived.Test.YtejmdjmmgdggbaaLits
import Derived.Test.YtejmdjmmgdggbaaSl
import Derived.Test.YtejmdjmmgdggbaaCls
import Derived.Test.YtejmdjmmgdggbaaSet
import Derived.WalkKit
import Derived.ProofKit
import Derived.OpenShut
import Derived.ShutString
import Derived.ChangeOld
import Derived.Below
namespace Go.Proofs.Ytejmdjmmgdggbaa.fnExactClauseSub
open Go.ChangeShapes Go.WideShapes Go.ChangeAt Go.RowKit
open Go.ChangeMaps (open_string shut_string)
set_option linter.unusedVariables false

theorem own : ownKnob Try.prog.godebug = none := by kernel_rfl
theorem laidOut : laidOutB Try.prog = true := by kernel_rfl

/-- what the walk is told of a slice of integers that came in -/
def IsRow (k : IntKind) (w : World) (a : Option Addr) (len cap : Nat) (zs : List Int) : Prop :=
  (a = none ∧ len = 0 ∧ cap = 0 ∧ zs = []) ∨
  ∃ x, a = some x ∧ len ≤ cap ∧ cap ≤ maxLen ∧ zs.length = cap ∧ (∀ i, i < zs.length → w.cell? (x.add i) = some (.int k (zs.getD i 0))) ∧ ∀ n ∈ zs, (Lit.int k n).wf = true

/-! ### the walk -/
theorem walk (a0 : Option Addr) (len0 cap0 : Nat) (z0 : List Int) (a1 : Option Addr) (len1 cap1 : Nat) (z1 : List Int) (w : World) (w0 : IsRow .i64 w a0 len0 cap0 z0) (w1 : IsRow .i64 w a1 len1 cap1 z1) :
    Calls Try.prog 9 #[.slice a0 len0 cap0, .slice a1 len1 cap1] w fun e w' => e = .returned (.bool true) ∧ Below w.heap.size w w' := by
  obtain ⟨L, rfl, hS, _⟩ := sl.of_row w0
  obtain ⟨M, rfl, hT, _⟩ := sl.of_row w1
  by_cases hbig : 1048576 < L.length
  · have hi : (1048576 : Int) < (L.length : Int) := by omega
    go_enter Try.func9, Try.ntmps9
    go_wp2
    go_ret
    exact ⟨rfl, Below.refl _ _⟩
  · have hi : ¬ (1048576 : Int) < (L.length : Int) := by omega
    have hL : L.length ≤ 1048576 := by omega
    by_cases hbig' : 1048576 < M.length
    · have hj : (1048576 : Int) < (M.length : Int) := by omega
      go_enter Try.func9, Try.ntmps9
      go_wp2
      go_ret
      exact ⟨rfl, Below.refl _ _⟩
    · have hj : ¬ (1048576 : Int) < (M.length : Int) := by omega
      have hM : M.length ≤ 1048576 := by omega
      have S := sl.hide hS
      have T := sl.hide hT
      clear hS hT
      go_enter Try.func9, Try.ntmps9
      go_wp2_with fail
      refine (sl.toIntS _ L _ hL (sl.unhide S)).mono ?_; rintro e w1 ⟨rfl, o1, g1⟩
      have B1 := sl.hide (sl.below_of g1)
      have A1 := sl.hide (sl.Own.of o1)
      clear o1 g1
      go_wp2_with fail
      refine (sl.toIntS _ M _ hM ((sl.unhide T).below (sl.unhide B1))).mono ?_; rintro e w2 ⟨rfl, o2, g2⟩
      have B2 := sl.hide (sl.below_none (sl.unhide B1) g2)
      have A2 := sl.hide ((sl.unhide A1).kept g2)
      have C2 := sl.hide (sl.Own.of o2)
      clear o2 g2 B1 A1
      go_wp2_with fail
      refine (bset.specClauseSub _ _ L M _ hL hM (sl.unhide A2).sl (sl.unhide C2).sl).mono ?_; rintro e w' ⟨rfl, rfl⟩
      clear A2 C2
      go_wp2_with fail
      refine (sl.toIntS _ L _ hL ((sl.unhide S).below (sl.unhide B2))).mono ?_; rintro e w3 ⟨rfl, o3, g3⟩
      have B3 := sl.hide (sl.below_none (sl.unhide B2) g3)
      have A3 := sl.hide (sl.Own.of o3)
      clear o3 g3 B2
      go_wp2_with fail
      refine (sl.toIntS _ M _ hM ((sl.unhide T).below (sl.unhide B3))).mono ?_; rintro e w4 ⟨rfl, o4, g4⟩
      have B4 := sl.hide (sl.below_none (sl.unhide B3) g4)
      have A4 := sl.hide ((sl.unhide A3).kept g4)
      have C4 := sl.hide (sl.Own.of o4)
      clear o4 g4 B3 A3
      go_wp2_with fail
      refine (bset.implClauseSub _ _ L M _ hL hM (sl.unhide A4).sl (sl.unhide C4).sl).mono ?_; rintro e w' ⟨rfl, rfl⟩
      go_wp2_with fail
      refine (sl.toIntS _ L _ hL ((sl.unhide S).below (sl.unhide B4))).mono ?_; rintro e w5 ⟨rfl, o5, g5⟩
      have B5 := sl.hide (sl.below_none (sl.unhide B4) g5)
      have A5 := sl.hide ((sl.unhide A4).kept g5)
      have C5 := sl.hide ((sl.unhide C4).kept g5)
      have Y5 := sl.hide (sl.Own.of o5)
      clear o5 g5 B4 A4 C4
      go_wp2_with fail
      refine (sl.eqIntS _ _ _ _ hL (sl.unhide A5).sl (sl.unhide Y5).sl).mono ?_; rintro e w6 ⟨rfl, g6⟩
      have B6 := sl.hide (sl.below_none (sl.unhide B5) g6)
      have C6 := sl.hide ((sl.unhide C5).kept g6)
      clear g6 B5 A5 C5 Y5
      go_wp2_with fail
      refine (sl.toIntS _ M _ hM ((sl.unhide T).below (sl.unhide B6))).mono ?_; rintro e w7 ⟨rfl, o7, g7⟩
      have B7 := sl.hide (sl.below_none (sl.unhide B6) g7)
      have C7 := sl.hide ((sl.unhide C6).kept g7)
      have Y7 := sl.hide (sl.Own.of o7)
      clear o7 g7 B6 C6
      go_wp2_with fail
      refine (sl.eqIntS _ _ _ _ hM (sl.unhide C7).sl (sl.unhide Y7).sl).mono ?_; rintro e w8 ⟨rfl, g8⟩
      have B8 := sl.hide (sl.below_none (sl.unhide B7) g8)
      clear g8 B7 C7 Y7
      go_wp2_with fail
      go_ret
      exact ⟨rfl, sl.unhide B8⟩

/-! ### the row's step (the guide's own frame) -/
set_option maxRecDepth 100000 in
theorem lifted (os : Os) (started : os.Started) (H : Type) (enc : TypeId × Value → H) :
    ReturnsInHanded {} Try.checked os 9 .any (Rows.fnExactClauseSubSpec.pre6 enc Try.prog Try.f9 Rows.fnExactClauseSubRow.domain false) (Rows.fnExactClauseSubSpec.post enc Try.prog Try.f9 false true false false) := by
  refine returnsInHanded_of_change (C := Try.checked) own started (by kernel_rfl) Try.func9
    (ChangeSpec.witness6 (enc := enc) (C := Try.checked) false ⟨#[], #[.slice none 0 0, .slice none 0 0], []⟩ 8 (by kernel_rfl) (by kernel_rfl) (by kernel_rfl) (by kernel_rfl)) ?_
  intro W base args ds gs before hval0 hW hcnd _
  have hval : ∀ (j : Nat) t v, Try.f9.params[j]? = some t → args[j]? = some v → Value.okWide Try.prog W .any base t v := hval0
  have hW' := hW
  obtain ⟨p, q, hA0, hV, rfl, hfz, hnd⟩ := hW
  have hA : DataW.TrodAll enc Try.prog W 0 (fun _ => true) true Try.f9.params.toList args.toList ds p := hA0
  rw [Try.params9] at hA hval
  obtain ⟨v0, vs0, d0, ds0, p0, q0, hargs, rfl, rfl, h0, r0⟩ := trodAll_cons hA
  obtain ⟨v1, vs1, d1, ds1, p1, q1, rfl, rfl, rfl, h1, r1⟩ := trodAll_cons r0
  obtain ⟨rfl, rfl, rfl⟩ := trodAll_nil r1
  obtain rfl : args = #[v0, v1] := by cases args; simp_all
  obtain ⟨rfl, rfl⟩ := trodVars_none hV
  obtain ⟨a0, len0, cap0, rfl⟩ := okWide_slice Try.underlying25 (hval 0 25 v0 rfl rfl)
  have k0 := h0
  have lt0 : ∀ x ∈ p0, x.block < W.heap.size := by obtain ⟨m, hm⟩ := k0; exact DataW.trod_lt m _ _ _ hm
  obtain ⟨z0, w0⟩ : ∃ zs, IsRow .i64 W a0 len0 cap0 zs := by
    obtain ⟨fuel, hf⟩ := h0
    rcases open_ints Try.underlying25 Try.underlying3 (by kernel_rfl) hf with ⟨hcs, _⟩ | ⟨x, l, c, zs, hcs, _, hl, hm, hz, _, hcell, hwz⟩
    · simp [Value.cells] at hcs
      obtain ⟨rfl, rfl, rfl⟩ := hcs
      exact ⟨[], .inl ⟨rfl, rfl, rfl, rfl⟩⟩
    · simp [Value.cells] at hcs
      obtain ⟨rfl, rfl, rfl⟩ := hcs
      exact ⟨zs, .inr ⟨_, rfl, hl, hm, by simpa using hz, hcell, hwz⟩⟩
  obtain ⟨a1, len1, cap1, rfl⟩ := okWide_slice Try.underlying25 (hval 1 25 v1 rfl rfl)
  have k1 := h1
  have lt1 : ∀ x ∈ p1, x.block < W.heap.size := by obtain ⟨m, hm⟩ := k1; exact DataW.trod_lt m _ _ _ hm
  obtain ⟨z1, w1⟩ : ∃ zs, IsRow .i64 W a1 len1 cap1 zs := by
    obtain ⟨fuel, hf⟩ := h1
    rcases open_ints Try.underlying25 Try.underlying3 (by kernel_rfl) hf with ⟨hcs, _⟩ | ⟨x, l, c, zs, hcs, _, hl, hm, hz, _, hcell, hwz⟩
    · simp [Value.cells] at hcs
      obtain ⟨rfl, rfl, rfl⟩ := hcs
      exact ⟨[], .inl ⟨rfl, rfl, rfl, rfl⟩⟩
    · simp [Value.cells] at hcs
      obtain ⟨rfl, rfl, rfl⟩ := hcs
      exact ⟨zs, .inr ⟨_, rfl, hl, hm, by simpa using hz, hcell, hwz⟩⟩
  clear hA0 hval0
  refine (walk a0 len0 cap0 z0 a1 len1 cap1 z1 W w0 w1).mono fun e W' ⟨he, bel⟩ => ?_
  subst he
  exact ⟨_, rfl, _, _, _, [], _, [], hW', trodAll_mk1 (shut_bool Try.underlying4 _), (trodAll_cons_mk (Below.trod laidOut (by kernel_rfl) (of_decide_eq_true (by kernel_rfl)) k0 bel lt0) (trodAll_cons_mk (Below.trod laidOut (by kernel_rfl) (of_decide_eq_true (by kernel_rfl)) k1 bel lt1) trodAll_mk0)), rfl, bel.frame _, fun h => by cases h⟩

theorem over : Rows.fnExactClauseSubRow.holds Try.pinned (OpenSpec.ofChange Rows.fnExactClauseSubSpec) :=
  OpenClaim.holds_of_wide 9 Try.f9 rfl rfl rfl rfl rfl rfl rfl ⟨rfl, rfl, rfl, rfl, rfl⟩ rfl rfl rfl rfl rfl (by kernel_rfl) Try.func9 (by kernel_rfl)
    (of_decide_eq_true (by kernel_rfl)) (by unfold Func.isWrapper; first | (rw [if_pos (by decide +kernel)]; kernel_rfl) | (rw [if_neg (by decide +kernel)]; exact ⟨rfl, rfl⟩))
    (fun os started H enc _ => lifted os started H enc)

/-- the statement -/
theorem proved : Rows.FnExactClauseSubSaid := over
#print axioms proved
end Go.Proofs.Ytejmdjmmgdggbaa.fnExactClauseSub
