/- Whatever bytes it draws from, the law FnLits returns true: of two literals that differ just one is before the other, and a variable is that of both its literals; no condition. -/
import Derived.Test.YtndjfibjkckbdaaRows
import Derived.Test.YtndjfibjkckbdaaLits
import Derived.Test.YtndjfibjkckbdaaDraw
import Derived.Test.YtndjfibjkckbdaaDLits
import Derived.WalkKit
import Derived.ProofKit
import Derived.OpenShut
import Derived.ShutString
import Derived.ChangeOld
import Derived.Below
namespace Go.Proofs.Ytndjfibjkckbdaa.fnLits
open Go.ChangeShapes Go.WideShapes Go.ChangeAt Go.RowKit
open Go.ChangeMaps (open_string shut_string)
set_option linter.unusedVariables false

theorem own : ownKnob Try.prog.godebug = none := by kernel_rfl
theorem laidOut : laidOutB Try.prog = true := by kernel_rfl

/-- what the walk is told of a slice of integers that came in -/
def IsRow (k : IntKind) (w : World) (a : Option Addr) (len cap : Nat) (zs : List Int) : Prop :=
  (a = none ∧ len = 0 ∧ cap = 0 ∧ zs = []) ∨
  ∃ x, a = some x ∧ len ≤ cap ∧ cap ≤ maxLen ∧ zs.length = cap ∧ (∀ i, i < zs.length → w.cell? (x.add i) = some (.int k (zs.getD i 0))) ∧ ∀ n ∈ zs, (Lit.int k n).wf = true

/-! ### the walk -/
theorem walk (a0 : Option Addr) (len0 cap0 : Nat) (z0 : List Int) (w : World) (w0 : IsRow .u8 w a0 len0 cap0 z0) :
    Calls Try.prog 3 #[.slice a0 len0 cap0] w fun e w' => e = .returned (.bool true) ∧ Below w.heap.size w w' := by
  have hB := draw.of_rowB w0
  have hm : len0 ≤ 9223372036854775807 := by
    rcases w0 with ⟨_, h, _, _⟩ | ⟨_, _, h1, h2, _⟩
    · omega
    · unfold maxLen at h2
      omega
  clear w0
  by_cases hbig : 1048576 < len0
  · have C := sl.hide (draw.big a0 len0 cap0 w hm)
    rw [decide_eq_true hbig] at C
    go_enter Try.func3, Try.ntmps3
    go_wp2_with fail
    refine (sl.unhide C).mono ?_; rintro e w' ⟨rfl, rfl⟩
    go_wp2_with fail
    go_ret
    exact ⟨rfl, Below.refl _ _⟩
  · have C := sl.hide (draw.big a0 len0 cap0 w hm)
    rw [decide_eq_false hbig] at C
    have HB := sl.hide hB
    clear hB
    go_enter Try.func3, Try.ntmps3
    go_wp2_with fail
    refine (sl.unhide C).mono ?_; rintro e w' ⟨rfl, rfl⟩
    go_wp2_with fail
    refine (dlits.drawLitBefore a0 len0 cap0 _ (by omega) (sl.unhide HB)).mono ?_; rintro e w1 ⟨x, y, rfl, hx, hy, g1⟩
    have G1 := sl.hide g1
    clear g1 hx hy C HB hm hbig
    have c1 := lits.implLitOk x
    have c2 := lits.specLitOk x
    have c3 := lits.implLitVar x
    have c4 := lits.specLitVar x
    have c5 := lits.specLitOk y
    have c6 := lits.implLitBefore x y
    cases hx : lits.okB x
    · rw [hx] at c1 c2
      rw [lits.bef_none (.inl hx)] at c6
      have C1 := sl.hide c1
      have C2 := sl.hide c2
      have C3 := sl.hide c3
      have C4 := sl.hide c4
      have C6 := sl.hide c6
      clear c1 c2 c3 c4 c5 c6 hx
      generalize lits.varI x = v at C3 C4
      go_wp2_with fail
      refine (sl.unhide C1 _).mono ?_; rintro e w' ⟨rfl, rfl⟩
      go_wp2_with fail
      refine (sl.unhide C2 _).mono ?_; rintro e w' ⟨rfl, rfl⟩
      go_wp2_with fail
      refine (sl.unhide C3 _).mono ?_; rintro e w' ⟨rfl, rfl⟩
      go_wp2_with fail
      refine (sl.unhide C4 _).mono ?_; rintro e w' ⟨rfl, rfl⟩
      go_wp2_with fail
      refine (sl.unhide C2 _).mono ?_; rintro e w' ⟨rfl, rfl⟩
      go_wp2_with fail
      refine (sl.unhide C6 _).mono ?_; rintro e w' ⟨rfl, rfl⟩
      go_wp2_with fail
      go_ret
      exact ⟨rfl, sl.below_of (sl.unhide G1)⟩
    · cases hy : lits.okB y
      · rw [hx] at c1 c2
        rw [hy] at c5
        rw [lits.bef_none (.inr hy)] at c6
        have C1 := sl.hide c1
        have C2 := sl.hide c2
        have C3 := sl.hide c3
        have C4 := sl.hide c4
        have C5 := sl.hide c5
        have C6 := sl.hide c6
        clear c1 c2 c3 c4 c5 c6 hx hy
        generalize lits.varI x = v at C3 C4
        go_wp2_with fail
        refine (sl.unhide C1 _).mono ?_; rintro e w' ⟨rfl, rfl⟩
        go_wp2_with fail
        refine (sl.unhide C2 _).mono ?_; rintro e w' ⟨rfl, rfl⟩
        go_wp2_with fail
        refine (sl.unhide C3 _).mono ?_; rintro e w' ⟨rfl, rfl⟩
        go_wp2_with fail
        refine (sl.unhide C4 _).mono ?_; rintro e w' ⟨rfl, rfl⟩
        go_wp2_with fail
        refine (sl.unhide C2 _).mono ?_; rintro e w' ⟨rfl, rfl⟩
        go_wp2_with fail
        refine (sl.unhide C5 _).mono ?_; rintro e w' ⟨rfl, rfl⟩
        go_wp2_with fail
        refine (sl.unhide C6 _).mono ?_; rintro e w' ⟨rfl, rfl⟩
        go_wp2_with fail
        go_ret
        exact ⟨rfl, sl.below_of (sl.unhide G1)⟩
      · by_cases hxy : x = y
        · subst hxy
          rw [hx] at c1 c2 c5
          rw [lits.bef_self] at c6
          have C1 := sl.hide c1
          have C2 := sl.hide c2
          have C3 := sl.hide c3
          have C4 := sl.hide c4
          have C6 := sl.hide c6
          clear c1 c2 c3 c4 c5 c6 hx hy
          generalize lits.varI x = v at C3 C4
          go_wp2_with fail
          refine (sl.unhide C1 _).mono ?_; rintro e w' ⟨rfl, rfl⟩
          go_wp2_with fail
          refine (sl.unhide C2 _).mono ?_; rintro e w' ⟨rfl, rfl⟩
          go_wp2_with fail
          refine (sl.unhide C3 _).mono ?_; rintro e w' ⟨rfl, rfl⟩
          go_wp2_with fail
          refine (sl.unhide C4 _).mono ?_; rintro e w' ⟨rfl, rfl⟩
          go_wp2_with fail
          refine (sl.unhide C2 _).mono ?_; rintro e w' ⟨rfl, rfl⟩
          go_wp2_with fail
          refine (sl.unhide C2 _).mono ?_; rintro e w' ⟨rfl, rfl⟩
          go_wp2_with fail
          refine (sl.unhide C6 _).mono ?_; rintro e w' ⟨rfl, rfl⟩
          go_wp2_with fail
          go_ret
          exact ⟨rfl, sl.below_of (sl.unhide G1)⟩
        · have c7 := lits.implLitBefore y x
          have c8 := lits.implLitVar (-x)
          have c9 := lits.implLitBefore (lits.varI x) (-(lits.varI x))
          rw [lits.bef_flip hx hy hxy] at c7
          rw [lits.var_neg hx] at c8
          rw [lits.bef_var hx] at c9
          rw [hx] at c1 c2
          rw [hy] at c5
          have vp := lits.var_pos hx
          have xb := lits.okB_iff.1 hx
          have hne : (x == y) = false := by simpa using hxy
          obtain ⟨v0, v1⟩ := vp
          obtain ⟨_, x0, x1⟩ := xb
          have C1 := sl.hide c1
          have C2 := sl.hide c2
          have C3 := sl.hide c3
          have C4 := sl.hide c4
          have C5 := sl.hide c5
          have C6 := sl.hide c6
          have C7 := sl.hide c7
          have C8 := sl.hide c8
          have C9 := sl.hide c9
          clear c1 c2 c3 c4 c5 c6 c7 c8 c9 hx hy hxy
          generalize lits.varI x = v at *
          generalize lits.befB x y = b at *
          cases b
          all_goals
            go_wp2_with fail
            refine (sl.unhide C1 _).mono ?_; rintro e w' ⟨rfl, rfl⟩
            go_wp2_with fail
            refine (sl.unhide C2 _).mono ?_; rintro e w' ⟨rfl, rfl⟩
            go_wp2_with fail
            refine (sl.unhide C3 _).mono ?_; rintro e w' ⟨rfl, rfl⟩
            go_wp2_with fail
            refine (sl.unhide C4 _).mono ?_; rintro e w' ⟨rfl, rfl⟩
            go_wp2_with fail
            refine (sl.unhide C2 _).mono ?_; rintro e w' ⟨rfl, rfl⟩
            go_wp2_with fail
            refine (sl.unhide C5 _).mono ?_; rintro e w' ⟨rfl, rfl⟩
            go_wp2_with fail
            refine (sl.unhide C6 _).mono ?_; rintro e w' ⟨rfl, rfl⟩
            go_wp2_with fail
            refine (sl.unhide C7 _).mono ?_; rintro e w' ⟨rfl, rfl⟩
            go_wp2_with fail
            refine (sl.unhide C8 _).mono ?_; rintro e w' ⟨rfl, rfl⟩
            go_wp2_with fail
            refine (sl.unhide C3 _).mono ?_; rintro e w' ⟨rfl, rfl⟩
            go_wp2_with fail
            refine (sl.unhide C3 _).mono ?_; rintro e w' ⟨rfl, rfl⟩
            go_wp2_with fail
            refine (sl.unhide C3 _).mono ?_; rintro e w' ⟨rfl, rfl⟩
            go_wp2_with fail
            refine (sl.unhide C3 _).mono ?_; rintro e w' ⟨rfl, rfl⟩
            go_wp2_with fail
            refine (sl.unhide C9 _).mono ?_; rintro e w' ⟨rfl, rfl⟩
            go_wp2_with fail
            go_ret
            exact ⟨rfl, sl.below_of (sl.unhide G1)⟩

/-! ### the row's step (the guide's own frame) -/
set_option maxRecDepth 100000 in
theorem lifted (os : Os) (started : os.Started) (H : Type) (enc : TypeId × Value → H) :
    ReturnsInHanded {} Try.checked os 3 .any (Rows.fnLitsSpec.pre6 enc Try.prog Try.f3 Rows.fnLitsRow.domain false) (Rows.fnLitsSpec.post enc Try.prog Try.f3 false true false false) := by
  refine returnsInHanded_of_change (C := Try.checked) own started (by kernel_rfl) Try.func3
    (ChangeSpec.witness6 (enc := enc) (C := Try.checked) false ⟨#[], #[.slice none 0 0], []⟩ 8 (by kernel_rfl) (by kernel_rfl) (by kernel_rfl) (by kernel_rfl)) ?_
  intro W base args ds gs before hval0 hW hcnd _
  have hval : ∀ (j : Nat) t v, Try.f3.params[j]? = some t → args[j]? = some v → Value.okWide Try.prog W .any base t v := hval0
  have hW' := hW
  obtain ⟨p, q, hA0, hV, rfl, hfz, hnd⟩ := hW
  have hA : DataW.TrodAll enc Try.prog W 0 (fun _ => true) true Try.f3.params.toList args.toList ds p := hA0
  rw [Try.params3] at hA hval
  obtain ⟨v0, vs0, d0, ds0, p0, q0, hargs, rfl, rfl, h0, r0⟩ := trodAll_cons hA
  obtain ⟨rfl, rfl, rfl⟩ := trodAll_nil r0
  obtain rfl : args = #[v0] := by cases args; simp_all
  obtain ⟨rfl, rfl⟩ := trodVars_none hV
  obtain ⟨a0, len0, cap0, rfl⟩ := okWide_slice Try.underlying22 (hval 0 22 v0 rfl rfl)
  have k0 := h0
  have lt0 : ∀ x ∈ p0, x.block < W.heap.size := by obtain ⟨m, hm⟩ := k0; exact DataW.trod_lt m _ _ _ hm
  obtain ⟨z0, w0⟩ : ∃ zs, IsRow .u8 W a0 len0 cap0 zs := by
    obtain ⟨fuel, hf⟩ := h0
    rcases open_ints Try.underlying22 Try.underlying5 (by kernel_rfl) hf with ⟨hcs, _⟩ | ⟨x, l, c, zs, hcs, _, hl, hm, hz, _, hcell, hwz⟩
    · simp [Value.cells] at hcs
      obtain ⟨rfl, rfl, rfl⟩ := hcs
      exact ⟨[], .inl ⟨rfl, rfl, rfl, rfl⟩⟩
    · simp [Value.cells] at hcs
      obtain ⟨rfl, rfl, rfl⟩ := hcs
      exact ⟨zs, .inr ⟨_, rfl, hl, hm, by simpa using hz, hcell, hwz⟩⟩
  clear hA0 hval0
  refine (walk a0 len0 cap0 z0 W w0).mono fun e W' ⟨he, bel⟩ => ?_
  subst he
  exact ⟨_, rfl, _, _, _, [], _, [], hW', trodAll_mk1 (shut_bool Try.underlying4 _), (trodAll_cons_mk (Below.trod laidOut (by kernel_rfl) (of_decide_eq_true (by kernel_rfl)) k0 bel lt0) trodAll_mk0), rfl, bel.frame _, fun h => by cases h⟩

theorem over : Rows.fnLitsRow.holds Try.pinned (OpenSpec.ofChange Rows.fnLitsSpec) :=
  OpenClaim.holds_of_wide 3 Try.f3 rfl rfl rfl rfl rfl rfl rfl ⟨rfl, rfl, rfl, rfl, rfl⟩ rfl rfl rfl rfl rfl (by kernel_rfl) Try.func3 (by kernel_rfl)
    (of_decide_eq_true (by kernel_rfl)) (by unfold Func.isWrapper; first | (rw [if_pos (by decide +kernel)]; kernel_rfl) | (rw [if_neg (by decide +kernel)]; exact ⟨rfl, rfl⟩))
    (fun os started H enc _ => lifted os started H enc)

/-- the statement -/
theorem proved : Rows.FnLitsSaid := over
#print axioms proved
end Go.Proofs.Ytndjfibjkckbdaa.fnLits
