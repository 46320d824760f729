/- For all bytes the law FnParity returns true: impl.Parity tells the flag and the clauses that its model tells, its clauses are true just where so many literals are, odd or even, those of odd and even never both; no condition. -/
import Derived.Test.YtmmfhcfanbfniaaRows
import Derived.Test.YtmmfhcfanbfniaaTq
import Derived.Test.YtmmfhcfanbfniaaDVa
import Derived.Test.YtmmfhcfanbfniaaDf
import Derived.WalkKit
import Derived.ProofKit
import Derived.OpenShut
import Derived.ShutString
import Derived.ChangeOld
import Derived.Below
namespace Go.Proofs.Ytmmfhcfanbfniaa.fnParity
open Go.ChangeShapes Go.WideShapes Go.ChangeAt Go.RowKit
open Go.ChangeMaps (open_string shut_string)
set_option linter.unusedVariables false

theorem own : ownKnob Try.prog.godebug = none := by kernel_rfl
theorem laidOut : laidOutB Try.prog = true := by kernel_rfl

/-- what the walk is told of a slice of integers that came in -/
def IsRow (k : IntKind) (w : World) (a : Option Addr) (len cap : Nat) (zs : List Int) : Prop :=
  (a = none ∧ len = 0 ∧ cap = 0 ∧ zs = []) ∨
  ∃ x, a = some x ∧ len ≤ cap ∧ cap ≤ maxLen ∧ zs.length = cap ∧ (∀ i, i < zs.length → w.cell? (x.add i) = some (.int k (zs.getD i 0))) ∧ ∀ n ∈ zs, (Lit.int k n).wf = true

/-! ### the walk -/
set_option maxRecDepth 100000 in
set_option maxHeartbeats 8000000 in
theorem walk (a0 : Option Addr) (len0 cap0 : Nat) (z0 : List Int) (w : World) (w0 : IsRow .u8 w a0 len0 cap0 z0) :
    Calls Try.prog 4 #[.slice a0 len0 cap0] w fun e w' => e = .returned (.bool true) ∧ Below w.heap.size w w' := by
  have hB := draw.of_rowB w0
  have hm : len0 ≤ 9223372036854775807 := by
    rcases w0 with ⟨_, h, _, _⟩ | ⟨_, _, h1, h2, _⟩
    · omega
    · unfold maxLen at h2
      omega
  clear w0
  by_cases hbig : 1048576 < len0
  · have C := sl.hide (draw.big a0 len0 cap0 w hm)
    rw [decide_eq_true hbig] at C
    go_enter Try.func4, Try.ntmps4
    go_wp2_with fail
    refine (sl.unhide C).mono ?_; rintro e w' ⟨rfl, rfl⟩
    go_wp2_with fail
    go_ret
    exact ⟨rfl, Below.refl _ _⟩
  have C := sl.hide (draw.big a0 len0 cap0 w hm)
  rw [decide_eq_false hbig] at C
  have HB := sl.hide hB
  have hlen : len0 ≤ 1048576 := by omega
  clear hB hbig
  go_enter Try.func4, Try.ntmps4
  go_wp2_with fail
  refine (sl.unhide C).mono ?_; rintro e w' ⟨rfl, hw⟩; have hw' := hw.symm; clear hw; subst hw'
  clear C hm
  go_wp2_with fail
  refine (t2.drawParity a0 len0 cap0 _ hlen (sl.unhide HB)).mono ?_; rintro e w1 ⟨v, L, odd, rfl, hL25, m1⟩
  have U2 := sl.hide (sl.Own.of m1.1)
  have G2 := sl.hide m1.2
  obtain ⟨va, vc, rfl, _⟩ := (sl.Own.of m1.1).sl
  have hL : L.length ≤ 1048576 := by omega
  clear m1
  obtain ⟨x, R1, R2, T1, T2, c1⟩ := t2.parV L hL odd
  have D1 := sl.hide T1
  have D2 := sl.hide T2
  have Q1 := sl.hide c1
  clear T1 T2 c1
  go_wp2_with fail
  refine ((sl.unhide D1).2.2 _ _ _ _ (sl.Own.of (sl.unhide U2).1) (Nat.le_refl _)).mono ?_; rintro e w3 ⟨a3, c3, rfl, o3, g3⟩
  have U3 := sl.hide ((sl.unhide U2).kept g3)
  have G3 := sl.hide (sl.grown_trans (r := none) (sl.unhide G2) g3)
  have A3 := sl.hide o3
  clear o3 g3 U2 G2
  go_wp2_with fail
  refine ((sl.unhide D2).2.2 _ _ _ _ (sl.Own.of (sl.unhide U3).1) (Nat.le_refl _)).mono ?_; rintro e w4 ⟨a4, c4, rfl, o4, g4⟩
  have U4 := sl.hide ((sl.unhide U3).kept g4)
  have G4 := sl.hide (sl.grown_trans (r := none) (sl.unhide G3) g4)
  have A4 := sl.hide ((sl.unhide A3).kept g4)
  have B4 := sl.hide o4
  clear o4 g4 U3 G3 A3
  go_wp2_with fail
  refine ((sl.unhide D1).2.1 _ _ (sl.unhide U4).sl).mono ?_; rintro e w5 ⟨a5, c5, rfl, o5, g5⟩
  have U5 := sl.hide ((sl.unhide U4).kept g5)
  have G5 := sl.hide (sl.grown_trans (r := none) (sl.unhide G4) g5)
  have A5 := sl.hide ((sl.unhide A4).kept g5)
  have B5 := sl.hide ((sl.unhide B4).kept g5)
  have W5 := sl.hide o5
  clear o5 g5 U4 G4 A4 B4
  go_wp2_with fail
  refine (df.sameList _ _ R1 _ (sl.unhide D1).1.1 (sl.unhide D1).1.2 (sl.unhide A5).sls (sl.unhide W5).sls).mono ?_; rintro e w6 ⟨rfl, g6⟩
  have U6 := sl.hide ((sl.unhide U5).kept g6)
  have A6 := sl.hide ((sl.unhide A5).kept g6)
  have B6 := sl.hide ((sl.unhide B5).kept g6)
  have G6 := sl.hide (sl.grown_trans (r := none) (sl.unhide G5) g6)
  clear g6 U5 G5 A5 B5 W5
  go_wp2_with fail
  refine (dva.values a0 len0 cap0 24 _ hlen (by decide) ((sl.unhide HB).below (sl.below_of (sl.unhide G6)))).mono ?_; rintro e w7 ⟨xv, X, rfl, hX, hbits, mx⟩
  have hX2 : X.length ≤ 1048576 := by omega
  have X7 := sl.hide (sl.Own.of mx.1)
  have CO := sl.hide (t1.implCountOn _ _ L X w7 hL hX2 ((sl.unhide U6).kept mx.2).sl (sl.unhide X7).sl)
  have T1 := sl.hide (t2.allTrue _ _ R1 X _ (sl.unhide D1).1.1 (sl.unhide D1).1.2 hX2 ((sl.unhide A6).kept mx.2).sls (sl.unhide X7).sl)
  have T2 := sl.hide (t2.allTrue _ _ R2 X _ (sl.unhide D2).1.1 (sl.unhide D2).1.2 hX2 ((sl.unhide B6).kept mx.2).sls (sl.unhide X7).sl)
  have B0 := sl.hide (sl.below_of (sl.grown_trans (r := none) (sl.unhide G6) mx.2))
  obtain ⟨xa, xc, rfl, _⟩ := (sl.Own.of mx.1).sl
  have hcl := t1.cnt_le X L
  clear mx hX hbits U6 A6 B6 G6 X7 D1 D2 HB
  cases x
  · clear Q1 T1 T2 CO
    go_wp2_with fail
    go_ret
    exact ⟨by simp, sl.unhide B0⟩
  · obtain ⟨q1, q2⟩ := sl.unhide Q1 rfl
    have e1 := q1 X
    rw [e1.1] at T1
    rw [e1.2] at T2
    clear Q1 q1 e1
    generalize t1.cntL X L = n at *
    generalize hpb : ((n : Int) % 2 == 1) = pb at *
    rcases q2 with ⟨h0, hl⟩ | ⟨h0, hl⟩
    · have h0' : (0 : Int) < (L.length : Int) := by omega
      clear h0
      cases pb <;> cases odd
      · go_wp2_with fail
        refine (sl.unhide T1).mono ?_; rintro e w' ⟨rfl, hw⟩; have hw' := hw.symm; clear hw; subst hw'
        go_wp2_with fail
        refine (sl.unhide CO).mono ?_; rintro e w' ⟨rfl, hw⟩; have hw' := hw.symm; clear hw; subst hw'
        go_wp2_with fail
        refine (sl.unhide T1).mono ?_; rintro e w' ⟨rfl, hw⟩; have hw' := hw.symm; clear hw; subst hw'
        go_wp2_with fail
        refine (sl.unhide T2).mono ?_; rintro e w' ⟨rfl, hw⟩; have hw' := hw.symm; clear hw; subst hw'
        go_wp2_with fail
        go_ret
        exact ⟨by (first | (simp; done) | (simp; omega) | (simp; exact List.length_eq_zero_iff.1 (by omega))), sl.unhide B0⟩
      · go_wp2_with fail
        refine (sl.unhide T1).mono ?_; rintro e w' ⟨rfl, hw⟩; have hw' := hw.symm; clear hw; subst hw'
        go_wp2_with fail
        refine (sl.unhide CO).mono ?_; rintro e w' ⟨rfl, hw⟩; have hw' := hw.symm; clear hw; subst hw'
        go_wp2_with fail
        refine (sl.unhide T1).mono ?_; rintro e w' ⟨rfl, hw⟩; have hw' := hw.symm; clear hw; subst hw'
        go_wp2_with fail
        refine (sl.unhide T2).mono ?_; rintro e w' ⟨rfl, hw⟩; have hw' := hw.symm; clear hw; subst hw'
        go_wp2_with fail
        go_ret
        exact ⟨by (first | (simp; done) | (simp; omega) | (simp; exact List.length_eq_zero_iff.1 (by omega))), sl.unhide B0⟩
      · go_wp2_with fail
        refine (sl.unhide T1).mono ?_; rintro e w' ⟨rfl, hw⟩; have hw' := hw.symm; clear hw; subst hw'
        go_wp2_with fail
        refine (sl.unhide CO).mono ?_; rintro e w' ⟨rfl, hw⟩; have hw' := hw.symm; clear hw; subst hw'
        go_wp2_with fail
        refine (sl.unhide T1).mono ?_; rintro e w' ⟨rfl, hw⟩; have hw' := hw.symm; clear hw; subst hw'
        go_wp2_with fail
        refine (sl.unhide T2).mono ?_; rintro e w' ⟨rfl, hw⟩; have hw' := hw.symm; clear hw; subst hw'
        go_wp2_with fail
        go_ret
        exact ⟨by (first | (simp; done) | (simp; omega) | (simp; exact List.length_eq_zero_iff.1 (by omega))), sl.unhide B0⟩
      · go_wp2_with fail
        refine (sl.unhide T1).mono ?_; rintro e w' ⟨rfl, hw⟩; have hw' := hw.symm; clear hw; subst hw'
        go_wp2_with fail
        refine (sl.unhide CO).mono ?_; rintro e w' ⟨rfl, hw⟩; have hw' := hw.symm; clear hw; subst hw'
        go_wp2_with fail
        refine (sl.unhide T1).mono ?_; rintro e w' ⟨rfl, hw⟩; have hw' := hw.symm; clear hw; subst hw'
        go_wp2_with fail
        refine (sl.unhide T2).mono ?_; rintro e w' ⟨rfl, hw⟩; have hw' := hw.symm; clear hw; subst hw'
        go_wp2_with fail
        go_ret
        exact ⟨by (first | (simp; done) | (simp; omega) | (simp; exact List.length_eq_zero_iff.1 (by omega))), sl.unhide B0⟩
    · have h0' : ¬ (0 : Int) < (L.length : Int) := by omega
      clear h0
      cases pb <;> cases odd
      · go_wp2_with fail
        refine (sl.unhide T1).mono ?_; rintro e w' ⟨rfl, hw⟩; have hw' := hw.symm; clear hw; subst hw'
        go_wp2_with fail
        refine (sl.unhide CO).mono ?_; rintro e w' ⟨rfl, hw⟩; have hw' := hw.symm; clear hw; subst hw'
        go_wp2_with fail
        refine (sl.unhide T1).mono ?_; rintro e w' ⟨rfl, hw⟩; have hw' := hw.symm; clear hw; subst hw'
        go_wp2_with fail
        refine (sl.unhide T2).mono ?_; rintro e w' ⟨rfl, hw⟩; have hw' := hw.symm; clear hw; subst hw'
        go_wp2_with fail
        go_ret
        exact ⟨by (first | (simp; done) | (simp; omega) | (simp; exact List.length_eq_zero_iff.1 (by omega))), sl.unhide B0⟩
      · go_wp2_with fail
        refine (sl.unhide T1).mono ?_; rintro e w' ⟨rfl, hw⟩; have hw' := hw.symm; clear hw; subst hw'
        go_wp2_with fail
        refine (sl.unhide CO).mono ?_; rintro e w' ⟨rfl, hw⟩; have hw' := hw.symm; clear hw; subst hw'
        go_wp2_with fail
        refine (sl.unhide T1).mono ?_; rintro e w' ⟨rfl, hw⟩; have hw' := hw.symm; clear hw; subst hw'
        go_wp2_with fail
        refine (sl.unhide T2).mono ?_; rintro e w' ⟨rfl, hw⟩; have hw' := hw.symm; clear hw; subst hw'
        go_wp2_with fail
        go_ret
        exact ⟨by (first | (simp; done) | (simp; omega) | (simp; exact List.length_eq_zero_iff.1 (by omega))), sl.unhide B0⟩
      · go_wp2_with fail
        refine (sl.unhide T1).mono ?_; rintro e w' ⟨rfl, hw⟩; have hw' := hw.symm; clear hw; subst hw'
        go_wp2_with fail
        refine (sl.unhide CO).mono ?_; rintro e w' ⟨rfl, hw⟩; have hw' := hw.symm; clear hw; subst hw'
        go_wp2_with fail
        refine (sl.unhide T1).mono ?_; rintro e w' ⟨rfl, hw⟩; have hw' := hw.symm; clear hw; subst hw'
        go_wp2_with fail
        refine (sl.unhide T2).mono ?_; rintro e w' ⟨rfl, hw⟩; have hw' := hw.symm; clear hw; subst hw'
        go_wp2_with fail
        go_ret
        exact ⟨by (first | (simp; done) | (simp; omega) | (simp; exact List.length_eq_zero_iff.1 (by omega))), sl.unhide B0⟩
      · go_wp2_with fail
        refine (sl.unhide T1).mono ?_; rintro e w' ⟨rfl, hw⟩; have hw' := hw.symm; clear hw; subst hw'
        go_wp2_with fail
        refine (sl.unhide CO).mono ?_; rintro e w' ⟨rfl, hw⟩; have hw' := hw.symm; clear hw; subst hw'
        go_wp2_with fail
        refine (sl.unhide T1).mono ?_; rintro e w' ⟨rfl, hw⟩; have hw' := hw.symm; clear hw; subst hw'
        go_wp2_with fail
        refine (sl.unhide T2).mono ?_; rintro e w' ⟨rfl, hw⟩; have hw' := hw.symm; clear hw; subst hw'
        go_wp2_with fail
        go_ret
        exact ⟨by (first | (simp; done) | (simp; omega) | (simp; exact List.length_eq_zero_iff.1 (by omega))), sl.unhide B0⟩

/-! ### the row's step (the guide's own frame) -/
set_option maxRecDepth 100000 in
theorem lifted (os : Os) (started : os.Started) (H : Type) (enc : TypeId × Value → H) :
    ReturnsInHanded {} Try.checked os 4 .any (Rows.fnParitySpec.pre6 enc Try.prog Try.f4 Rows.fnParityRow.domain false) (Rows.fnParitySpec.post enc Try.prog Try.f4 false true false false) := by
  refine returnsInHanded_of_change (C := Try.checked) own started (by kernel_rfl) Try.func4
    (ChangeSpec.witness6 (enc := enc) (C := Try.checked) false ⟨#[], #[.slice none 0 0], []⟩ 8 (by kernel_rfl) (by kernel_rfl) (by kernel_rfl) (by kernel_rfl)) ?_
  intro W base args ds gs before hval0 hW hcnd _
  have hval : ∀ (j : Nat) t v, Try.f4.params[j]? = some t → args[j]? = some v → Value.okWide Try.prog W .any base t v := hval0
  have hW' := hW
  obtain ⟨p, q, hA0, hV, rfl, hfz, hnd⟩ := hW
  have hA : DataW.TrodAll enc Try.prog W 0 (fun _ => true) true Try.f4.params.toList args.toList ds p := hA0
  rw [Try.params4] at hA hval
  obtain ⟨v0, vs0, d0, ds0, p0, q0, hargs, rfl, rfl, h0, r0⟩ := trodAll_cons hA
  obtain ⟨rfl, rfl, rfl⟩ := trodAll_nil r0
  obtain rfl : args = #[v0] := by cases args; simp_all
  obtain ⟨rfl, rfl⟩ := trodVars_none hV
  obtain ⟨a0, len0, cap0, rfl⟩ := okWide_slice Try.underlying22 (hval 0 22 v0 rfl rfl)
  have k0 := h0
  have lt0 : ∀ x ∈ p0, x.block < W.heap.size := by obtain ⟨m, hm⟩ := k0; exact DataW.trod_lt m _ _ _ hm
  obtain ⟨z0, w0⟩ : ∃ zs, IsRow .u8 W a0 len0 cap0 zs := by
    obtain ⟨fuel, hf⟩ := h0
    rcases open_ints Try.underlying22 Try.underlying5 (by kernel_rfl) hf with ⟨hcs, _⟩ | ⟨x, l, c, zs, hcs, _, hl, hm, hz, _, hcell, hwz⟩
    · simp [Value.cells] at hcs
      obtain ⟨rfl, rfl, rfl⟩ := hcs
      exact ⟨[], .inl ⟨rfl, rfl, rfl, rfl⟩⟩
    · simp [Value.cells] at hcs
      obtain ⟨rfl, rfl, rfl⟩ := hcs
      exact ⟨zs, .inr ⟨_, rfl, hl, hm, by simpa using hz, hcell, hwz⟩⟩
  clear hA0 hval0
  refine (walk a0 len0 cap0 z0 W w0).mono fun e W' ⟨he, bel⟩ => ?_
  subst he
  exact ⟨_, rfl, _, _, _, [], _, [], hW', trodAll_mk1 (shut_bool Try.underlying4 _), (trodAll_cons_mk (Below.trod laidOut (by kernel_rfl) (of_decide_eq_true (by kernel_rfl)) k0 bel lt0) trodAll_mk0), rfl, bel.frame _, fun h => by cases h⟩

theorem over : Rows.fnParityRow.holds Try.pinned (OpenSpec.ofChange Rows.fnParitySpec) :=
  OpenClaim.holds_of_wide 4 Try.f4 rfl rfl rfl rfl rfl rfl rfl ⟨rfl, rfl, rfl, rfl, rfl⟩ rfl rfl rfl rfl rfl (by kernel_rfl) Try.func4 (by kernel_rfl)
    (of_decide_eq_true (by kernel_rfl)) (by unfold Func.isWrapper; first | (rw [if_pos (by decide +kernel)]; kernel_rfl) | (rw [if_neg (by decide +kernel)]; exact ⟨rfl, rfl⟩))
    (fun os started H enc _ => lifted os started H enc)

/-- the statement -/
theorem proved : Rows.FnParitySaid := over
#print axioms proved
end Go.Proofs.Ytmmfhcfanbfniaa.fnParity
