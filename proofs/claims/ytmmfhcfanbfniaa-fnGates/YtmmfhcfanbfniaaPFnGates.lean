/- For all bytes the law FnGates returns true: impl.IfGate, impl.AndGate and impl.Same tell the flags and the clauses that their models tell, and the clauses are true just where the gates' outputs are what they should be; no condition. -/
import Derived.Test.YtmmfhcfanbfniaaRows
import Derived.Test.YtmmfhcfanbfniaaTs2
import Derived.Test.YtmmfhcfanbfniaaDVa
import Derived.Test.YtmmfhcfanbfniaaDf
import Derived.WalkKit
import Derived.ProofKit
import Derived.OpenShut
import Derived.ShutString
import Derived.ChangeOld
import Derived.Below
namespace Go.Proofs.Ytmmfhcfanbfniaa.fnGates
open Go.ChangeShapes Go.WideShapes Go.ChangeAt Go.RowKit
open Go.ChangeMaps (open_string shut_string)
set_option linter.unusedVariables false

theorem own : ownKnob Try.prog.godebug = none := by kernel_rfl
theorem laidOut : laidOutB Try.prog = true := by kernel_rfl

/-- what the walk is told of a slice of integers that came in -/
def IsRow (k : IntKind) (w : World) (a : Option Addr) (len cap : Nat) (zs : List Int) : Prop :=
  (a = none ∧ len = 0 ∧ cap = 0 ∧ zs = []) ∨
  ∃ x, a = some x ∧ len ≤ cap ∧ cap ≤ maxLen ∧ zs.length = cap ∧ (∀ i, i < zs.length → w.cell? (x.add i) = some (.int k (zs.getD i 0))) ∧ ∀ n ∈ zs, (Lit.int k n).wf = true

/-! ### the walk -/
set_option maxRecDepth 100000 in
set_option maxHeartbeats 8000000 in
theorem walk (a0 : Option Addr) (len0 cap0 : Nat) (z0 : List Int) (w : World) (w0 : IsRow .u8 w a0 len0 cap0 z0) :
    Calls Try.prog 5 #[.slice a0 len0 cap0] w fun e w' => e = .returned (.bool true) ∧ Below w.heap.size w w' := by
  have hB := draw.of_rowB w0
  have hm : len0 ≤ 9223372036854775807 := by
    rcases w0 with ⟨_, h, _, _⟩ | ⟨_, _, h1, h2, _⟩
    · omega
    · unfold maxLen at h2
      omega
  clear w0
  by_cases hbig : 1048576 < len0
  · have C := sl.hide (draw.big a0 len0 cap0 w hm)
    rw [decide_eq_true hbig] at C
    go_enter Try.func5, Try.ntmps5
    go_wp2_with fail
    refine (sl.unhide C).mono ?_; rintro e w' ⟨rfl, rfl⟩
    go_wp2_with fail
    go_ret
    exact ⟨rfl, Below.refl _ _⟩
  have C := sl.hide (draw.big a0 len0 cap0 w hm)
  rw [decide_eq_false hbig] at C
  have HB := sl.hide hB
  have hlen : len0 ≤ 1048576 := by omega
  clear hB hbig
  go_enter Try.func5, Try.ntmps5
  go_wp2_with fail
  refine (sl.unhide C).mono ?_; rintro e w' ⟨rfl, hw⟩; have hw' := hw.symm; clear hw; subst hw'
  clear C hm
  go_wp2_with fail
  refine (t2.drawIfGate a0 len0 cap0 _ hlen (sl.unhide HB)).mono ?_; rintro e w1 ⟨x, y, z, q, rfl, hx64, hy64, hz64, hq64, g1⟩
  have G1 := sl.hide g1
  clear g1 hx64 hy64 hz64 hq64
  obtain ⟨o1, R1, T1, c1⟩ := t2.ifW x y z q
  have D1 := sl.hide T1
  have Q1 := sl.hide c1
  obtain ⟨o3, R3, T3, c3⟩ := t2.sameW x y
  have D3 := sl.hide T3
  have Q3 := sl.hide c3
  clear T1 c1 T3 c3
  go_wp2_with fail
  refine ((sl.unhide D1).2.2 _).mono ?_; rintro e w2 ⟨a2, k2, rfl, p2, g2⟩
  have A2 := sl.hide p2
  have G2 := sl.hide (sl.grown_trans (r := none) (sl.unhide G1) g2)
  clear p2 g2 G1
  go_wp2_with fail
  refine ((sl.unhide D1).2.1 _).mono ?_; rintro e w3 ⟨a3, k3, rfl, p3, g3⟩
  have W3 := sl.hide p3
  have A3 := sl.hide ((sl.unhide A2).kept g3)
  have G3 := sl.hide (sl.grown_trans (r := none) (sl.unhide G2) g3)
  clear p3 g3 G2 A2
  go_wp2_with fail
  refine (t2.drawAndGate a0 len0 cap0 _ hlen ((sl.unhide HB).below (sl.below_of (sl.unhide G3)))).mono ?_; rintro e w4 ⟨x4, v, L, rfl, hL25, hx4, m4⟩
  have U4 := sl.hide (sl.Own.of m4.1)
  have W4 := sl.hide ((sl.unhide W3).kept m4.2)
  have A4 := sl.hide ((sl.unhide A3).kept m4.2)
  have G4 := sl.hide (sl.grown_trans (r := none) (sl.unhide G3) m4.2)
  obtain ⟨va, vc, rfl, _⟩ := (sl.Own.of m4.1).sl
  have hL : L.length ≤ 1048576 := by omega
  clear m4 hx4 G3 A3 W3
  obtain ⟨o2, R2, T2, c2⟩ := t2.andW x4 L hL
  have D2 := sl.hide T2
  have Q2 := sl.hide c2
  clear T2 c2
  go_wp2_with fail
  refine ((sl.unhide D2).2.2 _ _ _ _ (sl.Own.of (sl.unhide U4).1) (Nat.le_refl _)).mono ?_; rintro e w5 ⟨a5, k5, rfl, p5, g5⟩
  have G5 := sl.hide (sl.grown_trans (r := none) (sl.unhide G4) g5)
  have U5 := sl.hide ((sl.unhide U4).kept g5)
  have W5 := sl.hide ((sl.unhide W4).kept g5)
  have A5 := sl.hide ((sl.unhide A4).kept g5)
  have E5 := sl.hide p5
  clear p5 g5 G4 U4 W4 A4
  go_wp2_with fail
  refine ((sl.unhide D2).2.1 _ _ (sl.unhide U5).sl).mono ?_; rintro e w6 ⟨a6, k6, rfl, p6, g6⟩
  have G6 := sl.hide (sl.grown_trans (r := none) (sl.unhide G5) g6)
  have U6 := sl.hide ((sl.unhide U5).kept g6)
  have W6 := sl.hide ((sl.unhide W5).kept g6)
  have A6 := sl.hide ((sl.unhide A5).kept g6)
  have E6 := sl.hide ((sl.unhide E5).kept g6)
  have M6 := sl.hide p6
  clear p6 g6 G5 U5 W5 A5 E5
  go_wp2_with fail
  refine ((sl.unhide D3).2.2 _).mono ?_; rintro e w7 ⟨a7, k7, rfl, p7, g7⟩
  have G7 := sl.hide (sl.grown_trans (r := none) (sl.unhide G6) g7)
  have U7 := sl.hide ((sl.unhide U6).kept g7)
  have W7 := sl.hide ((sl.unhide W6).kept g7)
  have A7 := sl.hide ((sl.unhide A6).kept g7)
  have E7 := sl.hide ((sl.unhide E6).kept g7)
  have M7 := sl.hide ((sl.unhide M6).kept g7)
  have S7 := sl.hide p7
  clear p7 g7 G6 U6 W6 A6 E6 M6
  go_wp2_with fail
  refine ((sl.unhide D3).2.1 _).mono ?_; rintro e w8 ⟨a8, k8, rfl, p8, g8⟩
  have G8 := sl.hide (sl.grown_trans (r := none) (sl.unhide G7) g8)
  have U8 := sl.hide ((sl.unhide U7).kept g8)
  have W8 := sl.hide ((sl.unhide W7).kept g8)
  have A8 := sl.hide ((sl.unhide A7).kept g8)
  have E8 := sl.hide ((sl.unhide E7).kept g8)
  have M8 := sl.hide ((sl.unhide M7).kept g8)
  have S8 := sl.hide ((sl.unhide S7).kept g8)
  clear p8 g8 G7 U7 W7 A7 E7 M7 S7
  go_wp2_with fail
  refine (df.sameList _ _ R1 _ (sl.unhide D1).1.1 (sl.unhide D1).1.2 (sl.unhide A8).sls (sl.unhide W8).sls).mono ?_; rintro e w9 ⟨rfl, g9⟩
  have G9 := sl.hide (sl.grown_trans (r := none) (sl.unhide G8) g9)
  have U9 := sl.hide ((sl.unhide U8).kept g9)
  have W9 := sl.hide ((sl.unhide W8).kept g9)
  have A9 := sl.hide ((sl.unhide A8).kept g9)
  have E9 := sl.hide ((sl.unhide E8).kept g9)
  have M9 := sl.hide ((sl.unhide M8).kept g9)
  have S9 := sl.hide ((sl.unhide S8).kept g9)
  clear g9 G8 U8 W8 A8 E8 M8 S8
  go_wp2_with fail
  refine (df.sameList _ _ R2 _ (sl.unhide D2).1.1 (sl.unhide D2).1.2 (sl.unhide E9).sls (sl.unhide M9).sls).mono ?_; rintro e w10 ⟨rfl, g10⟩
  have G10 := sl.hide (sl.grown_trans (r := none) (sl.unhide G9) g10)
  have U10 := sl.hide ((sl.unhide U9).kept g10)
  have W10 := sl.hide ((sl.unhide W9).kept g10)
  have A10 := sl.hide ((sl.unhide A9).kept g10)
  have E10 := sl.hide ((sl.unhide E9).kept g10)
  have M10 := sl.hide ((sl.unhide M9).kept g10)
  have S10 := sl.hide ((sl.unhide S9).kept g10)
  clear g10 G9 U9 W9 A9 E9 M9 S9
  go_wp2_with fail
  refine (dva.values a0 len0 cap0 24 _ hlen (by decide) ((sl.unhide HB).below (sl.below_of (sl.unhide G10)))).mono ?_; rintro e w11 ⟨xv, X, rfl, hX, hbits, mx⟩
  have hX2 : X.length ≤ 1048576 := by omega
  have B0 := sl.hide (sl.grown_trans (r := none) (sl.unhide G10) mx.2)
  obtain ⟨xa, xc, rfl, _⟩ := (sl.Own.of mx.1).sl
  have KX := sl.hide (fun w' (g : w11.grownBy w' none) => (sl.Sl.of_own mx.1).kept g (.inl rfl))
  have T1 := sl.hide (fun w' (g : w11.grownBy w' none) => t2.allTrue _ _ R1 X w' (sl.unhide D1).1.1 (sl.unhide D1).1.2 hX2 (((sl.unhide A10).kept mx.2).kept g).sls (sl.unhide KX w' g))
  have T2 := sl.hide (fun w' (g : w11.grownBy w' none) => t2.allTrue _ _ R2 X w' (sl.unhide D2).1.1 (sl.unhide D2).1.2 hX2 (((sl.unhide E10).kept mx.2).kept g).sls (sl.unhide KX w' g))
  have T3 := sl.hide (fun w' (g : w11.grownBy w' none) => t2.allTrue _ _ R3 X w' (sl.unhide D3).1.1 (sl.unhide D3).1.2 hX2 (((sl.unhide S10).kept mx.2).kept g).sls (sl.unhide KX w' g))
  have CO := sl.hide (fun w' (g : w11.grownBy w' none) => t1.implCountOn _ _ L X w' hL hX2 (((sl.unhide U10).kept mx.2).kept g).sl (sl.unhide KX w' g))
  have IX := sl.hide (fun w' (g : w11.grownBy w' none) => t2.isTrue x _ X w' hX2 (sl.unhide KX w' g))
  have IY := sl.hide (fun w' (g : w11.grownBy w' none) => t2.isTrue y _ X w' hX2 (sl.unhide KX w' g))
  have IZ := sl.hide (fun w' (g : w11.grownBy w' none) => t2.isTrue z _ X w' hX2 (sl.unhide KX w' g))
  have IQ := sl.hide (fun w' (g : w11.grownBy w' none) => t2.isTrue q _ X w' hX2 (sl.unhide KX w' g))
  have I4 := sl.hide (fun w' (g : w11.grownBy w' none) => t2.isTrue x4 _ X w' hX2 (sl.unhide KX w' g))
  have G0 := sl.hide (sl.grown_refl w11)
  have hcl := t1.cnt_le X L
  have r1 : o1 = true → (lits.okB x = true ∧ lits.okB y = true) ∧ tr.cnfT X R1 = (tr.litT X x == if tr.litT X y then tr.litT X z else tr.litT X q) := fun h => ⟨(sl.unhide Q1 h).1, (sl.unhide Q1 h).2 X⟩
  have r2 : o2 = true → tr.cnfT X R2 = (tr.litT X x4 == ((t1.cntL X L : Int) == (L.length : Int))) := fun h => sl.unhide Q2 h X
  have r3 : (lits.okB x = true ∧ lits.okB y = true) → tr.cnfT X R3 = (tr.litT X x == tr.litT X y) := fun h => sl.unhide Q3 h X
  have RR := sl.hide (And.intro r1 (And.intro r2 r3))
  clear r1 r2 r3 Q1 Q2 Q3 mx hX hbits D1 D2 D3 U10 W10 A10 E10 M10 S10 G10 HB
  generalize tr.litT X x = tx at *
  generalize tr.litT X y = ty at *
  generalize tr.litT X z = tz at *
  generalize tr.litT X q = tq at *
  generalize tr.litT X x4 = t4 at *
  generalize tr.cnfT X R1 = s1 at *
  generalize tr.cnfT X R2 = s2 at *
  generalize tr.cnfT X R3 = s3 at *
  generalize t1.cntL X L = n at *
  cases o1
  · cases o2
    · go_wp2_with fail
      go_ret
      exact ⟨by simp, sl.below_of (sl.grown_trans (r := none) (sl.unhide B0) (sl.unhide G0))⟩
    · have e2 := (sl.unhide RR).2.1 rfl
      subst e2
      go_wp2_with fail
      refine (sl.unhide T2 _ (sl.unhide G0)).mono ?_; rintro e w' ⟨rfl, hw⟩; have hw' := hw.symm; clear hw; subst hw'
      go_wp2_with fail
      refine (sl.unhide I4 _ (sl.unhide G0)).mono ?_; rintro e v1 ⟨rfl, i1⟩
      have H1 := sl.hide (sl.grown_trans (r := none) (sl.unhide G0) i1)
      clear i1
      go_wp2_with fail
      refine (sl.unhide CO _ (sl.unhide H1)).mono ?_; rintro e w' ⟨rfl, hw⟩; have hw' := hw.symm; clear hw; subst hw'
      go_wp2_with fail
      go_ret
      exact ⟨by simp, sl.below_of (sl.grown_trans (r := none) (sl.unhide B0) (sl.unhide H1))⟩
  cases ty
  · have e3 := (sl.unhide RR).2.2 ((sl.unhide RR).1 rfl).1
    have e1 := ((sl.unhide RR).1 rfl).2
    simp only [Bool.false_eq_true, if_false] at e1
    subst e1 e3
    go_wp2_with fail
    refine (sl.unhide IQ _ (sl.unhide G0)).mono ?_; rintro e v2 ⟨rfl, i2⟩
    have H2 := sl.hide (sl.grown_trans (r := none) (sl.unhide G0) i2)
    clear i2
    go_wp2_with fail
    refine (sl.unhide IY _ (sl.unhide H2)).mono ?_; rintro e v3 ⟨rfl, i3⟩
    have H3 := sl.hide (sl.grown_trans (r := none) (sl.unhide H2) i3)
    clear i3
    go_wp2_with fail
    refine (sl.unhide T1 _ (sl.unhide H3)).mono ?_; rintro e w' ⟨rfl, hw⟩; have hw' := hw.symm; clear hw; subst hw'
    go_wp2_with fail
    refine (sl.unhide IX _ (sl.unhide H3)).mono ?_; rintro e v4 ⟨rfl, i4⟩
    have H4 := sl.hide (sl.grown_trans (r := none) (sl.unhide H3) i4)
    clear i4
    go_wp2_with fail
    refine (sl.unhide T3 _ (sl.unhide H4)).mono ?_; rintro e w' ⟨rfl, hw⟩; have hw' := hw.symm; clear hw; subst hw'
    go_wp2_with fail
    refine (sl.unhide IX _ (sl.unhide H4)).mono ?_; rintro e v5 ⟨rfl, i5⟩
    have H5 := sl.hide (sl.grown_trans (r := none) (sl.unhide H4) i5)
    clear i5
    go_wp2_with fail
    refine (sl.unhide IY _ (sl.unhide H5)).mono ?_; rintro e v6 ⟨rfl, i6⟩
    have H6 := sl.hide (sl.grown_trans (r := none) (sl.unhide H5) i6)
    clear i6
    cases o2
    · go_wp2_with fail
      go_ret
      exact ⟨by simp, sl.below_of (sl.grown_trans (r := none) (sl.unhide B0) (sl.unhide H6))⟩
    · have e2 := (sl.unhide RR).2.1 rfl
      subst e2
      go_wp2_with fail
      refine (sl.unhide T2 _ (sl.unhide H6)).mono ?_; rintro e w' ⟨rfl, hw⟩; have hw' := hw.symm; clear hw; subst hw'
      go_wp2_with fail
      refine (sl.unhide I4 _ (sl.unhide H6)).mono ?_; rintro e v7 ⟨rfl, i7⟩
      have H7 := sl.hide (sl.grown_trans (r := none) (sl.unhide H6) i7)
      clear i7
      go_wp2_with fail
      refine (sl.unhide CO _ (sl.unhide H7)).mono ?_; rintro e w' ⟨rfl, hw⟩; have hw' := hw.symm; clear hw; subst hw'
      go_wp2_with fail
      go_ret
      exact ⟨by simp, sl.below_of (sl.grown_trans (r := none) (sl.unhide B0) (sl.unhide H7))⟩
  · have e3 := (sl.unhide RR).2.2 ((sl.unhide RR).1 rfl).1
    have e1 := ((sl.unhide RR).1 rfl).2
    simp only [if_true] at e1
    subst e1 e3
    go_wp2_with fail
    refine (sl.unhide IQ _ (sl.unhide G0)).mono ?_; rintro e v8 ⟨rfl, i8⟩
    have H8 := sl.hide (sl.grown_trans (r := none) (sl.unhide G0) i8)
    clear i8
    go_wp2_with fail
    refine (sl.unhide IY _ (sl.unhide H8)).mono ?_; rintro e v9 ⟨rfl, i9⟩
    have H9 := sl.hide (sl.grown_trans (r := none) (sl.unhide H8) i9)
    clear i9
    go_wp2_with fail
    refine (sl.unhide IZ _ (sl.unhide H9)).mono ?_; rintro e v10 ⟨rfl, i10⟩
    have H10 := sl.hide (sl.grown_trans (r := none) (sl.unhide H9) i10)
    clear i10
    go_wp2_with fail
    refine (sl.unhide T1 _ (sl.unhide H10)).mono ?_; rintro e w' ⟨rfl, hw⟩; have hw' := hw.symm; clear hw; subst hw'
    go_wp2_with fail
    refine (sl.unhide IX _ (sl.unhide H10)).mono ?_; rintro e v11 ⟨rfl, i11⟩
    have H11 := sl.hide (sl.grown_trans (r := none) (sl.unhide H10) i11)
    clear i11
    go_wp2_with fail
    refine (sl.unhide T3 _ (sl.unhide H11)).mono ?_; rintro e w' ⟨rfl, hw⟩; have hw' := hw.symm; clear hw; subst hw'
    go_wp2_with fail
    refine (sl.unhide IX _ (sl.unhide H11)).mono ?_; rintro e v12 ⟨rfl, i12⟩
    have H12 := sl.hide (sl.grown_trans (r := none) (sl.unhide H11) i12)
    clear i12
    go_wp2_with fail
    refine (sl.unhide IY _ (sl.unhide H12)).mono ?_; rintro e v13 ⟨rfl, i13⟩
    have H13 := sl.hide (sl.grown_trans (r := none) (sl.unhide H12) i13)
    clear i13
    cases o2
    · go_wp2_with fail
      go_ret
      exact ⟨by simp, sl.below_of (sl.grown_trans (r := none) (sl.unhide B0) (sl.unhide H13))⟩
    · have e2 := (sl.unhide RR).2.1 rfl
      subst e2
      go_wp2_with fail
      refine (sl.unhide T2 _ (sl.unhide H13)).mono ?_; rintro e w' ⟨rfl, hw⟩; have hw' := hw.symm; clear hw; subst hw'
      go_wp2_with fail
      refine (sl.unhide I4 _ (sl.unhide H13)).mono ?_; rintro e v14 ⟨rfl, i14⟩
      have H14 := sl.hide (sl.grown_trans (r := none) (sl.unhide H13) i14)
      clear i14
      go_wp2_with fail
      refine (sl.unhide CO _ (sl.unhide H14)).mono ?_; rintro e w' ⟨rfl, hw⟩; have hw' := hw.symm; clear hw; subst hw'
      go_wp2_with fail
      go_ret
      exact ⟨by simp, sl.below_of (sl.grown_trans (r := none) (sl.unhide B0) (sl.unhide H14))⟩

/-! ### the row's step (the guide's own frame) -/
set_option maxRecDepth 100000 in
theorem lifted (os : Os) (started : os.Started) (H : Type) (enc : TypeId × Value → H) :
    ReturnsInHanded {} Try.checked os 5 .any (Rows.fnGatesSpec.pre6 enc Try.prog Try.f5 Rows.fnGatesRow.domain false) (Rows.fnGatesSpec.post enc Try.prog Try.f5 false true false false) := by
  refine returnsInHanded_of_change (C := Try.checked) own started (by kernel_rfl) Try.func5
    (ChangeSpec.witness6 (enc := enc) (C := Try.checked) false ⟨#[], #[.slice none 0 0], []⟩ 8 (by kernel_rfl) (by kernel_rfl) (by kernel_rfl) (by kernel_rfl)) ?_
  intro W base args ds gs before hval0 hW hcnd _
  have hval : ∀ (j : Nat) t v, Try.f5.params[j]? = some t → args[j]? = some v → Value.okWide Try.prog W .any base t v := hval0
  have hW' := hW
  obtain ⟨p, q, hA0, hV, rfl, hfz, hnd⟩ := hW
  have hA : DataW.TrodAll enc Try.prog W 0 (fun _ => true) true Try.f5.params.toList args.toList ds p := hA0
  rw [Try.params5] at hA hval
  obtain ⟨v0, vs0, d0, ds0, p0, q0, hargs, rfl, rfl, h0, r0⟩ := trodAll_cons hA
  obtain ⟨rfl, rfl, rfl⟩ := trodAll_nil r0
  obtain rfl : args = #[v0] := by cases args; simp_all
  obtain ⟨rfl, rfl⟩ := trodVars_none hV
  obtain ⟨a0, len0, cap0, rfl⟩ := okWide_slice Try.underlying22 (hval 0 22 v0 rfl rfl)
  have k0 := h0
  have lt0 : ∀ x ∈ p0, x.block < W.heap.size := by obtain ⟨m, hm⟩ := k0; exact DataW.trod_lt m _ _ _ hm
  obtain ⟨z0, w0⟩ : ∃ zs, IsRow .u8 W a0 len0 cap0 zs := by
    obtain ⟨fuel, hf⟩ := h0
    rcases open_ints Try.underlying22 Try.underlying5 (by kernel_rfl) hf with ⟨hcs, _⟩ | ⟨x, l, c, zs, hcs, _, hl, hm, hz, _, hcell, hwz⟩
    · simp [Value.cells] at hcs
      obtain ⟨rfl, rfl, rfl⟩ := hcs
      exact ⟨[], .inl ⟨rfl, rfl, rfl, rfl⟩⟩
    · simp [Value.cells] at hcs
      obtain ⟨rfl, rfl, rfl⟩ := hcs
      exact ⟨zs, .inr ⟨_, rfl, hl, hm, by simpa using hz, hcell, hwz⟩⟩
  clear hA0 hval0
  refine (walk a0 len0 cap0 z0 W w0).mono fun e W' ⟨he, bel⟩ => ?_
  subst he
  exact ⟨_, rfl, _, _, _, [], _, [], hW', trodAll_mk1 (shut_bool Try.underlying4 _), (trodAll_cons_mk (Below.trod laidOut (by kernel_rfl) (of_decide_eq_true (by kernel_rfl)) k0 bel lt0) trodAll_mk0), rfl, bel.frame _, fun h => by cases h⟩

theorem over : Rows.fnGatesRow.holds Try.pinned (OpenSpec.ofChange Rows.fnGatesSpec) :=
  OpenClaim.holds_of_wide 5 Try.f5 rfl rfl rfl rfl rfl rfl rfl ⟨rfl, rfl, rfl, rfl, rfl⟩ rfl rfl rfl rfl rfl (by kernel_rfl) Try.func5 (by kernel_rfl)
    (of_decide_eq_true (by kernel_rfl)) (by unfold Func.isWrapper; first | (rw [if_pos (by decide +kernel)]; kernel_rfl) | (rw [if_neg (by decide +kernel)]; exact ⟨rfl, rfl⟩))
    (fun os started H enc _ => lifted os started H enc)

/-- the statement -/
theorem proved : Rows.FnGatesSaid := over
#print axioms proved
end Go.Proofs.Ytmmfhcfanbfniaa.fnGates
