/- A clause in order has each of its literals once, is true where it was, and stays as it is when it is put in order again (the law FnSort returns true at every code); no condition. -/
import Derived.Test.YtgmbahbdepllnaaDoorCards
import Derived.Test.YtgmbahbdepllnaaDoorTie
import Derived.Test.YtgmbahbdepllnaaDoorHa
import Derived.Test.YtgmbahbdepllnaaDoorDCl
import Derived.Test.YtgmbahbdepllnaaDoorDVa
import Derived.WalkKit
import Derived.ProofKit
import Derived.OpenShut
import Derived.ShutString
import Derived.ChangeOld
import Derived.Below
import Derived.Deep.DeepHandedRow
import Derived.Lib.LaidTab
import Derived.Lib.TrailingZeros
import Derived.Stop.LaidErr
import Derived.Stop.LaidTwo
import Derived.LaidHandle
import Derived.LaidSub
namespace Go.Proofs.YtgmbahbdepllnaaDoor.fnSort
open Go.ChangeShapes Go.WideShapes Go.ChangeAt Go.RowKit
open Go.ChangeMaps (open_string shut_string)
set_option linter.unusedVariables false

theorem own : ownKnob Tryd.prog.godebug = none := by kernel_rfl
theorem laidOut : laidOutB Tryd.prog = true := by kernel_rfl

/-- what the walk is told of a slice of integers that came in -/
def IsRow (k : IntKind) (w : World) (a : Option Addr) (len cap : Nat) (zs : List Int) : Prop :=
  (a = none ∧ len = 0 ∧ cap = 0 ∧ zs = []) ∨
  ∃ x, a = some x ∧ len ≤ cap ∧ cap ≤ maxLen ∧ zs.length = cap ∧ (∀ i, i < zs.length → w.cell? (x.add i) = some (.int k (zs.getD i 0))) ∧ ∀ n ∈ zs, (Lit.int k n).wf = true

theorem gTab : Tryd.prog.globalNamed "math/bits.deBruijn64tab" = some 0 := by kernel_rfl
theorem gTabType : (Tryd.prog.globals[0]?).map (·.type) = some 82 := by kernel_rfl
theorem cellsTab : Tryd.prog.cellsOf 82 = 64 := by kernel_rfl
theorem cellsByte : Tryd.prog.cellsOf 5 = 1 := by kernel_rfl
/-- what the row's list gives: the table's cells hold its numbers -/
theorem table {W : World} (h : laidMetH Tryd.prog Rows.fnSortRow.laid W) : srt.Tab W := by
  have t : Lib.TabIs Tryd.prog W "math/bits.deBruijn64tab" .u8 (Lib.deBruijn64tab.map fun (n : Nat) => (n : Int)) :=
    Lib.tabIs_of_head (rest := []) gTab gTabType Tryd.underlying82 Tryd.underlying5 cellsByte cellsTab h
  intro j hj
  have c := t.cell gTab j (by rw [List.length_map]; exact hj)
  rw [c]
  congr 2
  rw [List.getD, List.getD, List.getElem?_map]
  cases Lib.deBruijn64tab[j]? <;> rfl

/-! ### the walk -/
theorem walk (a0 : Option Addr) (len0 cap0 : Nat) (z0 : List Int) (w : World) (w0 : IsRow .u8 w a0 len0 cap0 z0) (hT : srt.Tab w) :
    Calls Tryd.prog 3 #[.slice a0 len0 cap0] w fun e w' => e = .returned (.bool true) ∧ Below w.heap.size w w' := by
  have hB := draw.of_rowB w0
  have hm : len0 ≤ 9223372036854775807 := by
    rcases w0 with ⟨_, h, _, _⟩ | ⟨_, _, h1, h2, _⟩
    · omega
    · unfold maxLen at h2
      omega
  clear w0
  by_cases hbig : 1048576 < len0
  · have C := sl.hide (draw.big a0 len0 cap0 w hm)
    rw [decide_eq_true hbig] at C
    clear hT
    go_enter Tryd.func3, Tryd.ntmps3
    go_wp2_with fail
    refine (sl.unhide C).mono ?_; rintro e w' ⟨rfl, rfl⟩
    go_wp2_with fail
    go_ret
    exact ⟨rfl, Below.refl _ _⟩
  · have C := sl.hide (draw.big a0 len0 cap0 w hm)
    rw [decide_eq_false hbig] at C
    have HB := sl.hide hB
    have TT := sl.hide hT
    clear hB hT
    go_enter Tryd.func3, Tryd.ntmps3
    go_wp2_with fail
    refine (sl.unhide C).mono ?_; rintro e w1 ⟨rfl, hw⟩; have hw' := hw.symm; clear hw; subst hw'
    go_wp2_with fail
    refine (ha.drawClauseSort a0 len0 cap0 _ (by omega) (sl.unhide HB)).mono ?_; rintro e w1 ⟨v, L, rfl, hL, hm1⟩
    have G1 := sl.hide hm1.2
    have S1 := sl.hide (sl.Sl.of_own hm1.1)
    obtain ⟨va, vc, rfl, _⟩ := sl.Sl.of_own hm1.1
    clear hm1 C hm
    have hL1 : L.length ≤ 1048576 := by omega
    go_wp2_with fail
    refine (srt.implClauseSort _ L _ ((sl.unhide TT).kept (sl.unhide G1)) hL1 (sl.unhide S1)).mono ?_; rintro e w2 ⟨u, rfl, hm2⟩
    have G2 := sl.hide (sl.grown_trans (r := none) (sl.unhide G1) hm2.2)
    have S2 := sl.hide ((sl.unhide S1).kept hm2.2 (.inl rfl))
    have U2 := sl.hide (sl.Sl.of_own hm2.1)
    obtain ⟨ua, uc, rfl, _⟩ := sl.Sl.of_own hm2.1
    clear hm2 S1 G1
    go_wp2_with fail
    refine (cls.specClauseOk _ L _ hL1 (sl.unhide S2)).mono ?_; rintro e w3 ⟨rfl, hw⟩; have hw' := hw.symm; clear hw; subst hw'
    cases hok : cls.okAll L
    · have e1 : srt.sortL L = [] := by unfold srt.sortL; rw [hok]; rfl
      have e2 : srt.sortB L = false := by unfold srt.sortB; rw [hok]; rfl
      have CO := sl.hide (cls.implClauseOk _ L w2 hL1 (sl.unhide S2))
      rw [hok] at CO
      rw [e1, e2]
      clear e1 e2 hok U2
      go_wp2_with fail
      refine (sl.unhide CO).mono ?_; rintro e w4 ⟨rfl, hw⟩; have hw' := hw.symm; clear hw; subst hw'
      go_wp2_with fail
      go_ret
      exact ⟨rfl, sl.below_of (sl.unhide G2)⟩
    · obtain ⟨t1, t2, t3, t4, t5, t6, t7, t8, t9⟩ := ha.told hok
      have U3 := sl.unhide U2
      rw [t1] at U3
      rw [t1, t2]
      have hsl := srt.srt_len (bset.setOf L) 48
      have SB := sl.hide (fun k h => ha.srt_bef (bset.setOf L) k h)
      generalize hS : srt.srt (bset.setOf L) 48 = S at *
      generalize hO : srt.okTo (bset.setOf L) 24 = ob at *
      have U4 := sl.hide U3
      have hS1 : S.length ≤ 1048576 := by omega
      have T3 := sl.hide t3
      have T4 := sl.hide t4
      have T5 := sl.hide t5
      have T6 := sl.hide t6
      have T7 := sl.hide t7
      have T8 := sl.hide t8
      have T9 := sl.hide t9
      obtain ⟨ua', uc', eu, hcells⟩ := U3
      cases eu
      have HC := sl.hide hcells
      clear t1 t2 t3 t4 t5 t6 t7 t8 t9 hS hO hok U2 hcells
      go_wp2_with fail
      go_loopw [6] (fun i wr => ∃ k : Nat, k ≤ 48 ∧ i = .int .i64 ((k : Int) + 1) ∧ Hid (w2.grownBy wr none)) (fun i _ => S.length + 1 - (intOf i).toNat)
      case atStart => exact ⟨0, by omega, rfl, sl.grown_refl _⟩
      case round =>
        obtain ⟨k, hk, rfl, hg⟩ := hrel
        by_cases hlt : k + 1 < S.length
        · rcases sl.unhide HC with h | ⟨b, off, rfl, hb, hcb⟩
          · rw [h] at hlt
            simp at hlt
          · have c1 := (sl.unhide hg).cell (hcb k (by omega)) (fun e => by cases e)
            have c2 := (sl.unhide hg).cell (hcb (k + 1) hlt) (fun e => by cases e)
            have hi' : (k : Int) + 1 < (S.length : Int) := by omega
            have hi2 : (k : Int) < (S.length : Int) := by omega
            have bf := sl.unhide SB k hlt
            generalize S.getD k 0 = x at *
            generalize S.getD (k + 1) 0 = y at *
            have LB := sl.hide (fun w1 => lits.implLitBefore x y w1)
            rw [bf] at LB
            clear hcb HC SB bf
            go_wp2_with fail
            go_quiet (first | (go_at_call 10; exact Calls.quiet_of_same (sl.unhide LB _)))
            go_wp2_with fail
            go_roundw
            case rel => exact ⟨k + 1, by omega, by go_num, sl.grown_trans (sl.unhide hg) (sl.grown_drewN _ _)⟩
            case measure => simp [intOf]; omega
        · have hi' : ¬ (k : Int) + 1 < (S.length : Int) := by omega
          have G3 := sl.hide (sl.grown_trans (r := none) (sl.unhide G2) (sl.unhide hg))
          have S3 := sl.hide ((sl.unhide S2).kept (sl.unhide hg) (.inl rfl))
          have U5 := sl.hide ((sl.unhide U4).kept (sl.unhide hg) (.inl rfl))
          clear HC SB hg S2 U4 G2
          go_wp2_with fail
          refine (srt.implClauseSort _ S _ ((sl.unhide TT).kept (sl.unhide G3)) hS1 (sl.unhide U5)).mono ?_; rintro e w4 ⟨q, rfl, hm4⟩
          have G4 := sl.hide (sl.grown_trans (r := none) (sl.unhide G3) hm4.2)
          have S4 := sl.hide ((sl.unhide S3).kept hm4.2 (.inl rfl))
          have U6 := sl.hide ((sl.unhide U5).kept hm4.2 (.inl rfl))
          have q4 := sl.Sl.of_own hm4.1
          rw [sl.unhide T3] at q4
          rw [sl.unhide T4]
          have Q4 := sl.hide q4
          obtain ⟨qa, qc, rfl, _⟩ := q4
          clear hm4 S3 U5 G3
          go_wp2_with fail
          refine (dva.values a0 len0 cap0 24 _ (by omega) (by decide) ((sl.unhide HB).below (sl.below_of (sl.unhide G4)))).mono ?_; rintro e w5 ⟨z, X, rfl, hX, hX2, hm5⟩
          have G5 := sl.hide (sl.grown_trans (r := none) (sl.unhide G4) hm5.2)
          have S5 := sl.hide ((sl.unhide S4).kept hm5.2 (.inl rfl))
          have U7 := sl.hide ((sl.unhide U6).kept hm5.2 (.inl rfl))
          have Q5 := sl.hide ((sl.unhide Q4).kept hm5.2 (.inl rfl))
          have Z5 := sl.hide (sl.Sl.of_own hm5.1)
          obtain ⟨za, zc, rfl, _⟩ := sl.Sl.of_own hm5.1
          have hX1 : X.length ≤ 1048576 := by omega
          clear hm5 S4 U6 G4 Q4 hX hX2
          have c1 := bset.implClauseSub _ _ S L w5 hS1 hL1 (sl.unhide U7) (sl.unhide S5)
          have c2 := bset.implClauseSub _ _ L S w5 hL1 hS1 (sl.unhide S5) (sl.unhide U7)
          rw [sl.unhide T5] at c1
          rw [sl.unhide T6] at c2
          have C1 := sl.hide c1
          have C2 := sl.hide c2
          have C3 := sl.hide (dcls.sameC _ _ S w5 hS1 (sl.unhide Q5) (sl.unhide U7))
          clear c1 c2
          go_wp2_with fail
          refine (sl.unhide C1).mono ?_; rintro e w6 ⟨rfl, hw⟩; have hw' := hw.symm; clear hw; subst hw'
          go_wp2_with fail
          refine (sl.unhide C2).mono ?_; rintro e w6 ⟨rfl, hw⟩; have hw' := hw.symm; clear hw; subst hw'
          go_wp2_with fail
          refine (sl.unhide C3).mono ?_; rintro e w6 ⟨rfl, g6⟩
          have G6 := sl.hide (sl.grown_trans (r := none) (sl.unhide G5) g6)
          have S6 := sl.hide ((sl.unhide S5).kept g6 (.inl rfl))
          have U8 := sl.hide ((sl.unhide U7).kept g6 (.inl rfl))
          have Z6 := sl.hide ((sl.unhide Z5).kept g6 (.inl rfl))
          clear g6 C1 C2 C3 S5 U7 Z5 Q5 G5
          have c4 := tr.implClauseTrue _ _ S X w6 hS1 hX1 (sl.unhide U8) (sl.unhide Z6)
          have c5 := tr.implClauseTrue _ _ L X w6 hL1 hX1 (sl.unhide S6) (sl.unhide Z6)
          have c6 := fc.implClash _ L w6 hL1 (sl.unhide S6)
          rw [sl.unhide T7 X] at c4
          rw [sl.unhide T9] at c6
          have t8 := sl.unhide T8 X
          cases ob
          · rw [t8 rfl] at c4 c5
            have C4 := sl.hide c4
            have C5 := sl.hide c5
            have C6 := sl.hide c6
            clear c4 c5 c6 t8 T7 T8 T9
            go_wp2_with fail
            refine (sl.unhide C4).mono ?_; rintro e w7 ⟨rfl, hw⟩; have hw' := hw.symm; clear hw; subst hw'
            go_wp2_with fail
            refine (sl.unhide C5).mono ?_; rintro e w7 ⟨rfl, hw⟩; have hw' := hw.symm; clear hw; subst hw'
            go_wp2_with fail
            refine (sl.unhide C5).mono ?_; rintro e w7 ⟨rfl, hw⟩; have hw' := hw.symm; clear hw; subst hw'
            go_wp2_with fail
            refine (sl.unhide C6).mono ?_; rintro e w7 ⟨rfl, hw⟩; have hw' := hw.symm; clear hw; subst hw'
            go_wp2_with fail
            go_ret
            exact ⟨rfl, sl.below_of (sl.unhide G6)⟩
          · generalize tr.clT X L = cb at *
            have C4 := sl.hide c4
            have C5 := sl.hide c5
            have C6 := sl.hide c6
            have ee : (cb == cb) = true := by cases cb <;> rfl
            clear c4 c5 c6 t8 T7 T8 T9
            go_wp2_with fail
            refine (sl.unhide C4).mono ?_; rintro e w7 ⟨rfl, hw⟩; have hw' := hw.symm; clear hw; subst hw'
            go_wp2_with fail
            refine (sl.unhide C5).mono ?_; rintro e w7 ⟨rfl, hw⟩; have hw' := hw.symm; clear hw; subst hw'
            go_wp2_with fail
            refine (sl.unhide C6).mono ?_; rintro e w7 ⟨rfl, hw⟩; have hw' := hw.symm; clear hw; subst hw'
            go_wp2_with fail
            go_ret
            exact ⟨rfl, sl.below_of (sl.unhide G6)⟩

/-! ### the row's step (the guide's own frame) -/
set_option maxRecDepth 100000 in
theorem contract (H : Type) (enc : TypeId × Value → H) (W : World) (base : Nat) (args : Array Value) (ds gs : List (DataW H)) (before : List MemPlace)
    (hval : ∀ (j : Nat) t v, Tryd.f3.params[j]? = some t → args[j]? = some v → Value.okWide Tryd.prog W .any base t v)
    (hW : DataW.Whole enc Tryd.prog Tryd.f3.params.toList Rows.fnSortSpec.vars false W args.toList ds gs before) (hL : laidMetH Tryd.prog Rows.fnSortRow.laid W) :
    Calls Tryd.prog 3 args W fun e W' => ∃ v, e = .returned v ∧ Rows.fnSortSpec.post enc Tryd.prog Tryd.f3 false true false false W args v W' := by
  have hW' := hW
  obtain ⟨p, q, hA0, hV, rfl, hfz, hnd⟩ := hW
  have hA : DataW.TrodAll enc Tryd.prog W 0 (fun _ => true) true Tryd.f3.params.toList args.toList ds p := hA0
  rw [Tryd.params3] at hA hval
  obtain ⟨v0, vs0, d0, ds0, p0, q0, hargs, rfl, rfl, h0, r0⟩ := trodAll_cons hA
  obtain ⟨rfl, rfl, rfl⟩ := trodAll_nil r0
  obtain rfl : args = #[v0] := by cases args; simp_all
  obtain ⟨rfl, rfl⟩ := trodVars_none hV
  obtain ⟨a0, len0, cap0, rfl⟩ := okWide_slice Tryd.underlying22 (hval 0 22 v0 rfl rfl)
  have k0 := h0
  have lt0 : ∀ x ∈ p0, x.block < W.heap.size := by obtain ⟨m, hm⟩ := k0; exact DataW.trod_lt m _ _ _ hm
  obtain ⟨z0, w0⟩ : ∃ zs, IsRow .u8 W a0 len0 cap0 zs := by
    obtain ⟨fuel, hf⟩ := h0
    rcases open_ints Tryd.underlying22 Tryd.underlying5 (by kernel_rfl) hf with ⟨hcs, _⟩ | ⟨x, l, c, zs, hcs, _, hl, hm, hz, _, hcell, hwz⟩
    · simp [Value.cells] at hcs
      obtain ⟨rfl, rfl, rfl⟩ := hcs
      exact ⟨[], .inl ⟨rfl, rfl, rfl, rfl⟩⟩
    · simp [Value.cells] at hcs
      obtain ⟨rfl, rfl, rfl⟩ := hcs
      exact ⟨zs, .inr ⟨_, rfl, hl, hm, by simpa using hz, hcell, hwz⟩⟩
  clear hA0
  refine (walk a0 len0 cap0 z0 W w0 (table hL)).mono fun e W' ⟨he, bel⟩ => ?_
  subst he
  exact ⟨_, rfl, _, _, _, [], _, [], hW', trodAll_mk1 (shut_bool Tryd.underlying4 _), (trodAll_cons_mk (Below.trod laidOut (by kernel_rfl) (of_decide_eq_true (by kernel_rfl)) k0 bel lt0) trodAll_mk0), rfl, bel.frame _, fun h => by cases h⟩

set_option maxRecDepth 100000 in
theorem lifted (os : Os) (started : os.Started) (H : Type) (enc : TypeId × Value → H) (F : Stop.Interp) :
    ReturnsInHanded {} Tryd.checked os 3 .any ((OpenSpec.ofChange Rows.fnSortSpec).preRow enc Tryd.prog Tryd.f3 Rows.fnSortRow.domain false Rows.fnSortRow.laid) (((OpenSpec.ofChange Rows.fnSortSpec).at F).post enc Tryd.prog Tryd.f3 false true false false) := by
  refine returnsInHanded_of_row (C := Tryd.checked) (s := OpenSpec.ofChange Rows.fnSortSpec) own started (by kernel_rfl) Tryd.func3
    (witness_row_at (enc := enc) (C := Tryd.checked) false ({ World.holding Tryd.prog os ⟨#[], #[], []⟩ with heap := (World.holding Tryd.prog os ⟨#[], #[], []⟩).heap.modify 0 fun | .cells _ t frozen => .cells (Lib.deBruijn64tab.map fun (n : Nat) => Value.int .u8 n).toArray t frozen | o => o } : World) #[.slice none 0 0] rfl (by kernel_rfl) (by kernel_rfl) (by kernel_rfl)
      (OpenSpec.preRow_of_cond 8 (x := ([.nil], [], [])) (by kernel_rfl) (by kernel_rfl) (fun k hk => by cases hk) (by kernel_rfl) (laidMet_of_run' 8 (by kernel_rfl) (by kernel_rfl)))) ?_
  intro W base args ds gs before hval hW _ _ _ hL _ _
  exact contract H enc W base args ds gs before hval hW hL

theorem said : Rows.FnSortSaid :=
  OpenClaim.holds_of_cond 3 Tryd.f3 rfl rfl rfl rfl rfl rfl rfl ⟨rfl, rfl, rfl, rfl, rfl⟩ rfl rfl rfl rfl rfl (by kernel_rfl) Tryd.func3 (by kernel_rfl)
    (of_decide_eq_true (by kernel_rfl)) (by unfold Func.isWrapper; first | (rw [if_pos (by decide +kernel)]; kernel_rfl) | (rw [if_neg (by decide +kernel)]; exact ⟨rfl, rfl⟩))
    (fun os started H enc _ F => by rw [OpenClaim.pre_eq_preRow]; exact lifted os started H enc F)

theorem plain (f : FuncId) (fn : Func) (hf : Tryd.pinned.checked.prog.funcNamed "loop.example/g00123/laws.FnSort" = some f) (hfn : Tryd.pinned.checked.prog.funcs[f]? = some fn) :
    false = Tryd.pinned.checked.prog.looks [] ∧ ∀ (j : Nat) t, fn.params[j]? = some t → Tryd.pinned.checked.prog.wantsStandIn t = false := by
  obtain rfl : f = 3 := Option.some.inj ((show Tryd.prog.funcNamed "loop.example/g00123/laws.FnSort" = some 3 by kernel_rfl).symm.trans hf) |>.symm
  obtain rfl : fn = Tryd.f3 := (Option.some.inj (Tryd.func3.symm.trans hfn)).symm
  refine ⟨by kernel_rfl, fun j t ht => ?_⟩
  rw [Tryd.params3] at ht
  obtain rfl : t = 22 := by simpa using Array.mem_of_getElem? ht
  exact (show Tryd.prog.wantsStandIn 22 = false by kernel_rfl)

/-- the statement: the row's tied card -/
theorem proved : Rows.FnSortCardSaid :=
  Claim7.holds_tied_plain_at .later [] _ _ _ _ said (fun _ h => by cases h) (by kernel_rfl) (fun _ h => by cases h) fnSort_row_tie rfl ⟨rfl, rfl⟩ (by kernel_rfl) rfl plain (by kernel_rfl)
#print axioms proved
end Go.Proofs.YtgmbahbdepllnaaDoor.fnSort
