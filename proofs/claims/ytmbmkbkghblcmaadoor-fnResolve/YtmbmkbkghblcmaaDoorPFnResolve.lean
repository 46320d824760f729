/- For every code (a list of bytes) the law FnResolve answers true and leaves the code as it was: what two drawn clauses are resolved to is the model's answer, true wherever both are, without the variable, and made of their literals; the library's table of places starts as its text lays it (the card ties it). -/
import Derived.Test.YtmbmkbkghblcmaaDoorCards
import Derived.Test.YtmbmkbkghblcmaaDoorTie
import Derived.Test.YtmbmkbkghblcmaaDoorDRs
import Derived.WalkKit
import Derived.ProofKit
import Derived.OpenShut
import Derived.ShutString
import Derived.ChangeOld
import Derived.Below
import Derived.Deep.DeepHandedRow
import Derived.Lib.LaidTab
import Derived.Lib.TrailingZeros
import Derived.Stop.LaidErr
namespace Go.Proofs.YtmbmkbkghblcmaaDoor.fnResolve
open Go.ChangeShapes Go.WideShapes Go.ChangeAt Go.RowKit
open Go.ChangeMaps (open_string shut_string)
set_option linter.unusedVariables false

theorem own : ownKnob Tryd.prog.godebug = none := by kernel_rfl
theorem laidOut : laidOutB Tryd.prog = true := by kernel_rfl

/-- what the walk is told of a slice of integers that came in -/
def IsRow (k : IntKind) (w : World) (a : Option Addr) (len cap : Nat) (zs : List Int) : Prop :=
  (a = none ∧ len = 0 ∧ cap = 0 ∧ zs = []) ∨
  ∃ x, a = some x ∧ len ≤ cap ∧ cap ≤ maxLen ∧ zs.length = cap ∧ (∀ i, i < zs.length → w.cell? (x.add i) = some (.int k (zs.getD i 0))) ∧ ∀ n ∈ zs, (Lit.int k n).wf = true

theorem gTab : Tryd.prog.globalNamed "math/bits.deBruijn64tab" = some 0 := by kernel_rfl
theorem gTabType : (Tryd.prog.globals[0]?).map (·.type) = some 102 := by kernel_rfl
theorem cellsTab : Tryd.prog.cellsOf 102 = 64 := by kernel_rfl
theorem cellsByte : Tryd.prog.cellsOf 5 = 1 := by kernel_rfl
/-- what the row's list gives: the table's cells hold its numbers -/
theorem table {W : World} (h : laidMetH Tryd.prog Rows.fnResolveRow.laid W) : srt.Tab W := by
  have t : Lib.TabIs Tryd.prog W "math/bits.deBruijn64tab" .u8 (Lib.deBruijn64tab.map fun (n : Nat) => (n : Int)) :=
    Lib.tabIs_of_head (rest := []) gTab gTabType Tryd.underlying102 Tryd.underlying5 cellsByte cellsTab h
  intro j hj
  have c := t.cell gTab j (by rw [List.length_map]; exact hj)
  rw [c]
  congr 2
  rw [List.getD, List.getD, List.getElem?_map]
  cases Lib.deBruijn64tab[j]? <;> rfl

/-! ### the walk -/
set_option maxRecDepth 100000 in
set_option maxHeartbeats 8000000 in
theorem walk (a0 : Option Addr) (len0 cap0 : Nat) (z0 : List Int) (w : World) (w0 : IsRow .u8 w a0 len0 cap0 z0) (hT : srt.Tab w) :
    Calls Tryd.prog 3 #[.slice a0 len0 cap0] w fun e w' => e = .returned (.bool true) ∧ Below w.heap.size w w' := by
  have hB := draw.of_rowB w0
  have hm : len0 ≤ 9223372036854775807 := by
    rcases w0 with ⟨_, h, _, _⟩ | ⟨_, _, h1, h2, _⟩
    · omega
    · unfold maxLen at h2
      omega
  clear w0
  by_cases hbig : 1048576 < len0
  · have C := sl.hide (draw.big a0 len0 cap0 w hm)
    rw [decide_eq_true hbig] at C
    clear hT
    go_enter Tryd.func3, Tryd.ntmps3
    go_wp2_with fail
    refine (sl.unhide C).mono ?_; rintro e w' ⟨rfl, rfl⟩
    go_wp2_with fail
    go_ret
    exact ⟨rfl, Below.refl _ _⟩
  have C := sl.hide (draw.big a0 len0 cap0 w hm)
  rw [decide_eq_false hbig] at C
  have HB := sl.hide hB
  have TT := sl.hide hT
  have hlen : len0 ≤ 1048576 := by omega
  clear hB hT hbig
  go_enter Tryd.func3, Tryd.ntmps3
  go_wp2_with fail
  refine (sl.unhide C).mono ?_; rintro e w' ⟨rfl, rfl⟩
  clear C hm
  go_wp2_with fail
  refine (drs.drawResolve a0 len0 cap0 _ hlen (sl.unhide HB)).mono ?_; rintro e w1 ⟨va, vb, L, M, v, rfl, hL0, hM0, v0, v1, ⟨la, oa⟩, ⟨lb, ob⟩, g1⟩
  have sa := sl.Sl.of_own oa
  have sb := sl.Sl.of_own ob
  have hL : L.length ≤ 1048576 := by omega
  have hM : M.length ≤ 1048576 := by omega
  have G1 := sl.hide g1
  have SA1 := sl.hide sa
  have NA : Hid (L = [] → va = .slice none 0 0 ∨ ∃ ad c, va = .slice (some ad) 0 c) := fun e => drs.own_nil oa (by rw [e]; rfl)
  have NB : Hid (M = [] → vb = .slice none 0 0 ∨ ∃ ad c, vb = .slice (some ad) 0 c) := fun e => drs.own_nil ob (by rw [e]; rfl)
  clear oa ob
  have SB1 := sl.hide sb
  have ci := fun w (t : srt.Tab w) sa sb => res.implResolve va vb L M v w t hL hM sa sb
  have cs := fun w sa sb => res.specResolve va vb L M v w hL hM sa sb
  have hR0 := res.resL_len L M v
  have way := drs.ways L M v
  have tru := fun A h => drs.res_true (A := A) (L := L) (M := M) (v := v) h
  have sub := drs.res_sub (L := L) (M := M) (v := v)
  generalize res.resL L M v = R at *
  generalize res.resB L M v = B at *
  have CI := sl.hide ci
  have CS := sl.hide cs
  have WAY := sl.hide way
  have TRU := sl.hide tru
  have SUB := sl.hide sub
  have hR : R.length ≤ 1048576 := by omega
  clear g1 sa sb ci cs way tru sub
  go_wp2_with fail
  refine (sl.unhide CI w1 ((sl.unhide TT).kept (sl.unhide G1)) (sl.unhide SA1) (sl.unhide SB1)).mono ?_; rintro e w2 ⟨r, rfl, m2⟩
  obtain ⟨ra, rc, e2, _⟩ := sl.Sl.of_own m2.1
  subst e2
  have G2 := sl.hide (sl.grown_trans (r := none) (sl.unhide G1) m2.2)
  have SA2 := sl.hide ((sl.unhide SA1).kept m2.2 (.inl rfl))
  have SB2 := sl.hide ((sl.unhide SB1).kept m2.2 (.inl rfl))
  have SR2 := sl.hide (sl.Sl.of_own m2.1)
  clear m2 G1 SA1 SB1 CI
  go_wp2_with fail
  refine (sl.unhide CS w2 (sl.unhide SA2) (sl.unhide SB2)).mono ?_; rintro e w3 ⟨q, rfl, m3⟩
  obtain ⟨qa, qc, e3, _⟩ := sl.Sl.of_own m3.1
  subst e3
  have G3 := sl.hide (sl.grown_trans (r := none) (sl.unhide G2) m3.2)
  have SA3 := sl.hide ((sl.unhide SA2).kept m3.2 (.inl rfl))
  have SB3 := sl.hide ((sl.unhide SB2).kept m3.2 (.inl rfl))
  have SR3 := sl.hide ((sl.unhide SR2).kept m3.2 (.inl rfl))
  have SQ3 := sl.hide (sl.Sl.of_own m3.1)
  clear m3 G2 SA2 SB2 SR2 CS
  go_wp2_with fail
  refine (dcls.sameC _ _ R _ hR (sl.unhide SR3) (sl.unhide SQ3)).mono ?_; rintro e w4 ⟨rfl, g4⟩
  have G4 := sl.hide (sl.grown_trans (r := none) (sl.unhide G3) g4)
  have SA4 := sl.hide ((sl.unhide SA3).kept g4 (.inl rfl))
  have SB4 := sl.hide ((sl.unhide SB3).kept g4 (.inl rfl))
  have SR4 := sl.hide ((sl.unhide SR3).kept g4 (.inl rfl))
  clear g4 G3 SA3 SB3 SR3 SQ3
  by_cases hq : R.length = 0 ∧ B = false
  · obtain ⟨h0, rfl⟩ := hq
    have h0' : ((R.length : Int) == 0) = true := by rw [h0]; rfl
    clear WAY TRU SUB SA4 SB4 SR4
    go_wp2_with fail
    go_ret
    exact ⟨rfl, sl.below_of (sl.unhide G4)⟩
  have cc : res.canB L M v = true ∧ cls.okAll (res.both L M v) = true := by
    rcases sl.unhide WAY with ⟨h1, h2⟩ | h
    · exact (hq ⟨by rw [h1]; rfl, h2⟩).elim
    · exact h
  have TRU' := sl.hide (fun A => sl.unhide TRU A cc.1 cc.2)
  have SUB' := sl.hide (sl.unhide SUB cc.1 cc.2)
  have HW := sl.hide (drs.wo_has R v)
  clear WAY TRU SUB cc
  have two : (¬ R.length = 0) ∨ (R.length = 0 ∧ B = true) := by
    by_cases h : R.length = 0
    · refine .inr ⟨h, ?_⟩
      cases B
      · exact (hq ⟨h, rfl⟩).elim
      · rfl
    · exact .inl h
  rcases two with hz | ⟨hz, rfl⟩
  · have h0' : ((R.length : Int) == 0) = false := beq_eq_false_iff_ne.2 (by omega)
    clear hq hz
    go_wp2_with fail
    refine (drs.values a0 len0 cap0 24 _ hlen (by decide) ((sl.unhide HB).below (sl.below_of (sl.unhide G4)))).mono ?_; rintro e w5 ⟨x, X, rfl, hX, hbits, m5⟩
    obtain ⟨xa, xc, e5, _⟩ := sl.Sl.of_own m5.1
    subst e5
    have hX1 : X.length ≤ 1048576 := by omega
    clear hX
    have G5 := sl.hide (sl.grown_trans (r := none) (sl.unhide G4) m5.2)
    have SA5 := sl.hide ((sl.unhide SA4).kept m5.2 (.inl rfl))
    have SB5 := sl.hide ((sl.unhide SB4).kept m5.2 (.inl rfl))
    have SR5 := sl.hide ((sl.unhide SR4).kept m5.2 (.inl rfl))
    have SX5 := sl.hide (sl.Sl.of_own m5.1)
    have tL := tr.implClauseTrue va _ L X w5 hL hX1 (sl.unhide SA5) (sl.unhide SX5)
    have tM := tr.implClauseTrue vb _ M X w5 hM hX1 (sl.unhide SB5) (sl.unhide SX5)
    have tR := tr.implClauseTrue _ _ R X w5 hR hX1 (sl.unhide SR5) (sl.unhide SX5)
    have hT2 := sl.unhide TRU' X
    have CW := sl.hide (wo.implClauseWithout _ R v w5 hR (sl.unhide SR5))
    clear m5 hbits G4 SA4 SB4 SR4
    cases hl : tr.clT X L
    · rw [hl] at tL
      have TL := sl.hide tL
      clear tL tM tR hT2 hl
      go_wp2_with fail
      refine (sl.unhide TL).mono ?_; rintro e w' ⟨rfl, hw⟩; have hw' := hw.symm; clear hw; subst hw'
      clear TL
      go_wp2_with fail
      refine (sl.unhide CW).mono ?_; rintro e w6 ⟨y, rfl, o6, g6⟩
      have G6 := sl.hide (sl.grown_trans (r := none) (sl.unhide G5) g6)
      have SA6 := sl.hide ((sl.unhide SA5).kept g6 (.inl rfl))
      have SB6 := sl.hide ((sl.unhide SB5).kept g6 (.inl rfl))
      have SR6 := sl.hide ((sl.unhide SR5).kept g6 (.inl rfl))
      have ch := cls.implClauseHas y (wo.woL R v) v w6 (Nat.le_trans (wo.woL_le R v) hR) (sl.Sl.of_own o6)
      rw [sl.unhide HW] at ch
      have CH := sl.hide ch
      clear ch o6 g6 G5 SA5 SB5 SR5 SX5 CW
      go_wp2_with fail
      refine (sl.unhide CH).mono ?_; rintro e w7 ⟨rfl, hw⟩; have hw' := hw.symm; clear hw; subst hw'
      have m7 := srt.made_nil w6
      have SA7 := sl.hide ((sl.unhide SA6).kept m7.2 (.inl rfl))
      have M7 := sl.hide m7
      clear CH m7
      go_wp2_with (at_builtin; refine drs.guard_off (by rfl) ?_; refine drs.append2g (A := []) (sl.unhide M7).2 (sl.unhide M7).1 (sl.unhide SA7) (by simp; omega) rfl _ _ rfl rfl rfl (sl.unhide NA) ?_)
      intro y8 w8 m8 g8
      have M8 := sl.hide m8
      have SB8 := sl.hide ((sl.unhide SB6).kept m8.2 (.inl rfl))
      clear m8 g8 M7 SA7
      go_wp2_with (at_builtin; refine drs.guard_off (by rfl) ?_; refine drs.append2g (A := L) (sl.unhide M8).2 (sl.unhide M8).1 (sl.unhide SB8) (by omega) rfl _ _ rfl rfl rfl (sl.unhide NB) ?_)
      intro y9 w9 m9 g9
      have cu := bset.implClauseSub _ y9 R (L ++ M) w9 hR (by rw [List.length_append]; omega) ((sl.unhide SR6).kept m9.2 (.inl rfl)) (sl.Sl.of_own m9.1)
      rw [sl.unhide SUB'] at cu
      have CU := sl.hide cu
      have G9 := sl.hide (sl.grown_trans (r := none) (sl.unhide G6) m9.2)
      clear cu m9 g9 M8 SB8
      go_wp2_with fail
      refine (sl.unhide CU).mono ?_; rintro e w10 ⟨rfl, hw⟩; have hw' := hw.symm; clear hw; subst hw'
      go_wp2_with fail
      go_ret
      exact ⟨rfl, sl.below_of (sl.unhide G9)⟩
    · cases hk : tr.clT X M
      · rw [hl] at tL
        rw [hk] at tM
        have TL := sl.hide tL
        have TM := sl.hide tM
        clear tL tM tR hT2 hl hk
        go_wp2_with fail
        refine (sl.unhide TL).mono ?_; rintro e w' ⟨rfl, hw⟩; have hw' := hw.symm; clear hw; subst hw'
        go_wp2_with fail
        refine (sl.unhide TM).mono ?_; rintro e w' ⟨rfl, hw⟩; have hw' := hw.symm; clear hw; subst hw'
        clear TL TM
        go_wp2_with fail
        refine (sl.unhide CW).mono ?_; rintro e w6 ⟨y, rfl, o6, g6⟩
        have G6 := sl.hide (sl.grown_trans (r := none) (sl.unhide G5) g6)
        have SA6 := sl.hide ((sl.unhide SA5).kept g6 (.inl rfl))
        have SB6 := sl.hide ((sl.unhide SB5).kept g6 (.inl rfl))
        have SR6 := sl.hide ((sl.unhide SR5).kept g6 (.inl rfl))
        have ch := cls.implClauseHas y (wo.woL R v) v w6 (Nat.le_trans (wo.woL_le R v) hR) (sl.Sl.of_own o6)
        rw [sl.unhide HW] at ch
        have CH := sl.hide ch
        clear ch o6 g6 G5 SA5 SB5 SR5 SX5 CW
        go_wp2_with fail
        refine (sl.unhide CH).mono ?_; rintro e w7 ⟨rfl, hw⟩; have hw' := hw.symm; clear hw; subst hw'
        have m7 := srt.made_nil w6
        have SA7 := sl.hide ((sl.unhide SA6).kept m7.2 (.inl rfl))
        have M7 := sl.hide m7
        clear CH m7
        go_wp2_with (at_builtin; refine drs.guard_off (by rfl) ?_; refine drs.append2g (A := []) (sl.unhide M7).2 (sl.unhide M7).1 (sl.unhide SA7) (by simp; omega) rfl _ _ rfl rfl rfl (sl.unhide NA) ?_)
        intro y8 w8 m8 g8
        have M8 := sl.hide m8
        have SB8 := sl.hide ((sl.unhide SB6).kept m8.2 (.inl rfl))
        clear m8 g8 M7 SA7
        go_wp2_with (at_builtin; refine drs.guard_off (by rfl) ?_; refine drs.append2g (A := L) (sl.unhide M8).2 (sl.unhide M8).1 (sl.unhide SB8) (by omega) rfl _ _ rfl rfl rfl (sl.unhide NB) ?_)
        intro y9 w9 m9 g9
        have cu := bset.implClauseSub _ y9 R (L ++ M) w9 hR (by rw [List.length_append]; omega) ((sl.unhide SR6).kept m9.2 (.inl rfl)) (sl.Sl.of_own m9.1)
        rw [sl.unhide SUB'] at cu
        have CU := sl.hide cu
        have G9 := sl.hide (sl.grown_trans (r := none) (sl.unhide G6) m9.2)
        clear cu m9 g9 M8 SB8
        go_wp2_with fail
        refine (sl.unhide CU).mono ?_; rintro e w10 ⟨rfl, hw⟩; have hw' := hw.symm; clear hw; subst hw'
        go_wp2_with fail
        go_ret
        exact ⟨rfl, sl.below_of (sl.unhide G9)⟩
      · rw [hT2 hl hk] at tR
        rw [hl] at tL
        rw [hk] at tM
        have TL := sl.hide tL
        have TM := sl.hide tM
        have TR := sl.hide tR
        clear tL tM tR hT2 hl hk
        go_wp2_with fail
        refine (sl.unhide TL).mono ?_; rintro e w' ⟨rfl, hw⟩; have hw' := hw.symm; clear hw; subst hw'
        go_wp2_with fail
        refine (sl.unhide TM).mono ?_; rintro e w' ⟨rfl, hw⟩; have hw' := hw.symm; clear hw; subst hw'
        go_wp2_with fail
        refine (sl.unhide TR).mono ?_; rintro e w' ⟨rfl, hw⟩; have hw' := hw.symm; clear hw; subst hw'
        clear TL TM TR
        go_wp2_with fail
        refine (sl.unhide CW).mono ?_; rintro e w6 ⟨y, rfl, o6, g6⟩
        have G6 := sl.hide (sl.grown_trans (r := none) (sl.unhide G5) g6)
        have SA6 := sl.hide ((sl.unhide SA5).kept g6 (.inl rfl))
        have SB6 := sl.hide ((sl.unhide SB5).kept g6 (.inl rfl))
        have SR6 := sl.hide ((sl.unhide SR5).kept g6 (.inl rfl))
        have ch := cls.implClauseHas y (wo.woL R v) v w6 (Nat.le_trans (wo.woL_le R v) hR) (sl.Sl.of_own o6)
        rw [sl.unhide HW] at ch
        have CH := sl.hide ch
        clear ch o6 g6 G5 SA5 SB5 SR5 SX5 CW
        go_wp2_with fail
        refine (sl.unhide CH).mono ?_; rintro e w7 ⟨rfl, hw⟩; have hw' := hw.symm; clear hw; subst hw'
        have m7 := srt.made_nil w6
        have SA7 := sl.hide ((sl.unhide SA6).kept m7.2 (.inl rfl))
        have M7 := sl.hide m7
        clear CH m7
        go_wp2_with (at_builtin; refine drs.guard_off (by rfl) ?_; refine drs.append2g (A := []) (sl.unhide M7).2 (sl.unhide M7).1 (sl.unhide SA7) (by simp; omega) rfl _ _ rfl rfl rfl (sl.unhide NA) ?_)
        intro y8 w8 m8 g8
        have M8 := sl.hide m8
        have SB8 := sl.hide ((sl.unhide SB6).kept m8.2 (.inl rfl))
        clear m8 g8 M7 SA7
        go_wp2_with (at_builtin; refine drs.guard_off (by rfl) ?_; refine drs.append2g (A := L) (sl.unhide M8).2 (sl.unhide M8).1 (sl.unhide SB8) (by omega) rfl _ _ rfl rfl rfl (sl.unhide NB) ?_)
        intro y9 w9 m9 g9
        have cu := bset.implClauseSub _ y9 R (L ++ M) w9 hR (by rw [List.length_append]; omega) ((sl.unhide SR6).kept m9.2 (.inl rfl)) (sl.Sl.of_own m9.1)
        rw [sl.unhide SUB'] at cu
        have CU := sl.hide cu
        have G9 := sl.hide (sl.grown_trans (r := none) (sl.unhide G6) m9.2)
        clear cu m9 g9 M8 SB8
        go_wp2_with fail
        refine (sl.unhide CU).mono ?_; rintro e w10 ⟨rfl, hw⟩; have hw' := hw.symm; clear hw; subst hw'
        go_wp2_with fail
        go_ret
        exact ⟨rfl, sl.below_of (sl.unhide G9)⟩
  · have h0' : ((R.length : Int) == 0) = true := by rw [hz]; rfl
    clear hq hz
    go_wp2_with fail
    refine (drs.values a0 len0 cap0 24 _ hlen (by decide) ((sl.unhide HB).below (sl.below_of (sl.unhide G4)))).mono ?_; rintro e w5 ⟨x, X, rfl, hX, hbits, m5⟩
    obtain ⟨xa, xc, e5, _⟩ := sl.Sl.of_own m5.1
    subst e5
    have hX1 : X.length ≤ 1048576 := by omega
    clear hX
    have G5 := sl.hide (sl.grown_trans (r := none) (sl.unhide G4) m5.2)
    have SA5 := sl.hide ((sl.unhide SA4).kept m5.2 (.inl rfl))
    have SB5 := sl.hide ((sl.unhide SB4).kept m5.2 (.inl rfl))
    have SR5 := sl.hide ((sl.unhide SR4).kept m5.2 (.inl rfl))
    have SX5 := sl.hide (sl.Sl.of_own m5.1)
    have tL := tr.implClauseTrue va _ L X w5 hL hX1 (sl.unhide SA5) (sl.unhide SX5)
    have tM := tr.implClauseTrue vb _ M X w5 hM hX1 (sl.unhide SB5) (sl.unhide SX5)
    have tR := tr.implClauseTrue _ _ R X w5 hR hX1 (sl.unhide SR5) (sl.unhide SX5)
    have hT2 := sl.unhide TRU' X
    have CW := sl.hide (wo.implClauseWithout _ R v w5 hR (sl.unhide SR5))
    clear m5 hbits G4 SA4 SB4 SR4
    cases hl : tr.clT X L
    · rw [hl] at tL
      have TL := sl.hide tL
      clear tL tM tR hT2 hl
      go_wp2_with fail
      refine (sl.unhide TL).mono ?_; rintro e w' ⟨rfl, hw⟩; have hw' := hw.symm; clear hw; subst hw'
      clear TL
      go_wp2_with fail
      refine (sl.unhide CW).mono ?_; rintro e w6 ⟨y, rfl, o6, g6⟩
      have G6 := sl.hide (sl.grown_trans (r := none) (sl.unhide G5) g6)
      have SA6 := sl.hide ((sl.unhide SA5).kept g6 (.inl rfl))
      have SB6 := sl.hide ((sl.unhide SB5).kept g6 (.inl rfl))
      have SR6 := sl.hide ((sl.unhide SR5).kept g6 (.inl rfl))
      have ch := cls.implClauseHas y (wo.woL R v) v w6 (Nat.le_trans (wo.woL_le R v) hR) (sl.Sl.of_own o6)
      rw [sl.unhide HW] at ch
      have CH := sl.hide ch
      clear ch o6 g6 G5 SA5 SB5 SR5 SX5 CW
      go_wp2_with fail
      refine (sl.unhide CH).mono ?_; rintro e w7 ⟨rfl, hw⟩; have hw' := hw.symm; clear hw; subst hw'
      have m7 := srt.made_nil w6
      have SA7 := sl.hide ((sl.unhide SA6).kept m7.2 (.inl rfl))
      have M7 := sl.hide m7
      clear CH m7
      go_wp2_with (at_builtin; refine drs.guard_off (by rfl) ?_; refine drs.append2g (A := []) (sl.unhide M7).2 (sl.unhide M7).1 (sl.unhide SA7) (by simp; omega) rfl _ _ rfl rfl rfl (sl.unhide NA) ?_)
      intro y8 w8 m8 g8
      have M8 := sl.hide m8
      have SB8 := sl.hide ((sl.unhide SB6).kept m8.2 (.inl rfl))
      clear m8 g8 M7 SA7
      go_wp2_with (at_builtin; refine drs.guard_off (by rfl) ?_; refine drs.append2g (A := L) (sl.unhide M8).2 (sl.unhide M8).1 (sl.unhide SB8) (by omega) rfl _ _ rfl rfl rfl (sl.unhide NB) ?_)
      intro y9 w9 m9 g9
      have cu := bset.implClauseSub _ y9 R (L ++ M) w9 hR (by rw [List.length_append]; omega) ((sl.unhide SR6).kept m9.2 (.inl rfl)) (sl.Sl.of_own m9.1)
      rw [sl.unhide SUB'] at cu
      have CU := sl.hide cu
      have G9 := sl.hide (sl.grown_trans (r := none) (sl.unhide G6) m9.2)
      clear cu m9 g9 M8 SB8
      go_wp2_with fail
      refine (sl.unhide CU).mono ?_; rintro e w10 ⟨rfl, hw⟩; have hw' := hw.symm; clear hw; subst hw'
      go_wp2_with fail
      go_ret
      exact ⟨rfl, sl.below_of (sl.unhide G9)⟩
    · cases hk : tr.clT X M
      · rw [hl] at tL
        rw [hk] at tM
        have TL := sl.hide tL
        have TM := sl.hide tM
        clear tL tM tR hT2 hl hk
        go_wp2_with fail
        refine (sl.unhide TL).mono ?_; rintro e w' ⟨rfl, hw⟩; have hw' := hw.symm; clear hw; subst hw'
        go_wp2_with fail
        refine (sl.unhide TM).mono ?_; rintro e w' ⟨rfl, hw⟩; have hw' := hw.symm; clear hw; subst hw'
        clear TL TM
        go_wp2_with fail
        refine (sl.unhide CW).mono ?_; rintro e w6 ⟨y, rfl, o6, g6⟩
        have G6 := sl.hide (sl.grown_trans (r := none) (sl.unhide G5) g6)
        have SA6 := sl.hide ((sl.unhide SA5).kept g6 (.inl rfl))
        have SB6 := sl.hide ((sl.unhide SB5).kept g6 (.inl rfl))
        have SR6 := sl.hide ((sl.unhide SR5).kept g6 (.inl rfl))
        have ch := cls.implClauseHas y (wo.woL R v) v w6 (Nat.le_trans (wo.woL_le R v) hR) (sl.Sl.of_own o6)
        rw [sl.unhide HW] at ch
        have CH := sl.hide ch
        clear ch o6 g6 G5 SA5 SB5 SR5 SX5 CW
        go_wp2_with fail
        refine (sl.unhide CH).mono ?_; rintro e w7 ⟨rfl, hw⟩; have hw' := hw.symm; clear hw; subst hw'
        have m7 := srt.made_nil w6
        have SA7 := sl.hide ((sl.unhide SA6).kept m7.2 (.inl rfl))
        have M7 := sl.hide m7
        clear CH m7
        go_wp2_with (at_builtin; refine drs.guard_off (by rfl) ?_; refine drs.append2g (A := []) (sl.unhide M7).2 (sl.unhide M7).1 (sl.unhide SA7) (by simp; omega) rfl _ _ rfl rfl rfl (sl.unhide NA) ?_)
        intro y8 w8 m8 g8
        have M8 := sl.hide m8
        have SB8 := sl.hide ((sl.unhide SB6).kept m8.2 (.inl rfl))
        clear m8 g8 M7 SA7
        go_wp2_with (at_builtin; refine drs.guard_off (by rfl) ?_; refine drs.append2g (A := L) (sl.unhide M8).2 (sl.unhide M8).1 (sl.unhide SB8) (by omega) rfl _ _ rfl rfl rfl (sl.unhide NB) ?_)
        intro y9 w9 m9 g9
        have cu := bset.implClauseSub _ y9 R (L ++ M) w9 hR (by rw [List.length_append]; omega) ((sl.unhide SR6).kept m9.2 (.inl rfl)) (sl.Sl.of_own m9.1)
        rw [sl.unhide SUB'] at cu
        have CU := sl.hide cu
        have G9 := sl.hide (sl.grown_trans (r := none) (sl.unhide G6) m9.2)
        clear cu m9 g9 M8 SB8
        go_wp2_with fail
        refine (sl.unhide CU).mono ?_; rintro e w10 ⟨rfl, hw⟩; have hw' := hw.symm; clear hw; subst hw'
        go_wp2_with fail
        go_ret
        exact ⟨rfl, sl.below_of (sl.unhide G9)⟩
      · rw [hT2 hl hk] at tR
        rw [hl] at tL
        rw [hk] at tM
        have TL := sl.hide tL
        have TM := sl.hide tM
        have TR := sl.hide tR
        clear tL tM tR hT2 hl hk
        go_wp2_with fail
        refine (sl.unhide TL).mono ?_; rintro e w' ⟨rfl, hw⟩; have hw' := hw.symm; clear hw; subst hw'
        go_wp2_with fail
        refine (sl.unhide TM).mono ?_; rintro e w' ⟨rfl, hw⟩; have hw' := hw.symm; clear hw; subst hw'
        go_wp2_with fail
        refine (sl.unhide TR).mono ?_; rintro e w' ⟨rfl, hw⟩; have hw' := hw.symm; clear hw; subst hw'
        clear TL TM TR
        go_wp2_with fail
        refine (sl.unhide CW).mono ?_; rintro e w6 ⟨y, rfl, o6, g6⟩
        have G6 := sl.hide (sl.grown_trans (r := none) (sl.unhide G5) g6)
        have SA6 := sl.hide ((sl.unhide SA5).kept g6 (.inl rfl))
        have SB6 := sl.hide ((sl.unhide SB5).kept g6 (.inl rfl))
        have SR6 := sl.hide ((sl.unhide SR5).kept g6 (.inl rfl))
        have ch := cls.implClauseHas y (wo.woL R v) v w6 (Nat.le_trans (wo.woL_le R v) hR) (sl.Sl.of_own o6)
        rw [sl.unhide HW] at ch
        have CH := sl.hide ch
        clear ch o6 g6 G5 SA5 SB5 SR5 SX5 CW
        go_wp2_with fail
        refine (sl.unhide CH).mono ?_; rintro e w7 ⟨rfl, hw⟩; have hw' := hw.symm; clear hw; subst hw'
        have m7 := srt.made_nil w6
        have SA7 := sl.hide ((sl.unhide SA6).kept m7.2 (.inl rfl))
        have M7 := sl.hide m7
        clear CH m7
        go_wp2_with (at_builtin; refine drs.guard_off (by rfl) ?_; refine drs.append2g (A := []) (sl.unhide M7).2 (sl.unhide M7).1 (sl.unhide SA7) (by simp; omega) rfl _ _ rfl rfl rfl (sl.unhide NA) ?_)
        intro y8 w8 m8 g8
        have M8 := sl.hide m8
        have SB8 := sl.hide ((sl.unhide SB6).kept m8.2 (.inl rfl))
        clear m8 g8 M7 SA7
        go_wp2_with (at_builtin; refine drs.guard_off (by rfl) ?_; refine drs.append2g (A := L) (sl.unhide M8).2 (sl.unhide M8).1 (sl.unhide SB8) (by omega) rfl _ _ rfl rfl rfl (sl.unhide NB) ?_)
        intro y9 w9 m9 g9
        have cu := bset.implClauseSub _ y9 R (L ++ M) w9 hR (by rw [List.length_append]; omega) ((sl.unhide SR6).kept m9.2 (.inl rfl)) (sl.Sl.of_own m9.1)
        rw [sl.unhide SUB'] at cu
        have CU := sl.hide cu
        have G9 := sl.hide (sl.grown_trans (r := none) (sl.unhide G6) m9.2)
        clear cu m9 g9 M8 SB8
        go_wp2_with fail
        refine (sl.unhide CU).mono ?_; rintro e w10 ⟨rfl, hw⟩; have hw' := hw.symm; clear hw; subst hw'
        go_wp2_with fail
        go_ret
        exact ⟨rfl, sl.below_of (sl.unhide G9)⟩

/-! ### the row's step (the guide's own frame) -/
set_option maxRecDepth 100000 in
theorem contract (H : Type) (enc : TypeId × Value → H) (W : World) (base : Nat) (args : Array Value) (ds gs : List (DataW H)) (before : List MemPlace)
    (hval : ∀ (j : Nat) t v, Tryd.f3.params[j]? = some t → args[j]? = some v → Value.okWide Tryd.prog W .any base t v)
    (hW : DataW.Whole enc Tryd.prog Tryd.f3.params.toList Rows.fnResolveSpec.vars false W args.toList ds gs before) (hL : laidMetH Tryd.prog Rows.fnResolveRow.laid W) :
    Calls Tryd.prog 3 args W fun e W' => ∃ v, e = .returned v ∧ Rows.fnResolveSpec.post enc Tryd.prog Tryd.f3 false true false false W args v W' := by
  have hW' := hW
  obtain ⟨p, q, hA0, hV, rfl, hfz, hnd⟩ := hW
  have hA : DataW.TrodAll enc Tryd.prog W 0 (fun _ => true) true Tryd.f3.params.toList args.toList ds p := hA0
  rw [Tryd.params3] at hA hval
  obtain ⟨v0, vs0, d0, ds0, p0, q0, hargs, rfl, rfl, h0, r0⟩ := trodAll_cons hA
  obtain ⟨rfl, rfl, rfl⟩ := trodAll_nil r0
  obtain rfl : args = #[v0] := by cases args; simp_all
  obtain ⟨rfl, rfl⟩ := trodVars_none hV
  obtain ⟨a0, len0, cap0, rfl⟩ := okWide_slice Tryd.underlying22 (hval 0 22 v0 rfl rfl)
  have k0 := h0
  have lt0 : ∀ x ∈ p0, x.block < W.heap.size := by obtain ⟨m, hm⟩ := k0; exact DataW.trod_lt m _ _ _ hm
  obtain ⟨z0, w0⟩ : ∃ zs, IsRow .u8 W a0 len0 cap0 zs := by
    obtain ⟨fuel, hf⟩ := h0
    rcases open_ints Tryd.underlying22 Tryd.underlying5 (by kernel_rfl) hf with ⟨hcs, _⟩ | ⟨x, l, c, zs, hcs, _, hl, hm, hz, _, hcell, hwz⟩
    · simp [Value.cells] at hcs
      obtain ⟨rfl, rfl, rfl⟩ := hcs
      exact ⟨[], .inl ⟨rfl, rfl, rfl, rfl⟩⟩
    · simp [Value.cells] at hcs
      obtain ⟨rfl, rfl, rfl⟩ := hcs
      exact ⟨zs, .inr ⟨_, rfl, hl, hm, by simpa using hz, hcell, hwz⟩⟩
  clear hA0
  refine (walk a0 len0 cap0 z0 W w0 (table hL)).mono fun e W' ⟨he, bel⟩ => ?_
  subst he
  exact ⟨_, rfl, _, _, _, [], _, [], hW', trodAll_mk1 (shut_bool Tryd.underlying4 _), (trodAll_cons_mk (Below.trod laidOut (by kernel_rfl) (of_decide_eq_true (by kernel_rfl)) k0 bel lt0) trodAll_mk0), rfl, bel.frame _, fun h => by cases h⟩

set_option maxRecDepth 100000 in
theorem lifted (os : Os) (started : os.Started) (H : Type) (enc : TypeId × Value → H) (F : Stop.Interp) :
    ReturnsInHanded {} Tryd.checked os 3 .any ((OpenSpec.ofChange Rows.fnResolveSpec).preRow enc Tryd.prog Tryd.f3 Rows.fnResolveRow.domain false Rows.fnResolveRow.laid) (((OpenSpec.ofChange Rows.fnResolveSpec).at F).post enc Tryd.prog Tryd.f3 false true false false) := by
  refine returnsInHanded_of_row (C := Tryd.checked) (s := OpenSpec.ofChange Rows.fnResolveSpec) own started (by kernel_rfl) Tryd.func3
    (witness_row_at (enc := enc) (C := Tryd.checked) false ({ World.holding Tryd.prog os ⟨#[], #[], []⟩ with heap := (World.holding Tryd.prog os ⟨#[], #[], []⟩).heap.modify 0 fun | .cells _ t frozen => .cells (Lib.deBruijn64tab.map fun (n : Nat) => Value.int .u8 n).toArray t frozen | o => o } : World) #[.slice none 0 0] rfl (by kernel_rfl) (by kernel_rfl) (by kernel_rfl)
      (OpenSpec.preRow_of_cond 8 (x := ([.nil], [], [])) (by kernel_rfl) (by kernel_rfl) (fun k hk => by cases hk) (by kernel_rfl) (laidMet_of_run' 8 (by kernel_rfl) (by kernel_rfl)))) ?_
  intro W base args ds gs before hval hW _ _ _ hL _ _
  exact contract H enc W base args ds gs before hval hW hL

theorem said : Rows.FnResolveSaid :=
  OpenClaim.holds_of_cond 3 Tryd.f3 rfl rfl rfl rfl rfl rfl rfl ⟨rfl, rfl, rfl, rfl, rfl⟩ rfl rfl rfl rfl rfl (by kernel_rfl) Tryd.func3 (by kernel_rfl)
    (of_decide_eq_true (by kernel_rfl)) (by unfold Func.isWrapper; first | (rw [if_pos (by decide +kernel)]; kernel_rfl) | (rw [if_neg (by decide +kernel)]; exact ⟨rfl, rfl⟩))
    (fun os started H enc _ F => by rw [OpenClaim.pre_eq_preRow]; exact lifted os started H enc F)

theorem plain (f : FuncId) (fn : Func) (hf : Tryd.pinned.checked.prog.funcNamed "loop.example/g00123/laws.FnResolve" = some f) (hfn : Tryd.pinned.checked.prog.funcs[f]? = some fn) :
    false = Tryd.pinned.checked.prog.looks [] ∧ ∀ (j : Nat) t, fn.params[j]? = some t → Tryd.pinned.checked.prog.wantsStandIn t = false := by
  obtain rfl : f = 3 := Option.some.inj ((show Tryd.prog.funcNamed "loop.example/g00123/laws.FnResolve" = some 3 by kernel_rfl).symm.trans hf) |>.symm
  obtain rfl : fn = Tryd.f3 := (Option.some.inj (Tryd.func3.symm.trans hfn)).symm
  refine ⟨by kernel_rfl, fun j t ht => ?_⟩
  rw [Tryd.params3] at ht
  obtain rfl : t = 22 := by simpa using Array.mem_of_getElem? ht
  exact (show Tryd.prog.wantsStandIn 22 = false by kernel_rfl)

/-- the statement: the row's tied card -/
theorem proved : Rows.FnResolveCardSaid :=
  Claim7.holds_tied_plain_at .later [] _ _ _ _ said (fun _ h => by cases h) (by kernel_rfl) (fun _ h => by cases h) fnResolve_row_tie rfl ⟨rfl, rfl⟩ (by kernel_rfl) rfl plain (by kernel_rfl)
#print axioms proved
end Go.Proofs.YtmbmkbkghblcmaaDoor.fnResolve
