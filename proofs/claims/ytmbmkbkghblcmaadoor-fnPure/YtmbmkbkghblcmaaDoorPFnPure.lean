/- For all bytes the law FnPure returns true: impl.Pure and impl.Free answer as spec.Pure and spec.Free at what it draws, a free variable is told by neither of its literals, and the formula can be true just when it can be with all its pure literals taken; the library's table of places lies as its text lays it (tied). -/
import Derived.Test.YtmbmkbkghblcmaaDoorCards
import Derived.Test.YtmbmkbkghblcmaaDoorTie
import Derived.Test.YtmbmkbkghblcmaaDoorFp
import Derived.Test.YtmbmkbkghblcmaaDoorFf
import Derived.Test.YtmbmkbkghblcmaaDoorFz
import Derived.Test.YtmbmkbkghblcmaaDoorCu
import Derived.Test.YtmbmkbkghblcmaaDoorMp
import Derived.Test.YtmbmkbkghblcmaaDoorDm
import Derived.WalkKit
import Derived.ProofKit
import Derived.OpenShut
import Derived.ShutString
import Derived.ChangeOld
import Derived.Below
import Derived.Deep.DeepHandedRow
import Derived.Lib.LaidTab
import Derived.Lib.TrailingZeros
import Derived.Stop.LaidErr
namespace Go.Proofs.YtmbmkbkghblcmaaDoor.fnPure
open Go.ChangeShapes Go.WideShapes Go.ChangeAt Go.RowKit
open Go.ChangeMaps (open_string shut_string)
set_option linter.unusedVariables false

theorem own : ownKnob Tryd.prog.godebug = none := by kernel_rfl
theorem laidOut : laidOutB Tryd.prog = true := by kernel_rfl

/-- what the walk is told of a slice of integers that came in -/
def IsRow (k : IntKind) (w : World) (a : Option Addr) (len cap : Nat) (zs : List Int) : Prop :=
  (a = none ∧ len = 0 ∧ cap = 0 ∧ zs = []) ∨
  ∃ x, a = some x ∧ len ≤ cap ∧ cap ≤ maxLen ∧ zs.length = cap ∧ (∀ i, i < zs.length → w.cell? (x.add i) = some (.int k (zs.getD i 0))) ∧ ∀ n ∈ zs, (Lit.int k n).wf = true

theorem gTab : Tryd.prog.globalNamed "math/bits.deBruijn64tab" = some 0 := by kernel_rfl
theorem gTabType : (Tryd.prog.globals[0]?).map (·.type) = some 102 := by kernel_rfl
theorem cellsTab : Tryd.prog.cellsOf 102 = 64 := by kernel_rfl
theorem cellsByte : Tryd.prog.cellsOf 5 = 1 := by kernel_rfl
/-- what the row's list gives: the table's cells hold its numbers -/
theorem table {W : World} (h : laidMetH Tryd.prog Rows.fnPureRow.laid W) : srt.Tab W := by
  have t : Lib.TabIs Tryd.prog W "math/bits.deBruijn64tab" .u8 (Lib.deBruijn64tab.map fun (n : Nat) => (n : Int)) :=
    Lib.tabIs_of_head (rest := []) gTab gTabType Tryd.underlying102 Tryd.underlying5 cellsByte cellsTab h
  intro j hj
  have c := t.cell gTab j (by rw [List.length_map]; exact hj)
  rw [c]
  congr 2
  rw [List.getD, List.getD, List.getElem?_map]
  cases Lib.deBruijn64tab[j]? <;> rfl

/-! ### the walk -/
set_option maxRecDepth 100000 in
set_option maxHeartbeats 8000000 in
theorem walk (a0 : Option Addr) (len0 cap0 : Nat) (z0 : List Int) (w : World) (w0 : IsRow .u8 w a0 len0 cap0 z0) (hT : srt.Tab w) :
    Calls Tryd.prog 4 #[.slice a0 len0 cap0] w fun e w' => e = .returned (.bool true) ∧ Below w.heap.size w w' := by
  have hB := draw.of_rowB w0
  have hm : len0 ≤ 9223372036854775807 := by
    rcases w0 with ⟨_, h, _, _⟩ | ⟨_, _, h1, h2, _⟩
    · omega
    · unfold maxLen at h2
      omega
  clear w0
  by_cases hbig : 1048576 < len0
  · have C := sl.hide (draw.big a0 len0 cap0 w hm)
    rw [decide_eq_true hbig] at C
    clear hT
    go_enter Tryd.func4, Tryd.ntmps4
    go_wp2_with fail
    refine (sl.unhide C).mono ?_; rintro e w' ⟨rfl, rfl⟩
    go_wp2_with fail
    go_ret
    exact ⟨rfl, Below.refl _ _⟩
  have C := sl.hide (draw.big a0 len0 cap0 w hm)
  rw [decide_eq_false hbig] at C
  have HB := sl.hide hB
  have TT := sl.hide hT
  have hlen : len0 ≤ 1048576 := by omega
  clear hB hT hbig
  go_enter Tryd.func4, Tryd.ntmps4
  go_wp2_with fail
  refine (sl.unhide C).mono ?_; rintro e w' ⟨rfl, hw⟩; have hw' := hw.symm; clear hw; subst hw'
  clear C hm
  go_wp2_with fail
  refine (dl.drawFree a0 len0 cap0 _ hlen (sl.unhide HB)).mono ?_; rintro e w1 ⟨n, v, u, L, LL, rfl, hL49, ⟨mid, ou1, o1, hmid⟩, bd, g1⟩
  obtain ⟨va, vc, rfl⟩ := o1.len
  obtain ⟨ca, cc, rfl⟩ : ∃ ca cc, u = .slice ca L.length cc := by
    obtain ⟨xa, xc, e, _⟩ := ou1.sl
    exact ⟨xa, xc, e⟩
  have ht : css.tot LL ≤ 1048576 := Nat.le_trans (dl.tot_bd bd) (by decide)
  have hL : L.length ≤ 1048576 := by omega
  have gA := World.grownBy_alloc w1 (.cells #[.int .i64 n, .slice va LL.length vc] 35) none
  have F1 := sl.hide (cf.Box.new 35 w1 (.int .i64 n) (.slice va LL.length vc))
  have G1 := sl.hide (sl.grown_trans (r := none) g1 gA)
  have O1 := sl.hide (o1.kept gA)
  have U1 := sl.hide (ou1.kept gA)
  have hn25 : -1 ≤ n ∧ n ≤ 25 := bd.1
  have hPl := fm.pureL_len n LL
  have hFl := fm.freeL_len n LL L
  have HF := sl.hide (fun (k : Nat) (hk : k < (fm.freeL n LL L).length) => mp.free_mem (mp.getD_mem hk))
  clear g1 o1 ou1 gA bd hmid
  have z0 := (sl.unhide F1).c0
  have z1 := (sl.unhide F1).c1
  obtain ⟨W1, hW1⟩ : ∃ W1, W1 = w1.alloc (.cells #[.int .i64 n, .slice va LL.length vc] 35) := ⟨_, rfl⟩
  rw [← hW1] at F1 G1 O1 U1 z0 z1
  have hs1 : w1.heap.size < W1.heap.size := by rw [hW1, World.size_alloc]; omega
  go_wp2_with fail
  rw [← hW1]
  refine (fp.implPure (.slice va LL.length vc) n LL W1 ((sl.unhide TT).kept (sl.unhide G1)) ht (sl.unhide O1).sls).mono ?_; rintro e w2 ⟨pv, rfl, mp2⟩
  clear hW1 z0 z1
  obtain ⟨pa, pc, rfl⟩ : ∃ xa xc, pv = .slice xa (fm.pureL n LL).length xc := by
    obtain ⟨xa, xc, e, _⟩ := sl.Sl.of_own mp2.1
    exact ⟨xa, xc, e⟩
  have P2 := sl.hide (sl.Own.of mp2.1)
  have G2 := sl.hide (sl.grown_trans (r := none) (sl.unhide G1) mp2.2)
  have F2 := sl.hide ((sl.unhide F1).kept mp2.2)
  have O2 := sl.hide ((sl.unhide O1).kept mp2.2)
  have U2 := sl.hide ((sl.unhide U1).kept mp2.2)
  have hs2 := mp2.2.size
  clear mp2 G1 F1 O1 U1
  have z0 := (sl.unhide F2).c0
  have z1 := (sl.unhide F2).c1
  go_wp2_with fail
  refine (ff.implFree (.slice va LL.length vc) (.slice ca L.length cc) n LL L w2 ((sl.unhide TT).kept (sl.unhide G2)) ht hL (sl.unhide O2).sls (sl.unhide U2).sl).mono ?_; rintro e w3 ⟨fv, rfl, m3⟩
  obtain ⟨fa, fc, rfl⟩ : ∃ xa xc, fv = .slice xa (fm.freeL n LL L).length xc := by
    obtain ⟨xa, xc, e, _⟩ := sl.Sl.of_own m3.1
    exact ⟨xa, xc, e⟩
  have R3 := sl.hide (sl.Own.of m3.1)
  have P3 := sl.hide ((sl.unhide P2).kept m3.2)
  have G3 := sl.hide (sl.grown_trans (r := none) (sl.unhide G2) m3.2)
  have F3 := sl.hide ((sl.unhide F2).kept m3.2)
  have O3 := sl.hide ((sl.unhide O2).kept m3.2)
  have U3 := sl.hide ((sl.unhide U2).kept m3.2)
  have hs3 := m3.2.size
  clear m3 G2 F2 O2 U2 P2 z0 z1 TT
  have z0 := (sl.unhide F3).c0
  have z1 := (sl.unhide F3).c1
  go_wp2_with fail
  refine (fp.specPure (.slice va LL.length vc) n LL _ _ w3 ht (sl.unhide O3)).mono ?_; rintro e w4 ⟨qv, rfl, m4⟩
  obtain ⟨qa, qc, rfl⟩ : ∃ xa xc, qv = .slice xa (fm.pureL n LL).length xc := by
    obtain ⟨xa, xc, e, _⟩ := sl.Sl.of_own m4.1
    exact ⟨xa, xc, e⟩
  have Q4 := sl.hide (sl.Own.of m4.1)
  have R4 := sl.hide ((sl.unhide R3).kept m4.2)
  have P4 := sl.hide ((sl.unhide P3).kept m4.2)
  have G4 := sl.hide (sl.grown_trans (r := none) (sl.unhide G3) m4.2)
  have F4 := sl.hide ((sl.unhide F3).kept m4.2)
  have O4 := sl.hide ((sl.unhide O3).kept m4.2)
  have U4 := sl.hide ((sl.unhide U3).kept m4.2)
  have hs4 := m4.2.size
  clear m4 G3 F3 O3 U3 P3 R3 z0 z1
  go_wp2_with fail
  refine (dcls.sameC _ _ (fm.pureL n LL) _ (by omega) (sl.unhide P4).sl (sl.unhide Q4).sl).mono ?_; rintro e w5 ⟨rfl, g5⟩
  have R5 := sl.hide ((sl.unhide R4).kept g5)
  have P5 := sl.hide ((sl.unhide P4).kept g5)
  have G5 := sl.hide (sl.grown_trans (r := none) (sl.unhide G4) g5)
  have F5 := sl.hide ((sl.unhide F4).kept g5)
  have O5 := sl.hide ((sl.unhide O4).kept g5)
  have U5 := sl.hide ((sl.unhide U4).kept g5)
  have hs5 := g5.size
  clear g5 G4 F4 O4 U4 P4 R4 Q4
  have z0 := (sl.unhide F5).c0
  have z1 := (sl.unhide F5).c1
  go_wp2_with fail
  refine (ff.specFree (.slice va LL.length vc) (.slice ca L.length cc) n LL L w5 ht hL (sl.unhide O5).sls (sl.unhide U5).sl).mono ?_; rintro e w6 ⟨qv, rfl, m6⟩
  obtain ⟨ra, rc, rfl⟩ : ∃ xa xc, qv = .slice xa (fm.freeL n LL L).length xc := by
    obtain ⟨xa, xc, e, _⟩ := sl.Sl.of_own m6.1
    exact ⟨xa, xc, e⟩
  have Q6 := sl.hide (sl.Own.of m6.1)
  have R6 := sl.hide ((sl.unhide R5).kept m6.2)
  have P6 := sl.hide ((sl.unhide P5).kept m6.2)
  have G6 := sl.hide (sl.grown_trans (r := none) (sl.unhide G5) m6.2)
  have F6 := sl.hide ((sl.unhide F5).kept m6.2)
  have O6 := sl.hide ((sl.unhide O5).kept m6.2)
  have U6 := sl.hide ((sl.unhide U5).kept m6.2)
  have hs6 := m6.2.size
  clear m6 G5 F5 O5 U5 P5 R5 z0 z1
  go_wp2_with fail
  refine (dcls.sameC _ _ (fm.freeL n LL L) _ (by omega) (sl.unhide R6).sl (sl.unhide Q6).sl).mono ?_; rintro e w7 ⟨rfl, g7⟩
  have R7 := sl.hide ((sl.unhide R6).kept g7).sl
  have P7 := sl.hide ((sl.unhide P6).kept g7)
  have G7 := sl.hide (sl.grown_trans (r := none) (sl.unhide G6) g7)
  have F7 := sl.hide ((sl.unhide F6).kept g7)
  have O7 := sl.hide ((sl.unhide O6).kept g7)
  have U7 := sl.hide ((sl.unhide U6).kept g7)
  have hs7 := g7.size
  have hlt7 : w1.heap.size < w7.heap.size := by omega
  clear g7 G6 F6 O6 U6 P6 R6 Q6 hs1 hs2 hs3 hs4 hs5 hs6 hs7
  generalize fm.freeL n LL L = F at *
  go_wp2_with fail
  go_loop [7] (fun i => ∃ k : Nat, k ≤ F.length ∧ i = .int .i64 k) (fun i => F.length - (intOf i).toNat)
  case atStart => exact ⟨0, Nat.zero_le _, rfl⟩
  case round =>
    obtain ⟨k, hk, rfl⟩ := hrel
    by_cases hlt : k < F.length
    · have hi' : (k : Int) < (F.length : Int) := by omega
      obtain ⟨xa, xc, ex, h | ⟨b, off, exa, hb, hcb⟩⟩ := sl.unhide R7
      · rw [h] at hlt
        simp at hlt
      · rw [exa] at ex
        have hfa : fa = some ⟨b, off, none⟩ := by
          injection ex
        subst hfa
        have c1 := hcb k hlt
        obtain ⟨y0, y1, h1, h2⟩ := sl.unhide HF k hlt
        generalize F.getD k 0 = y at *
        have ca' := cls.implClauseHas (.slice ca L.length cc) L y w7 hL (sl.unhide U7).sl
        have cb' := cls.implClauseHas (.slice ca L.length cc) L (-y) w7 hL (sl.unhide U7).sl
        rw [h1] at ca'
        rw [h2] at cb'
        have CA := sl.hide ca'
        have CB := sl.hide cb'
        have hwn := fx.wrap_neg (x := y) ⟨by omega, by omega⟩
        clear ca' cb' h1 h2 hcb R7 HF P7 G7 F7 O7 U7 ex exa
        go_wp2_with fail
        refine (sl.unhide CA).mono ?_; rintro e w8 ⟨rfl, hw⟩; have hw' := hw.symm; clear hw; subst hw'
        go_wp2_with fail
        refine (sl.unhide CB).mono ?_; rintro e w8 ⟨rfl, hw⟩; have hw' := hw.symm; clear hw; subst hw'
        clear CA CB
        go_wp2_with fail
        go_round
        case rel => exact ⟨k + 1, by omega, by go_num⟩
        case measure => simp [intOf]; omega
    · have hi' : ¬ (k : Int) < (F.length : Int) := by omega
      have z0 := (sl.unhide F7).c0
      have z1 := (sl.unhide F7).c1
      have cc' := ok.specCnfOk (.slice va LL.length vc) n LL w7 ht (sl.unhide O7).sls
      cases hc : ok.cnfB n LL
      · rw [hc] at cc'
        have CC := sl.hide cc'
        clear cc' hc R7 HF P7 O7 U7
        go_wp2_with fail
        refine (sl.unhide CC).mono ?_; rintro e w8 ⟨rfl, g8⟩
        have G8 := sl.hide (sl.grown_trans (r := none) (sl.unhide G7) g8)
        clear g8 CC z0 z1
        go_wp2_with fail
        go_ret
        exact ⟨rfl, sl.below_of (sl.unhide G8)⟩
      · rw [hc] at cc'
        have CC := sl.hide cc'
        have HC := sl.hide hc
        clear cc' hc R7 HF U7
        go_wp2_with fail
        refine (sl.unhide CC).mono ?_; rintro e w8 ⟨rfl, g8⟩
        have hs8 := g8.size
        have gA := World.grownBy_alloc w8 (.cells #[.int .i64 n, .slice va LL.length vc] 35) none
        have gB := sl.grown_trans (r := none) g8 gA
        have F8 := sl.hide ((sl.unhide F7).kept g8)
        have hsw : w.heap.size ≤ w8.heap.size := Nat.le_trans (sl.unhide G7).size hs8
        have PM := sl.hide (mp.Pm.mk (sl.grown_trans (r := none) (sl.unhide G7) gB) ((sl.unhide F7).kept gB) (cf.Box.new 35 w8 (.int .i64 n) (.slice va LL.length vc)) ⟨_, _, (sl.unhide O7).kept gB⟩ ⟨_, _, (sl.unhide O7).kept gB⟩ ⟨_, _, (sl.unhide P7).kept gB⟩ hsw (by omega))
        have G8 := sl.hide (sl.grown_trans (r := none) (sl.unhide G7) g8)
        clear z0 z1 CC g8 gA gB F7 O7 P7 G7 hs8
        have z0 := (sl.unhide F8).c0
        have z1 := (sl.unhide F8).c1
        by_cases h10 : n ≤ 10
        · have h10' : ¬ (10 : Int) < n := by omega
          have GF := sl.hide (fun (k : Nat) (hk : k < (fm.pureL n LL).length) => mp.gk_fix (sl.unhide HC) hk)
          have GS := sl.hide (fun (k : Nat) (hk : k < (fm.pureL n LL).length) => mp.gk_succ (fm.pureL n LL) LL hk)
          have GT := sl.hide (fun (k : Nat) (hk : k ≤ (fm.pureL n LL).length) => (mp.gk_facts (sl.unhide HC) k hk).2.2)
          have GE := sl.hide (mp.gk_end (sl.unhide HC) (show n ≤ 14 by omega) _ (Nat.le_refl (fm.pureL n LL).length))
          clear HC
          generalize fm.pureL n LL = P at *
          clear G8
          go_wp2_with fail
          clear z0 z1 F8
          go_loopw [9] (fun i wr => ∃ k : Nat, k ≤ P.length ∧ i = .int .i64 k ∧ ∃ ga gc, Hid (mp.Pm w wr n (.slice va LL.length vc) (.slice pa P.length pc) (.slice ga (mp.gk P LL k).length gc) LL P (mp.gk P LL k) w1.heap.size w8.heap.size)) (fun i _ => P.length - (intOf i).toNat)
          case atStart => exact ⟨0, Nat.zero_le _, rfl, va, vc, PM⟩
          case round =>
            obtain ⟨j, hj, rfl, ga, gc, hpm⟩ := hrel
            clear PM
            by_cases hjt : j < P.length
            · have hi2 : (j : Int) < (P.length : Int) := by omega
              obtain ⟨lo, hi, op⟩ := (sl.unhide hpm).p
              obtain ⟨xa, xc, ex, h | ⟨b, off, exa, hb, hcb⟩⟩ := op.sl
              · rw [h] at hjt
                simp at hjt
              · rw [exa] at ex
                have hfa : pa = some ⟨b, off, none⟩ := by
                  injection ex
                subst hfa
                have c1 := hcb j hjt
                have hf := sl.unhide GF j hjt
                have cx := fun (w' : World) (g : wr.grownBy w' none) => fx.implFix (.slice ga (mp.gk P LL j).length gc) n (P.getD j 0) (mp.gk P LL j) w' (Nat.le_trans (sl.unhide GT j hj) ht) (((sl.unhide hpm).kept g).q.choose_spec.choose_spec).sls
                rw [(fx.fix_yes hf).1, (fx.fix_yes hf).2, hf, ← sl.unhide GS j hjt] at cx
                have CX := sl.hide cx
                clear cx hf hcb op GE GF GS GT exa hb
                generalize P.getD j 0 = x at *
                generalize hM' : mp.gk P LL (j + 1) = M' at *
                have HM' := sl.hide hM'
                clear hM'
                generalize mp.gk P LL j = M at *
                have q0 := (sl.unhide hpm).h.c0
                have q1 := (sl.unhide hpm).h.c1
                have gB := World.grownBy_alloc wr (.cells #[.int .i64 0, .slice none 0 0] 35) none
                have BB := sl.hide (cf.Box.new 35 wr (.int .i64 0) (.slice none 0 0))
                have GB := sl.hide gB
                have e1 : (wr.alloc (.cells #[.int .i64 0, .slice none 0 0] 35)).cell? ⟨w8.heap.size, 0, none⟩ = some (.int .i64 n) := ((sl.unhide hpm).kept gB).h.c0
                have e2 : (wr.alloc (.cells #[.int .i64 0, .slice none 0 0] 35)).cell? ⟨w8.heap.size, 1, none⟩ = some (.slice ga M.length gc) := ((sl.unhide hpm).kept gB).h.c1
                have e3 : (wr.alloc (.cells #[.int .i64 0, .slice none 0 0] 35)).cell? ⟨b, off + j, none⟩ = some (.int .i64 x) := gB.cell c1 (fun e => by cases e)
                clear gB
                go_wp2_with fail
                go_region_with (first
                  | (go_at_call 25; refine (sl.unhide CX _ (cf.grown_drew wr none)).mono ?_; rintro e w9 ⟨u9, rfl, o9, g9⟩; obtain ⟨na, nc, rfl⟩ := o9.len; have Z9 := sl.hide (mp.aftA (sl.unhide hpm) (sl.grown_trans (r := none) (cf.grown_drew wr none) g9) o9); have a0 := (sl.unhide Z9).1.h.c0; have a1 := (sl.unhide Z9).1.h.c1; have a2 := (sl.unhide Z9).1.h.f 0; have a3 := (sl.unhide Z9).1.h.f 1; have b0 := (sl.unhide Z9).2.1.c0; have b1 := (sl.unhide Z9).2.1.c1; clear o9 g9 CX)
                  | (go_at_call 25; refine (sl.unhide CX _ (sl.grown_trans (r := none) (sl.unhide GB) (cf.grown_drew _ none))).mono ?_; rintro e w9 ⟨u9, rfl, o9, g9⟩; obtain ⟨na, nc, rfl⟩ := o9.len; have g9' := sl.grown_trans (r := none) (cf.grown_drew _ none) g9; have bb := (sl.unhide BB).kept g9'; have Z9 := sl.hide (mp.aftB (sl.unhide hpm) (sl.grown_trans (r := none) (sl.unhide GB) g9') bb o9); have a0 := (sl.unhide Z9).1.h.c0; have a1 := (sl.unhide Z9).1.h.c1; have a2 := (sl.unhide Z9).1.h.f 0; have a3 := (sl.unhide Z9).1.h.f 1; have b0 := (sl.unhide Z9).2.1.c0; have b1 := (sl.unhide Z9).2.1.c1; have d0 := bb.c0; have d1 := bb.c1; have d2 := bb.f 0; have d3 := bb.f 1; clear o9 g9 g9' bb CX))
                all_goals
                  go_wp2_with fail
                  go_roundw
                  case rel => exact ⟨j + 1, by omega, by go_num, na, nc, by rw [sl.unhide HM']; exact mp.Pm.set (sl.unhide Z9).1 (sl.unhide Z9).2.2.choose_spec.choose_spec⟩
                  case measure => simp [intOf]; omega
            · have hi2 : ¬ (j : Int) < (P.length : Int) := by omega
              have hjj : P.length = j := by omega
              have hge := sl.unhide GE
              rw [hjj] at hge
              have htg := Nat.le_trans (sl.unhide GT j hj) ht
              have ca := fun (w' : World) (g : wr.grownBy w' none) => cu.implCountTrue (.slice va LL.length vc) n LL w' ht (((sl.unhide hpm).kept g).o.choose_spec.choose_spec).sls
              have cb := fun (w' : World) (g : wr.grownBy w' none) => cu.implCountTrue (.slice ga (mp.gk P LL j).length gc) n (mp.gk P LL j) w' htg (((sl.unhide hpm).kept g).q.choose_spec.choose_spec).sls
              generalize ct.countI n LL = c1 at *
              generalize ct.countI n (mp.gk P LL j) = c2 at *
              generalize mp.gk P LL j = M at *
              have CA := sl.hide ca
              have CB := sl.hide cb
              have HGE := sl.hide hge
              have CK := sl.hide (fun (w' : World) (g : wr.grownBy w' none) => And.intro ((sl.unhide hpm).kept g).f.c0 (And.intro ((sl.unhide hpm).kept g).f.c1 (And.intro ((sl.unhide hpm).kept g).h.c0 ((sl.unhide hpm).kept g).h.c1)))
              have GX := sl.hide (cf.grown_drew wr none)
              obtain ⟨k1, k2, k3, k4⟩ := sl.unhide CK wr (sl.grown_refl _)
              have GZ := sl.hide (fun (w' : World) (g : wr.grownBy w' none) => sl.below_of (sl.grown_trans (r := none) (sl.unhide hpm).g g))
              clear ca cb hge hjj htg GE GF GS GT hpm
              go_upto_region 23 with fail
              go_region_held3 (fun w' => w'.cell? ⟨w1.heap.size, 0, none⟩ = some (.int .i64 n) ∧ w'.cell? ⟨w1.heap.size, 1, none⟩ = some (.slice va LL.length vc) ∧ w'.cell? ⟨w8.heap.size, 0, none⟩ = some (.int .i64 n) ∧ w'.cell? ⟨w8.heap.size, 1, none⟩ = some (.slice ga M.length gc)) (go_keep) (first
                | (go_at_call_of 26 (Value.agg #[Value.int IntKind.i64 n, Value.slice va LL.length vc]); refine (sl.unhide CA _ (sl.unhide GX)).mono ?_; rintro e w9 ⟨rfl, g9⟩; replace GX := sl.hide (sl.grown_trans (r := none) (sl.unhide GX) g9); obtain ⟨k1, k2, k3, k4⟩ := sl.unhide CK _ (sl.unhide GX); clear g9)
                | (go_at_call_of 26 (Value.agg #[Value.int IntKind.i64 n, Value.slice ga M.length gc]); refine (sl.unhide CB _ (sl.unhide GX)).mono ?_; rintro e w9 ⟨rfl, g9⟩; replace GX := sl.hide (sl.grown_trans (r := none) (sl.unhide GX) g9); obtain ⟨k1, k2, k3, k4⟩ := sl.unhide CK _ (sl.unhide GX); clear g9))
              all_goals
                go_wp2_with fail
                go_ret
                exact ⟨by simp [sl.unhide HGE], sl.unhide GZ _ (sl.unhide GX)⟩
        · have h10' : (10 : Int) < n := by omega
          clear PM F8 HC
          go_wp2_with fail
          go_ret
          exact ⟨rfl, sl.below_of (sl.unhide G8)⟩

/-! ### the row's step (the guide's own frame) -/
set_option maxRecDepth 100000 in
theorem contract (H : Type) (enc : TypeId × Value → H) (W : World) (base : Nat) (args : Array Value) (ds gs : List (DataW H)) (before : List MemPlace)
    (hval : ∀ (j : Nat) t v, Tryd.f4.params[j]? = some t → args[j]? = some v → Value.okWide Tryd.prog W .any base t v)
    (hW : DataW.Whole enc Tryd.prog Tryd.f4.params.toList Rows.fnPureSpec.vars false W args.toList ds gs before) (hL : laidMetH Tryd.prog Rows.fnPureRow.laid W) :
    Calls Tryd.prog 4 args W fun e W' => ∃ v, e = .returned v ∧ Rows.fnPureSpec.post enc Tryd.prog Tryd.f4 false true false false W args v W' := by
  have hW' := hW
  obtain ⟨p, q, hA0, hV, rfl, hfz, hnd⟩ := hW
  have hA : DataW.TrodAll enc Tryd.prog W 0 (fun _ => true) true Tryd.f4.params.toList args.toList ds p := hA0
  rw [Tryd.params4] at hA hval
  obtain ⟨v0, vs0, d0, ds0, p0, q0, hargs, rfl, rfl, h0, r0⟩ := trodAll_cons hA
  obtain ⟨rfl, rfl, rfl⟩ := trodAll_nil r0
  obtain rfl : args = #[v0] := by cases args; simp_all
  obtain ⟨rfl, rfl⟩ := trodVars_none hV
  obtain ⟨a0, len0, cap0, rfl⟩ := okWide_slice Tryd.underlying22 (hval 0 22 v0 rfl rfl)
  have k0 := h0
  have lt0 : ∀ x ∈ p0, x.block < W.heap.size := by obtain ⟨m, hm⟩ := k0; exact DataW.trod_lt m _ _ _ hm
  obtain ⟨z0, w0⟩ : ∃ zs, IsRow .u8 W a0 len0 cap0 zs := by
    obtain ⟨fuel, hf⟩ := h0
    rcases open_ints Tryd.underlying22 Tryd.underlying5 (by kernel_rfl) hf with ⟨hcs, _⟩ | ⟨x, l, c, zs, hcs, _, hl, hm, hz, _, hcell, hwz⟩
    · simp [Value.cells] at hcs
      obtain ⟨rfl, rfl, rfl⟩ := hcs
      exact ⟨[], .inl ⟨rfl, rfl, rfl, rfl⟩⟩
    · simp [Value.cells] at hcs
      obtain ⟨rfl, rfl, rfl⟩ := hcs
      exact ⟨zs, .inr ⟨_, rfl, hl, hm, by simpa using hz, hcell, hwz⟩⟩
  clear hA0
  refine (walk a0 len0 cap0 z0 W w0 (table hL)).mono fun e W' ⟨he, bel⟩ => ?_
  subst he
  exact ⟨_, rfl, _, _, _, [], _, [], hW', trodAll_mk1 (shut_bool Tryd.underlying4 _), (trodAll_cons_mk (Below.trod laidOut (by kernel_rfl) (of_decide_eq_true (by kernel_rfl)) k0 bel lt0) trodAll_mk0), rfl, bel.frame _, fun h => by cases h⟩

set_option maxRecDepth 100000 in
theorem lifted (os : Os) (started : os.Started) (H : Type) (enc : TypeId × Value → H) (F : Stop.Interp) :
    ReturnsInHanded {} Tryd.checked os 4 .any ((OpenSpec.ofChange Rows.fnPureSpec).preRow enc Tryd.prog Tryd.f4 Rows.fnPureRow.domain false Rows.fnPureRow.laid) (((OpenSpec.ofChange Rows.fnPureSpec).at F).post enc Tryd.prog Tryd.f4 false true false false) := by
  refine returnsInHanded_of_row (C := Tryd.checked) (s := OpenSpec.ofChange Rows.fnPureSpec) own started (by kernel_rfl) Tryd.func4
    (witness_row_at (enc := enc) (C := Tryd.checked) false ({ World.holding Tryd.prog os ⟨#[], #[], []⟩ with heap := (World.holding Tryd.prog os ⟨#[], #[], []⟩).heap.modify 0 fun | .cells _ t frozen => .cells (Lib.deBruijn64tab.map fun (n : Nat) => Value.int .u8 n).toArray t frozen | o => o } : World) #[.slice none 0 0] rfl (by kernel_rfl) (by kernel_rfl) (by kernel_rfl)
      (OpenSpec.preRow_of_cond 8 (x := ([.nil], [], [])) (by kernel_rfl) (by kernel_rfl) (fun k hk => by cases hk) (by kernel_rfl) (laidMet_of_run' 8 (by kernel_rfl) (by kernel_rfl)))) ?_
  intro W base args ds gs before hval hW _ _ _ hL _ _
  exact contract H enc W base args ds gs before hval hW hL

theorem said : Rows.FnPureSaid :=
  OpenClaim.holds_of_cond 4 Tryd.f4 rfl rfl rfl rfl rfl rfl rfl ⟨rfl, rfl, rfl, rfl, rfl⟩ rfl rfl rfl rfl rfl (by kernel_rfl) Tryd.func4 (by kernel_rfl)
    (of_decide_eq_true (by kernel_rfl)) (by unfold Func.isWrapper; first | (rw [if_pos (by decide +kernel)]; kernel_rfl) | (rw [if_neg (by decide +kernel)]; exact ⟨rfl, rfl⟩))
    (fun os started H enc _ F => by rw [OpenClaim.pre_eq_preRow]; exact lifted os started H enc F)

theorem plain (f : FuncId) (fn : Func) (hf : Tryd.pinned.checked.prog.funcNamed "loop.example/g00123/laws.FnPure" = some f) (hfn : Tryd.pinned.checked.prog.funcs[f]? = some fn) :
    false = Tryd.pinned.checked.prog.looks [] ∧ ∀ (j : Nat) t, fn.params[j]? = some t → Tryd.pinned.checked.prog.wantsStandIn t = false := by
  obtain rfl : f = 4 := Option.some.inj ((show Tryd.prog.funcNamed "loop.example/g00123/laws.FnPure" = some 4 by kernel_rfl).symm.trans hf) |>.symm
  obtain rfl : fn = Tryd.f4 := (Option.some.inj (Tryd.func4.symm.trans hfn)).symm
  refine ⟨by kernel_rfl, fun j t ht => ?_⟩
  rw [Tryd.params4] at ht
  obtain rfl : t = 22 := by simpa using Array.mem_of_getElem? ht
  exact (show Tryd.prog.wantsStandIn 22 = false by kernel_rfl)

/-- the statement: the row's tied card -/
theorem proved : Rows.FnPureCardSaid :=
  Claim7.holds_tied_plain_at .later [] _ _ _ _ said (fun _ h => by cases h) (by kernel_rfl) (fun _ h => by cases h) fnPure_row_tie rfl ⟨rfl, rfl⟩ (by kernel_rfl) rfl plain (by kernel_rfl)
#print axioms proved
end Go.Proofs.YtmbmkbkghblcmaaDoor.fnPure
