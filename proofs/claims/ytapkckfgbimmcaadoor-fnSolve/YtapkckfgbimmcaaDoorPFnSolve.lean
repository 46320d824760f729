/- At every byte list the law FnSolve returns true (an answer makes the formula true, and no assignment ahead of it does; none is told just when there is none); the library's table of places lies as its text lays it (tied). -/
import Derived.Test.YtapkckfgbimmcaaDoorCards
import Derived.Test.YtapkckfgbimmcaaDoorTie
import Derived.Test.YtapkckfgbimmcaaDoorJSolve
import Derived.Test.YtapkckfgbimmcaaDoorDCl
import Derived.Test.YtapkckfgbimmcaaDoorDVa
import Derived.Test.YtapkckfgbimmcaaDoorDc
import Derived.Test.YtapkckfgbimmcaaDoorDf
import Derived.WalkKit
import Derived.ProofKit
import Derived.OpenShut
import Derived.ShutString
import Derived.ChangeOld
import Derived.Below
import Derived.Deep.DeepHandedRow
import Derived.Lib.LaidTab
import Derived.Lib.TrailingZeros
import Derived.Stop.LaidErr
import Derived.LaidHandle
import Derived.LaidSub
namespace Go.Proofs.YtapkckfgbimmcaaDoor.fnSolve
open Go.ChangeShapes Go.WideShapes Go.ChangeAt Go.RowKit
open Go.ChangeMaps (open_string shut_string)
set_option linter.unusedVariables false

theorem own : ownKnob Tryd.prog.godebug = none := by kernel_rfl
theorem laidOut : laidOutB Tryd.prog = true := by kernel_rfl

/-- what the walk is told of a slice of integers that came in -/
def IsRow (k : IntKind) (w : World) (a : Option Addr) (len cap : Nat) (zs : List Int) : Prop :=
  (a = none ∧ len = 0 ∧ cap = 0 ∧ zs = []) ∨
  ∃ x, a = some x ∧ len ≤ cap ∧ cap ≤ maxLen ∧ zs.length = cap ∧ (∀ i, i < zs.length → w.cell? (x.add i) = some (.int k (zs.getD i 0))) ∧ ∀ n ∈ zs, (Lit.int k n).wf = true

theorem gTab : Tryd.prog.globalNamed "math/bits.deBruijn64tab" = some 0 := by kernel_rfl
theorem gTabType : (Tryd.prog.globals[0]?).map (·.type) = some 115 := by kernel_rfl
theorem cellsTab : Tryd.prog.cellsOf 115 = 64 := by kernel_rfl
theorem cellsByte : Tryd.prog.cellsOf 5 = 1 := by kernel_rfl
/-- what the row's list gives: the table's cells hold its numbers -/
theorem table {W : World} (h : laidMetH Tryd.prog Rows.fnSolveRow.laid W) : srt.Tab W := by
  have t : Lib.TabIs Tryd.prog W "math/bits.deBruijn64tab" .u8 (Lib.deBruijn64tab.map fun (n : Nat) => (n : Int)) :=
    Lib.tabIs_of_head (rest := []) gTab gTabType Tryd.underlying115 Tryd.underlying5 cellsByte cellsTab h
  intro j hj
  have c := t.cell gTab j (by rw [List.length_map]; exact hj)
  rw [c]
  congr 2
  rw [List.getD, List.getD, List.getElem?_map]
  cases Lib.deBruijn64tab[j]? <;> rfl

/-! ### the walk -/
set_option maxRecDepth 100000 in
set_option maxHeartbeats 8000000 in
theorem walk (a0 : Option Addr) (len0 cap0 : Nat) (z0 : List Int) (w : World) (w0 : IsRow .u8 w a0 len0 cap0 z0) (hT : srt.Tab w) :
    Calls Tryd.prog 3 #[.slice a0 len0 cap0] w fun e w' => e = .returned (.bool true) ∧ Below w.heap.size w w' := by
  have hB := draw.of_rowB w0
  have hm : len0 ≤ 9223372036854775807 := by
    rcases w0 with ⟨_, h, _, _⟩ | ⟨_, _, h1, h2, _⟩
    · omega
    · unfold maxLen at h2
      omega
  clear w0
  by_cases hbig : 1048576 < len0
  · have C := sl.hide (draw.big a0 len0 cap0 w hm)
    rw [decide_eq_true hbig] at C
    clear hT
    go_enter Tryd.func3, Tryd.ntmps3
    go_wp2_with fail
    refine (sl.unhide C).mono ?_; rintro e w' ⟨rfl, rfl⟩
    go_wp2_with fail
    go_ret
    exact ⟨rfl, Below.refl _ _⟩
  have C := sl.hide (draw.big a0 len0 cap0 w hm)
  rw [decide_eq_false hbig] at C
  have HB := sl.hide hB
  have TT := sl.hide hT
  have hlen : len0 ≤ 1048576 := by omega
  clear hB hT hbig
  go_enter Tryd.func3, Tryd.ntmps3
  go_wp2_with fail
  refine (sl.unhide C).mono ?_; rintro e w' ⟨rfl, hw⟩; have hw' := hw.symm; clear hw; subst hw'
  clear C hm
  go_wp2_with fail
  refine (dl.drawSolve a0 len0 cap0 _ hlen (sl.unhide HB)).mono ?_; rintro e w1 ⟨n, v, LL, rfl, bd, o1, g1⟩
  obtain ⟨va, vc, rfl⟩ := o1.len
  have ht : css.tot LL ≤ 1048576 := Nat.le_trans (df.tot_bd bd (by decide)) (by decide)
  have hLLl : LL.length ≤ 1048576 := Nat.le_trans (css.tot_len LL) ht
  have gA := World.grownBy_alloc w1 (.cells #[.int .i64 n, .slice va LL.length vc] 26) none
  have F1 := sl.hide (cf.Box.new 26 w1 (.int .i64 n) (.slice va LL.length vc))
  have G1 := sl.hide (sl.grown_trans (r := none) g1 gA)
  have O1 := sl.hide (o1.kept gA)
  obtain ⟨W1, hW1⟩ : ∃ W1, W1 = w1.alloc (.cells #[.int .i64 n, .slice va LL.length vc] 26) := ⟨_, rfl⟩
  rw [← hW1] at F1 G1 O1
  have T1 := sl.hide ((sl.unhide TT).kept (sl.unhide G1))
  have hn25 : -1 ≤ n ∧ n ≤ 25 := bd.1
  clear g1 o1 gA bd TT HB
  have z0 := (sl.unhide F1).c0
  have z1 := (sl.unhide F1).c1
  have CI := ks.implSolve (.slice va LL.length vc) n LL W1 (sl.unhide T1) ht (sl.unhide O1).sls
  have CS := fun (w' : World) (g : W1.grownBy w' none) => lq.specSolve (.slice va LL.length vc) n LL w' ht ((sl.unhide O1).kept g).sls
  have CN := sl.hide (fun (w' : World) (g : W1.grownBy w' none) => ok.specCnfOk (.slice va LL.length vc) n LL w' ht ((sl.unhide O1).kept g).sls)
  have CC := sl.hide (fun (w' : World) (g : W1.grownBy w' none) => cu.implCountTrue (.slice va LL.length vc) n LL w' ht ((sl.unhide O1).kept g).sls)
  unfold lq.FromE at CI CS
  have hSl := ks.solve_len n LL []
  have HSO : Hid (∀ l, lq.solveL n LL [] = some l → ok.cnfB n LL = true) := fun l h => by
    cases z : ok.cnfB n LL with
    | true => rfl
    | false => rw [lq.solve_no (by rw [z]; rfl)] at h; cases h
  cases hO : lq.solveL n LL [] with
  | none =>
    rw [hO] at CI CS
    have CI' := sl.hide CI
    have CS' := sl.hide CS
    have HO := sl.hide hO
    clear CI CS hO hSl
    go_wp2_with fail
    rw [← hW1]
    refine (sl.unhide CI').mono ?_; rintro e w2 ⟨rv, rfl, m2⟩
    clear hW1 z0 z1 CI'
    have m2' : wo.Made W1 w2 rv [] := m2
    obtain ⟨ra, rc, rfl, _⟩ := sl.Sl.of_own m2'.1
    have R2 := sl.hide (sl.Own.of m2'.1)
    have K2 := sl.hide m2.2
    have F2 := sl.hide ((sl.unhide F1).kept m2.2)
    clear m2 m2'
    have z0 := (sl.unhide F2).c0
    have z1 := (sl.unhide F2).c1
    have C3 := sl.hide (sl.unhide CS' w2 (sl.unhide K2))
    go_wp2_with fail
    refine (sl.unhide C3).mono ?_; rintro e w3 ⟨qv, rfl, m3⟩
    have m3' : wo.Made w2 w3 qv [] := m3
    obtain ⟨qa, qc, rfl, _⟩ := sl.Sl.of_own m3'.1
    have Q3 := sl.hide (sl.Own.of m3'.1)
    have R3 := sl.hide ((sl.unhide R2).kept m3.2)
    have K3 := sl.hide (sl.grown_trans (r := none) (sl.unhide K2) m3.2)
    clear m3 m3' C3 K2 R2 F2 z0 z1
    go_wp2_with fail
    refine (dcls.sameC _ _ [] _ (by simp) (sl.unhide R3).sl (sl.unhide Q3).sl).mono ?_; rintro e w4 ⟨rfl, g4⟩
    have K4 := sl.hide (sl.grown_trans (r := none) (sl.unhide K3) g4)
    have F4 := sl.hide ((sl.unhide F1).kept (sl.unhide K4))
    have z0 := (sl.unhide F4).c0
    have z1 := (sl.unhide F4).c1
    have C5 := sl.unhide CN w4 (sl.unhide K4)
    clear g4 K3 R3 Q3 CS'
    cases hcb : ok.cnfB n LL with
    | false =>
      rw [hcb] at C5
      have C5' := sl.hide C5
      clear C5 hcb
      go_wp2_with fail
      refine (sl.unhide C5').mono ?_; rintro e w5 ⟨rfl, g5⟩
      have G5 := sl.hide (sl.grown_trans (r := none) (sl.unhide G1) (sl.grown_trans (r := none) (sl.unhide K4) g5))
      clear g5
      go_wp2_with fail
      go_ret
      exact ⟨by simp, sl.below_of (sl.unhide G5)⟩
    | true =>
      rw [hcb] at C5
      have C5' := sl.hide C5
      obtain ⟨m, rfl, h24, h120⟩ := ks.cnf_parts hcb
      have HC := sl.hide hcb
      clear C5 hcb
      by_cases h10 : m ≤ 10
      · have h10' : ¬ (10 : Int) < (m : Int) := by omega
        have c0 := (ks.count_zero (LL := LL) (show m ≤ 14 by omega) (sl.unhide HC)).2 (sl.unhide HO)
        go_wp2_with fail
        refine (sl.unhide C5').mono ?_; rintro e w5 ⟨rfl, g5⟩
        have K5 := sl.hide (sl.grown_trans (r := none) (sl.unhide K4) g5)
        have F5 := sl.hide ((sl.unhide F1).kept (sl.unhide K5))
        have y0 := (sl.unhide F5).c0
        have y1 := (sl.unhide F5).c1
        have c6 := sl.unhide CC w5 (sl.unhide K5)
        rw [c0] at c6
        have C6 := sl.hide c6
        clear g5 c6 c0 z0 z1 C5'
        go_wp2_with fail
        refine (sl.unhide C6).mono ?_; rintro e w6 ⟨rfl, g6⟩
        have G6 := sl.hide (sl.grown_trans (r := none) (sl.unhide G1) (sl.grown_trans (r := none) (sl.unhide K5) g6))
        clear g6
        go_wp2_with fail
        go_ret
        exact ⟨by simp, sl.below_of (sl.unhide G6)⟩
      · have h10' : (10 : Int) < (m : Int) := by omega
        go_wp2_with fail
        refine (sl.unhide C5').mono ?_; rintro e w5 ⟨rfl, g5⟩
        have K5 := sl.hide (sl.grown_trans (r := none) (sl.unhide K4) g5)
        have y0 := ((sl.unhide F1).kept (sl.unhide K5)).c0
        have G5 := sl.hide (sl.grown_trans (r := none) (sl.unhide G1) (sl.unhide K5))
        clear g5
        go_wp2_with fail
        go_ret
        exact ⟨by simp, sl.below_of (sl.unhide G5)⟩
  | some l =>
    have hcb := sl.unhide HSO l hO
    obtain ⟨m, rfl, h24, h120⟩ := ks.cnf_parts hcb
    have hb : lq.Bits m l := by
      have := hO
      rw [ks.solve_yes (a := []) hcb rfl] at this
      exact (lq.lst_some this).1
    have hh : lq.holds LL [] l = true := by
      have := hO
      rw [ks.solve_yes (a := []) hcb rfl] at this
      exact (lq.lst_some this).2
    have hlm := hb.1
    subst hlm
    have tb : tr.trueB (l.length : Int) LL l = true := by
      unfold tr.trueB tr.assignB
      rw [hcb, decide_eq_true rfl, Bool.true_and, Bool.true_and, ← ks.holds_nil, hh, Bool.and_true, List.all_eq_true]
      intro x hx
      have := hb.2 x hx
      unfold tr.bitB
      rw [decide_eq_true_iff]
      omega
    rw [hO] at CI CS
    have CI' := sl.hide CI
    have CS' := sl.hide CS
    have HO := sl.hide hO
    have HC := sl.hide hcb
    have CTR := fun (w' : World) (u : Value) (g : W1.grownBy w' none) (hs : sl.Sl w' u l) => tr.implCnfTrue (.slice va LL.length vc) u (l.length : Int) LL l w' ht (by omega) ((sl.unhide O1).kept g).sls hs
    rw [tb] at CTR
    have CTR' := sl.hide CTR
    clear CI CS hO hSl hcb hb hh tb HSO CTR
    go_wp2_with fail
    rw [← hW1]
    refine (sl.unhide CI').mono ?_; rintro e w2 ⟨rv, rfl, m2⟩
    clear hW1 z0 z1 CI'
    generalize w1.heap.size = fb at *
    have m2' : wo.Made W1 w2 rv l := m2
    obtain ⟨ra, rc, rfl, _⟩ := sl.Sl.of_own m2'.1
    have R2 := sl.hide m2'
    have K2 := sl.hide m2.2
    have F2 := sl.hide ((sl.unhide F1).kept m2.2)
    clear m2 m2'
    have z0 := (sl.unhide F2).c0
    have z1 := (sl.unhide F2).c1
    have C3 := sl.hide (sl.unhide CS' w2 (sl.unhide K2))
    go_wp2_with fail
    refine (sl.unhide C3).mono ?_; rintro e w3 ⟨qv, rfl, m3⟩
    have m3' : wo.Made w2 w3 qv l := m3
    obtain ⟨qa, qc, rfl, _⟩ := sl.Sl.of_own m3'.1
    have Q3 := sl.hide (sl.Own.of m3'.1)
    have R3 := sl.hide (ks.mup (sl.unhide R2) m3.2)
    have K3 := sl.hide (sl.grown_trans (r := none) (sl.unhide K2) m3.2)
    clear m3 m3' C3 K2 R2 F2 z0 z1
    go_wp2_with fail
    refine (dcls.sameC _ _ l _ (by omega) (sl.Sl.of_own (sl.unhide R3).1) (sl.unhide Q3).sl).mono ?_; rintro e w4 ⟨rfl, g4⟩
    have K4 := sl.hide (sl.grown_trans (r := none) (sl.unhide K3) g4)
    have R4 := sl.hide (ks.mup (sl.unhide R3) g4)
    have F4 := sl.hide ((sl.unhide F1).kept (sl.unhide K4))
    have z0 := (sl.unhide F4).c0
    have z1 := (sl.unhide F4).c1
    have C5 := sl.unhide CN w4 (sl.unhide K4)
    rw [sl.unhide HC] at C5
    have C5' := sl.hide C5
    clear g4 K3 R3 Q3 CS' C5
    by_cases h10 : l.length ≤ 10
    · have h10' : ¬ (10 : Int) < (l.length : Int) := by omega
      go_wp2_with fail
      refine (sl.unhide C5').mono ?_; rintro e w5 ⟨rfl, g5⟩
      have K5 := sl.hide (sl.grown_trans (r := none) (sl.unhide K4) g5)
      have R5 := sl.hide (ks.mup (sl.unhide R4) g5)
      have F5 := sl.hide ((sl.unhide F1).kept (sl.unhide K5))
      have y0 := (sl.unhide F5).c0
      clear g5 z0 z1 C5' F4 R4 K4
      go_wp2_with fail
      clear y0
      go_loopw [8] (fun i wr => ∃ k : Nat, k ≤ l.length ∧ i = .int .i64 (k : Int) ∧ Hid (w5.grownBy wr none)) (fun i _ => l.length - (intOf i).toNat)
      case atStart => exact ⟨0, Nat.zero_le _, rfl, sl.grown_refl _⟩
      case round =>
        obtain ⟨k, hk, rfl, hg⟩ := hrel
        have KR := sl.hide (sl.grown_trans (r := none) (sl.unhide K5) (sl.unhide hg))
        have RR := sl.hide (ks.mup (sl.unhide R5) (sl.unhide hg))
        have FR := sl.hide ((sl.unhide F1).kept (sl.unhide KR))
        have x0 := (sl.unhide FR).c0
        have x1 := (sl.unhide FR).c1
        by_cases hlt : k < l.length
        · have hi' : (k : Int) < (l.length : Int) := by omega
          obtain ⟨g, cap, e, _⟩ := (sl.unhide RR).1.form (by omega)
          rw [Value.slice.injEq] at e
          obtain ⟨rfl, hz, rfl⟩ := e
          clear hz
          have c1 : wr.cell? ⟨g, k, none⟩ = some (.int .i64 (l.getD k 0)) := by
            rw [(sl.unhide RR).1.cellAt k (by omega)]
            simp [sl.ints, hlt]
          by_cases h1 : l.getD k 0 = 0
          · rw [h1] at c1
            clear h1
            go_wp2_with fail
            go_roundw
            case rel => exact ⟨k + 1, by omega, by go_num, sl.unhide hg⟩
            case measure => simp [intOf]; omega
          · have ln := ks.less_none h24 (sl.unhide HC) (sl.unhide HO) hlt h1
            have hy0 : (l.getD k 0 == 0) = false := beq_eq_false_iff_ne.2 h1
            have CLt := sl.hide (fun (w' : World) (g' : wr.grownBy w' none) => dl.lawsLits _ l w' (by omega) (sl.Sl.of_own (ks.mup (sl.unhide RR) g').1))
            have css_ := fun v2 w8 (m8 : wo.Made wr w8 v2 ((as_.tl 0 l).take k ++ [-(k : Int) - 1])) => ks.callW (.slice va LL.length vc) v2 (l.length : Int) LL ((as_.tl 0 l).take k ++ [-(k : Int) - 1]) w8 ((sl.unhide T1).kept (sl.grown_trans (r := none) (sl.unhide KR) m8.2)) ht (by rw [List.length_append, List.length_take, as_.tl_len]; simp; omega) ((sl.unhide O1).kept (sl.grown_trans (r := none) (sl.unhide KR) m8.2)).sls (sl.Sl.of_own m8.1)
            rw [ln] at css_
            have CSS := sl.hide css_
            have hTk : Hid (((as_.tl 0 l).take k).length = k) := by show _ = _; rw [List.length_take, as_.tl_len]; omega
            have hab1 : Hid (([] : List Int).length + ((as_.tl 0 l).take k).length ≤ 4194304) := by show _ ≤ _; rw [sl.unhide hTk]; simp; omega
            have hab2 : Hid (((as_.tl 0 l).take k).length + [-(k : Int) - 1].length ≤ 4194304) := by show _ ≤ _; rw [sl.unhide hTk]; simp; omega
            have hw1 : IntKind.i64.wrap (-(k : Int)) = -(k : Int) := by rw [IntKind.wrap_i64]; omega
            have hw2 : IntKind.i64.wrap (-(k : Int) - 1) = -(k : Int) - 1 := by rw [IntKind.wrap_i64]; omega
            have TLG : Hid (∀ j, j < k → (as_.tl 0 l)[j]? = some (((as_.tl 0 l).take k).getD j 0)) := by
              intro j hj
              have hjl : j < (as_.tl 0 l).length := by rw [as_.tl_len]; omega
              rw [List.getD_eq_getElem?_getD, List.getElem?_take, if_pos hj, List.getElem?_eq_getElem hjl]
              rfl
            have gD0 : Hid (wr.grownBy wr.drew none) := cf.grown_drew wr none
            have gA : Hid (wr.grownBy (wr.alloc (.cells #[] 3)).drew none) := sl.grown_trans (World.grownBy_alloc _ _ none) (cf.grown_drew _ none)
            have gB : Hid (wr.grownBy (wr.alloc (.cells #[.int .i64 (-(k : Int) - 1)] 3)).drew none) := sl.grown_trans (World.grownBy_alloc _ _ none) (cf.grown_drew _ none)
            have gAB : Hid (wr.grownBy ((wr.alloc (.cells #[] 3)).alloc (.cells #[.int .i64 (-(k : Int) - 1)] 3)).drew none) := sl.grown_trans (sl.grown_trans (r := none) (World.grownBy_alloc _ _ none) (World.grownBy_alloc _ _ none)) (cf.grown_drew _ none)
            have gBA : Hid (wr.grownBy ((wr.alloc (.cells #[.int .i64 (-(k : Int) - 1)] 3)).alloc (.cells #[] 3)).drew none) := sl.grown_trans (sl.grown_trans (r := none) (World.grownBy_alloc _ _ none) (World.grownBy_alloc _ _ none)) (cf.grown_drew _ none)
            have nA : Hid ((wr.alloc (.cells #[] 3)).drew.ownsRow wr.heap.size 3 1 (.slice (some ⟨wr.heap.size, 0, none⟩) 0 0) ([] : List Int).length (sl.ints [])) := lq.made_nilD wr
            have nAB : Hid (((wr.alloc (.cells #[] 3)).alloc (.cells #[.int .i64 (-(k : Int) - 1)] 3)).drew.ownsRow wr.heap.size 3 1 (.slice (some ⟨wr.heap.size, 0, none⟩) 0 0) ([] : List Int).length (sl.ints [])) := (lq.nil_one wr (-(k : Int) - 1)).1
            have nBA : Hid (((wr.alloc (.cells #[.int .i64 (-(k : Int) - 1)] 3)).alloc (.cells #[] 3)).drew.ownsRow wr.heap.size 3 1 (.slice (some ⟨wr.heap.size + 1, 0, none⟩) 0 0) ([] : List Int).length (sl.ints [])) := (lq.one_nil wr (-(k : Int) - 1)).1
            have bB : Hid ((wr.alloc (.cells #[.int .i64 (-(k : Int) - 1)] 3)).drew.cell? ⟨wr.heap.size, 0, none⟩ = some (.int .i64 (-(k : Int) - 1))) := by show (wr.alloc (.cells #[.int .i64 (-(k : Int) - 1)] 3)).cell? _ = _; simp
            have bAB : Hid (((wr.alloc (.cells #[] 3)).alloc (.cells #[.int .i64 (-(k : Int) - 1)] 3)).drew.cell? ⟨wr.heap.size + 1, 0, none⟩ = some (.int .i64 (-(k : Int) - 1))) := by show ((wr.alloc (.cells #[] 3)).alloc (.cells #[.int .i64 (-(k : Int) - 1)] 3)).cell? _ = _; simp
            have bBA : Hid (((wr.alloc (.cells #[.int .i64 (-(k : Int) - 1)] 3)).alloc (.cells #[] 3)).drew.cell? ⟨wr.heap.size, 0, none⟩ = some (.int .i64 (-(k : Int) - 1))) := by
              have := (World.grownBy_alloc (wr.alloc (.cells #[.int .i64 (-(k : Int) - 1)] 3)) (.cells #[] 3) none).cell (show (wr.alloc (.cells #[.int .i64 (-(k : Int) - 1)] 3)).cell? ⟨wr.heap.size, 0, none⟩ = some (.int .i64 (-(k : Int) - 1)) by simp) (fun e => by cases e)
              exact this
            have hfl := (sl.unhide FR).lt
            have CK := sl.hide (fun (w' : World) (g' : wr.grownBy w' none) => And.intro ((sl.unhide FR).kept g').c0 ((sl.unhide FR).kept g').c1)
            have hne : ¬ fb = wr.heap.size := by omega
            clear ln css_
            generalize l.getD k 0 = y at *
            go_wp2_with fail
            have HKL : Hid (k ≤ (as_.tl 0 l).length) := by show k ≤ _; rw [as_.tl_len]; omega
            go_region_held3 (fun w' => w'.cell? ⟨fb, 0, none⟩ = some (.int .i64 (l.length : Int)) ∧ w'.cell? ⟨fb, 1, none⟩ = some (.slice va LL.length vc)) (go_keep) (first
              | (go_at_call 21; refine (sl.unhide CLt _ (by first | exact sl.unhide gD0 | exact sl.unhide gA | exact sl.unhide gB | exact sl.unhide gAB | exact sl.unhide gBA)).mono ?_; rintro e w1 ⟨u1, rfl, m1⟩; obtain ⟨g1, c1', e1, _⟩ := m1.1.form (by rw [as_.tl_len]; omega); subst e1; have GL : Hid (wr.grownBy w1 none) := (by first | exact sl.grown_trans (r := none) (sl.unhide gD0) m1.2 | exact sl.grown_trans (r := none) (sl.unhide gA) m1.2 | exact sl.grown_trans (r := none) (sl.unhide gB) m1.2 | exact sl.grown_trans (r := none) (sl.unhide gAB) m1.2 | exact sl.grown_trans (r := none) (sl.unhide gBA) m1.2); have CB1 := sl.hide (ks.cells_pre m1.1 (sl.unhide TLG)); have hc1 := ks.row_cap m1.1 (sl.unhide HKL); rw [as_.tl_len]; (first | (have OA := sl.hide ((sl.unhide nA).kept m1.2 (.inr (fun e => by cases e)))) | (have OA := sl.hide ((sl.unhide nAB).kept m1.2 (.inr (fun e => by cases e)))) | (have OA := sl.hide ((sl.unhide nBA).kept m1.2 (.inr (fun e => by cases e)))) | skip); (first | (have XB := sl.hide (m1.2.cell (sl.unhide bB) (fun e => by cases e))) | (have XB := sl.hide (m1.2.cell (sl.unhide bAB) (fun e => by cases e))) | (have XB := sl.hide (m1.2.cell (sl.unhide bBA) (fun e => by cases e))) | skip); have NA1 := sl.hide (ks.nil_at w1 (sl.unhide GL).size); have NA2 := sl.hide (ks.nil_after w1 (-(k : Int) - 1) (sl.unhide GL).size); obtain ⟨k1, k2⟩ := sl.unhide CK _ (sl.unhide GL); have ne1 := World.new_ne w1 _ k1; have HS1 := sl.hide m1.2.size; (try simp only [World.size_alloc, ks.size_drew] at HS1); clear m1)
              | (refine ks.stepT (w := wr) (A := []) (B := (as_.tl 0 l).take k) (ad := ⟨g1, 0, none⟩) (by first | exact sl.unhide GL | exact sl.grown_trans (r := none) (sl.unhide GL) (World.grownBy_alloc _ _ none) | exact sl.grown_trans (r := none) (sl.grown_trans (r := none) (sl.unhide GL) (World.grownBy_alloc _ _ none)) (World.grownBy_alloc _ _ none)) (by first | exact sl.unhide OA | exact (sl.unhide OA).alloc _ | exact sl.unhide NA1 | exact (sl.unhide NA1).alloc _ | exact sl.unhide NA2) (fun j hj => sl.unhide CB1 _ (by first | exact sl.grown_refl _ | exact World.grownBy_alloc _ _ none | exact sl.grown_trans (r := none) (World.grownBy_alloc _ _ none) (World.grownBy_alloc _ _ none)) j (by rw [sl.unhide hTk] at hj; exact hj)) (sl.unhide hab1) (sl.unhide hTk).symm (by rfl) _ _ (by rfl) (by rfl) (by rfl) ?_; intro v2 w2 m2 g2; have M2 : Hid (wo.Made wr w2 v2 ((as_.tl 0 l).take k)) := sl.hide m2; (first | (have XB2 := sl.hide (g2.cell (sl.unhide XB) (fun e => by have q := Option.some.inj e; dsimp only at q; have hs := sl.unhide HS1; omega))) | (have XB2 := sl.hide (g2.cell ((World.grownBy_alloc w1 (.cells #[] 3) none).cell (sl.unhide XB) (fun e => by cases e)) (fun e => by have q := Option.some.inj e; dsimp only at q; have hs := sl.unhide HS1; omega))) | (have XB2 := sl.hide (g2.cell (ks.one_at w1 (-(k : Int) - 1)) (fun e => by have q := Option.some.inj e; dsimp only at q; have hs := sl.unhide HS1; omega))) | (have XB2 := sl.hide (g2.cell (ks.one_after w1 (-(k : Int) - 1)) (fun e => by have q := Option.some.inj e; dsimp only at q; have hs := sl.unhide HS1; omega))) | (have XB2 := sl.hide (g2.cell (ks.one_before w1 (-(k : Int) - 1)) (fun e => by have q := Option.some.inj e; dsimp only at q; have hs := sl.unhide HS1; omega))) | skip); obtain ⟨q1, q2⟩ := sl.unhide CK _ (sl.unhide M2).2; have ne2 := World.new_ne w2 _ q1; clear m2 g2)
              | (refine ks.stepT (w := wr) (A := (as_.tl 0 l).take k) (B := [-(k : Int) - 1]) (by first | exact (sl.unhide M2).2 | exact sl.grown_trans (r := none) (sl.unhide M2).2 (World.grownBy_alloc _ _ none)) (by first | exact (sl.unhide M2).1 | exact (sl.unhide M2).1.alloc _) (by first | exact ks.one_cell (sl.unhide XB2) | exact ks.one_cell (ks.one_at w2 (-(k : Int) - 1))) (sl.unhide hab2) (by rfl) (by rfl) _ _ (by rfl) (by rfl) (by rfl) ?_; intro v3 w3 m3 g3; have M3 := sl.hide m3; obtain ⟨p1, p2⟩ := sl.unhide CK _ m3.2; clear m3 g3)
              | (go_at_call 20; refine (sl.unhide CSS _ _ (sl.unhide M3)).mono ?_; rintro e w9 ⟨r9, rfl, m9⟩; have K9 := sl.hide (sl.grown_trans (r := none) (sl.unhide M3).2 m9.2); obtain ⟨t1, t2⟩ := sl.unhide CK _ (sl.unhide K9); clear m9))
            all_goals
              have GR := sl.hide (sl.grown_trans (r := none) (sl.unhide hg) (sl.unhide K9))
              go_wp2_with fail
              go_roundw
              case rel => exact ⟨k + 1, by omega, by go_num, sl.unhide GR⟩
              case measure => simp [intOf]; omega
        · have hi' : ¬ (k : Int) < (l.length : Int) := by omega
          have cz : ct.countI (l.length : Int) LL ≠ 0 := fun h => by
            have := (ks.count_zero (LL := LL) (show l.length ≤ 14 by omega) (sl.unhide HC)).1 h
            rw [sl.unhide HO] at this
            cases this
          have cp := ks.count_pos (LL := LL) (show l.length ≤ 14 by omega) (sl.unhide HC)
          have C6 := sl.hide (sl.unhide CTR' wr _ (sl.unhide KR) (sl.Sl.of_own (sl.unhide RR).1))
          have c7 := fun (w' : World) (g' : W1.grownBy w' none) => sl.unhide CC w' g'
          have hpos : (0 : Int) < ct.countI (l.length : Int) LL := by omega
          generalize ct.countI (l.length : Int) LL = cI at *
          have C7 := sl.hide c7
          clear c7 cz cp
          go_wp2_with fail
          refine (sl.unhide C6).mono ?_; rintro e w6 ⟨rfl, g6⟩
          have K6 := sl.hide (sl.grown_trans (r := none) (sl.unhide KR) g6)
          have F6 := sl.hide ((sl.unhide F1).kept (sl.unhide K6))
          have u0 := (sl.unhide F6).c0
          have u1 := (sl.unhide F6).c1
          have C8 := sl.hide (sl.unhide C7 w6 (sl.unhide K6))
          clear g6 x0 x1 C6
          go_wp2_with fail
          refine (sl.unhide C8).mono ?_; rintro e w7 ⟨rfl, g7⟩
          have G7 := sl.hide (sl.grown_trans (r := none) (sl.unhide G1) (sl.grown_trans (r := none) (sl.unhide K6) g7))
          clear g7
          go_wp2_with fail
          go_ret
          exact ⟨by simp, sl.below_of (sl.unhide G7)⟩
    · have h10' : (10 : Int) < (l.length : Int) := by omega
      go_wp2_with fail
      refine (sl.unhide C5').mono ?_; rintro e w5 ⟨rfl, g5⟩
      have K5 := sl.hide (sl.grown_trans (r := none) (sl.unhide K4) g5)
      have F5 := sl.hide ((sl.unhide F1).kept (sl.unhide K5))
      have y0 := (sl.unhide F5).c0
      have y1 := (sl.unhide F5).c1
      have C6 := sl.hide (sl.unhide CTR' w5 _ (sl.unhide K5) (sl.Sl.of_own (ks.mup (sl.unhide R4) g5).1))
      clear g5 z0 z1 C5'
      go_wp2_with fail
      refine (sl.unhide C6).mono ?_; rintro e w6 ⟨rfl, g6⟩
      have G6 := sl.hide (sl.grown_trans (r := none) (sl.unhide G1) (sl.grown_trans (r := none) (sl.unhide K5) g6))
      clear g6
      go_wp2_with fail
      go_ret
      exact ⟨by simp, sl.below_of (sl.unhide G6)⟩

/-! ### the row's step (the guide's own frame) -/
set_option maxRecDepth 100000 in
theorem contract (H : Type) (enc : TypeId × Value → H) (W : World) (base : Nat) (args : Array Value) (ds gs : List (DataW H)) (before : List MemPlace)
    (hval : ∀ (j : Nat) t v, Tryd.f3.params[j]? = some t → args[j]? = some v → Value.okWide Tryd.prog W .any base t v)
    (hW : DataW.Whole enc Tryd.prog Tryd.f3.params.toList Rows.fnSolveSpec.vars false W args.toList ds gs before) (hL : laidMetH Tryd.prog Rows.fnSolveRow.laid W) :
    Calls Tryd.prog 3 args W fun e W' => ∃ v, e = .returned v ∧ Rows.fnSolveSpec.post enc Tryd.prog Tryd.f3 false true false false W args v W' := by
  have hW' := hW
  obtain ⟨p, q, hA0, hV, rfl, hfz, hnd⟩ := hW
  have hA : DataW.TrodAll enc Tryd.prog W 0 (fun _ => true) true Tryd.f3.params.toList args.toList ds p := hA0
  rw [Tryd.params3] at hA hval
  obtain ⟨v0, vs0, d0, ds0, p0, q0, hargs, rfl, rfl, h0, r0⟩ := trodAll_cons hA
  obtain ⟨rfl, rfl, rfl⟩ := trodAll_nil r0
  obtain rfl : args = #[v0] := by cases args; simp_all
  obtain ⟨rfl, rfl⟩ := trodVars_none hV
  obtain ⟨a0, len0, cap0, rfl⟩ := okWide_slice Tryd.underlying22 (hval 0 22 v0 rfl rfl)
  have k0 := h0
  have lt0 : ∀ x ∈ p0, x.block < W.heap.size := by obtain ⟨m, hm⟩ := k0; exact DataW.trod_lt m _ _ _ hm
  obtain ⟨z0, w0⟩ : ∃ zs, IsRow .u8 W a0 len0 cap0 zs := by
    obtain ⟨fuel, hf⟩ := h0
    rcases open_ints Tryd.underlying22 Tryd.underlying5 (by kernel_rfl) hf with ⟨hcs, _⟩ | ⟨x, l, c, zs, hcs, _, hl, hm, hz, _, hcell, hwz⟩
    · simp [Value.cells] at hcs
      obtain ⟨rfl, rfl, rfl⟩ := hcs
      exact ⟨[], .inl ⟨rfl, rfl, rfl, rfl⟩⟩
    · simp [Value.cells] at hcs
      obtain ⟨rfl, rfl, rfl⟩ := hcs
      exact ⟨zs, .inr ⟨_, rfl, hl, hm, by simpa using hz, hcell, hwz⟩⟩
  clear hA0
  refine (walk a0 len0 cap0 z0 W w0 (table hL)).mono fun e W' ⟨he, bel⟩ => ?_
  subst he
  exact ⟨_, rfl, _, _, _, [], _, [], hW', trodAll_mk1 (shut_bool Tryd.underlying4 _), (trodAll_cons_mk (Below.trod laidOut (by kernel_rfl) (of_decide_eq_true (by kernel_rfl)) k0 bel lt0) trodAll_mk0), rfl, bel.frame _, fun h => by cases h⟩

set_option maxRecDepth 100000 in
theorem lifted (os : Os) (started : os.Started) (H : Type) (enc : TypeId × Value → H) (F : Stop.Interp) :
    ReturnsInHanded {} Tryd.checked os 3 .any ((OpenSpec.ofChange Rows.fnSolveSpec).preRow enc Tryd.prog Tryd.f3 Rows.fnSolveRow.domain false Rows.fnSolveRow.laid) (((OpenSpec.ofChange Rows.fnSolveSpec).at F).post enc Tryd.prog Tryd.f3 false true false false) := by
  refine returnsInHanded_of_row (C := Tryd.checked) (s := OpenSpec.ofChange Rows.fnSolveSpec) own started (by kernel_rfl) Tryd.func3
    (witness_row_at (enc := enc) (C := Tryd.checked) false ({ World.holding Tryd.prog os ⟨#[], #[], []⟩ with heap := (World.holding Tryd.prog os ⟨#[], #[], []⟩).heap.modify 0 fun | .cells _ t frozen => .cells (Lib.deBruijn64tab.map fun (n : Nat) => Value.int .u8 n).toArray t frozen | o => o } : World) #[.slice none 0 0] rfl (by kernel_rfl) (by kernel_rfl) (by kernel_rfl)
      (OpenSpec.preRow_of_cond 8 (x := ([.nil], [], [])) (by kernel_rfl) (by kernel_rfl) (fun k hk => by cases hk) (by kernel_rfl) (laidMet_of_run' 8 (by kernel_rfl) (by kernel_rfl)))) ?_
  intro W base args ds gs before hval hW _ _ _ hL _ _
  exact contract H enc W base args ds gs before hval hW hL

theorem said : Rows.FnSolveSaid :=
  OpenClaim.holds_of_cond 3 Tryd.f3 rfl rfl rfl rfl rfl rfl rfl ⟨rfl, rfl, rfl, rfl, rfl⟩ rfl rfl rfl rfl rfl (by kernel_rfl) Tryd.func3 (by kernel_rfl)
    (of_decide_eq_true (by kernel_rfl)) (by unfold Func.isWrapper; first | (rw [if_pos (by decide +kernel)]; kernel_rfl) | (rw [if_neg (by decide +kernel)]; exact ⟨rfl, rfl⟩))
    (fun os started H enc _ F => by rw [OpenClaim.pre_eq_preRow]; exact lifted os started H enc F)

theorem plain (f : FuncId) (fn : Func) (hf : Tryd.pinned.checked.prog.funcNamed "loop.example/g00123/laws.FnSolve" = some f) (hfn : Tryd.pinned.checked.prog.funcs[f]? = some fn) :
    false = Tryd.pinned.checked.prog.looks [] ∧ ∀ (j : Nat) t, fn.params[j]? = some t → Tryd.pinned.checked.prog.wantsStandIn t = false := by
  obtain rfl : f = 3 := Option.some.inj ((show Tryd.prog.funcNamed "loop.example/g00123/laws.FnSolve" = some 3 by kernel_rfl).symm.trans hf) |>.symm
  obtain rfl : fn = Tryd.f3 := (Option.some.inj (Tryd.func3.symm.trans hfn)).symm
  refine ⟨by kernel_rfl, fun j t ht => ?_⟩
  rw [Tryd.params3] at ht
  obtain rfl : t = 22 := by simpa using Array.mem_of_getElem? ht
  exact (show Tryd.prog.wantsStandIn 22 = false by kernel_rfl)

/-- the statement: the row's tied card -/
theorem proved : Rows.FnSolveCardSaid :=
  Claim7.holds_tied_plain_at .later [] _ _ _ _ said (fun _ h => by cases h) (by kernel_rfl) (fun _ h => by cases h) fnSolve_row_tie rfl ⟨rfl, rfl⟩ (by kernel_rfl) rfl plain (by kernel_rfl)
#print axioms proved
end Go.Proofs.YtapkckfgbimmcaaDoor.fnSolve
