/- At every byte list the law FnCore returns true (what is left of assumptions that cannot be true together cannot be either, and without any one of it the rest can); the library's table of places lies as its text lays it (tied). -/
import Derived.Test.YtapkckfgbimmcaaDoorCards
import Derived.Test.YtapkckfgbimmcaaDoorTie
import Derived.Test.YtapkckfgbimmcaaDoorJCore
import Derived.Test.YtapkckfgbimmcaaDoorDCl
import Derived.Test.YtapkckfgbimmcaaDoorDVa
import Derived.Test.YtapkckfgbimmcaaDoorDc
import Derived.Test.YtapkckfgbimmcaaDoorDf
import Derived.WalkKit
import Derived.ProofKit
import Derived.OpenShut
import Derived.ShutString
import Derived.ChangeOld
import Derived.Below
import Derived.Deep.DeepHandedRow
import Derived.Lib.LaidTab
import Derived.Lib.TrailingZeros
import Derived.Stop.LaidErr
import Derived.LaidHandle
import Derived.LaidSub
namespace Go.Proofs.YtapkckfgbimmcaaDoor.fnCore
open Go.ChangeShapes Go.WideShapes Go.ChangeAt Go.RowKit
open Go.ChangeMaps (open_string shut_string)
set_option linter.unusedVariables false

theorem own : ownKnob Tryd.prog.godebug = none := by kernel_rfl
theorem laidOut : laidOutB Tryd.prog = true := by kernel_rfl

/-- what the walk is told of a slice of integers that came in -/
def IsRow (k : IntKind) (w : World) (a : Option Addr) (len cap : Nat) (zs : List Int) : Prop :=
  (a = none ∧ len = 0 ∧ cap = 0 ∧ zs = []) ∨
  ∃ x, a = some x ∧ len ≤ cap ∧ cap ≤ maxLen ∧ zs.length = cap ∧ (∀ i, i < zs.length → w.cell? (x.add i) = some (.int k (zs.getD i 0))) ∧ ∀ n ∈ zs, (Lit.int k n).wf = true

theorem gTab : Tryd.prog.globalNamed "math/bits.deBruijn64tab" = some 0 := by kernel_rfl
theorem gTabType : (Tryd.prog.globals[0]?).map (·.type) = some 115 := by kernel_rfl
theorem cellsTab : Tryd.prog.cellsOf 115 = 64 := by kernel_rfl
theorem cellsByte : Tryd.prog.cellsOf 5 = 1 := by kernel_rfl
/-- what the row's list gives: the table's cells hold its numbers -/
theorem table {W : World} (h : laidMetH Tryd.prog Rows.fnCoreRow.laid W) : srt.Tab W := by
  have t : Lib.TabIs Tryd.prog W "math/bits.deBruijn64tab" .u8 (Lib.deBruijn64tab.map fun (n : Nat) => (n : Int)) :=
    Lib.tabIs_of_head (rest := []) gTab gTabType Tryd.underlying115 Tryd.underlying5 cellsByte cellsTab h
  intro j hj
  have c := t.cell gTab j (by rw [List.length_map]; exact hj)
  rw [c]
  congr 2
  rw [List.getD, List.getD, List.getElem?_map]
  cases Lib.deBruijn64tab[j]? <;> rfl

/-! ### the walk -/
set_option maxRecDepth 100000 in
set_option maxHeartbeats 8000000 in
theorem walk (a0 : Option Addr) (len0 cap0 : Nat) (z0 : List Int) (w : World) (w0 : IsRow .u8 w a0 len0 cap0 z0) (hT : srt.Tab w) :
    Calls Tryd.prog 5 #[.slice a0 len0 cap0] w fun e w' => e = .returned (.bool true) ∧ Below w.heap.size w w' := by
  have hB := draw.of_rowB w0
  have hm : len0 ≤ 9223372036854775807 := by
    rcases w0 with ⟨_, h, _, _⟩ | ⟨_, _, h1, h2, _⟩
    · omega
    · unfold maxLen at h2
      omega
  clear w0
  by_cases hbig : 1048576 < len0
  · have C := sl.hide (draw.big a0 len0 cap0 w hm)
    rw [decide_eq_true hbig] at C
    clear hT
    go_enter Tryd.func5, Tryd.ntmps5
    go_wp2_with fail
    refine (sl.unhide C).mono ?_; rintro e w' ⟨rfl, rfl⟩
    go_wp2_with fail
    go_ret
    exact ⟨rfl, Below.refl _ _⟩
  have C := sl.hide (draw.big a0 len0 cap0 w hm)
  rw [decide_eq_false hbig] at C
  have HB := sl.hide hB
  have TT := sl.hide hT
  have hlen : len0 ≤ 1048576 := by omega
  clear hB hT hbig
  go_enter Tryd.func5, Tryd.ntmps5
  go_wp2_with fail
  refine (sl.unhide C).mono ?_; rintro e w' ⟨rfl, hw⟩; have hw' := hw.symm; clear hw; subst hw'
  clear C hm
  go_wp2_with fail
  refine (dl.drawCore a0 len0 cap0 _ hlen (sl.unhide HB)).mono ?_; rintro e w1 ⟨n, v, u, L, LL, rfl, hL49, ⟨mid, ou1, o1, hmid⟩, bd, g1⟩
  obtain ⟨va, vc, rfl⟩ := o1.len
  obtain ⟨ca, cc, rfl⟩ : ∃ ca cc, u = .slice ca L.length cc := by
    obtain ⟨xa, xc, e, _⟩ := ou1.sl
    exact ⟨xa, xc, e⟩
  have ht0 : css.tot LL ≤ 6050 := df.tot_bd bd (by decide)
  have ht : css.tot LL ≤ 1048576 := Nat.le_trans ht0 (by decide)
  have hL : L.length ≤ 1048576 := by omega
  have gA := World.grownBy_alloc w1 (.cells #[.int .i64 n, .slice va LL.length vc] 26) none
  have F1 := sl.hide (cf.Box.new 26 w1 (.int .i64 n) (.slice va LL.length vc))
  have G1 := sl.hide (sl.grown_trans (r := none) g1 gA)
  have O1 := sl.hide (o1.kept gA)
  have U1 := sl.hide (ou1.kept gA)
  have hn25 : -1 ≤ n ∧ n ≤ 25 := bd.1
  clear g1 o1 ou1 gA bd hmid
  have z0 := (sl.unhide F1).c0
  have z1 := (sl.unhide F1).c1
  obtain ⟨W1, hW1⟩ : ∃ W1, W1 = w1.alloc (.cells #[.int .i64 n, .slice va LL.length vc] 26) := ⟨_, rfl⟩
  rw [← hW1] at F1 G1 O1 U1 z0 z1
  have hCl := ks.core_len n LL L
  have CI := ks.implCore (.slice va LL.length vc) (.slice ca L.length cc) n LL L W1 ((sl.unhide TT).kept (sl.unhide G1)) ht hL (sl.unhide O1).sls (sl.unhide U1).sl
  have CS := fun (w' : World) (g : W1.grownBy w' none) => ks.specCore (.slice va LL.length vc) (.slice ca L.length cc) n LL L _ _ w' ht hL ((sl.unhide O1).kept g).sls ((sl.unhide U1).kept g)
  have CW := fun (w' : World) (g : W1.grownBy w' none) => ks.callW (.slice va LL.length vc) (.slice ca L.length cc) n LL L w' ((sl.unhide TT).kept (sl.grown_trans (r := none) (sl.unhide G1) g)) ht hL ((sl.unhide O1).kept g).sls ((sl.unhide U1).kept g).sl
  have claws : ∀ c, ks.coreO n LL L = some c → ks.CoreL n LL L c := fun c h => ks.core_laws h
  unfold lq.FromE at CI CS
  have CN := sl.hide (fun (w' : World) (g : W1.grownBy w' none) => ok.specCnfOk (.slice va LL.length vc) n LL w' ht ((sl.unhide O1).kept g).sls)
  cases hco : ks.coreO n LL L with
  | none =>
    rw [hco] at CI CS hCl
    have CI' := sl.hide CI
    have CS' := sl.hide CS
    have CW' := sl.hide CW
    clear CI CS CW claws hco hCl
    go_wp2_with fail
    rw [← hW1]
    refine (sl.unhide CI').mono ?_; rintro e w2 ⟨rv, rfl, m2⟩
    clear hW1 z0 z1 CI'
    have m2' : wo.Made W1 w2 rv [] := m2
    obtain ⟨ra, rc, rfl, _⟩ := sl.Sl.of_own m2'.1
    have R2 := sl.hide (sl.Own.of m2'.1)
    have K2 := sl.hide m2.2
    have F2 := sl.hide ((sl.unhide F1).kept m2.2)
    clear m2 m2'
    have z0 := (sl.unhide F2).c0
    have z1 := (sl.unhide F2).c1
    have C3 := sl.hide (sl.unhide CS' w2 (sl.unhide K2))
    go_wp2_with fail
    refine (sl.unhide C3).mono ?_; rintro e w3 ⟨qv, rfl, m3⟩
    have m3' : wo.Made w2 w3 qv [] := m3
    obtain ⟨qa, qc, rfl, _⟩ := sl.Sl.of_own m3'.1
    have Q3 := sl.hide (sl.Own.of m3'.1)
    have R3 := sl.hide ((sl.unhide R2).kept m3.2)
    have K3 := sl.hide (sl.grown_trans (r := none) (sl.unhide K2) m3.2)
    clear m3 m3' C3 K2 R2 F2 z0 z1
    go_wp2_with fail
    refine (dcls.sameC _ _ [] _ (by simp) (sl.unhide R3).sl (sl.unhide Q3).sl).mono ?_; rintro e w4 ⟨rfl, g4⟩
    have K4 := sl.hide (sl.grown_trans (r := none) (sl.unhide K3) g4)
    have F4 := sl.hide ((sl.unhide F1).kept (sl.unhide K4))
    have z0 := (sl.unhide F4).c0
    have z1 := (sl.unhide F4).c1
    have C5 := sl.hide (sl.unhide CW' w4 (sl.unhide K4))
    clear g4 K3 R3 Q3 CS' CW'
    generalize ks.cano n LL L = p at *
    go_wp2_with fail
    refine (sl.unhide C5).mono ?_; rintro e w5 ⟨r5, rfl, m5⟩
    have K5 := sl.hide (sl.grown_trans (r := none) (sl.unhide K4) m5.2)
    have F5 := sl.hide ((sl.unhide F1).kept (sl.unhide K5))
    have y0 := (sl.unhide F5).c0
    have y1 := (sl.unhide F5).c1
    have C6 := sl.hide (sl.unhide CN w5 (sl.unhide K5))
    clear m5 C5 z0 z1
    cases p
    · generalize ok.cnfB n LL = cb at *
      go_wp2_with fail
      refine (sl.unhide C6).mono ?_; rintro e w6 ⟨rfl, g6⟩
      have G6 := sl.hide (sl.grown_trans (r := none) (sl.unhide G1) (sl.grown_trans (r := none) (sl.unhide K5) g6))
      clear g6
      cases cb
      all_goals
        go_wp2_with fail
        go_ret
        exact ⟨by simp, sl.below_of (sl.unhide G6)⟩
    · have G6 := sl.hide (sl.grown_trans (r := none) (sl.unhide G1) (sl.unhide K5))
      go_wp2_with fail
      go_ret
      exact ⟨by simp, sl.below_of (sl.unhide G6)⟩
  | some c =>
    rw [hco] at CI CS hCl
    have hcl : c.length ≤ L.length := hCl
    have CLW := sl.hide (claws _ hco)
    have hsn := ks.solve_nil (claws _ hco).na
    rw [(claws _ hco).na, hsn] at CW
    have CI' := sl.hide CI
    have CS' := sl.hide CS
    have CW' := sl.hide CW
    clear CI CS CW claws hco hCl hsn
    go_wp2_with fail
    rw [← hW1]
    refine (sl.unhide CI').mono ?_; rintro e w2 ⟨rv, rfl, m2⟩
    clear hW1 z0 z1 CI'
    generalize w1.heap.size = fb at *
    have m2' : wo.Made W1 w2 rv c := m2
    obtain ⟨ra, rc, rfl, _⟩ := sl.Sl.of_own m2'.1
    have R2 := sl.hide m2'
    have K2 := sl.hide m2.2
    have F2 := sl.hide ((sl.unhide F1).kept m2.2)
    clear m2 m2'
    have z0 := (sl.unhide F2).c0
    have z1 := (sl.unhide F2).c1
    have C3 := sl.hide (sl.unhide CS' w2 (sl.unhide K2))
    go_wp2_with fail
    refine (sl.unhide C3).mono ?_; rintro e w3 ⟨qv, rfl, m3⟩
    have m3' : wo.Made w2 w3 qv c := m3
    obtain ⟨qa, qc, rfl, _⟩ := sl.Sl.of_own m3'.1
    have Q3 := sl.hide (sl.Own.of m3'.1)
    have R3 := sl.hide (ks.mup (sl.unhide R2) m3.2)
    have K3 := sl.hide (sl.grown_trans (r := none) (sl.unhide K2) m3.2)
    clear m3 m3' C3 K2 R2 F2 z0 z1
    go_wp2_with fail
    refine (dcls.sameC _ _ c _ (by omega) (sl.Sl.of_own (sl.unhide R3).1) (sl.unhide Q3).sl).mono ?_; rintro e w4 ⟨rfl, g4⟩
    have K4 := sl.hide (sl.grown_trans (r := none) (sl.unhide K3) g4)
    have R4 := sl.hide (ks.mup (sl.unhide R3) g4)
    have F4 := sl.hide ((sl.unhide F1).kept (sl.unhide K4))
    have z0 := (sl.unhide F4).c0
    have z1 := (sl.unhide F4).c1
    have C5 := sl.hide (sl.unhide CW' w4 (sl.unhide K4))
    clear g4 K3 R3 Q3 CS' CW'
    go_wp2_with fail
    refine (sl.unhide C5).mono ?_; rintro e w5 ⟨r5, rfl, m5⟩
    have K5 := sl.hide (sl.grown_trans (r := none) (sl.unhide K4) m5.2)
    have R5 := sl.hide (ks.mup (sl.unhide R4) m5.2)
    have F5 := sl.hide ((sl.unhide F1).kept (sl.unhide K5))
    have y0 := (sl.unhide F5).c0
    have y1 := (sl.unhide F5).c1
    have m5' : wo.Made w4 w5 r5 [] := m5
    obtain ⟨ba, bc, rfl, _⟩ := sl.Sl.of_own m5'.1
    have c6 := ks.callW (.slice va LL.length vc) (.slice ra c.length rc) n LL c w5 ((sl.unhide TT).kept (sl.grown_trans (r := none) (sl.unhide G1) (sl.unhide K5))) ht (by omega) ((sl.unhide O1).kept (sl.unhide K5)).sls (sl.Sl.of_own (sl.unhide R5).1)
    rw [(sl.unhide CLW).no] at c6
    have C6 := sl.hide c6
    clear m5 m5' C5 z0 z1 c6 R4 K4 F4
    go_wp2_with fail
    refine (sl.unhide C6).mono ?_; rintro e w6 ⟨r6, rfl, m6⟩
    have K6 := sl.hide (sl.grown_trans (r := none) (sl.unhide K5) m6.2)
    have R6 := sl.hide (ks.mup (sl.unhide R5) m6.2)
    have c7 := bset.implClauseSub (.slice ra c.length rc) (.slice ca L.length cc) c L w6 (by omega) hL (sl.Sl.of_own (sl.unhide R6).1) ((sl.unhide U1).kept (sl.unhide K6)).sl
    rw [(sl.unhide CLW).sub] at c7
    have C7 := sl.hide c7
    clear m6 C6 y0 y1 c7 R5 K5 F5
    go_wp2_with fail
    refine (sl.unhide C7).mono ?_; rintro e w' ⟨rfl, hw⟩; have hw' := hw.symm; clear hw; subst hw'
    clear C7
    go_wp2_with fail
    go_loopw [13] (fun i wr => ∃ k : Nat, k ≤ c.length ∧ i = .int .i64 (k : Int) ∧ Hid (w6.grownBy wr none)) (fun i _ => c.length - (intOf i).toNat)
    case atStart => exact ⟨0, Nat.zero_le _, rfl, sl.grown_refl _⟩
    case round =>
      obtain ⟨k, hk, rfl, hg⟩ := hrel
      have KR := sl.hide (sl.grown_trans (r := none) (sl.unhide K6) (sl.unhide hg))
      by_cases hlt : k < c.length
      · have FR := sl.hide ((sl.unhide F1).kept (sl.unhide KR))
        have x0 := (sl.unhide FR).c0
        have x1 := (sl.unhide FR).c1
        have hmd := ks.mup (sl.unhide R6) (sl.unhide hg)
        obtain ⟨g, cap, e, _⟩ := hmd.1.form (by omega)
        rw [Value.slice.injEq] at e
        obtain ⟨rfl, hz, rfl⟩ := e
        clear hz
        have hcap : c.length ≤ rc := by
          rcases hmd.1.2 with ⟨e, _⟩ | ⟨g', cap', cur, e, _, _, hn', _⟩
          · cases e
          · rw [Value.slice.injEq] at e
            obtain ⟨_, _, rfl⟩ := e
            exact hn'
        have hcapi : (k : Int) ≤ (rc : Int) := by omega
        have hi' : (k : Int) < (c.length : Int) := by omega
        have hi1 : (k : Int) + 1 ≤ (c.length : Int) := by omega
        have U5 := sl.hide (ks.own_pre (L := c) (k := k) hmd.1 (by omega))
        have hA1 : Hid (wr.grownBy (wr.alloc (.cells #[] 3)).drew none) := sl.hide (sl.grown_trans (World.grownBy_alloc _ _ none) (cf.grown_drew _ none))
        have ho1 := sl.hide (lq.made_nilD wr)
        have hu1 := sl.hide ((sl.unhide U5).kept (sl.unhide hA1))
        have hTl : (c.take k).length = k := by rw [List.length_take]; omega
        have hDl : (c.drop (k + 1)).length = c.length - (k + 1) := by rw [List.length_drop]
        have hab1 : Hid (([] : List Int).length + (c.take k).length ≤ 4194304) := by show _ ≤ _; simp; omega
        have hab2 : Hid ((c.take k).length + (c.drop (k + 1)).length ≤ 4194304) := by show _ ≤ _; omega
        have HB2 : Hid (∀ w2, wr.grownBy w2 none → ∀ j, j < (c.drop (k + 1)).length → w2.cell? ⟨g, k + 1 + j, none⟩ = some (.int .i64 ((c.drop (k + 1)).getD j 0))) := by
          intro w2 g2 j hj
          have := hmd.1.cellAt (k + 1 + j) (by omega)
          refine g2.cell (this.trans ?_) (fun e => by cases e)
          simp [sl.ints, show k + 1 + j < c.length by omega]
        have HTD := sl.hide (And.intro hTl hDl)
        have hcap2 : (k : Int) + 1 ≤ (rc : Int) := by omega
        have hw1 : IntKind.i64.wrap ((k : Int) + 1) = (k : Int) + 1 := by rw [IntKind.wrap_i64]; omega
        have hw2 : (0 : Int) ≤ (k : Int) + 1 := by omega
        have hw4 : (k : Int) ≤ (k : Int) + 1 := by omega
        have hw3 : ((k : Int) + 1).toNat = k + 1 := by omega
        have hfl := (sl.unhide FR).lt
        have hne : ¬ fb = wr.heap.size := by omega
        have a00 := ((sl.unhide FR).kept (World.grownBy_alloc wr (.cells #[] 3) none)).c0
        have a01 := ((sl.unhide FR).kept (World.grownBy_alloc wr (.cells #[] 3) none)).c1
        have css_ := fun v2 w8 (m8 : wo.Made wr w8 v2 (c.take k ++ c.drop (k + 1))) => ks.callW (.slice va LL.length vc) v2 n LL (c.take k ++ c.drop (k + 1)) w8 ((sl.unhide TT).kept (sl.grown_trans (r := none) (sl.unhide G1) (sl.grown_trans (r := none) (sl.unhide KR) m8.2))) ht (by rw [List.length_append, (sl.unhide HTD).1, (sl.unhide HTD).2]; omega) ((sl.unhide O1).kept (sl.grown_trans (r := none) (sl.unhide KR) m8.2)).sls (sl.Sl.of_own m8.1)
        have hmin : ks.cano n LL (c.take k ++ c.drop (k + 1)) = true := (sl.unhide CLW).min k hlt
        rw [hmin] at css_
        have CSS := sl.hide css_
        clear hTl hDl hmd css_ hmin hfl
        by_cases hkc : rc = k + 1
        · have HBX : Hid (∀ w5, wr.grownBy w5 none → ∀ j, j < (c.drop (k + 1)).length → w5.cell? ((⟨g, 0, none⟩ : Addr).add j) = some (.int .i64 ((c.drop (k + 1)).getD j 0))) := fun w5 g5 j hj => by have := (sl.unhide HTD).2; omega
          have HNL : Hid (0 = (c.drop (k + 1)).length) := by show 0 = _; have := (sl.unhide HTD).2; omega
          subst hkc
          go_wp2_with fail
          go_region_law
            (first
              | (go_simp; go_at_call 20; refine (sl.unhide CSS _ _ (sl.unhide M8)).mono ?_; rintro e w9 ⟨r9, rfl, m9⟩; have K9 := sl.hide (sl.grown_trans (r := none) (sl.unhide M8).2 m9.2); clear m9)
              | (refine app.stepI (A := []) (sl.unhide hA1) (sl.unhide ho1) (sl.unhide hu1) (sl.unhide hab1) (by rfl) _ _ (by rfl) (by rfl) (by rfl) ?_; intro v7 w7 m7 g7; have M7 : Hid (wo.Made wr w7 v7 (c.take k)) := sl.hide m7; have B7 := sl.hide (sl.unhide HBX w7 m7.2); have k0 := ((sl.unhide FR).kept m7.2).c0; have k1 := ((sl.unhide FR).kept m7.2).c1; clear m7 g7)
              | (refine ks.stepT (sl.unhide M7).2 (sl.unhide M7).1 (sl.unhide B7) (sl.unhide hab2) (sl.unhide HNL) (by rfl) _ _ (by rfl) (by rfl) (by rfl) ?_; intro v8 w8 m8 g8; have M8 := sl.hide m8; have j0 := ((sl.unhide FR).kept m8.2).c0; have j1 := ((sl.unhide FR).kept m8.2).c1; clear m8 g8))
          all_goals
            have GR := sl.hide (sl.grown_trans (r := none) (sl.unhide hg) (sl.unhide K9))
            go_wp2_with fail
            go_roundw
            case rel => exact ⟨k + 1, by omega, by go_num, sl.unhide GR⟩
            case measure => simp [intOf]; omega
        · have HBX : Hid (∀ w5, wr.grownBy w5 none → ∀ j, j < (c.drop (k + 1)).length → w5.cell? ((⟨g, k + 1, none⟩ : Addr).add j) = some (.int .i64 ((c.drop (k + 1)).getD j 0))) := fun w5 g5 j hj => by
            rw [Addr.add_mid]
            exact sl.unhide HB2 w5 g5 j hj
          have HNL : Hid (c.length - (k + 1) = (c.drop (k + 1)).length) := (sl.unhide HTD).2.symm
          go_wp2_with fail
          go_region_law
            (first
              | (go_simp; go_at_call 20; refine (sl.unhide CSS _ _ (sl.unhide M8)).mono ?_; rintro e w9 ⟨r9, rfl, m9⟩; have K9 := sl.hide (sl.grown_trans (r := none) (sl.unhide M8).2 m9.2); clear m9)
              | (refine app.stepI (A := []) (sl.unhide hA1) (sl.unhide ho1) (sl.unhide hu1) (sl.unhide hab1) (by rfl) _ _ (by rfl) (by rfl) (by rfl) ?_; intro v7 w7 m7 g7; have M7 : Hid (wo.Made wr w7 v7 (c.take k)) := sl.hide m7; have B7 := sl.hide (sl.unhide HBX w7 m7.2); have k0 := ((sl.unhide FR).kept m7.2).c0; have k1 := ((sl.unhide FR).kept m7.2).c1; clear m7 g7)
              | (refine ks.stepT (sl.unhide M7).2 (sl.unhide M7).1 (sl.unhide B7) (sl.unhide hab2) (sl.unhide HNL) (by rfl) _ _ (by rfl) (by rfl) (by rfl) ?_; intro v8 w8 m8 g8; have M8 := sl.hide m8; have j0 := ((sl.unhide FR).kept m8.2).c0; have j1 := ((sl.unhide FR).kept m8.2).c1; clear m8 g8))
          all_goals
            have GR := sl.hide (sl.grown_trans (r := none) (sl.unhide hg) (sl.unhide K9))
            go_wp2_with fail
            go_roundw
            case rel => exact ⟨k + 1, by omega, by go_num, sl.unhide GR⟩
            case measure => simp [intOf]; omega
      · have hi' : ¬ (k : Int) < (c.length : Int) := by omega
        have GZ := sl.hide (sl.grown_trans (r := none) (sl.unhide G1) (sl.unhide KR))
        go_wp2_with fail
        go_ret
        exact ⟨rfl, sl.below_of (sl.unhide GZ)⟩

/-! ### the row's step (the guide's own frame) -/
set_option maxRecDepth 100000 in
theorem contract (H : Type) (enc : TypeId × Value → H) (W : World) (base : Nat) (args : Array Value) (ds gs : List (DataW H)) (before : List MemPlace)
    (hval : ∀ (j : Nat) t v, Tryd.f5.params[j]? = some t → args[j]? = some v → Value.okWide Tryd.prog W .any base t v)
    (hW : DataW.Whole enc Tryd.prog Tryd.f5.params.toList Rows.fnCoreSpec.vars false W args.toList ds gs before) (hL : laidMetH Tryd.prog Rows.fnCoreRow.laid W) :
    Calls Tryd.prog 5 args W fun e W' => ∃ v, e = .returned v ∧ Rows.fnCoreSpec.post enc Tryd.prog Tryd.f5 false true false false W args v W' := by
  have hW' := hW
  obtain ⟨p, q, hA0, hV, rfl, hfz, hnd⟩ := hW
  have hA : DataW.TrodAll enc Tryd.prog W 0 (fun _ => true) true Tryd.f5.params.toList args.toList ds p := hA0
  rw [Tryd.params5] at hA hval
  obtain ⟨v0, vs0, d0, ds0, p0, q0, hargs, rfl, rfl, h0, r0⟩ := trodAll_cons hA
  obtain ⟨rfl, rfl, rfl⟩ := trodAll_nil r0
  obtain rfl : args = #[v0] := by cases args; simp_all
  obtain ⟨rfl, rfl⟩ := trodVars_none hV
  obtain ⟨a0, len0, cap0, rfl⟩ := okWide_slice Tryd.underlying22 (hval 0 22 v0 rfl rfl)
  have k0 := h0
  have lt0 : ∀ x ∈ p0, x.block < W.heap.size := by obtain ⟨m, hm⟩ := k0; exact DataW.trod_lt m _ _ _ hm
  obtain ⟨z0, w0⟩ : ∃ zs, IsRow .u8 W a0 len0 cap0 zs := by
    obtain ⟨fuel, hf⟩ := h0
    rcases open_ints Tryd.underlying22 Tryd.underlying5 (by kernel_rfl) hf with ⟨hcs, _⟩ | ⟨x, l, c, zs, hcs, _, hl, hm, hz, _, hcell, hwz⟩
    · simp [Value.cells] at hcs
      obtain ⟨rfl, rfl, rfl⟩ := hcs
      exact ⟨[], .inl ⟨rfl, rfl, rfl, rfl⟩⟩
    · simp [Value.cells] at hcs
      obtain ⟨rfl, rfl, rfl⟩ := hcs
      exact ⟨zs, .inr ⟨_, rfl, hl, hm, by simpa using hz, hcell, hwz⟩⟩
  clear hA0
  refine (walk a0 len0 cap0 z0 W w0 (table hL)).mono fun e W' ⟨he, bel⟩ => ?_
  subst he
  exact ⟨_, rfl, _, _, _, [], _, [], hW', trodAll_mk1 (shut_bool Tryd.underlying4 _), (trodAll_cons_mk (Below.trod laidOut (by kernel_rfl) (of_decide_eq_true (by kernel_rfl)) k0 bel lt0) trodAll_mk0), rfl, bel.frame _, fun h => by cases h⟩

set_option maxRecDepth 100000 in
theorem lifted (os : Os) (started : os.Started) (H : Type) (enc : TypeId × Value → H) (F : Stop.Interp) :
    ReturnsInHanded {} Tryd.checked os 5 .any ((OpenSpec.ofChange Rows.fnCoreSpec).preRow enc Tryd.prog Tryd.f5 Rows.fnCoreRow.domain false Rows.fnCoreRow.laid) (((OpenSpec.ofChange Rows.fnCoreSpec).at F).post enc Tryd.prog Tryd.f5 false true false false) := by
  refine returnsInHanded_of_row (C := Tryd.checked) (s := OpenSpec.ofChange Rows.fnCoreSpec) own started (by kernel_rfl) Tryd.func5
    (witness_row_at (enc := enc) (C := Tryd.checked) false ({ World.holding Tryd.prog os ⟨#[], #[], []⟩ with heap := (World.holding Tryd.prog os ⟨#[], #[], []⟩).heap.modify 0 fun | .cells _ t frozen => .cells (Lib.deBruijn64tab.map fun (n : Nat) => Value.int .u8 n).toArray t frozen | o => o } : World) #[.slice none 0 0] rfl (by kernel_rfl) (by kernel_rfl) (by kernel_rfl)
      (OpenSpec.preRow_of_cond 8 (x := ([.nil], [], [])) (by kernel_rfl) (by kernel_rfl) (fun k hk => by cases hk) (by kernel_rfl) (laidMet_of_run' 8 (by kernel_rfl) (by kernel_rfl)))) ?_
  intro W base args ds gs before hval hW _ _ _ hL _ _
  exact contract H enc W base args ds gs before hval hW hL

theorem said : Rows.FnCoreSaid :=
  OpenClaim.holds_of_cond 5 Tryd.f5 rfl rfl rfl rfl rfl rfl rfl ⟨rfl, rfl, rfl, rfl, rfl⟩ rfl rfl rfl rfl rfl (by kernel_rfl) Tryd.func5 (by kernel_rfl)
    (of_decide_eq_true (by kernel_rfl)) (by unfold Func.isWrapper; first | (rw [if_pos (by decide +kernel)]; kernel_rfl) | (rw [if_neg (by decide +kernel)]; exact ⟨rfl, rfl⟩))
    (fun os started H enc _ F => by rw [OpenClaim.pre_eq_preRow]; exact lifted os started H enc F)

theorem plain (f : FuncId) (fn : Func) (hf : Tryd.pinned.checked.prog.funcNamed "loop.example/g00123/laws.FnCore" = some f) (hfn : Tryd.pinned.checked.prog.funcs[f]? = some fn) :
    false = Tryd.pinned.checked.prog.looks [] ∧ ∀ (j : Nat) t, fn.params[j]? = some t → Tryd.pinned.checked.prog.wantsStandIn t = false := by
  obtain rfl : f = 5 := Option.some.inj ((show Tryd.prog.funcNamed "loop.example/g00123/laws.FnCore" = some 5 by kernel_rfl).symm.trans hf) |>.symm
  obtain rfl : fn = Tryd.f5 := (Option.some.inj (Tryd.func5.symm.trans hfn)).symm
  refine ⟨by kernel_rfl, fun j t ht => ?_⟩
  rw [Tryd.params5] at ht
  obtain rfl : t = 22 := by simpa using Array.mem_of_getElem? ht
  exact (show Tryd.prog.wantsStandIn 22 = false by kernel_rfl)

/-- the statement: the row's tied card -/
theorem proved : Rows.FnCoreCardSaid :=
  Claim7.holds_tied_plain_at .later [] _ _ _ _ said (fun _ h => by cases h) (by kernel_rfl) (fun _ h => by cases h) fnCore_row_tie rfl ⟨rfl, rfl⟩ (by kernel_rfl) rfl plain (by kernel_rfl)
#print axioms proved
end Go.Proofs.YtapkckfgbimmcaaDoor.fnCore
