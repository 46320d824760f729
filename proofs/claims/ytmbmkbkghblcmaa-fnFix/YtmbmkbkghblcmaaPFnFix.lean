/- Whatever the bytes that a formula and a literal are drawn from, the law FnFix returns true: impl.Fix answers as spec.Fix, what is left is true just where the formula is with the literal, and both ways make up twice how often it is true; no condition. -/
import Derived.Test.YtmbmkbkghblcmaaRows
import Derived.Test.YtmbmkbkghblcmaaFz
import Derived.Test.YtmbmkbkghblcmaaMf
import Derived.Test.YtmbmkbkghblcmaaDf
import Derived.Test.YtmbmkbkghblcmaaCu
import Derived.WalkKit
import Derived.ProofKit
import Derived.OpenShut
import Derived.ShutString
import Derived.ChangeOld
import Derived.Below
namespace Go.Proofs.Ytmbmkbkghblcmaa.fnFix
open Go.ChangeShapes Go.WideShapes Go.ChangeAt Go.RowKit
open Go.ChangeMaps (open_string shut_string)
set_option linter.unusedVariables false

theorem own : ownKnob Try.prog.godebug = none := by kernel_rfl
theorem laidOut : laidOutB Try.prog = true := by kernel_rfl

/-- what the walk is told of a slice of integers that came in -/
def IsRow (k : IntKind) (w : World) (a : Option Addr) (len cap : Nat) (zs : List Int) : Prop :=
  (a = none ∧ len = 0 ∧ cap = 0 ∧ zs = []) ∨
  ∃ x, a = some x ∧ len ≤ cap ∧ cap ≤ maxLen ∧ zs.length = cap ∧ (∀ i, i < zs.length → w.cell? (x.add i) = some (.int k (zs.getD i 0))) ∧ ∀ n ∈ zs, (Lit.int k n).wf = true

/-! ### the walk -/
set_option maxRecDepth 100000 in
set_option maxHeartbeats 8000000 in
theorem walk (a0 : Option Addr) (len0 cap0 : Nat) (z0 : List Int) (w : World) (w0 : IsRow .u8 w a0 len0 cap0 z0) :
    Calls Try.prog 3 #[.slice a0 len0 cap0] w fun e w' => e = .returned (.bool true) ∧ Below w.heap.size w w' := by
  have hB := draw.of_rowB w0
  have hm : len0 ≤ 9223372036854775807 := by
    rcases w0 with ⟨_, h, _, _⟩ | ⟨_, _, h1, h2, _⟩
    · omega
    · unfold maxLen at h2
      omega
  clear w0
  by_cases hbig : 1048576 < len0
  · have C := sl.hide (draw.big a0 len0 cap0 w hm)
    rw [decide_eq_true hbig] at C
    go_enter Try.func3, Try.ntmps3
    go_wp2_with fail
    refine (sl.unhide C).mono ?_; rintro e w' ⟨rfl, rfl⟩
    go_wp2_with fail
    go_ret
    exact ⟨rfl, Below.refl _ _⟩
  have C := sl.hide (draw.big a0 len0 cap0 w hm)
  rw [decide_eq_false hbig] at C
  have HB := sl.hide hB
  have hlen : len0 ≤ 1048576 := by omega
  clear hB hbig
  go_enter Try.func3, Try.ntmps3
  go_wp2_with fail
  refine (sl.unhide C).mono ?_; rintro e w' ⟨rfl, hw⟩; have hw' := hw.symm; clear hw; subst hw'
  clear C hm
  go_wp2_with fail
  refine (df.drawFix a0 len0 cap0 _ hlen (sl.unhide HB)).mono ?_; rintro e w1 ⟨n, v, x, LL, rfl, hx, bd, o1, g1⟩
  obtain ⟨va, vc, rfl⟩ := o1.len
  have ht : css.tot LL ≤ 1048576 := Nat.le_trans (df.tot_bd bd (Nat.le_refl _)) (by decide)
  have gA := World.grownBy_alloc w1 (.cells #[.int .i64 n, .slice va LL.length vc] 26) none
  have F1 := sl.hide (cf.Box.new 26 w1 (.int .i64 n) (.slice va LL.length vc))
  have G1 := sl.hide (sl.grown_trans (r := none) g1 gA)
  have O1 := sl.hide (o1.kept gA)
  have ci := fx.implFix (.slice va LL.length vc) n x LL _ ht (o1.kept gA).sls
  have cs := fun w3 (h : css.Sls w3 (.slice va LL.length vc) LL) => fx.specFix (.slice va LL.length vc) n x LL w3 ht h
  have hs1 := g1.size
  clear g1 o1 gA hx
  cases hfb : fx.fixB n LL x
  · have hN := (fx.fix_no hfb).1
    have hR := (fx.fix_no hfb).2
    obtain ⟨R0, hR0⟩ : ∃ R0 : List (List Int), R0 = [] := ⟨_, rfl⟩
    have hRl : R0.length ≤ 1048576 := by rw [hR0]; decide
    have hRi : ∀ i, (R0.getD i []).length ≤ 1048576 := fun i => by rw [hR0]; simp
    rw [← hR0] at hR
    clear hR0
    rw [hN, hR, hfb] at ci cs
    have CI := sl.hide ci
    have CS0 := sl.hide cs
    clear ci cs hN hR
    have z0 := (sl.unhide F1).c0
    have z1 := (sl.unhide F1).c1
    go_wp2_with fail
    refine (sl.unhide CI).mono ?_; rintro e w2 ⟨u2, rfl, o2, g2⟩
    obtain ⟨ua, uc, rfl⟩ := o2.len
    clear z0 z1 CI
    have gA := World.grownBy_alloc w2 (.cells #[.int .i64 0, .slice ua R0.length uc] 26) none
    have gB := sl.grown_trans (r := none) g2 gA
    have F2 := sl.hide ((sl.unhide F1).kept gB)
    have G2 := sl.hide (sl.grown_trans (r := none) (sl.unhide G1) gB)
    have O2 := sl.hide ((sl.unhide O1).kept gB)
    have E2 := sl.hide (cf.Box.new 26 w2 (.int .i64 0) (.slice ua R0.length uc))
    have P2 := sl.hide (o2.kept gA)
    have CS := sl.hide (sl.unhide CS0 _ (sl.unhide O2).sls)
    have s2 := sl.hide g2.size
    have z0 := (sl.unhide F2).c0
    have z1 := (sl.unhide F2).c1
    clear g2 gA gB o2 F1 G1 O1 CS0
    go_wp2_with fail
    refine (sl.unhide CS).mono ?_; rintro e w3 ⟨u3, rfl, o3, g3⟩
    obtain ⟨ta, tc, rfl⟩ := o3.len
    clear z0 z1 CS
    have gA := World.grownBy_alloc w3 (.cells #[.int .i64 0, .slice ta R0.length tc] 26) none
    have gB := sl.grown_trans (r := none) g3 gA
    have F3 := sl.hide ((sl.unhide F2).kept gB)
    have G3 := sl.hide (sl.grown_trans (r := none) (sl.unhide G2) gB)
    have O3 := sl.hide ((sl.unhide O2).kept gB)
    have E3 := sl.hide ((sl.unhide E2).kept gB)
    have P3 := sl.hide ((sl.unhide P2).kept gB)
    have W3 := sl.hide (cf.Box.new 26 w3 (.int .i64 0) (.slice ta R0.length tc))
    have CQ := sl.hide (df.sameList _ _ R0 _ hRl hRi (sl.unhide P3).sls (o3.kept gA).sls)
    have z0 := (sl.unhide E3).c0
    have z1 := (sl.unhide E3).c1
    have y1 := (sl.unhide W3).c1
    clear g3 gA gB o3 F2 G2 O2 E2 P2
    go_wp2_with fail
    refine (sl.unhide CQ).mono ?_; rintro e w4 ⟨rfl, g4⟩
    clear z0 z1 y1 CQ W3
    have F4 := sl.hide ((sl.unhide F3).kept g4)
    have G4 := sl.hide (sl.grown_trans (r := none) (sl.unhide G3) g4)
    have O4 := sl.hide ((sl.unhide O3).kept g4)
    have E4 := sl.hide ((sl.unhide E3).kept g4)
    have P4 := sl.hide ((sl.unhide P3).kept g4)
    clear g4 F3 G3 O3 E3 P3
    have z0 := (sl.unhide E4).c0
    go_wp2_with fail
    go_ret
    exact ⟨rfl, sl.below_of (sl.unhide G4)⟩
  · have hN := (fx.fix_yes hfb).1
    have hR := (fx.fix_yes hfb).2
    have htf : css.tot (fx.fixL x LL) ≤ 1048576 := Nat.le_trans (fx.fixL_tot x LL) ht
    have hRl : (fx.fixL x LL).length ≤ 1048576 := Nat.le_trans (css.tot_len _) htf
    have hRi : ∀ i, ((fx.fixL x LL).getD i []).length ≤ 1048576 := fun i => Nat.le_trans (css.tot_in _ i) htf
    have hcx : ok.cnfB n LL = true ∧ ok.litIn n x = true := by
      unfold fx.fixB at hfb
      rw [Bool.and_eq_true] at hfb
      exact hfb
    have hn0 : 0 ≤ n ∧ n ≤ 24 := by
      have h := hcx.1
      unfold ok.cnfB at h
      simp only [Bool.and_eq_true, decide_eq_true_iff] at h
      exact h.1.1
    obtain ⟨m, rfl⟩ := Int.eq_ofNat_of_zero_le hn0.1
    have hm24 : m ≤ 24 := by omega
    have hpl := mf.litIn_pl hcx.2
    have hvar := (mf.var_pl hpl.1).1
    have hxb := lits.okB_iff.1 hpl.1

    rw [hN, hR, hfb] at ci cs
    have CI := sl.hide ci
    have CS0 := sl.hide cs
    clear ci cs hN hR
    have z0 := (sl.unhide F1).c0
    have z1 := (sl.unhide F1).c1
    go_wp2_with fail
    refine (sl.unhide CI).mono ?_; rintro e w2 ⟨u2, rfl, o2, g2⟩
    obtain ⟨ua, uc, rfl⟩ := o2.len
    clear z0 z1 CI
    have gA := World.grownBy_alloc w2 (.cells #[.int .i64 (m : Int), .slice ua (fx.fixL x LL).length uc] 26) none
    have gB := sl.grown_trans (r := none) g2 gA
    have F2 := sl.hide ((sl.unhide F1).kept gB)
    have G2 := sl.hide (sl.grown_trans (r := none) (sl.unhide G1) gB)
    have O2 := sl.hide ((sl.unhide O1).kept gB)
    have E2 := sl.hide (cf.Box.new 26 w2 (.int .i64 (m : Int)) (.slice ua (fx.fixL x LL).length uc))
    have P2 := sl.hide (o2.kept gA)
    have CS := sl.hide (sl.unhide CS0 _ (sl.unhide O2).sls)
    have s2 := sl.hide g2.size
    have z0 := (sl.unhide F2).c0
    have z1 := (sl.unhide F2).c1
    clear g2 gA gB o2 F1 G1 O1 CS0
    go_wp2_with fail
    refine (sl.unhide CS).mono ?_; rintro e w3 ⟨u3, rfl, o3, g3⟩
    obtain ⟨ta, tc, rfl⟩ := o3.len
    clear z0 z1 CS
    have gA := World.grownBy_alloc w3 (.cells #[.int .i64 (m : Int), .slice ta (fx.fixL x LL).length tc] 26) none
    have gB := sl.grown_trans (r := none) g3 gA
    have F3 := sl.hide ((sl.unhide F2).kept gB)
    have G3 := sl.hide (sl.grown_trans (r := none) (sl.unhide G2) gB)
    have O3 := sl.hide ((sl.unhide O2).kept gB)
    have E3 := sl.hide ((sl.unhide E2).kept gB)
    have P3 := sl.hide ((sl.unhide P2).kept gB)
    have W3 := sl.hide (cf.Box.new 26 w3 (.int .i64 (m : Int)) (.slice ta (fx.fixL x LL).length tc))
    have CQ := sl.hide (df.sameList _ _ (fx.fixL x LL) _ hRl hRi (sl.unhide P3).sls (o3.kept gA).sls)
    have z0 := (sl.unhide E3).c0
    have z1 := (sl.unhide E3).c1
    have y1 := (sl.unhide W3).c1
    clear g3 gA gB o3 F2 G2 O2 E2 P2
    go_wp2_with fail
    refine (sl.unhide CQ).mono ?_; rintro e w4 ⟨rfl, g4⟩
    clear z0 z1 y1 CQ W3
    have F4 := sl.hide ((sl.unhide F3).kept g4)
    have G4 := sl.hide (sl.grown_trans (r := none) (sl.unhide G3) g4)
    have O4 := sl.hide ((sl.unhide O3).kept g4)
    have E4 := sl.hide ((sl.unhide E3).kept g4)
    have P4 := sl.hide ((sl.unhide P3).kept g4)
    clear g4 F3 G3 O3 E3 P3
    have CV := sl.hide (dva.values a0 len0 cap0 m w4 hlen hm24 ((sl.unhide HB).below (sl.below_of (sl.unhide G4))))
    have z0 := (sl.unhide F4).c0
    go_wp2_with fail
    refine (sl.unhide CV).mono ?_; rintro e w5 ⟨v5, X, rfl, hX, hXb, m5⟩
    clear z0 CV
    have F5 := sl.hide ((sl.unhide F4).kept m5.2)
    have G5 := sl.hide (sl.grown_trans (r := none) (sl.unhide G4) m5.2)
    have O5 := sl.hide ((sl.unhide O4).kept m5.2)
    have E5 := sl.hide ((sl.unhide E4).kept m5.2)
    have P5 := sl.hide ((sl.unhide P4).kept m5.2)
    have A5 := sl.hide (sl.Own.of m5.1)
    obtain ⟨xa, xc, rfl⟩ : ∃ xa xc, v5 = .slice xa X.length xc := by
      obtain ⟨xa, xc, e, _⟩ := sl.Sl.of_own m5.1
      exact ⟨xa, xc, e⟩
    have hXp : mf.pl x < X.length := by omega
    have HXB := sl.hide hXb
    have hX24 : X.length ≤ 24 := by omega
    have HXL := sl.hide hX
    clear m5 F4 G4 O4 E4 P4 hXb hX
    have CLV := lits.implLitVar x w5
    rw [hvar] at CLV
    have LV := sl.hide CLV
    clear CLV
    go_wp2_with fail
    refine (sl.unhide LV).mono ?_; rintro e w' ⟨rfl, hw⟩; have hw' := hw.symm; clear hw; subst hw'
    have gN := World.grownBy_alloc w5 (.cells #[] 3) none
    have MN := sl.hide (app.made_nil w5)
    have AN := sl.hide ((sl.unhide A5).kept gN)
    clear gN LV
    go_wp2_with (at_builtin; refine app.appendI (A := []) (sl.unhide MN).2 (sl.unhide MN).1 (sl.unhide AN) (by show 0 + X.length ≤ 4194304; omega) rfl _ _ rfl rfl rfl ?_)
    intro vb w6 m6 g6
    obtain ⟨gb, bc, rfl⟩ := df.made_some m6 (by omega)
    obtain ⟨⟨q6, cb6⟩, fb6, mA, oA⟩ := df.stored (mf.pl x) 0 m6 hXp
    have M6 := sl.hide m6
    have MA := sl.hide mA
    have OA := sl.hide oA
    have i0 : (0 : Int) ≤ (mf.pl x : Int) ∧ (mf.pl x : Int) < (X.length : Int) := by omega
    clear m6 g6 mA oA MN AN
    go_upto_if 63 with fail
    go_cut [63] (fun _ wx => Hid (wo.Made w5 wx (.slice (some ⟨gb, 0, none⟩) X.length bc) (X.set (mf.pl x) (mf.sg x)) ∧ css.Outs w5.heap.size w6.heap.size w6 wx))
    case first =>
      by_cases hpos : 0 < x
      · obtain ⟨⟨q7, cb7⟩, fb7, mB, oB⟩ := df.stored (mf.pl x) 1 (sl.unhide MA) (by rw [List.length_set]; exact hXp)
        have MB := sl.hide mB
        have hsz : (w6.setCell ⟨gb, mf.pl x, none⟩ (.int .i64 0)).heap.size = w6.heap.size := cf.size_set ..
        rw [hsz] at oB
        have OB := sl.hide oB
        clear mB oB hsz
        go_wp2_with fail
        go_meet
        refine ⟨?_, df.outs_trans (sl.unhide OA) (sl.unhide OB)⟩
        have h := sl.unhide MB
        rw [List.set_set, List.length_set] at h
        rw [show mf.sg x = 1 from if_pos hpos]
        exact h
      · go_wp2_with fail
        go_meet
        refine ⟨?_, sl.unhide OA⟩
        have h := sl.unhide MA
        rw [List.length_set] at h
        rw [show mf.sg x = 0 from if_neg (show ¬ 0 < x by omega)]
        exact h
    case rest =>
      have hmc := (sl.unhide hcut).1
      have g56 := (sl.unhide M6).2
      have hoc := (sl.unhide hcut).2
      have FC := sl.hide (((sl.unhide F5).kept g56).outs hoc (.inl (sl.unhide F5).lt))
      have EC := sl.hide (((sl.unhide E5).kept g56).outs hoc (.inl (sl.unhide E5).lt))
      have OC := sl.hide (((sl.unhide O5).kept g56).outs hoc (.inl (Nat.le_trans (Nat.le_succ _) (sl.unhide F5).lt)))
      have PC := sl.hide (((sl.unhide P5).kept g56).outs hoc (.inl (Nat.le_trans (Nat.le_succ _) (sl.unhide E5).lt)))
      have AC := sl.hide (css.own_outs ((sl.unhide A5).kept g56) hoc (.inl (Nat.le_refl _)))
      have GC := sl.hide (sl.grown_trans (r := none) (sl.unhide G5) hmc.2)
      have BC := sl.hide (sl.Own.of (L := X.set (mf.pl x) (mf.sg x)) (v := .slice (some ⟨gb, 0, none⟩) X.length bc) hmc.1)
      clear hcut hmc g56 hoc F5 E5 O5 P5 A5 G5 M6 MA OA cb6 fb6
      have hXs : (X.set (mf.pl x) (mf.sg x)).length ≤ 1048576 := by rw [List.length_set]; omega
      have ca := fun w1 (g : wc.grownBy w1 none) => tr.implCnfTrue (.slice ua (fx.fixL x LL).length uc) (.slice xa X.length xc) (m : Int) (fx.fixL x LL) X w1 htf (by omega) (((sl.unhide PC).kept g).sls) (((sl.unhide AC).kept g).sl)
      have cb := fun w1 (g : wc.grownBy w1 none) => tr.implCnfTrue (.slice va LL.length vc) (.slice (some ⟨gb, 0, none⟩) X.length bc) (m : Int) LL (X.set (mf.pl x) (mf.sg x)) w1 ht hXs (((sl.unhide OC).kept g).sls) (((sl.unhide BC).kept g).sl)
      have eA : tr.trueB (m : Int) (fx.fixL x LL) X = tr.cnfT X (fx.fixL x LL) := mf.trueB_of (mf.cnfB_fix hcx.1) (by have := sl.unhide HXL; omega) (sl.unhide HXB)
      have eB : tr.trueB (m : Int) LL (X.set (mf.pl x) (mf.sg x)) = tr.cnfT X (fx.fixL x LL) := by
        rw [mf.cnf_set hpl.1 hXp]
        refine mf.trueB_of hcx.1 (by rw [List.length_set]; have := sl.unhide HXL; omega) (fun y hy => ?_)
        rcases List.mem_or_eq_of_mem_set hy with h | h
        · exact sl.unhide HXB y h
        · rw [h]
          unfold mf.sg
          split <;> omega
      rw [eA] at ca
      rw [eB] at cb
      generalize tr.cnfT X (fx.fixL x LL) = bv at ca cb
      have CA := sl.hide ca
      have CB := sl.hide cb
      have CK := sl.hide (fun (w1 : World) (g : wc.grownBy w1 none) => And.intro ((sl.unhide FC).kept g).c0 (And.intro ((sl.unhide FC).kept g).c1 (And.intro ((sl.unhide EC).kept g).c0 ((sl.unhide EC).kept g).c1)))
      have f0 := (sl.unhide FC).c0
      have f1 := (sl.unhide FC).c1
      have e0 := (sl.unhide EC).c0
      have e1 := (sl.unhide EC).c1
      clear ca cb eA eB
      go_upto_region 16 with fail
      go_cut [74] (fun q wx => q = .bool false ∧ Hid (wc.grownBy wx none))
      case first =>
        have GX := sl.hide (cf.grown_drew wc none)
        clear FC EC OC PC AC GC BC
        go_region_held3 (fun w' => w'.cell? ⟨w1.heap.size, 0, none⟩ = some (.int .i64 (m : Int)) ∧ w'.cell? ⟨w1.heap.size, 1, none⟩ = some (.slice va LL.length vc) ∧ w'.cell? ⟨w2.heap.size, 0, none⟩ = some (.int .i64 (m : Int)) ∧ w'.cell? ⟨w2.heap.size, 1, none⟩ = some (.slice ua (fx.fixL x LL).length uc)) (go_keep) (first
          | (go_at_call_of 15 (Value.agg #[Value.int IntKind.i64 (m : Int), Value.slice ua (fx.fixL x LL).length uc]); refine (sl.unhide CA _ (sl.unhide GX)).mono ?_; rintro e w8 ⟨rfl, g8⟩; replace GX := sl.hide (sl.grown_trans (r := none) (sl.unhide GX) g8); obtain ⟨k1, k2, k3, k4⟩ := sl.unhide CK _ (sl.unhide GX); clear g8)
          | (go_at_call_of 15 (Value.agg #[Value.int IntKind.i64 (m : Int), Value.slice va LL.length vc]); refine (sl.unhide CB _ (sl.unhide GX)).mono ?_; rintro e w8 ⟨rfl, g8⟩; replace GX := sl.hide (sl.grown_trans (r := none) (sl.unhide GX) g8); obtain ⟨k1, k2, k3, k4⟩ := sl.unhide CK _ (sl.unhide GX); clear g8))
        all_goals
          go_wp2_with fail
          go_meet
          exact ⟨by simp, GX⟩
      case rest =>
        obtain ⟨rfl, hg7⟩ := hcut
        have g7 := sl.unhide hg7
        have F7 := sl.hide ((sl.unhide FC).kept g7)
        have E7 := sl.hide ((sl.unhide EC).kept g7)
        have O7 := sl.hide ((sl.unhide OC).kept g7)
        have P7 := sl.hide ((sl.unhide PC).kept g7)
        have G7 := sl.hide (sl.grown_trans (r := none) (sl.unhide GC) g7)
        clear g7 hg7 FC EC OC PC GC AC BC CA CB CK f0 f1 e0 e1
        have f0 := (sl.unhide F7).c0
        by_cases h10 : m ≤ 10
        · have h10' : ¬ (10 : Int) < (m : Int) := by omega
          have hfn : fx.fixB (m : Int) LL (-x) = true := by
            unfold fx.fixB
            rw [hcx.1, mf.litIn_neg hcx.2]
            rfl
          have cn := fx.implFix (.slice va LL.length vc) (m : Int) (-x) LL _ ht (sl.unhide O7).sls
          rw [(fx.fix_yes hfn).1, (fx.fix_yes hfn).2, hfn] at cn
          have hwn := fx.wrap_neg hxb.2
          have CN := sl.hide cn
          have htn : css.tot (fx.fixL (-x) LL) ≤ 1048576 := Nat.le_trans (fx.fixL_tot (-x) LL) ht
          have hm14 : m ≤ 14 := by omega
          have hsum := mf.count_fix hm14 hcx.1 hcx.2
          have hb1 := mf.count_bd (fx.fixL x LL) hm14
          have hb2 := mf.count_bd (fx.fixL (-x) LL) hm14
          have hb3 := mf.count_bd LL hm14
          have f1 := (sl.unhide F7).c1
          clear cn hfn
          go_wp2_with fail
          refine (sl.unhide CN).mono ?_; rintro e w8 ⟨u8, rfl, o8, g8⟩
          obtain ⟨na, nc, rfl⟩ := o8.len
          have gA := World.grownBy_alloc w8 (.cells #[.int .i64 (m : Int), .slice na (fx.fixL (-x) LL).length nc] 26) none
          have gB := sl.grown_trans (r := none) g8 gA
          have F8 := sl.hide ((sl.unhide F7).kept gB)
          have E8 := sl.hide ((sl.unhide E7).kept gB)
          have O8 := sl.hide ((sl.unhide O7).kept gB)
          have P8 := sl.hide ((sl.unhide P7).kept gB)
          have G8 := sl.hide (sl.grown_trans (r := none) (sl.unhide G7) gB)
          have N8 := sl.hide (cf.Box.new 26 w8 (.int .i64 (m : Int)) (.slice na (fx.fixL (-x) LL).length nc))
          have Q8 := sl.hide (o8.kept gA)
          clear g8 gA gB o8 F7 E7 O7 P7 G7 CN f0 f1
          obtain ⟨W8, hW8⟩ : ∃ W8, W8 = w8.alloc (.cells #[.int .i64 (m : Int), .slice na (fx.fixL (-x) LL).length nc] 26) := ⟨_, rfl⟩
          rw [← hW8] at F8 E8 O8 P8 G8 N8 Q8
          have ca := fun w1 (g : W8.grownBy w1 none) => cu.implCountTrue (.slice ua (fx.fixL x LL).length uc) (m : Int) (fx.fixL x LL) w1 htf (((sl.unhide P8).kept g).sls)
          have cb := fun w1 (g : W8.grownBy w1 none) => cu.implCountTrue (.slice na (fx.fixL (-x) LL).length nc) (m : Int) (fx.fixL (-x) LL) w1 htn (((sl.unhide Q8).kept g).sls)
          have cd := fun w1 (g : W8.grownBy w1 none) => cu.implCountTrue (.slice va LL.length vc) (m : Int) LL w1 ht (((sl.unhide O8).kept g).sls)
          generalize ct.countI (m : Int) (fx.fixL x LL) = c1 at *
          generalize ct.countI (m : Int) (fx.fixL (-x) LL) = c2 at *
          generalize ct.countI (m : Int) LL = c3 at *
          have CA := sl.hide ca
          have CB := sl.hide cb
          have CD := sl.hide cd
          have CK := sl.hide (fun (w1 : World) (g : W8.grownBy w1 none) => And.intro ((sl.unhide F8).kept g).c0 (And.intro ((sl.unhide F8).kept g).c1 (And.intro ((sl.unhide E8).kept g).c0 (And.intro ((sl.unhide E8).kept g).c1 (And.intro ((sl.unhide N8).kept g).c0 ((sl.unhide N8).kept g).c1)))))
          have GX := sl.hide (cf.grown_drew W8 none)
          have k0 := sl.unhide CK W8 (sl.grown_refl _)
          obtain ⟨k1, k2, k3, k4, k5, k6⟩ := k0
          rw [hW8] at k1 k2 k3 k4 k5 k6
          have HW8 := sl.hide hW8
          have GZ := sl.hide (fun (w1 : World) (g : W8.grownBy w1 none) => sl.below_of (sl.grown_trans (r := none) (sl.unhide G8) g))
          subst hW8
          clear ca cb cd F8 E8 O8 P8 G8 N8 Q8 HW8
          go_upto_region 21 with fail
          go_region_held3 (fun w' => w'.cell? ⟨w1.heap.size, 0, none⟩ = some (.int .i64 (m : Int)) ∧ w'.cell? ⟨w1.heap.size, 1, none⟩ = some (.slice va LL.length vc) ∧ w'.cell? ⟨w2.heap.size, 0, none⟩ = some (.int .i64 (m : Int)) ∧ w'.cell? ⟨w2.heap.size, 1, none⟩ = some (.slice ua (fx.fixL x LL).length uc) ∧ w'.cell? ⟨w8.heap.size, 0, none⟩ = some (.int .i64 (m : Int)) ∧ w'.cell? ⟨w8.heap.size, 1, none⟩ = some (.slice na (fx.fixL (-x) LL).length nc)) (go_keep) (first
            | (go_at_call_of 16 (Value.agg #[Value.int IntKind.i64 (m : Int), Value.slice ua (fx.fixL x LL).length uc]); refine (sl.unhide CA _ (sl.unhide GX)).mono ?_; rintro e w9 ⟨rfl, g9⟩; replace GX := sl.hide (sl.grown_trans (r := none) (sl.unhide GX) g9); obtain ⟨k1, k2, k3, k4, k5, k6⟩ := sl.unhide CK _ (sl.unhide GX); clear g9)
            | (go_at_call_of 16 (Value.agg #[Value.int IntKind.i64 (m : Int), Value.slice na (fx.fixL (-x) LL).length nc]); refine (sl.unhide CB _ (sl.unhide GX)).mono ?_; rintro e w9 ⟨rfl, g9⟩; replace GX := sl.hide (sl.grown_trans (r := none) (sl.unhide GX) g9); obtain ⟨k1, k2, k3, k4, k5, k6⟩ := sl.unhide CK _ (sl.unhide GX); clear g9)
            | (go_at_call_of 16 (Value.agg #[Value.int IntKind.i64 (m : Int), Value.slice va LL.length vc]); refine (sl.unhide CD _ (sl.unhide GX)).mono ?_; rintro e w9 ⟨rfl, g9⟩; replace GX := sl.hide (sl.grown_trans (r := none) (sl.unhide GX) g9); obtain ⟨k1, k2, k3, k4, k5, k6⟩ := sl.unhide CK _ (sl.unhide GX); clear g9))
          all_goals
            go_wp2_with fail
            go_ret
            exact ⟨by simp, sl.unhide GZ _ (sl.unhide GX)⟩
        · have h10' : (10 : Int) < (m : Int) := by omega
          go_wp2_with fail
          go_ret
          exact ⟨rfl, sl.below_of (sl.unhide G7)⟩

/-! ### the row's step (the guide's own frame) -/
set_option maxRecDepth 100000 in
theorem lifted (os : Os) (started : os.Started) (H : Type) (enc : TypeId × Value → H) :
    ReturnsInHanded {} Try.checked os 3 .any (Rows.fnFixSpec.pre6 enc Try.prog Try.f3 Rows.fnFixRow.domain false) (Rows.fnFixSpec.post enc Try.prog Try.f3 false true false false) := by
  refine returnsInHanded_of_change (C := Try.checked) own started (by kernel_rfl) Try.func3
    (ChangeSpec.witness6 (enc := enc) (C := Try.checked) false ⟨#[], #[.slice none 0 0], []⟩ 8 (by kernel_rfl) (by kernel_rfl) (by kernel_rfl) (by kernel_rfl)) ?_
  intro W base args ds gs before hval0 hW hcnd _
  have hval : ∀ (j : Nat) t v, Try.f3.params[j]? = some t → args[j]? = some v → Value.okWide Try.prog W .any base t v := hval0
  have hW' := hW
  obtain ⟨p, q, hA0, hV, rfl, hfz, hnd⟩ := hW
  have hA : DataW.TrodAll enc Try.prog W 0 (fun _ => true) true Try.f3.params.toList args.toList ds p := hA0
  rw [Try.params3] at hA hval
  obtain ⟨v0, vs0, d0, ds0, p0, q0, hargs, rfl, rfl, h0, r0⟩ := trodAll_cons hA
  obtain ⟨rfl, rfl, rfl⟩ := trodAll_nil r0
  obtain rfl : args = #[v0] := by cases args; simp_all
  obtain ⟨rfl, rfl⟩ := trodVars_none hV
  obtain ⟨a0, len0, cap0, rfl⟩ := okWide_slice Try.underlying22 (hval 0 22 v0 rfl rfl)
  have k0 := h0
  have lt0 : ∀ x ∈ p0, x.block < W.heap.size := by obtain ⟨m, hm⟩ := k0; exact DataW.trod_lt m _ _ _ hm
  obtain ⟨z0, w0⟩ : ∃ zs, IsRow .u8 W a0 len0 cap0 zs := by
    obtain ⟨fuel, hf⟩ := h0
    rcases open_ints Try.underlying22 Try.underlying5 (by kernel_rfl) hf with ⟨hcs, _⟩ | ⟨x, l, c, zs, hcs, _, hl, hm, hz, _, hcell, hwz⟩
    · simp [Value.cells] at hcs
      obtain ⟨rfl, rfl, rfl⟩ := hcs
      exact ⟨[], .inl ⟨rfl, rfl, rfl, rfl⟩⟩
    · simp [Value.cells] at hcs
      obtain ⟨rfl, rfl, rfl⟩ := hcs
      exact ⟨zs, .inr ⟨_, rfl, hl, hm, by simpa using hz, hcell, hwz⟩⟩
  clear hA0 hval0
  refine (walk a0 len0 cap0 z0 W w0).mono fun e W' ⟨he, bel⟩ => ?_
  subst he
  exact ⟨_, rfl, _, _, _, [], _, [], hW', trodAll_mk1 (shut_bool Try.underlying4 _), (trodAll_cons_mk (Below.trod laidOut (by kernel_rfl) (of_decide_eq_true (by kernel_rfl)) k0 bel lt0) trodAll_mk0), rfl, bel.frame _, fun h => by cases h⟩

theorem over : Rows.fnFixRow.holds Try.pinned (OpenSpec.ofChange Rows.fnFixSpec) :=
  OpenClaim.holds_of_wide 3 Try.f3 rfl rfl rfl rfl rfl rfl rfl ⟨rfl, rfl, rfl, rfl, rfl⟩ rfl rfl rfl rfl rfl (by kernel_rfl) Try.func3 (by kernel_rfl)
    (of_decide_eq_true (by kernel_rfl)) (by unfold Func.isWrapper; first | (rw [if_pos (by decide +kernel)]; kernel_rfl) | (rw [if_neg (by decide +kernel)]; exact ⟨rfl, rfl⟩))
    (fun os started H enc _ => lifted os started H enc)

/-- the statement -/
theorem proved : Rows.FnFixSaid := over
#print axioms proved
end Go.Proofs.Ytmbmkbkghblcmaa.fnFix
