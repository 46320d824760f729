/- At every draw the law FnBlocked returns true: a formula that one answer was blocked of is true at one assignment less. -/
import Derived.Test.YtlpgnaedhijdpaaRows
import Derived.Test.YtlpgnaedhijdpaaLs5
import Derived.Test.YtlpgnaedhijdpaaMc
import Derived.Test.YtlpgnaedhijdpaaDb
import Derived.Test.YtlpgnaedhijdpaaDVa
import Derived.Test.YtlpgnaedhijdpaaCu
import Derived.WalkKit
import Derived.ProofKit
import Derived.OpenShut
import Derived.ShutString
import Derived.ChangeOld
import Derived.Below
namespace Go.Proofs.Ytlpgnaedhijdpaa.fnBlocked
open Go.ChangeShapes Go.WideShapes Go.ChangeAt Go.RowKit
open Go.ChangeMaps (open_string shut_string)
set_option linter.unusedVariables false

theorem own : ownKnob Try.prog.godebug = none := by kernel_rfl
theorem laidOut : laidOutB Try.prog = true := by kernel_rfl

/-- what the walk is told of a slice of integers that came in -/
def IsRow (k : IntKind) (w : World) (a : Option Addr) (len cap : Nat) (zs : List Int) : Prop :=
  (a = none ∧ len = 0 ∧ cap = 0 ∧ zs = []) ∨
  ∃ x, a = some x ∧ len ≤ cap ∧ cap ≤ maxLen ∧ zs.length = cap ∧ (∀ i, i < zs.length → w.cell? (x.add i) = some (.int k (zs.getD i 0))) ∧ ∀ n ∈ zs, (Lit.int k n).wf = true

/-! ### the walk -/
set_option maxRecDepth 100000 in
set_option maxHeartbeats 8000000 in
theorem walk (a0 : Option Addr) (len0 cap0 : Nat) (z0 : List Int) (w : World) (w0 : IsRow .u8 w a0 len0 cap0 z0) :
    Calls Try.prog 3 #[.slice a0 len0 cap0] w fun e w' => e = .returned (.bool true) ∧ Below w.heap.size w w' := by
  have hB := draw.of_rowB w0
  have hm : len0 ≤ 9223372036854775807 := by
    rcases w0 with ⟨_, h, _, _⟩ | ⟨_, _, h1, h2, _⟩
    · omega
    · unfold maxLen at h2
      omega
  clear w0
  by_cases hbig : 1048576 < len0
  · have C := sl.hide (draw.big a0 len0 cap0 w hm)
    rw [decide_eq_true hbig] at C
    go_enter Try.func3, Try.ntmps3
    go_wp2_with fail
    refine (sl.unhide C).mono ?_; rintro e w' ⟨rfl, rfl⟩
    go_wp2_with fail
    go_ret
    exact ⟨rfl, Below.refl _ _⟩
  have C := sl.hide (draw.big a0 len0 cap0 w hm)
  rw [decide_eq_false hbig] at C
  have HB := sl.hide hB
  have hlen : len0 ≤ 1048576 := by omega
  clear hB hbig
  go_enter Try.func3, Try.ntmps3
  go_wp2_with fail
  refine (sl.unhide C).mono ?_; rintro e w' ⟨rfl, hw⟩; have hw' := hw.symm; clear hw; subst hw'
  clear C hm
  go_wp2_with fail
  refine (db.drawFormula a0 len0 cap0 _ hlen (sl.unhide HB)).mono ?_; rintro e w1 ⟨n, v, LL, rfl, ⟨⟨n1, n6⟩, hM, hgd⟩, o1, g1⟩
  obtain ⟨va, vc, rfl⟩ := o1.len
  obtain ⟨m, rfl⟩ := Int.eq_ofNat_of_zero_le (show (0 : Int) ≤ n by omega)
  have ht : css.tot LL ≤ 1048576 := Nat.le_trans (df.tot_bd (dcn.bd_good ⟨n1, n6⟩ hM hgd) (by decide)) (by decide)
  have hLLl : LL.length ≤ 1048576 := Nat.le_trans (css.tot_len LL) ht
  have gA := World.grownBy_alloc w1 (.cells #[.int .i64 (m : Int), .slice va LL.length vc] 26) none
  have F1 := sl.hide (cf.Box.new 26 w1 (.int .i64 (m : Int)) (.slice va LL.length vc))
  have G1 := sl.hide (sl.grown_trans (r := none) g1 gA)
  have O1 := sl.hide (o1.kept gA)
  have hi1 : Hid (w1.heap.size ≤ (w1.alloc (.cells #[.int .i64 (m : Int), .slice va LL.length vc] 26)).heap.size) := sl.hide gA.size
  obtain ⟨W1, hW1⟩ : ∃ W1, W1 = w1.alloc (.cells #[.int .i64 (m : Int), .slice va LL.length vc] 26) := ⟨_, rfl⟩
  rw [← hW1] at F1 G1 O1 hi1
  clear g1 o1 gA hM hgd
  have z0 := (sl.unhide F1).c0
  have z1 := (sl.unhide F1).c1
  have CV := sl.hide (dva.values a0 len0 cap0 m W1 hlen (by omega) ((sl.unhide HB).below (sl.below_of (sl.unhide G1))))
  go_wp2_with fail
  rw [← hW1]
  refine (sl.unhide CV).mono ?_; rintro e w2 ⟨xv, X, rfl, hXl, hXb, mX⟩
  clear hW1 CV z0 z1
  generalize w1.heap.size = fb at *
  have F2 := sl.hide ((sl.unhide F1).kept mX.2)
  have G2 := sl.hide (sl.grown_trans (r := none) (sl.unhide G1) mX.2)
  have O2 := sl.hide ((sl.unhide O1).kept mX.2)
  have hi2 : Hid (fb ≤ w2.heap.size) := sl.hide (Nat.le_trans (sl.unhide hi1) mX.2.size)
  have U2 := sl.hide (sl.Own.of mX.1)
  obtain ⟨ua, uc, rfl, _⟩ := sl.Sl.of_own mX.1
  have hXL : X.length ≤ 24 := by omega
  clear mX F1 G1 O1 hi1 hXl hXb
  have CA := sl.hide (dva.at_ a0 len0 cap0 2 w2 hlen (by decide) (by decide) ((sl.unhide HB).below (sl.below_of (sl.unhide G2))))
  go_wp2_with fail
  refine (sl.unhide CA).mono ?_; rintro e w' ⟨x, rfl, x0, x1, hw⟩; have hw' := hw.symm; clear hw; subst hw'
  clear CA HB
  by_cases hx : x % 2 = 0
  case' neg =>
    have hxb : (x % 2 == 0) = false := beq_eq_false_iff_ne.2 hx
    obtain ⟨A, hAX⟩ : ∃ A, A = X := ⟨_, rfl⟩
    rw [← hAX] at U2 hXL ⊢
    have hAl := hXL
    have F := F2
    have G := G2
    have O := O2
    have hif := hi2
    have UA := U2
    clear hx hAX hXL F2 G2 O2 hi2 U2
    have z0 := (sl.unhide F).c0
    have z1 := (sl.unhide F).c1
    go_wp2_with fail
  case' pos =>
    have hxb : (x % 2 == 0) = true := beq_iff_eq.2 hx
    have CS := lq.specSolve (.slice va LL.length vc) (m : Int) LL w2 ht (sl.unhide O2).sls
    have SB := lq.solve_bits (m : Int) LL []
    obtain ⟨S, hS⟩ : ∃ S, lq.solveL (m : Int) LL [] = S := ⟨_, rfl⟩
    rw [hS] at CS SB
    have CC := sl.hide CS
    have z0 := (sl.unhide F2).c0
    have z1 := (sl.unhide F2).c1
    clear CS hS hx
    cases S
    case' none =>
      go_wp2_with fail
      refine (sl.unhide CC).mono ?_; rintro e w3 ⟨r, rfl, mr⟩
      have F := sl.hide ((sl.unhide F2).kept mr.2)
      have G := sl.hide (sl.grown_trans (r := none) (sl.unhide G2) mr.2)
      have O := sl.hide ((sl.unhide O2).kept mr.2)
      have hif : Hid (fb ≤ w3.heap.size) := sl.hide (Nat.le_trans (sl.unhide hi2) mr.2.size)
      have UA := sl.hide ((sl.unhide U2).kept mr.2)
      obtain ⟨A, hAX⟩ : ∃ A, A = X := ⟨_, rfl⟩
      rw [← hAX] at UA hXL ⊢
      have hAl := hXL
      clear mr CC SB F2 G2 O2 hi2 U2 z0 z1 hAX hXL
      have z0 := (sl.unhide F).c0
      have z1 := (sl.unhide F).c1
      go_wp2_with fail
    case' some A =>
      have hAl : A.length ≤ 24 := by have := SB A rfl; omega
      go_wp2_with fail
      refine (sl.unhide CC).mono ?_; rintro e w3 ⟨r, rfl, mr⟩
      have mr' : wo.Made w2 w3 r A := mr
      have F := sl.hide ((sl.unhide F2).kept mr.2)
      have G := sl.hide (sl.grown_trans (r := none) (sl.unhide G2) mr.2)
      have O := sl.hide ((sl.unhide O2).kept mr.2)
      have hif : Hid (fb ≤ w3.heap.size) := sl.hide (Nat.le_trans (sl.unhide hi2) mr.2.size)
      have UA := sl.hide (sl.Own.of mr'.1)
      clear hXL
      obtain ⟨ra, rc, rfl, _⟩ := sl.Sl.of_own mr'.1
      clear mr mr' CC SB F2 G2 O2 hi2 U2 z0 z1
      have z0 := (sl.unhide F).c0
      have z1 := (sl.unhide F).c1
      go_wp2_with fail
  all_goals
    have hA20 : A.length ≤ 1048576 := by omega
    obtain ⟨N, R, b, hb, ci, cs⟩ := mb.bothB m LL A (by omega) ht hA20
    have CI := sl.hide (ci _ _ _ _ _ (sl.unhide O) (sl.unhide UA).sl)
    have CS := sl.hide cs
    have HBB := sl.hide hb
    clear ci cs hb
    refine (sl.unhide CI).mono ?_; rintro e v1 ⟨q1, rfl, o1, g1⟩
    obtain ⟨qa, qc, rfl⟩ := o1.len
    clear CI z0 z1
    have gA := World.grownBy_alloc v1 (.cells #[.int .i64 N, .slice qa R.length qc] 26) none
    have gB := sl.grown_trans (r := none) g1 gA
    have B1 := sl.hide (cf.Box.new 26 v1 (.int .i64 N) (.slice qa R.length qc))
    have F1 := sl.hide ((sl.unhide F).kept gB)
    have G1 := sl.hide (sl.grown_trans (r := none) (sl.unhide G) gB)
    have O1 := sl.hide ((sl.unhide O).kept gB)
    have P1 := sl.hide (o1.kept gA)
    have UA1 := sl.hide ((sl.unhide UA).kept gB)
    have CS1 := sl.hide (sl.unhide CS _ _ _ _ _ (sl.unhide O1) (Nat.le_trans (sl.unhide hif) gB.size) (sl.unhide UA1).sl)
    have hfl := ((sl.unhide F).kept g1).lt
    clear g1 gA gB o1 F G O UA hif CS
    have z0 := (sl.unhide F1).c0
    have z1 := (sl.unhide F1).c1
    go_wp2_with fail
    refine (sl.unhide CS1).mono ?_; rintro e v2 ⟨q2, rfl, o2, g2⟩
    obtain ⟨ra2, rc2, rfl⟩ := o2.len
    clear CS1 z0 z1
    have gA := World.grownBy_alloc v2 (.cells #[.int .i64 N, .slice ra2 R.length rc2] 26) none
    have gB := sl.grown_trans (r := none) g2 gA
    have B2 := sl.hide ((sl.unhide B1).kept gB)
    have F2 := sl.hide ((sl.unhide F1).kept gB)
    have G2 := sl.hide (sl.grown_trans (r := none) (sl.unhide G1) gB)
    have O2 := sl.hide ((sl.unhide O1).kept gB)
    have P2 := sl.hide ((sl.unhide P1).kept gB)
    have UA2 := sl.hide ((sl.unhide UA1).kept gB)
    have hfl2 := ((sl.unhide F1).kept g2).lt
    have hbl2 := ((sl.unhide B1).kept g2).lt
    clear g2 gA gB o2 B1 F1 G1 O1 P1 UA1 hfl
    generalize v1.heap.size = gb at *
    cases b
    · clear HBB
      go_wp2_with fail
      go_ret
      exact ⟨rfl, sl.below_of (sl.unhide G2)⟩
    · obtain ⟨hcnt, htr, hRl, hNm, hRt⟩ := sl.unhide HBB rfl
      subst hNm
      have CT := tr.specCnfTrue (.slice va LL.length vc) _ (m : Int) LL A _ ht hA20 (sl.unhide O2).sls (sl.unhide UA2).sl
      have cbd := mb.count_bd m LL (by omega)
      have hRb : ((R.length : Int) == IntKind.i64.wrap ((LL.length : Int) + 1)) = true := by
        rw [show IntKind.i64.wrap ((LL.length : Int) + 1) = (LL.length : Int) + 1 from mb.wrap_in (by omega) (by omega), hRl]
        simp
      obtain ⟨t, htv⟩ : ∃ t, tr.trueB (m : Int) LL A = t := ⟨_, rfl⟩
      rw [htv] at CT hcnt
      have CC := sl.hide CT
      have z0 := (sl.unhide F2).c0
      have z1 := (sl.unhide F2).c1
      have HTR := sl.hide htr
      have HRL := sl.hide hRl
      clear CT htv HBB htr hRl
      have CG := sl.hide (fun w' (h : css.Sls w' (.slice qa R.length qc) R) => cu.implCountTrue (.slice qa R.length qc) (m : Int) R w' hRt h)
      have CF := sl.hide (fun w' (h : css.Sls w' (.slice va LL.length vc) LL) => cu.implCountTrue (.slice va LL.length vc) (m : Int) LL w' ht h)
      have CX := sl.hide (fun w' u (h : css.Sls w' (.slice qa R.length qc) R) (h2 : sl.Sl w' u A) => tr.implCnfTrue (.slice qa R.length qc) u (m : Int) R A w' hRt hA20 h h2)
      rw [sl.unhide HTR] at CX
      generalize ct.countI (m : Int) R = cgg at *
      generalize ct.countI (m : Int) LL = cff at *
      have hfb : fb < v2.heap.size := hfl2
      cases t
      · have hcc : cgg = cff := by simp at hcnt; exact hcnt
        clear hcnt
        subst hcc
        have hw : IntKind.i64.wrap cgg = cgg := mb.wrap_in (by omega) (by omega)
        have hw0 : IntKind.i64.wrap (cgg - 0) = cgg := by rw [Int.sub_zero]; exact hw
        go_wp2_with fail
        refine (sl.unhide CC).mono ?_; rintro e v3 ⟨rfl, g3⟩
        have F3 := sl.hide ((sl.unhide F2).kept g3)
        have B3 := sl.hide ((sl.unhide B2).kept g3)
        have G3 := sl.hide (sl.grown_trans (r := none) (sl.unhide G2) g3)
        have KG := sl.hide (fun w' (g : v3.grownBy w' none) => sl.unhide CG w' (((sl.unhide P2).kept g3).kept g).sls)
        have KF := sl.hide (fun w' (g : v3.grownBy w' none) => sl.unhide CF w' (((sl.unhide O2).kept g3).kept g).sls)
        have KX := sl.hide (fun w' (g : v3.grownBy w' none) => sl.unhide CX w' _ (((sl.unhide P2).kept g3).kept g).sls (((sl.unhide UA2).kept g3).kept g).sl)
        have CK := sl.hide (fun w' (g : v3.grownBy w' none) => And.intro ((sl.unhide F3).kept g).c0 (And.intro ((sl.unhide F3).kept g).c1 (And.intro ((sl.unhide B3).kept g).c0 ((sl.unhide B3).kept g).c1)))
        have k1 := (sl.unhide F3).c0
        have k2 := (sl.unhide F3).c1
        have k3 := (sl.unhide B3).c0
        have k4 := (sl.unhide B3).c1
        have GX := sl.hide (cf.grown_drew v3 none)
        have GZ := sl.hide (fun w' (g : v3.grownBy w' none) => sl.below_of (sl.grown_trans (r := none) (sl.unhide G3) g))
        clear g3 CC z0 z1 F2 B2 G2 O2 P2 UA2 CG CF CX F3 B3 G3
        go_wp2_with fail
        go_region_held3 (fun w' => w'.cell? ⟨fb, 0, none⟩ = some (.int .i64 (m : Int)) ∧ w'.cell? ⟨fb, 1, none⟩ = some (.slice va LL.length vc) ∧ w'.cell? ⟨gb, 0, none⟩ = some (.int .i64 (m : Int)) ∧ w'.cell? ⟨gb, 1, none⟩ = some (.slice qa R.length qc)) (go_keep) (first
          | (go_at_call_of 16 (Value.agg #[Value.int IntKind.i64 (m : Int), Value.slice qa R.length qc]); refine (sl.unhide KG _ (sl.unhide GX)).mono ?_; rintro e w8 ⟨rfl, g8⟩; replace GX := sl.hide (sl.grown_trans (r := none) (sl.unhide GX) g8); obtain ⟨k1, k2, k3, k4⟩ := sl.unhide CK _ (sl.unhide GX); clear g8)
          | (go_at_call_of 16 (Value.agg #[Value.int IntKind.i64 (m : Int), Value.slice va LL.length vc]); refine (sl.unhide KF _ (sl.unhide GX)).mono ?_; rintro e w8 ⟨rfl, g8⟩; replace GX := sl.hide (sl.grown_trans (r := none) (sl.unhide GX) g8); obtain ⟨k1, k2, k3, k4⟩ := sl.unhide CK _ (sl.unhide GX); clear g8)
          | (go_at_call 17; refine (sl.unhide KX _ (sl.unhide GX)).mono ?_; rintro e w8 ⟨rfl, g8⟩; replace GX := sl.hide (sl.grown_trans (r := none) (sl.unhide GX) g8); obtain ⟨k1, k2, k3, k4⟩ := sl.unhide CK _ (sl.unhide GX); clear g8))
        all_goals
          go_wp2_with fail
          go_ret
          exact ⟨by simp, sl.unhide GZ _ (sl.unhide GX)⟩
      · have hcc : cgg = cff - 1 := by simp at hcnt; exact hcnt
        clear hcnt
        subst hcc
        have hw : IntKind.i64.wrap (cff - 1) = cff - 1 := mb.wrap_in (by omega) (by omega)
        go_wp2_with fail
        refine (sl.unhide CC).mono ?_; rintro e v3 ⟨rfl, g3⟩
        have F3 := sl.hide ((sl.unhide F2).kept g3)
        have B3 := sl.hide ((sl.unhide B2).kept g3)
        have G3 := sl.hide (sl.grown_trans (r := none) (sl.unhide G2) g3)
        have KG := sl.hide (fun w' (g : v3.grownBy w' none) => sl.unhide CG w' (((sl.unhide P2).kept g3).kept g).sls)
        have KF := sl.hide (fun w' (g : v3.grownBy w' none) => sl.unhide CF w' (((sl.unhide O2).kept g3).kept g).sls)
        have KX := sl.hide (fun w' (g : v3.grownBy w' none) => sl.unhide CX w' _ (((sl.unhide P2).kept g3).kept g).sls (((sl.unhide UA2).kept g3).kept g).sl)
        have CK := sl.hide (fun w' (g : v3.grownBy w' none) => And.intro ((sl.unhide F3).kept g).c0 (And.intro ((sl.unhide F3).kept g).c1 (And.intro ((sl.unhide B3).kept g).c0 ((sl.unhide B3).kept g).c1)))
        have k1 := (sl.unhide F3).c0
        have k2 := (sl.unhide F3).c1
        have k3 := (sl.unhide B3).c0
        have k4 := (sl.unhide B3).c1
        have GX := sl.hide (cf.grown_drew v3 none)
        have GZ := sl.hide (fun w' (g : v3.grownBy w' none) => sl.below_of (sl.grown_trans (r := none) (sl.unhide G3) g))
        clear g3 CC z0 z1 F2 B2 G2 O2 P2 UA2 CG CF CX F3 B3 G3
        go_wp2_with fail
        go_region_held3 (fun w' => w'.cell? ⟨fb, 0, none⟩ = some (.int .i64 (m : Int)) ∧ w'.cell? ⟨fb, 1, none⟩ = some (.slice va LL.length vc) ∧ w'.cell? ⟨gb, 0, none⟩ = some (.int .i64 (m : Int)) ∧ w'.cell? ⟨gb, 1, none⟩ = some (.slice qa R.length qc)) (go_keep) (first
          | (go_at_call_of 16 (Value.agg #[Value.int IntKind.i64 (m : Int), Value.slice qa R.length qc]); refine (sl.unhide KG _ (sl.unhide GX)).mono ?_; rintro e w8 ⟨rfl, g8⟩; replace GX := sl.hide (sl.grown_trans (r := none) (sl.unhide GX) g8); obtain ⟨k1, k2, k3, k4⟩ := sl.unhide CK _ (sl.unhide GX); clear g8)
          | (go_at_call_of 16 (Value.agg #[Value.int IntKind.i64 (m : Int), Value.slice va LL.length vc]); refine (sl.unhide KF _ (sl.unhide GX)).mono ?_; rintro e w8 ⟨rfl, g8⟩; replace GX := sl.hide (sl.grown_trans (r := none) (sl.unhide GX) g8); obtain ⟨k1, k2, k3, k4⟩ := sl.unhide CK _ (sl.unhide GX); clear g8)
          | (go_at_call 17; refine (sl.unhide KX _ (sl.unhide GX)).mono ?_; rintro e w8 ⟨rfl, g8⟩; replace GX := sl.hide (sl.grown_trans (r := none) (sl.unhide GX) g8); obtain ⟨k1, k2, k3, k4⟩ := sl.unhide CK _ (sl.unhide GX); clear g8))
        all_goals
          go_wp2_with fail
          go_ret
          exact ⟨by simp, sl.unhide GZ _ (sl.unhide GX)⟩

/-! ### the row's step (the guide's own frame) -/
set_option maxRecDepth 100000 in
theorem lifted (os : Os) (started : os.Started) (H : Type) (enc : TypeId × Value → H) :
    ReturnsInHanded {} Try.checked os 3 .any (Rows.fnBlockedSpec.pre6 enc Try.prog Try.f3 Rows.fnBlockedRow.domain false) (Rows.fnBlockedSpec.post enc Try.prog Try.f3 false true false false) := by
  refine returnsInHanded_of_change (C := Try.checked) own started (by kernel_rfl) Try.func3
    (ChangeSpec.witness6 (enc := enc) (C := Try.checked) false ⟨#[], #[.slice none 0 0], []⟩ 8 (by kernel_rfl) (by kernel_rfl) (by kernel_rfl) (by kernel_rfl)) ?_
  intro W base args ds gs before hval0 hW hcnd _
  have hval : ∀ (j : Nat) t v, Try.f3.params[j]? = some t → args[j]? = some v → Value.okWide Try.prog W .any base t v := hval0
  have hW' := hW
  obtain ⟨p, q, hA0, hV, rfl, hfz, hnd⟩ := hW
  have hA : DataW.TrodAll enc Try.prog W 0 (fun _ => true) true Try.f3.params.toList args.toList ds p := hA0
  rw [Try.params3] at hA hval
  obtain ⟨v0, vs0, d0, ds0, p0, q0, hargs, rfl, rfl, h0, r0⟩ := trodAll_cons hA
  obtain ⟨rfl, rfl, rfl⟩ := trodAll_nil r0
  obtain rfl : args = #[v0] := by cases args; simp_all
  obtain ⟨rfl, rfl⟩ := trodVars_none hV
  obtain ⟨a0, len0, cap0, rfl⟩ := okWide_slice Try.underlying22 (hval 0 22 v0 rfl rfl)
  have k0 := h0
  have lt0 : ∀ x ∈ p0, x.block < W.heap.size := by obtain ⟨m, hm⟩ := k0; exact DataW.trod_lt m _ _ _ hm
  obtain ⟨z0, w0⟩ : ∃ zs, IsRow .u8 W a0 len0 cap0 zs := by
    obtain ⟨fuel, hf⟩ := h0
    rcases open_ints Try.underlying22 Try.underlying5 (by kernel_rfl) hf with ⟨hcs, _⟩ | ⟨x, l, c, zs, hcs, _, hl, hm, hz, _, hcell, hwz⟩
    · simp [Value.cells] at hcs
      obtain ⟨rfl, rfl, rfl⟩ := hcs
      exact ⟨[], .inl ⟨rfl, rfl, rfl, rfl⟩⟩
    · simp [Value.cells] at hcs
      obtain ⟨rfl, rfl, rfl⟩ := hcs
      exact ⟨zs, .inr ⟨_, rfl, hl, hm, by simpa using hz, hcell, hwz⟩⟩
  clear hA0 hval0
  refine (walk a0 len0 cap0 z0 W w0).mono fun e W' ⟨he, bel⟩ => ?_
  subst he
  exact ⟨_, rfl, _, _, _, [], _, [], hW', trodAll_mk1 (shut_bool Try.underlying4 _), (trodAll_cons_mk (Below.trod laidOut (by kernel_rfl) (of_decide_eq_true (by kernel_rfl)) k0 bel lt0) trodAll_mk0), rfl, bel.frame _, fun h => by cases h⟩

theorem over : Rows.fnBlockedRow.holds Try.pinned (OpenSpec.ofChange Rows.fnBlockedSpec) :=
  OpenClaim.holds_of_wide 3 Try.f3 rfl rfl rfl rfl rfl rfl rfl ⟨rfl, rfl, rfl, rfl, rfl⟩ rfl rfl rfl rfl rfl (by kernel_rfl) Try.func3 (by kernel_rfl)
    (of_decide_eq_true (by kernel_rfl)) (by unfold Func.isWrapper; first | (rw [if_pos (by decide +kernel)]; kernel_rfl) | (rw [if_neg (by decide +kernel)]; exact ⟨rfl, rfl⟩))
    (fun os started H enc _ => lifted os started H enc)

/-- the statement -/
theorem proved : Rows.FnBlockedSaid := over
#print axioms proved
end Go.Proofs.Ytlpgnaedhijdpaa.fnBlocked
