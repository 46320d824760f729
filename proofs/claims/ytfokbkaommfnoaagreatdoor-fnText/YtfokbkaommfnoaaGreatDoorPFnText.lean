/- At every drawn formula and text the law FnText returns true: a formula comes back from its text, whatever comments stand in it, and a text is refused as the model refuses it; the library's tables, errors and the type handle of errors.As lie as their text lays them (tied). -/
import Derived.Test.YtfokbkaommfnoaaGreatDoorCards
import Derived.Test.YtfokbkaommfnoaaGreatDoorTie
import Derived.Test.YtfokbkaommfnoaaGreatDoorRg
import Derived.Test.YtfokbkaommfnoaaGreatDoorDt
import Derived.WalkKit
import Derived.ProofKit
import Derived.OpenShut
import Derived.ShutString
import Derived.ChangeOld
import Derived.Below
import Derived.Deep.DeepHandedRow
import Derived.Lib.LaidTab
import Derived.Lib.TrailingZeros
import Derived.Stop.LaidErr
import Derived.Stop.LaidTwo
import Derived.LaidHandle
import Derived.LaidSub
namespace Go.Proofs.YtfokbkaommfnoaaGreatDoor.fnText
open Go.ChangeShapes Go.WideShapes Go.ChangeAt Go.RowKit
open Go.ChangeMaps (open_string shut_string)
set_option linter.unusedVariables false

theorem own : ownKnob Tryz.prog.godebug = none := by kernel_rfl
theorem laidOut : laidOutB Tryz.prog = true := by kernel_rfl

/-- what the walk is told of a slice of integers that came in -/
def IsRow (k : IntKind) (w : World) (a : Option Addr) (len cap : Nat) (zs : List Int) : Prop :=
  (a = none ∧ len = 0 ∧ cap = 0 ∧ zs = []) ∨
  ∃ x, a = some x ∧ len ≤ cap ∧ cap ≤ maxLen ∧ zs.length = cap ∧ (∀ i, i < zs.length → w.cell? (x.add i) = some (.int k (zs.getD i 0))) ∧ ∀ n ∈ zs, (Lit.int k n).wf = true

theorem gPowType : (Tryz.prog.globals[1]?).map (·.type) = some 145 := by kernel_rfl
theorem cellsPow : Tryz.prog.cellsOf 145 = 20 := by kernel_rfl
theorem cellsU64 : Tryz.prog.cellsOf 137 = 1 := by kernel_rfl
theorem laid_tail {P : Program} {W : World} {x : String × DataW Unit} {rest : List (String × DataW Unit)} (h : laidMet P (x :: rest) W) : laidMet P rest W := by
  obtain ⟨ps, hv, hn, hc⟩ := h
  obtain ⟨n, d⟩ := x
  obtain ⟨g, t, cs, fuel, p, q, _, _, _, _, hr, rfl⟩ := hv
  exact ⟨q, hr, (List.nodup_append.1 hn).2.1, fun b off hm => hc b off (List.mem_append_right _ hm)⟩
theorem powData : (Rows.laid_internal_strconv_uint64pow10 : DataW Unit) = Lib.tabData .u64 Lib.pow10Tab := by kernel_rfl
theorem star : "*" ++ "errors.errorString" = "*errors.errorString" := by decide
theorem rowErr (u : TypeId) (h : Tryz.prog.typeName? 3 u = some "*errors.errorString") : u = 175 :=
  typeName_ptr_named (nm := "errors.errorString") (by rw [star]; kernel_rfl) (by kernel_rfl) (by decide) u (by rw [star]; exact h)
theorem gSyntType : (Tryz.prog.globals[5]?).map (·.type) = some 44 := by kernel_rfl
theorem gRangType : (Tryz.prog.globals[6]?).map (·.type) = some 44 := by kernel_rfl
theorem cellsErr : Tryz.prog.cellsOf 177 = 1 := by kernel_rfl
theorem cellsStr : Tryz.prog.cellsOf 9 = 1 := by kernel_rfl
theorem et : Tryz.prog.globalNamed "errors.errorType" = some 0 := by kernel_rfl
theorem rt : (Tryz.prog.cutTypes.find? (·.1 == "internal/reflectlite.rtype")).map (·.2) = some 118 := by kernel_rfl
theorem oneRow : ((List.range 208).filter fun t => Tryz.prog.rowNamed t [101, 114, 114, 111, 114]) = [44] := by kernel_rfl
theorem typesSize : Tryz.prog.types.size = 208 := by kernel_rfl
theorem handleIs : typeHandle Tryz.prog 44 = .pointer (some ⟨9, 44, none⟩) := by kernel_rfl
theorem var_lt {W : World} {n : String} {g : Nat} {cs : Array Value} (hg : Tryz.prog.globalNamed n = some g) (hv : W.var? Tryz.prog n = some cs) : g < W.heap.size := by
  unfold World.var? at hv
  rw [hg] at hv
  rcases Nat.lt_or_ge g W.heap.size with h' | h'
  · exact h'
  · simp [Array.getElem?_eq_none h'] at hv
/-- what the row's list, and the world's shape, give -/
theorem table {W : World} (h : laidMetH Tryz.prog Rows.fnTextRow.laid W) (hSh : W.ShapedOpen Tryz.prog) : ln.EnvE W := by
  have h' : laidMet Tryz.prog [("math/bits.deBruijn32tab", Rows.laid_math_bits_deBruijn32tab), ("math/bits.deBruijn64tab", Rows.laid_math_bits_deBruijn64tab), ("internal/strconv.uint64pow10", Rows.laid_internal_strconv_uint64pow10), ("unicode/utf8.acceptRanges", Rows.laid_unicode_utf8_acceptRanges), ("strconv.ErrRange", Rows.laid_strconv_ErrRange), ("strconv.ErrSyntax", Rows.laid_strconv_ErrSyntax), ("unicode/utf8.first", Rows.laid_unicode_utf8_first)] W ∧ handlesMet Tryz.prog [("errors.errorType", Rows.laid_errors_errorType)] W := h
  obtain ⟨name, u, ty, e1, e2, e3, e4, e5⟩ := h'.2 _ (List.mem_singleton.2 rfl)
  have en : name = [101, 114, 114, 111, 114] := (Option.some.inj e1).symm
  subst en
  obtain rfl := Option.some.inj (rt.symm.trans e2)
  have hm : ty ∈ (List.range 208).filter fun t => Tryz.prog.rowNamed t [101, 114, 114, 111, 114] := List.mem_filter.2 ⟨List.mem_range.2 (by rw [← typesSize]; exact e3), e4⟩
  rw [oneRow] at hm
  obtain rfl := List.mem_singleton.1 hm
  rw [handleIs] at e5
  have h3 := laid_tail (laid_tail h'.1)
  have h5 := laid_tail (laid_tail h3)
  have h6 := laid_tail h5
  rw [powData] at h3
  have t : Lib.TabIs Tryz.prog W "internal/strconv.uint64pow10" .u64 Lib.pow10Tab :=
    Lib.tabIs_of_head txt.gPow gPowType Tryz.underlying145 Tryz.underlying137 cellsU64 cellsPow h3
  obtain ⟨a1, s1, hv1, _, _, _⟩ := laid_sentinel h5 rd.gRang gRangType Tryz.underlying44 rowErr Tryz.underlying175 Tryz.underlying177 rfl rfl Tryz.underlying9 cellsErr cellsStr
  obtain ⟨a2, s2, hv2, _, _, _⟩ := laid_sentinel h6 rd.gSynt gSyntType Tryz.underlying44 rowErr Tryz.underlying175 Tryz.underlying177 rfl rfl Tryz.underlying9 cellsErr cellsStr
  have hM := Tryz.laysM145.s1_3 W hSh
  have hMl : 2 < W.heap.size := by obtain ⟨m, hm⟩ := hM; exact World.block_lt_of_cell? W _ hm
  exact ⟨⟨⟨World.block_lt_of_cell? W _ (t.cell txt.gPow 0 (by decide)), t⟩, ⟨var_lt rd.gRang hv1, var_lt rd.gSynt hv2, hMl⟩, ⟨_, _, hv2⟩, ⟨_, _, hv1⟩, hM⟩, by simpa using World.var?_cell et e5 0, var_lt et e5⟩

/-! ### the walk -/
set_option maxRecDepth 100000 in
set_option maxHeartbeats 8000000 in
theorem walk (a0 : Option Addr) (len0 cap0 : Nat) (z0 : List Int) (w : World) (w0 : IsRow .u8 w a0 len0 cap0 z0) (hT : ln.EnvE w) :
    Calls Tryz.prog 3 #[.slice a0 len0 cap0] w fun e w' => e = .returned (.bool true) ∧ Below w.heap.size w w' := by
  have hB := draw.of_rowB w0
  have hm : len0 ≤ 9223372036854775807 := by
    rcases w0 with ⟨_, h, _, _⟩ | ⟨_, _, h1, h2, _⟩
    · omega
    · unfold maxLen at h2
      omega
  clear w0
  by_cases hbig : 1048576 < len0
  · have C := sl.hide (draw.big a0 len0 cap0 w hm)
    rw [decide_eq_true hbig] at C
    clear hT
    go_enter Tryz.func3, Tryz.ntmps3
    go_wp2_with fail
    refine (sl.unhide C).mono ?_; rintro e w' ⟨rfl, rfl⟩
    go_wp2_with fail
    go_ret
    exact ⟨rfl, Below.refl _ _⟩
  have C := sl.hide (draw.big a0 len0 cap0 w hm)
  rw [decide_eq_false hbig] at C
  have HB := sl.hide hB
  have TT := sl.hide hT
  have hlen : len0 ≤ 1048576 := by omega
  clear hB hT hbig
  go_enter Tryz.func3, Tryz.ntmps3
  go_wp2_with fail
  refine (sl.unhide C).mono ?_; rintro e w' ⟨rfl, hw⟩; have hw' := hw.symm; clear hw; subst hw'
  clear C hm
  go_wp2_with fail
  refine (dt.drawCnfText a0 len0 cap0 _ hlen (sl.unhide HB)).mono ?_; rintro e w1 ⟨n, v, LL, rfl, bd, o1, g1⟩
  obtain ⟨va, vc, rfl⟩ := o1.len
  have ht : css.tot LL ≤ 1048576 := Nat.le_trans (df.tot_bd bd (Nat.le_refl _)) (by decide)
  have hLLl : LL.length ≤ 1048576 := Nat.le_trans (css.tot_len LL) ht
  have hLLi : ∀ i, (LL.getD i []).length ≤ 1048576 := fun i => Nat.le_trans (css.tot_in LL i) ht
  have HLI := sl.hide hLLi
  have gA := World.grownBy_alloc w1 (.cells #[.int .i64 n, .slice va LL.length vc] 26) none
  have F1 := sl.hide (cf.Box.new 26 w1 (.int .i64 n) (.slice va LL.length vc))
  have GW1 := sl.hide (sl.grown_trans (r := none) g1 gA)
  have O1 := sl.hide (o1.kept gA)
  have TT1 := sl.hide ((sl.unhide TT).kept (sl.grown_trans (r := none) g1 gA))
  clear g1 o1 gA bd hLLi
  obtain ⟨W1, hW1⟩ : ∃ W1, W1 = w1.alloc (.cells #[.int .i64 n, .slice va LL.length vc] 26) := ⟨_, rfl⟩
  rw [← hW1] at F1 GW1 O1 TT1
  have hs1 : w1.heap.size < W1.heap.size := (sl.unhide F1).lt
  obtain ⟨S, hS⟩ : ∃ S : ByteArray, S = ⟨(cx.cnfT n LL).toArray⟩ := ⟨_, rfl⟩
  have ci := cx.implCnfText (.slice va LL.length vc) n LL W1 (sl.unhide TT1).env.pow ht (sl.unhide O1).sls
  have cs := fun (w' : World) (g : W1.grownBy w' none) => cx.specCnfText (.slice va LL.length vc) n LL w' ht ((sl.unhide O1).kept g).sls
  unfold dec.str at ci cs
  rw [← hS] at ci
  simp only [← hS] at cs
  have hSb : rd.bytes S = cx.cnfT n LL := by rw [hS]; exact rd.bytes_mk _
  have CI := sl.hide ci
  have CS := sl.hide cs
  have HSB := sl.hide hSb
  clear ci cs hS hSb
  have z0 := (sl.unhide F1).c0
  have z1 := (sl.unhide F1).c1
  go_wp2_with fail
  rw [← hW1]
  refine (sl.unhide CI).mono ?_; rintro e w2 ⟨rfl, g2⟩
  clear z0 z1 CI hW1
  generalize w1.heap.size = fb at *
  have F2 := sl.hide ((sl.unhide F1).kept g2)
  have z0 := (sl.unhide F2).c0
  have z1 := (sl.unhide F2).c1
  have C2 := sl.hide (sl.unhide CS _ g2)
  have G2 := sl.hide (sl.grown_trans (r := none) (sl.unhide GW1) g2)
  have O2 := sl.hide ((sl.unhide O1).kept g2)
  clear g2 CS GW1 F1 O1 TT1 hs1
  go_wp2_with fail
  refine (sl.unhide C2).mono ?_; rintro e w3 ⟨rfl, g3⟩
  clear z0 z1 C2
  have F3 := sl.hide ((sl.unhide F2).kept g3)
  have G3 := sl.hide (sl.grown_trans (r := none) (sl.unhide G2) g3)
  have O3 := sl.hide ((sl.unhide O2).kept g3)
  clear g3 F2 G2 O2
  have TT3 := sl.hide ((sl.unhide TT).kept (sl.unhide G3))
  by_cases hc0 : cx.cnfT n LL = []
  case' pos =>
    have hne : S.toList.isEmpty = true := by rw [rd.toList_bytes, sl.unhide HSB, hc0]; rfl
    have G := G3
    clear HSB hc0 F3 O3 HLI TT3 G3
    go_wp2_with fail
  case' neg =>
    have hne : S.toList.isEmpty = false := by
      rw [rd.toList_bytes, sl.unhide HSB]
      cases e : cx.cnfT n LL with
      | nil => exact absurd e hc0
      | cons _ _ => rfl
    obtain ⟨hcB, hwl, hcw⟩ := ln.cnfT_ne hc0
    rw [hcw] at HSB
    have hSz : S.size = (cx.whole n LL).length := by rw [← rd.bytes_len, sl.unhide HSB]
    have hS12 : S.size ≤ 12000 := by omega
    have CR := ln.implReadCnf (⟨#[99, 32, 97, 10, 10]⟩ ++ S ++ ⟨#[99, 10]⟩) w3 (sl.unhide TT3).env (sl.unhide TT3).cell (sl.unhide TT3).lt
    rw [ln.bytes_around S, sl.unhide HSB] at CR
    by_cases hsh : (cx.whole n LL).length < 11990
    case' pos =>
      rw [ln.read_comments hcB (by omega)] at CR
      have CR2 : Hid (Calls Tryz.prog 9 #[.string (⟨#[99, 32, 97, 10, 10]⟩ ++ S ++ ⟨#[99, 10]⟩)] w3 fun e w' => ∃ u, e = .returned (.tuple #[.agg #[.int .i64 n, u], .int .i64 0, .int .i64 0]) ∧ css.OwnS w3.heap.size w'.heap.size w' u LL ∧ w3.grownBy w' none) := CR
      have hs11 : (S.size : Int) < 11990 := by omega
      clear CR hc0 hcB hwl hcw HSB hsh hSz
      go_wp2_with fail
      refine (sl.unhide CR2).mono ?_; rintro e w4 ⟨u4, rfl, o4, g4⟩
      obtain ⟨ua, uc, rfl⟩ := o4.len
      have gA := World.grownBy_alloc w4 (.cells #[.int .i64 n, .slice ua LL.length uc] 26) none
      have f4 := ((sl.unhide F3).kept g4).kept gA
      have b4 := cf.Box.new 26 w4 (.int .i64 n) (.slice ua LL.length uc)
      have zf0 := f4.c0
      have zf1 := f4.c1
      have zb0 := b4.c0
      have zb1 := b4.c1
      have G4 := sl.hide (sl.grown_trans (r := none) (sl.unhide G3) (sl.grown_trans (r := none) g4 gA))
      have CL := sl.hide (df.sameList _ _ LL _ hLLl (sl.unhide HLI) (o4.kept gA).sls (((sl.unhide O3).kept g4).kept gA).sls)
      have hfl := ((sl.unhide F3).kept g4).lt
      clear g4 gA f4 b4 o4 CR2 F3 O3 HLI TT3 G3
      go_wp2_with fail
      refine (sl.unhide CL).mono ?_; rintro e w5 ⟨rfl, g5⟩
      have G := sl.hide (sl.grown_trans (r := none) (sl.unhide G4) g5)
      clear g5 G4 CL zf0 zf1 zb0 zb1 hfl
      go_wp2_with fail
    case' neg =>
      have hs11 : ¬ (S.size : Int) < 11990 := by omega
      obtain ⟨A, hA⟩ : ∃ A, A = ln.readC ([99, 32, 97, 10, 10] ++ cx.whole n LL ++ [99, 10]) := ⟨_, rfl⟩
      rw [← hA] at CR
      have CR2 := sl.hide CR
      clear CR hc0 hcB hwl hcw HSB hsh hSz hA
      go_wp2_with fail
      refine (sl.unhide CR2).mono ?_; rintro e w4 ⟨u4, rfl, o4, g4⟩
      obtain ⟨ua, uc, rfl⟩ := o4.len
      have gA := World.grownBy_alloc w4 (.cells #[.int .i64 A.n, .slice ua A.cs.length uc] 26) none
      have G := sl.hide (sl.grown_trans (r := none) (sl.unhide G3) (sl.grown_trans (r := none) g4 gA))
      clear g4 gA o4 CR2 F3 O3 HLI TT3 G3
      go_wp2_with fail
  all_goals
    refine (dt.drawReadCnf a0 len0 cap0 _ hlen ((sl.unhide HB).below (sl.below_of (sl.unhide G)))).mono ?_; rintro e wd ⟨U, rfl, hU, gU⟩
    have GD := sl.hide (sl.grown_trans (r := none) (sl.unhide G) gU)
    have TD := (sl.unhide TT).kept (sl.unhide GD)
    obtain ⟨N, R, cd, li, r0, r1, cs, ci⟩ := ln.bothR2 U hU
    have CI := sl.hide (ci wd TD)
    have CS := sl.hide cs
    have RA := sl.hide r0
    have RN := sl.hide r1
    clear gU G TD HB r0 r1 cs ci
    go_wp2_with fail
    refine (sl.unhide CI).mono ?_; rintro e v1 ⟨u1, rfl, o1, g1⟩
    obtain ⟨ua1, uc1, rfl⟩ := o1.len
    have gA := World.grownBy_alloc v1 (.cells #[.int .i64 N, .slice ua1 R.length uc1] 26) none
    have b1 := cf.Box.new 26 v1 (.int .i64 N) (.slice ua1 R.length uc1)
    have B1 := sl.hide b1
    have O1 := sl.hide (o1.kept gA)
    have G1 := sl.hide (sl.grown_trans (r := none) (sl.unhide GD) (sl.grown_trans (r := none) g1 gA))
    clear g1 gA o1 b1 CI GD
    go_wp2_with fail
    refine (sl.unhide CS _).mono ?_; rintro e v2 ⟨u2, rfl, o2, g2⟩
    obtain ⟨ua2, uc2, rfl⟩ := o2.len
    have gA := World.grownBy_alloc v2 (.cells #[.int .i64 N, .slice ua2 R.length uc2] 26) none
    have B2 := sl.hide (((sl.unhide B1).kept g2).kept gA)
    have O2 := sl.hide (((sl.unhide O1).kept g2).kept gA)
    have G2 := sl.hide (sl.grown_trans (r := none) (sl.unhide G1) (sl.grown_trans (r := none) g2 gA))
    have hv1 := ((sl.unhide B1).kept g2).lt
    clear g2 gA o2 B1 O1 G1 CS
    generalize v1.heap.size = b1 at *
    have z0 := (sl.unhide B2).c0
    have z1 := (sl.unhide B2).c1
    by_cases hcd : cd = 0
    · obtain ⟨hc2, hw2⟩ := sl.unhide RA hcd
      subst hcd
      have ht2 : css.tot R ≤ 1048576 := ln.tot_of hc2
      have hl2 : R.length ≤ 1048576 := Nat.le_trans (css.tot_len R) ht2
      have hi2 : ∀ i, (R.getD i []).length ≤ 1048576 := fun i => Nat.le_trans (css.tot_in R i) ht2
      have TD := (sl.unhide TT).kept (sl.unhide G2)
      have CT := cx.implCnfText (.slice ua1 R.length uc1) N R _ TD.env.pow ht2 (sl.unhide O2).sls
      rw [cx.cnfT_yes hc2 (by omega)] at CT
      unfold dec.str at CT
      obtain ⟨T, hT⟩ : ∃ T : ByteArray, T = ⟨(cx.whole N R).toArray⟩ := ⟨_, rfl⟩
      rw [← hT] at CT
      have hTb : rd.bytes T = cx.whole N R := by rw [hT]; exact rd.bytes_mk _
      have KT := sl.hide CT
      have HI2 := sl.hide hi2
      have RO := sl.hide (fun w' hE => ln.readOwn hc2 hw2 T hTb w' hE)
      have KO := sl.hide (fun w' (h : css.Sls w' (.slice ua1 R.length uc1) R) => ok.implCnfOk _ N R w' ht2 h)
      rw [hc2] at KO
      clear RA RN hT hTb CT TD hi2 hc2 hw2
      go_wp2_with fail
      refine (sl.unhide KT).mono ?_; rintro e v3 ⟨rfl, g3⟩
      have B3 := sl.hide ((sl.unhide B2).kept g3)
      have O3 := sl.hide ((sl.unhide O2).kept g3)
      have G3 := sl.hide (sl.grown_trans (r := none) (sl.unhide G2) g3)
      clear g3 KT z0 z1 B2 O2 G2
      go_wp2_with fail
      refine (sl.unhide RO _ ((sl.unhide TT).kept (sl.unhide G3))).mono ?_; rintro e v4 ⟨u4, rfl, o4, g4⟩
      obtain ⟨ua4, uc4, rfl⟩ := o4.len
      have gA := World.grownBy_alloc v4 (.cells #[.int .i64 N, .slice ua4 R.length uc4] 26) none
      have b4 := cf.Box.new 26 v4 (.int .i64 N) (.slice ua4 R.length uc4)
      have B4 := sl.hide (((sl.unhide B3).kept g4).kept gA)
      have O4 := sl.hide (((sl.unhide O3).kept g4).kept gA)
      have G4 := sl.hide (sl.grown_trans (r := none) (sl.unhide G3) (sl.grown_trans (r := none) g4 gA))
      have CL := sl.hide (df.sameList _ _ R _ hl2 (sl.unhide HI2) (o4.kept gA).sls (sl.unhide O4).sls)
      have zb0 := b4.c0
      have zb1 := b4.c1
      have z0 := (sl.unhide B4).c0
      have z1 := (sl.unhide B4).c1
      have hv3 := ((sl.unhide B3).kept g4).lt
      clear g4 gA o4 b4 B3 O3 G3 RO HI2
      go_wp2_with fail
      refine (sl.unhide CL).mono ?_; rintro e v5 ⟨rfl, g5⟩
      have z50 := ((sl.unhide B4).kept g5).c0
      have z51 := ((sl.unhide B4).kept g5).c1
      have K5 := sl.hide (sl.unhide KO _ ((sl.unhide O4).kept g5).sls)
      have G5 := sl.hide (sl.grown_trans (r := none) (sl.unhide G4) g5)
      clear g5 CL KO O4 G4 B4 z0 z1 zb0 zb1
      go_wp2_with fail
      refine (sl.unhide K5).mono ?_; rintro e v6 ⟨rfl, g6⟩
      have G6 := sl.hide (sl.grown_trans (r := none) (sl.unhide G5) g6)
      clear g6 K5 G5 z50 z51
      go_wp2_with fail
      go_ret
      exact ⟨rfl, sl.below_of (sl.unhide G6)⟩
    · have hR := sl.unhide RN hcd
      have hl0 : ((R.length : Int) == 0) = true := by rw [hR]; rfl
      have hcb : (cd != 0) = true := by rw [bne_iff_ne]; exact hcd
      clear RA RN hcd O2 hR
      go_wp2_with fail
      go_ret
      exact ⟨rfl, sl.below_of (sl.unhide G2)⟩

/-! ### the row's step (the guide's own frame) -/
set_option maxRecDepth 100000 in
theorem contract (H : Type) (enc : TypeId × Value → H) (W : World) (base : Nat) (args : Array Value) (ds gs : List (DataW H)) (before : List MemPlace)
    (hval : ∀ (j : Nat) t v, Tryz.f3.params[j]? = some t → args[j]? = some v → Value.okWide Tryz.prog W .any base t v)
    (hW : DataW.Whole enc Tryz.prog Tryz.f3.params.toList Rows.fnTextSpec.vars false W args.toList ds gs before) (hL : laidMetH Tryz.prog Rows.fnTextRow.laid W) (hSh : W.ShapedOpen Tryz.prog) :
    Calls Tryz.prog 3 args W fun e W' => ∃ v, e = .returned v ∧ Rows.fnTextSpec.post enc Tryz.prog Tryz.f3 false true false false W args v W' := by
  have hW' := hW
  obtain ⟨p, q, hA0, hV, rfl, hfz, hnd⟩ := hW
  have hA : DataW.TrodAll enc Tryz.prog W 0 (fun _ => true) true Tryz.f3.params.toList args.toList ds p := hA0
  rw [Tryz.params3] at hA hval
  obtain ⟨v0, vs0, d0, ds0, p0, q0, hargs, rfl, rfl, h0, r0⟩ := trodAll_cons hA
  obtain ⟨rfl, rfl, rfl⟩ := trodAll_nil r0
  obtain rfl : args = #[v0] := by cases args; simp_all
  obtain ⟨rfl, rfl⟩ := trodVars_none hV
  obtain ⟨a0, len0, cap0, rfl⟩ := okWide_slice Tryz.underlying22 (hval 0 22 v0 rfl rfl)
  have k0 := h0
  have lt0 : ∀ x ∈ p0, x.block < W.heap.size := by obtain ⟨m, hm⟩ := k0; exact DataW.trod_lt m _ _ _ hm
  obtain ⟨z0, w0⟩ : ∃ zs, IsRow .u8 W a0 len0 cap0 zs := by
    obtain ⟨fuel, hf⟩ := h0
    rcases open_ints Tryz.underlying22 Tryz.underlying5 (by kernel_rfl) hf with ⟨hcs, _⟩ | ⟨x, l, c, zs, hcs, _, hl, hm, hz, _, hcell, hwz⟩
    · simp [Value.cells] at hcs
      obtain ⟨rfl, rfl, rfl⟩ := hcs
      exact ⟨[], .inl ⟨rfl, rfl, rfl, rfl⟩⟩
    · simp [Value.cells] at hcs
      obtain ⟨rfl, rfl, rfl⟩ := hcs
      exact ⟨zs, .inr ⟨_, rfl, hl, hm, by simpa using hz, hcell, hwz⟩⟩
  clear hA0
  refine (walk a0 len0 cap0 z0 W w0 (table hL hSh)).mono fun e W' ⟨he, bel⟩ => ?_
  subst he
  exact ⟨_, rfl, _, _, _, [], _, [], hW', trodAll_mk1 (shut_bool Tryz.underlying4 _), (trodAll_cons_mk (Below.trod laidOut (by kernel_rfl) (of_decide_eq_true (by kernel_rfl)) k0 bel lt0) trodAll_mk0), rfl, bel.frame _, fun h => by cases h⟩

set_option maxRecDepth 100000 in
theorem lifted (os : Os) (started : os.Started) (H : Type) (enc : TypeId × Value → H) (F : Stop.Interp) :
    ReturnsInHanded {} Tryz.checked os 3 .any ((OpenSpec.ofChange Rows.fnTextSpec).preRow enc Tryz.prog Tryz.f3 Rows.fnTextRow.domain false Rows.fnTextRow.laid) (((OpenSpec.ofChange Rows.fnTextSpec).at F).post enc Tryz.prog Tryz.f3 false true false false) := by
  refine returnsInHanded_of_row (C := Tryz.checked) (s := OpenSpec.ofChange Rows.fnTextSpec) own started (by kernel_rfl) Tryz.func3
    (witness_row_at (enc := enc) (C := Tryz.checked) false ({ (World.holding Tryz.prog os ⟨#[.cells #[.string ⟨#[118, 97, 108, 117, 101, 32, 111, 117, 116, 32, 111, 102, 32, 114, 97, 110, 103, 101]⟩] 177, .cells #[.string ⟨#[105, 110, 118, 97, 108, 105, 100, 32, 115, 121, 110, 116, 97, 120]⟩] 177], #[], []⟩) with heap := (((((((((World.holding Tryz.prog os ⟨#[.cells #[.string ⟨#[118, 97, 108, 117, 101, 32, 111, 117, 116, 32, 111, 102, 32, 114, 97, 110, 103, 101]⟩] 177, .cells #[.string ⟨#[105, 110, 118, 97, 108, 105, 100, 32, 115, 121, 110, 116, 97, 120]⟩] 177], #[], []⟩).heap.modify 3 fun | .cells _ t frozen => .cells (Lib.deBruijn32tab.map fun (n : Nat) => Value.int .u8 n).toArray t frozen | o => o).modify 4 fun | .cells _ t frozen => .cells (Lib.deBruijn64tab.map fun (n : Nat) => Value.int .u8 n).toArray t frozen | o => o).modify 1 fun | .cells _ t frozen => .cells (Lib.pow10Tab.map fun n => Value.int .u64 n).toArray t frozen | o => o).modify 6 fun | .cells _ t frozen => .cells #[.iface 175 (.pointer (some ⟨(World.holding Tryz.prog default ⟨#[], #[], []⟩).heap.size, 0, none⟩))] t frozen | o => o).modify 5 fun | .cells _ t frozen => .cells #[.iface 175 (.pointer (some ⟨(World.holding Tryz.prog default ⟨#[], #[], []⟩).heap.size + 1, 0, none⟩))] t frozen | o => o).modify 8 fun | .cells _ t frozen => .cells #[.int .u8 128, .int .u8 191, .int .u8 160, .int .u8 191, .int .u8 128, .int .u8 159, .int .u8 144, .int .u8 191, .int .u8 128, .int .u8 143, .int .u8 0, .int .u8 0, .int .u8 0, .int .u8 0, .int .u8 0, .int .u8 0, .int .u8 0, .int .u8 0, .int .u8 0, .int .u8 0, .int .u8 0, .int .u8 0, .int .u8 0, .int .u8 0, .int .u8 0, .int .u8 0, .int .u8 0, .int .u8 0, .int .u8 0, .int .u8 0, .int .u8 0, .int .u8 0] t frozen | o => o).modify 0 fun | .cells _ t frozen => .cells #[.iface 118 (.agg #[.pointer (some ⟨9, 44, none⟩)])] t frozen | o => o).modify 7 fun | .cells _ t frozen => .cells (Go.Pinned.utf8FirstZ.map fun (n : Nat) => Value.int .u8 n).toArray t frozen | o => o) } : World) #[.slice none 0 0] rfl (by kernel_rfl) (by kernel_rfl) (by kernel_rfl)
      (OpenSpec.preRow_of_cond 8 (x := ([.nil], [], [])) (by kernel_rfl) (by kernel_rfl) (fun k hk => by cases hk) (by kernel_rfl) (laidMetH_of_parts (laidMet_of_run' 8 (by kernel_rfl) (by kernel_rfl)) (by kernel_rfl)))) ?_
  intro W base args ds gs before hval hW _ _ _ hL hSh _
  exact contract H enc W base args ds gs before hval hW hL hSh

theorem said : Rows.FnTextSaid :=
  OpenClaim.holds_of_cond 3 Tryz.f3 rfl rfl rfl rfl rfl rfl rfl ⟨rfl, rfl, rfl, rfl, rfl⟩ rfl rfl rfl rfl rfl (by kernel_rfl) Tryz.func3 (by kernel_rfl)
    (of_decide_eq_true (by kernel_rfl)) (by unfold Func.isWrapper; first | (rw [if_pos (by decide +kernel)]; kernel_rfl) | (rw [if_neg (by decide +kernel)]; exact ⟨rfl, rfl⟩))
    (fun os started H enc _ F => by rw [OpenClaim.pre_eq_preRow]; exact lifted os started H enc F)

theorem plain (f : FuncId) (fn : Func) (hf : Tryz.pinned.checked.prog.funcNamed "loop.example/g00123/laws.FnText" = some f) (hfn : Tryz.pinned.checked.prog.funcs[f]? = some fn) :
    true = Tryz.pinned.checked.prog.looks [] ∧ ∀ (j : Nat) t, fn.params[j]? = some t → Tryz.pinned.checked.prog.wantsStandIn t = false := by
  obtain rfl : f = 3 := Option.some.inj ((show Tryz.prog.funcNamed "loop.example/g00123/laws.FnText" = some 3 by kernel_rfl).symm.trans hf) |>.symm
  obtain rfl : fn = Tryz.f3 := (Option.some.inj (Tryz.func3.symm.trans hfn)).symm
  refine ⟨by kernel_rfl, fun j t ht => ?_⟩
  rw [Tryz.params3] at ht
  obtain rfl : t = 22 := by simpa using Array.mem_of_getElem? ht
  exact (show Tryz.prog.wantsStandIn 22 = false by kernel_rfl)

/-- the statement: the row's tied card -/
theorem proved : Rows.FnTextCardSaid :=
  Claim7.holds_tied_plain_at .later [] _ _ _ _ said (fun _ h => by cases h) (by kernel_rfl) (fun _ h => by cases h) fnText_row_tie rfl ⟨rfl, rfl⟩ (by kernel_rfl) rfl plain (by kernel_rfl)
#print axioms proved
end Go.Proofs.YtfokbkaommfnoaaGreatDoor.fnText
