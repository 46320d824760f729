/- At every text impl.ReadCnf answers as spec.ReadCnf, formula, code and line, in memory of its own, and keeps nothing (the law FnExactReadCnf returns true); the library's tables, errors and the type handle of errors.As lie as their text lays them (tied). -/
import Derived.Test.YtfokbkaommfnoaaGreatDoorCards
import Derived.Test.YtfokbkaommfnoaaGreatDoorTie
import Derived.Test.YtfokbkaommfnoaaGreatDoorRf
import Derived.WalkKit
import Derived.ProofKit
import Derived.OpenShut
import Derived.ShutString
import Derived.ChangeOld
import Derived.Below
import Derived.Deep.DeepHandedRow
import Derived.Lib.LaidTab
import Derived.Lib.TrailingZeros
import Derived.Stop.LaidErr
import Derived.Stop.LaidTwo
import Derived.LaidHandle
import Derived.LaidSub
namespace Go.Proofs.YtfokbkaommfnoaaGreatDoor.fnExactReadCnf
open Go.ChangeShapes Go.WideShapes Go.ChangeAt Go.RowKit
open Go.ChangeMaps (open_string shut_string)
set_option linter.unusedVariables false

theorem own : ownKnob Tryz.prog.godebug = none := by kernel_rfl

theorem gPowType : (Tryz.prog.globals[1]?).map (·.type) = some 145 := by kernel_rfl
theorem cellsPow : Tryz.prog.cellsOf 145 = 20 := by kernel_rfl
theorem cellsU64 : Tryz.prog.cellsOf 137 = 1 := by kernel_rfl
theorem laid_tail {P : Program} {W : World} {x : String × DataW Unit} {rest : List (String × DataW Unit)} (h : laidMet P (x :: rest) W) : laidMet P rest W := by
  obtain ⟨ps, hv, hn, hc⟩ := h
  obtain ⟨n, d⟩ := x
  obtain ⟨g, t, cs, fuel, p, q, _, _, _, _, hr, rfl⟩ := hv
  exact ⟨q, hr, (List.nodup_append.1 hn).2.1, fun b off hm => hc b off (List.mem_append_right _ hm)⟩
theorem powData : (Rows.laid_internal_strconv_uint64pow10 : DataW Unit) = Lib.tabData .u64 Lib.pow10Tab := by kernel_rfl
theorem star : "*" ++ "errors.errorString" = "*errors.errorString" := by decide
theorem rowErr (u : TypeId) (h : Tryz.prog.typeName? 3 u = some "*errors.errorString") : u = 175 :=
  typeName_ptr_named (nm := "errors.errorString") (by rw [star]; kernel_rfl) (by kernel_rfl) (by decide) u (by rw [star]; exact h)
theorem gSyntType : (Tryz.prog.globals[5]?).map (·.type) = some 44 := by kernel_rfl
theorem gRangType : (Tryz.prog.globals[6]?).map (·.type) = some 44 := by kernel_rfl
theorem cellsErr : Tryz.prog.cellsOf 177 = 1 := by kernel_rfl
theorem cellsStr : Tryz.prog.cellsOf 9 = 1 := by kernel_rfl
theorem et : Tryz.prog.globalNamed "errors.errorType" = some 0 := by kernel_rfl
theorem rt : (Tryz.prog.cutTypes.find? (·.1 == "internal/reflectlite.rtype")).map (·.2) = some 118 := by kernel_rfl
theorem oneRow : ((List.range 208).filter fun t => Tryz.prog.rowNamed t [101, 114, 114, 111, 114]) = [44] := by kernel_rfl
theorem typesSize : Tryz.prog.types.size = 208 := by kernel_rfl
theorem handleIs : typeHandle Tryz.prog 44 = .pointer (some ⟨9, 44, none⟩) := by kernel_rfl
theorem var_lt {W : World} {n : String} {g : Nat} {cs : Array Value} (hg : Tryz.prog.globalNamed n = some g) (hv : W.var? Tryz.prog n = some cs) : g < W.heap.size := by
  unfold World.var? at hv
  rw [hg] at hv
  rcases Nat.lt_or_ge g W.heap.size with h' | h'
  · exact h'
  · simp [Array.getElem?_eq_none h'] at hv
/-- what the row's list, and the world's shape, give -/
theorem table {W : World} (h : laidMetH Tryz.prog Rows.fnExactReadCnfRow.laid W) (hSh : W.ShapedOpen Tryz.prog) : ln.EnvE W := by
  have h' : laidMet Tryz.prog [("math/bits.deBruijn32tab", Rows.laid_math_bits_deBruijn32tab), ("math/bits.deBruijn64tab", Rows.laid_math_bits_deBruijn64tab), ("internal/strconv.uint64pow10", Rows.laid_internal_strconv_uint64pow10), ("unicode/utf8.acceptRanges", Rows.laid_unicode_utf8_acceptRanges), ("strconv.ErrRange", Rows.laid_strconv_ErrRange), ("strconv.ErrSyntax", Rows.laid_strconv_ErrSyntax), ("unicode/utf8.first", Rows.laid_unicode_utf8_first)] W ∧ handlesMet Tryz.prog [("errors.errorType", Rows.laid_errors_errorType)] W := h
  obtain ⟨name, u, ty, e1, e2, e3, e4, e5⟩ := h'.2 _ (List.mem_singleton.2 rfl)
  have en : name = [101, 114, 114, 111, 114] := (Option.some.inj e1).symm
  subst en
  obtain rfl := Option.some.inj (rt.symm.trans e2)
  have hm : ty ∈ (List.range 208).filter fun t => Tryz.prog.rowNamed t [101, 114, 114, 111, 114] := List.mem_filter.2 ⟨List.mem_range.2 (by rw [← typesSize]; exact e3), e4⟩
  rw [oneRow] at hm
  obtain rfl := List.mem_singleton.1 hm
  rw [handleIs] at e5
  have h3 := laid_tail (laid_tail h'.1)
  have h5 := laid_tail (laid_tail h3)
  have h6 := laid_tail h5
  rw [powData] at h3
  have t : Lib.TabIs Tryz.prog W "internal/strconv.uint64pow10" .u64 Lib.pow10Tab :=
    Lib.tabIs_of_head txt.gPow gPowType Tryz.underlying145 Tryz.underlying137 cellsU64 cellsPow h3
  obtain ⟨a1, s1, hv1, _, _, _⟩ := laid_sentinel h5 rd.gRang gRangType Tryz.underlying44 rowErr Tryz.underlying175 Tryz.underlying177 rfl rfl Tryz.underlying9 cellsErr cellsStr
  obtain ⟨a2, s2, hv2, _, _, _⟩ := laid_sentinel h6 rd.gSynt gSyntType Tryz.underlying44 rowErr Tryz.underlying175 Tryz.underlying177 rfl rfl Tryz.underlying9 cellsErr cellsStr
  have hM := Tryz.laysM145.s1_3 W hSh
  have hMl : 2 < W.heap.size := by obtain ⟨m, hm⟩ := hM; exact World.block_lt_of_cell? W _ hm
  exact ⟨⟨⟨World.block_lt_of_cell? W _ (t.cell txt.gPow 0 (by decide)), t⟩, ⟨var_lt rd.gRang hv1, var_lt rd.gSynt hv2, hMl⟩, ⟨_, _, hv2⟩, ⟨_, _, hv1⟩, hM⟩, by simpa using World.var?_cell et e5 0, var_lt et e5⟩

/-! ### the walk -/
theorem walk (a0 : ByteArray) (w0 : a0.size ≤ maxLen) (w : World) (hT : ln.EnvE w) :
    Calls Tryz.prog 4 #[.string a0] w fun e w' => e = .returned (.bool true) ∧ Below w.heap.size w w' := by
  by_cases hbig : 1048576 < a0.size
  · have hi : (1048576 : Int) < (a0.size : Int) := by omega
    go_enter Tryz.func4, Tryz.ntmps4
    go_wp2
    go_ret
    exact ⟨rfl, Below.refl _ _⟩
  have hi : ¬ (1048576 : Int) < (a0.size : Int) := by omega
  have hs : a0.size ≤ 1048576 := by omega
  have TT := sl.hide hT
  clear hT hbig
  obtain ⟨N, R, cd, li, hR, cs, ci⟩ := ln.bothR a0 hs
  have CS := sl.hide cs
  have CI := sl.hide ci
  clear cs ci
  have hz2 : ¬ (1 : Int) + (css.sumLen R : Int) < 0 := by omega
  go_enter Tryz.func4, Tryz.ntmps4
  go_wp2_with fail
  refine (sl.unhide CS _).mono ?_; rintro e w1 ⟨u1, rfl, o1, g1⟩
  obtain ⟨a1_, c1_, rfl⟩ := o1.len
  have s1 := sl.hide (g1).size
  have B1 := sl.hide (sl.below_of (g1))
  have UA1 := sl.hide o1
  clear o1 g1
  have s2 := sl.hide (World.grownBy_alloc w1 (.cells #[(.int .i64 N), (.slice a1_ R.length c1_)] 26) none).size
  have B2 := sl.hide (sl.below_none (sl.unhide B1) (World.grownBy_alloc w1 (.cells #[(.int .i64 N), (.slice a1_ R.length c1_)] 26) none))
  have UA2 := sl.hide ((sl.unhide UA1).kept (World.grownBy_alloc w1 (.cells #[(.int .i64 N), (.slice a1_ R.length c1_)] 26) none))
  have q2 : Hid ((w1.alloc (.cells #[(.int .i64 N), (.slice a1_ R.length c1_)] 26)).heap.size = w1.heap.size + 1) := World.size_alloc ..
  have U2 := sl.hide (cf.Box.new 26 w1 (.int .i64 N) (.slice a1_ R.length c1_))
  clear B1 UA1
  go_wp2_with fail
  refine (sl.unhide CI _ ((sl.unhide TT).below (sl.unhide B2))).mono ?_; rintro e w3 ⟨u3, rfl, o3, g3⟩
  obtain ⟨a3_, c3_, rfl⟩ := o3.len
  have s3 := sl.hide (g3).size
  have B3 := sl.hide (sl.below_none (sl.unhide B2) (g3))
  have UA3 := sl.hide ((sl.unhide UA2).kept (g3))
  have U3 := sl.hide ((sl.unhide U2).kept (g3))
  have GA3 := sl.hide o3
  clear o3 g3 B2 UA2 U2
  have pU0 := (sl.unhide U3).c0
  have pU1 := (sl.unhide U3).c1
  have pUl := (sl.unhide U3).lt
  have s4 := sl.hide (World.grownBy_alloc w3 (.cells #[(.int .i64 N), (.slice a3_ R.length c3_)] 26) none).size
  have B4 := sl.hide (sl.below_none (sl.unhide B3) (World.grownBy_alloc w3 (.cells #[(.int .i64 N), (.slice a3_ R.length c3_)] 26) none))
  have UA4 := sl.hide ((sl.unhide UA3).kept (World.grownBy_alloc w3 (.cells #[(.int .i64 N), (.slice a3_ R.length c3_)] 26) none))
  have GA4 := sl.hide ((sl.unhide GA3).kept (World.grownBy_alloc w3 (.cells #[(.int .i64 N), (.slice a3_ R.length c3_)] 26) none))
  have U4 := sl.hide ((sl.unhide U3).kept (World.grownBy_alloc w3 (.cells #[(.int .i64 N), (.slice a3_ R.length c3_)] 26) none))
  have q4 : Hid ((w3.alloc (.cells #[(.int .i64 N), (.slice a3_ R.length c3_)] 26)).heap.size = w3.heap.size + 1) := World.size_alloc ..
  have G4 := sl.hide (cf.Box.new 26 w3 (.int .i64 N) (.slice a3_ R.length c3_))
  clear B3 UA3 GA3 U3
  have zU0 := (sl.unhide U4).c0
  have zU1 := (sl.unhide U4).c1
  have zG0 := (sl.unhide G4).c0
  have zG1 := (sl.unhide G4).c1
  go_wp2_with fail
  refine (cf.eqCnf _ _ N R _ hR (sl.unhide GA4).sls (sl.unhide UA4).sls).mono ?_; rintro e w5 ⟨rfl, g5⟩
  clear pU0 pU1 pUl zU0 zU1 zG0 zG1
  have s5 := sl.hide (g5).size
  have B5 := sl.hide (sl.below_none (sl.unhide B4) (g5))
  have UA5 := sl.hide ((sl.unhide UA4).kept (g5))
  have GA5 := sl.hide ((sl.unhide GA4).kept (g5))
  have U5 := sl.hide ((sl.unhide U4).kept (g5))
  have G5 := sl.hide ((sl.unhide G4).kept (g5))
  clear g5 B4 UA4 GA4 U4 G4
  have zG0 := (sl.unhide G5).c0
  have zG1 := (sl.unhide G5).c1
  go_wp2_with fail
  refine (cf.markCnf _ N R 1 _ _ _ hR (by omega) (by omega) (sl.unhide GA5)).mono ?_; rintro e w6 ⟨rfl, o6, g6⟩
  clear zG0 zG1
  have s6 := sl.hide g6.size
  have B6 := sl.hide (css.below_outs (sl.unhide B5) (by have s1_ := sl.unhide s1; have s2_ := sl.unhide s2; have q2_ := sl.unhide q2; have s3_ := sl.unhide s3; have s4_ := sl.unhide s4; have q4_ := sl.unhide q4; have s5_ := sl.unhide s5; have s6_ := sl.unhide s6; omega) g6)
  have UA6 := sl.hide (css.OwnS.outs (sl.unhide UA5) g6 (by have s1_ := sl.unhide s1; have s2_ := sl.unhide s2; have q2_ := sl.unhide q2; have s3_ := sl.unhide s3; have s4_ := sl.unhide s4; have q4_ := sl.unhide q4; have s5_ := sl.unhide s5; have s6_ := sl.unhide s6; omega))
  have U6 := sl.hide ((sl.unhide U5).outs g6 (by have s1_ := sl.unhide s1; have s2_ := sl.unhide s2; have q2_ := sl.unhide q2; have s3_ := sl.unhide s3; have s4_ := sl.unhide s4; have q4_ := sl.unhide q4; have s5_ := sl.unhide s5; have s6_ := sl.unhide s6; omega))
  have G6 := sl.hide ((sl.unhide G5).outs g6 (by have s1_ := sl.unhide s1; have s2_ := sl.unhide s2; have q2_ := sl.unhide q2; have s3_ := sl.unhide s3; have s4_ := sl.unhide s4; have q4_ := sl.unhide q4; have s5_ := sl.unhide s5; have s6_ := sl.unhide s6; omega))
  have GA6 := sl.hide o6
  clear o6 g6 GA5 B5 UA5 U5 G5
  have zG0 := (sl.unhide G6).c0
  have zG1 := (sl.unhide G6).c1
  go_wp2_with fail
  refine (cf.heldCnf _ N R 1 _ hR (by decide) (by decide) (sl.unhide GA6).sls).mono ?_; rintro e w7 ⟨rfl, g7⟩
  clear zG0 zG1
  have s7 := sl.hide (g7).size
  have B7 := sl.hide (sl.below_none (sl.unhide B6) (g7))
  have UA7 := sl.hide ((sl.unhide UA6).kept (g7))
  have GA7 := sl.hide ((sl.unhide GA6).kept (g7))
  have U7 := sl.hide ((sl.unhide U6).kept (g7))
  have G7 := sl.hide ((sl.unhide G6).kept (g7))
  clear g7 B6 UA6 GA6 U6 G6
  go_wp2_with fail
  refine (sl.unhide CI _ ((sl.unhide TT).below (sl.unhide B7))).mono ?_; rintro e w8 ⟨u8, rfl, o8, g8⟩
  obtain ⟨a8_, c8_, rfl⟩ := o8.len
  have s8 := sl.hide (g8).size
  have B8 := sl.hide (sl.below_none (sl.unhide B7) (g8))
  have UA8 := sl.hide ((sl.unhide UA7).kept (g8))
  have GA8 := sl.hide ((sl.unhide GA7).kept (g8))
  have U8 := sl.hide ((sl.unhide U7).kept (g8))
  have G8 := sl.hide ((sl.unhide G7).kept (g8))
  have HA8 := sl.hide o8
  clear o8 g8 B7 UA7 GA7 U7 G7
  have pU0 := (sl.unhide U8).c0
  have pU1 := (sl.unhide U8).c1
  have pUl := (sl.unhide U8).lt
  have s9 := sl.hide (World.grownBy_alloc w8 (.cells #[(.int .i64 N), (.slice a8_ R.length c8_)] 26) none).size
  have B9 := sl.hide (sl.below_none (sl.unhide B8) (World.grownBy_alloc w8 (.cells #[(.int .i64 N), (.slice a8_ R.length c8_)] 26) none))
  have UA9 := sl.hide ((sl.unhide UA8).kept (World.grownBy_alloc w8 (.cells #[(.int .i64 N), (.slice a8_ R.length c8_)] 26) none))
  have GA9 := sl.hide ((sl.unhide GA8).kept (World.grownBy_alloc w8 (.cells #[(.int .i64 N), (.slice a8_ R.length c8_)] 26) none))
  have HA9 := sl.hide ((sl.unhide HA8).kept (World.grownBy_alloc w8 (.cells #[(.int .i64 N), (.slice a8_ R.length c8_)] 26) none))
  have U9 := sl.hide ((sl.unhide U8).kept (World.grownBy_alloc w8 (.cells #[(.int .i64 N), (.slice a8_ R.length c8_)] 26) none))
  have G9 := sl.hide ((sl.unhide G8).kept (World.grownBy_alloc w8 (.cells #[(.int .i64 N), (.slice a8_ R.length c8_)] 26) none))
  have q9 : Hid ((w8.alloc (.cells #[(.int .i64 N), (.slice a8_ R.length c8_)] 26)).heap.size = w8.heap.size + 1) := World.size_alloc ..
  have H9 := sl.hide (cf.Box.new 26 w8 (.int .i64 N) (.slice a8_ R.length c8_))
  clear B8 UA8 GA8 HA8 U8 G8
  have zU0 := (sl.unhide U9).c0
  have zU1 := (sl.unhide U9).c1
  have zH0 := (sl.unhide H9).c0
  have zH1 := (sl.unhide H9).c1
  go_wp2_with fail
  refine (cf.eqCnf _ _ N R _ hR (sl.unhide HA9).sls (sl.unhide UA9).sls).mono ?_; rintro e w10 ⟨rfl, g10⟩
  clear pU0 pU1 pUl zU0 zU1 zH0 zH1
  have s10 := sl.hide (g10).size
  have B10 := sl.hide (sl.below_none (sl.unhide B9) (g10))
  have UA10 := sl.hide ((sl.unhide UA9).kept (g10))
  have GA10 := sl.hide ((sl.unhide GA9).kept (g10))
  have HA10 := sl.hide ((sl.unhide HA9).kept (g10))
  have U10 := sl.hide ((sl.unhide U9).kept (g10))
  have G10 := sl.hide ((sl.unhide G9).kept (g10))
  have H10 := sl.hide ((sl.unhide H9).kept (g10))
  clear g10 B9 UA9 GA9 HA9 U9 G9 H9
  have zG0 := (sl.unhide G10).c0
  have zG1 := (sl.unhide G10).c1
  go_wp2_with fail
  refine (cf.heldCnf _ N R 1 _ hR (by decide) (by decide) (sl.unhide GA10).sls).mono ?_; rintro e w11 ⟨rfl, g11⟩
  clear zG0 zG1
  have s11 := sl.hide (g11).size
  have B11 := sl.hide (sl.below_none (sl.unhide B10) (g11))
  have UA11 := sl.hide ((sl.unhide UA10).kept (g11))
  have GA11 := sl.hide ((sl.unhide GA10).kept (g11))
  have HA11 := sl.hide ((sl.unhide HA10).kept (g11))
  have U11 := sl.hide ((sl.unhide U10).kept (g11))
  have G11 := sl.hide ((sl.unhide G10).kept (g11))
  have H11 := sl.hide ((sl.unhide H10).kept (g11))
  clear g11 B10 UA10 GA10 HA10 U10 G10 H10
  go_wp2_with fail
  go_ret
  exact ⟨rfl, sl.unhide B11⟩

/-! ### the row's step (the guide's own frame) -/
set_option maxRecDepth 100000 in
theorem contract (H : Type) (enc : TypeId × Value → H) (W : World) (base : Nat) (args : Array Value) (ds gs : List (DataW H)) (before : List MemPlace)
    (hval : ∀ (j : Nat) t v, Tryz.f4.params[j]? = some t → args[j]? = some v → Value.okWide Tryz.prog W .any base t v)
    (hW : DataW.Whole enc Tryz.prog Tryz.f4.params.toList Rows.fnExactReadCnfSpec.vars false W args.toList ds gs before) (hL : laidMetH Tryz.prog Rows.fnExactReadCnfRow.laid W) (hSh : W.ShapedOpen Tryz.prog) :
    Calls Tryz.prog 4 args W fun e W' => ∃ v, e = .returned v ∧ Rows.fnExactReadCnfSpec.post enc Tryz.prog Tryz.f4 false true false false W args v W' := by
  have hW' := hW
  obtain ⟨p, q, hA0, hV, rfl, hfz, hnd⟩ := hW
  have hA : DataW.TrodAll enc Tryz.prog W 0 (fun _ => true) true Tryz.f4.params.toList args.toList ds p := hA0
  rw [Tryz.params4] at hA hval
  obtain ⟨v0, vs0, d0, ds0, p0, q0, hargs, rfl, rfl, h0, r0⟩ := trodAll_cons hA
  obtain ⟨rfl, rfl, rfl⟩ := trodAll_nil r0
  obtain rfl : args = #[v0] := by cases args; simp_all
  obtain ⟨rfl, rfl⟩ := trodVars_none hV
  obtain ⟨a0, rfl, rfl, rfl, w0⟩ := open_string Tryz.underlying9 (hval 0 9 v0 rfl rfl) h0
  clear hA0
  simp only [List.append_nil] at hW'
  refine (walk a0 w0 W (table hL hSh)).mono fun e W' ⟨he, hg⟩ => ?_
  subst he
  exact ⟨_, rfl, _, _, _, [], [], [], hW', trodAll_mk1 (shut_bool Tryz.underlying4 _), (trodAll_cons_mk (shut_string Tryz.underlying9 w0) trodAll_mk0), rfl, hg.frame _, fun h => by cases h⟩

set_option maxRecDepth 100000 in
theorem lifted (os : Os) (started : os.Started) (H : Type) (enc : TypeId × Value → H) (F : Stop.Interp) :
    ReturnsInHanded {} Tryz.checked os 4 .any ((OpenSpec.ofChange Rows.fnExactReadCnfSpec).preRow enc Tryz.prog Tryz.f4 Rows.fnExactReadCnfRow.domain false Rows.fnExactReadCnfRow.laid) (((OpenSpec.ofChange Rows.fnExactReadCnfSpec).at F).post enc Tryz.prog Tryz.f4 false true false false) := by
  refine returnsInHanded_of_row (C := Tryz.checked) (s := OpenSpec.ofChange Rows.fnExactReadCnfSpec) own started (by kernel_rfl) Tryz.func4
    (witness_row_at (enc := enc) (C := Tryz.checked) false ({ (World.holding Tryz.prog os ⟨#[.cells #[.string ⟨#[118, 97, 108, 117, 101, 32, 111, 117, 116, 32, 111, 102, 32, 114, 97, 110, 103, 101]⟩] 177, .cells #[.string ⟨#[105, 110, 118, 97, 108, 105, 100, 32, 115, 121, 110, 116, 97, 120]⟩] 177], #[], []⟩) with heap := (((((((((World.holding Tryz.prog os ⟨#[.cells #[.string ⟨#[118, 97, 108, 117, 101, 32, 111, 117, 116, 32, 111, 102, 32, 114, 97, 110, 103, 101]⟩] 177, .cells #[.string ⟨#[105, 110, 118, 97, 108, 105, 100, 32, 115, 121, 110, 116, 97, 120]⟩] 177], #[], []⟩).heap.modify 3 fun | .cells _ t frozen => .cells (Lib.deBruijn32tab.map fun (n : Nat) => Value.int .u8 n).toArray t frozen | o => o).modify 4 fun | .cells _ t frozen => .cells (Lib.deBruijn64tab.map fun (n : Nat) => Value.int .u8 n).toArray t frozen | o => o).modify 1 fun | .cells _ t frozen => .cells (Lib.pow10Tab.map fun n => Value.int .u64 n).toArray t frozen | o => o).modify 6 fun | .cells _ t frozen => .cells #[.iface 175 (.pointer (some ⟨(World.holding Tryz.prog default ⟨#[], #[], []⟩).heap.size, 0, none⟩))] t frozen | o => o).modify 5 fun | .cells _ t frozen => .cells #[.iface 175 (.pointer (some ⟨(World.holding Tryz.prog default ⟨#[], #[], []⟩).heap.size + 1, 0, none⟩))] t frozen | o => o).modify 8 fun | .cells _ t frozen => .cells #[.int .u8 128, .int .u8 191, .int .u8 160, .int .u8 191, .int .u8 128, .int .u8 159, .int .u8 144, .int .u8 191, .int .u8 128, .int .u8 143, .int .u8 0, .int .u8 0, .int .u8 0, .int .u8 0, .int .u8 0, .int .u8 0, .int .u8 0, .int .u8 0, .int .u8 0, .int .u8 0, .int .u8 0, .int .u8 0, .int .u8 0, .int .u8 0, .int .u8 0, .int .u8 0, .int .u8 0, .int .u8 0, .int .u8 0, .int .u8 0, .int .u8 0, .int .u8 0] t frozen | o => o).modify 0 fun | .cells _ t frozen => .cells #[.iface 118 (.agg #[.pointer (some ⟨9, 44, none⟩)])] t frozen | o => o).modify 7 fun | .cells _ t frozen => .cells (Go.Pinned.utf8FirstZ.map fun (n : Nat) => Value.int .u8 n).toArray t frozen | o => o) } : World) #[.string ByteArray.empty] rfl (by kernel_rfl) (by kernel_rfl) (by kernel_rfl)
      (OpenSpec.preRow_of_cond 8 (x := ([.lit (.string [])], [], [])) (by kernel_rfl) (by kernel_rfl) (fun k hk => by cases hk) (by kernel_rfl) (laidMetH_of_parts (laidMet_of_run' 8 (by kernel_rfl) (by kernel_rfl)) (by kernel_rfl)))) ?_
  intro W base args ds gs before hval hW _ _ _ hL hSh _
  exact contract H enc W base args ds gs before hval hW hL hSh

theorem said : Rows.FnExactReadCnfSaid :=
  OpenClaim.holds_of_cond 4 Tryz.f4 rfl rfl rfl rfl rfl rfl rfl ⟨rfl, rfl, rfl, rfl, rfl⟩ rfl rfl rfl rfl rfl (by kernel_rfl) Tryz.func4 (by kernel_rfl)
    (of_decide_eq_true (by kernel_rfl)) (by unfold Func.isWrapper; first | (rw [if_pos (by decide +kernel)]; kernel_rfl) | (rw [if_neg (by decide +kernel)]; exact ⟨rfl, rfl⟩))
    (fun os started H enc _ F => by rw [OpenClaim.pre_eq_preRow]; exact lifted os started H enc F)

theorem plain (f : FuncId) (fn : Func) (hf : Tryz.pinned.checked.prog.funcNamed "loop.example/g00123/laws.FnExactReadCnf" = some f) (hfn : Tryz.pinned.checked.prog.funcs[f]? = some fn) :
    true = Tryz.pinned.checked.prog.looks [] ∧ ∀ (j : Nat) t, fn.params[j]? = some t → Tryz.pinned.checked.prog.wantsStandIn t = false := by
  obtain rfl : f = 4 := Option.some.inj ((show Tryz.prog.funcNamed "loop.example/g00123/laws.FnExactReadCnf" = some 4 by kernel_rfl).symm.trans hf) |>.symm
  obtain rfl : fn = Tryz.f4 := (Option.some.inj (Tryz.func4.symm.trans hfn)).symm
  refine ⟨by kernel_rfl, fun j t ht => ?_⟩
  rw [Tryz.params4] at ht
  obtain rfl : t = 9 := by simpa using Array.mem_of_getElem? ht
  exact (show Tryz.prog.wantsStandIn 9 = false by kernel_rfl)

/-- the statement: the row's tied card -/
theorem proved : Rows.FnExactReadCnfCardSaid :=
  Claim7.holds_tied_plain_at .later [] _ _ _ _ said (fun _ h => by cases h) (by kernel_rfl) (fun _ h => by cases h) fnExactReadCnf_row_tie rfl ⟨rfl, rfl⟩ (by kernel_rfl) rfl plain (by kernel_rfl)
#print axioms proved
end Go.Proofs.YtfokbkaommfnoaaGreatDoor.fnExactReadCnf
