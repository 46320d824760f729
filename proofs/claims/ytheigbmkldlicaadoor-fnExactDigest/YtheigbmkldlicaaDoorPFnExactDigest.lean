/- At every formula impl.Digest answers as spec.Digest and writes nothing into its argument (the law FnExactDigest returns true); the tables of the library (of places and of powers of ten) and the program's own tables of the sum lie as their texts lay them (tied). -/
import Derived.Test.YtheigbmkldlicaaDoorCards
import Derived.Test.YtheigbmkldlicaaDoorTie
import Derived.OpenVars
import Derived.Test.YtheigbmkldlicaaDoorRow
import Derived.Test.YtheigbmkldlicaaDoorDa
import Derived.WalkKit
import Derived.ProofKit
import Derived.OpenShut
import Derived.ShutString
import Derived.ChangeOld
import Derived.Below
import Derived.Deep.DeepHandedRow
import Derived.Lib.LaidTab
import Derived.Lib.TrailingZeros
import Derived.Stop.LaidErr
import Derived.LaidHandle
import Derived.LaidSub
namespace Go.Proofs.YtheigbmkldlicaaDoor.fnExactDigest
open Go.ChangeShapes Go.WideShapes Go.ChangeAt Go.RowKit
open Go.ChangeMaps (open_string shut_string)
set_option linter.unusedVariables false

theorem own : ownKnob Tryd.prog.godebug = none := by kernel_rfl
theorem laidOut : laidOutB Tryd.prog = true := by kernel_rfl

theorem laidOutV : laidOutB Tryd.prog = true := by kernel_rfl
theorem vars1 {H : Type} {enc : TypeId × Value → H} {P : Program} {w : World} {sp : Nat → Bool} {n : String} {gs : List (DataW H)} {ps : List MemPlace} (h : DataW.TrodVars enc P w sp [n] gs ps) : ∃ g, gs = [g] := by
  cases gs with
  | nil => exact h.elim
  | cons g t =>
    obtain ⟨_, _, _, _, _, _, _, _, _, _, hs, _⟩ := h
    cases t with
    | nil => exact ⟨g, rfl⟩
    | cons _ _ => exact hs.elim
theorem vars2 {H : Type} {enc : TypeId × Value → H} {P : Program} {w : World} {sp : Nat → Bool} {n m : String} {gs : List (DataW H)} {ps : List MemPlace} (h : DataW.TrodVars enc P w sp [n, m] gs ps) : ∃ g k, gs = [g, k] := by
  cases gs with
  | nil => exact h.elim
  | cons g t =>
    obtain ⟨_, _, _, _, _, _, _, _, _, _, hs, _⟩ := h
    obtain ⟨k, rfl⟩ := vars1 hs
    exact ⟨g, k, rfl⟩
theorem gTab : Tryd.prog.globalNamed "math/bits.deBruijn64tab" = some 1 := by kernel_rfl
theorem gTabType : (Tryd.prog.globals[1]?).map (·.type) = some 190 := by kernel_rfl
theorem cellsTab : Tryd.prog.cellsOf 190 = 64 := by kernel_rfl
theorem cellsByte : Tryd.prog.cellsOf 5 = 1 := by kernel_rfl
theorem gPowType : (Tryd.prog.globals[6]?).map (·.type) = some 216 := by kernel_rfl
theorem cellsPow : Tryd.prog.cellsOf 216 = 20 := by kernel_rfl
theorem cellsU64 : Tryd.prog.cellsOf 79 = 1 := by kernel_rfl
theorem powData : (Rows.laid_internal_strconv_uint64pow10 : DataW Unit) = Lib.tabData .u64 Lib.pow10Tab := by kernel_rfl
theorem tabData64 : (Rows.laid_math_bits_deBruijn64tab : DataW Unit) = Lib.tabData .u8 (Lib.deBruijn64tab.map fun (n : Nat) => (n : Int)) := by kernel_rfl
theorem gK : Tryd.prog.globalNamed "loop.example/g00123/impl.sumConsts" = some 3 := by kernel_rfl
theorem tyK : (Tryd.prog.globals[3]?).map (·.type) = some 201 := by kernel_rfl
theorem cellsK : Tryd.prog.cellsOf 201 = 64 := by kernel_rfl
theorem dataK : (Rows.laid_loop_example_g00123_impl_sumConsts : DataW Unit) = Lib.tabData .u32 zk.kL := by kernel_rfl
theorem gS : Tryd.prog.globalNamed "loop.example/g00123/impl.sumStarts" = some 0 := by kernel_rfl
theorem tyS : (Tryd.prog.globals[0]?).map (·.type) = some 138 := by kernel_rfl
theorem cellsS : Tryd.prog.cellsOf 138 = 8 := by kernel_rfl
theorem dataS : (Rows.laid_loop_example_g00123_impl_sumStarts : DataW Unit) = Lib.tabData .u32 zk.sL := by kernel_rfl
theorem cellsW : Tryd.prog.cellsOf 137 = 1 := by kernel_rfl
theorem laid_tail {P : Program} {W : World} {x : String × DataW Unit} {rest : List (String × DataW Unit)} (h : laidMet P (x :: rest) W) : laidMet P rest W := by
  obtain ⟨ps, hv, hn, hc⟩ := h
  obtain ⟨n, d⟩ := x
  obtain ⟨g, t, cs, fuel, p, q, _, _, _, _, hr, rfl⟩ := hv
  exact ⟨q, hr, (List.nodup_append.1 hn).2.1, fun b off hm => hc b off (List.mem_append_right _ hm)⟩
/-- what the row's list gives: the tables as they lie -/
theorem table {W : World} (h : laidMetH Tryd.prog Rows.fnExactDigestRow.laid W) : srt.Tab W ∧ txt.Pow W ∧ zk.TabK W ∧ zk.TabS W := by
  have h1 : laidMet Tryd.prog Rows.fnExactDigestRow.laid W := h
  have h2 := laid_tail h1
  have h3 := laid_tail h2
  have h4 := laid_tail h3
  have h5 := laid_tail h4
  have tT : srt.Tab W := by
    have hh : laidMet Tryd.prog (("math/bits.deBruijn64tab", Lib.tabData .u8 (Lib.deBruijn64tab.map fun (n : Nat) => (n : Int))) :: [("internal/strconv.uint64pow10", Rows.laid_internal_strconv_uint64pow10), ("loop.example/g00123/impl.sumConsts", Rows.laid_loop_example_g00123_impl_sumConsts), ("loop.example/g00123/impl.sumStarts", Rows.laid_loop_example_g00123_impl_sumStarts)]) W := by
      rw [← tabData64]
      exact h2
    have t : Lib.TabIs Tryd.prog W "math/bits.deBruijn64tab" .u8 (Lib.deBruijn64tab.map fun (n : Nat) => (n : Int)) :=
      Lib.tabIs_of_head gTab gTabType Tryd.underlying190 Tryd.underlying5 cellsByte cellsTab hh
    intro j hj
    have c := t.cell gTab j (by rw [List.length_map]; exact hj)
    rw [c]
    congr 2
    rw [List.getD, List.getD, List.getElem?_map]
    cases Lib.deBruijn64tab[j]? <;> rfl
  have tP : txt.Pow W := by
    have hh : laidMet Tryd.prog (("internal/strconv.uint64pow10", Lib.tabData .u64 Lib.pow10Tab) :: [("loop.example/g00123/impl.sumConsts", Rows.laid_loop_example_g00123_impl_sumConsts), ("loop.example/g00123/impl.sumStarts", Rows.laid_loop_example_g00123_impl_sumStarts)]) W := by
      rw [← powData]
      exact h3
    have t : Lib.TabIs Tryd.prog W "internal/strconv.uint64pow10" .u64 Lib.pow10Tab :=
      Lib.tabIs_of_head txt.gPow gPowType Tryd.underlying216 Tryd.underlying79 cellsU64 cellsPow hh
    exact ⟨World.block_lt_of_cell? W _ (t.cell txt.gPow 0 (by decide)), t⟩
  have tK : zk.TabK W := by
    have hh : laidMet Tryd.prog (("loop.example/g00123/impl.sumConsts", Lib.tabData .u32 zk.kL) :: [("loop.example/g00123/impl.sumStarts", Rows.laid_loop_example_g00123_impl_sumStarts)]) W := by
      rw [← dataK]
      exact h4
    have t : Lib.TabIs Tryd.prog W "loop.example/g00123/impl.sumConsts" .u32 zk.kL :=
      Lib.tabIs_of_head gK tyK Tryd.underlying201 Tryd.underlying137 cellsW cellsK hh
    exact fun j hj => t.cell gK j hj
  have tS : zk.TabS W := by
    have hh : laidMet Tryd.prog (("loop.example/g00123/impl.sumStarts", Lib.tabData .u32 zk.sL) :: []) W := by
      rw [← dataS]
      exact h5
    have t : Lib.TabIs Tryd.prog W "loop.example/g00123/impl.sumStarts" .u32 zk.sL :=
      Lib.tabIs_of_head gS tyS Tryd.underlying138 Tryd.underlying137 cellsW cellsS hh
    exact fun j hj => t.cell gS j hj
  exact ⟨tT, tP, tK, tS⟩

/-! ### the walk -/
set_option maxRecDepth 100000 in
set_option maxHeartbeats 8000000 in
theorem walk (n0 : Int) (v0 : Value) (LL0 : List (List Int)) (w : World) (f0 : (Lit.int .i64 n0).wf = true) (w0 : row.IsRows w v0 LL0) (hT : srt.Tab w ∧ txt.Pow w ∧ zk.TabK w ∧ zk.TabS w) :
    Calls Tryd.prog 10 #[.agg #[.int .i64 n0, v0]] w fun e w' => e = .returned (.bool true) ∧ Below w.heap.size w w' := by
  have TT := sl.hide hT
  clear hT
  obtain ⟨hS0, hl0, hk0⟩ := w0
  have S_ := trivial
  have s1 := sl.hide (World.grownBy_alloc w (.cells #[(.int .i64 n0), v0] 47) none).size
  have B1 := sl.hide (sl.below_of (World.grownBy_alloc w (.cells #[(.int .i64 n0), v0] 47) none))
  have q1 : Hid ((w.alloc (.cells #[(.int .i64 n0), v0] 47)).heap.size = w.heap.size + 1) := World.size_alloc ..
  have F0_1 := sl.hide (cf.Box.new 47 w (.int .i64 n0) v0)
  have S0 := sl.hide hS0
  clear hS0
  go_enter Tryd.func10, Tryd.ntmps10
  have zF0_0 := (sl.unhide F0_1).c0
  have zF0_1 := (sl.unhide F0_1).c1
  go_wp2_with fail
  refine (cf.szCnf v0 n0 LL0 1048576 _ (by decide) (by decide) hl0 hk0 ((sl.unhide S0).below (sl.unhide B1))).mono ?_; rintro e w2 ⟨r0, rfl, g2, hr⟩
  clear zF0_0 zF0_1
  have s2 := sl.hide (g2).size
  have B2 := sl.hide (sl.below_none (sl.unhide B1) (g2))
  have F0_2 := sl.hide ((sl.unhide F0_1).kept (g2))
  clear g2 B1 F0_1
  rcases hr with rfl | ⟨hr0, hr1⟩
  · go_wp2_with fail
    go_ret
    exact ⟨rfl, sl.unhide B2⟩
  have hn0 : css.tot LL0 ≤ 1048576 := by omega
  have hq0 : ¬ r0 < 0 := by omega
  have hb0 : 0 ≤ r0 ∧ r0 ≤ 1048576 := by omega
  have ht0 := sl.hide hr1
  clear hr0 hr1
  obtain ⟨sd, cs, ci⟩ := da.bothD n0 LL0 hn0
  have CS := sl.hide cs
  have CI := sl.hide ci
  clear cs ci
  have zF0_0 := (sl.unhide F0_2).c0
  have zF0_1 := (sl.unhide F0_2).c1
  go_wp2_with fail
  refine (cf.toCnf v0 n0 LL0 _ hn0 ((sl.unhide S0).below (sl.unhide B2))).mono ?_; rintro e w3 ⟨u3, rfl, o3, g3⟩
  clear zF0_0 zF0_1
  obtain ⟨a3_, c3_, rfl⟩ := o3.len
  have s3 := sl.hide (g3).size
  have B3 := sl.hide (sl.below_none (sl.unhide B2) (g3))
  have F0_3 := sl.hide ((sl.unhide F0_2).kept (g3))
  have P3 := sl.hide o3
  clear o3 g3 B2 F0_2
  go_wp2_with fail
  refine (sl.unhide CS _ _ (sl.unhide P3).sls).mono ?_; rintro e w4 ⟨rfl, g4⟩
  have s4 := sl.hide (g4).size
  have B4 := sl.hide (sl.below_none (sl.unhide B3) (g4))
  have P4 := sl.hide ((sl.unhide P3).kept (g4))
  have F0_4 := sl.hide ((sl.unhide F0_3).kept (g4))
  clear g4 B3 P3 F0_3
  clear P4
  have zF0_0 := (sl.unhide F0_4).c0
  have zF0_1 := (sl.unhide F0_4).c1
  go_wp2_with fail
  refine (cf.toCnf v0 n0 LL0 _ hn0 ((sl.unhide S0).below (sl.unhide B4))).mono ?_; rintro e w5 ⟨u5, rfl, o5, g5⟩
  clear zF0_0 zF0_1
  obtain ⟨a5_, c5_, rfl⟩ := o5.len
  have s5 := sl.hide (g5).size
  have B5 := sl.hide (sl.below_none (sl.unhide B4) (g5))
  have F0_5 := sl.hide ((sl.unhide F0_4).kept (g5))
  have X5 := sl.hide o5
  clear o5 g5 B4 F0_4
  have s6 := sl.hide (World.grownBy_alloc w5 (.cells #[(.int .i64 n0), (.slice a5_ LL0.length c5_)] 26) none).size
  have B6 := sl.hide (sl.below_none (sl.unhide B5) (World.grownBy_alloc w5 (.cells #[(.int .i64 n0), (.slice a5_ LL0.length c5_)] 26) none))
  have X6 := sl.hide ((sl.unhide X5).kept (World.grownBy_alloc w5 (.cells #[(.int .i64 n0), (.slice a5_ LL0.length c5_)] 26) none))
  have F0_6 := sl.hide ((sl.unhide F0_5).kept (World.grownBy_alloc w5 (.cells #[(.int .i64 n0), (.slice a5_ LL0.length c5_)] 26) none))
  have q6 : Hid ((w5.alloc (.cells #[(.int .i64 n0), (.slice a5_ LL0.length c5_)] 26)).heap.size = w5.heap.size + 1) := World.size_alloc ..
  have V6 := sl.hide (cf.Box.new 26 w5 (.int .i64 n0) (.slice a5_ LL0.length c5_))
  clear B5 X5 F0_5
  have zV0 := (sl.unhide V6).c0
  have zV1 := (sl.unhide V6).c1
  go_wp2_with fail
  refine (sl.unhide CI _ _ ((sl.unhide TT).1.below (sl.unhide B6)) ((sl.unhide TT).2.1.below (sl.unhide B6)) (da.belowK (sl.unhide TT).2.2.1 (sl.unhide B6)) (da.belowS (sl.unhide TT).2.2.2 (sl.unhide B6)) (sl.unhide X6).sls).mono ?_; rintro e w7 ⟨rfl, g7⟩
  clear zV0 zV1
  have s7 := sl.hide (g7).size
  have B7 := sl.hide (sl.below_none (sl.unhide B6) (g7))
  have X7 := sl.hide ((sl.unhide X6).kept (g7))
  have F0_7 := sl.hide ((sl.unhide F0_6).kept (g7))
  have V7 := sl.hide ((sl.unhide V6).kept (g7))
  clear g7 B6 X6 F0_6 V6
  go_upto_region 10 with fail
  go_cut [26] (fun q wx => q = .bool false ∧ Hid (w7.grownBy wx none))
  case first =>
    have T5 := sl.hide (cf.toCnf v0 n0 LL0 w7.drew hn0 (((sl.unhide S0).below (sl.unhide B7)).kept (cf.grown_drew w7 none)))
    have E5 := sl.hide (fun u6 wA (g6 : w7.drew.grownBy wA none) (o6 : css.OwnS w7.drew.heap.size wA.heap.size wA u6 LL0) => cf.eqCnf _ u6 n0 LL0 wA hn0 ((sl.unhide X7).kept (sl.grown_trans (r := none) (cf.grown_drew w7 none) g6)).sls o6.sls)
    have X5' := sl.hide (fun wA (g6 : w7.drew.grownBy wA none) => (sl.unhide V7).kept (sl.grown_trans (r := none) (cf.grown_drew w7 none) g6))
    have G5 := sl.hide (fun wA wB (g6 : w7.drew.grownBy wA none) (g7 : wA.grownBy wB none) => sl.grown_trans (r := none) (sl.grown_trans (r := none) (cf.grown_drew w7 none) g6) g7)
    have x0 := (sl.unhide F0_7).c0
    have x1 := (sl.unhide F0_7).c1
    have y0 := (sl.unhide V7).c0
    have y1 := (sl.unhide V7).c1
    clear X7 F0_7 V7 B7
    go_region_with (first
      | (go_at_call 33; refine (sl.unhide T5).mono ?_; rintro e wA ⟨u6, rfl, o6, g6⟩; have z0 := (sl.unhide X5' wA g6).c0; have z1 := (sl.unhide X5' wA g6).c1; have E6 := sl.hide (sl.unhide E5 u6 wA g6 o6); have G6 := sl.hide (fun wB => sl.unhide G5 wA wB g6); clear g6 o6)
      | (go_at_call 35; refine (sl.unhide E6).mono ?_; rintro e wB ⟨rfl, g7⟩; have G7 := sl.hide (sl.unhide G6 wB g7); clear g7))
    all_goals (go_wp2_with fail; go_meet; exact ⟨rfl, G7⟩)
  case rest =>
    obtain ⟨rfl, hg⟩ := hcut
    have g8 := sl.unhide hg
    have s8 := sl.hide (g8).size
    have B8 := sl.hide (sl.below_none (sl.unhide B7) (g8))
    have X8 := sl.hide ((sl.unhide X7).kept (g8))
    have F0_8 := sl.hide ((sl.unhide F0_7).kept (g8))
    have V8 := sl.hide ((sl.unhide V7).kept (g8))
    clear g8 hg B7 X7 F0_7 V7
    go_wp2_with fail
    go_ret
    exact ⟨rfl, sl.unhide B8⟩

/-! ### the row's step (the guide's own frame) -/
set_option maxRecDepth 100000 in
theorem contract (H : Type) (enc : TypeId × Value → H) (W : World) (base : Nat) (args : Array Value) (ds gs : List (DataW H)) (before : List MemPlace)
    (hval : ∀ (j : Nat) t v, Tryd.f10.params[j]? = some t → args[j]? = some v → Value.okWide Tryd.prog W .any base t v)
    (hW : DataW.Whole enc Tryd.prog Tryd.f10.params.toList Rows.fnExactDigestSpec.vars false W args.toList ds gs before) (hL : laidMetH Tryd.prog Rows.fnExactDigestRow.laid W) :
    Calls Tryd.prog 10 args W fun e W' => ∃ v, e = .returned v ∧ Rows.fnExactDigestSpec.post enc Tryd.prog Tryd.f10 false true false false W args v W' := by
  have hW' := hW
  obtain ⟨p, q, hA0, hV, rfl, hfz, hnd⟩ := hW
  have hA : DataW.TrodAll enc Tryd.prog W 0 (fun _ => true) true Tryd.f10.params.toList args.toList ds p := hA0
  rw [Tryd.params10] at hA hval
  obtain ⟨x0, vs0, d0, ds0, p0, q0, hargs, rfl, rfl, h0, r0⟩ := trodAll_cons hA
  obtain ⟨rfl, rfl, rfl⟩ := trodAll_nil r0
  obtain rfl : args = #[x0] := by cases args; simp_all
  obtain ⟨g0, g1, rfl⟩ := vars2 hV
  obtain ⟨cs0, rfl, _⟩ := okWide_struct Tryd.underlying47 (hval 0 47 _ rfl rfl)
  have k0 := h0
  have lt0 : ∀ x ∈ p0, x.block < W.heap.size := by obtain ⟨m, hm⟩ := k0; exact DataW.trod_lt m _ _ _ hm
  obtain ⟨n0, v0, LL0, e0, f0, w0⟩ : ∃ n v LL, cs0 = #[.int .i64 n, v] ∧ (Lit.int .i64 n).wf = true ∧ row.IsRows W v LL := by
    obtain ⟨fuel, hf⟩ := h0
    obtain ⟨n, v, LL, e, hw, hv⟩ := row.open_cnf hf
    refine ⟨n, v, LL, ?_, hw, hv⟩
    cases cs0
    simpa [Value.cells] using e
  subst e0
  clear hA0
  refine (walk n0 v0 LL0 W f0 w0 (table hL)).mono fun e W' ⟨he, bel⟩ => ?_
  subst he
  exact ⟨_, rfl, _, _, _, [], _, _, hW', trodAll_mk1 (shut_bool Tryd.underlying4 _), (trodAll_cons_mk (Below.trod laidOut (by kernel_rfl) (of_decide_eq_true (by kernel_rfl)) k0 bel lt0) trodAll_mk0), Below.trodVars laidOutV bel (by kernel_rfl) hV, bel.frame _, fun h => by cases h⟩

set_option maxRecDepth 100000 in
theorem lifted (os : Os) (started : os.Started) (H : Type) (enc : TypeId × Value → H) (F : Stop.Interp) :
    ReturnsInHanded {} Tryd.checked os 10 .any ((OpenSpec.ofChange Rows.fnExactDigestSpec).preRow enc Tryd.prog Tryd.f10 Rows.fnExactDigestRow.domain false Rows.fnExactDigestRow.laid) (((OpenSpec.ofChange Rows.fnExactDigestSpec).at F).post enc Tryd.prog Tryd.f10 false true false false) := by
  refine returnsInHanded_of_row (C := Tryd.checked) (s := OpenSpec.ofChange Rows.fnExactDigestSpec) own started (by kernel_rfl) Tryd.func10
    (witness_row_at (enc := enc) (C := Tryd.checked) false ({ World.holding Tryd.prog os ⟨#[], #[], []⟩ with heap := (((((World.holding Tryd.prog os ⟨#[], #[], []⟩).heap.modify 7 fun | .cells _ t frozen => .cells (Lib.deBruijn32tab.map fun (n : Nat) => Value.int .u8 n).toArray t frozen | o => o).modify 1 fun | .cells _ t frozen => .cells (Lib.deBruijn64tab.map fun (n : Nat) => Value.int .u8 n).toArray t frozen | o => o).modify 6 fun | .cells _ t frozen => .cells (Lib.pow10Tab.map fun n => Value.int .u64 n).toArray t frozen | o => o).modify 3 fun | .cells _ t frozen => .cells (zk.kL.map fun n => Value.int .u32 n).toArray t frozen | o => o).modify 0 fun | .cells _ t frozen => .cells (zk.sL.map fun n => Value.int .u32 n).toArray t frozen | o => o } : World) #[.agg #[.int .i64 0, .slice none 0 0]] rfl (by kernel_rfl) (by kernel_rfl) (by kernel_rfl)
      (OpenSpec.preRow_of_cond 8 (x := ([.agg [.lit (.int .i64 0), .nil]], [Rows.laid_loop_example_g00123_impl_sumStarts, Rows.laid_loop_example_g00123_impl_sumConsts], MemPlace.row ⟨0, 0, none⟩ 8 ++ MemPlace.row ⟨3, 0, none⟩ 64)) (by kernel_rfl) (by kernel_rfl) (fun k hk => by cases hk) (by kernel_rfl) (laidMet_of_run' 8 (by kernel_rfl) (by kernel_rfl)))) ?_
  intro W base args ds gs before hval hW _ _ _ hL _ _
  exact contract H enc W base args ds gs before hval hW hL

theorem said : Rows.FnExactDigestSaid :=
  OpenClaim.holds_of_cond 10 Tryd.f10 rfl rfl rfl rfl rfl rfl rfl ⟨rfl, rfl, rfl, rfl, rfl⟩ rfl rfl rfl rfl rfl (by kernel_rfl) Tryd.func10 (by kernel_rfl)
    (of_decide_eq_true (by kernel_rfl)) (by unfold Func.isWrapper; first | (rw [if_pos (by decide +kernel)]; kernel_rfl) | (rw [if_neg (by decide +kernel)]; exact ⟨rfl, rfl⟩))
    (fun os started H enc _ F => by rw [OpenClaim.pre_eq_preRow]; exact lifted os started H enc F)

theorem plain (f : FuncId) (fn : Func) (hf : Tryd.pinned.checked.prog.funcNamed "loop.example/g00123/laws.FnExactDigest" = some f) (hfn : Tryd.pinned.checked.prog.funcs[f]? = some fn) :
    false = Tryd.pinned.checked.prog.looks [] ∧ ∀ (j : Nat) t, fn.params[j]? = some t → Tryd.pinned.checked.prog.wantsStandIn t = false := by
  obtain rfl : f = 10 := Option.some.inj ((show Tryd.prog.funcNamed "loop.example/g00123/laws.FnExactDigest" = some 10 by kernel_rfl).symm.trans hf) |>.symm
  obtain rfl : fn = Tryd.f10 := (Option.some.inj (Tryd.func10.symm.trans hfn)).symm
  refine ⟨by kernel_rfl, fun j t ht => ?_⟩
  rw [Tryd.params10] at ht
  obtain rfl : t = 47 := by simpa using Array.mem_of_getElem? ht
  exact (show Tryd.prog.wantsStandIn 47 = false by kernel_rfl)

/-- the statement: the row's tied card -/
theorem proved : Rows.FnExactDigestCardSaid :=
  Claim7.holds_tied_plain_at .later [] _ _ _ _ said (fun _ h => by cases h) (by kernel_rfl) (fun _ h => by cases h) fnExactDigest_row_tie rfl ⟨rfl, rfl⟩ (by kernel_rfl) rfl plain (by kernel_rfl)
#print axioms proved
end Go.Proofs.YtheigbmkldlicaaDoor.fnExactDigest
