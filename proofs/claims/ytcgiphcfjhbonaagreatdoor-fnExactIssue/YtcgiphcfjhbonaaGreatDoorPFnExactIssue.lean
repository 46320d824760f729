/- At every key of at most 2^20 bytes and every formula of at most 2^20 values Issue of the program answers as its model, and nothing that came in is written (the law FnExactIssue returns true); no condition. -/
import Derived.Test.YtcgiphcfjhbonaaGreatDoorCards
import Derived.Test.YtcgiphcfjhbonaaGreatDoorTie
import Derived.OpenVars
import Derived.Test.YtcgiphcfjhbonaaGreatDoorRow
import Derived.Test.YtcgiphcfjhbonaaGreatDoorJIy
import Derived.WalkKit
import Derived.ProofKit
import Derived.OpenShut
import Derived.ShutString
import Derived.ChangeOld
import Derived.Below
import Derived.Deep.DeepHandedRow
import Derived.Lib.LaidTab
import Derived.Lib.TrailingZeros
import Derived.Stop.LaidErr
import Derived.LaidHandle
import Derived.LaidSub
namespace Go.Proofs.YtcgiphcfjhbonaaGreatDoor.fnExactIssue
open Go.ChangeShapes Go.WideShapes Go.ChangeAt Go.RowKit
open Go.ChangeMaps (open_string shut_string)
set_option linter.unusedVariables false

theorem own : ownKnob Tryz.prog.godebug = none := by kernel_rfl
theorem laidOut : laidOutB Tryz.prog = true := by kernel_rfl

theorem laidOutV : laidOutB Tryz.prog = true := by kernel_rfl
theorem vars1 {H : Type} {enc : TypeId × Value → H} {P : Program} {w : World} {sp : Nat → Bool} {n : String} {gs : List (DataW H)} {ps : List MemPlace} (h : DataW.TrodVars enc P w sp [n] gs ps) : ∃ g, gs = [g] := by
  cases gs with
  | nil => exact h.elim
  | cons g t =>
    obtain ⟨_, _, _, _, _, _, _, _, _, _, hs, _⟩ := h
    cases t with
    | nil => exact ⟨g, rfl⟩
    | cons _ _ => exact hs.elim
theorem vars2 {H : Type} {enc : TypeId × Value → H} {P : Program} {w : World} {sp : Nat → Bool} {n m : String} {gs : List (DataW H)} {ps : List MemPlace} (h : DataW.TrodVars enc P w sp [n, m] gs ps) : ∃ g k, gs = [g, k] := by
  cases gs with
  | nil => exact h.elim
  | cons g t =>
    obtain ⟨_, _, _, _, _, _, _, _, _, _, hs, _⟩ := h
    obtain ⟨k, rfl⟩ := vars1 hs
    exact ⟨g, k, rfl⟩
theorem gTab : Tryz.prog.globalNamed "math/bits.deBruijn64tab" = some 9 := by kernel_rfl
theorem gTabType : (Tryz.prog.globals[9]?).map (·.type) = some 172 := by kernel_rfl
theorem cellsTab : Tryz.prog.cellsOf 172 = 64 := by kernel_rfl
theorem cellsByte : Tryz.prog.cellsOf 5 = 1 := by kernel_rfl
theorem gPowType : (Tryz.prog.globals[10]?).map (·.type) = some 266 := by kernel_rfl
theorem cellsPow : Tryz.prog.cellsOf 266 = 20 := by kernel_rfl
theorem cellsU64 : Tryz.prog.cellsOf 156 = 1 := by kernel_rfl
theorem powData : (Rows.laid_internal_strconv_uint64pow10 : DataW Unit) = Lib.tabData .u64 Lib.pow10Tab := by kernel_rfl
theorem tabData64 : (Rows.laid_math_bits_deBruijn64tab : DataW Unit) = Lib.tabData .u8 (Lib.deBruijn64tab.map fun (n : Nat) => (n : Int)) := by kernel_rfl
theorem gK : Tryz.prog.globalNamed "loop.example/g00123/impl.sumConsts" = some 6 := by kernel_rfl
theorem tyK : (Tryz.prog.globals[6]?).map (·.type) = some 223 := by kernel_rfl
theorem cellsK : Tryz.prog.cellsOf 223 = 64 := by kernel_rfl
theorem dataK : (Rows.laid_loop_example_g00123_impl_sumConsts : DataW Unit) = Lib.tabData .u32 zk.kL := by kernel_rfl
theorem gS : Tryz.prog.globalNamed "loop.example/g00123/impl.sumStarts" = some 4 := by kernel_rfl
theorem tyS : (Tryz.prog.globals[4]?).map (·.type) = some 152 := by kernel_rfl
theorem cellsS : Tryz.prog.cellsOf 152 = 8 := by kernel_rfl
theorem dataS : (Rows.laid_loop_example_g00123_impl_sumStarts : DataW Unit) = Lib.tabData .u32 zk.sL := by kernel_rfl
theorem cellsW : Tryz.prog.cellsOf 151 = 1 := by kernel_rfl
theorem laid_tail {P : Program} {W : World} {x : String × DataW Unit} {rest : List (String × DataW Unit)} (h : laidMet P (x :: rest) W) : laidMet P rest W := by
  obtain ⟨ps, hv, hn, hc⟩ := h
  obtain ⟨n, d⟩ := x
  obtain ⟨g, t, cs, fuel, p, q, _, _, _, _, hr, rfl⟩ := hv
  exact ⟨q, hr, (List.nodup_append.1 hn).2.1, fun b off hm => hc b off (List.mem_append_right _ hm)⟩
/-- what the row's list gives: the tables as they lie -/
theorem table {W : World} (h : laidMetH Tryz.prog Rows.fnExactIssueRow.laid W) : yi.Tabs W := by
  have h1 : laidMet Tryz.prog Rows.fnExactIssueRow.laid W := h
  have h2 := laid_tail h1
  have h3 := laid_tail h2
  have h4 := laid_tail h3
  have h5 := laid_tail h4
  have tT : srt.Tab W := by
    have hh : laidMet Tryz.prog (("math/bits.deBruijn64tab", Lib.tabData .u8 (Lib.deBruijn64tab.map fun (n : Nat) => (n : Int))) :: [("internal/strconv.uint64pow10", Rows.laid_internal_strconv_uint64pow10), ("loop.example/g00123/impl.sumConsts", Rows.laid_loop_example_g00123_impl_sumConsts), ("loop.example/g00123/impl.sumStarts", Rows.laid_loop_example_g00123_impl_sumStarts)]) W := by
      rw [← tabData64]
      exact h2
    have t : Lib.TabIs Tryz.prog W "math/bits.deBruijn64tab" .u8 (Lib.deBruijn64tab.map fun (n : Nat) => (n : Int)) :=
      Lib.tabIs_of_head gTab gTabType Tryz.underlying172 Tryz.underlying5 cellsByte cellsTab hh
    intro j hj
    have c := t.cell gTab j (by rw [List.length_map]; exact hj)
    rw [c]
    congr 2
    rw [List.getD, List.getD, List.getElem?_map]
    cases Lib.deBruijn64tab[j]? <;> rfl
  have tP : txt.Pow W := by
    have hh : laidMet Tryz.prog (("internal/strconv.uint64pow10", Lib.tabData .u64 Lib.pow10Tab) :: [("loop.example/g00123/impl.sumConsts", Rows.laid_loop_example_g00123_impl_sumConsts), ("loop.example/g00123/impl.sumStarts", Rows.laid_loop_example_g00123_impl_sumStarts)]) W := by
      rw [← powData]
      exact h3
    have t : Lib.TabIs Tryz.prog W "internal/strconv.uint64pow10" .u64 Lib.pow10Tab :=
      Lib.tabIs_of_head txt.gPow gPowType Tryz.underlying266 Tryz.underlying156 cellsU64 cellsPow hh
    exact ⟨World.block_lt_of_cell? W _ (t.cell txt.gPow 0 (by decide)), t⟩
  have tK : zk.TabK W := by
    have hh : laidMet Tryz.prog (("loop.example/g00123/impl.sumConsts", Lib.tabData .u32 zk.kL) :: [("loop.example/g00123/impl.sumStarts", Rows.laid_loop_example_g00123_impl_sumStarts)]) W := by
      rw [← dataK]
      exact h4
    have t : Lib.TabIs Tryz.prog W "loop.example/g00123/impl.sumConsts" .u32 zk.kL :=
      Lib.tabIs_of_head gK tyK Tryz.underlying223 Tryz.underlying151 cellsW cellsK hh
    exact fun j hj => t.cell gK j hj
  have tS : zk.TabS W := by
    have hh : laidMet Tryz.prog (("loop.example/g00123/impl.sumStarts", Lib.tabData .u32 zk.sL) :: []) W := by
      rw [← dataS]
      exact h5
    have t : Lib.TabIs Tryz.prog W "loop.example/g00123/impl.sumStarts" .u32 zk.sL :=
      Lib.tabIs_of_head gS tyS Tryz.underlying152 Tryz.underlying151 cellsW cellsS hh
    exact fun j hj => t.cell gS j hj
  exact ⟨tT, tP, tK, tS⟩

/-! ### the walk -/
set_option maxRecDepth 100000 in
set_option maxHeartbeats 8000000 in
theorem walk (a0 : ByteArray) (n1 : Int) (v1 : Value) (LL1 : List (List Int)) (w : World) (w0 : a0.size ≤ maxLen) (f1 : (Lit.int .i64 n1).wf = true) (w1 : row.IsRows w v1 LL1) (hT : yi.Tabs w) :
    Calls Tryz.prog 6 #[.string a0, .agg #[.int .i64 n1, v1]] w fun e w' => e = .returned (.bool true) ∧ Below w.heap.size w w' := by
  have TT := sl.hide hT
  have G1 := sl.hide (World.grownBy_alloc w (.cells #[(.int .i64 n1), v1] 48) none)
  have F1 := sl.hide (cf.Box.new 48 w (.int .i64 n1) v1)
  clear hT
  by_cases hbig : 1048576 < a0.size
  · have hi : (1048576 : Int) < (a0.size : Int) := by omega
    go_enter Tryz.func6, Tryz.ntmps6
    go_wp2
    go_ret
    exact ⟨rfl, sl.below_of (sl.unhide G1)⟩
  have hi : ¬ (1048576 : Int) < (a0.size : Int) := by omega
  obtain ⟨hS0, hl0, hk0⟩ := w1
  have S0 := sl.hide hS0
  clear hS0
  go_enter Tryz.func6, Tryz.ntmps6
  have z0 := (sl.unhide F1).c0
  have z1 := (sl.unhide F1).c1
  go_wp2_with fail
  refine (cf.szCnf v1 n1 LL1 1048576 _ (by decide) (by decide) hl0 hk0 ((sl.unhide S0).kept (sl.unhide G1))).mono ?_; rintro e w2 ⟨r0, rfl, g2, hr⟩
  clear z0 z1
  have G2 := sl.hide (sl.grown_trans (r := none) (sl.unhide G1) g2)
  have F2 := sl.hide ((sl.unhide F1).kept g2)
  clear g2 G1 F1
  rcases hr with rfl | ⟨hr0, hr1⟩
  · go_wp2_with fail
    go_ret
    exact ⟨rfl, sl.below_of (sl.unhide G2)⟩
  have hn0 : css.tot LL1 ≤ 1048576 := by omega
  have hq0 : ¬ r0 < 0 := by omega
  obtain ⟨d, sat, b, m, ok, cs, ci⟩ := yi.both a0 n1 LL1 (by omega) hn0
  have CS := sl.hide cs
  have CI := sl.hide ci
  clear cs ci hr0 hr1
  have z0 := (sl.unhide F2).c0
  have z1 := (sl.unhide F2).c1
  go_wp2_with fail
  refine (cf.toCnf v1 n1 LL1 _ hn0 ((sl.unhide S0).kept (sl.unhide G2))).mono ?_; rintro e w3 ⟨u3, rfl, o3, g3⟩
  clear z0 z1
  obtain ⟨a3_, c3_, rfl⟩ := o3.len
  have G3 := sl.hide (sl.grown_trans (r := none) (sl.unhide G2) g3)
  have F3 := sl.hide ((sl.unhide F2).kept g3)
  have P3 := sl.hide o3
  clear o3 g3 G2 F2
  go_wp2_with fail
  refine (sl.unhide CS _ _ (sl.unhide P3).sls).mono ?_; rintro e w4 ⟨rfl, g4⟩
  obtain ⟨W4, hW4⟩ : ∃ W4, W4 = w4.alloc (.cells #[.string d, .bool sat, .string b, .string m] 36) := ⟨_, rfl⟩
  have ga : w4.grownBy W4 none := by rw [hW4]; exact World.grownBy_alloc w4 _ none
  have G4 := sl.hide (sl.grown_trans (r := none) (sl.grown_trans (r := none) (sl.unhide G3) g4) ga)
  have F4 := sl.hide (((sl.unhide F3).kept g4).kept ga)
  have B4 : Hid (yb.Box4 36 W4 w4.heap.size (.string d) (.bool sat) (.string b) (.string m)) := by rw [hW4]; exact yb.Box4.new 36 w4 _ _ _ _
  clear g4 ga G3 F3 P3 CS
  go_upto_region 8 with fail
  rw [← hW4]
  clear hW4
  have z0 := (sl.unhide F4).c0
  have z1 := (sl.unhide F4).c1
  go_wp2_with fail
  refine (cf.toCnf v1 n1 LL1 _ hn0 ((sl.unhide S0).kept (sl.unhide G4))).mono ?_; rintro e w5 ⟨u5, rfl, o5, g5⟩
  clear z0 z1
  obtain ⟨a5_, c5_, rfl⟩ := o5.len
  obtain ⟨W5, hW5⟩ : ∃ W5, W5 = w5.alloc (.cells #[.int .i64 n1, .slice a5_ LL1.length c5_] 32) := ⟨_, rfl⟩
  have ga : w5.grownBy W5 none := by rw [hW5]; exact World.grownBy_alloc w5 _ none
  have G5 := sl.hide (sl.grown_trans (r := none) (sl.grown_trans (r := none) (sl.unhide G4) g5) ga)
  have F5 := sl.hide (((sl.unhide F4).kept g5).kept ga)
  have B5 := sl.hide (((sl.unhide B4).kept g5).kept ga)
  have X5 := sl.hide (o5.kept ga)
  have V5 : Hid (cf.Box 32 W5 w5.heap.size (.int .i64 n1) (.slice a5_ LL1.length c5_)) := by rw [hW5]; exact cf.Box.new 32 w5 _ _
  clear g5 ga o5 G4 F4 B4
  go_upto_region 9 with fail
  rw [← hW5]
  clear hW5
  have z0 := (sl.unhide V5).c0
  have z1 := (sl.unhide V5).c1
  go_wp2_with fail
  refine (sl.unhide CI _ _ ((sl.unhide TT).kept (sl.unhide G5)) (sl.unhide X5).sls).mono ?_; rintro e w6 ⟨rfl, g6⟩
  clear z0 z1
  obtain ⟨W6, hW6⟩ : ∃ W6, W6 = w6.alloc (.cells #[.string d, .bool sat, .string b, .string m] 36) := ⟨_, rfl⟩
  have ga : w6.grownBy W6 none := by rw [hW6]; exact World.grownBy_alloc w6 _ none
  have G6 := sl.hide (sl.grown_trans (r := none) (sl.grown_trans (r := none) (sl.unhide G5) g6) ga)
  have F6 := sl.hide (((sl.unhide F5).kept g6).kept ga)
  have B6 := sl.hide (((sl.unhide B5).kept g6).kept ga)
  have X6 := sl.hide (((sl.unhide X5).kept g6).kept ga)
  have V6 := sl.hide (((sl.unhide V5).kept g6).kept ga)
  have D6 : Hid (yb.Box4 36 W6 w6.heap.size (.string d) (.bool sat) (.string b) (.string m)) := by rw [hW6]; exact yb.Box4.new 36 w6 _ _ _ _
  clear g6 ga G5 F5 B5 X5 V5 CI
  go_upto_region 10 with fail
  rw [← hW6]
  clear hW6
  have p0 := (sl.unhide B6).c0
  have p1 := (sl.unhide B6).c1
  have p2 := (sl.unhide B6).c2
  have p3 := (sl.unhide B6).c3
  have q0 := (sl.unhide D6).c0
  have q1 := (sl.unhide D6).c1
  have q2 := (sl.unhide D6).c2
  have q3 := (sl.unhide D6).c3
  go_wp2_with fail
  refine (yb.eqSame d sat b m _).mono ?_; rintro e w7 ⟨rfl, g7⟩
  clear p0 p1 p2 p3 q0 q1 q2 q3
  have G7 := sl.hide (sl.grown_trans (r := none) (sl.unhide G6) g7)
  have F7 := sl.hide ((sl.unhide F6).kept g7)
  have X7 := sl.hide ((sl.unhide X6).kept g7)
  have V7 := sl.hide ((sl.unhide V6).kept g7)
  clear g7 G6 F6 B6 X6 V6 D6
  go_upto_region 12 with fail
  go_cut [47] (fun q wx => q = .bool false ∧ Hid (w7.grownBy wx none))
  case first =>
    have T5 := sl.hide (cf.toCnf v1 n1 LL1 w7.drew hn0 (((sl.unhide S0).kept (sl.unhide G7)).kept (cf.grown_drew w7 none)))
    have E5 := sl.hide (fun u6 wA (g6 : w7.drew.grownBy wA none) (o6 : css.OwnS w7.drew.heap.size wA.heap.size wA u6 LL1) => cf.eqCnf _ u6 n1 LL1 wA hn0 ((sl.unhide X7).kept (sl.grown_trans (r := none) (cf.grown_drew w7 none) g6)).sls o6.sls)
    have X5' := sl.hide (fun wA (g6 : w7.drew.grownBy wA none) => (sl.unhide V7).kept (sl.grown_trans (r := none) (cf.grown_drew w7 none) g6))
    have G5 := sl.hide (fun wA wB (g6 : w7.drew.grownBy wA none) (g7 : wA.grownBy wB none) => sl.grown_trans (r := none) (sl.grown_trans (r := none) (cf.grown_drew w7 none) g6) g7)
    have x0 := (sl.unhide F7).c0
    have x1 := (sl.unhide F7).c1
    have y0 := (sl.unhide V7).c0
    have y1 := (sl.unhide V7).c1
    clear X7 F7 V7 G7
    go_region_with (first
      | (go_at_call 28; refine (sl.unhide T5).mono ?_; rintro e wA ⟨u6, rfl, o6, g6⟩; have z0 := (sl.unhide X5' wA g6).c0; have z1 := (sl.unhide X5' wA g6).c1; have E6 := sl.hide (sl.unhide E5 u6 wA g6 o6); have G6 := sl.hide (fun wB => sl.unhide G5 wA wB g6); clear g6 o6)
      | (go_at_call 30; refine (sl.unhide E6).mono ?_; rintro e wB ⟨rfl, g7⟩; have G7 := sl.hide (sl.unhide G6 wB g7); clear g7))
    all_goals (go_wp2_with fail; go_meet; exact ⟨rfl, G7⟩)
  case rest =>
    obtain ⟨rfl, hg⟩ := hcut
    have G8 := sl.hide (sl.grown_trans (r := none) (sl.unhide G7) (sl.unhide hg))
    clear hg X7 F7 V7 G7
    go_wp2_with fail
    go_ret
    exact ⟨rfl, sl.below_of (sl.unhide G8)⟩

/-! ### the row's step (the guide's own frame) -/
set_option maxRecDepth 100000 in
theorem contract (H : Type) (enc : TypeId × Value → H) (W : World) (base : Nat) (args : Array Value) (ds gs : List (DataW H)) (before : List MemPlace)
    (hval : ∀ (j : Nat) t v, Tryz.f6.params[j]? = some t → args[j]? = some v → Value.okWide Tryz.prog W .any base t v)
    (hW : DataW.Whole enc Tryz.prog Tryz.f6.params.toList Rows.fnExactIssueSpec.vars false W args.toList ds gs before) (hL : laidMetH Tryz.prog Rows.fnExactIssueRow.laid W) :
    Calls Tryz.prog 6 args W fun e W' => ∃ v, e = .returned v ∧ Rows.fnExactIssueSpec.post enc Tryz.prog Tryz.f6 false true false false W args v W' := by
  have hW' := hW
  obtain ⟨p, q, hA0, hV, rfl, hfz, hnd⟩ := hW
  have hA : DataW.TrodAll enc Tryz.prog W 0 (fun _ => true) true Tryz.f6.params.toList args.toList ds p := hA0
  rw [Tryz.params6] at hA hval
  obtain ⟨x0, vs0, d0, ds0, p0, q0, hargs, rfl, rfl, h0, r0⟩ := trodAll_cons hA
  obtain ⟨x1, vs1, d1, ds1, p1, q1, rfl, rfl, rfl, h1, r1⟩ := trodAll_cons r0
  obtain ⟨rfl, rfl, rfl⟩ := trodAll_nil r1
  obtain rfl : args = #[x0, x1] := by cases args; simp_all
  obtain ⟨g0, g1, rfl⟩ := vars2 hV
  have k0 := h0
  have lt0 : ∀ x ∈ p0, x.block < W.heap.size := by obtain ⟨m, hm⟩ := k0; exact DataW.trod_lt m _ _ _ hm
  obtain ⟨a0, rfl, rfl, rfl, w0⟩ := open_string Tryz.underlying9 (hval 0 9 _ rfl rfl) h0
  obtain ⟨cs1, rfl, _⟩ := okWide_struct Tryz.underlying48 (hval 1 48 _ rfl rfl)
  have k1 := h1
  have lt1 : ∀ x ∈ p1, x.block < W.heap.size := by obtain ⟨m, hm⟩ := k1; exact DataW.trod_lt m _ _ _ hm
  obtain ⟨n1, v1, LL1, e1, f1, w1⟩ : ∃ n v LL, cs1 = #[.int .i64 n, v] ∧ (Lit.int .i64 n).wf = true ∧ row.IsRows W v LL := by
    obtain ⟨fuel, hf⟩ := h1
    obtain ⟨n, v, LL, e, hw, hv⟩ := row.open_cnf hf
    refine ⟨n, v, LL, ?_, hw, hv⟩
    cases cs1
    simpa [Value.cells] using e
  subst e1
  clear hA0
  refine (walk a0 n1 v1 LL1 W w0 f1 w1 (table hL)).mono fun e W' ⟨he, bel⟩ => ?_
  subst he
  exact ⟨_, rfl, _, _, _, [], _, _, hW', trodAll_mk1 (shut_bool Tryz.underlying4 _), (trodAll_cons_mk (Below.trod laidOut (by kernel_rfl) (of_decide_eq_true (by kernel_rfl)) k0 bel lt0) (trodAll_cons_mk (Below.trod laidOut (by kernel_rfl) (of_decide_eq_true (by kernel_rfl)) k1 bel lt1) trodAll_mk0)), Below.trodVars laidOutV bel (by kernel_rfl) hV, bel.frame _, fun h => by cases h⟩

set_option maxRecDepth 100000 in
theorem lifted (os : Os) (started : os.Started) (H : Type) (enc : TypeId × Value → H) (F : Stop.Interp) :
    ReturnsInHanded {} Tryz.checked os 6 .any ((OpenSpec.ofChange Rows.fnExactIssueSpec).preRow enc Tryz.prog Tryz.f6 Rows.fnExactIssueRow.domain false Rows.fnExactIssueRow.laid) (((OpenSpec.ofChange Rows.fnExactIssueSpec).at F).post enc Tryz.prog Tryz.f6 false true false false) := by
  refine returnsInHanded_of_row (C := Tryz.checked) (s := OpenSpec.ofChange Rows.fnExactIssueSpec) own started (by kernel_rfl) Tryz.func6
    (witness_row_at (enc := enc) (C := Tryz.checked) false ({ World.holding Tryz.prog os ⟨#[], #[], []⟩ with heap := (((((World.holding Tryz.prog os ⟨#[], #[], []⟩).heap.modify 11 fun | .cells _ t frozen => .cells (Lib.deBruijn32tab.map fun (n : Nat) => Value.int .u8 n).toArray t frozen | o => o).modify 9 fun | .cells _ t frozen => .cells (Lib.deBruijn64tab.map fun (n : Nat) => Value.int .u8 n).toArray t frozen | o => o).modify 10 fun | .cells _ t frozen => .cells (Lib.pow10Tab.map fun n => Value.int .u64 n).toArray t frozen | o => o).modify 6 fun | .cells _ t frozen => .cells (zk.kL.map fun n => Value.int .u32 n).toArray t frozen | o => o).modify 4 fun | .cells _ t frozen => .cells (zk.sL.map fun n => Value.int .u32 n).toArray t frozen | o => o } : World) #[.string ByteArray.empty, .agg #[.int .i64 0, .slice none 0 0]] rfl (by kernel_rfl) (by kernel_rfl) (by kernel_rfl)
      (OpenSpec.preRow_of_cond 8 (x := ([.lit (.string []), .agg [.lit (.int .i64 0), .nil]], [Rows.laid_loop_example_g00123_impl_sumStarts, Rows.laid_loop_example_g00123_impl_sumConsts], MemPlace.row ⟨4, 0, none⟩ 8 ++ MemPlace.row ⟨6, 0, none⟩ 64)) (by kernel_rfl) (by kernel_rfl) (fun k hk => by cases hk) (by kernel_rfl) (laidMet_of_run' 8 (by kernel_rfl) (by kernel_rfl)))) ?_
  intro W base args ds gs before hval hW _ _ _ hL _ _
  exact contract H enc W base args ds gs before hval hW hL

theorem said : Rows.FnExactIssueSaid :=
  OpenClaim.holds_of_cond 6 Tryz.f6 rfl rfl rfl rfl rfl rfl rfl ⟨rfl, rfl, rfl, rfl, rfl⟩ rfl rfl rfl rfl rfl (by kernel_rfl) Tryz.func6 (by kernel_rfl)
    (of_decide_eq_true (by kernel_rfl)) (by unfold Func.isWrapper; first | (rw [if_pos (by decide +kernel)]; kernel_rfl) | (rw [if_neg (by decide +kernel)]; exact ⟨rfl, rfl⟩))
    (fun os started H enc _ F => by rw [OpenClaim.pre_eq_preRow]; exact lifted os started H enc F)

theorem plain (f : FuncId) (fn : Func) (hf : Tryz.pinned.checked.prog.funcNamed "loop.example/g00123/laws.FnExactIssue" = some f) (hfn : Tryz.pinned.checked.prog.funcs[f]? = some fn) :
    true = Tryz.pinned.checked.prog.looks [] ∧ ∀ (j : Nat) t, fn.params[j]? = some t → Tryz.pinned.checked.prog.wantsStandIn t = false := by
  obtain rfl : f = 6 := Option.some.inj ((show Tryz.prog.funcNamed "loop.example/g00123/laws.FnExactIssue" = some 6 by kernel_rfl).symm.trans hf) |>.symm
  obtain rfl : fn = Tryz.f6 := (Option.some.inj (Tryz.func6.symm.trans hfn)).symm
  refine ⟨by kernel_rfl, fun j t ht => ?_⟩
  rw [Tryz.params6] at ht
  have hm := Array.mem_of_getElem? ht
  simp only [List.mem_toArray, List.mem_cons, List.not_mem_nil, or_false] at hm
  rcases hm with rfl | rfl
  · exact (show Tryz.prog.wantsStandIn 9 = false by kernel_rfl)
  · exact (show Tryz.prog.wantsStandIn 48 = false by kernel_rfl)

/-- the statement: the row's tied card -/
theorem proved : Rows.FnExactIssueCardSaid :=
  Claim7.holds_tied_plain_at .later [] _ _ _ _ said (fun _ h => by cases h) (by kernel_rfl) (fun _ h => by cases h) fnExactIssue_row_tie rfl ⟨rfl, rfl⟩ (by kernel_rfl) rfl plain (by kernel_rfl)
#print axioms proved
end Go.Proofs.YtcgiphcfjhbonaaGreatDoor.fnExactIssue
