/- At every key, formula and certificate of together at most 2^20 values (and keys of at most 2^20 bytes) Verify of the program answers as its model, and nothing that came in is written (the law FnExactVerify returns true); no condition. -/
import Derived.Test.YtcgiphcfjhbonaaGreatDoorCards
import Derived.Test.YtcgiphcfjhbonaaGreatDoorTie
import Derived.OpenVars
import Derived.Test.YtcgiphcfjhbonaaGreatDoorRow
import Derived.Test.YtcgiphcfjhbonaaGreatDoorJVy
import Derived.WalkKit
import Derived.ProofKit
import Derived.OpenShut
import Derived.ShutString
import Derived.ChangeOld
import Derived.Below
import Derived.Deep.DeepHandedRow
import Derived.Lib.LaidTab
import Derived.Lib.TrailingZeros
import Derived.Stop.LaidErr
import Derived.Stop.LaidTwo
import Derived.LaidHandle
import Derived.LaidSub
namespace Go.Proofs.YtcgiphcfjhbonaaGreatDoor.fnExactVerify
open Go.ChangeShapes Go.WideShapes Go.ChangeAt Go.RowKit
open Go.ChangeMaps (open_string shut_string)
set_option linter.unusedVariables false

theorem own : ownKnob Tryz.prog.godebug = none := by kernel_rfl
theorem laidOut : laidOutB Tryz.prog = true := by kernel_rfl

theorem laidOutV : laidOutB Tryz.prog = true := by kernel_rfl
theorem vars1 {H : Type} {enc : TypeId × Value → H} {P : Program} {w : World} {sp : Nat → Bool} {n : String} {gs : List (DataW H)} {ps : List MemPlace} (h : DataW.TrodVars enc P w sp [n] gs ps) : ∃ g, gs = [g] := by
  cases gs with
  | nil => exact h.elim
  | cons g t =>
    obtain ⟨_, _, _, _, _, _, _, _, _, _, hs, _⟩ := h
    cases t with
    | nil => exact ⟨g, rfl⟩
    | cons _ _ => exact hs.elim
theorem vars2 {H : Type} {enc : TypeId × Value → H} {P : Program} {w : World} {sp : Nat → Bool} {n m : String} {gs : List (DataW H)} {ps : List MemPlace} (h : DataW.TrodVars enc P w sp [n, m] gs ps) : ∃ g k, gs = [g, k] := by
  cases gs with
  | nil => exact h.elim
  | cons g t =>
    obtain ⟨_, _, _, _, _, _, _, _, _, _, hs, _⟩ := h
    obtain ⟨k, rfl⟩ := vars1 hs
    exact ⟨g, k, rfl⟩
theorem vars6 {H : Type} {enc : TypeId × Value → H} {P : Program} {w : World} {sp : Nat → Bool} {n0 n1 n2 n3 n4 n5 : String} {gs : List (DataW H)} {ps : List MemPlace} (h : DataW.TrodVars enc P w sp [n0, n1, n2, n3, n4, n5] gs ps) : ∃ g0 g1 g2 g3 g4 g5, gs = [g0, g1, g2, g3, g4, g5] := by
  cases gs with
  | nil => exact h.elim
  | cons g0 t =>
    obtain ⟨_, _, _, _, _, _, _, _, _, _, h1, _⟩ := h
    cases t with
    | nil => exact h1.elim
    | cons g1 t =>
      obtain ⟨_, _, _, _, _, _, _, _, _, _, h2, _⟩ := h1
      cases t with
      | nil => exact h2.elim
      | cons g2 t =>
        obtain ⟨_, _, _, _, _, _, _, _, _, _, h3, _⟩ := h2
        cases t with
        | nil => exact h3.elim
        | cons g3 t =>
          obtain ⟨_, _, _, _, _, _, _, _, _, _, h4, _⟩ := h3
          obtain ⟨g4, g5, rfl⟩ := vars2 h4
          exact ⟨g0, g1, g2, g3, g4, g5, rfl⟩
theorem gTab : Tryz.prog.globalNamed "math/bits.deBruijn64tab" = some 9 := by kernel_rfl
theorem gTabType : (Tryz.prog.globals[9]?).map (·.type) = some 172 := by kernel_rfl
theorem cellsTab : Tryz.prog.cellsOf 172 = 64 := by kernel_rfl
theorem cellsByte : Tryz.prog.cellsOf 5 = 1 := by kernel_rfl
theorem gPowType : (Tryz.prog.globals[10]?).map (·.type) = some 266 := by kernel_rfl
theorem cellsPow : Tryz.prog.cellsOf 266 = 20 := by kernel_rfl
theorem cellsU64 : Tryz.prog.cellsOf 156 = 1 := by kernel_rfl
theorem powData : (Rows.laid_internal_strconv_uint64pow10 : DataW Unit) = Lib.tabData .u64 Lib.pow10Tab := by kernel_rfl
theorem tabData64 : (Rows.laid_math_bits_deBruijn64tab : DataW Unit) = Lib.tabData .u8 (Lib.deBruijn64tab.map fun (n : Nat) => (n : Int)) := by kernel_rfl
theorem gK : Tryz.prog.globalNamed "loop.example/g00123/impl.sumConsts" = some 6 := by kernel_rfl
theorem tyK : (Tryz.prog.globals[6]?).map (·.type) = some 223 := by kernel_rfl
theorem cellsK : Tryz.prog.cellsOf 223 = 64 := by kernel_rfl
theorem dataK : (Rows.laid_loop_example_g00123_impl_sumConsts : DataW Unit) = Lib.tabData .u32 zk.kL := by kernel_rfl
theorem gS : Tryz.prog.globalNamed "loop.example/g00123/impl.sumStarts" = some 4 := by kernel_rfl
theorem tyS : (Tryz.prog.globals[4]?).map (·.type) = some 152 := by kernel_rfl
theorem cellsS : Tryz.prog.cellsOf 152 = 8 := by kernel_rfl
theorem dataS : (Rows.laid_loop_example_g00123_impl_sumStarts : DataW Unit) = Lib.tabData .u32 zk.sL := by kernel_rfl
theorem cellsW : Tryz.prog.cellsOf 151 = 1 := by kernel_rfl
theorem laid_tail {P : Program} {W : World} {x : String × DataW Unit} {rest : List (String × DataW Unit)} (h : laidMet P (x :: rest) W) : laidMet P rest W := by
  obtain ⟨ps, hv, hn, hc⟩ := h
  obtain ⟨n, d⟩ := x
  obtain ⟨g, t, cs, fuel, p, q, _, _, _, _, hr, rfl⟩ := hv
  exact ⟨q, hr, (List.nodup_append.1 hn).2.1, fun b off hm => hc b off (List.mem_append_right _ hm)⟩
theorem star : "*" ++ "errors.errorString" = "*errors.errorString" := by decide
theorem rowErr (u : TypeId) (h : Tryz.prog.typeName? 3 u = some "*errors.errorString") : u = 271 :=
  typeName_ptr_named (nm := "errors.errorString") (by rw [star]; kernel_rfl) (by kernel_rfl) (by decide) u (by rw [star]; exact h)
theorem gSyntType : (Tryz.prog.globals[7]?).map (·.type) = some 68 := by kernel_rfl
theorem gRangType : (Tryz.prog.globals[8]?).map (·.type) = some 68 := by kernel_rfl
theorem cellsErr : Tryz.prog.cellsOf 273 = 1 := by kernel_rfl
theorem cellsStr : Tryz.prog.cellsOf 9 = 1 := by kernel_rfl
theorem var_lt {W : World} {n : String} {g : Nat} {cs : Array Value} (hg : Tryz.prog.globalNamed n = some g) (hv : W.var? Tryz.prog n = some cs) : g < W.heap.size := by
  unfold World.var? at hv
  rw [hg] at hv
  rcases Nat.lt_or_ge g W.heap.size with h' | h'
  · exact h'
  · simp [Array.getElem?_eq_none h'] at hv
theorem g_errMark : Tryz.prog.globalNamed "loop.example/g00123/impl.errMark" = some 0 := by kernel_rfl
theorem ty_errMark : (Tryz.prog.globals[0]?).map (·.type) = some 68 := by kernel_rfl
theorem g_errOther : Tryz.prog.globalNamed "loop.example/g00123/impl.errOther" = some 1 := by kernel_rfl
theorem ty_errOther : (Tryz.prog.globals[1]?).map (·.type) = some 68 := by kernel_rfl
theorem g_errBody : Tryz.prog.globalNamed "loop.example/g00123/impl.errBody" = some 2 := by kernel_rfl
theorem ty_errBody : (Tryz.prog.globals[2]?).map (·.type) = some 68 := by kernel_rfl
theorem g_errWrong : Tryz.prog.globalNamed "loop.example/g00123/impl.errWrong" = some 3 := by kernel_rfl
theorem ty_errWrong : (Tryz.prog.globals[3]?).map (·.type) = some 68 := by kernel_rfl
theorem laid_skip {P : Program} {W : World} {x y : String × DataW Unit} {rest : List (String × DataW Unit)} (h : laidMet P (x :: y :: rest) W) : laidMet P (x :: rest) W := by
  obtain ⟨ps, hv, hn, hc⟩ := h
  obtain ⟨n, d⟩ := x
  obtain ⟨n1, d1⟩ := y
  obtain ⟨g, t, cs, fuel, p, q, a, b, c, d', hr, rfl⟩ := hv
  obtain ⟨g1, t1, cs1, fuel1, p1, q1, _, _, _, _, hr1, rfl⟩ := hr
  exact ⟨_, ⟨g, t, cs, fuel, p, q1, a, b, c, d', hr1, rfl⟩, hn.sublist (List.Sublist.append (List.Sublist.refl _) (List.sublist_append_right _ _)), fun b' off hm => hc b' off (by
    rcases List.mem_append.1 hm with q | q
    · exact List.mem_append_left _ q
    · exact List.mem_append_right _ (List.mem_append_right _ q))⟩
theorem same_ptr {W : World} {n : String} {t : TypeId} {a b : Addr} (h : W.var? Tryz.prog n = some #[.iface t (.pointer (some a))]) (k : W.var? Tryz.prog n = some #[.iface t (.pointer (some b))]) : a = b := by
  rw [h] at k
  simpa using k
theorem cell_of {W : World} {n : String} {g : Nat} {x : Value} (hg : Tryz.prog.globalNamed n = some g) (h : W.var? Tryz.prog n = some #[x]) : W.cell? ⟨g, 0, none⟩ = some x := by simpa using World.var?_cell hg h 0
/-- what the row's list, and the world's shape, give -/
theorem table {W : World} (h : laidMetH Tryz.prog Rows.fnExactVerifyRow.laid W) (hSh : W.ShapedOpen Tryz.prog) : ∃ a1 a2 a3 a4, yo.Env W a1 a2 a3 a4 := by
  have h0 : laidMet Tryz.prog [("math/bits.deBruijn32tab", Rows.laid_math_bits_deBruijn32tab), ("math/bits.deBruijn64tab", Rows.laid_math_bits_deBruijn64tab), ("internal/strconv.uint64pow10", Rows.laid_internal_strconv_uint64pow10), ("strconv.ErrRange", Rows.laid_strconv_ErrRange), ("strconv.ErrSyntax", Rows.laid_strconv_ErrSyntax), ("loop.example/g00123/impl.sumConsts", Rows.laid_loop_example_g00123_impl_sumConsts), ("loop.example/g00123/impl.sumStarts", Rows.laid_loop_example_g00123_impl_sumStarts), ("loop.example/g00123/impl.errMark", Rows.laid_loop_example_g00123_impl_errMark), ("loop.example/g00123/impl.errOther", Rows.laid_loop_example_g00123_impl_errOther), ("loop.example/g00123/impl.errBody", Rows.laid_loop_example_g00123_impl_errBody), ("loop.example/g00123/impl.errWrong", Rows.laid_loop_example_g00123_impl_errWrong)] W := h
  have h1 := laid_tail h0
  have h2 := laid_tail h1
  have h3 := laid_tail h2
  have h4 := laid_tail h3
  have h5 := laid_tail h4
  have h6 := laid_tail h5
  have h7 := laid_tail h6
  have h8 := laid_tail h7
  have h9 := laid_tail h8
  have h10 := laid_tail h9
  have tT : srt.Tab W := by
    have hh : laidMet Tryz.prog (("math/bits.deBruijn64tab", Lib.tabData .u8 (Lib.deBruijn64tab.map fun (n : Nat) => (n : Int))) :: [("internal/strconv.uint64pow10", Rows.laid_internal_strconv_uint64pow10), ("strconv.ErrRange", Rows.laid_strconv_ErrRange), ("strconv.ErrSyntax", Rows.laid_strconv_ErrSyntax), ("loop.example/g00123/impl.sumConsts", Rows.laid_loop_example_g00123_impl_sumConsts), ("loop.example/g00123/impl.sumStarts", Rows.laid_loop_example_g00123_impl_sumStarts), ("loop.example/g00123/impl.errMark", Rows.laid_loop_example_g00123_impl_errMark), ("loop.example/g00123/impl.errOther", Rows.laid_loop_example_g00123_impl_errOther), ("loop.example/g00123/impl.errBody", Rows.laid_loop_example_g00123_impl_errBody), ("loop.example/g00123/impl.errWrong", Rows.laid_loop_example_g00123_impl_errWrong)]) W := by
      rw [← tabData64]
      exact h1
    have t : Lib.TabIs Tryz.prog W "math/bits.deBruijn64tab" .u8 (Lib.deBruijn64tab.map fun (n : Nat) => (n : Int)) :=
      Lib.tabIs_of_head gTab gTabType Tryz.underlying172 Tryz.underlying5 cellsByte cellsTab hh
    intro j hj
    have c := t.cell gTab j (by rw [List.length_map]; exact hj)
    rw [c]
    congr 2
    rw [List.getD, List.getD, List.getElem?_map]
    cases Lib.deBruijn64tab[j]? <;> rfl
  have t : Lib.TabIs Tryz.prog W "internal/strconv.uint64pow10" .u64 Lib.pow10Tab := by
    have hh : laidMet Tryz.prog (("internal/strconv.uint64pow10", Lib.tabData .u64 Lib.pow10Tab) :: [("strconv.ErrRange", Rows.laid_strconv_ErrRange), ("strconv.ErrSyntax", Rows.laid_strconv_ErrSyntax), ("loop.example/g00123/impl.sumConsts", Rows.laid_loop_example_g00123_impl_sumConsts), ("loop.example/g00123/impl.sumStarts", Rows.laid_loop_example_g00123_impl_sumStarts), ("loop.example/g00123/impl.errMark", Rows.laid_loop_example_g00123_impl_errMark), ("loop.example/g00123/impl.errOther", Rows.laid_loop_example_g00123_impl_errOther), ("loop.example/g00123/impl.errBody", Rows.laid_loop_example_g00123_impl_errBody), ("loop.example/g00123/impl.errWrong", Rows.laid_loop_example_g00123_impl_errWrong)]) W := by
      rw [← powData]
      exact h2
    exact Lib.tabIs_of_head txt.gPow gPowType Tryz.underlying266 Tryz.underlying156 cellsU64 cellsPow hh
  obtain ⟨_, _, hv1, _, _, _⟩ := laid_sentinel h3 rd.gRang gRangType Tryz.underlying68 rowErr Tryz.underlying271 Tryz.underlying273 rfl rfl Tryz.underlying9 cellsErr cellsStr
  obtain ⟨_, _, hv2, _, _, _⟩ := laid_sentinel h4 rd.gSynt gSyntType Tryz.underlying68 rowErr Tryz.underlying271 Tryz.underlying273 rfl rfl Tryz.underlying9 cellsErr cellsStr
  have hM := Tryz.laysM145.s1_3 W hSh
  have hMl : 5 < W.heap.size := by obtain ⟨m, hm⟩ := hM; exact World.block_lt_of_cell? W _ hm
  have tK : zk.TabK W := by
    have hh : laidMet Tryz.prog (("loop.example/g00123/impl.sumConsts", Lib.tabData .u32 zk.kL) :: [("loop.example/g00123/impl.sumStarts", Rows.laid_loop_example_g00123_impl_sumStarts), ("loop.example/g00123/impl.errMark", Rows.laid_loop_example_g00123_impl_errMark), ("loop.example/g00123/impl.errOther", Rows.laid_loop_example_g00123_impl_errOther), ("loop.example/g00123/impl.errBody", Rows.laid_loop_example_g00123_impl_errBody), ("loop.example/g00123/impl.errWrong", Rows.laid_loop_example_g00123_impl_errWrong)]) W := by
      rw [← dataK]
      exact h5
    have t : Lib.TabIs Tryz.prog W "loop.example/g00123/impl.sumConsts" .u32 zk.kL :=
      Lib.tabIs_of_head gK tyK Tryz.underlying223 Tryz.underlying151 cellsW cellsK hh
    exact fun j hj => t.cell gK j hj
  have tS : zk.TabS W := by
    have hh : laidMet Tryz.prog (("loop.example/g00123/impl.sumStarts", Lib.tabData .u32 zk.sL) :: [("loop.example/g00123/impl.errMark", Rows.laid_loop_example_g00123_impl_errMark), ("loop.example/g00123/impl.errOther", Rows.laid_loop_example_g00123_impl_errOther), ("loop.example/g00123/impl.errBody", Rows.laid_loop_example_g00123_impl_errBody), ("loop.example/g00123/impl.errWrong", Rows.laid_loop_example_g00123_impl_errWrong)]) W := by
      rw [← dataS]
      exact h6
    have t : Lib.TabIs Tryz.prog W "loop.example/g00123/impl.sumStarts" .u32 zk.sL :=
      Lib.tabIs_of_head gS tyS Tryz.underlying152 Tryz.underlying151 cellsW cellsS hh
    exact fun j hj => t.cell gS j hj
  obtain ⟨x12, y12, _, _, c12, d12, s12, t12, u12, v12, _, _, _, _, _, _, n12, p12, q12⟩ := laid_sentinels2 h7 g_errMark ty_errMark g_errOther ty_errOther Tryz.underlying68 rowErr Tryz.underlying271 Tryz.underlying273 rfl rfl Tryz.underlying9 cellsErr cellsStr
  obtain ⟨x13, y13, _, _, c13, d13, s13, t13, u13, v13, _, _, _, _, _, _, n13, p13, q13⟩ := laid_sentinels2 (laid_skip h7) g_errMark ty_errMark g_errBody ty_errBody Tryz.underlying68 rowErr Tryz.underlying271 Tryz.underlying273 rfl rfl Tryz.underlying9 cellsErr cellsStr
  obtain ⟨x14, y14, _, _, c14, d14, s14, t14, u14, v14, _, _, _, _, _, _, n14, p14, q14⟩ := laid_sentinels2 (laid_skip (laid_skip h7)) g_errMark ty_errMark g_errWrong ty_errWrong Tryz.underlying68 rowErr Tryz.underlying271 Tryz.underlying273 rfl rfl Tryz.underlying9 cellsErr cellsStr
  obtain ⟨x23, y23, _, _, c23, d23, s23, t23, u23, v23, _, _, _, _, _, _, n23, p23, q23⟩ := laid_sentinels2 h8 g_errOther ty_errOther g_errBody ty_errBody Tryz.underlying68 rowErr Tryz.underlying271 Tryz.underlying273 rfl rfl Tryz.underlying9 cellsErr cellsStr
  obtain ⟨x24, y24, _, _, c24, d24, s24, t24, u24, v24, _, _, _, _, _, _, n24, p24, q24⟩ := laid_sentinels2 (laid_skip h8) g_errOther ty_errOther g_errWrong ty_errWrong Tryz.underlying68 rowErr Tryz.underlying271 Tryz.underlying273 rfl rfl Tryz.underlying9 cellsErr cellsStr
  obtain ⟨x34, y34, _, _, c34, d34, s34, t34, u34, v34, _, _, _, _, _, _, n34, p34, q34⟩ := laid_sentinels2 h9 g_errBody ty_errBody g_errWrong ty_errWrong Tryz.underlying68 rowErr Tryz.underlying271 Tryz.underlying273 rfl rfl Tryz.underlying9 cellsErr cellsStr
  obtain rfl := same_ptr u12 u13
  obtain rfl := same_ptr u12 u14
  obtain rfl := same_ptr v12 u23
  obtain rfl := same_ptr v12 u24
  obtain rfl := same_ptr v13 v23
  obtain rfl := same_ptr v13 u34
  obtain rfl := same_ptr v14 v24
  obtain rfl := same_ptr v14 v34
  exact ⟨_, _, _, _, tT, ⟨⟨World.block_lt_of_cell? W _ (t.cell txt.gPow 0 (by decide)), t⟩, ⟨var_lt rd.gRang hv1, var_lt rd.gSynt hv2, hMl⟩, ⟨_, _, hv2⟩, ⟨_, _, hv1⟩, hM⟩, tK, tS, cell_of g_errMark u12, cell_of g_errOther v12, cell_of g_errBody v13, cell_of g_errWrong v14, ⟨n12, ⟨_, _, p12⟩, _, _, q12⟩, ⟨n13, ⟨_, _, p13⟩, _, _, q13⟩, ⟨n14, ⟨_, _, p14⟩, _, _, q14⟩, ⟨n23, ⟨_, _, p23⟩, _, _, q23⟩, ⟨n24, ⟨_, _, p24⟩, _, _, q24⟩, ⟨n34, ⟨_, _, p34⟩, _, _, q34⟩⟩

/-! ### the walk -/
set_option maxRecDepth 100000 in
set_option maxHeartbeats 8000000 in
theorem walk (a0 : ByteArray) (n1 : Int) (v1 : Value) (LL1 : List (List Int)) (d2 : ByteArray) (sat2 : Bool) (b2 m2 : ByteArray) (w : World) (w0 : a0.size ≤ maxLen) (f1 : (Lit.int .i64 n1).wf = true) (w1 : row.IsRows w v1 LL1) (wd2 : d2.size ≤ maxLen) (wb2 : b2.size ≤ maxLen) (wm2 : m2.size ≤ maxLen) (hT : ∃ a1 a2 a3 a4, yo.Env w a1 a2 a3 a4) :
    Calls Tryz.prog 7 #[.string a0, .agg #[.int .i64 n1, v1], .agg #[.string d2, .bool sat2, .string b2, .string m2]] w fun e w' => e = .returned (.bool true) ∧ Below w.heap.size w w' := by
  have TT := sl.hide hT
  have g0 := sl.grown_trans (r := none) (World.grownBy_alloc w (.cells #[(.int .i64 n1), v1] 48) none) (World.grownBy_alloc _ (.cells #[.string d2, .bool sat2, .string b2, .string m2] 54) none)
  have f0 := (cf.Box.new 48 w (.int .i64 n1) v1).kept (World.grownBy_alloc _ (.cells #[.string d2, .bool sat2, .string b2, .string m2] 54) none)
  have c0 := yb.Box4.new 54 (w.alloc (.cells #[(.int .i64 n1), v1] 48)) (.string d2) (.bool sat2) (.string b2) (.string m2)
  rw [World.size_alloc] at c0
  have G0 := sl.hide g0
  have F0 := sl.hide f0
  have C0 := sl.hide c0
  clear hT g0 f0 c0
  by_cases hbig : 1048576 < a0.size
  · have hi : (1048576 : Int) < (a0.size : Int) := by omega
    go_enter Tryz.func7, Tryz.ntmps7
    go_wp2
    go_ret
    exact ⟨rfl, sl.below_of (sl.unhide G0)⟩
  have hi : ¬ (1048576 : Int) < (a0.size : Int) := by omega
  have hka : a0.size ≤ 1048576 := by omega
  clear hbig
  obtain ⟨hS0, hl0, hk0⟩ := w1
  have S0 := sl.hide hS0
  clear hS0
  obtain ⟨W0, hW0⟩ : ∃ W0, W0 = (w.alloc (.cells #[(.int .i64 n1), v1] 48)).alloc (.cells #[.string d2, .bool sat2, .string b2, .string m2] 54) := ⟨_, rfl⟩
  rw [← hW0] at G0 F0 C0
  go_enter Tryz.func7, Tryz.ntmps7
  go_upto_region 4 with fail
  rw [← hW0]
  clear hW0
  have z0 := (sl.unhide F0).c0
  have z1 := (sl.unhide F0).c1
  go_wp2_with fail
  refine (cf.szCnf v1 n1 LL1 1048576 _ (by decide) (by decide) hl0 hk0 ((sl.unhide S0).kept (sl.unhide G0))).mono ?_; rintro e w2 ⟨r0, rfl, g2, hr⟩
  clear z0 z1
  have G2 := sl.hide (sl.grown_trans (r := none) (sl.unhide G0) g2)
  have F2 := sl.hide ((sl.unhide F0).kept g2)
  have C2 := sl.hide ((sl.unhide C0).kept g2)
  clear g2 G0 F0 C0
  rcases hr with rfl | ⟨hr0, hr1⟩
  · go_wp2_with fail
    go_ret
    exact ⟨rfl, sl.below_of (sl.unhide G2)⟩
  have hn0 : css.tot LL1 ≤ 1048576 := by omega
  have hq0 : ¬ r0 < 0 := by omega
  have CZ := sl.hide (yb.szCert d2 sat2 b2 m2 r0 w2 (by omega) wd2 wb2 wm2)
  have z0 := (sl.unhide C2).c0
  have z1 := (sl.unhide C2).c1
  have z2 := (sl.unhide C2).c2
  have z3 := (sl.unhide C2).c3
  have hr2 : 0 ≤ r0 ∧ r0 ≤ 1048576 := by omega
  have HR2 := sl.hide hr2
  clear hr0 hr1 hr2
  by_cases hz : (d2.size : Int) + b2.size + m2.size ≤ r0
  rotate_left
  · rw [if_neg hz] at CZ
    clear hz
    go_wp2_with fail
    refine (sl.unhide CZ).mono ?_; rintro e w3 ⟨rfl, g3⟩
    have G3 := sl.hide (sl.grown_trans (r := none) (sl.unhide G2) g3)
    clear g3 CZ G2 F2 C2 z0 z1 z2 z3
    go_wp2_with fail
    go_ret
    exact ⟨rfl, sl.below_of (sl.unhide G3)⟩
  rw [if_pos hz] at CZ
  have hdb : d2.size + b2.size ≤ 1048576 := by have := sl.unhide HR2; omega
  have hz' : ¬ (r0 - d2.size - b2.size - m2.size < 0) := by omega
  obtain ⟨k, cs, ci⟩ := yo.both a0 n1 LL1 d2 sat2 b2 m2 hka hn0 hdb
  clear hz hdb HR2
  go_wp2_with fail
  refine (sl.unhide CZ).mono ?_; rintro e w3 ⟨rfl, g3⟩
  have G3 := sl.hide (sl.grown_trans (r := none) (sl.unhide G2) g3)
  have F3 := sl.hide ((sl.unhide F2).kept g3)
  have C3 := sl.hide ((sl.unhide C2).kept g3)
  clear g3 CZ G2 F2 C2 z0 z1 z2 z3
  go_upto_region 10 with fail
  have CS := sl.hide cs
  have CI := sl.hide ci
  clear cs ci
  have TC := sl.hide (fun w1 (g : w3.grownBy w1 none) => cf.toCnf v1 n1 LL1 w1 hn0 (((sl.unhide S0).kept (sl.unhide G3)).kept g))
  have TQ := sl.hide (fun w1 => yb.toCert d2 sat2 b2 m2 w1)
  have CK : Hid (∀ w', w3.grownBy w' none → (w'.cell? ⟨w.heap.size, 0, none⟩ = some (.int .i64 n1) ∧ w'.cell? ⟨w.heap.size, 1, none⟩ = some v1) ∧ w'.cell? ⟨w.heap.size + 1, 0, none⟩ = some (.string d2) ∧ w'.cell? ⟨w.heap.size + 1, 1, none⟩ = some (.bool sat2) ∧ w'.cell? ⟨w.heap.size + 1, 2, none⟩ = some (.string b2) ∧ w'.cell? ⟨w.heap.size + 1, 3, none⟩ = some (.string m2)) := fun w' g => ⟨⟨((sl.unhide F3).kept g).c0, ((sl.unhide F3).kept g).c1⟩, ((sl.unhide C3).kept g).c0, ((sl.unhide C3).kept g).c1, ((sl.unhide C3).kept g).c2, ((sl.unhide C3).kept g).c3⟩
  go_cut [8] (fun q wx => q = .int .i64 k ∧ Hid (w3.grownBy wx none))
  case first =>
    have GX := sl.hide (cf.grown_drew w3 none)
    obtain ⟨⟨j0, j1⟩, k0, k1, k2, k3⟩ := sl.unhide CK _ (sl.grown_refl _)
    go_region_held3 (fun w' => (w'.cell? ⟨w.heap.size, 0, none⟩ = some (.int .i64 n1) ∧ w'.cell? ⟨w.heap.size, 1, none⟩ = some v1) ∧ w'.cell? ⟨w.heap.size + 1, 0, none⟩ = some (.string d2) ∧ w'.cell? ⟨w.heap.size + 1, 1, none⟩ = some (.bool sat2) ∧ w'.cell? ⟨w.heap.size + 1, 2, none⟩ = some (.string b2) ∧ w'.cell? ⟨w.heap.size + 1, 3, none⟩ = some (.string m2)) (go_keep) (first
      | (go_at_call 28; refine (sl.unhide TC _ (sl.unhide GX)).mono ?_; rintro e w7 ⟨u7, rfl, o7, g7⟩; obtain ⟨a7, c7, rfl⟩ := o7.len; have O7 := sl.hide o7; replace GX := sl.hide (sl.grown_trans (r := none) (sl.unhide GX) g7); obtain ⟨⟨j0, j1⟩, k0, k1, k2, k3⟩ := sl.unhide CK _ (sl.unhide GX); clear g7 o7)
      | (go_at_call 32; refine (sl.unhide TQ _).mono ?_; rintro e w8 ⟨rfl, g8⟩; have O8 := sl.hide (And.intro ((sl.unhide O7).kept g8) g8.size); replace GX := sl.hide (sl.grown_trans (r := none) (sl.unhide GX) g8); obtain ⟨⟨j0, j1⟩, k0, k1, k2, k3⟩ := sl.unhide CK _ (sl.unhide GX); clear g8)
      | (go_at_call 22; refine (sl.unhide CS _ _ _ _ (sl.unhide O8).1 (sl.unhide O8).2).mono ?_; rintro e w9 ⟨rfl, g9⟩; replace GX := sl.hide (sl.grown_trans (r := none) (sl.unhide GX) g9); obtain ⟨⟨j0, j1⟩, k0, k1, k2, k3⟩ := sl.unhide CK _ (sl.unhide GX); clear g9))
    all_goals (go_wp2_with fail; go_meet; exact ⟨rfl, GX⟩)
  case rest =>
    obtain ⟨rfl, hg⟩ := hcut
    have G4 := sl.hide (sl.grown_trans (r := none) (sl.unhide G3) (sl.unhide hg))
    have F4 := sl.hide ((sl.unhide F3).kept (sl.unhide hg))
    have C4 := sl.hide ((sl.unhide C3).kept (sl.unhide hg))
    clear hg G3 F3 C3 CK TC CS
    have z0 := (sl.unhide F4).c0
    have z1 := (sl.unhide F4).c1
    go_wp2_with fail
    refine (cf.toCnf v1 n1 LL1 _ hn0 ((sl.unhide S0).kept (sl.unhide G4))).mono ?_; rintro e w5 ⟨u5, rfl, o5, g5⟩
    clear z0 z1
    obtain ⟨a5_, c5_, rfl⟩ := o5.len
    obtain ⟨W5, hW5⟩ : ∃ W5, W5 = w5.alloc (.cells #[.int .i64 n1, .slice a5_ LL1.length c5_] 32) := ⟨_, rfl⟩
    have ga : w5.grownBy W5 none := by rw [hW5]; exact World.grownBy_alloc w5 _ none
    have G5 := sl.hide (sl.grown_trans (r := none) (sl.grown_trans (r := none) (sl.unhide G4) g5) ga)
    have F5 := sl.hide (((sl.unhide F4).kept g5).kept ga)
    have C5 := sl.hide (((sl.unhide C4).kept g5).kept ga)
    have X5 := sl.hide (o5.kept ga)
    have V5 : Hid (cf.Box 32 W5 w5.heap.size (.int .i64 n1) (.slice a5_ LL1.length c5_)) := by rw [hW5]; exact cf.Box.new 32 w5 _ _
    clear g5 ga o5 G4 F4 C4
    go_upto_region 12 with fail
    rw [← hW5]
    clear hW5
    have CK : Hid (∀ w', W5.grownBy w' none → (w'.cell? ⟨w5.heap.size, 0, none⟩ = some (.int .i64 n1) ∧ w'.cell? ⟨w5.heap.size, 1, none⟩ = some (.slice a5_ LL1.length c5_)) ∧ w'.cell? ⟨w.heap.size + 1, 0, none⟩ = some (.string d2) ∧ w'.cell? ⟨w.heap.size + 1, 1, none⟩ = some (.bool sat2) ∧ w'.cell? ⟨w.heap.size + 1, 2, none⟩ = some (.string b2) ∧ w'.cell? ⟨w.heap.size + 1, 3, none⟩ = some (.string m2)) := fun w' g => ⟨⟨((sl.unhide V5).kept g).c0, ((sl.unhide V5).kept g).c1⟩, ((sl.unhide C5).kept g).c0, ((sl.unhide C5).kept g).c1, ((sl.unhide C5).kept g).c2, ((sl.unhide C5).kept g).c3⟩
    have CV := sl.hide (fun w1 (g : W5.grownBy w1 none) => sl.unhide CI (.slice a5_ LL1.length c5_) w1 (by obtain ⟨b1, b2', b3, b4, hE⟩ := sl.unhide TT; exact ⟨b1, b2', b3, b4, hE.kept (sl.grown_trans (r := none) (sl.unhide G5) g)⟩) ((sl.unhide X5).kept g).sls)
    go_cut [10] (fun q wx => q = .int .i64 k ∧ Hid (W5.grownBy wx none))
    case first =>
      have GX := sl.hide (cf.grown_drew W5 none)
      obtain ⟨⟨j0, j1⟩, k0, k1, k2, k3⟩ := sl.unhide CK _ (sl.grown_refl _)
      go_region_held3 (fun w' => (w'.cell? ⟨w5.heap.size, 0, none⟩ = some (.int .i64 n1) ∧ w'.cell? ⟨w5.heap.size, 1, none⟩ = some (.slice a5_ LL1.length c5_)) ∧ w'.cell? ⟨w.heap.size + 1, 0, none⟩ = some (.string d2) ∧ w'.cell? ⟨w.heap.size + 1, 1, none⟩ = some (.bool sat2) ∧ w'.cell? ⟨w.heap.size + 1, 2, none⟩ = some (.string b2) ∧ w'.cell? ⟨w.heap.size + 1, 3, none⟩ = some (.string m2)) (go_keep) (first
        | (go_at_call 32; refine (sl.unhide TQ _).mono ?_; rintro e w8 ⟨rfl, g8⟩; replace GX := sl.hide (sl.grown_trans (r := none) (sl.unhide GX) g8); obtain ⟨⟨j0, j1⟩, k0, k1, k2, k3⟩ := sl.unhide CK _ (sl.unhide GX); clear g8)
        | (go_at_call 19; refine (sl.unhide CV _ (sl.unhide GX)).mono ?_; rintro e w9 ⟨rfl, g9⟩; replace GX := sl.hide (sl.grown_trans (r := none) (sl.unhide GX) g9); obtain ⟨⟨j0, j1⟩, k0, k1, k2, k3⟩ := sl.unhide CK _ (sl.unhide GX); clear g9))
      all_goals (go_wp2_with fail; go_meet; exact ⟨rfl, GX⟩)
    case rest =>
      obtain ⟨rfl, hg⟩ := hcut
      have G7 := sl.hide (sl.grown_trans (r := none) (sl.unhide G5) (sl.unhide hg))
      have F7 := sl.hide ((sl.unhide F5).kept (sl.unhide hg))
      have X7 := sl.hide ((sl.unhide X5).kept (sl.unhide hg))
      have V7 := sl.hide ((sl.unhide V5).kept (sl.unhide hg))
      clear hg G5 F5 C5 X5 V5 CK CV CI TQ
      go_upto_region 15 with fail
      go_cut [44] (fun q wx => q = .bool false ∧ Hid (wc.grownBy wx none))
      case first =>
        have T5 := sl.hide (cf.toCnf v1 n1 LL1 wc.drew hn0 (((sl.unhide S0).kept (sl.unhide G7)).kept (cf.grown_drew wc none)))
        have E5 := sl.hide (fun u6 wA (g6 : wc.drew.grownBy wA none) (o6 : css.OwnS wc.drew.heap.size wA.heap.size wA u6 LL1) => cf.eqCnf _ u6 n1 LL1 wA hn0 ((sl.unhide X7).kept (sl.grown_trans (r := none) (cf.grown_drew wc none) g6)).sls o6.sls)
        have X5' := sl.hide (fun wA (g6 : wc.drew.grownBy wA none) => (sl.unhide V7).kept (sl.grown_trans (r := none) (cf.grown_drew wc none) g6))
        have G5 := sl.hide (fun wA wB (g6 : wc.drew.grownBy wA none) (g7 : wA.grownBy wB none) => sl.grown_trans (r := none) (sl.grown_trans (r := none) (cf.grown_drew wc none) g6) g7)
        have x0 := (sl.unhide F7).c0
        have x1 := (sl.unhide F7).c1
        have y0 := (sl.unhide V7).c0
        have y1 := (sl.unhide V7).c1
        clear X7 F7 V7 G7
        go_region_with (first
          | (go_at_call 28; refine (sl.unhide T5).mono ?_; rintro e wA ⟨u6, rfl, o6, g6⟩; have z0 := (sl.unhide X5' wA g6).c0; have z1 := (sl.unhide X5' wA g6).c1; have E6 := sl.hide (sl.unhide E5 u6 wA g6 o6); have G6 := sl.hide (fun wB => sl.unhide G5 wA wB g6); clear g6 o6)
          | (go_at_call 30; refine (sl.unhide E6).mono ?_; rintro e wB ⟨rfl, g7⟩; have G7 := sl.hide (sl.unhide G6 wB g7); clear g7))
        all_goals (go_wp2_with fail; go_meet; exact ⟨rfl, G7⟩)
      case rest =>
        obtain ⟨rfl, hg⟩ := hcut
        have G8 := sl.hide (sl.grown_trans (r := none) (sl.unhide G7) (sl.unhide hg))
        clear hg X7 F7 V7 G7
        go_wp2_with fail
        go_ret
        exact ⟨rfl, sl.below_of (sl.unhide G8)⟩

/-! ### the row's step (the guide's own frame) -/
set_option maxRecDepth 100000 in
theorem contract (H : Type) (enc : TypeId × Value → H) (W : World) (base : Nat) (args : Array Value) (ds gs : List (DataW H)) (before : List MemPlace)
    (hval : ∀ (j : Nat) t v, Tryz.f7.params[j]? = some t → args[j]? = some v → Value.okWide Tryz.prog W .any base t v)
    (hW : DataW.Whole enc Tryz.prog Tryz.f7.params.toList Rows.fnExactVerifySpec.vars false W args.toList ds gs before) (hL : laidMetH Tryz.prog Rows.fnExactVerifyRow.laid W) (hSh : W.ShapedOpen Tryz.prog) :
    Calls Tryz.prog 7 args W fun e W' => ∃ v, e = .returned v ∧ Rows.fnExactVerifySpec.post enc Tryz.prog Tryz.f7 false true false false W args v W' := by
  have hW' := hW
  obtain ⟨p, q, hA0, hV, rfl, hfz, hnd⟩ := hW
  have hA : DataW.TrodAll enc Tryz.prog W 0 (fun _ => true) true Tryz.f7.params.toList args.toList ds p := hA0
  rw [Tryz.params7] at hA hval
  obtain ⟨x0, vs0, d0, ds0, p0, q0, hargs, rfl, rfl, h0, r0⟩ := trodAll_cons hA
  obtain ⟨x1, vs1, d1, ds1, p1, q1, rfl, rfl, rfl, h1, r1⟩ := trodAll_cons r0
  obtain ⟨x2, vs2, d2, ds2, p2, q2, rfl, rfl, rfl, h2, r2⟩ := trodAll_cons r1
  obtain ⟨rfl, rfl, rfl⟩ := trodAll_nil r2
  obtain rfl : args = #[x0, x1, x2] := by cases args; simp_all
  obtain ⟨g0, g1, g2, g3, g4, g5, rfl⟩ := vars6 hV
  have k0 := h0
  have lt0 : ∀ x ∈ p0, x.block < W.heap.size := by obtain ⟨m, hm⟩ := k0; exact DataW.trod_lt m _ _ _ hm
  obtain ⟨a0, rfl, rfl, rfl, w0⟩ := open_string Tryz.underlying9 (hval 0 9 _ rfl rfl) h0
  obtain ⟨cs1, rfl, _⟩ := okWide_struct Tryz.underlying48 (hval 1 48 _ rfl rfl)
  have k1 := h1
  have lt1 : ∀ x ∈ p1, x.block < W.heap.size := by obtain ⟨m, hm⟩ := k1; exact DataW.trod_lt m _ _ _ hm
  obtain ⟨n1, v1, LL1, e1, f1, w1⟩ : ∃ n v LL, cs1 = #[.int .i64 n, v] ∧ (Lit.int .i64 n).wf = true ∧ row.IsRows W v LL := by
    obtain ⟨fuel, hf⟩ := h1
    obtain ⟨n, v, LL, e, hw, hv⟩ := row.open_cnf hf
    refine ⟨n, v, LL, ?_, hw, hv⟩
    cases cs1
    simpa [Value.cells] using e
  subst e1
  obtain ⟨cs2, rfl, _⟩ := okWide_struct Tryz.underlying54 (hval 2 54 _ rfl rfl)
  have k2 := h2
  have lt2 : ∀ x ∈ p2, x.block < W.heap.size := by obtain ⟨m, hm⟩ := k2; exact DataW.trod_lt m _ _ _ hm
  obtain ⟨d2, sat2, b2, m2, e2, wd2, wb2, wm2⟩ : ∃ (d : ByteArray) (sat : Bool) (b m : ByteArray), cs2 = #[.string d, .bool sat, .string b, .string m] ∧ d.size ≤ maxLen ∧ b.size ≤ maxLen ∧ m.size ≤ maxLen := by
    obtain ⟨fuel, hf⟩ := h2
    obtain ⟨d, sat, b, m, e, h1, h2, h3⟩ := yr.open_cert hf
    refine ⟨d, sat, b, m, ?_, h1, h2, h3⟩
    cases cs2
    simpa [Value.cells] using e
  subst e2
  clear hA0
  refine (walk a0 n1 v1 LL1 d2 sat2 b2 m2 W w0 f1 w1 wd2 wb2 wm2 (table hL hSh)).mono fun e W' ⟨he, bel⟩ => ?_
  subst he
  exact ⟨_, rfl, _, _, _, [], _, _, hW', trodAll_mk1 (shut_bool Tryz.underlying4 _), (trodAll_cons_mk (Below.trod laidOut (by kernel_rfl) (of_decide_eq_true (by kernel_rfl)) k0 bel lt0) (trodAll_cons_mk (Below.trod laidOut (by kernel_rfl) (of_decide_eq_true (by kernel_rfl)) k1 bel lt1) (trodAll_cons_mk (Below.trod laidOut (by kernel_rfl) (of_decide_eq_true (by kernel_rfl)) k2 bel lt2) trodAll_mk0))), Below.trodVars laidOutV bel (by kernel_rfl) hV, bel.frame _, fun h => by cases h⟩

set_option maxRecDepth 100000 in
theorem lifted (os : Os) (started : os.Started) (H : Type) (enc : TypeId × Value → H) (F : Stop.Interp) :
    ReturnsInHanded {} Tryz.checked os 7 .any ((OpenSpec.ofChange Rows.fnExactVerifySpec).preRow enc Tryz.prog Tryz.f7 Rows.fnExactVerifyRow.domain false Rows.fnExactVerifyRow.laid) (((OpenSpec.ofChange Rows.fnExactVerifySpec).at F).post enc Tryz.prog Tryz.f7 false true false false) := by
  refine returnsInHanded_of_row (C := Tryz.checked) (s := OpenSpec.ofChange Rows.fnExactVerifySpec) own started (by kernel_rfl) Tryz.func7
    (witness_row_at (enc := enc) (C := Tryz.checked) false ({ (World.holding Tryz.prog os ⟨#[.cells #[.string ⟨#[118, 97, 108, 117, 101, 32, 111, 117, 116, 32, 111, 102, 32, 114, 97, 110, 103, 101]⟩] 273, .cells #[.string ⟨#[105, 110, 118, 97, 108, 105, 100, 32, 115, 121, 110, 116, 97, 120]⟩] 273, .cells #[.string ⟨#[116, 104, 101, 32, 109, 97, 114, 107, 32, 105, 115, 32, 110, 111, 116, 32, 116, 104, 97, 116, 32, 111, 102, 32, 116, 104, 101, 32, 107, 101, 121, 32, 97, 110, 100, 32, 119, 104, 97, 116, 32, 105, 115, 32, 115, 105, 103, 110, 101, 100]⟩] 273, .cells #[.string ⟨#[116, 104, 101, 32, 99, 101, 114, 116, 105, 102, 105, 99, 97, 116, 101, 32, 105, 115, 32, 111, 102, 32, 97, 110, 111, 116, 104, 101, 114, 32, 102, 111, 114, 109, 117, 108, 97]⟩] 273, .cells #[.string ⟨#[116, 104, 101, 32, 98, 111, 100, 121, 32, 116, 101, 108, 108, 115, 32, 110, 111, 32, 97, 110, 115, 119, 101, 114]⟩] 273, .cells #[.string ⟨#[116, 104, 101, 32, 97, 110, 115, 119, 101, 114, 32, 100, 111, 101, 115, 32, 110, 111, 116, 32, 104, 111, 108, 100]⟩] 273], #[], []⟩) with heap := ((((((((((((World.holding Tryz.prog os ⟨#[.cells #[.string ⟨#[118, 97, 108, 117, 101, 32, 111, 117, 116, 32, 111, 102, 32, 114, 97, 110, 103, 101]⟩] 273, .cells #[.string ⟨#[105, 110, 118, 97, 108, 105, 100, 32, 115, 121, 110, 116, 97, 120]⟩] 273, .cells #[.string ⟨#[116, 104, 101, 32, 109, 97, 114, 107, 32, 105, 115, 32, 110, 111, 116, 32, 116, 104, 97, 116, 32, 111, 102, 32, 116, 104, 101, 32, 107, 101, 121, 32, 97, 110, 100, 32, 119, 104, 97, 116, 32, 105, 115, 32, 115, 105, 103, 110, 101, 100]⟩] 273, .cells #[.string ⟨#[116, 104, 101, 32, 99, 101, 114, 116, 105, 102, 105, 99, 97, 116, 101, 32, 105, 115, 32, 111, 102, 32, 97, 110, 111, 116, 104, 101, 114, 32, 102, 111, 114, 109, 117, 108, 97]⟩] 273, .cells #[.string ⟨#[116, 104, 101, 32, 98, 111, 100, 121, 32, 116, 101, 108, 108, 115, 32, 110, 111, 32, 97, 110, 115, 119, 101, 114]⟩] 273, .cells #[.string ⟨#[116, 104, 101, 32, 97, 110, 115, 119, 101, 114, 32, 100, 111, 101, 115, 32, 110, 111, 116, 32, 104, 111, 108, 100]⟩] 273], #[], []⟩).heap.modify 11 fun | .cells _ t frozen => .cells (Lib.deBruijn32tab.map fun (n : Nat) => Value.int .u8 n).toArray t frozen | o => o).modify 9 fun | .cells _ t frozen => .cells (Lib.deBruijn64tab.map fun (n : Nat) => Value.int .u8 n).toArray t frozen | o => o).modify 10 fun | .cells _ t frozen => .cells (Lib.pow10Tab.map fun n => Value.int .u64 n).toArray t frozen | o => o).modify 8 fun | .cells _ t frozen => .cells #[.iface 271 (.pointer (some ⟨(World.holding Tryz.prog default ⟨#[], #[], []⟩).heap.size, 0, none⟩))] t frozen | o => o).modify 7 fun | .cells _ t frozen => .cells #[.iface 271 (.pointer (some ⟨(World.holding Tryz.prog default ⟨#[], #[], []⟩).heap.size + 1, 0, none⟩))] t frozen | o => o).modify 0 fun | .cells _ t frozen => .cells #[.iface 271 (.pointer (some ⟨(World.holding Tryz.prog default ⟨#[], #[], []⟩).heap.size + 2, 0, none⟩))] t frozen | o => o).modify 1 fun | .cells _ t frozen => .cells #[.iface 271 (.pointer (some ⟨(World.holding Tryz.prog default ⟨#[], #[], []⟩).heap.size + 3, 0, none⟩))] t frozen | o => o).modify 2 fun | .cells _ t frozen => .cells #[.iface 271 (.pointer (some ⟨(World.holding Tryz.prog default ⟨#[], #[], []⟩).heap.size + 4, 0, none⟩))] t frozen | o => o).modify 3 fun | .cells _ t frozen => .cells #[.iface 271 (.pointer (some ⟨(World.holding Tryz.prog default ⟨#[], #[], []⟩).heap.size + 5, 0, none⟩))] t frozen | o => o).modify 6 fun | .cells _ t frozen => .cells (zk.kL.map fun n => Value.int .u32 n).toArray t frozen | o => o).modify 4 fun | .cells _ t frozen => .cells (zk.sL.map fun n => Value.int .u32 n).toArray t frozen | o => o) } : World) #[.string ByteArray.empty, .agg #[.int .i64 0, .slice none 0 0], .agg #[.string ByteArray.empty, .bool false, .string ByteArray.empty, .string ByteArray.empty]] rfl (by kernel_rfl) (by kernel_rfl) (by kernel_rfl)
      (OpenSpec.preRow_of_cond 8 (x := ([.lit (.string []), .agg [.lit (.int .i64 0), .nil], .agg [.lit (.string []), .lit (.bool false), .lit (.string []), .lit (.string [])]], [Rows.laid_loop_example_g00123_impl_sumStarts, Rows.laid_loop_example_g00123_impl_sumConsts, .held (enc (271, .pointer (some ⟨(World.holding Tryz.prog default ⟨#[], #[], []⟩).heap.size + 2, 0, none⟩))), .held (enc (271, .pointer (some ⟨(World.holding Tryz.prog default ⟨#[], #[], []⟩).heap.size + 3, 0, none⟩))), .held (enc (271, .pointer (some ⟨(World.holding Tryz.prog default ⟨#[], #[], []⟩).heap.size + 4, 0, none⟩))), .held (enc (271, .pointer (some ⟨(World.holding Tryz.prog default ⟨#[], #[], []⟩).heap.size + 5, 0, none⟩)))], MemPlace.row ⟨4, 0, none⟩ 8 ++ MemPlace.row ⟨6, 0, none⟩ 64 ++ MemPlace.row ⟨0, 0, none⟩ 1 ++ MemPlace.row ⟨1, 0, none⟩ 1 ++ MemPlace.row ⟨2, 0, none⟩ 1 ++ MemPlace.row ⟨3, 0, none⟩ 1)) (by kernel_rfl) (by kernel_rfl) (fun k hk => by cases hk) (by kernel_rfl) (laidMet_of_run' 8 (by kernel_rfl) (by kernel_rfl)))) ?_
  intro W base args ds gs before hval hW _ _ _ hL hSh _
  exact contract H enc W base args ds gs before hval hW hL hSh

theorem said : Rows.FnExactVerifySaid :=
  OpenClaim.holds_of_cond 7 Tryz.f7 rfl rfl rfl rfl rfl rfl rfl ⟨rfl, rfl, rfl, rfl, rfl⟩ rfl rfl rfl rfl rfl (by kernel_rfl) Tryz.func7 (by kernel_rfl)
    (of_decide_eq_true (by kernel_rfl)) (by unfold Func.isWrapper; first | (rw [if_pos (by decide +kernel)]; kernel_rfl) | (rw [if_neg (by decide +kernel)]; exact ⟨rfl, rfl⟩))
    (fun os started H enc _ F => by rw [OpenClaim.pre_eq_preRow]; exact lifted os started H enc F)

theorem plain (f : FuncId) (fn : Func) (hf : Tryz.pinned.checked.prog.funcNamed "loop.example/g00123/laws.FnExactVerify" = some f) (hfn : Tryz.pinned.checked.prog.funcs[f]? = some fn) :
    true = Tryz.pinned.checked.prog.looks [] ∧ ∀ (j : Nat) t, fn.params[j]? = some t → Tryz.pinned.checked.prog.wantsStandIn t = false := by
  obtain rfl : f = 7 := Option.some.inj ((show Tryz.prog.funcNamed "loop.example/g00123/laws.FnExactVerify" = some 7 by kernel_rfl).symm.trans hf) |>.symm
  obtain rfl : fn = Tryz.f7 := (Option.some.inj (Tryz.func7.symm.trans hfn)).symm
  refine ⟨by kernel_rfl, fun j t ht => ?_⟩
  rw [Tryz.params7] at ht
  have hm := Array.mem_of_getElem? ht
  simp only [List.mem_toArray, List.mem_cons, List.not_mem_nil, or_false] at hm
  rcases hm with rfl | rfl | rfl
  · exact (show Tryz.prog.wantsStandIn 9 = false by kernel_rfl)
  · exact (show Tryz.prog.wantsStandIn 48 = false by kernel_rfl)
  · exact (show Tryz.prog.wantsStandIn 54 = false by kernel_rfl)

/-- the statement: the row's tied card -/
theorem proved : Rows.FnExactVerifyCardSaid :=
  Claim7.holds_tied_plain_at .later [] _ _ _ _ said (fun _ h => by cases h) (by kernel_rfl) (fun _ h => by cases h) fnExactVerify_row_tie rfl ⟨rfl, rfl⟩ (by kernel_rfl) rfl plain (by kernel_rfl)
#print axioms proved
end Go.Proofs.YtcgiphcfjhbonaaGreatDoor.fnExactVerify
