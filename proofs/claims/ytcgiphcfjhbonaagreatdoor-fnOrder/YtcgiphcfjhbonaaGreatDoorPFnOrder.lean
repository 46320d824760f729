/- At every code the law FnOrder returns true: a formula that is drawn and the same formula with its clauses and their literals the other way round have one digest, of 32 bytes, as the model tells; it has a certificate, which verifies for it, and for the other where it tells an answer; no condition. -/
import Derived.Test.YtcgiphcfjhbonaaGreatDoorCards
import Derived.Test.YtcgiphcfjhbonaaGreatDoorTie
import Derived.OpenVars
import Derived.Test.YtcgiphcfjhbonaaGreatDoorJOe
import Derived.Test.YtcgiphcfjhbonaaGreatDoorJOd
import Derived.Test.YtcgiphcfjhbonaaGreatDoorJXYy
import Derived.WalkKit
import Derived.ProofKit
import Derived.OpenShut
import Derived.ShutString
import Derived.ChangeOld
import Derived.Below
import Derived.Deep.DeepHandedRow
import Derived.Lib.LaidTab
import Derived.Lib.TrailingZeros
import Derived.Stop.LaidErr
import Derived.Stop.LaidTwo
import Derived.LaidHandle
import Derived.LaidSub
namespace Go.Proofs.YtcgiphcfjhbonaaGreatDoor.fnOrder
open Go.ChangeShapes Go.WideShapes Go.ChangeAt Go.RowKit
open Go.ChangeMaps (open_string shut_string)
set_option linter.unusedVariables false

theorem own : ownKnob Tryz.prog.godebug = none := by kernel_rfl
theorem laidOut : laidOutB Tryz.prog = true := by kernel_rfl

/-- what the walk is told of a slice of integers that came in -/
def IsRow (k : IntKind) (w : World) (a : Option Addr) (len cap : Nat) (zs : List Int) : Prop :=
  (a = none ∧ len = 0 ∧ cap = 0 ∧ zs = []) ∨
  ∃ x, a = some x ∧ len ≤ cap ∧ cap ≤ maxLen ∧ zs.length = cap ∧ (∀ i, i < zs.length → w.cell? (x.add i) = some (.int k (zs.getD i 0))) ∧ ∀ n ∈ zs, (Lit.int k n).wf = true

theorem laidOutV : laidOutB Tryz.prog = true := by kernel_rfl
theorem vars1 {H : Type} {enc : TypeId × Value → H} {P : Program} {w : World} {sp : Nat → Bool} {n : String} {gs : List (DataW H)} {ps : List MemPlace} (h : DataW.TrodVars enc P w sp [n] gs ps) : ∃ g, gs = [g] := by
  cases gs with
  | nil => exact h.elim
  | cons g t =>
    obtain ⟨_, _, _, _, _, _, _, _, _, _, hs, _⟩ := h
    cases t with
    | nil => exact ⟨g, rfl⟩
    | cons _ _ => exact hs.elim
theorem vars2 {H : Type} {enc : TypeId × Value → H} {P : Program} {w : World} {sp : Nat → Bool} {n m : String} {gs : List (DataW H)} {ps : List MemPlace} (h : DataW.TrodVars enc P w sp [n, m] gs ps) : ∃ g k, gs = [g, k] := by
  cases gs with
  | nil => exact h.elim
  | cons g t =>
    obtain ⟨_, _, _, _, _, _, _, _, _, _, hs, _⟩ := h
    obtain ⟨k, rfl⟩ := vars1 hs
    exact ⟨g, k, rfl⟩
theorem vars6 {H : Type} {enc : TypeId × Value → H} {P : Program} {w : World} {sp : Nat → Bool} {n0 n1 n2 n3 n4 n5 : String} {gs : List (DataW H)} {ps : List MemPlace} (h : DataW.TrodVars enc P w sp [n0, n1, n2, n3, n4, n5] gs ps) : ∃ g0 g1 g2 g3 g4 g5, gs = [g0, g1, g2, g3, g4, g5] := by
  cases gs with
  | nil => exact h.elim
  | cons g0 t =>
    obtain ⟨_, _, _, _, _, _, _, _, _, _, h1, _⟩ := h
    cases t with
    | nil => exact h1.elim
    | cons g1 t =>
      obtain ⟨_, _, _, _, _, _, _, _, _, _, h2, _⟩ := h1
      cases t with
      | nil => exact h2.elim
      | cons g2 t =>
        obtain ⟨_, _, _, _, _, _, _, _, _, _, h3, _⟩ := h2
        cases t with
        | nil => exact h3.elim
        | cons g3 t =>
          obtain ⟨_, _, _, _, _, _, _, _, _, _, h4, _⟩ := h3
          obtain ⟨g4, g5, rfl⟩ := vars2 h4
          exact ⟨g0, g1, g2, g3, g4, g5, rfl⟩
theorem gTab : Tryz.prog.globalNamed "math/bits.deBruijn64tab" = some 9 := by kernel_rfl
theorem gTabType : (Tryz.prog.globals[9]?).map (·.type) = some 172 := by kernel_rfl
theorem cellsTab : Tryz.prog.cellsOf 172 = 64 := by kernel_rfl
theorem cellsByte : Tryz.prog.cellsOf 5 = 1 := by kernel_rfl
theorem gPowType : (Tryz.prog.globals[10]?).map (·.type) = some 266 := by kernel_rfl
theorem cellsPow : Tryz.prog.cellsOf 266 = 20 := by kernel_rfl
theorem cellsU64 : Tryz.prog.cellsOf 156 = 1 := by kernel_rfl
theorem powData : (Rows.laid_internal_strconv_uint64pow10 : DataW Unit) = Lib.tabData .u64 Lib.pow10Tab := by kernel_rfl
theorem tabData64 : (Rows.laid_math_bits_deBruijn64tab : DataW Unit) = Lib.tabData .u8 (Lib.deBruijn64tab.map fun (n : Nat) => (n : Int)) := by kernel_rfl
theorem gK : Tryz.prog.globalNamed "loop.example/g00123/impl.sumConsts" = some 6 := by kernel_rfl
theorem tyK : (Tryz.prog.globals[6]?).map (·.type) = some 223 := by kernel_rfl
theorem cellsK : Tryz.prog.cellsOf 223 = 64 := by kernel_rfl
theorem dataK : (Rows.laid_loop_example_g00123_impl_sumConsts : DataW Unit) = Lib.tabData .u32 zk.kL := by kernel_rfl
theorem gS : Tryz.prog.globalNamed "loop.example/g00123/impl.sumStarts" = some 4 := by kernel_rfl
theorem tyS : (Tryz.prog.globals[4]?).map (·.type) = some 152 := by kernel_rfl
theorem cellsS : Tryz.prog.cellsOf 152 = 8 := by kernel_rfl
theorem dataS : (Rows.laid_loop_example_g00123_impl_sumStarts : DataW Unit) = Lib.tabData .u32 zk.sL := by kernel_rfl
theorem cellsW : Tryz.prog.cellsOf 151 = 1 := by kernel_rfl
theorem laid_tail {P : Program} {W : World} {x : String × DataW Unit} {rest : List (String × DataW Unit)} (h : laidMet P (x :: rest) W) : laidMet P rest W := by
  obtain ⟨ps, hv, hn, hc⟩ := h
  obtain ⟨n, d⟩ := x
  obtain ⟨g, t, cs, fuel, p, q, _, _, _, _, hr, rfl⟩ := hv
  exact ⟨q, hr, (List.nodup_append.1 hn).2.1, fun b off hm => hc b off (List.mem_append_right _ hm)⟩
theorem star : "*" ++ "errors.errorString" = "*errors.errorString" := by decide
theorem rowErr (u : TypeId) (h : Tryz.prog.typeName? 3 u = some "*errors.errorString") : u = 271 :=
  typeName_ptr_named (nm := "errors.errorString") (by rw [star]; kernel_rfl) (by kernel_rfl) (by decide) u (by rw [star]; exact h)
theorem gSyntType : (Tryz.prog.globals[7]?).map (·.type) = some 68 := by kernel_rfl
theorem gRangType : (Tryz.prog.globals[8]?).map (·.type) = some 68 := by kernel_rfl
theorem cellsErr : Tryz.prog.cellsOf 273 = 1 := by kernel_rfl
theorem cellsStr : Tryz.prog.cellsOf 9 = 1 := by kernel_rfl
theorem var_lt {W : World} {n : String} {g : Nat} {cs : Array Value} (hg : Tryz.prog.globalNamed n = some g) (hv : W.var? Tryz.prog n = some cs) : g < W.heap.size := by
  unfold World.var? at hv
  rw [hg] at hv
  rcases Nat.lt_or_ge g W.heap.size with h' | h'
  · exact h'
  · simp [Array.getElem?_eq_none h'] at hv
theorem g_errMark : Tryz.prog.globalNamed "loop.example/g00123/impl.errMark" = some 0 := by kernel_rfl
theorem ty_errMark : (Tryz.prog.globals[0]?).map (·.type) = some 68 := by kernel_rfl
theorem g_errOther : Tryz.prog.globalNamed "loop.example/g00123/impl.errOther" = some 1 := by kernel_rfl
theorem ty_errOther : (Tryz.prog.globals[1]?).map (·.type) = some 68 := by kernel_rfl
theorem g_errBody : Tryz.prog.globalNamed "loop.example/g00123/impl.errBody" = some 2 := by kernel_rfl
theorem ty_errBody : (Tryz.prog.globals[2]?).map (·.type) = some 68 := by kernel_rfl
theorem g_errWrong : Tryz.prog.globalNamed "loop.example/g00123/impl.errWrong" = some 3 := by kernel_rfl
theorem ty_errWrong : (Tryz.prog.globals[3]?).map (·.type) = some 68 := by kernel_rfl
theorem laid_skip {P : Program} {W : World} {x y : String × DataW Unit} {rest : List (String × DataW Unit)} (h : laidMet P (x :: y :: rest) W) : laidMet P (x :: rest) W := by
  obtain ⟨ps, hv, hn, hc⟩ := h
  obtain ⟨n, d⟩ := x
  obtain ⟨n1, d1⟩ := y
  obtain ⟨g, t, cs, fuel, p, q, a, b, c, d', hr, rfl⟩ := hv
  obtain ⟨g1, t1, cs1, fuel1, p1, q1, _, _, _, _, hr1, rfl⟩ := hr
  exact ⟨_, ⟨g, t, cs, fuel, p, q1, a, b, c, d', hr1, rfl⟩, hn.sublist (List.Sublist.append (List.Sublist.refl _) (List.sublist_append_right _ _)), fun b' off hm => hc b' off (by
    rcases List.mem_append.1 hm with q | q
    · exact List.mem_append_left _ q
    · exact List.mem_append_right _ (List.mem_append_right _ q))⟩
theorem same_ptr {W : World} {n : String} {t : TypeId} {a b : Addr} (h : W.var? Tryz.prog n = some #[.iface t (.pointer (some a))]) (k : W.var? Tryz.prog n = some #[.iface t (.pointer (some b))]) : a = b := by
  rw [h] at k
  simpa using k
theorem cell_of {W : World} {n : String} {g : Nat} {x : Value} (hg : Tryz.prog.globalNamed n = some g) (h : W.var? Tryz.prog n = some #[x]) : W.cell? ⟨g, 0, none⟩ = some x := by simpa using World.var?_cell hg h 0
/-- what the row's list, and the world's shape, give -/
theorem table {W : World} (h : laidMetH Tryz.prog Rows.fnOrderRow.laid W) (hSh : W.ShapedOpen Tryz.prog) : ∃ a1 a2 a3 a4, yo.Env W a1 a2 a3 a4 := by
  have h0 : laidMet Tryz.prog [("math/bits.deBruijn32tab", Rows.laid_math_bits_deBruijn32tab), ("math/bits.deBruijn64tab", Rows.laid_math_bits_deBruijn64tab), ("internal/strconv.uint64pow10", Rows.laid_internal_strconv_uint64pow10), ("strconv.ErrRange", Rows.laid_strconv_ErrRange), ("strconv.ErrSyntax", Rows.laid_strconv_ErrSyntax), ("loop.example/g00123/impl.sumConsts", Rows.laid_loop_example_g00123_impl_sumConsts), ("loop.example/g00123/impl.sumStarts", Rows.laid_loop_example_g00123_impl_sumStarts), ("loop.example/g00123/impl.errMark", Rows.laid_loop_example_g00123_impl_errMark), ("loop.example/g00123/impl.errOther", Rows.laid_loop_example_g00123_impl_errOther), ("loop.example/g00123/impl.errBody", Rows.laid_loop_example_g00123_impl_errBody), ("loop.example/g00123/impl.errWrong", Rows.laid_loop_example_g00123_impl_errWrong)] W := h
  have h1 := laid_tail h0
  have h2 := laid_tail h1
  have h3 := laid_tail h2
  have h4 := laid_tail h3
  have h5 := laid_tail h4
  have h6 := laid_tail h5
  have h7 := laid_tail h6
  have h8 := laid_tail h7
  have h9 := laid_tail h8
  have h10 := laid_tail h9
  have tT : srt.Tab W := by
    have hh : laidMet Tryz.prog (("math/bits.deBruijn64tab", Lib.tabData .u8 (Lib.deBruijn64tab.map fun (n : Nat) => (n : Int))) :: [("internal/strconv.uint64pow10", Rows.laid_internal_strconv_uint64pow10), ("strconv.ErrRange", Rows.laid_strconv_ErrRange), ("strconv.ErrSyntax", Rows.laid_strconv_ErrSyntax), ("loop.example/g00123/impl.sumConsts", Rows.laid_loop_example_g00123_impl_sumConsts), ("loop.example/g00123/impl.sumStarts", Rows.laid_loop_example_g00123_impl_sumStarts), ("loop.example/g00123/impl.errMark", Rows.laid_loop_example_g00123_impl_errMark), ("loop.example/g00123/impl.errOther", Rows.laid_loop_example_g00123_impl_errOther), ("loop.example/g00123/impl.errBody", Rows.laid_loop_example_g00123_impl_errBody), ("loop.example/g00123/impl.errWrong", Rows.laid_loop_example_g00123_impl_errWrong)]) W := by
      rw [← tabData64]
      exact h1
    have t : Lib.TabIs Tryz.prog W "math/bits.deBruijn64tab" .u8 (Lib.deBruijn64tab.map fun (n : Nat) => (n : Int)) :=
      Lib.tabIs_of_head gTab gTabType Tryz.underlying172 Tryz.underlying5 cellsByte cellsTab hh
    intro j hj
    have c := t.cell gTab j (by rw [List.length_map]; exact hj)
    rw [c]
    congr 2
    rw [List.getD, List.getD, List.getElem?_map]
    cases Lib.deBruijn64tab[j]? <;> rfl
  have t : Lib.TabIs Tryz.prog W "internal/strconv.uint64pow10" .u64 Lib.pow10Tab := by
    have hh : laidMet Tryz.prog (("internal/strconv.uint64pow10", Lib.tabData .u64 Lib.pow10Tab) :: [("strconv.ErrRange", Rows.laid_strconv_ErrRange), ("strconv.ErrSyntax", Rows.laid_strconv_ErrSyntax), ("loop.example/g00123/impl.sumConsts", Rows.laid_loop_example_g00123_impl_sumConsts), ("loop.example/g00123/impl.sumStarts", Rows.laid_loop_example_g00123_impl_sumStarts), ("loop.example/g00123/impl.errMark", Rows.laid_loop_example_g00123_impl_errMark), ("loop.example/g00123/impl.errOther", Rows.laid_loop_example_g00123_impl_errOther), ("loop.example/g00123/impl.errBody", Rows.laid_loop_example_g00123_impl_errBody), ("loop.example/g00123/impl.errWrong", Rows.laid_loop_example_g00123_impl_errWrong)]) W := by
      rw [← powData]
      exact h2
    exact Lib.tabIs_of_head txt.gPow gPowType Tryz.underlying266 Tryz.underlying156 cellsU64 cellsPow hh
  obtain ⟨_, _, hv1, _, _, _⟩ := laid_sentinel h3 rd.gRang gRangType Tryz.underlying68 rowErr Tryz.underlying271 Tryz.underlying273 rfl rfl Tryz.underlying9 cellsErr cellsStr
  obtain ⟨_, _, hv2, _, _, _⟩ := laid_sentinel h4 rd.gSynt gSyntType Tryz.underlying68 rowErr Tryz.underlying271 Tryz.underlying273 rfl rfl Tryz.underlying9 cellsErr cellsStr
  have hM := Tryz.laysM145.s1_3 W hSh
  have hMl : 5 < W.heap.size := by obtain ⟨m, hm⟩ := hM; exact World.block_lt_of_cell? W _ hm
  have tK : zk.TabK W := by
    have hh : laidMet Tryz.prog (("loop.example/g00123/impl.sumConsts", Lib.tabData .u32 zk.kL) :: [("loop.example/g00123/impl.sumStarts", Rows.laid_loop_example_g00123_impl_sumStarts), ("loop.example/g00123/impl.errMark", Rows.laid_loop_example_g00123_impl_errMark), ("loop.example/g00123/impl.errOther", Rows.laid_loop_example_g00123_impl_errOther), ("loop.example/g00123/impl.errBody", Rows.laid_loop_example_g00123_impl_errBody), ("loop.example/g00123/impl.errWrong", Rows.laid_loop_example_g00123_impl_errWrong)]) W := by
      rw [← dataK]
      exact h5
    have t : Lib.TabIs Tryz.prog W "loop.example/g00123/impl.sumConsts" .u32 zk.kL :=
      Lib.tabIs_of_head gK tyK Tryz.underlying223 Tryz.underlying151 cellsW cellsK hh
    exact fun j hj => t.cell gK j hj
  have tS : zk.TabS W := by
    have hh : laidMet Tryz.prog (("loop.example/g00123/impl.sumStarts", Lib.tabData .u32 zk.sL) :: [("loop.example/g00123/impl.errMark", Rows.laid_loop_example_g00123_impl_errMark), ("loop.example/g00123/impl.errOther", Rows.laid_loop_example_g00123_impl_errOther), ("loop.example/g00123/impl.errBody", Rows.laid_loop_example_g00123_impl_errBody), ("loop.example/g00123/impl.errWrong", Rows.laid_loop_example_g00123_impl_errWrong)]) W := by
      rw [← dataS]
      exact h6
    have t : Lib.TabIs Tryz.prog W "loop.example/g00123/impl.sumStarts" .u32 zk.sL :=
      Lib.tabIs_of_head gS tyS Tryz.underlying152 Tryz.underlying151 cellsW cellsS hh
    exact fun j hj => t.cell gS j hj
  obtain ⟨x12, y12, _, _, c12, d12, s12, t12, u12, v12, _, _, _, _, _, _, n12, p12, q12⟩ := laid_sentinels2 h7 g_errMark ty_errMark g_errOther ty_errOther Tryz.underlying68 rowErr Tryz.underlying271 Tryz.underlying273 rfl rfl Tryz.underlying9 cellsErr cellsStr
  obtain ⟨x13, y13, _, _, c13, d13, s13, t13, u13, v13, _, _, _, _, _, _, n13, p13, q13⟩ := laid_sentinels2 (laid_skip h7) g_errMark ty_errMark g_errBody ty_errBody Tryz.underlying68 rowErr Tryz.underlying271 Tryz.underlying273 rfl rfl Tryz.underlying9 cellsErr cellsStr
  obtain ⟨x14, y14, _, _, c14, d14, s14, t14, u14, v14, _, _, _, _, _, _, n14, p14, q14⟩ := laid_sentinels2 (laid_skip (laid_skip h7)) g_errMark ty_errMark g_errWrong ty_errWrong Tryz.underlying68 rowErr Tryz.underlying271 Tryz.underlying273 rfl rfl Tryz.underlying9 cellsErr cellsStr
  obtain ⟨x23, y23, _, _, c23, d23, s23, t23, u23, v23, _, _, _, _, _, _, n23, p23, q23⟩ := laid_sentinels2 h8 g_errOther ty_errOther g_errBody ty_errBody Tryz.underlying68 rowErr Tryz.underlying271 Tryz.underlying273 rfl rfl Tryz.underlying9 cellsErr cellsStr
  obtain ⟨x24, y24, _, _, c24, d24, s24, t24, u24, v24, _, _, _, _, _, _, n24, p24, q24⟩ := laid_sentinels2 (laid_skip h8) g_errOther ty_errOther g_errWrong ty_errWrong Tryz.underlying68 rowErr Tryz.underlying271 Tryz.underlying273 rfl rfl Tryz.underlying9 cellsErr cellsStr
  obtain ⟨x34, y34, _, _, c34, d34, s34, t34, u34, v34, _, _, _, _, _, _, n34, p34, q34⟩ := laid_sentinels2 h9 g_errBody ty_errBody g_errWrong ty_errWrong Tryz.underlying68 rowErr Tryz.underlying271 Tryz.underlying273 rfl rfl Tryz.underlying9 cellsErr cellsStr
  obtain rfl := same_ptr u12 u13
  obtain rfl := same_ptr u12 u14
  obtain rfl := same_ptr v12 u23
  obtain rfl := same_ptr v12 u24
  obtain rfl := same_ptr v13 v23
  obtain rfl := same_ptr v13 u34
  obtain rfl := same_ptr v14 v24
  obtain rfl := same_ptr v14 v34
  exact ⟨_, _, _, _, tT, ⟨⟨World.block_lt_of_cell? W _ (t.cell txt.gPow 0 (by decide)), t⟩, ⟨var_lt rd.gRang hv1, var_lt rd.gSynt hv2, hMl⟩, ⟨_, _, hv2⟩, ⟨_, _, hv1⟩, hM⟩, tK, tS, cell_of g_errMark u12, cell_of g_errOther v12, cell_of g_errBody v13, cell_of g_errWrong v14, ⟨n12, ⟨_, _, p12⟩, _, _, q12⟩, ⟨n13, ⟨_, _, p13⟩, _, _, q13⟩, ⟨n14, ⟨_, _, p14⟩, _, _, q14⟩, ⟨n23, ⟨_, _, p23⟩, _, _, q23⟩, ⟨n24, ⟨_, _, p24⟩, _, _, q24⟩, ⟨n34, ⟨_, _, p34⟩, _, _, q34⟩⟩

/-! ### the walk -/
set_option maxRecDepth 100000 in
set_option maxHeartbeats 8000000 in
theorem walk (a0 : Option Addr) (len0 cap0 : Nat) (z0 : List Int) (w : World) (w0 : IsRow .u8 w a0 len0 cap0 z0) (hT : ∃ a1 a2 a3 a4, yo.Env w a1 a2 a3 a4) :
    Calls Tryz.prog 5 #[.slice a0 len0 cap0] w fun e w' => e = .returned (.bool true) ∧ Below w.heap.size w w' := by
  have hB := draw.of_rowB w0
  have hm : len0 ≤ 9223372036854775807 := by
    rcases w0 with ⟨_, h, _, _⟩ | ⟨_, _, h1, h2, _⟩
    · omega
    · unfold maxLen at h2
      omega
  clear w0
  by_cases hbig : 1048576 < len0
  · have C := sl.hide (draw.big a0 len0 cap0 w hm)
    rw [decide_eq_true hbig] at C
    clear hT
    go_enter Tryz.func5, Tryz.ntmps5
    go_wp2_with fail
    refine (sl.unhide C).mono ?_; rintro e w' ⟨rfl, rfl⟩
    go_wp2_with fail
    go_ret
    exact ⟨rfl, Below.refl _ _⟩
  have C := sl.hide (draw.big a0 len0 cap0 w hm)
  rw [decide_eq_false hbig] at C
  have HB := sl.hide hB
  have TE : Hid (∀ w', w.grownBy w' none → ∃ a1 a2 a3 a4, yo.Env w' a1 a2 a3 a4) := fun w' g => by
    obtain ⟨b1, b2', b3, b4, hE⟩ := hT
    exact ⟨b1, b2', b3, b4, hE.kept g⟩
  have TT : Hid (∀ w', w.grownBy w' none → yi.Tabs w') := fun w' g => by
    obtain ⟨b1, b2', b3, b4, hE⟩ := hT
    have h := hE.kept g
    exact ⟨h.tab, h.env.pow, h.k, h.s⟩
  have hlen : len0 ≤ 1048576 := by omega
  clear hB hT hbig
  go_enter Tryz.func5, Tryz.ntmps5
  go_wp2_with fail
  refine (sl.unhide C).mono ?_; rintro e w' ⟨rfl, hw⟩; have hw' := hw.symm; clear hw; subst hw'
  clear C hm
  go_wp2_with fail
  refine (db.drawFormula a0 len0 cap0 _ hlen (sl.unhide HB)).mono ?_; rintro e w1 ⟨n, v, LL, rfl, ⟨hn, hl, hg⟩, o1, g1⟩
  obtain ⟨va, vc, rfl⟩ := o1.len
  have ht : css.tot LL ≤ 1048576 := Nat.le_trans (df.tot_bd (dcn.bd_good hn hl hg) (by decide)) (by decide)
  have hLLl : LL.length ≤ 1048576 := Nat.le_trans (css.tot_len LL) ht
  have hLi : ∀ i, (LL.getD i []).length ≤ 1048576 := fun i => Nat.le_trans (css.tot_in _ i) ht
  obtain ⟨d, sat, b, m, D, hD, cI, cD, cG, cS, cV, cW⟩ := ys.order hn hl hg ht
  have HLI := sl.hide hLi
  have CI := sl.hide cI
  have CD := sl.hide cD
  have CG := sl.hide cG
  have CS := sl.hide cS
  have CV := sl.hide cV
  have CW := sl.hide cW
  have HD := sl.hide hD
  clear cI cD cG cS cV cW hD hLi hn hl hg ht HB
  have gA := World.grownBy_alloc w1 (.cells #[.int .i64 n, .slice va LL.length vc] 32) none
  have F1 := sl.hide (cf.Box.new 32 w1 (.int .i64 n) (.slice va LL.length vc))
  have GW1 := sl.hide (sl.grown_trans (r := none) g1 gA)
  have O1 := sl.hide (o1.kept gA)
  clear g1 o1 gA
  obtain ⟨W1, hW1⟩ : ∃ W1, W1 = w1.alloc (.cells #[.int .i64 n, .slice va LL.length vc] 32) := ⟨_, rfl⟩
  have z0 := (sl.unhide F1).c0
  have z1 := (sl.unhide F1).c1
  have z1' := ((sl.unhide F1).kept (World.grownBy_alloc (w1.alloc (.cells #[.int .i64 n, .slice va LL.length vc] 32)) (.cells #[.int .i64 n, .slice none 0 0] 32) none)).c1
  rw [← hW1] at F1 GW1 O1
  have gM := World.grownBy_alloc W1 (.cells #[.int .i64 n, .slice none 0 0] 32) none
  have M1 : Hid (gr.MidF W1 (W1.alloc (.cells #[.int .i64 n, .slice none 0 0] 32)) W1.heap.size n (ys.turnL (LL.drop LL.length)) [(w1.heap.size, .int .i64 n, .slice va LL.length vc)]) := by
    rw [List.drop_length]
    refine ⟨Nat.le_refl _, gM, fun q hq => ?_, none, 0, cf.Box.new 32 W1 (.int .i64 n) (.slice none 0 0), ⟨[], rfl, World.ownsRow_nil .., (fun k e => by cases e), (fun p hp => by cases hp), .nil⟩⟩
    rw [List.mem_singleton] at hq
    subst hq
    exact ⟨Nat.ne_of_lt (sl.unhide F1).lt, (sl.unhide F1).kept gM⟩
  clear gM
  rw [show W1.heap.size = w1.heap.size + 1 by rw [hW1, World.size_alloc]] at M1
  go_wp2_with fail
  rw [← hW1]
  clear z0 z1 z1' hW1
  generalize hbk : w1.heap.size + 1 = bk at *
  clear hbk
  generalize w1.heap.size = fb at *
  go_loopw [5] (fun i wr => ∃ j : Nat, j ≤ LL.length ∧ i = .int .i64 ((j : Int) - 1) ∧ Hid (gr.MidF W1 wr bk n (ys.turnL (LL.drop j)) [(fb, .int .i64 n, .slice va LL.length vc)])) (fun i _ => (intOf i + 1).toNat)
  case atStart => exact ⟨LL.length, Nat.le_refl _, by go_num, M1⟩
  case round =>
    obtain ⟨j, hj, rfl, hm⟩ := hrel
    clear M1
    have GQ := sl.hide (sl.unhide hm).2.1
    by_cases hj0 : 0 < j
    · obtain ⟨q, rfl⟩ : ∃ q, j = q + 1 := ⟨j - 1, by omega⟩
      rw [show (((q + 1 : Nat) : Int) - 1) = (q : Int) by omega]
      have hql : q < LL.length := by omega
      have i1 : (q : Int) < (LL.length : Int) := by omega
      have i2 : (0 : Int) ≤ (q : Int) := by omega
      obtain ⟨gf, uq, hva, cq, owq⟩ := ms.ownS_at ((sl.unhide O1).kept (sl.unhide GQ)) q hql
      subst hva
      have zf := ((sl.unhide hm).box fb (.int .i64 n) (.slice (some ⟨gf, 0, none⟩) LL.length vc) (by simp)).c1
      have HST := sl.hide (ys.turn_step LL q hql)
      have hMl : (ys.turnL (LL.drop (q + 1))).length ≤ 1048576 := by unfold ys.turnL; rw [List.length_reverse, List.length_map, List.length_drop]; omega
      have hLq := sl.unhide HLI q
      generalize LL.getD q [] = L at *
      generalize ys.turnL (LL.drop (q + 1)) = M at *
      have ct := yy.turnedOrder uq L wr.drew hLq ((sl.Sl.of_own owq).kept (cf.grown_drew wr none) (.inl rfl))
      generalize L.reverse = K at *
      have CT := sl.hide ct
      clear ct
      obtain ⟨ua6, uc6, rfl⟩ : ∃ xa xc, uq = .slice xa L.length xc := by
        obtain ⟨xa, xc, e, _⟩ := sl.Sl.of_own owq
        exact ⟨xa, xc, e⟩
      obtain ⟨q0, q1, q2, oa, ocap, q3, q4⟩ := sl.unhide hm
      have o1 := q3.c1
      have of1 := q3.f 1
      have Q0 := sl.hide q0
      have Q1 := sl.hide q1
      have Q2 := sl.hide q2
      have Q3 := sl.hide q3
      have Q4 := sl.hide q4
      clear hm q0 q1 q2 q3 q4 owq GQ HLI hLq
      go_upto_region 8 with fail
      go_region_law
        (first
          | (go_simp; go_at_call 25; refine (sl.unhide CT).mono ?_; rintro e w2 ⟨u2, rfl, o2, g2⟩; obtain ⟨ua, uc, rfl, _⟩ := (sl.Own.of o2).sl; have G2 := sl.hide (sl.grown_trans (r := none) (cf.grown_drew wr none) g2); have U2 := sl.hide (sl.Own.of o2); have k1 := ((sl.unhide Q3).kept (sl.unhide G2)).c1; have k2 := ((sl.unhide Q3).kept (sl.unhide G2)).f 1; have k9 := (((sl.unhide Q3).kept (sl.unhide G2)).kept (World.grownBy_alloc w2 (.cells #[.slice ua K.length uc] 43) none)).c1; clear o2 g2)
          | (refine gr.stepR ((sl.unhide Q4).kept (sl.unhide G2)) (sl.unhide U2) (sl.unhide Q1).size (sl.unhide G2).size hMl (by rfl) _ _ (by rfl) (by rfl) (by rfl) ?_; intro g3 cap3 w3 h3 g3'; have R3 := sl.hide (gr.MidF.step (sl.unhide Q0) (sl.unhide Q1) (sl.unhide Q2) (sl.unhide Q3) (sl.unhide Q4) (sl.unhide G2) h3 g3'); have k3 := (sl.unhide R3).1.1; have k4 := (sl.unhide R3).1.2.1; clear h3 g3'))
      all_goals
        go_wp2_with fail
        go_roundw
        case rel => exact ⟨q, by omega, by go_num, by rw [sl.unhide HST]; exact (sl.unhide R3).2⟩
        case measure => first | (simp [intOf]; done) | (simp [intOf]; omega)
    · have ej : j = 0 := by omega
      subst ej
      rw [show (((0 : Nat) : Int) - 1) = -1 from rfl]
      rw [List.drop_zero] at hm
      have F2 := sl.hide ((sl.unhide hm).box fb (.int .i64 n) (.slice va LL.length vc) (by simp))
      generalize ys.turnL LL = NN at *
      obtain ⟨q0, q1, q2, na, nc, nb, nl⟩ := sl.unhide hm
      have E2 := sl.hide nb
      have P2 := sl.hide nl
      have O2 := sl.hide ((sl.unhide O1).kept (sl.unhide GQ))
      have GW2 := sl.hide (sl.grown_trans (r := none) (sl.unhide GW1) (sl.unhide GQ))
      clear q0 q1 q2 nb nl hm GQ GW1 O1 F1 HLI
      have C2 := sl.hide (sl.unhide CI (.slice va LL.length vc) wr (sl.unhide TT _ (sl.unhide GW2)) (sl.unhide O2).sls)
      have z0 := (sl.unhide F2).c0
      have z1 := (sl.unhide F2).c1
      clear CI
      go_wp2_with fail
      refine (sl.unhide C2).mono ?_; rintro e w3 ⟨rfl, g3⟩
      clear z0 z1 C2
      obtain ⟨W3, hW3⟩ : ∃ W3, W3 = w3.alloc (.cells #[.string d, .bool sat, .string b, .string m] 36) := ⟨_, rfl⟩
      have ga : w3.grownBy W3 none := by rw [hW3]; exact World.grownBy_alloc w3 _ none
      have gs := sl.grown_trans (r := none) g3 ga
      have K3 : Hid (yb.Box4 36 W3 w3.heap.size (.string d) (.bool sat) (.string b) (.string m)) := by rw [hW3]; exact yb.Box4.new 36 w3 _ _ _ _
      have F3 := sl.hide ((sl.unhide F2).kept gs)
      have E3 := sl.hide ((sl.unhide E2).kept gs)
      have P3 := sl.hide ((sl.unhide P2).kept gs)
      have O3 := sl.hide ((sl.unhide O2).kept gs)
      have GW3 := sl.hide (sl.grown_trans (r := none) (sl.unhide GW2) gs)
      clear g3 ga gs F2 E2 P2 O2 GW2
      have DF := sl.hide (fun w' (g : W3.grownBy w' none) => sl.unhide CD (.slice va LL.length vc) w' (sl.unhide TT _ (sl.grown_trans (r := none) (sl.unhide GW3) g)) ((sl.unhide O3).kept g).sls)
      have DG := sl.hide (fun w' (g : W3.grownBy w' none) => sl.unhide CG (.slice na NN.length nc) w' (sl.unhide TT _ (sl.grown_trans (r := none) (sl.unhide GW3) g)) ((sl.unhide P3).kept g).sls)
      have DS := sl.hide (fun w' (g : W3.grownBy w' none) => sl.unhide CS (.slice va LL.length vc) w' ((sl.unhide O3).kept g).sls)
      have VF := sl.hide (fun w' (g : W3.grownBy w' none) => sl.unhide CV (.slice va LL.length vc) w' (sl.unhide TE _ (sl.grown_trans (r := none) (sl.unhide GW3) g)) ((sl.unhide O3).kept g).sls)
      have VG := sl.hide (fun (e : sat = true) w' (g : W3.grownBy w' none) => sl.unhide CW e (.slice na NN.length nc) w' (sl.unhide TE _ (sl.grown_trans (r := none) (sl.unhide GW3) g)) ((sl.unhide P3).kept g).sls)
      have GZ := sl.hide (fun w' (g : W3.grownBy w' none) => sl.below_of (sl.grown_trans (r := none) (sl.unhide GW3) g))
      have CK : Hid (∀ w', W3.grownBy w' none → w'.cell? ⟨fb, 0, none⟩ = some (.int .i64 n) ∧ w'.cell? ⟨fb, 1, none⟩ = some (.slice va LL.length vc) ∧ w'.cell? ⟨bk, 0, none⟩ = some (.int .i64 n) ∧ w'.cell? ⟨bk, 1, none⟩ = some (.slice na NN.length nc)) := fun w' g => ⟨((sl.unhide F3).kept g).c0, ((sl.unhide F3).kept g).c1, ((sl.unhide E3).kept g).c0, ((sl.unhide E3).kept g).c1⟩
      clear CD CG CS CV CW TT TE O3 P3 F3 E3 GW3
      go_upto_region 10 with fail
      rw [← hW3]
      clear hW3
      generalize w3.heap.size = cb at *
      have hD := sl.unhide HD
      go_cut [56] (fun q wx => q = .bool false ∧ Hid (W3.grownBy wx none))
      case first =>
        have GX := sl.hide (cf.grown_drew W3 none)
        obtain ⟨k1, k2, k3, k4⟩ := sl.unhide CK _ (sl.grown_refl _)
        go_region_held3 (fun w' => w'.cell? ⟨fb, 0, none⟩ = some (.int .i64 n) ∧ w'.cell? ⟨fb, 1, none⟩ = some (.slice va LL.length vc) ∧ w'.cell? ⟨bk, 0, none⟩ = some (.int .i64 n) ∧ w'.cell? ⟨bk, 1, none⟩ = some (.slice na NN.length nc)) (go_keep) (first
          | (go_at_call_of 20 (Value.agg #[Value.int IntKind.i64 n, Value.slice va LL.length vc]); refine (sl.unhide DF _ (sl.unhide GX)).mono ?_; rintro e w9 ⟨rfl, g9⟩; replace GX := sl.hide (sl.grown_trans (r := none) (sl.unhide GX) g9); obtain ⟨k1, k2, k3, k4⟩ := sl.unhide CK _ (sl.unhide GX); clear g9)
          | (go_at_call_of 20 (Value.agg #[Value.int IntKind.i64 n, Value.slice na NN.length nc]); refine (sl.unhide DG _ (sl.unhide GX)).mono ?_; rintro e w9 ⟨rfl, g9⟩; replace GX := sl.hide (sl.grown_trans (r := none) (sl.unhide GX) g9); obtain ⟨k1, k2, k3, k4⟩ := sl.unhide CK _ (sl.unhide GX); clear g9)
          | (go_at_call_of 26 (Value.agg #[Value.int IntKind.i64 n, Value.slice va LL.length vc]); refine (sl.unhide DS _ (sl.unhide GX)).mono ?_; rintro e w9 ⟨rfl, g9⟩; replace GX := sl.hide (sl.grown_trans (r := none) (sl.unhide GX) g9); obtain ⟨k1, k2, k3, k4⟩ := sl.unhide CK _ (sl.unhide GX); clear g9))
        all_goals (go_wp2_with fail; go_meet; exact ⟨rfl, GX⟩)
      case rest =>
        obtain ⟨rfl, hg⟩ := hcut
        obtain ⟨k1, k2, k3, k4⟩ := sl.unhide CK _ (sl.unhide hg)
        have k5 := ((sl.unhide K3).kept (sl.unhide hg))
        have x0 := k5.c0
        have x1 := k5.c1
        have x2 := k5.c2
        have x3 := k5.c3
        clear k5
        have V1 := sl.hide (sl.unhide VF _ (sl.unhide hg))
        cases sat
        · go_wp2_with fail
          refine (sl.unhide V1).mono ?_; rintro e w5 ⟨rfl, g5⟩
          have G5 := sl.hide (sl.grown_trans (r := none) (sl.unhide hg) g5)
          have x1 := ((sl.unhide K3).kept (sl.unhide G5)).c1
          clear g5
          go_wp2_with fail
          go_ret
          exact ⟨rfl, sl.unhide GZ _ (sl.unhide G5)⟩
        · go_wp2_with fail
          refine (sl.unhide V1).mono ?_; rintro e w5 ⟨rfl, g5⟩
          have G5 := sl.hide (sl.grown_trans (r := none) (sl.unhide hg) g5)
          clear g5 k1 k2 k3 k4 x0 x1 x2 x3
          obtain ⟨k1, k2, k3, k4⟩ := sl.unhide CK _ (sl.unhide G5)
          have k5 := ((sl.unhide K3).kept (sl.unhide G5))
          have x0 := k5.c0
          have x1 := k5.c1
          have x2 := k5.c2
          have x3 := k5.c3
          clear k5
          have V2 := sl.hide (sl.unhide VG (by trivial) _ (sl.unhide G5))
          go_wp2_with fail
          refine (sl.unhide V2).mono ?_; rintro e w6 ⟨rfl, g6⟩
          have G6 := sl.hide (sl.grown_trans (r := none) (sl.unhide G5) g6)
          clear g6
          go_wp2_with fail
          go_ret
          exact ⟨rfl, sl.unhide GZ _ (sl.unhide G6)⟩

/-! ### the row's step (the guide's own frame) -/
set_option maxRecDepth 100000 in
theorem contract (H : Type) (enc : TypeId × Value → H) (W : World) (base : Nat) (args : Array Value) (ds gs : List (DataW H)) (before : List MemPlace)
    (hval : ∀ (j : Nat) t v, Tryz.f5.params[j]? = some t → args[j]? = some v → Value.okWide Tryz.prog W .any base t v)
    (hW : DataW.Whole enc Tryz.prog Tryz.f5.params.toList Rows.fnOrderSpec.vars false W args.toList ds gs before) (hL : laidMetH Tryz.prog Rows.fnOrderRow.laid W) (hSh : W.ShapedOpen Tryz.prog) :
    Calls Tryz.prog 5 args W fun e W' => ∃ v, e = .returned v ∧ Rows.fnOrderSpec.post enc Tryz.prog Tryz.f5 false true false false W args v W' := by
  have hW' := hW
  obtain ⟨p, q, hA0, hV, rfl, hfz, hnd⟩ := hW
  have hA : DataW.TrodAll enc Tryz.prog W 0 (fun _ => true) true Tryz.f5.params.toList args.toList ds p := hA0
  rw [Tryz.params5] at hA hval
  obtain ⟨v0, vs0, d0, ds0, p0, q0, hargs, rfl, rfl, h0, r0⟩ := trodAll_cons hA
  obtain ⟨rfl, rfl, rfl⟩ := trodAll_nil r0
  obtain rfl : args = #[v0] := by cases args; simp_all
  obtain ⟨g0, g1, g2, g3, g4, g5, rfl⟩ := vars6 hV
  obtain ⟨a0, len0, cap0, rfl⟩ := okWide_slice Tryz.underlying22 (hval 0 22 v0 rfl rfl)
  have k0 := h0
  have lt0 : ∀ x ∈ p0, x.block < W.heap.size := by obtain ⟨m, hm⟩ := k0; exact DataW.trod_lt m _ _ _ hm
  obtain ⟨z0, w0⟩ : ∃ zs, IsRow .u8 W a0 len0 cap0 zs := by
    obtain ⟨fuel, hf⟩ := h0
    rcases open_ints Tryz.underlying22 Tryz.underlying5 (by kernel_rfl) hf with ⟨hcs, _⟩ | ⟨x, l, c, zs, hcs, _, hl, hm, hz, _, hcell, hwz⟩
    · simp [Value.cells] at hcs
      obtain ⟨rfl, rfl, rfl⟩ := hcs
      exact ⟨[], .inl ⟨rfl, rfl, rfl, rfl⟩⟩
    · simp [Value.cells] at hcs
      obtain ⟨rfl, rfl, rfl⟩ := hcs
      exact ⟨zs, .inr ⟨_, rfl, hl, hm, by simpa using hz, hcell, hwz⟩⟩
  clear hA0
  refine (walk a0 len0 cap0 z0 W w0 (table hL hSh)).mono fun e W' ⟨he, bel⟩ => ?_
  subst he
  exact ⟨_, rfl, _, _, _, [], _, _, hW', trodAll_mk1 (shut_bool Tryz.underlying4 _), (trodAll_cons_mk (Below.trod laidOut (by kernel_rfl) (of_decide_eq_true (by kernel_rfl)) k0 bel lt0) trodAll_mk0), Below.trodVars laidOutV bel (by kernel_rfl) hV, bel.frame _, fun h => by cases h⟩

set_option maxRecDepth 100000 in
theorem lifted (os : Os) (started : os.Started) (H : Type) (enc : TypeId × Value → H) (F : Stop.Interp) :
    ReturnsInHanded {} Tryz.checked os 5 .any ((OpenSpec.ofChange Rows.fnOrderSpec).preRow enc Tryz.prog Tryz.f5 Rows.fnOrderRow.domain false Rows.fnOrderRow.laid) (((OpenSpec.ofChange Rows.fnOrderSpec).at F).post enc Tryz.prog Tryz.f5 false true false false) := by
  refine returnsInHanded_of_row (C := Tryz.checked) (s := OpenSpec.ofChange Rows.fnOrderSpec) own started (by kernel_rfl) Tryz.func5
    (witness_row_at (enc := enc) (C := Tryz.checked) false ({ (World.holding Tryz.prog os ⟨#[.cells #[.string ⟨#[118, 97, 108, 117, 101, 32, 111, 117, 116, 32, 111, 102, 32, 114, 97, 110, 103, 101]⟩] 273, .cells #[.string ⟨#[105, 110, 118, 97, 108, 105, 100, 32, 115, 121, 110, 116, 97, 120]⟩] 273, .cells #[.string ⟨#[116, 104, 101, 32, 109, 97, 114, 107, 32, 105, 115, 32, 110, 111, 116, 32, 116, 104, 97, 116, 32, 111, 102, 32, 116, 104, 101, 32, 107, 101, 121, 32, 97, 110, 100, 32, 119, 104, 97, 116, 32, 105, 115, 32, 115, 105, 103, 110, 101, 100]⟩] 273, .cells #[.string ⟨#[116, 104, 101, 32, 99, 101, 114, 116, 105, 102, 105, 99, 97, 116, 101, 32, 105, 115, 32, 111, 102, 32, 97, 110, 111, 116, 104, 101, 114, 32, 102, 111, 114, 109, 117, 108, 97]⟩] 273, .cells #[.string ⟨#[116, 104, 101, 32, 98, 111, 100, 121, 32, 116, 101, 108, 108, 115, 32, 110, 111, 32, 97, 110, 115, 119, 101, 114]⟩] 273, .cells #[.string ⟨#[116, 104, 101, 32, 97, 110, 115, 119, 101, 114, 32, 100, 111, 101, 115, 32, 110, 111, 116, 32, 104, 111, 108, 100]⟩] 273], #[], []⟩) with heap := ((((((((((((World.holding Tryz.prog os ⟨#[.cells #[.string ⟨#[118, 97, 108, 117, 101, 32, 111, 117, 116, 32, 111, 102, 32, 114, 97, 110, 103, 101]⟩] 273, .cells #[.string ⟨#[105, 110, 118, 97, 108, 105, 100, 32, 115, 121, 110, 116, 97, 120]⟩] 273, .cells #[.string ⟨#[116, 104, 101, 32, 109, 97, 114, 107, 32, 105, 115, 32, 110, 111, 116, 32, 116, 104, 97, 116, 32, 111, 102, 32, 116, 104, 101, 32, 107, 101, 121, 32, 97, 110, 100, 32, 119, 104, 97, 116, 32, 105, 115, 32, 115, 105, 103, 110, 101, 100]⟩] 273, .cells #[.string ⟨#[116, 104, 101, 32, 99, 101, 114, 116, 105, 102, 105, 99, 97, 116, 101, 32, 105, 115, 32, 111, 102, 32, 97, 110, 111, 116, 104, 101, 114, 32, 102, 111, 114, 109, 117, 108, 97]⟩] 273, .cells #[.string ⟨#[116, 104, 101, 32, 98, 111, 100, 121, 32, 116, 101, 108, 108, 115, 32, 110, 111, 32, 97, 110, 115, 119, 101, 114]⟩] 273, .cells #[.string ⟨#[116, 104, 101, 32, 97, 110, 115, 119, 101, 114, 32, 100, 111, 101, 115, 32, 110, 111, 116, 32, 104, 111, 108, 100]⟩] 273], #[], []⟩).heap.modify 11 fun | .cells _ t frozen => .cells (Lib.deBruijn32tab.map fun (n : Nat) => Value.int .u8 n).toArray t frozen | o => o).modify 9 fun | .cells _ t frozen => .cells (Lib.deBruijn64tab.map fun (n : Nat) => Value.int .u8 n).toArray t frozen | o => o).modify 10 fun | .cells _ t frozen => .cells (Lib.pow10Tab.map fun n => Value.int .u64 n).toArray t frozen | o => o).modify 8 fun | .cells _ t frozen => .cells #[.iface 271 (.pointer (some ⟨(World.holding Tryz.prog default ⟨#[], #[], []⟩).heap.size, 0, none⟩))] t frozen | o => o).modify 7 fun | .cells _ t frozen => .cells #[.iface 271 (.pointer (some ⟨(World.holding Tryz.prog default ⟨#[], #[], []⟩).heap.size + 1, 0, none⟩))] t frozen | o => o).modify 0 fun | .cells _ t frozen => .cells #[.iface 271 (.pointer (some ⟨(World.holding Tryz.prog default ⟨#[], #[], []⟩).heap.size + 2, 0, none⟩))] t frozen | o => o).modify 1 fun | .cells _ t frozen => .cells #[.iface 271 (.pointer (some ⟨(World.holding Tryz.prog default ⟨#[], #[], []⟩).heap.size + 3, 0, none⟩))] t frozen | o => o).modify 2 fun | .cells _ t frozen => .cells #[.iface 271 (.pointer (some ⟨(World.holding Tryz.prog default ⟨#[], #[], []⟩).heap.size + 4, 0, none⟩))] t frozen | o => o).modify 3 fun | .cells _ t frozen => .cells #[.iface 271 (.pointer (some ⟨(World.holding Tryz.prog default ⟨#[], #[], []⟩).heap.size + 5, 0, none⟩))] t frozen | o => o).modify 6 fun | .cells _ t frozen => .cells (zk.kL.map fun n => Value.int .u32 n).toArray t frozen | o => o).modify 4 fun | .cells _ t frozen => .cells (zk.sL.map fun n => Value.int .u32 n).toArray t frozen | o => o) } : World) #[.slice none 0 0] rfl (by kernel_rfl) (by kernel_rfl) (by kernel_rfl)
      (OpenSpec.preRow_of_cond 8 (x := ([.nil], [Rows.laid_loop_example_g00123_impl_sumStarts, Rows.laid_loop_example_g00123_impl_sumConsts, .held (enc (271, .pointer (some ⟨(World.holding Tryz.prog default ⟨#[], #[], []⟩).heap.size + 2, 0, none⟩))), .held (enc (271, .pointer (some ⟨(World.holding Tryz.prog default ⟨#[], #[], []⟩).heap.size + 3, 0, none⟩))), .held (enc (271, .pointer (some ⟨(World.holding Tryz.prog default ⟨#[], #[], []⟩).heap.size + 4, 0, none⟩))), .held (enc (271, .pointer (some ⟨(World.holding Tryz.prog default ⟨#[], #[], []⟩).heap.size + 5, 0, none⟩)))], MemPlace.row ⟨4, 0, none⟩ 8 ++ MemPlace.row ⟨6, 0, none⟩ 64 ++ MemPlace.row ⟨0, 0, none⟩ 1 ++ MemPlace.row ⟨1, 0, none⟩ 1 ++ MemPlace.row ⟨2, 0, none⟩ 1 ++ MemPlace.row ⟨3, 0, none⟩ 1)) (by kernel_rfl) (by kernel_rfl) (fun k hk => by cases hk) (by kernel_rfl) (laidMet_of_run' 8 (by kernel_rfl) (by kernel_rfl)))) ?_
  intro W base args ds gs before hval hW _ _ _ hL hSh _
  exact contract H enc W base args ds gs before hval hW hL hSh

theorem said : Rows.FnOrderSaid :=
  OpenClaim.holds_of_cond 5 Tryz.f5 rfl rfl rfl rfl rfl rfl rfl ⟨rfl, rfl, rfl, rfl, rfl⟩ rfl rfl rfl rfl rfl (by kernel_rfl) Tryz.func5 (by kernel_rfl)
    (of_decide_eq_true (by kernel_rfl)) (by unfold Func.isWrapper; first | (rw [if_pos (by decide +kernel)]; kernel_rfl) | (rw [if_neg (by decide +kernel)]; exact ⟨rfl, rfl⟩))
    (fun os started H enc _ F => by rw [OpenClaim.pre_eq_preRow]; exact lifted os started H enc F)

theorem plain (f : FuncId) (fn : Func) (hf : Tryz.pinned.checked.prog.funcNamed "loop.example/g00123/laws.FnOrder" = some f) (hfn : Tryz.pinned.checked.prog.funcs[f]? = some fn) :
    true = Tryz.pinned.checked.prog.looks [] ∧ ∀ (j : Nat) t, fn.params[j]? = some t → Tryz.pinned.checked.prog.wantsStandIn t = false := by
  obtain rfl : f = 5 := Option.some.inj ((show Tryz.prog.funcNamed "loop.example/g00123/laws.FnOrder" = some 5 by kernel_rfl).symm.trans hf) |>.symm
  obtain rfl : fn = Tryz.f5 := (Option.some.inj (Tryz.func5.symm.trans hfn)).symm
  refine ⟨by kernel_rfl, fun j t ht => ?_⟩
  rw [Tryz.params5] at ht
  obtain rfl : t = 22 := by simpa using Array.mem_of_getElem? ht
  exact (show Tryz.prog.wantsStandIn 22 = false by kernel_rfl)

/-- the statement: the row's tied card -/
theorem proved : Rows.FnOrderCardSaid :=
  Claim7.holds_tied_plain_at .later [] _ _ _ _ said (fun _ h => by cases h) (by kernel_rfl) (fun _ h => by cases h) fnOrder_row_tie rfl ⟨rfl, rfl⟩ (by kernel_rfl) rfl plain (by kernel_rfl)
#print axioms proved
end Go.Proofs.YtcgiphcfjhbonaaGreatDoor.fnOrder
