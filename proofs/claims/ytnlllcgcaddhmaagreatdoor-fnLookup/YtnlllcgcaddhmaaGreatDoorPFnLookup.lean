/- At every text of bytes the law FnLookup returns true: what is looked up is what is known of a formula, whether it was remembered or not, and is remembered then; the tables of the library (of places and of powers of ten) and the tables of the sum that are the program's own lie as their texts lay them (tied). -/
import Derived.Test.YtnlllcgcaddhmaaGreatDoorCards
import Derived.Test.YtnlllcgcaddhmaaGreatDoorTie
import Derived.OpenVars
import Derived.Test.YtnlllcgcaddhmaaGreatDoorJDd
import Derived.Test.YtnlllcgcaddhmaaGreatDoorJXCd
import Derived.Test.YtnlllcgcaddhmaaGreatDoorJXAw
import Derived.Test.YtnlllcgcaddhmaaGreatDoorJXAx
import Derived.WalkKit
import Derived.ProofKit
import Derived.OpenShut
import Derived.ShutString
import Derived.ChangeOld
import Derived.Below
import Derived.Deep.DeepHandedRow
import Derived.Lib.LaidTab
import Derived.Lib.TrailingZeros
import Derived.Stop.LaidErr
import Derived.Stop.LaidTwo
import Derived.LaidHandle
import Derived.LaidSub
namespace Go.Proofs.YtnlllcgcaddhmaaGreatDoor.fnLookup
open Go.ChangeShapes Go.WideShapes Go.ChangeAt Go.RowKit
open Go.ChangeMaps (open_string shut_string)
set_option linter.unusedVariables false

theorem own : ownKnob Tryz.prog.godebug = none := by kernel_rfl
theorem laidOut : laidOutB Tryz.prog = true := by kernel_rfl

/-- what the walk is told of a slice of integers that came in -/
def IsRow (k : IntKind) (w : World) (a : Option Addr) (len cap : Nat) (zs : List Int) : Prop :=
  (a = none ∧ len = 0 ∧ cap = 0 ∧ zs = []) ∨
  ∃ x, a = some x ∧ len ≤ cap ∧ cap ≤ maxLen ∧ zs.length = cap ∧ (∀ i, i < zs.length → w.cell? (x.add i) = some (.int k (zs.getD i 0))) ∧ ∀ n ∈ zs, (Lit.int k n).wf = true

theorem laidOutV : laidOutB Tryz.prog = true := by kernel_rfl
theorem vars1 {H : Type} {enc : TypeId × Value → H} {P : Program} {w : World} {sp : Nat → Bool} {n : String} {gs : List (DataW H)} {ps : List MemPlace} (h : DataW.TrodVars enc P w sp [n] gs ps) : ∃ g, gs = [g] := by
  cases gs with
  | nil => exact h.elim
  | cons g t =>
    obtain ⟨_, _, _, _, _, _, _, _, _, _, hs, _⟩ := h
    cases t with
    | nil => exact ⟨g, rfl⟩
    | cons _ _ => exact hs.elim
theorem vars2 {H : Type} {enc : TypeId × Value → H} {P : Program} {w : World} {sp : Nat → Bool} {n m : String} {gs : List (DataW H)} {ps : List MemPlace} (h : DataW.TrodVars enc P w sp [n, m] gs ps) : ∃ g k, gs = [g, k] := by
  cases gs with
  | nil => exact h.elim
  | cons g t =>
    obtain ⟨_, _, _, _, _, _, _, _, _, _, hs, _⟩ := h
    obtain ⟨k, rfl⟩ := vars1 hs
    exact ⟨g, k, rfl⟩
theorem gTab : Tryz.prog.globalNamed "math/bits.deBruijn64tab" = some 2 := by kernel_rfl
theorem gTabType : (Tryz.prog.globals[2]?).map (·.type) = some 228 := by kernel_rfl
theorem cellsTab : Tryz.prog.cellsOf 228 = 64 := by kernel_rfl
theorem cellsByte : Tryz.prog.cellsOf 5 = 1 := by kernel_rfl
theorem gPowType : (Tryz.prog.globals[3]?).map (·.type) = some 238 := by kernel_rfl
theorem cellsPow : Tryz.prog.cellsOf 238 = 20 := by kernel_rfl
theorem cellsU64 : Tryz.prog.cellsOf 150 = 1 := by kernel_rfl
theorem powData : (Rows.laid_internal_strconv_uint64pow10 : DataW Unit) = Lib.tabData .u64 Lib.pow10Tab := by kernel_rfl
theorem tabData64 : (Rows.laid_math_bits_deBruijn64tab : DataW Unit) = Lib.tabData .u8 (Lib.deBruijn64tab.map fun (n : Nat) => (n : Int)) := by kernel_rfl
theorem gK : Tryz.prog.globalNamed "loop.example/g00123/impl.sumConsts" = some 1 := by kernel_rfl
theorem tyK : (Tryz.prog.globals[1]?).map (·.type) = some 214 := by kernel_rfl
theorem cellsK : Tryz.prog.cellsOf 214 = 64 := by kernel_rfl
theorem dataK : (Rows.laid_loop_example_g00123_impl_sumConsts : DataW Unit) = Lib.tabData .u32 zk.kL := by kernel_rfl
theorem gS : Tryz.prog.globalNamed "loop.example/g00123/impl.sumStarts" = some 0 := by kernel_rfl
theorem tyS : (Tryz.prog.globals[0]?).map (·.type) = some 146 := by kernel_rfl
theorem cellsS : Tryz.prog.cellsOf 146 = 8 := by kernel_rfl
theorem dataS : (Rows.laid_loop_example_g00123_impl_sumStarts : DataW Unit) = Lib.tabData .u32 zk.sL := by kernel_rfl
theorem cellsW : Tryz.prog.cellsOf 120 = 1 := by kernel_rfl
theorem laid_tail {P : Program} {W : World} {x : String × DataW Unit} {rest : List (String × DataW Unit)} (h : laidMet P (x :: rest) W) : laidMet P rest W := by
  obtain ⟨ps, hv, hn, hc⟩ := h
  obtain ⟨n, d⟩ := x
  obtain ⟨g, t, cs, fuel, p, q, _, _, _, _, hr, rfl⟩ := hv
  exact ⟨q, hr, (List.nodup_append.1 hn).2.1, fun b off hm => hc b off (List.mem_append_right _ hm)⟩
/-- what the row's list gives: the tables as they lie -/
theorem table {W : World} (h : laidMetH Tryz.prog Rows.fnLookupRow.laid W) : srt.Tab W ∧ txt.Pow W ∧ zk.TabK W ∧ zk.TabS W := by
  have h1 : laidMet Tryz.prog Rows.fnLookupRow.laid W := h
  have h2 := laid_tail h1
  have h3 := laid_tail h2
  have h4 := laid_tail h3
  have h5 := laid_tail h4
  have tT : srt.Tab W := by
    have hh : laidMet Tryz.prog (("math/bits.deBruijn64tab", Lib.tabData .u8 (Lib.deBruijn64tab.map fun (n : Nat) => (n : Int))) :: [("internal/strconv.uint64pow10", Rows.laid_internal_strconv_uint64pow10), ("loop.example/g00123/impl.sumConsts", Rows.laid_loop_example_g00123_impl_sumConsts), ("loop.example/g00123/impl.sumStarts", Rows.laid_loop_example_g00123_impl_sumStarts)]) W := by
      rw [← tabData64]
      exact h2
    have t : Lib.TabIs Tryz.prog W "math/bits.deBruijn64tab" .u8 (Lib.deBruijn64tab.map fun (n : Nat) => (n : Int)) :=
      Lib.tabIs_of_head gTab gTabType Tryz.underlying228 Tryz.underlying5 cellsByte cellsTab hh
    intro j hj
    have c := t.cell gTab j (by rw [List.length_map]; exact hj)
    rw [c]
    congr 2
    rw [List.getD, List.getD, List.getElem?_map]
    cases Lib.deBruijn64tab[j]? <;> rfl
  have tP : txt.Pow W := by
    have hh : laidMet Tryz.prog (("internal/strconv.uint64pow10", Lib.tabData .u64 Lib.pow10Tab) :: [("loop.example/g00123/impl.sumConsts", Rows.laid_loop_example_g00123_impl_sumConsts), ("loop.example/g00123/impl.sumStarts", Rows.laid_loop_example_g00123_impl_sumStarts)]) W := by
      rw [← powData]
      exact h3
    have t : Lib.TabIs Tryz.prog W "internal/strconv.uint64pow10" .u64 Lib.pow10Tab :=
      Lib.tabIs_of_head txt.gPow gPowType Tryz.underlying238 Tryz.underlying150 cellsU64 cellsPow hh
    exact ⟨World.block_lt_of_cell? W _ (t.cell txt.gPow 0 (by decide)), t⟩
  have tK : zk.TabK W := by
    have hh : laidMet Tryz.prog (("loop.example/g00123/impl.sumConsts", Lib.tabData .u32 zk.kL) :: [("loop.example/g00123/impl.sumStarts", Rows.laid_loop_example_g00123_impl_sumStarts)]) W := by
      rw [← dataK]
      exact h4
    have t : Lib.TabIs Tryz.prog W "loop.example/g00123/impl.sumConsts" .u32 zk.kL :=
      Lib.tabIs_of_head gK tyK Tryz.underlying214 Tryz.underlying120 cellsW cellsK hh
    exact fun j hj => t.cell gK j hj
  have tS : zk.TabS W := by
    have hh : laidMet Tryz.prog (("loop.example/g00123/impl.sumStarts", Lib.tabData .u32 zk.sL) :: []) W := by
      rw [← dataS]
      exact h5
    have t : Lib.TabIs Tryz.prog W "loop.example/g00123/impl.sumStarts" .u32 zk.sL :=
      Lib.tabIs_of_head gS tyS Tryz.underlying146 Tryz.underlying120 cellsW cellsS hh
    exact fun j hj => t.cell gS j hj
  exact ⟨tT, tP, tK, tS⟩

/-! ### the walk -/
set_option maxRecDepth 100000 in
set_option maxHeartbeats 8000000 in
theorem walk (a0 : Option Addr) (len0 cap0 : Nat) (z0 : List Int) (w : World) (w0 : IsRow .u8 w a0 len0 cap0 z0) (hT : srt.Tab w ∧ txt.Pow w ∧ zk.TabK w ∧ zk.TabS w) :
    Calls Tryz.prog 3 #[.slice a0 len0 cap0] w fun e w' => e = .returned (.bool true) ∧ Below w.heap.size w w' := by
  have hB := draw.of_rowB w0
  have hm : len0 ≤ 9223372036854775807 := by
    rcases w0 with ⟨_, h, _, _⟩ | ⟨_, _, h1, h2, _⟩
    · omega
    · unfold maxLen at h2
      omega
  clear w0
  by_cases hbig : 1048576 < len0
  · have C := sl.hide (draw.big a0 len0 cap0 w hm)
    rw [decide_eq_true hbig] at C
    clear hT
    go_enter Tryz.func3, Tryz.ntmps3
    go_wp2_with fail
    refine (sl.unhide C).mono ?_; rintro e w' ⟨rfl, rfl⟩
    go_wp2_with fail
    go_ret
    exact ⟨rfl, Below.refl _ _⟩
  have C := sl.hide (draw.big a0 len0 cap0 w hm)
  rw [decide_eq_false hbig] at C
  have HB := sl.hide hB
  have TT := sl.hide hT
  have hlen : len0 ≤ 1048576 := by omega
  clear hB hT hbig
  go_enter Tryz.func3, Tryz.ntmps3
  go_wp2_with fail
  refine (sl.unhide C).mono ?_; rintro e w' ⟨rfl, hw⟩; have hw' := hw.symm; clear hw; subst hw'
  clear C hm
  go_wp2_with fail
  refine (db.drawFormula a0 len0 cap0 _ hlen (sl.unhide HB)).mono ?_; rintro e w1 ⟨n, v, M, rfl, ⟨hn6, hMl, hgd⟩, o1, g1⟩
  obtain ⟨va, vc, rfl⟩ := o1.len
  have ht : css.tot M ≤ 1048576 := Nat.le_trans (df.tot_bd (dcn.bd_good hn6 hMl hgd) (by decide)) (by decide)
  have LT := sl.hide (fun (r : Int) (hr : 1 ≤ r ∧ r ≤ 4) => cml.told (room := r) hr hn6 hMl hgd)
  clear hn6 hMl hgd
  have hKv := an.ask_vals n M
  obtain ⟨K, hK⟩ : ∃ K, K = an.askK n M := ⟨_, rfl⟩
  have HK := sl.hide hK
  obtain ⟨W1, hW1⟩ : ∃ W1, W1 = w1.alloc (.cells #[.int .i64 n, .slice va M.length vc] 26) := ⟨_, rfl⟩
  have ga1 : w1.grownBy W1 none := by rw [hW1]; exact World.grownBy_alloc _ _ _
  have gb1 := sl.grown_trans (r := none) g1 ga1
  have O1 := sl.hide ((o1).kept ga1)
  have F1 : Hid (cf.Box 26 W1 (w1.heap.size) (.int .i64 n) (.slice va M.length vc)) := by
    rw [hW1]
    have q := cf.Box.new 26 w1 (.int .i64 n) (.slice va M.length vc)
    exact q
  have TT1 := sl.hide (And.intro ((sl.unhide TT).1.kept gb1) (And.intro ((sl.unhide TT).2.1.kept gb1) (And.intro ((sl.unhide TT).2.2.1.kept gb1) ((sl.unhide TT).2.2.2.kept gb1))))
  have HB1 := sl.hide ((sl.unhide HB).below (sl.below_of gb1))
  have G1 := sl.hide gb1
  clear TT HB ga1 gb1 g1 hK
  go_upto_region 4 with fail
  rw [← hW1]
  clear hW1
  generalize w1.heap.size = b1 at *
  clear o1
  go_wp2_with fail
  refine (dva.at_ a0 len0 cap0 2 _ hlen (by decide) (by decide) (sl.unhide HB1)).mono ?_; rintro e w2 ⟨x, rfl, x0, x1, hw⟩; have hw' := hw.symm; clear hw; subst hw'
  obtain ⟨xn, rfl⟩ := Int.eq_ofNat_of_zero_le x0
  obtain ⟨r, hr⟩ : ∃ r : Int, r = 1 + (xn : Int) % 4 := ⟨_, rfl⟩
  have hr4 : 1 ≤ r ∧ r ≤ 4 := by omega
  have TD := sl.hide (sl.unhide LT r hr4)
  have CSt := fun w' => ua.implCacheStart r w'
  rw [show ua.startR r = r by unfold ua.startR ua.inB; rw [decide_eq_true (show (0 : Int) ≤ r by omega), decide_eq_true (show r ≤ 50 by omega)]; rfl, show ua.inB r 0 50 = true by unfold ua.inB; rw [decide_eq_true (show (0 : Int) ≤ r by omega), decide_eq_true (show r ≤ 50 by omega)]; rfl] at CSt
  clear x0 x1 hr4 LT
  go_wp2_with fail
  rw [← hr]
  clear hr
  refine (CSt _).mono ?_; rintro e w3 ⟨rfl, g3⟩
  clear CSt
  obtain ⟨W3, hW3⟩ : ∃ W3, W3 = w3.alloc (.cells #[.int .i64 r, .slice none 0 0] 30) := ⟨_, rfl⟩
  have ga3 : w3.grownBy W3 none := by rw [hW3]; exact World.grownBy_alloc _ _ _
  have gb3 := sl.grown_trans (r := none) g3 ga3
  have O3 := sl.hide ((sl.unhide O1).kept gb3)
  have F3 := sl.hide ((sl.unhide F1).kept gb3)
  have C3 : Hid (cf.Box 30 W3 (w3.heap.size) (.int .i64 r) (.slice none 0 0)) := by
    rw [hW3]
    have q := cf.Box.new 30 w3 (.int .i64 r) (.slice none 0 0)
    exact q
  have TT3 := sl.hide (And.intro ((sl.unhide TT1).1.kept gb3) (And.intro ((sl.unhide TT1).2.1.kept gb3) (And.intro ((sl.unhide TT1).2.2.1.kept gb3) ((sl.unhide TT1).2.2.2.kept gb3))))
  have HB3 := sl.hide ((sl.unhide HB1).below (sl.below_of gb3))
  have G3 := sl.hide (sl.grown_trans (r := none) (sl.unhide G1) gb3)
  clear O1 F1 TT1 HB1 G1 ga3 gb3 g3
  go_upto_region 5 with fail
  rw [← hW3]
  clear hW3
  generalize w3.heap.size = b3 at *
  have HTK : Hid (ua.tot [K] ≤ 1048576) := by
    show _ ≤ _
    have h1 : K.dg.size ≤ 32 := by rw [sl.unhide HK]; exact (dk.dk_ask n M).2.1
    have h2 : K.vals.length ≤ 24 := by rw [sl.unhide HK]; exact hKv
    unfold ua.tot ua.wt
    simp only [List.map_cons, List.map_nil, List.sum_cons, List.sum_nil, List.length_cons, List.length_nil]
    omega
  have CI := an.implLookup (.slice none 0 0) (.slice va M.length vc) r [] n M _ (sl.unhide TT3).1 (sl.unhide TT3).2.1 (sl.unhide TT3).2.2.1 (sl.unhide TT3).2.2.2 (by decide) ht (ua.VKns.nil _ _ _) (sl.unhide O3).sls
  unfold an.LkE at CI
  rw [(sl.unhide TD).k1, (sl.unhide TD).l1, (sl.unhide TD).b1, ← sl.unhide HK] at CI
  have HCI := sl.hide CI
  clear CI
  have zC0 := (sl.unhide C3).c0
  have zC1 := (sl.unhide C3).c1
  have zF0 := (sl.unhide F3).c0
  have zF1 := (sl.unhide F3).c1
  go_wp2_with fail
  refine (sl.unhide HCI).mono ?_; rintro e w4 ⟨u4, v4, mid4, rfl, hm4, hn4, ov4, ou4, g4⟩
  have q4 := ou4.len
  simp only [List.length_singleton] at q4
  obtain ⟨ua4, uc4, rfl⟩ := q4
  obtain ⟨va4, vc4, rfl, hx4⟩ := ov4.sl
  obtain ⟨W4, hW4⟩ : ∃ W4, W4 = (w4.alloc (.cells #[.int .i64 r, .slice ua4 1 uc4] 30)).alloc (.cells #[.string K.dg, .bool K.sat, .slice va4 K.vals.length vc4, .int .i64 K.cost] 36) := ⟨_, rfl⟩
  have ga4 : w4.grownBy W4 none := by rw [hW4]; exact sl.grown_trans (World.grownBy_alloc _ _ _) (World.grownBy_alloc _ _ _)
  have gb4 := sl.grown_trans (r := none) g4 ga4
  have O4 := sl.hide ((sl.unhide O3).kept gb4)
  have F4 := sl.hide ((sl.unhide F3).kept gb4)
  have C4 := sl.hide ((sl.unhide C3).kept gb4)
  have Ua4 := sl.hide ((ou4).kept ga4)
  have Va4 := sl.hide ((ov4).kept ga4)
  have Pa4 : Hid (cf.Box 30 W4 (w4.heap.size) (.int .i64 r) (.slice ua4 1 uc4)) := by
    rw [hW4]
    have q := (cf.Box.new 30 w4 (.int .i64 r) (.slice ua4 1 uc4)).kept (World.grownBy_alloc _ (.cells #[.string K.dg, .bool K.sat, .slice va4 K.vals.length vc4, .int .i64 K.cost] 36) none)
    exact q
  have Qa4 : Hid (yb.Box4 36 W4 (w4.heap.size + 1) (.string K.dg) (.bool K.sat) (.slice va4 K.vals.length vc4) (.int .i64 K.cost)) := by
    rw [hW4]
    have q := yb.Box4.new 36 (w4.alloc (.cells #[.int .i64 r, .slice ua4 1 uc4] 30)) (.string K.dg) (.bool K.sat) (.slice va4 K.vals.length vc4) (.int .i64 K.cost)
    simp only [World.size_alloc] at q
    exact q
  have TT4 := sl.hide (And.intro ((sl.unhide TT3).1.kept gb4) (And.intro ((sl.unhide TT3).2.1.kept gb4) (And.intro ((sl.unhide TT3).2.2.1.kept gb4) ((sl.unhide TT3).2.2.2.kept gb4))))
  have HB4 := sl.hide ((sl.unhide HB3).below (sl.below_of gb4))
  have G4 := sl.hide (sl.grown_trans (r := none) (sl.unhide G3) gb4)
  clear O3 F3 C3 TT3 HB3 G3 zC0 zC1 zF0 zF1 ga4 gb4 g4 hm4 hn4 hx4 ov4 ou4 HCI
  go_upto_region 6 with fail
  rw [← hW4]
  clear hW4
  generalize w4.heap.size = b4 at *
  have CI := an.implLookup (.slice ua4 1 uc4) (.slice va M.length vc) r [K] n M _ (sl.unhide TT4).1 (sl.unhide TT4).2.1 (sl.unhide TT4).2.2.1 (sl.unhide TT4).2.2.2 (by have := sl.unhide HTK; omega) ht (sl.unhide Ua4).vkns (sl.unhide O4).sls
  unfold an.LkE at CI
  rw [sl.unhide HK, (sl.unhide TD).k2, (sl.unhide TD).l2, (sl.unhide TD).b2, ← sl.unhide HK] at CI
  have HCI := sl.hide CI
  clear CI
  have zPa0 := (sl.unhide Pa4).c0
  have zPa1 := (sl.unhide Pa4).c1
  have zF0 := (sl.unhide F4).c0
  have zF1 := (sl.unhide F4).c1
  go_wp2_with fail
  refine (sl.unhide HCI).mono ?_; rintro e w5 ⟨u5, v5, mid5, rfl, hm5, hn5, ov5, ou5, g5⟩
  have q5 := ou5.len
  simp only [List.length_singleton] at q5
  obtain ⟨ua5, uc5, rfl⟩ := q5
  obtain ⟨va5, vc5, rfl, hx5⟩ := ov5.sl
  obtain ⟨W5, hW5⟩ : ∃ W5, W5 = (w5.alloc (.cells #[.int .i64 r, .slice ua5 1 uc5] 30)).alloc (.cells #[.string K.dg, .bool K.sat, .slice va5 K.vals.length vc5, .int .i64 K.cost] 36) := ⟨_, rfl⟩
  have ga5 : w5.grownBy W5 none := by rw [hW5]; exact sl.grown_trans (World.grownBy_alloc _ _ _) (World.grownBy_alloc _ _ _)
  have gb5 := sl.grown_trans (r := none) g5 ga5
  have O5 := sl.hide ((sl.unhide O4).kept gb5)
  have Ua5 := sl.hide ((sl.unhide Ua4).kept gb5)
  have Va5 := sl.hide ((sl.unhide Va4).kept gb5)
  have F5 := sl.hide ((sl.unhide F4).kept gb5)
  have C5 := sl.hide ((sl.unhide C4).kept gb5)
  have Pa5 := sl.hide ((sl.unhide Pa4).kept gb5)
  have Qa5 := sl.hide ((sl.unhide Qa4).kept gb5)
  have Ub5 := sl.hide ((ou5).kept ga5)
  have Vb5 := sl.hide ((ov5).kept ga5)
  have Pb5 : Hid (cf.Box 30 W5 (w5.heap.size) (.int .i64 r) (.slice ua5 1 uc5)) := by
    rw [hW5]
    have q := (cf.Box.new 30 w5 (.int .i64 r) (.slice ua5 1 uc5)).kept (World.grownBy_alloc _ (.cells #[.string K.dg, .bool K.sat, .slice va5 K.vals.length vc5, .int .i64 K.cost] 36) none)
    exact q
  have Qb5 : Hid (yb.Box4 36 W5 (w5.heap.size + 1) (.string K.dg) (.bool K.sat) (.slice va5 K.vals.length vc5) (.int .i64 K.cost)) := by
    rw [hW5]
    have q := yb.Box4.new 36 (w5.alloc (.cells #[.int .i64 r, .slice ua5 1 uc5] 30)) (.string K.dg) (.bool K.sat) (.slice va5 K.vals.length vc5) (.int .i64 K.cost)
    simp only [World.size_alloc] at q
    exact q
  have TT5 := sl.hide (And.intro ((sl.unhide TT4).1.kept gb5) (And.intro ((sl.unhide TT4).2.1.kept gb5) (And.intro ((sl.unhide TT4).2.2.1.kept gb5) ((sl.unhide TT4).2.2.2.kept gb5))))
  have HB5 := sl.hide ((sl.unhide HB4).below (sl.below_of gb5))
  have G5 := sl.hide (sl.grown_trans (r := none) (sl.unhide G4) gb5)
  clear O4 Ua4 Va4 F4 C4 Pa4 Qa4 TT4 HB4 G4 zPa0 zPa1 zF0 zF1 ga5 gb5 g5 hm5 hn5 hx5 ov5 ou5 HCI
  go_upto_region 7 with fail
  rw [← hW5]
  clear hW5
  generalize w5.heap.size = b5 at *
  have CA := an.implAsk (.slice va M.length vc) n M _ (sl.unhide TT5).1 (sl.unhide TT5).2.1 (sl.unhide TT5).2.2.1 (sl.unhide TT5).2.2.2 ht (sl.unhide O5).sls
  unfold an.AskE at CA
  rw [(sl.unhide TD).ask, ← sl.unhide HK] at CA
  have HCA := sl.hide CA
  clear CA
  have zF0 := (sl.unhide F5).c0
  have zF1 := (sl.unhide F5).c1
  go_wp2_with fail
  refine (sl.unhide HCA).mono ?_; rintro e w6 ⟨u6, rfl, o6, g6⟩
  obtain ⟨va6, vc6, rfl, hx6⟩ := o6.sl
  obtain ⟨W6, hW6⟩ : ∃ W6, W6 = w6.alloc (.cells #[.string K.dg, .bool K.sat, .slice va6 K.vals.length vc6, .int .i64 K.cost] 36) := ⟨_, rfl⟩
  have ga6 : w6.grownBy W6 none := by rw [hW6]; exact World.grownBy_alloc _ _ _
  have gb6 := sl.grown_trans (r := none) g6 ga6
  have O6 := sl.hide ((sl.unhide O5).kept gb6)
  have Ua6 := sl.hide ((sl.unhide Ua5).kept gb6)
  have Va6 := sl.hide ((sl.unhide Va5).kept gb6)
  have Ub6 := sl.hide ((sl.unhide Ub5).kept gb6)
  have Vb6 := sl.hide ((sl.unhide Vb5).kept gb6)
  have F6 := sl.hide ((sl.unhide F5).kept gb6)
  have C6 := sl.hide ((sl.unhide C5).kept gb6)
  have Pa6 := sl.hide ((sl.unhide Pa5).kept gb6)
  have Qa6 := sl.hide ((sl.unhide Qa5).kept gb6)
  have Pb6 := sl.hide ((sl.unhide Pb5).kept gb6)
  have Qb6 := sl.hide ((sl.unhide Qb5).kept gb6)
  have VA6 := sl.hide ((o6).kept ga6)
  have A6 : Hid (yb.Box4 36 W6 (w6.heap.size) (.string K.dg) (.bool K.sat) (.slice va6 K.vals.length vc6) (.int .i64 K.cost)) := by
    rw [hW6]
    have q := yb.Box4.new 36 w6 (.string K.dg) (.bool K.sat) (.slice va6 K.vals.length vc6) (.int .i64 K.cost)
    exact q
  have TT6 := sl.hide (And.intro ((sl.unhide TT5).1.kept gb6) (And.intro ((sl.unhide TT5).2.1.kept gb6) (And.intro ((sl.unhide TT5).2.2.1.kept gb6) ((sl.unhide TT5).2.2.2.kept gb6))))
  have HB6 := sl.hide ((sl.unhide HB5).below (sl.below_of gb6))
  have G6 := sl.hide (sl.grown_trans (r := none) (sl.unhide G5) gb6)
  clear O5 Ua5 Va5 Ub5 Vb5 F5 C5 Pa5 Qa5 Pb5 Qb5 TT5 HB5 G5 zF0 zF1 ga6 gb6 g6 hx6 o6 HCA
  go_upto_region 8 with fail
  rw [← hW6]
  clear hW6
  generalize w6.heap.size = b6 at *
  have CA := an.specAsk (.slice va M.length vc) n M _ ht (sl.unhide O6).sls
  unfold an.AskE at CA
  rw [(sl.unhide TD).ask, ← sl.unhide HK] at CA
  have HCA := sl.hide CA
  clear CA
  have hss : (K.sat != K.sat) = false := by cases K.sat <;> rfl
  have hcc : (K.cost != K.cost) = false := by simp
  have hdd : (K.dg.toList != K.dg.toList) = false := by simp
  have zF0 := (sl.unhide F6).c0
  have zF1 := (sl.unhide F6).c1
  go_wp2_with fail
  refine (sl.unhide HCA).mono ?_; rintro e w7 ⟨u7, rfl, o7, g7⟩
  obtain ⟨va7, vc7, rfl, hx7⟩ := o7.sl
  obtain ⟨W7, hW7⟩ : ∃ W7, W7 = w7.alloc (.cells #[.string K.dg, .bool K.sat, .slice va7 K.vals.length vc7, .int .i64 K.cost] 36) := ⟨_, rfl⟩
  have ga7 : w7.grownBy W7 none := by rw [hW7]; exact World.grownBy_alloc _ _ _
  have gb7 := sl.grown_trans (r := none) g7 ga7
  have O7 := sl.hide ((sl.unhide O6).kept gb7)
  have Ua7 := sl.hide ((sl.unhide Ua6).kept gb7)
  have Va7 := sl.hide ((sl.unhide Va6).kept gb7)
  have Ub7 := sl.hide ((sl.unhide Ub6).kept gb7)
  have Vb7 := sl.hide ((sl.unhide Vb6).kept gb7)
  have VA7 := sl.hide ((sl.unhide VA6).kept gb7)
  have F7 := sl.hide ((sl.unhide F6).kept gb7)
  have C7 := sl.hide ((sl.unhide C6).kept gb7)
  have Pa7 := sl.hide ((sl.unhide Pa6).kept gb7)
  have Qa7 := sl.hide ((sl.unhide Qa6).kept gb7)
  have Pb7 := sl.hide ((sl.unhide Pb6).kept gb7)
  have Qb7 := sl.hide ((sl.unhide Qb6).kept gb7)
  have A7 := sl.hide ((sl.unhide A6).kept gb7)
  have B7 : Hid (yb.Box4 36 W7 (w7.heap.size) (.string K.dg) (.bool K.sat) (.slice va7 K.vals.length vc7) (.int .i64 K.cost)) := by
    rw [hW7]
    have q := yb.Box4.new 36 w7 (.string K.dg) (.bool K.sat) (.slice va7 K.vals.length vc7) (.int .i64 K.cost)
    exact q
  have TT7 := sl.hide (And.intro ((sl.unhide TT6).1.kept gb7) (And.intro ((sl.unhide TT6).2.1.kept gb7) (And.intro ((sl.unhide TT6).2.2.1.kept gb7) ((sl.unhide TT6).2.2.2.kept gb7))))
  have HB7 := sl.hide ((sl.unhide HB6).below (sl.below_of gb7))
  have G7 := sl.hide (sl.grown_trans (r := none) (sl.unhide G6) gb7)
  clear O6 Ua6 Va6 Ub6 Vb6 VA6 F6 C6 Pa6 Qa6 Pb6 Qb6 A6 TT6 HB6 G6 zF0 zF1 ga7 gb7 g7 hx7 HCA
  clear o7
  subst hW7
  have hKv2 : K.vals.length ≤ 24 := by rw [sl.unhide HK]; exact hKv
  have CS := sl.hide (dcls.sameC _ _ K.vals _ (by omega) (sl.unhide Va7).sl (sl.unhide Vb7).sl)
  have zQa0 := (sl.unhide Qa7).c0
  have zQa1 := (sl.unhide Qa7).c1
  have zQa2 := (sl.unhide Qa7).c2
  have zQa3 := (sl.unhide Qa7).c3
  have zQb0 := (sl.unhide Qb7).c0
  have zQb1 := (sl.unhide Qb7).c1
  have zQb2 := (sl.unhide Qb7).c2
  have zQb3 := (sl.unhide Qb7).c3
  have zA0 := (sl.unhide A7).c0
  have zA1 := (sl.unhide A7).c1
  have zA2 := (sl.unhide A7).c2
  have zA3 := (sl.unhide A7).c3
  have zB0 := (sl.unhide B7).c0
  have zB1 := (sl.unhide B7).c1
  have zB2 := (sl.unhide B7).c2
  have zB3 := (sl.unhide B7).c3
  go_wp2_with fail
  refine (sl.unhide CS).mono ?_; rintro e w8 ⟨rfl, g8⟩
  have O8 := sl.hide ((sl.unhide O7).kept g8)
  have Ua8 := sl.hide ((sl.unhide Ua7).kept g8)
  have Va8 := sl.hide ((sl.unhide Va7).kept g8)
  have Ub8 := sl.hide ((sl.unhide Ub7).kept g8)
  have Vb8 := sl.hide ((sl.unhide Vb7).kept g8)
  have VA8 := sl.hide ((sl.unhide VA7).kept g8)
  have F8 := sl.hide ((sl.unhide F7).kept g8)
  have C8 := sl.hide ((sl.unhide C7).kept g8)
  have Pa8 := sl.hide ((sl.unhide Pa7).kept g8)
  have Qa8 := sl.hide ((sl.unhide Qa7).kept g8)
  have Pb8 := sl.hide ((sl.unhide Pb7).kept g8)
  have Qb8 := sl.hide ((sl.unhide Qb7).kept g8)
  have A8 := sl.hide ((sl.unhide A7).kept g8)
  have B8 := sl.hide ((sl.unhide B7).kept g8)
  have TT8 := sl.hide (And.intro ((sl.unhide TT7).1.kept g8) (And.intro ((sl.unhide TT7).2.1.kept g8) (And.intro ((sl.unhide TT7).2.2.1.kept g8) ((sl.unhide TT7).2.2.2.kept g8))))
  have HB8 := sl.hide ((sl.unhide HB7).below (sl.below_of g8))
  have G8 := sl.hide (sl.grown_trans (r := none) (sl.unhide G7) g8)
  clear O7 Ua7 Va7 Ub7 Vb7 VA7 F7 C7 Pa7 Qa7 Pb7 Qb7 A7 B7 TT7 HB7 G7 zQa0 zQa1 zQa2 zQa3 zQb0 zQb1 zQb2 zQb3 zA0 zA1 zA2 zA3 zB0 zB1 zB2 zB3 g8 CS
  have CS := sl.hide (dcls.sameC _ _ K.vals _ (by omega) (sl.unhide Va8).sl (sl.unhide VA8).sl)
  have zQa0 := (sl.unhide Qa8).c0
  have zQa1 := (sl.unhide Qa8).c1
  have zQa2 := (sl.unhide Qa8).c2
  have zQa3 := (sl.unhide Qa8).c3
  have zQb0 := (sl.unhide Qb8).c0
  have zQb1 := (sl.unhide Qb8).c1
  have zQb2 := (sl.unhide Qb8).c2
  have zQb3 := (sl.unhide Qb8).c3
  have zA0 := (sl.unhide A8).c0
  have zA1 := (sl.unhide A8).c1
  have zA2 := (sl.unhide A8).c2
  have zA3 := (sl.unhide A8).c3
  have zB0 := (sl.unhide B8).c0
  have zB1 := (sl.unhide B8).c1
  have zB2 := (sl.unhide B8).c2
  have zB3 := (sl.unhide B8).c3
  go_wp2_with fail
  refine (sl.unhide CS).mono ?_; rintro e w9 ⟨rfl, g9⟩
  have O9 := sl.hide ((sl.unhide O8).kept g9)
  have Ua9 := sl.hide ((sl.unhide Ua8).kept g9)
  have Va9 := sl.hide ((sl.unhide Va8).kept g9)
  have Ub9 := sl.hide ((sl.unhide Ub8).kept g9)
  have Vb9 := sl.hide ((sl.unhide Vb8).kept g9)
  have VA9 := sl.hide ((sl.unhide VA8).kept g9)
  have F9 := sl.hide ((sl.unhide F8).kept g9)
  have C9 := sl.hide ((sl.unhide C8).kept g9)
  have Pa9 := sl.hide ((sl.unhide Pa8).kept g9)
  have Qa9 := sl.hide ((sl.unhide Qa8).kept g9)
  have Pb9 := sl.hide ((sl.unhide Pb8).kept g9)
  have Qb9 := sl.hide ((sl.unhide Qb8).kept g9)
  have A9 := sl.hide ((sl.unhide A8).kept g9)
  have B9 := sl.hide ((sl.unhide B8).kept g9)
  have TT9 := sl.hide (And.intro ((sl.unhide TT8).1.kept g9) (And.intro ((sl.unhide TT8).2.1.kept g9) (And.intro ((sl.unhide TT8).2.2.1.kept g9) ((sl.unhide TT8).2.2.2.kept g9))))
  have HB9 := sl.hide ((sl.unhide HB8).below (sl.below_of g9))
  have G9 := sl.hide (sl.grown_trans (r := none) (sl.unhide G8) g9)
  clear O8 Ua8 Va8 Ub8 Vb8 VA8 F8 C8 Pa8 Qa8 Pb8 Qb8 A8 B8 TT8 HB8 G8 zQa0 zQa1 zQa2 zQa3 zQb0 zQb1 zQb2 zQb3 zA0 zA1 zA2 zA3 zB0 zB1 zB2 zB3 g9 CS
  have zQa0 := (sl.unhide Qa9).c0
  have zQa1 := (sl.unhide Qa9).c1
  have zQa2 := (sl.unhide Qa9).c2
  have zQa3 := (sl.unhide Qa9).c3
  have zA0 := (sl.unhide A9).c0
  have zA1 := (sl.unhide A9).c1
  have zA2 := (sl.unhide A9).c2
  have zA3 := (sl.unhide A9).c3
  have zB0 := (sl.unhide B9).c0
  have zB1 := (sl.unhide B9).c1
  have zB2 := (sl.unhide B9).c2
  have zB3 := (sl.unhide B9).c3
  go_wp2_with fail
  refine (dk.drawLookup a0 len0 cap0 _ hlen (sl.unhide HB9)).mono ?_; rintro e w10 ⟨rm, KK, u10, lo, n2, v10, M2, la, lb, rfl, hd2, hl2, hv2, ht2, ho2, g10⟩
  obtain ⟨ua10, uc10, rfl⟩ := hv2.len
  obtain ⟨va10, vc10, rfl⟩ := ho2.len
  have hn2 : ua.tot KK ≤ 1048576 := Nat.le_trans (dk.dk_tot hd2 hl2) (by decide)
  obtain ⟨W10, hW10⟩ : ∃ W10, W10 = (w10.alloc (.cells #[.int .i64 rm, .slice ua10 KK.length uc10] 30)).alloc (.cells #[.int .i64 n2, .slice va10 M2.length vc10] 26) := ⟨_, rfl⟩
  have ga10 : w10.grownBy W10 none := by rw [hW10]; exact sl.grown_trans (World.grownBy_alloc _ _ _) (World.grownBy_alloc _ _ _)
  have gb10 := sl.grown_trans (r := none) g10 ga10
  have O10 := sl.hide ((sl.unhide O9).kept gb10)
  have Ua10 := sl.hide ((sl.unhide Ua9).kept gb10)
  have Va10 := sl.hide ((sl.unhide Va9).kept gb10)
  have Ub10 := sl.hide ((sl.unhide Ub9).kept gb10)
  have Vb10 := sl.hide ((sl.unhide Vb9).kept gb10)
  have VA10 := sl.hide ((sl.unhide VA9).kept gb10)
  have F10 := sl.hide ((sl.unhide F9).kept gb10)
  have C10 := sl.hide ((sl.unhide C9).kept gb10)
  have Pa10 := sl.hide ((sl.unhide Pa9).kept gb10)
  have Qa10 := sl.hide ((sl.unhide Qa9).kept gb10)
  have Pb10 := sl.hide ((sl.unhide Pb9).kept gb10)
  have Qb10 := sl.hide ((sl.unhide Qb9).kept gb10)
  have A10 := sl.hide ((sl.unhide A9).kept gb10)
  have B10 := sl.hide ((sl.unhide B9).kept gb10)
  have X10 := sl.hide ((hv2).kept ga10)
  have Y10 := sl.hide ((ho2).kept ga10)
  have D10 : Hid (cf.Box 30 W10 (w10.heap.size) (.int .i64 rm) (.slice ua10 KK.length uc10)) := by
    rw [hW10]
    have q := (cf.Box.new 30 w10 (.int .i64 rm) (.slice ua10 KK.length uc10)).kept (World.grownBy_alloc _ (.cells #[.int .i64 n2, .slice va10 M2.length vc10] 26) none)
    exact q
  have E10 : Hid (cf.Box 26 W10 (w10.heap.size + 1) (.int .i64 n2) (.slice va10 M2.length vc10)) := by
    rw [hW10]
    have q := cf.Box.new 26 (w10.alloc (.cells #[.int .i64 rm, .slice ua10 KK.length uc10] 30)) (.int .i64 n2) (.slice va10 M2.length vc10)
    simp only [World.size_alloc] at q
    exact q
  have TT10 := sl.hide (And.intro ((sl.unhide TT9).1.kept gb10) (And.intro ((sl.unhide TT9).2.1.kept gb10) (And.intro ((sl.unhide TT9).2.2.1.kept gb10) ((sl.unhide TT9).2.2.2.kept gb10))))
  have HB10 := sl.hide ((sl.unhide HB9).below (sl.below_of gb10))
  have G10 := sl.hide (sl.grown_trans (r := none) (sl.unhide G9) gb10)
  clear O9 Ua9 Va9 Ub9 Vb9 VA9 F9 C9 Pa9 Qa9 Pb9 Qb9 A9 B9 TT9 HB9 G9 zQa0 zQa1 zQa2 zQa3 zA0 zA1 zA2 zA3 zB0 zB1 zB2 zB3 ga10 gb10 g10 hd2 hl2 hv2 ho2 hss hcc hdd
  go_upto_region 12 with fail
  rw [← hW10]
  clear hW10
  generalize w10.heap.size = b10 at *
  have CI := fun w' tT tP tK tS hv hu => an.implLookup (.slice ua10 KK.length uc10) (.slice va10 M2.length vc10) rm KK n2 M2 w' tT tP tK tS hn2 ht2 hv hu
  have CM := fun w' hv hu => an.specLookup (.slice ua10 KK.length uc10) (.slice va10 M2.length vc10) rm KK n2 M2 w' hn2 ht2 hv hu
  unfold an.LkE at CI
  unfold an.LkS at CM
  generalize an.lkK rm KK n2 M2 = K2 at *
  generalize an.lkL rm KK n2 M2 = L2 at *
  generalize an.lkB rm KK n2 M2 = B2 at *
  obtain ⟨d2, s2, vs2, c2⟩ := K2
  dsimp only at CI CM
  have HCI := sl.hide (CI _ (sl.unhide TT10).1 (sl.unhide TT10).2.1 (sl.unhide TT10).2.2.1 (sl.unhide TT10).2.2.2 (sl.unhide X10).vkns (sl.unhide Y10).sls)
  have HCM := sl.hide CM
  clear CI CM
  have zD0 := (sl.unhide D10).c0
  have zD1 := (sl.unhide D10).c1
  have zE0 := (sl.unhide E10).c0
  have zE1 := (sl.unhide E10).c1
  go_wp2_with fail
  refine (sl.unhide HCI).mono ?_; rintro e w11 ⟨u11, v11, mid11, rfl, hm11, hn11, ov11, ou11, g11⟩
  obtain ⟨ua11, uc11, rfl⟩ := ou11.len
  obtain ⟨va11, vc11, rfl, hx11⟩ := ov11.sl
  obtain ⟨W11, hW11⟩ : ∃ W11, W11 = (w11.alloc (.cells #[.int .i64 rm, .slice ua11 L2.length uc11] 30)).alloc (.cells #[.string d2, .bool s2, .slice va11 vs2.length vc11, .int .i64 c2] 36) := ⟨_, rfl⟩
  have ga11 : w11.grownBy W11 none := by rw [hW11]; exact sl.grown_trans (World.grownBy_alloc _ _ _) (World.grownBy_alloc _ _ _)
  have gb11 := sl.grown_trans (r := none) g11 ga11
  have Ub11 := sl.hide ((sl.unhide Ub10).kept gb11)
  have X11 := sl.hide ((sl.unhide X10).kept gb11)
  have Y11 := sl.hide ((sl.unhide Y10).kept gb11)
  have Pa11 := sl.hide ((sl.unhide Pa10).kept gb11)
  have Pb11 := sl.hide ((sl.unhide Pb10).kept gb11)
  have D11 := sl.hide ((sl.unhide D10).kept gb11)
  have E11 := sl.hide ((sl.unhide E10).kept gb11)
  have R11 : Hid (cf.Box 30 W11 (w11.heap.size) (.int .i64 rm) (.slice ua11 L2.length uc11)) := by
    rw [hW11]
    have q := (cf.Box.new 30 w11 (.int .i64 rm) (.slice ua11 L2.length uc11)).kept (World.grownBy_alloc _ (.cells #[.string d2, .bool s2, .slice va11 vs2.length vc11, .int .i64 c2] 36) none)
    exact q
  have S11 : Hid (yb.Box4 36 W11 (w11.heap.size + 1) (.string d2) (.bool s2) (.slice va11 vs2.length vc11) (.int .i64 c2)) := by
    rw [hW11]
    have q := yb.Box4.new 36 (w11.alloc (.cells #[.int .i64 rm, .slice ua11 L2.length uc11] 30)) (.string d2) (.bool s2) (.slice va11 vs2.length vc11) (.int .i64 c2)
    simp only [World.size_alloc] at q
    exact q
  have TT11 := sl.hide (And.intro ((sl.unhide TT10).1.kept gb11) (And.intro ((sl.unhide TT10).2.1.kept gb11) (And.intro ((sl.unhide TT10).2.2.1.kept gb11) ((sl.unhide TT10).2.2.2.kept gb11))))
  have HB11 := sl.hide ((sl.unhide HB10).below (sl.below_of gb11))
  have G11 := sl.hide (sl.grown_trans (r := none) (sl.unhide G10) gb11)
  clear Ub10 X10 Y10 Pa10 Pb10 D10 E10 TT10 HB10 G10 zD0 zD1 zE0 zE1 ga11 gb11 g11 hm11 hn11 hx11 ov11 ou11 HCI
  go_upto_region 13 with fail
  rw [← hW11]
  clear hW11
  generalize w11.heap.size = b11 at *
  have HC2 := sl.hide (sl.unhide HCM _ (sl.unhide X11).vkns (sl.unhide Y11).sls)
  have zD0 := (sl.unhide D11).c0
  have zD1 := (sl.unhide D11).c1
  have zE0 := (sl.unhide E11).c0
  have zE1 := (sl.unhide E11).c1
  go_wp2_with fail
  refine (sl.unhide HC2).mono ?_; rintro e w12 ⟨u12, v12, rfl, ov12, ou12, g12⟩
  obtain ⟨ua12, uc12, rfl⟩ := ou12.len
  obtain ⟨va12, vc12, rfl, hx12⟩ := ov12.sl
  obtain ⟨W12, hW12⟩ : ∃ W12, W12 = (w12.alloc (.cells #[.int .i64 rm, .slice ua12 L2.length uc12] 30)).alloc (.cells #[.string d2, .bool s2, .slice va12 vs2.length vc12, .int .i64 c2] 36) := ⟨_, rfl⟩
  have ga12 : w12.grownBy W12 none := by rw [hW12]; exact sl.grown_trans (World.grownBy_alloc _ _ _) (World.grownBy_alloc _ _ _)
  have gb12 := sl.grown_trans (r := none) g12 ga12
  have Ub12 := sl.hide ((sl.unhide Ub11).kept gb12)
  have X12 := sl.hide ((sl.unhide X11).kept gb12)
  have Y12 := sl.hide ((sl.unhide Y11).kept gb12)
  have Pa12 := sl.hide ((sl.unhide Pa11).kept gb12)
  have Pb12 := sl.hide ((sl.unhide Pb11).kept gb12)
  have D12 := sl.hide ((sl.unhide D11).kept gb12)
  have E12 := sl.hide ((sl.unhide E11).kept gb12)
  have R12 := sl.hide ((sl.unhide R11).kept gb12)
  have S12 := sl.hide ((sl.unhide S11).kept gb12)
  have R212 : Hid (cf.Box 30 W12 (w12.heap.size) (.int .i64 rm) (.slice ua12 L2.length uc12)) := by
    rw [hW12]
    have q := (cf.Box.new 30 w12 (.int .i64 rm) (.slice ua12 L2.length uc12)).kept (World.grownBy_alloc _ (.cells #[.string d2, .bool s2, .slice va12 vs2.length vc12, .int .i64 c2] 36) none)
    exact q
  have S212 : Hid (yb.Box4 36 W12 (w12.heap.size + 1) (.string d2) (.bool s2) (.slice va12 vs2.length vc12) (.int .i64 c2)) := by
    rw [hW12]
    have q := yb.Box4.new 36 (w12.alloc (.cells #[.int .i64 rm, .slice ua12 L2.length uc12] 30)) (.string d2) (.bool s2) (.slice va12 vs2.length vc12) (.int .i64 c2)
    simp only [World.size_alloc] at q
    exact q
  have TT12 := sl.hide (And.intro ((sl.unhide TT11).1.kept gb12) (And.intro ((sl.unhide TT11).2.1.kept gb12) (And.intro ((sl.unhide TT11).2.2.1.kept gb12) ((sl.unhide TT11).2.2.2.kept gb12))))
  have HB12 := sl.hide ((sl.unhide HB11).below (sl.below_of gb12))
  have G12 := sl.hide (sl.grown_trans (r := none) (sl.unhide G11) gb12)
  clear Ub11 X11 Y11 Pa11 Pb11 D11 E11 R11 S11 TT11 HB11 G11 zD0 zD1 zE0 zE1 ga12 gb12 g12 hx12 ov12 ou12 HC2 HCM
  go_upto_region 14 with fail
  rw [← hW12]
  clear hW12
  generalize w12.heap.size = b12 at *
  have hB2 : (B2 == B2) = true := by cases B2 <;> rfl
  have hc2 : (c2 == c2) = true := by simp
  have CO := ua.implCacheOk (.slice ua5 1 uc5) r [K] _ (by simp) (fun i => by
      have h1 : K.dg.size ≤ 32 := by rw [sl.unhide HK]; exact (dk.dk_ask n M).2.1
      cases i with
      | zero => exact Nat.le_trans h1 (by decide)
      | succ i => exact Nat.zero_le _) (sl.unhide Ub12).vkns
  rw [sl.unhide HK, (sl.unhide TD).ok] at CO
  have HCO := sl.hide CO
  clear CO
  have zS0 := (sl.unhide S12).c0
  have zS1 := (sl.unhide S12).c1
  have zS2 := (sl.unhide S12).c2
  have zS3 := (sl.unhide S12).c3
  have zS20 := (sl.unhide S212).c0
  have zS21 := (sl.unhide S212).c1
  have zS22 := (sl.unhide S212).c2
  have zS23 := (sl.unhide S212).c3
  have zPa0 := (sl.unhide Pa12).c0
  have zPa1 := (sl.unhide Pa12).c1
  have zPb0 := (sl.unhide Pb12).c0
  have zPb1 := (sl.unhide Pb12).c1
  go_wp2_with fail
  refine (sl.unhide HCO).mono ?_; rintro e w13 ⟨rfl, g13⟩
  go_wp2_with fail
  go_ret
  exact ⟨rfl, sl.below_of (sl.grown_trans (r := none) (sl.unhide G12) g13)⟩

/-! ### the row's step (the guide's own frame) -/
set_option maxRecDepth 100000 in
theorem contract (H : Type) (enc : TypeId × Value → H) (W : World) (base : Nat) (args : Array Value) (ds gs : List (DataW H)) (before : List MemPlace)
    (hval : ∀ (j : Nat) t v, Tryz.f3.params[j]? = some t → args[j]? = some v → Value.okWide Tryz.prog W .any base t v)
    (hW : DataW.Whole enc Tryz.prog Tryz.f3.params.toList Rows.fnLookupSpec.vars false W args.toList ds gs before) (hL : laidMetH Tryz.prog Rows.fnLookupRow.laid W) :
    Calls Tryz.prog 3 args W fun e W' => ∃ v, e = .returned v ∧ Rows.fnLookupSpec.post enc Tryz.prog Tryz.f3 false true false false W args v W' := by
  have hW' := hW
  obtain ⟨p, q, hA0, hV, rfl, hfz, hnd⟩ := hW
  have hA : DataW.TrodAll enc Tryz.prog W 0 (fun _ => true) true Tryz.f3.params.toList args.toList ds p := hA0
  rw [Tryz.params3] at hA hval
  obtain ⟨v0, vs0, d0, ds0, p0, q0, hargs, rfl, rfl, h0, r0⟩ := trodAll_cons hA
  obtain ⟨rfl, rfl, rfl⟩ := trodAll_nil r0
  obtain rfl : args = #[v0] := by cases args; simp_all
  obtain ⟨g0, g1, rfl⟩ := vars2 hV
  obtain ⟨a0, len0, cap0, rfl⟩ := okWide_slice Tryz.underlying22 (hval 0 22 v0 rfl rfl)
  have k0 := h0
  have lt0 : ∀ x ∈ p0, x.block < W.heap.size := by obtain ⟨m, hm⟩ := k0; exact DataW.trod_lt m _ _ _ hm
  obtain ⟨z0, w0⟩ : ∃ zs, IsRow .u8 W a0 len0 cap0 zs := by
    obtain ⟨fuel, hf⟩ := h0
    rcases open_ints Tryz.underlying22 Tryz.underlying5 (by kernel_rfl) hf with ⟨hcs, _⟩ | ⟨x, l, c, zs, hcs, _, hl, hm, hz, _, hcell, hwz⟩
    · simp [Value.cells] at hcs
      obtain ⟨rfl, rfl, rfl⟩ := hcs
      exact ⟨[], .inl ⟨rfl, rfl, rfl, rfl⟩⟩
    · simp [Value.cells] at hcs
      obtain ⟨rfl, rfl, rfl⟩ := hcs
      exact ⟨zs, .inr ⟨_, rfl, hl, hm, by simpa using hz, hcell, hwz⟩⟩
  clear hA0
  refine (walk a0 len0 cap0 z0 W w0 (table hL)).mono fun e W' ⟨he, bel⟩ => ?_
  subst he
  exact ⟨_, rfl, _, _, _, [], _, _, hW', trodAll_mk1 (shut_bool Tryz.underlying4 _), (trodAll_cons_mk (Below.trod laidOut (by kernel_rfl) (of_decide_eq_true (by kernel_rfl)) k0 bel lt0) trodAll_mk0), Below.trodVars laidOutV bel (by kernel_rfl) hV, bel.frame _, fun h => by cases h⟩

set_option maxRecDepth 100000 in
theorem lifted (os : Os) (started : os.Started) (H : Type) (enc : TypeId × Value → H) (F : Stop.Interp) :
    ReturnsInHanded {} Tryz.checked os 3 .any ((OpenSpec.ofChange Rows.fnLookupSpec).preRow enc Tryz.prog Tryz.f3 Rows.fnLookupRow.domain false Rows.fnLookupRow.laid) (((OpenSpec.ofChange Rows.fnLookupSpec).at F).post enc Tryz.prog Tryz.f3 false true false false) := by
  refine returnsInHanded_of_row (C := Tryz.checked) (s := OpenSpec.ofChange Rows.fnLookupSpec) own started (by kernel_rfl) Tryz.func3
    (witness_row_at (enc := enc) (C := Tryz.checked) false ({ World.holding Tryz.prog os ⟨#[], #[], []⟩ with heap := (((((World.holding Tryz.prog os ⟨#[], #[], []⟩).heap.modify 4 fun | .cells _ t frozen => .cells (Lib.deBruijn32tab.map fun (n : Nat) => Value.int .u8 n).toArray t frozen | o => o).modify 2 fun | .cells _ t frozen => .cells (Lib.deBruijn64tab.map fun (n : Nat) => Value.int .u8 n).toArray t frozen | o => o).modify 3 fun | .cells _ t frozen => .cells (Lib.pow10Tab.map fun n => Value.int .u64 n).toArray t frozen | o => o).modify 1 fun | .cells _ t frozen => .cells (zk.kL.map fun n => Value.int .u32 n).toArray t frozen | o => o).modify 0 fun | .cells _ t frozen => .cells (zk.sL.map fun n => Value.int .u32 n).toArray t frozen | o => o } : World) #[.slice none 0 0] rfl (by kernel_rfl) (by kernel_rfl) (by kernel_rfl)
      (OpenSpec.preRow_of_cond 8 (x := ([.nil], [Rows.laid_loop_example_g00123_impl_sumStarts, Rows.laid_loop_example_g00123_impl_sumConsts], MemPlace.row ⟨0, 0, none⟩ 8 ++ MemPlace.row ⟨1, 0, none⟩ 64)) (by kernel_rfl) (by kernel_rfl) (fun k hk => by cases hk) (by kernel_rfl) (laidMet_of_run' 8 (by kernel_rfl) (by kernel_rfl)))) ?_
  intro W base args ds gs before hval hW _ _ _ hL _ _
  exact contract H enc W base args ds gs before hval hW hL

theorem said : Rows.FnLookupSaid :=
  OpenClaim.holds_of_cond 3 Tryz.f3 rfl rfl rfl rfl rfl rfl rfl ⟨rfl, rfl, rfl, rfl, rfl⟩ rfl rfl rfl rfl rfl (by kernel_rfl) Tryz.func3 (by kernel_rfl)
    (of_decide_eq_true (by kernel_rfl)) (by unfold Func.isWrapper; first | (rw [if_pos (by decide +kernel)]; kernel_rfl) | (rw [if_neg (by decide +kernel)]; exact ⟨rfl, rfl⟩))
    (fun os started H enc _ F => by rw [OpenClaim.pre_eq_preRow]; exact lifted os started H enc F)

theorem plain (f : FuncId) (fn : Func) (hf : Tryz.pinned.checked.prog.funcNamed "loop.example/g00123/laws.FnLookup" = some f) (hfn : Tryz.pinned.checked.prog.funcs[f]? = some fn) :
    false = Tryz.pinned.checked.prog.looks [] ∧ ∀ (j : Nat) t, fn.params[j]? = some t → Tryz.pinned.checked.prog.wantsStandIn t = false := by
  obtain rfl : f = 3 := Option.some.inj ((show Tryz.prog.funcNamed "loop.example/g00123/laws.FnLookup" = some 3 by kernel_rfl).symm.trans hf) |>.symm
  obtain rfl : fn = Tryz.f3 := (Option.some.inj (Tryz.func3.symm.trans hfn)).symm
  refine ⟨by kernel_rfl, fun j t ht => ?_⟩
  rw [Tryz.params3] at ht
  obtain rfl : t = 22 := by simpa using Array.mem_of_getElem? ht
  exact (show Tryz.prog.wantsStandIn 22 = false by kernel_rfl)

/-- the statement: the row's tied card -/
theorem proved : Rows.FnLookupCardSaid :=
  Claim7.holds_tied_plain_at .later [] _ _ _ _ said (fun _ h => by cases h) (by kernel_rfl) (fun _ h => by cases h) fnLookup_row_tie rfl ⟨rfl, rfl⟩ (by kernel_rfl) rfl plain (by kernel_rfl)
#print axioms proved
end Go.Proofs.YtnlllcgcaddhmaaGreatDoor.fnLookup
