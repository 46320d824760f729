/- At every formula the law FnExactAsk returns true: Ask answers as the model, writes into no argument and owns its answer; the tables of the library (of places and of powers of ten) and the tables of the sum that are the program's own lie as their texts lay them (tied). -/
import Derived.Test.YtgjakiliepfjiaaGreatDoorCards
import Derived.Test.YtgjakiliepfjiaaGreatDoorTie
import Derived.OpenVars
import Derived.Test.YtgjakiliepfjiaaGreatDoorJXRow
import Derived.Test.YtgjakiliepfjiaaGreatDoorJXAn
import Derived.Test.YtgjakiliepfjiaaGreatDoorJUd
import Derived.WalkKit
import Derived.ProofKit
import Derived.OpenShut
import Derived.ShutString
import Derived.ChangeOld
import Derived.Below
import Derived.Deep.DeepHandedRow
import Derived.Lib.LaidTab
import Derived.Lib.TrailingZeros
import Derived.Stop.LaidErr
import Derived.Stop.LaidTwo
import Derived.LaidHandle
import Derived.LaidSub
namespace Go.Proofs.YtgjakiliepfjiaaGreatDoor.fnExactAsk
open Go.ChangeShapes Go.WideShapes Go.ChangeAt Go.RowKit
open Go.ChangeMaps (open_string shut_string)
set_option linter.unusedVariables false

theorem own : ownKnob Tryz.prog.godebug = none := by kernel_rfl
theorem laidOut : laidOutB Tryz.prog = true := by kernel_rfl

theorem laidOutV : laidOutB Tryz.prog = true := by kernel_rfl
theorem vars1 {H : Type} {enc : TypeId × Value → H} {P : Program} {w : World} {sp : Nat → Bool} {n : String} {gs : List (DataW H)} {ps : List MemPlace} (h : DataW.TrodVars enc P w sp [n] gs ps) : ∃ g, gs = [g] := by
  cases gs with
  | nil => exact h.elim
  | cons g t =>
    obtain ⟨_, _, _, _, _, _, _, _, _, _, hs, _⟩ := h
    cases t with
    | nil => exact ⟨g, rfl⟩
    | cons _ _ => exact hs.elim
theorem vars2 {H : Type} {enc : TypeId × Value → H} {P : Program} {w : World} {sp : Nat → Bool} {n m : String} {gs : List (DataW H)} {ps : List MemPlace} (h : DataW.TrodVars enc P w sp [n, m] gs ps) : ∃ g k, gs = [g, k] := by
  cases gs with
  | nil => exact h.elim
  | cons g t =>
    obtain ⟨_, _, _, _, _, _, _, _, _, _, hs, _⟩ := h
    obtain ⟨k, rfl⟩ := vars1 hs
    exact ⟨g, k, rfl⟩
theorem gTab : Tryz.prog.globalNamed "math/bits.deBruijn64tab" = some 2 := by kernel_rfl
theorem gTabType : (Tryz.prog.globals[2]?).map (·.type) = some 229 := by kernel_rfl
theorem cellsTab : Tryz.prog.cellsOf 229 = 64 := by kernel_rfl
theorem cellsByte : Tryz.prog.cellsOf 5 = 1 := by kernel_rfl
theorem gPowType : (Tryz.prog.globals[3]?).map (·.type) = some 239 := by kernel_rfl
theorem cellsPow : Tryz.prog.cellsOf 239 = 20 := by kernel_rfl
theorem cellsU64 : Tryz.prog.cellsOf 151 = 1 := by kernel_rfl
theorem powData : (Rows.laid_internal_strconv_uint64pow10 : DataW Unit) = Lib.tabData .u64 Lib.pow10Tab := by kernel_rfl
theorem tabData64 : (Rows.laid_math_bits_deBruijn64tab : DataW Unit) = Lib.tabData .u8 (Lib.deBruijn64tab.map fun (n : Nat) => (n : Int)) := by kernel_rfl
theorem gK : Tryz.prog.globalNamed "loop.example/g00123/impl.sumConsts" = some 1 := by kernel_rfl
theorem tyK : (Tryz.prog.globals[1]?).map (·.type) = some 215 := by kernel_rfl
theorem cellsK : Tryz.prog.cellsOf 215 = 64 := by kernel_rfl
theorem dataK : (Rows.laid_loop_example_g00123_impl_sumConsts : DataW Unit) = Lib.tabData .u32 zk.kL := by kernel_rfl
theorem gS : Tryz.prog.globalNamed "loop.example/g00123/impl.sumStarts" = some 0 := by kernel_rfl
theorem tyS : (Tryz.prog.globals[0]?).map (·.type) = some 147 := by kernel_rfl
theorem cellsS : Tryz.prog.cellsOf 147 = 8 := by kernel_rfl
theorem dataS : (Rows.laid_loop_example_g00123_impl_sumStarts : DataW Unit) = Lib.tabData .u32 zk.sL := by kernel_rfl
theorem cellsW : Tryz.prog.cellsOf 121 = 1 := by kernel_rfl
theorem laid_tail {P : Program} {W : World} {x : String × DataW Unit} {rest : List (String × DataW Unit)} (h : laidMet P (x :: rest) W) : laidMet P rest W := by
  obtain ⟨ps, hv, hn, hc⟩ := h
  obtain ⟨n, d⟩ := x
  obtain ⟨g, t, cs, fuel, p, q, _, _, _, _, hr, rfl⟩ := hv
  exact ⟨q, hr, (List.nodup_append.1 hn).2.1, fun b off hm => hc b off (List.mem_append_right _ hm)⟩
/-- what the row's list gives: the tables as they lie -/
theorem table {W : World} (h : laidMetH Tryz.prog Rows.fnExactAskRow.laid W) : srt.Tab W ∧ txt.Pow W ∧ zk.TabK W ∧ zk.TabS W := by
  have h1 : laidMet Tryz.prog Rows.fnExactAskRow.laid W := h
  have h2 := laid_tail h1
  have h3 := laid_tail h2
  have h4 := laid_tail h3
  have h5 := laid_tail h4
  have tT : srt.Tab W := by
    have hh : laidMet Tryz.prog (("math/bits.deBruijn64tab", Lib.tabData .u8 (Lib.deBruijn64tab.map fun (n : Nat) => (n : Int))) :: [("internal/strconv.uint64pow10", Rows.laid_internal_strconv_uint64pow10), ("loop.example/g00123/impl.sumConsts", Rows.laid_loop_example_g00123_impl_sumConsts), ("loop.example/g00123/impl.sumStarts", Rows.laid_loop_example_g00123_impl_sumStarts)]) W := by
      rw [← tabData64]
      exact h2
    have t : Lib.TabIs Tryz.prog W "math/bits.deBruijn64tab" .u8 (Lib.deBruijn64tab.map fun (n : Nat) => (n : Int)) :=
      Lib.tabIs_of_head gTab gTabType Tryz.underlying229 Tryz.underlying5 cellsByte cellsTab hh
    intro j hj
    have c := t.cell gTab j (by rw [List.length_map]; exact hj)
    rw [c]
    congr 2
    rw [List.getD, List.getD, List.getElem?_map]
    cases Lib.deBruijn64tab[j]? <;> rfl
  have tP : txt.Pow W := by
    have hh : laidMet Tryz.prog (("internal/strconv.uint64pow10", Lib.tabData .u64 Lib.pow10Tab) :: [("loop.example/g00123/impl.sumConsts", Rows.laid_loop_example_g00123_impl_sumConsts), ("loop.example/g00123/impl.sumStarts", Rows.laid_loop_example_g00123_impl_sumStarts)]) W := by
      rw [← powData]
      exact h3
    have t : Lib.TabIs Tryz.prog W "internal/strconv.uint64pow10" .u64 Lib.pow10Tab :=
      Lib.tabIs_of_head txt.gPow gPowType Tryz.underlying239 Tryz.underlying151 cellsU64 cellsPow hh
    exact ⟨World.block_lt_of_cell? W _ (t.cell txt.gPow 0 (by decide)), t⟩
  have tK : zk.TabK W := by
    have hh : laidMet Tryz.prog (("loop.example/g00123/impl.sumConsts", Lib.tabData .u32 zk.kL) :: [("loop.example/g00123/impl.sumStarts", Rows.laid_loop_example_g00123_impl_sumStarts)]) W := by
      rw [← dataK]
      exact h4
    have t : Lib.TabIs Tryz.prog W "loop.example/g00123/impl.sumConsts" .u32 zk.kL :=
      Lib.tabIs_of_head gK tyK Tryz.underlying215 Tryz.underlying121 cellsW cellsK hh
    exact fun j hj => t.cell gK j hj
  have tS : zk.TabS W := by
    have hh : laidMet Tryz.prog (("loop.example/g00123/impl.sumStarts", Lib.tabData .u32 zk.sL) :: []) W := by
      rw [← dataS]
      exact h5
    have t : Lib.TabIs Tryz.prog W "loop.example/g00123/impl.sumStarts" .u32 zk.sL :=
      Lib.tabIs_of_head gS tyS Tryz.underlying147 Tryz.underlying121 cellsW cellsS hh
    exact fun j hj => t.cell gS j hj
  exact ⟨tT, tP, tK, tS⟩

/-! ### the walk -/
set_option maxRecDepth 100000 in
set_option maxHeartbeats 8000000 in
theorem walk (n0 : Int) (v0 : Value) (LL0 : List (List Int)) (w : World) (f0 : (Lit.int .i64 n0).wf = true) (w0 : row.IsRows w v0 LL0) (hT : srt.Tab w ∧ txt.Pow w ∧ zk.TabK w ∧ zk.TabS w) :
    Calls Tryz.prog 4 #[.agg #[.int .i64 n0, v0]] w fun e w' => e = .returned (.bool true) ∧ Below w.heap.size w w' := by
  obtain ⟨hS, hl0, hl1⟩ := w0
  obtain ⟨tT, tP, tK, tS⟩ := hT
  obtain ⟨K, hK⟩ : ∃ K, K = an.askK n0 LL0 := ⟨_, rfl⟩
  obtain ⟨b, hb⟩ : ∃ b, b = an.askB n0 LL0 := ⟨_, rfl⟩
  have CI := fun (hn : css.tot LL0 ≤ 1048576) v w1 (gx : w.grownBy w1 none) hv => an.implAsk v n0 LL0 w1 (tT.kept gx) (tP.kept gx) (tK.kept gx) (tS.kept gx) hn hv
  have CS := fun (hn : css.tot LL0 ≤ 1048576) v w1 hv => an.specAsk v n0 LL0 w1 hn hv
  unfold an.AskE at CI CS
  have hV := an.ask_vals n0 LL0
  rw [← hK, ← hb] at CI CS
  rw [← hK] at hV
  clear hK hb tT tP tK tS
  obtain ⟨dg, sat, vals, cost⟩ := K
  dsimp only at CI CS hV
  have HCI := sl.hide CI
  have HCS := sl.hide CS
  clear CI CS
  have g0 := World.grownBy_alloc w (.cells #[.int .i64 n0, v0] 45) none
  have C0 := sl.hide (cf.szCnf v0 n0 LL0 1048576 _ (by decide) (by decide) hl0 hl1 (hS.kept g0))
  have S := sl.hide hS
  have F0 := sl.hide (cf.Box.new 45 w (.int .i64 n0) v0)
  have B0 := sl.hide (sl.below_of g0)
  have sw0 : w.heap.size + 1 ≤ (w.alloc (.cells #[.int .i64 n0, v0] 45)).heap.size := by rw [World.size_alloc]; exact Nat.le_refl _
  clear hS g0 hl0 hl1
  go_enter Tryz.func4, Tryz.ntmps4
  go_wp2_with fail
  refine (sl.unhide C0).mono ?_; rintro e w1 ⟨r1, rfl, g1⟩
  obtain ⟨g1, hr1⟩ := g1
  have t1 := g1.size
  have B1 := sl.hide (sl.below_none (sl.unhide B0) g1)
  have F1 := sl.hide ((sl.unhide F0).kept g1)
  clear g1 B0 F0
  rcases hr1 with rfl | ⟨hr0, hr1⟩
  · go_wp2_with fail
    go_ret
    exact ⟨rfl, sl.unhide B1⟩
  have hn : css.tot LL0 ≤ 1048576 := by omega
  have hq : ¬ r1 < 0 := by omega
  have hnV : vals.length ≤ 1048576 := by omega
  have DI := sl.hide (sl.unhide HCI hn)
  have DS := sl.hide (sl.unhide HCS hn)
  have HS0 : Hid (css.sumLen LL0 ≤ 1048576) := Nat.le_trans (css.sumLen_le LL0) hn
  clear hr1 hV HCI HCS C0
  have zF0 := (sl.unhide F1).c0
  have zF1 := (sl.unhide F1).c1
  go_wp2_with fail
  refine (cf.toCnf v0 n0 LL0 _ hn ((sl.unhide S).below (sl.unhide B1))).mono ?_; rintro e w2 ⟨u2, rfl, o2, g2⟩
  clear zF0 zF1
  obtain ⟨ua2, uc2, rfl⟩ := o2.len
  have t2 := g2.size
  have B2 := sl.hide (sl.below_none (sl.unhide B1) g2)
  have F2 := sl.hide ((sl.unhide F1).kept g2)
  have P2 := sl.hide o2
  clear o2
  clear g2 B1 F1
  go_wp2_with fail
  refine (sl.unhide DS _ _ (sl.unhide P2).sls).mono ?_; rintro e w3 ⟨u3, rfl, o3, g3⟩
  obtain ⟨ua3, uc3, rfl, vx3⟩ := o3.sl
  clear vx3
  have t3 := g3.size
  have B3 := sl.hide (sl.below_none (sl.unhide B2) g3)
  have P3 := sl.hide ((sl.unhide P2).kept g3)
  have F3 := sl.hide ((sl.unhide F2).kept g3)
  clear g3 B2 P2 F2
  clear P3
  have VL := sl.hide o3.sl
  clear o3
  have D3 := sl.hide (ua.Old.start w3)
  obtain ⟨V3, hV3⟩ : ∃ V, V = w3.alloc (.cells #[.string dg, .bool sat, .slice ua3 vals.length uc3, .int .i64 cost] 36) := ⟨_, rfl⟩
  have gv3 : w3.grownBy V3 none := by rw [hV3]; exact World.grownBy_alloc _ _ _
  have sv3 : w3.heap.size + 1 ≤ V3.heap.size := by rw [hV3]; simp only [World.size_alloc]; omega
  have NN : yb.Box4 36 V3 (w3.heap.size) (.string dg) (.bool sat) (.slice ua3 vals.length uc3) (.int .i64 cost) := by
    rw [hV3]
    have q := yb.Box4.new 36 w3 (.string dg) (.bool sat) (.slice ua3 vals.length uc3) (.int .i64 cost)
    exact q
  have Bv3 := sl.hide (sl.below_none (sl.unhide B3) gv3)
  have Dv3 := sl.hide ((sl.unhide D3).none gv3)
  have Fv3 := sl.hide ((sl.unhide F3).kept gv3)
  have Nv3 := sl.hide NN
  clear gv3 NN B3 D3 F3
  go_upto_region 6 with fail
  rw [← hV3]
  clear hV3
  generalize w3.heap.size = vb3 at *
  have zF0 := (sl.unhide Fv3).c0
  have zF1 := (sl.unhide Fv3).c1
  go_wp2_with fail
  refine (cf.toCnf v0 n0 LL0 _ hn ((sl.unhide S).below (sl.unhide Bv3))).mono ?_; rintro e w4 ⟨u4, rfl, o4, g4⟩
  clear zF0 zF1
  obtain ⟨ua4, uc4, rfl⟩ := o4.len
  have t4 := g4.size
  have B4 := sl.hide (sl.below_none (sl.unhide Bv3) g4)
  have D4 := sl.hide ((sl.unhide Dv3).none g4)
  have F4 := sl.hide ((sl.unhide Fv3).kept g4)
  have N4 := sl.hide ((sl.unhide Nv3).kept g4)
  have X4 := sl.hide o4
  clear o4
  clear g4 Bv3 Dv3 Fv3 Nv3
  obtain ⟨V4, hV4⟩ : ∃ V, V = w4.alloc (.cells #[.int .i64 n0, .slice ua4 LL0.length uc4] 26) := ⟨_, rfl⟩
  have gv4 : w4.grownBy V4 none := by rw [hV4]; exact World.grownBy_alloc _ _ _
  have sv4 : w4.heap.size + 1 ≤ V4.heap.size := by rw [hV4]; simp only [World.size_alloc]; omega
  have NY : cf.Box 26 V4 (w4.heap.size) (.int .i64 n0) (.slice ua4 LL0.length uc4) := by
    rw [hV4]
    have q := cf.Box.new 26 w4 (.int .i64 n0) (.slice ua4 LL0.length uc4)
    exact q
  have Bv4 := sl.hide (sl.below_none (sl.unhide B4) gv4)
  have Dv4 := sl.hide ((sl.unhide D4).none gv4)
  have Xv4 := sl.hide ((sl.unhide X4).kept gv4)
  have Fv4 := sl.hide ((sl.unhide F4).kept gv4)
  have Nv4 := sl.hide ((sl.unhide N4).kept gv4)
  have Yv4 := sl.hide NY
  clear gv4 NY B4 D4 X4 F4 N4
  go_upto_region 7 with fail
  rw [← hV4]
  clear hV4
  generalize w4.heap.size = vb4 at *
  have zY0 := (sl.unhide Yv4).c0
  have zY1 := (sl.unhide Yv4).c1
  go_wp2_with fail
  refine (sl.unhide DI _ _ (sl.of_below (sl.unhide Bv4)) (sl.unhide Xv4).sls).mono ?_; rintro e w5 ⟨u5, rfl, o5, g5⟩
  clear zY0 zY1
  obtain ⟨ua5, uc5, rfl, vx5⟩ := o5.sl
  clear vx5
  have t5 := g5.size
  have B5 := sl.hide (sl.below_none (sl.unhide Bv4) g5)
  have D5 := sl.hide ((sl.unhide Dv4).none g5)
  have X5 := sl.hide ((sl.unhide Xv4).kept g5)
  have F5 := sl.hide ((sl.unhide Fv4).kept g5)
  have N5 := sl.hide ((sl.unhide Nv4).kept g5)
  have Y5 := sl.hide ((sl.unhide Yv4).kept g5)
  have Z5 := sl.hide o5
  clear o5
  clear g5 Bv4 Dv4 Xv4 Fv4 Nv4 Yv4
  obtain ⟨V5, hV5⟩ : ∃ V, V = w5.alloc (.cells #[.string dg, .bool sat, .slice ua5 vals.length uc5, .int .i64 cost] 36) := ⟨_, rfl⟩
  have gv5 : w5.grownBy V5 none := by rw [hV5]; exact World.grownBy_alloc _ _ _
  have sv5 : w5.heap.size + 1 ≤ V5.heap.size := by rw [hV5]; simp only [World.size_alloc]; omega
  have NH : yb.Box4 36 V5 (w5.heap.size) (.string dg) (.bool sat) (.slice ua5 vals.length uc5) (.int .i64 cost) := by
    rw [hV5]
    have q := yb.Box4.new 36 w5 (.string dg) (.bool sat) (.slice ua5 vals.length uc5) (.int .i64 cost)
    exact q
  have Bv5 := sl.hide (sl.below_none (sl.unhide B5) gv5)
  have Dv5 := sl.hide ((sl.unhide D5).none gv5)
  have Xv5 := sl.hide ((sl.unhide X5).kept gv5)
  have Zv5 := sl.hide ((sl.unhide Z5).kept gv5)
  have Fv5 := sl.hide ((sl.unhide F5).kept gv5)
  have Nv5 := sl.hide ((sl.unhide N5).kept gv5)
  have Yv5 := sl.hide ((sl.unhide Y5).kept gv5)
  have Hv5 := sl.hide NH
  clear gv5 NH B5 D5 X5 Z5 F5 N5 Y5
  go_upto_region 8 with fail
  rw [← hV5]
  clear hV5
  generalize w5.heap.size = vb5 at *
  have hbb : (b != b) = false := by cases b <;> rfl
  have zH0 := (sl.unhide Hv5).c0
  have zH1 := (sl.unhide Hv5).c1
  have zH2 := (sl.unhide Hv5).c2
  have zH3 := (sl.unhide Hv5).c3
  have zN0 := (sl.unhide Nv5).c0
  have zN1 := (sl.unhide Nv5).c1
  have zN2 := (sl.unhide Nv5).c2
  have zN3 := (sl.unhide Nv5).c3
  go_wp2_with fail
  refine (ua.eqKnown _ _ ⟨dg, sat, vals, cost⟩ _ hnV (sl.unhide Zv5).sl ((sl.unhide VL).kept (sl.unhide Dv5).grown (.inl rfl))).mono ?_; rintro e w6 ⟨rfl, g6⟩
  clear zH0 zH1 zH2 zH3 zN0 zN1 zN2 zN3
  have t6 := g6.size
  have B6 := sl.hide (sl.below_none (sl.unhide Bv5) g6)
  have D6 := sl.hide ((sl.unhide Dv5).none g6)
  have X6 := sl.hide ((sl.unhide Xv5).kept g6)
  have Z6 := sl.hide ((sl.unhide Zv5).kept g6)
  have F6 := sl.hide ((sl.unhide Fv5).kept g6)
  have N6 := sl.hide ((sl.unhide Nv5).kept g6)
  have Y6 := sl.hide ((sl.unhide Yv5).kept g6)
  have H6 := sl.hide ((sl.unhide Hv5).kept g6)
  clear g6 Bv5 Dv5 Xv5 Zv5 Fv5 Nv5 Yv5 Hv5
  go_upto_region 10 with fail
  have T5 := sl.hide (cf.toCnf v0 n0 LL0 w6.drew hn (((sl.unhide S).below (sl.unhide B6)).kept (cf.grown_drew w6 none)))
  have E5 := sl.hide (fun u6 wa (g6 : w6.drew.grownBy wa none) (o6 : css.OwnS w6.drew.heap.size wa.heap.size wa u6 LL0) => cf.eqCnf _ u6 n0 LL0 wa hn ((sl.unhide X6).kept (sl.grown_trans (r := none) (cf.grown_drew w6 none) g6)).sls o6.sls)
  have YY5 := sl.hide (fun wa (g6 : w6.drew.grownBy wa none) => (sl.unhide Y6).kept (sl.grown_trans (r := none) (cf.grown_drew w6 none) g6))
  have GG5 := sl.hide (fun wa wb (g6 : w6.drew.grownBy wa none) (g7 : wa.grownBy wb none) => sl.grown_trans (r := none) (sl.grown_trans (r := none) (cf.grown_drew w6 none) g6) g7)
  have zF0 := (sl.unhide F6).c0
  have zF1 := (sl.unhide F6).c1
  have zY0 := (sl.unhide Y6).c0
  have zY1 := (sl.unhide Y6).c1
  go_cut [45] (fun q wx => q = .bool false ∧ Hid (w6.grownBy wx none))
  case first =>
    go_region_with (first
      | (go_at_call 18; refine (sl.unhide T5).mono ?_; rintro e wa ⟨u6, rfl, o6, g6⟩; have z0 := (sl.unhide YY5 wa g6).c0; have z1 := (sl.unhide YY5 wa g6).c1; have EE6 := sl.hide (sl.unhide E5 u6 wa g6 o6); have GG6 := sl.hide (fun wb => sl.unhide GG5 wa wb g6); clear g6 o6)
      | (go_at_call 20; refine (sl.unhide EE6).mono ?_; rintro e wb ⟨rfl, g7⟩; have GG7 := sl.hide (sl.unhide GG6 wb g7); clear g7))
    all_goals (go_wp2_with fail; go_meet; exact ⟨rfl, GG7⟩)
  case rest =>
    obtain ⟨rfl, hg⟩ := hcut
    clear T5 E5 YY5 GG5 zF0 zF1 zY0 zY1
    have g7 := sl.unhide hg
    have t7 := g7.size
    have B7 := sl.hide (sl.below_none (sl.unhide B6) g7)
    have D7 := sl.hide ((sl.unhide D6).none g7)
    have X7 := sl.hide ((sl.unhide X6).kept g7)
    have Z7 := sl.hide ((sl.unhide Z6).kept g7)
    have F7 := sl.hide ((sl.unhide F6).kept g7)
    have N7 := sl.hide ((sl.unhide N6).kept g7)
    have Y7 := sl.hide ((sl.unhide Y6).kept g7)
    have H7 := sl.hide ((sl.unhide H6).kept g7)
    clear hg g7 B6 D6 X6 Z6 F6 N6 Y6 H6
    generalize hwc : wc = w7 at *
    clear hwc
    have zY0 := (sl.unhide Y7).c0
    have zY1 := (sl.unhide Y7).c1
    go_wp2_with fail
    refine (cf.markCnf _ n0 LL0 1 _ _ _ hn (by decide) (by decide) (sl.unhide X7)).mono ?_; rintro e w8 ⟨rfl, o8, g8⟩
    clear zY0 zY1
    have t8 := g8.size
    have B8 := sl.hide (css.below_outs (sl.unhide B7) (by omega) g8)
    have D8 := sl.hide ((sl.unhide D7).outs (by omega) g8)
    have Z8 := sl.hide (css.own_outs (sl.unhide Z7) g8 (by omega))
    have F8 := sl.hide (ua.box_outs (sl.unhide F7) g8 (by omega))
    have N8 := sl.hide (ua.box4_outs (sl.unhide N7) g8 (by omega))
    have Y8 := sl.hide (ua.box_outs (sl.unhide Y7) g8 (by omega))
    have H8 := sl.hide (ua.box4_outs (sl.unhide H7) g8 (by omega))
    clear o8
    clear g8 B7 D7 X7 Z7 F7 N7 Y7 H7
    clear Y8
    have hk : ¬ (1 : Int) + (css.sumLen LL0 : Int) < 0 := by omega
    have hk' : decide ((1 : Int) + (css.sumLen LL0 : Int) < 0) = false := decide_eq_false hk
    have zH0 := (sl.unhide H8).c0
    have zH1 := (sl.unhide H8).c1
    have zH2 := (sl.unhide H8).c2
    have zH3 := (sl.unhide H8).c3
    have zN0 := (sl.unhide N8).c0
    have zN1 := (sl.unhide N8).c1
    have zN2 := (sl.unhide N8).c2
    have zN3 := (sl.unhide N8).c3
    go_wp2_with fail
    refine (ua.eqKnown _ _ ⟨dg, sat, vals, cost⟩ _ hnV (sl.unhide Z8).sl ((sl.unhide VL).kept (sl.unhide D8).grown (.inl rfl))).mono ?_; rintro e w9 ⟨rfl, g9⟩
    clear zH0 zH1 zH2 zH3 zN0 zN1 zN2 zN3
    have t9 := g9.size
    have B9 := sl.hide (sl.below_none (sl.unhide B8) g9)
    have D9 := sl.hide ((sl.unhide D8).none g9)
    have Z9 := sl.hide ((sl.unhide Z8).kept g9)
    have F9 := sl.hide ((sl.unhide F8).kept g9)
    have N9 := sl.hide ((sl.unhide N8).kept g9)
    have H9 := sl.hide ((sl.unhide H8).kept g9)
    clear g9 B8 D8 Z8 F8 N8 H8
    clear hk hk'
    have zH0 := (sl.unhide H9).c0
    have zH1 := (sl.unhide H9).c1
    have zH2 := (sl.unhide H9).c2
    have zH3 := (sl.unhide H9).c3
    go_wp2_with fail
    refine (ua.markKnown _ ⟨dg, sat, vals, cost⟩ 1 _ _ _ hnV (by decide) (by decide) (sl.unhide Z9)).mono ?_; rintro e w10 ⟨rfl, o10, g10⟩
    clear zH0 zH1 zH2 zH3
    have t10 := g10.size
    have B10 := sl.hide (css.below_outs (sl.unhide B9) (by omega) g10)
    have D10 := sl.hide ((sl.unhide D9).outs (by omega) g10)
    have F10 := sl.hide (ua.box_outs (sl.unhide F9) g10 (by omega))
    have N10 := sl.hide (ua.box4_outs (sl.unhide N9) g10 (by omega))
    have H10 := sl.hide (ua.box4_outs (sl.unhide H9) g10 (by omega))
    have Z10 := sl.hide o10
    clear o10
    clear g10 B9 D9 Z9 F9 N9 H9
    have hq2 : ¬ (1 : Int) + (vals.length : Int) < 0 := by omega
    have zH0 := (sl.unhide H10).c0
    have zH1 := (sl.unhide H10).c1
    have zH2 := (sl.unhide H10).c2
    have zH3 := (sl.unhide H10).c3
    go_wp2_with fail
    refine (ua.heldKnown _ dg sat vals.length cost 1 _ hnV (by decide) (by decide) (sl.unhide Z10).sl).mono ?_; rintro e w11 ⟨rfl, g11⟩
    clear zH0 zH1 zH2 zH3
    have t11 := g11.size
    have B11 := sl.hide (sl.below_none (sl.unhide B10) g11)
    have D11 := sl.hide ((sl.unhide D10).none g11)
    have Z11 := sl.hide ((sl.unhide Z10).kept g11)
    have F11 := sl.hide ((sl.unhide F10).kept g11)
    have N11 := sl.hide ((sl.unhide N10).kept g11)
    have H11 := sl.hide ((sl.unhide H10).kept g11)
    clear g11 B10 D10 Z10 F10 N10 H10
    have zF0 := (sl.unhide F11).c0
    have zF1 := (sl.unhide F11).c1
    go_wp2_with fail
    refine (cf.toCnf v0 n0 LL0 _ hn ((sl.unhide S).below (sl.unhide B11))).mono ?_; rintro e w12 ⟨u12, rfl, o12, g12⟩
    clear zF0 zF1
    obtain ⟨ua12, uc12, rfl⟩ := o12.len
    have t12 := g12.size
    have B12 := sl.hide (sl.below_none (sl.unhide B11) g12)
    have D12 := sl.hide ((sl.unhide D11).none g12)
    have Z12 := sl.hide ((sl.unhide Z11).kept g12)
    have F12 := sl.hide ((sl.unhide F11).kept g12)
    have N12 := sl.hide ((sl.unhide N11).kept g12)
    have H12 := sl.hide ((sl.unhide H11).kept g12)
    have P12 := sl.hide o12
    clear o12
    clear g12 B11 D11 Z11 F11 N11 H11
    go_wp2_with fail
    refine (sl.unhide DI _ _ (sl.of_below (sl.unhide B12)) (sl.unhide P12).sls).mono ?_; rintro e w13 ⟨u13, rfl, o13, g13⟩
    obtain ⟨ua13, uc13, rfl, vx13⟩ := o13.sl
    clear vx13
    have t13 := g13.size
    have B13 := sl.hide (sl.below_none (sl.unhide B12) g13)
    have D13 := sl.hide ((sl.unhide D12).none g13)
    have Z13 := sl.hide ((sl.unhide Z12).kept g13)
    have P13 := sl.hide ((sl.unhide P12).kept g13)
    have F13 := sl.hide ((sl.unhide F12).kept g13)
    have N13 := sl.hide ((sl.unhide N12).kept g13)
    have H13 := sl.hide ((sl.unhide H12).kept g13)
    have Q13 := sl.hide o13
    clear o13
    clear g13 B12 D12 Z12 P12 F12 N12 H12
    clear P13
    obtain ⟨V13, hV13⟩ : ∃ V, V = w13.alloc (.cells #[.string dg, .bool sat, .slice ua13 vals.length uc13, .int .i64 cost] 36) := ⟨_, rfl⟩
    have gv13 : w13.grownBy V13 none := by rw [hV13]; exact World.grownBy_alloc _ _ _
    have sv13 : w13.heap.size + 1 ≤ V13.heap.size := by rw [hV13]; simp only [World.size_alloc]; omega
    have NJ : yb.Box4 36 V13 (w13.heap.size) (.string dg) (.bool sat) (.slice ua13 vals.length uc13) (.int .i64 cost) := by
      rw [hV13]
      have q := yb.Box4.new 36 w13 (.string dg) (.bool sat) (.slice ua13 vals.length uc13) (.int .i64 cost)
      exact q
    have Bv13 := sl.hide (sl.below_none (sl.unhide B13) gv13)
    have Dv13 := sl.hide ((sl.unhide D13).none gv13)
    have Zv13 := sl.hide ((sl.unhide Z13).kept gv13)
    have Qv13 := sl.hide ((sl.unhide Q13).kept gv13)
    have Fv13 := sl.hide ((sl.unhide F13).kept gv13)
    have Nv13 := sl.hide ((sl.unhide N13).kept gv13)
    have Hv13 := sl.hide ((sl.unhide H13).kept gv13)
    have Jv13 := sl.hide NJ
    clear gv13 NJ B13 D13 Z13 Q13 F13 N13 H13
    go_upto_region 25 with fail
    rw [← hV13]
    clear hV13
    generalize w13.heap.size = vb13 at *
    have zJ0 := (sl.unhide Jv13).c0
    have zJ1 := (sl.unhide Jv13).c1
    have zJ2 := (sl.unhide Jv13).c2
    have zJ3 := (sl.unhide Jv13).c3
    have zN0 := (sl.unhide Nv13).c0
    have zN1 := (sl.unhide Nv13).c1
    have zN2 := (sl.unhide Nv13).c2
    have zN3 := (sl.unhide Nv13).c3
    go_wp2_with fail
    refine (ua.eqKnown _ _ ⟨dg, sat, vals, cost⟩ _ hnV (sl.unhide Qv13).sl ((sl.unhide VL).kept (sl.unhide Dv13).grown (.inl rfl))).mono ?_; rintro e w14 ⟨rfl, g14⟩
    clear zJ0 zJ1 zJ2 zJ3 zN0 zN1 zN2 zN3
    have t14 := g14.size
    have B14 := sl.hide (sl.below_none (sl.unhide Bv13) g14)
    have D14 := sl.hide ((sl.unhide Dv13).none g14)
    have Z14 := sl.hide ((sl.unhide Zv13).kept g14)
    have Q14 := sl.hide ((sl.unhide Qv13).kept g14)
    have F14 := sl.hide ((sl.unhide Fv13).kept g14)
    have N14 := sl.hide ((sl.unhide Nv13).kept g14)
    have H14 := sl.hide ((sl.unhide Hv13).kept g14)
    have J14 := sl.hide ((sl.unhide Jv13).kept g14)
    clear g14 Bv13 Dv13 Zv13 Qv13 Fv13 Nv13 Hv13 Jv13
    clear Q14 J14 N14
    have zH0 := (sl.unhide H14).c0
    have zH1 := (sl.unhide H14).c1
    have zH2 := (sl.unhide H14).c2
    have zH3 := (sl.unhide H14).c3
    go_wp2_with fail
    refine (ua.heldKnown _ dg sat vals.length cost 1 _ hnV (by decide) (by decide) (sl.unhide Z14).sl).mono ?_; rintro e w15 ⟨rfl, g15⟩
    clear zH0 zH1 zH2 zH3
    have t15 := g15.size
    have B15 := sl.hide (sl.below_none (sl.unhide B14) g15)
    have D15 := sl.hide ((sl.unhide D14).none g15)
    have Z15 := sl.hide ((sl.unhide Z14).kept g15)
    have F15 := sl.hide ((sl.unhide F14).kept g15)
    have H15 := sl.hide ((sl.unhide H14).kept g15)
    clear g15 B14 D14 Z14 F14 H14
    go_wp2_with fail
    go_ret
    exact ⟨rfl, (sl.unhide B15)⟩

/-! ### the row's step (the guide's own frame) -/
set_option maxRecDepth 100000 in
theorem contract (H : Type) (enc : TypeId × Value → H) (W : World) (base : Nat) (args : Array Value) (ds gs : List (DataW H)) (before : List MemPlace)
    (hval : ∀ (j : Nat) t v, Tryz.f4.params[j]? = some t → args[j]? = some v → Value.okWide Tryz.prog W .any base t v)
    (hW : DataW.Whole enc Tryz.prog Tryz.f4.params.toList Rows.fnExactAskSpec.vars false W args.toList ds gs before) (hL : laidMetH Tryz.prog Rows.fnExactAskRow.laid W) :
    Calls Tryz.prog 4 args W fun e W' => ∃ v, e = .returned v ∧ Rows.fnExactAskSpec.post enc Tryz.prog Tryz.f4 false true false false W args v W' := by
  have hW' := hW
  obtain ⟨p, q, hA0, hV, rfl, hfz, hnd⟩ := hW
  have hA : DataW.TrodAll enc Tryz.prog W 0 (fun _ => true) true Tryz.f4.params.toList args.toList ds p := hA0
  rw [Tryz.params4] at hA hval
  obtain ⟨x0, vs0, d0, ds0, p0, q0, hargs, rfl, rfl, h0, r0⟩ := trodAll_cons hA
  obtain ⟨rfl, rfl, rfl⟩ := trodAll_nil r0
  obtain rfl : args = #[x0] := by cases args; simp_all
  obtain ⟨g0, g1, rfl⟩ := vars2 hV
  obtain ⟨cs0, rfl, _⟩ := okWide_struct Tryz.underlying45 (hval 0 45 _ rfl rfl)
  have k0 := h0
  have lt0 : ∀ x ∈ p0, x.block < W.heap.size := by obtain ⟨m, hm⟩ := k0; exact DataW.trod_lt m _ _ _ hm
  obtain ⟨n0, v0, LL0, e0, f0, w0⟩ : ∃ n v LL, cs0 = #[.int .i64 n, v] ∧ (Lit.int .i64 n).wf = true ∧ row.IsRows W v LL := by
    obtain ⟨fuel, hf⟩ := h0
    obtain ⟨n, v, LL, e, hw, hv⟩ := row.open_cnf hf
    refine ⟨n, v, LL, ?_, hw, hv⟩
    cases cs0
    simpa [Value.cells] using e
  subst e0
  clear hA0
  refine (walk n0 v0 LL0 W f0 w0 (table hL)).mono fun e W' ⟨he, bel⟩ => ?_
  subst he
  exact ⟨_, rfl, _, _, _, [], _, _, hW', trodAll_mk1 (shut_bool Tryz.underlying4 _), (trodAll_cons_mk (Below.trod laidOut (by kernel_rfl) (of_decide_eq_true (by kernel_rfl)) k0 bel lt0) trodAll_mk0), Below.trodVars laidOutV bel (by kernel_rfl) hV, bel.frame _, fun h => by cases h⟩

set_option maxRecDepth 100000 in
theorem lifted (os : Os) (started : os.Started) (H : Type) (enc : TypeId × Value → H) (F : Stop.Interp) :
    ReturnsInHanded {} Tryz.checked os 4 .any ((OpenSpec.ofChange Rows.fnExactAskSpec).preRow enc Tryz.prog Tryz.f4 Rows.fnExactAskRow.domain false Rows.fnExactAskRow.laid) (((OpenSpec.ofChange Rows.fnExactAskSpec).at F).post enc Tryz.prog Tryz.f4 false true false false) := by
  refine returnsInHanded_of_row (C := Tryz.checked) (s := OpenSpec.ofChange Rows.fnExactAskSpec) own started (by kernel_rfl) Tryz.func4
    (witness_row_at (enc := enc) (C := Tryz.checked) false ({ World.holding Tryz.prog os ⟨#[], #[], []⟩ with heap := (((((World.holding Tryz.prog os ⟨#[], #[], []⟩).heap.modify 4 fun | .cells _ t frozen => .cells (Lib.deBruijn32tab.map fun (n : Nat) => Value.int .u8 n).toArray t frozen | o => o).modify 2 fun | .cells _ t frozen => .cells (Lib.deBruijn64tab.map fun (n : Nat) => Value.int .u8 n).toArray t frozen | o => o).modify 3 fun | .cells _ t frozen => .cells (Lib.pow10Tab.map fun n => Value.int .u64 n).toArray t frozen | o => o).modify 1 fun | .cells _ t frozen => .cells (zk.kL.map fun n => Value.int .u32 n).toArray t frozen | o => o).modify 0 fun | .cells _ t frozen => .cells (zk.sL.map fun n => Value.int .u32 n).toArray t frozen | o => o } : World) #[.agg #[.int .i64 0, .slice none 0 0]] rfl (by kernel_rfl) (by kernel_rfl) (by kernel_rfl)
      (OpenSpec.preRow_of_cond 8 (x := ([.agg [.lit (.int .i64 0), .nil]], [Rows.laid_loop_example_g00123_impl_sumStarts, Rows.laid_loop_example_g00123_impl_sumConsts], MemPlace.row ⟨0, 0, none⟩ 8 ++ MemPlace.row ⟨1, 0, none⟩ 64)) (by kernel_rfl) (by kernel_rfl) (fun k hk => by cases hk) (by kernel_rfl) (laidMet_of_run' 8 (by kernel_rfl) (by kernel_rfl)))) ?_
  intro W base args ds gs before hval hW _ _ _ hL _ _
  exact contract H enc W base args ds gs before hval hW hL

theorem said : Rows.FnExactAskSaid :=
  OpenClaim.holds_of_cond 4 Tryz.f4 rfl rfl rfl rfl rfl rfl rfl ⟨rfl, rfl, rfl, rfl, rfl⟩ rfl rfl rfl rfl rfl (by kernel_rfl) Tryz.func4 (by kernel_rfl)
    (of_decide_eq_true (by kernel_rfl)) (by unfold Func.isWrapper; first | (rw [if_pos (by decide +kernel)]; kernel_rfl) | (rw [if_neg (by decide +kernel)]; exact ⟨rfl, rfl⟩))
    (fun os started H enc _ F => by rw [OpenClaim.pre_eq_preRow]; exact lifted os started H enc F)

theorem plain (f : FuncId) (fn : Func) (hf : Tryz.pinned.checked.prog.funcNamed "loop.example/g00123/laws.FnExactAsk" = some f) (hfn : Tryz.pinned.checked.prog.funcs[f]? = some fn) :
    false = Tryz.pinned.checked.prog.looks [] ∧ ∀ (j : Nat) t, fn.params[j]? = some t → Tryz.pinned.checked.prog.wantsStandIn t = false := by
  obtain rfl : f = 4 := Option.some.inj ((show Tryz.prog.funcNamed "loop.example/g00123/laws.FnExactAsk" = some 4 by kernel_rfl).symm.trans hf) |>.symm
  obtain rfl : fn = Tryz.f4 := (Option.some.inj (Tryz.func4.symm.trans hfn)).symm
  refine ⟨by kernel_rfl, fun j t ht => ?_⟩
  rw [Tryz.params4] at ht
  obtain rfl : t = 45 := by simpa using Array.mem_of_getElem? ht
  exact (show Tryz.prog.wantsStandIn 45 = false by kernel_rfl)

/-- the statement: the row's tied card -/
theorem proved : Rows.FnExactAskCardSaid :=
  Claim7.holds_tied_plain_at .later [] _ _ _ _ said (fun _ h => by cases h) (by kernel_rfl) (fun _ h => by cases h) fnExactAsk_row_tie rfl ⟨rfl, rfl⟩ (by kernel_rfl) rfl plain (by kernel_rfl)
#print axioms proved
end Go.Proofs.YtgjakiliepfjiaaGreatDoor.fnExactAsk
