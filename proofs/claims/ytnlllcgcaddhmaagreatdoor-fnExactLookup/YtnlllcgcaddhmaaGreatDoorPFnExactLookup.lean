/- At every cache and every formula the law FnExactLookup returns true: Lookup answers as the model, writes into no argument and owns its answer; the tables of the library (of places and of powers of ten) and the tables of the sum that are the program's own lie as their texts lay them (tied). -/
import Derived.Test.YtnlllcgcaddhmaaGreatDoorCards
import Derived.Test.YtnlllcgcaddhmaaGreatDoorTie
import Derived.OpenVars
import Derived.Test.YtnlllcgcaddhmaaGreatDoorJXRow
import Derived.Test.YtnlllcgcaddhmaaGreatDoorJXUi
import Derived.Test.YtnlllcgcaddhmaaGreatDoorJXAy
import Derived.Test.YtnlllcgcaddhmaaGreatDoorJUd
import Derived.Test.YtnlllcgcaddhmaaGreatDoorJXLka
import Derived.Test.YtnlllcgcaddhmaaGreatDoorJXLkb
import Derived.WalkKit
import Derived.ProofKit
import Derived.OpenShut
import Derived.ShutString
import Derived.ChangeOld
import Derived.Below
import Derived.Deep.DeepHandedRow
import Derived.Lib.LaidTab
import Derived.Lib.TrailingZeros
import Derived.Stop.LaidErr
import Derived.Stop.LaidTwo
import Derived.LaidHandle
import Derived.LaidSub
namespace Go.Proofs.YtnlllcgcaddhmaaGreatDoor.fnExactLookup
open Go.ChangeShapes Go.WideShapes Go.ChangeAt Go.RowKit
open Go.ChangeMaps (open_string shut_string)
set_option linter.unusedVariables false

theorem own : ownKnob Tryz.prog.godebug = none := by kernel_rfl
theorem laidOut : laidOutB Tryz.prog = true := by kernel_rfl

theorem laidOutV : laidOutB Tryz.prog = true := by kernel_rfl
theorem vars1 {H : Type} {enc : TypeId × Value → H} {P : Program} {w : World} {sp : Nat → Bool} {n : String} {gs : List (DataW H)} {ps : List MemPlace} (h : DataW.TrodVars enc P w sp [n] gs ps) : ∃ g, gs = [g] := by
  cases gs with
  | nil => exact h.elim
  | cons g t =>
    obtain ⟨_, _, _, _, _, _, _, _, _, _, hs, _⟩ := h
    cases t with
    | nil => exact ⟨g, rfl⟩
    | cons _ _ => exact hs.elim
theorem vars2 {H : Type} {enc : TypeId × Value → H} {P : Program} {w : World} {sp : Nat → Bool} {n m : String} {gs : List (DataW H)} {ps : List MemPlace} (h : DataW.TrodVars enc P w sp [n, m] gs ps) : ∃ g k, gs = [g, k] := by
  cases gs with
  | nil => exact h.elim
  | cons g t =>
    obtain ⟨_, _, _, _, _, _, _, _, _, _, hs, _⟩ := h
    obtain ⟨k, rfl⟩ := vars1 hs
    exact ⟨g, k, rfl⟩
theorem gTab : Tryz.prog.globalNamed "math/bits.deBruijn64tab" = some 2 := by kernel_rfl
theorem gTabType : (Tryz.prog.globals[2]?).map (·.type) = some 228 := by kernel_rfl
theorem cellsTab : Tryz.prog.cellsOf 228 = 64 := by kernel_rfl
theorem cellsByte : Tryz.prog.cellsOf 5 = 1 := by kernel_rfl
theorem gPowType : (Tryz.prog.globals[3]?).map (·.type) = some 238 := by kernel_rfl
theorem cellsPow : Tryz.prog.cellsOf 238 = 20 := by kernel_rfl
theorem cellsU64 : Tryz.prog.cellsOf 150 = 1 := by kernel_rfl
theorem powData : (Rows.laid_internal_strconv_uint64pow10 : DataW Unit) = Lib.tabData .u64 Lib.pow10Tab := by kernel_rfl
theorem tabData64 : (Rows.laid_math_bits_deBruijn64tab : DataW Unit) = Lib.tabData .u8 (Lib.deBruijn64tab.map fun (n : Nat) => (n : Int)) := by kernel_rfl
theorem gK : Tryz.prog.globalNamed "loop.example/g00123/impl.sumConsts" = some 1 := by kernel_rfl
theorem tyK : (Tryz.prog.globals[1]?).map (·.type) = some 214 := by kernel_rfl
theorem cellsK : Tryz.prog.cellsOf 214 = 64 := by kernel_rfl
theorem dataK : (Rows.laid_loop_example_g00123_impl_sumConsts : DataW Unit) = Lib.tabData .u32 zk.kL := by kernel_rfl
theorem gS : Tryz.prog.globalNamed "loop.example/g00123/impl.sumStarts" = some 0 := by kernel_rfl
theorem tyS : (Tryz.prog.globals[0]?).map (·.type) = some 146 := by kernel_rfl
theorem cellsS : Tryz.prog.cellsOf 146 = 8 := by kernel_rfl
theorem dataS : (Rows.laid_loop_example_g00123_impl_sumStarts : DataW Unit) = Lib.tabData .u32 zk.sL := by kernel_rfl
theorem cellsW : Tryz.prog.cellsOf 120 = 1 := by kernel_rfl
theorem laid_tail {P : Program} {W : World} {x : String × DataW Unit} {rest : List (String × DataW Unit)} (h : laidMet P (x :: rest) W) : laidMet P rest W := by
  obtain ⟨ps, hv, hn, hc⟩ := h
  obtain ⟨n, d⟩ := x
  obtain ⟨g, t, cs, fuel, p, q, _, _, _, _, hr, rfl⟩ := hv
  exact ⟨q, hr, (List.nodup_append.1 hn).2.1, fun b off hm => hc b off (List.mem_append_right _ hm)⟩
/-- what the row's list gives: the tables as they lie -/
theorem table {W : World} (h : laidMetH Tryz.prog Rows.fnExactLookupRow.laid W) : srt.Tab W ∧ txt.Pow W ∧ zk.TabK W ∧ zk.TabS W := by
  have h1 : laidMet Tryz.prog Rows.fnExactLookupRow.laid W := h
  have h2 := laid_tail h1
  have h3 := laid_tail h2
  have h4 := laid_tail h3
  have h5 := laid_tail h4
  have tT : srt.Tab W := by
    have hh : laidMet Tryz.prog (("math/bits.deBruijn64tab", Lib.tabData .u8 (Lib.deBruijn64tab.map fun (n : Nat) => (n : Int))) :: [("internal/strconv.uint64pow10", Rows.laid_internal_strconv_uint64pow10), ("loop.example/g00123/impl.sumConsts", Rows.laid_loop_example_g00123_impl_sumConsts), ("loop.example/g00123/impl.sumStarts", Rows.laid_loop_example_g00123_impl_sumStarts)]) W := by
      rw [← tabData64]
      exact h2
    have t : Lib.TabIs Tryz.prog W "math/bits.deBruijn64tab" .u8 (Lib.deBruijn64tab.map fun (n : Nat) => (n : Int)) :=
      Lib.tabIs_of_head gTab gTabType Tryz.underlying228 Tryz.underlying5 cellsByte cellsTab hh
    intro j hj
    have c := t.cell gTab j (by rw [List.length_map]; exact hj)
    rw [c]
    congr 2
    rw [List.getD, List.getD, List.getElem?_map]
    cases Lib.deBruijn64tab[j]? <;> rfl
  have tP : txt.Pow W := by
    have hh : laidMet Tryz.prog (("internal/strconv.uint64pow10", Lib.tabData .u64 Lib.pow10Tab) :: [("loop.example/g00123/impl.sumConsts", Rows.laid_loop_example_g00123_impl_sumConsts), ("loop.example/g00123/impl.sumStarts", Rows.laid_loop_example_g00123_impl_sumStarts)]) W := by
      rw [← powData]
      exact h3
    have t : Lib.TabIs Tryz.prog W "internal/strconv.uint64pow10" .u64 Lib.pow10Tab :=
      Lib.tabIs_of_head txt.gPow gPowType Tryz.underlying238 Tryz.underlying150 cellsU64 cellsPow hh
    exact ⟨World.block_lt_of_cell? W _ (t.cell txt.gPow 0 (by decide)), t⟩
  have tK : zk.TabK W := by
    have hh : laidMet Tryz.prog (("loop.example/g00123/impl.sumConsts", Lib.tabData .u32 zk.kL) :: [("loop.example/g00123/impl.sumStarts", Rows.laid_loop_example_g00123_impl_sumStarts)]) W := by
      rw [← dataK]
      exact h4
    have t : Lib.TabIs Tryz.prog W "loop.example/g00123/impl.sumConsts" .u32 zk.kL :=
      Lib.tabIs_of_head gK tyK Tryz.underlying214 Tryz.underlying120 cellsW cellsK hh
    exact fun j hj => t.cell gK j hj
  have tS : zk.TabS W := by
    have hh : laidMet Tryz.prog (("loop.example/g00123/impl.sumStarts", Lib.tabData .u32 zk.sL) :: []) W := by
      rw [← dataS]
      exact h5
    have t : Lib.TabIs Tryz.prog W "loop.example/g00123/impl.sumStarts" .u32 zk.sL :=
      Lib.tabIs_of_head gS tyS Tryz.underlying146 Tryz.underlying120 cellsW cellsS hh
    exact fun j hj => t.cell gS j hj
  exact ⟨tT, tP, tK, tS⟩

/-! ### the walk -/
set_option maxRecDepth 100000 in
set_option maxHeartbeats 8000000 in
theorem walk (n0 : Int) (v0 : Value) (KK0 : List ua.Kn) (n1 : Int) (v1 : Value) (LL1 : List (List Int)) (w : World) (f0 : (Lit.int .i64 n0).wf = true) (w0 : ua.IsKns w v0 KK0) (f1 : (Lit.int .i64 n1).wf = true) (w1 : row.IsRows w v1 LL1) (hT : srt.Tab w ∧ txt.Pow w ∧ zk.TabK w ∧ zk.TabS w) :
    Calls Tryz.prog 4 #[.agg #[.int .i64 n0, v0], .agg #[.int .i64 n1, v1]] w fun e w' => e = .returned (.bool true) ∧ Below w.heap.size w w' := by
  obtain ⟨hS, hl0, hl1⟩ := w0
  obtain ⟨hS1, hm0, hm1⟩ := w1
  obtain ⟨tT, tP, tK, tS⟩ := hT
  obtain ⟨K, hK⟩ : ∃ K, K = an.lkK n0 KK0 n1 LL1 := ⟨_, rfl⟩
  obtain ⟨L, hLL⟩ : ∃ L, L = an.lkL n0 KK0 n1 LL1 := ⟨_, rfl⟩
  obtain ⟨b, hb⟩ : ∃ b, b = an.lkB n0 KK0 n1 LL1 := ⟨_, rfl⟩
  have CI := fun (hn : ua.tot KK0 ≤ 1048576) (hn2 : css.tot LL1 ≤ 1048576) v u w1 (gx : w.grownBy w1 none) hv hu => an.implLookup v u n0 KK0 n1 LL1 w1 (tT.kept gx) (tP.kept gx) (tK.kept gx) (tS.kept gx) hn hn2 hv hu
  have CS := fun (hn : ua.tot KK0 ≤ 1048576) (hn2 : css.tot LL1 ≤ 1048576) v u w1 (gx : w.grownBy w1 none) hv hu => (an.specLookup v u n0 KK0 n1 LL1 w1 hn hn2 hv hu).mono (fun e w' h => an.lkS_P h)
  have CR := fun (hn : ua.tot KK0 ≤ 1048576) (hn2 : css.tot LL1 ≤ 1048576) v u w1 (gx : w.grownBy w1 none) hv hu => (an.implLookup v u n0 KK0 n1 LL1 w1 (tT.kept gx) (tP.kept gx) (tK.kept gx) (tS.kept gx) hn hn2 hv hu).mono (fun e w' h => an.lkE_P h)
  have hTT := fun (hn : ua.tot KK0 ≤ 1048576) => an.lk_tot n0 KK0 n1 LL1 hn
  have hTL := fun (hn : ua.tot KK0 ≤ 1048576) => an.lk_len n0 KK0 n1 LL1 hn
  unfold an.LkE at CI
  rw [← hK, ← hLL, ← hb] at CI CS CR
  rw [← hK, ← hLL] at hTT
  rw [← hLL] at hTL
  clear hK hLL hb tT tP tK tS
  obtain ⟨dg, sat, vals, cost⟩ := K
  dsimp only at CI CS CR hTT
  obtain ⟨PP, hPP⟩ : ∃ PP, PP = an.PS L vals := ⟨_, rfl⟩
  rw [← hPP] at CS CR
  have CL : Hid (∀ lo hi y z, an.Cl (fun w => PP lo hi w y z) lo hi) := by rw [hPP]; exact fun lo hi y z => an.clS L vals lo hi y z
  have HPP := sl.hide hPP
  clear hPP
  have HCI := sl.hide CI
  have HCS := sl.hide CS
  have HCR := sl.hide CR
  clear CI CS CR
  have g0 : w.grownBy ((w.alloc (.cells #[.int .i64 n0, v0] 47)).alloc (.cells #[.int .i64 n1, v1] 48)) none := sl.grown_trans (World.grownBy_alloc _ _ _) (World.grownBy_alloc _ _ _)
  obtain ⟨W0, hW0⟩ : ∃ W0, W0 = (w.alloc (.cells #[.int .i64 n0, v0] 47)).alloc (.cells #[.int .i64 n1, v1] 48) := ⟨_, rfl⟩
  rw [← hW0] at g0
  have F0 : Hid (cf.Box 47 W0 w.heap.size (.int .i64 n0) v0) := by rw [hW0]; exact (cf.Box.new _ _ _ _).kept (World.grownBy_alloc _ _ none)
  have E0 : Hid (cf.Box 48 W0 (w.heap.size + 1) (.int .i64 n1) v1) := by
    rw [hW0]
    have q := cf.Box.new 48 (w.alloc (.cells #[.int .i64 n0, v0] 47)) (.int .i64 n1) v1
    rw [World.size_alloc] at q
    exact q
  have C0 := sl.hide (ua.szCache v0 n0 KK0 1048576 W0 (by decide) (by decide) hl0 hl1 (hS.kept g0))
  have S := sl.hide hS
  have S1 := sl.hide hS1
  have B0 := sl.hide (sl.below_of g0)
  have sw0 : w.heap.size + 2 ≤ W0.heap.size := by rw [hW0]; simp only [World.size_alloc]; omega
  clear hS hS1 g0 hl0 hl1
  go_enter Tryz.func4, Tryz.ntmps4
  go_upto_region 1 with fail
  rw [← hW0]
  clear hW0
  have zF0 := (sl.unhide F0).c0
  have zF1 := (sl.unhide F0).c1
  go_wp2_with fail
  refine (sl.unhide C0).mono ?_; rintro e w1 ⟨r1, rfl, g1⟩
  clear zF0 zF1
  obtain ⟨g1, hr1⟩ := g1
  have t1 := g1.size
  have B1 := sl.hide (sl.below_none (sl.unhide B0) g1)
  have F1 := sl.hide ((sl.unhide F0).kept g1)
  have E1 := sl.hide ((sl.unhide E0).kept g1)
  clear g1 B0 F0 E0
  rcases hr1 with rfl | ⟨hr0, hr1⟩
  · go_wp2_with fail
    go_ret
    exact ⟨rfl, sl.unhide B1⟩
  have hn : ua.tot KK0 ≤ 1048576 := by omega
  have hq : ¬ r1 < 0 := by omega
  have hr2 : r1 ≤ 1048576 := by omega
  have C1 := sl.hide (cf.szCnf v1 n1 LL1 r1 w1 hr0 hr2 hm0 hm1 ((sl.unhide S1).below (sl.unhide B1)))
  clear hm0 hm1
  have zE0 := (sl.unhide E1).c0
  have zE1 := (sl.unhide E1).c1
  go_wp2_with fail
  refine (sl.unhide C1).mono ?_; rintro e w2 ⟨r2, rfl, g2⟩
  clear zE0 zE1
  obtain ⟨g2, hs2⟩ := g2
  have t2 := g2.size
  have B2 := sl.hide (sl.below_none (sl.unhide B1) g2)
  have F2 := sl.hide ((sl.unhide F1).kept g2)
  have E2 := sl.hide ((sl.unhide E1).kept g2)
  clear g2 B1 F1 E1
  rcases hs2 with rfl | ⟨hs0, hs2⟩
  · go_wp2_with fail
    go_ret
    exact ⟨rfl, sl.unhide B2⟩
  have hn2 : css.tot LL1 ≤ 1048576 := by omega
  have hq2 : ¬ r2 < 0 := by omega
  obtain ⟨hnF, hin, hnV⟩ := hTT hn
  have hnG : ua.tot L ≤ 1049600 := by omega
  have HIN := sl.hide hin
  have hs := ua.sumK_le L
  have HSL : Hid (ua.sumK L ≤ 4145731) := by show _ ≤ _; omega
  have HS0 : Hid (ua.sumK KK0 ≤ 3145731) := by have := ua.sumK_le KK0; show _ ≤ _; omega
  have HS1 : Hid (css.sumLen LL1 ≤ 1048576) := Nat.le_trans (css.sumLen_le LL1) hn2
  have hlen := hTL hn
  have DI := sl.hide (sl.unhide HCI hn hn2)
  have DS := sl.hide (sl.unhide HCS hn hn2)
  have DR := sl.hide (sl.unhide HCR hn hn2)
  clear hr1 hs2 hTT hTL HCI HCS HCR C0 C1 hin hs hr2
  go_upto_region 8 with fail
  go_cut [6, 7, 8] (fun p q r wx => r = .bool b ∧ Hid (an.Cc PP w2 wx p q n0 dg sat cost))
  case first =>
    have T0 := sl.hide (fun w1 (gx : w2.grownBy w1 none) => ua.toCache v0 n0 KK0 w1 hn (((sl.unhide S).below (sl.unhide B2)).kept gx))
    have T1 := sl.hide (fun w1 (gx : w2.grownBy w1 none) => cf.toCnf v1 n1 LL1 w1 hn2 (((sl.unhide S1).below (sl.unhide B2)).kept gx))
    have DD := sl.hide (fun v u w1 (gx : w2.grownBy w1 none) hv hu => sl.unhide DS v u w1 (sl.grown_trans (r := none) (sl.of_below (sl.unhide B2)) gx) hv hu)
    unfold an.FndP at DD
    have CK := sl.hide (fun (w1 : World) (gx : w2.grownBy w1 none) => And.intro ((sl.unhide F2).kept gx).c0 (And.intro ((sl.unhide F2).kept gx).c1 (And.intro ((sl.unhide E2).kept gx).c0 ((sl.unhide E2).kept gx).c1)))
    have EE := sl.hide (fun (w1 : World) (gx : w2.grownBy w1 none) => ((sl.unhide E2).kept gx).lt)
    have x0 := (sl.unhide F2).c0
    have x1 := (sl.unhide F2).c1
    have y0 := (sl.unhide E2).c0
    have y1 := (sl.unhide E2).c1
    have e0 := World.new_ne w2 _ x0
    have e1 := World.new_ne w2 _ y0
    have e0p := World.new_ne (w2.alloc (.cells #[.int .i64 0, .slice none 0 0] 30)) _ ((World.grownBy_alloc w2 (.cells #[.int .i64 0, .slice none 0 0] 30) none).cell x0 (fun e => by cases e))
    rw [World.size_alloc] at e0p
    have e1p := World.new_ne (w2.alloc (.cells #[.int .i64 0, .slice none 0 0] 30)) _ ((World.grownBy_alloc w2 (.cells #[.int .i64 0, .slice none 0 0] 30) none).cell y0 (fun e => by cases e))
    rw [World.size_alloc] at e1p
    have xx := (sl.unhide E2).lt
    have xa : ¬ w.heap.size = w2.heap.size + 1 := (by have := xx; omega)
    have xb : ¬ w.heap.size + 1 = w2.heap.size + 1 := (by have := xx; omega)
    have xc : ¬ w.heap.size = w2.heap.size := (by have := xx; omega)
    have xd : ¬ w.heap.size + 1 = w2.heap.size := (by have := xx; omega)
    clear F2 E2 B2
    refine lz0.reg0 n0 v0 KK0 n1 v1 LL1 w L b dg sat vals cost PP w r1 w2 r2 (by assumption) (by assumption) CL T0 T1 DD CK EE x0 x1 y0 y1 e0 e1 e0p e1p xx xa xb xc xd
  case rest =>
    obtain ⟨rfl, hcc⟩ := hcut
    obtain ⟨c3, k3, y3, z3, lo3, hi3, rfl, rfl, fb3, fk3, hp3, g3, fc3, fd3, fl3, fh3, cl3⟩ := sl.unhide hcc
    rw [sl.unhide HPP] at hp3
    obtain ⟨hr3, hh3, hv3⟩ := hp3
    obtain ⟨ya3, yc3, rfl⟩ := hr3.len
    obtain ⟨za3, zc3, rfl, hx3⟩ := hv3.sl
    have t3 := g3.size
    have ft3 := fb3.lt
    have fu3 := fk3.lt
    have B3 := sl.hide (sl.below_none (sl.unhide B2) g3)
    have F3 := sl.hide ((sl.unhide F2).kept g3)
    have E3 := sl.hide ((sl.unhide E2).kept g3)
    have M3 := sl.hide fb3
    have N3 := sl.hide fk3
    have KNM := sl.hide hr3.vkns.kns
    have VNN := sl.hide hv3.sl
    clear g3 hcc fb3 fk3 hr3 hh3 hv3 hx3 cl3 fl3 fh3 B2 F2 E2
    generalize hwc : wc = w3 at *
    clear hwc
    have D3 := sl.hide (ua.Old.start w3)
    have zF0 := (sl.unhide F3).c0
    have zF1 := (sl.unhide F3).c1
    go_wp2_with fail
    refine (ua.toCache v0 n0 KK0 _ hn ((sl.unhide S).below (sl.unhide B3))).mono ?_; rintro e w4 ⟨u4, rfl, o4, g4⟩
    clear zF0 zF1
    obtain ⟨ua4, uc4, rfl⟩ := o4.len
    have t4 := g4.size
    have B4 := sl.hide (sl.below_none (sl.unhide B3) g4)
    have D4 := sl.hide ((sl.unhide D3).none g4)
    have F4 := sl.hide ((sl.unhide F3).kept g4)
    have E4 := sl.hide ((sl.unhide E3).kept g4)
    have M4 := sl.hide ((sl.unhide M3).kept g4)
    have N4 := sl.hide ((sl.unhide N3).kept g4)
    have X4 := sl.hide o4
    clear o4
    clear g4 B3 D3 F3 E3 M3 N3
    obtain ⟨V4, hV4⟩ : ∃ V, V = w4.alloc (.cells #[.int .i64 n0, .slice ua4 KK0.length uc4] 30) := ⟨_, rfl⟩
    have gv4 : w4.grownBy V4 none := by rw [hV4]; exact World.grownBy_alloc _ _ _
    have sv4 : w4.heap.size + 1 ≤ V4.heap.size := by rw [hV4]; simp only [World.size_alloc]; omega
    have NY : cf.Box 30 V4 (w4.heap.size) (.int .i64 n0) (.slice ua4 KK0.length uc4) := by
      rw [hV4]
      have q := cf.Box.new 30 w4 (.int .i64 n0) (.slice ua4 KK0.length uc4)
      exact q
    have Bv4 := sl.hide (sl.below_none (sl.unhide B4) gv4)
    have Dv4 := sl.hide ((sl.unhide D4).none gv4)
    have Xv4 := sl.hide ((sl.unhide X4).kept gv4)
    have Fv4 := sl.hide ((sl.unhide F4).kept gv4)
    have Ev4 := sl.hide ((sl.unhide E4).kept gv4)
    have Mv4 := sl.hide ((sl.unhide M4).kept gv4)
    have Nv4 := sl.hide ((sl.unhide N4).kept gv4)
    have Yv4 := sl.hide NY
    clear gv4 NY B4 D4 X4 F4 E4 M4 N4
    go_upto_region 10 with fail
    rw [← hV4]
    clear hV4
    generalize w4.heap.size = vb4 at *
    have zE0 := (sl.unhide Ev4).c0
    have zE1 := (sl.unhide Ev4).c1
    go_wp2_with fail
    refine (cf.toCnf v1 n1 LL1 _ hn2 ((sl.unhide S1).below (sl.unhide Bv4))).mono ?_; rintro e w5 ⟨u5, rfl, o5, g5⟩
    clear zE0 zE1
    obtain ⟨ua5, uc5, rfl⟩ := o5.len
    have t5 := g5.size
    have B5 := sl.hide (sl.below_none (sl.unhide Bv4) g5)
    have D5 := sl.hide ((sl.unhide Dv4).none g5)
    have X5 := sl.hide ((sl.unhide Xv4).kept g5)
    have F5 := sl.hide ((sl.unhide Fv4).kept g5)
    have E5 := sl.hide ((sl.unhide Ev4).kept g5)
    have M5 := sl.hide ((sl.unhide Mv4).kept g5)
    have N5 := sl.hide ((sl.unhide Nv4).kept g5)
    have Y5 := sl.hide ((sl.unhide Yv4).kept g5)
    have R5 := sl.hide o5
    clear o5
    clear g5 Bv4 Dv4 Xv4 Fv4 Ev4 Mv4 Nv4 Yv4
    obtain ⟨V5, hV5⟩ : ∃ V, V = w5.alloc (.cells #[.int .i64 n1, .slice ua5 LL1.length uc5] 26) := ⟨_, rfl⟩
    have gv5 : w5.grownBy V5 none := by rw [hV5]; exact World.grownBy_alloc _ _ _
    have sv5 : w5.heap.size + 1 ≤ V5.heap.size := by rw [hV5]; simp only [World.size_alloc]; omega
    have NA : cf.Box 26 V5 (w5.heap.size) (.int .i64 n1) (.slice ua5 LL1.length uc5) := by
      rw [hV5]
      have q := cf.Box.new 26 w5 (.int .i64 n1) (.slice ua5 LL1.length uc5)
      exact q
    have Bv5 := sl.hide (sl.below_none (sl.unhide B5) gv5)
    have Dv5 := sl.hide ((sl.unhide D5).none gv5)
    have Xv5 := sl.hide ((sl.unhide X5).kept gv5)
    have Rv5 := sl.hide ((sl.unhide R5).kept gv5)
    have Fv5 := sl.hide ((sl.unhide F5).kept gv5)
    have Ev5 := sl.hide ((sl.unhide E5).kept gv5)
    have Mv5 := sl.hide ((sl.unhide M5).kept gv5)
    have Nv5 := sl.hide ((sl.unhide N5).kept gv5)
    have Yv5 := sl.hide ((sl.unhide Y5).kept gv5)
    have Av5 := sl.hide NA
    clear gv5 NA B5 D5 X5 R5 F5 E5 M5 N5 Y5
    go_upto_region 11 with fail
    rw [← hV5]
    clear hV5
    generalize w5.heap.size = vb5 at *
    have zY0 := (sl.unhide Yv5).c0
    have zY1 := (sl.unhide Yv5).c1
    have zA0 := (sl.unhide Av5).c0
    have zA1 := (sl.unhide Av5).c1
    go_wp2_with fail
    refine (sl.unhide DI _ _ _ (sl.of_below (sl.unhide Bv5)) (sl.unhide Xv5).vkns (sl.unhide Rv5).sls).mono ?_; rintro e w6 ⟨u6, v6, mid6, rfl, hm6, hM6, ov6, ou6, g6⟩
    clear zY0 zY1 zA0 zA1
    obtain ⟨ua6, uc6, rfl⟩ := ou6.len
    obtain ⟨va6, vc6, rfl, vx6⟩ := ov6.sl
    clear vx6
    have t6 := g6.size
    have B6 := sl.hide (sl.below_none (sl.unhide Bv5) g6)
    have D6 := sl.hide ((sl.unhide Dv5).none g6)
    have X6 := sl.hide ((sl.unhide Xv5).kept g6)
    have R6 := sl.hide ((sl.unhide Rv5).kept g6)
    have F6 := sl.hide ((sl.unhide Fv5).kept g6)
    have E6 := sl.hide ((sl.unhide Ev5).kept g6)
    have M6 := sl.hide ((sl.unhide Mv5).kept g6)
    have N6 := sl.hide ((sl.unhide Nv5).kept g6)
    have Y6 := sl.hide ((sl.unhide Yv5).kept g6)
    have A6 := sl.hide ((sl.unhide Av5).kept g6)
    have U6 := sl.hide ou6
    have Z6 := sl.hide ov6
    clear ou6 ov6
    clear g6 Bv5 Dv5 Xv5 Rv5 Fv5 Ev5 Mv5 Nv5 Yv5 Av5
    obtain ⟨V6, hV6⟩ : ∃ V, V = (w6.alloc (.cells #[.int .i64 n0, .slice ua6 L.length uc6] 30)).alloc (.cells #[.string dg, .bool sat, .slice va6 vals.length vc6, .int .i64 cost] 36) := ⟨_, rfl⟩
    have gv6 : w6.grownBy V6 none := by rw [hV6]; exact sl.grown_trans (World.grownBy_alloc _ _ _) (World.grownBy_alloc _ _ _)
    have sv6 : w6.heap.size + 2 ≤ V6.heap.size := by rw [hV6]; simp only [World.size_alloc]; omega
    have NG : cf.Box 30 V6 (w6.heap.size) (.int .i64 n0) (.slice ua6 L.length uc6) := by
      rw [hV6]
      have q := (cf.Box.new 30 w6 (.int .i64 n0) (.slice ua6 L.length uc6)).kept (World.grownBy_alloc _ (.cells #[.string dg, .bool sat, .slice va6 vals.length vc6, .int .i64 cost] 36) none)
      exact q
    have NH : yb.Box4 36 V6 (w6.heap.size + 1) (.string dg) (.bool sat) (.slice va6 vals.length vc6) (.int .i64 cost) := by
      rw [hV6]
      have q := yb.Box4.new 36 (w6.alloc (.cells #[.int .i64 n0, .slice ua6 L.length uc6] 30)) (.string dg) (.bool sat) (.slice va6 vals.length vc6) (.int .i64 cost)
      simp only [World.size_alloc] at q
      exact q
    have Bv6 := sl.hide (sl.below_none (sl.unhide B6) gv6)
    have Dv6 := sl.hide ((sl.unhide D6).none gv6)
    have Xv6 := sl.hide ((sl.unhide X6).kept gv6)
    have Rv6 := sl.hide ((sl.unhide R6).kept gv6)
    have Uv6 := sl.hide ((sl.unhide U6).kept gv6)
    have Zv6 := sl.hide ((sl.unhide Z6).kept gv6)
    have Fv6 := sl.hide ((sl.unhide F6).kept gv6)
    have Ev6 := sl.hide ((sl.unhide E6).kept gv6)
    have Mv6 := sl.hide ((sl.unhide M6).kept gv6)
    have Nv6 := sl.hide ((sl.unhide N6).kept gv6)
    have Yv6 := sl.hide ((sl.unhide Y6).kept gv6)
    have Av6 := sl.hide ((sl.unhide A6).kept gv6)
    have Gv6 := sl.hide NG
    have Hv6 := sl.hide NH
    clear gv6 NG NH B6 D6 X6 R6 U6 Z6 F6 E6 M6 N6 Y6 A6
    go_upto_region 12 with fail
    rw [← hV6]
    clear hV6
    generalize w6.heap.size = vb6 at *
    have hbb : (b != b) = false := by cases b <;> rfl
    have zG0 := (sl.unhide Gv6).c0
    have zG1 := (sl.unhide Gv6).c1
    have zM0 := (sl.unhide Mv6).c0
    have zM1 := (sl.unhide Mv6).c1
    go_wp2_with fail
    refine (ua.eqCacheB _ _ n0 L _ hlen (sl.unhide HIN) (sl.unhide Uv6).kns ((sl.unhide KNM).kept (sl.unhide Dv6).grown)).mono ?_; rintro e w7 ⟨rfl, g7⟩
    clear zG0 zG1 zM0 zM1
    have t7 := g7.size
    have B7 := sl.hide (sl.below_none (sl.unhide Bv6) g7)
    have D7 := sl.hide ((sl.unhide Dv6).none g7)
    have X7 := sl.hide ((sl.unhide Xv6).kept g7)
    have R7 := sl.hide ((sl.unhide Rv6).kept g7)
    have U7 := sl.hide ((sl.unhide Uv6).kept g7)
    have Z7 := sl.hide ((sl.unhide Zv6).kept g7)
    have F7 := sl.hide ((sl.unhide Fv6).kept g7)
    have E7 := sl.hide ((sl.unhide Ev6).kept g7)
    have M7 := sl.hide ((sl.unhide Mv6).kept g7)
    have N7 := sl.hide ((sl.unhide Nv6).kept g7)
    have Y7 := sl.hide ((sl.unhide Yv6).kept g7)
    have A7 := sl.hide ((sl.unhide Av6).kept g7)
    have G7 := sl.hide ((sl.unhide Gv6).kept g7)
    have H7 := sl.hide ((sl.unhide Hv6).kept g7)
    clear g7 Bv6 Dv6 Xv6 Rv6 Uv6 Zv6 Fv6 Ev6 Mv6 Nv6 Yv6 Av6 Gv6 Hv6
    have zH0 := (sl.unhide H7).c0
    have zH1 := (sl.unhide H7).c1
    have zH2 := (sl.unhide H7).c2
    have zH3 := (sl.unhide H7).c3
    have zN0 := (sl.unhide N7).c0
    have zN1 := (sl.unhide N7).c1
    have zN2 := (sl.unhide N7).c2
    have zN3 := (sl.unhide N7).c3
    go_wp2_with fail
    refine (ua.eqKnown _ _ ⟨dg, sat, vals, cost⟩ _ hnV (sl.unhide Z7).sl ((sl.unhide VNN).kept (sl.unhide D7).grown (.inl rfl))).mono ?_; rintro e w8 ⟨rfl, g8⟩
    clear zH0 zH1 zH2 zH3 zN0 zN1 zN2 zN3
    have t8 := g8.size
    have B8 := sl.hide (sl.below_none (sl.unhide B7) g8)
    have D8 := sl.hide ((sl.unhide D7).none g8)
    have X8 := sl.hide ((sl.unhide X7).kept g8)
    have R8 := sl.hide ((sl.unhide R7).kept g8)
    have U8 := sl.hide ((sl.unhide U7).kept g8)
    have Z8 := sl.hide ((sl.unhide Z7).kept g8)
    have F8 := sl.hide ((sl.unhide F7).kept g8)
    have E8 := sl.hide ((sl.unhide E7).kept g8)
    have M8 := sl.hide ((sl.unhide M7).kept g8)
    have N8 := sl.hide ((sl.unhide N7).kept g8)
    have Y8 := sl.hide ((sl.unhide Y7).kept g8)
    have A8 := sl.hide ((sl.unhide A7).kept g8)
    have G8 := sl.hide ((sl.unhide G7).kept g8)
    have H8 := sl.hide ((sl.unhide H7).kept g8)
    clear g8 B7 D7 X7 R7 U7 Z7 F7 E7 M7 N7 Y7 A7 G7 H7
    go_upto_region 14 with fail
    have T5 := sl.hide (ua.toCache v0 n0 KK0 w8.drew hn (((sl.unhide S).below (sl.unhide B8)).kept (cf.grown_drew w8 none)))
    have E5 := sl.hide (fun u6 wa (g6 : w8.drew.grownBy wa none) (o6 : ua.OwnK w8.drew.heap.size wa.heap.size wa u6 KK0) => ua.eqCache _ u6 n0 KK0 wa hn ((sl.unhide X8).kept (sl.grown_trans (r := none) (cf.grown_drew w8 none) g6)).kns o6.kns)
    have YY5 := sl.hide (fun wa (g6 : w8.drew.grownBy wa none) => (sl.unhide Y8).kept (sl.grown_trans (r := none) (cf.grown_drew w8 none) g6))
    have GG5 := sl.hide (fun wa wb (g6 : w8.drew.grownBy wa none) (g7 : wa.grownBy wb none) => sl.grown_trans (r := none) (sl.grown_trans (r := none) (cf.grown_drew w8 none) g6) g7)
    have zF0 := (sl.unhide F8).c0
    have zF1 := (sl.unhide F8).c1
    have zY0 := (sl.unhide Y8).c0
    have zY1 := (sl.unhide Y8).c1
    go_cut [69] (fun q wx => q = .bool false ∧ Hid (w8.grownBy wx none))
    case first =>
      go_region_with (first
        | (go_at_call 18; refine (sl.unhide T5).mono ?_; rintro e wa ⟨u6, rfl, o6, g6⟩; have z0 := (sl.unhide YY5 wa g6).c0; have z1 := (sl.unhide YY5 wa g6).c1; have EE6 := sl.hide (sl.unhide E5 u6 wa g6 o6); have GG6 := sl.hide (fun wb => sl.unhide GG5 wa wb g6); clear g6 o6)
        | (go_at_call 20; refine (sl.unhide EE6).mono ?_; rintro e wb ⟨rfl, g7⟩; have GG7 := sl.hide (sl.unhide GG6 wb g7); clear g7))
      all_goals (go_wp2_with fail; go_meet; exact ⟨rfl, GG7⟩)
    case rest =>
      obtain ⟨rfl, hg⟩ := hcut
      clear T5 E5 YY5 GG5 zF0 zF1 zY0 zY1
      have g9 := sl.unhide hg
      have t9 := g9.size
      have B9 := sl.hide (sl.below_none (sl.unhide B8) g9)
      have D9 := sl.hide ((sl.unhide D8).none g9)
      have X9 := sl.hide ((sl.unhide X8).kept g9)
      have R9 := sl.hide ((sl.unhide R8).kept g9)
      have U9 := sl.hide ((sl.unhide U8).kept g9)
      have Z9 := sl.hide ((sl.unhide Z8).kept g9)
      have F9 := sl.hide ((sl.unhide F8).kept g9)
      have E9 := sl.hide ((sl.unhide E8).kept g9)
      have M9 := sl.hide ((sl.unhide M8).kept g9)
      have N9 := sl.hide ((sl.unhide N8).kept g9)
      have Y9 := sl.hide ((sl.unhide Y8).kept g9)
      have A9 := sl.hide ((sl.unhide A8).kept g9)
      have G9 := sl.hide ((sl.unhide G8).kept g9)
      have H9 := sl.hide ((sl.unhide H8).kept g9)
      clear hg g9 B8 D8 X8 R8 U8 Z8 F8 E8 M8 N8 Y8 A8 G8 H8
      generalize hwc : wc = w9 at *
      clear hwc
      go_upto_region 16 with fail
      have T5 := sl.hide (cf.toCnf v1 n1 LL1 w9.drew hn2 (((sl.unhide S1).below (sl.unhide B9)).kept (cf.grown_drew w9 none)))
      have E5 := sl.hide (fun u6 wa (g6 : w9.drew.grownBy wa none) (o6 : css.OwnS w9.drew.heap.size wa.heap.size wa u6 LL1) => cf.eqCnf _ u6 n1 LL1 wa hn2 ((sl.unhide R9).kept (sl.grown_trans (r := none) (cf.grown_drew w9 none) g6)).sls o6.sls)
      have YY5 := sl.hide (fun wa (g6 : w9.drew.grownBy wa none) => (sl.unhide A9).kept (sl.grown_trans (r := none) (cf.grown_drew w9 none) g6))
      have GG5 := sl.hide (fun wa wb (g6 : w9.drew.grownBy wa none) (g7 : wa.grownBy wb none) => sl.grown_trans (r := none) (sl.grown_trans (r := none) (cf.grown_drew w9 none) g6) g7)
      have zE0 := (sl.unhide E9).c0
      have zE1 := (sl.unhide E9).c1
      have zA0 := (sl.unhide A9).c0
      have zA1 := (sl.unhide A9).c1
      go_cut [74] (fun q wx => q = .bool false ∧ Hid (w9.grownBy wx none))
      case first =>
        go_region_with (first
          | (go_at_call 19; refine (sl.unhide T5).mono ?_; rintro e wa ⟨u6, rfl, o6, g6⟩; have z0 := (sl.unhide YY5 wa g6).c0; have z1 := (sl.unhide YY5 wa g6).c1; have EE6 := sl.hide (sl.unhide E5 u6 wa g6 o6); have GG6 := sl.hide (fun wb => sl.unhide GG5 wa wb g6); clear g6 o6)
          | (go_at_call 22; refine (sl.unhide EE6).mono ?_; rintro e wb ⟨rfl, g7⟩; have GG7 := sl.hide (sl.unhide GG6 wb g7); clear g7))
        all_goals (go_wp2_with fail; go_meet; exact ⟨rfl, GG7⟩)
      case rest =>
        obtain ⟨rfl, hg⟩ := hcut
        clear T5 E5 YY5 GG5 zE0 zE1 zA0 zA1
        have g10 := sl.unhide hg
        have t10 := g10.size
        have B10 := sl.hide (sl.below_none (sl.unhide B9) g10)
        have D10 := sl.hide ((sl.unhide D9).none g10)
        have X10 := sl.hide ((sl.unhide X9).kept g10)
        have R10 := sl.hide ((sl.unhide R9).kept g10)
        have U10 := sl.hide ((sl.unhide U9).kept g10)
        have Z10 := sl.hide ((sl.unhide Z9).kept g10)
        have F10 := sl.hide ((sl.unhide F9).kept g10)
        have E10 := sl.hide ((sl.unhide E9).kept g10)
        have M10 := sl.hide ((sl.unhide M9).kept g10)
        have N10 := sl.hide ((sl.unhide N9).kept g10)
        have Y10 := sl.hide ((sl.unhide Y9).kept g10)
        have A10 := sl.hide ((sl.unhide A9).kept g10)
        have G10 := sl.hide ((sl.unhide G9).kept g10)
        have H10 := sl.hide ((sl.unhide H9).kept g10)
        clear hg g10 B9 D9 X9 R9 U9 Z9 F9 E9 M9 N9 Y9 A9 G9 H9
        generalize hwc : wc = w10 at *
        clear hwc
        have s0 := sl.unhide HS0
        have s1 := sl.unhide HSL
        have s2 := sl.unhide HS1
        have zY0 := (sl.unhide Y10).c0
        have zY1 := (sl.unhide Y10).c1
        go_wp2_with fail
        refine (ua.markCache _ n0 KK0 1 _ _ _ (Nat.le_trans hn (by decide)) (fun i => Nat.le_trans (ua.tot_vals KK0 i) hn) (by decide) (by decide) (sl.unhide X10)).mono ?_; rintro e w11 ⟨rfl, o11, g11⟩
        clear zY0 zY1
        have t11 := g11.size
        have B11 := sl.hide (css.below_outs (sl.unhide B10) (by omega) g11)
        have D11 := sl.hide ((sl.unhide D10).outs (by omega) g11)
        have R11 := sl.hide ((sl.unhide R10).outs g11 (by omega))
        have U11 := sl.hide ((sl.unhide U10).outs g11 (by omega))
        have Z11 := sl.hide (css.own_outs (sl.unhide Z10) g11 (by omega))
        have F11 := sl.hide (ua.box_outs (sl.unhide F10) g11 (by omega))
        have E11 := sl.hide (ua.box_outs (sl.unhide E10) g11 (by omega))
        have M11 := sl.hide (ua.box_outs (sl.unhide M10) g11 (by omega))
        have N11 := sl.hide (ua.box4_outs (sl.unhide N10) g11 (by omega))
        have Y11 := sl.hide (ua.box_outs (sl.unhide Y10) g11 (by omega))
        have A11 := sl.hide (ua.box_outs (sl.unhide A10) g11 (by omega))
        have G11 := sl.hide (ua.box_outs (sl.unhide G10) g11 (by omega))
        have H11 := sl.hide (ua.box4_outs (sl.unhide H10) g11 (by omega))
        clear o11
        clear g11 B10 D10 X10 R10 U10 Z10 F10 E10 M10 N10 Y10 A10 G10 H10
        clear Y11
        have zA0 := (sl.unhide A11).c0
        have zA1 := (sl.unhide A11).c1
        go_wp2_with fail
        refine (cf.markCnf _ n1 LL1 (1 + (ua.sumK KK0 : Int)) _ _ _ hn2 (by omega) (by omega) (sl.unhide R11)).mono ?_; rintro e w12 ⟨rfl, o12, g12⟩
        clear zA0 zA1
        have t12 := g12.size
        have B12 := sl.hide (css.below_outs (sl.unhide B11) (by omega) g12)
        have D12 := sl.hide ((sl.unhide D11).outs (by omega) g12)
        have U12 := sl.hide ((sl.unhide U11).outs g12 (by omega))
        have Z12 := sl.hide (css.own_outs (sl.unhide Z11) g12 (by omega))
        have F12 := sl.hide (ua.box_outs (sl.unhide F11) g12 (by omega))
        have E12 := sl.hide (ua.box_outs (sl.unhide E11) g12 (by omega))
        have M12 := sl.hide (ua.box_outs (sl.unhide M11) g12 (by omega))
        have N12 := sl.hide (ua.box4_outs (sl.unhide N11) g12 (by omega))
        have A12 := sl.hide (ua.box_outs (sl.unhide A11) g12 (by omega))
        have G12 := sl.hide (ua.box_outs (sl.unhide G11) g12 (by omega))
        have H12 := sl.hide (ua.box4_outs (sl.unhide H11) g12 (by omega))
        clear o12
        clear g12 B11 D11 R11 U11 Z11 F11 E11 M11 N11 A11 G11 H11
        clear A12
        have hk : ¬ (1 : Int) + (ua.sumK KK0 : Int) + (css.sumLen LL1 : Int) < 0 := by omega
        have hk' : decide ((1 : Int) + (ua.sumK KK0 : Int) + (css.sumLen LL1 : Int) < 0) = false := decide_eq_false hk
        have zG0 := (sl.unhide G12).c0
        have zG1 := (sl.unhide G12).c1
        have zM0 := (sl.unhide M12).c0
        have zM1 := (sl.unhide M12).c1
        go_wp2_with fail
        refine (ua.eqCacheB _ _ n0 L _ hlen (sl.unhide HIN) (sl.unhide U12).kns ((sl.unhide KNM).kept (sl.unhide D12).grown)).mono ?_; rintro e w13 ⟨rfl, g13⟩
        clear zG0 zG1 zM0 zM1
        have t13 := g13.size
        have B13 := sl.hide (sl.below_none (sl.unhide B12) g13)
        have D13 := sl.hide ((sl.unhide D12).none g13)
        have U13 := sl.hide ((sl.unhide U12).kept g13)
        have Z13 := sl.hide ((sl.unhide Z12).kept g13)
        have F13 := sl.hide ((sl.unhide F12).kept g13)
        have E13 := sl.hide ((sl.unhide E12).kept g13)
        have M13 := sl.hide ((sl.unhide M12).kept g13)
        have N13 := sl.hide ((sl.unhide N12).kept g13)
        have G13 := sl.hide ((sl.unhide G12).kept g13)
        have H13 := sl.hide ((sl.unhide H12).kept g13)
        clear g13 B12 D12 U12 Z12 F12 E12 M12 N12 G12 H12
        clear hk hk'
        have zH0 := (sl.unhide H13).c0
        have zH1 := (sl.unhide H13).c1
        have zH2 := (sl.unhide H13).c2
        have zH3 := (sl.unhide H13).c3
        have zN0 := (sl.unhide N13).c0
        have zN1 := (sl.unhide N13).c1
        have zN2 := (sl.unhide N13).c2
        have zN3 := (sl.unhide N13).c3
        go_wp2_with fail
        refine (ua.eqKnown _ _ ⟨dg, sat, vals, cost⟩ _ hnV (sl.unhide Z13).sl ((sl.unhide VNN).kept (sl.unhide D13).grown (.inl rfl))).mono ?_; rintro e w14 ⟨rfl, g14⟩
        clear zH0 zH1 zH2 zH3 zN0 zN1 zN2 zN3
        have t14 := g14.size
        have B14 := sl.hide (sl.below_none (sl.unhide B13) g14)
        have D14 := sl.hide ((sl.unhide D13).none g14)
        have U14 := sl.hide ((sl.unhide U13).kept g14)
        have Z14 := sl.hide ((sl.unhide Z13).kept g14)
        have F14 := sl.hide ((sl.unhide F13).kept g14)
        have E14 := sl.hide ((sl.unhide E13).kept g14)
        have M14 := sl.hide ((sl.unhide M13).kept g14)
        have N14 := sl.hide ((sl.unhide N13).kept g14)
        have G14 := sl.hide ((sl.unhide G13).kept g14)
        have H14 := sl.hide ((sl.unhide H13).kept g14)
        clear g14 B13 D13 U13 Z13 F13 E13 M13 N13 G13 H13
        have zG0 := (sl.unhide G14).c0
        have zG1 := (sl.unhide G14).c1
        go_wp2_with fail
        refine (ua.markCache _ n0 L 1 _ _ _ hnG (sl.unhide HIN) (by decide) (by decide) (sl.unhide U14)).mono ?_; rintro e w15 ⟨rfl, o15, g15⟩
        clear zG0 zG1
        have t15 := g15.size
        have B15 := sl.hide (css.below_outs (sl.unhide B14) (by omega) g15)
        have D15 := sl.hide ((sl.unhide D14).outs (by omega) g15)
        have Z15 := sl.hide (css.own_outs (sl.unhide Z14) g15 (by omega))
        have F15 := sl.hide (ua.box_outs (sl.unhide F14) g15 (by omega))
        have E15 := sl.hide (ua.box_outs (sl.unhide E14) g15 (by omega))
        have M15 := sl.hide (ua.box_outs (sl.unhide M14) g15 (by omega))
        have N15 := sl.hide (ua.box4_outs (sl.unhide N14) g15 (by omega))
        have G15 := sl.hide (ua.box_outs (sl.unhide G14) g15 (by omega))
        have H15 := sl.hide (ua.box4_outs (sl.unhide H14) g15 (by omega))
        have U15 := sl.hide o15
        clear o15
        clear g15 B14 D14 U14 Z14 F14 E14 M14 N14 G14 H14
        obtain ⟨m1, hm1⟩ : ∃ m1, m1 = (1 : Int) + (ua.sumK L : Int) := ⟨_, rfl⟩
        have hm2 : 1 ≤ m1 := by omega
        have hm3 : m1 ≤ 1099511627776 := by omega
        rw [← hm1]
        have HM1 := sl.hide hm1
        clear hm1
        have zH0 := (sl.unhide H15).c0
        have zH1 := (sl.unhide H15).c1
        have zH2 := (sl.unhide H15).c2
        have zH3 := (sl.unhide H15).c3
        go_wp2_with fail
        refine (ua.markKnown _ ⟨dg, sat, vals, cost⟩ m1 _ _ _ hnV (by omega) (by omega) (sl.unhide Z15)).mono ?_; rintro e w16 ⟨rfl, o16, g16⟩
        clear zH0 zH1 zH2 zH3
        have t16 := g16.size
        have B16 := sl.hide (css.below_outs (sl.unhide B15) (by omega) g16)
        have D16 := sl.hide ((sl.unhide D15).outs (by omega) g16)
        have U16 := sl.hide ((sl.unhide U15).outs g16 (by omega))
        have F16 := sl.hide (ua.box_outs (sl.unhide F15) g16 (by omega))
        have E16 := sl.hide (ua.box_outs (sl.unhide E15) g16 (by omega))
        have M16 := sl.hide (ua.box_outs (sl.unhide M15) g16 (by omega))
        have N16 := sl.hide (ua.box4_outs (sl.unhide N15) g16 (by omega))
        have G16 := sl.hide (ua.box_outs (sl.unhide G15) g16 (by omega))
        have H16 := sl.hide (ua.box4_outs (sl.unhide H15) g16 (by omega))
        have Z16 := sl.hide o16
        clear o16
        clear g16 B15 D15 Z15 U15 F15 E15 M15 N15 G15 H15
        have zG0 := (sl.unhide G16).c0
        have zG1 := (sl.unhide G16).c1
        go_wp2_with fail
        refine (ua.heldCache _ n0 L 1 _ hnG (sl.unhide HIN) (by decide) (by decide) (sl.unhide U16).kns).mono ?_; rintro e w17 ⟨rfl, g17⟩
        clear zG0 zG1
        rw [← sl.unhide HM1]
        have t17 := g17.size
        have B17 := sl.hide (sl.below_none (sl.unhide B16) g17)
        have D17 := sl.hide ((sl.unhide D16).none g17)
        have U17 := sl.hide ((sl.unhide U16).kept g17)
        have Z17 := sl.hide ((sl.unhide Z16).kept g17)
        have F17 := sl.hide ((sl.unhide F16).kept g17)
        have E17 := sl.hide ((sl.unhide E16).kept g17)
        have M17 := sl.hide ((sl.unhide M16).kept g17)
        have N17 := sl.hide ((sl.unhide N16).kept g17)
        have G17 := sl.hide ((sl.unhide G16).kept g17)
        have H17 := sl.hide ((sl.unhide H16).kept g17)
        clear g17 B16 D16 U16 Z16 F16 E16 M16 N16 G16 H16
        have hq1 : ¬ m1 < 0 := by omega
        have zH0 := (sl.unhide H17).c0
        have zH1 := (sl.unhide H17).c1
        have zH2 := (sl.unhide H17).c2
        have zH3 := (sl.unhide H17).c3
        go_wp2_with fail
        refine (ua.heldKnown _ dg sat vals.length cost m1 _ hnV (by omega) (by omega) (sl.unhide Z17).sl).mono ?_; rintro e w18 ⟨rfl, g18⟩
        clear zH0 zH1 zH2 zH3
        have t18 := g18.size
        have B18 := sl.hide (sl.below_none (sl.unhide B17) g18)
        have D18 := sl.hide ((sl.unhide D17).none g18)
        have U18 := sl.hide ((sl.unhide U17).kept g18)
        have Z18 := sl.hide ((sl.unhide Z17).kept g18)
        have F18 := sl.hide ((sl.unhide F17).kept g18)
        have E18 := sl.hide ((sl.unhide E17).kept g18)
        have M18 := sl.hide ((sl.unhide M17).kept g18)
        have N18 := sl.hide ((sl.unhide N17).kept g18)
        have G18 := sl.hide ((sl.unhide G17).kept g18)
        have H18 := sl.hide ((sl.unhide H17).kept g18)
        clear g18 B17 D17 U17 Z17 F17 E17 M17 N17 G17 H17
        have hq3 : ¬ m1 + (vals.length : Int) < 0 := by omega
        go_upto_region 35 with fail
        go_cut [17, 18, 19] (fun p q r wx => r = .bool b ∧ Hid (an.Cc PP w18 wx p q n0 dg sat cost))
        case first =>
          have T0 := sl.hide (fun w1 (gx : w18.grownBy w1 none) => ua.toCache v0 n0 KK0 w1 hn (((sl.unhide S).below (sl.unhide B18)).kept gx))
          have T1 := sl.hide (fun w1 (gx : w18.grownBy w1 none) => cf.toCnf v1 n1 LL1 w1 hn2 (((sl.unhide S1).below (sl.unhide B18)).kept gx))
          have DD := sl.hide (fun v u w1 (gx : w18.grownBy w1 none) hv hu => sl.unhide DR v u w1 (sl.grown_trans (r := none) (sl.of_below (sl.unhide B18)) gx) hv hu)
          unfold an.FndP at DD
          have CK := sl.hide (fun (w1 : World) (gx : w18.grownBy w1 none) => And.intro ((sl.unhide F18).kept gx).c0 (And.intro ((sl.unhide F18).kept gx).c1 (And.intro ((sl.unhide E18).kept gx).c0 ((sl.unhide E18).kept gx).c1)))
          have EE := sl.hide (fun (w1 : World) (gx : w18.grownBy w1 none) => ((sl.unhide E18).kept gx).lt)
          have x0 := (sl.unhide F18).c0
          have x1 := (sl.unhide F18).c1
          have y0 := (sl.unhide E18).c0
          have y1 := (sl.unhide E18).c1
          have e0 := World.new_ne w18 _ x0
          have e1 := World.new_ne w18 _ y0
          have e0p := World.new_ne (w18.alloc (.cells #[.int .i64 0, .slice none 0 0] 30)) _ ((World.grownBy_alloc w18 (.cells #[.int .i64 0, .slice none 0 0] 30) none).cell x0 (fun e => by cases e))
          rw [World.size_alloc] at e0p
          have e1p := World.new_ne (w18.alloc (.cells #[.int .i64 0, .slice none 0 0] 30)) _ ((World.grownBy_alloc w18 (.cells #[.int .i64 0, .slice none 0 0] 30) none).cell y0 (fun e => by cases e))
          rw [World.size_alloc] at e1p
          have xx := (sl.unhide E18).lt
          have xa : ¬ w.heap.size = w18.heap.size + 1 := (by have := xx; omega)
          have xb : ¬ w.heap.size + 1 = w18.heap.size + 1 := (by have := xx; omega)
          have xc : ¬ w.heap.size = w18.heap.size := (by have := xx; omega)
          have xd : ¬ w.heap.size + 1 = w18.heap.size := (by have := xx; omega)
          clear U18 Z18 F18 E18 M18 N18 G18 H18 B18 D18
          refine lz1.reg1 n0 v0 KK0 n1 v1 LL1 w L b dg sat vals cost PP w r2 c3 k3 ya3 yc3 za3 zc3 ua4 uc4 vb4 ua5 uc5 vb5 ua6 uc6 va6 vc6 vb6 u74 u20 u21 u22 u23 u24 u25 u26 u27 u28 u29 u30 u31 u32 u33 u34 u35 u36 u37 u38 u39 u40 u41 u42 u43 u44 u45 u46 u47 u48 u49 u50 u51 u52 u53 u54 u55 u56 u57 u58 u59 u60 u61 u62 u63 u64 u65 u66 u67 u68 u69 u70 u71 u72 u73 u75 u76 u77 u78 u79 u80 u81 u82 u83 u84 u85 u86 u87 u88 u89 u90 u91 u92 u93 u94 u95 u96 u97 u98 u99 u100 u101 u102 u103 u104 u105 u106 u107 u108 u109 u110 u111 u112 u113 u114 u115 u116 u117 u118 u119 u120 u121 u122 u123 u124 u125 u126 u127 u128 u129 u130 u131 u132 u133 u134 u135 u136 u137 u138 u139 u140 u141 u142 u143 u144 u145 u146 u147 u148 u149 u150 u151 u152 u153 u154 u155 m1 w18 (by assumption) (by assumption) CL T0 T1 DD CK EE x0 x1 y0 y1 e0 e1 e0p e1p xx xa xb xc xd
        case rest =>
          obtain ⟨rfl, hcc⟩ := hcut
          obtain ⟨c19, k19, y19, z19, lo19, hi19, rfl, rfl, fb19, fk19, hp19, g19, fc19, fd19, fl19, fh19, cl19⟩ := sl.unhide hcc
          rw [sl.unhide HPP] at hp19
          obtain ⟨hr19, hh19, hv19⟩ := hp19
          obtain ⟨ya19, yc19, rfl⟩ := hr19.len
          obtain ⟨za19, zc19, rfl, hx19⟩ := hv19.sl
          have t19 := g19.size
          have ft19 := fb19.lt
          have fu19 := fk19.lt
          have B19 := sl.hide (sl.below_none (sl.unhide B18) g19)
          have D19 := sl.hide ((sl.unhide D18).none g19)
          have U19 := sl.hide ((sl.unhide U18).kept g19)
          have Z19 := sl.hide ((sl.unhide Z18).kept g19)
          have F19 := sl.hide ((sl.unhide F18).kept g19)
          have E19 := sl.hide ((sl.unhide E18).kept g19)
          have M19 := sl.hide ((sl.unhide M18).kept g19)
          have N19 := sl.hide ((sl.unhide N18).kept g19)
          have G19 := sl.hide ((sl.unhide G18).kept g19)
          have H19 := sl.hide ((sl.unhide H18).kept g19)
          have I19 := sl.hide fb19
          have J19 := sl.hide fk19
          have KNI := sl.hide hr19.vkns.kns
          have VNJ := sl.hide hv19.sl
          clear g19 hcc fb19 fk19 hr19 hh19 hv19 hx19 cl19 fl19 fh19 B18 D18 U18 Z18 F18 E18 M18 N18 G18 H18
          generalize hwc : wc = w19 at *
          clear hwc
          have C19 := sl.hide (ua.Old.start w19)
          have zI0 := (sl.unhide I19).c0
          have zI1 := (sl.unhide I19).c1
          have zM0 := (sl.unhide M19).c0
          have zM1 := (sl.unhide M19).c1
          go_wp2_with fail
          refine (ua.eqCacheB _ _ n0 L _ hlen (sl.unhide HIN) (sl.unhide KNI) ((sl.unhide KNM).kept (sl.unhide D19).grown)).mono ?_; rintro e w20 ⟨rfl, g20⟩
          clear zI0 zI1 zM0 zM1
          have t20 := g20.size
          have B20 := sl.hide (sl.below_none (sl.unhide B19) g20)
          have D20 := sl.hide ((sl.unhide D19).none g20)
          have C20 := sl.hide ((sl.unhide C19).none g20)
          have U20 := sl.hide ((sl.unhide U19).kept g20)
          have Z20 := sl.hide ((sl.unhide Z19).kept g20)
          have F20 := sl.hide ((sl.unhide F19).kept g20)
          have E20 := sl.hide ((sl.unhide E19).kept g20)
          have M20 := sl.hide ((sl.unhide M19).kept g20)
          have N20 := sl.hide ((sl.unhide N19).kept g20)
          have G20 := sl.hide ((sl.unhide G19).kept g20)
          have H20 := sl.hide ((sl.unhide H19).kept g20)
          have I20 := sl.hide ((sl.unhide I19).kept g20)
          have J20 := sl.hide ((sl.unhide J19).kept g20)
          clear g20 B19 D19 C19 U19 Z19 F19 E19 M19 N19 G19 H19 I19 J19
          have zJ0 := (sl.unhide J20).c0
          have zJ1 := (sl.unhide J20).c1
          have zJ2 := (sl.unhide J20).c2
          have zJ3 := (sl.unhide J20).c3
          have zN0 := (sl.unhide N20).c0
          have zN1 := (sl.unhide N20).c1
          have zN2 := (sl.unhide N20).c2
          have zN3 := (sl.unhide N20).c3
          go_wp2_with fail
          refine (ua.eqKnown _ _ ⟨dg, sat, vals, cost⟩ _ hnV ((sl.unhide VNJ).kept (sl.unhide C20).grown (.inl rfl)) ((sl.unhide VNN).kept (sl.unhide D20).grown (.inl rfl))).mono ?_; rintro e w21 ⟨rfl, g21⟩
          clear zJ0 zJ1 zJ2 zJ3 zN0 zN1 zN2 zN3
          have t21 := g21.size
          have B21 := sl.hide (sl.below_none (sl.unhide B20) g21)
          have D21 := sl.hide ((sl.unhide D20).none g21)
          have C21 := sl.hide ((sl.unhide C20).none g21)
          have U21 := sl.hide ((sl.unhide U20).kept g21)
          have Z21 := sl.hide ((sl.unhide Z20).kept g21)
          have F21 := sl.hide ((sl.unhide F20).kept g21)
          have E21 := sl.hide ((sl.unhide E20).kept g21)
          have M21 := sl.hide ((sl.unhide M20).kept g21)
          have N21 := sl.hide ((sl.unhide N20).kept g21)
          have G21 := sl.hide ((sl.unhide G20).kept g21)
          have H21 := sl.hide ((sl.unhide H20).kept g21)
          have I21 := sl.hide ((sl.unhide I20).kept g21)
          have J21 := sl.hide ((sl.unhide J20).kept g21)
          clear g21 B20 D20 C20 U20 Z20 F20 E20 M20 N20 G20 H20 I20 J20
          clear C21
          clear I21 J21 M21 N21
          have zG0 := (sl.unhide G21).c0
          have zG1 := (sl.unhide G21).c1
          go_wp2_with fail
          refine (ua.heldCache _ n0 L 1 _ hnG (sl.unhide HIN) (by decide) (by decide) (sl.unhide U21).kns).mono ?_; rintro e w22 ⟨rfl, g22⟩
          clear zG0 zG1
          rw [← sl.unhide HM1]
          have t22 := g22.size
          have B22 := sl.hide (sl.below_none (sl.unhide B21) g22)
          have D22 := sl.hide ((sl.unhide D21).none g22)
          have U22 := sl.hide ((sl.unhide U21).kept g22)
          have Z22 := sl.hide ((sl.unhide Z21).kept g22)
          have F22 := sl.hide ((sl.unhide F21).kept g22)
          have E22 := sl.hide ((sl.unhide E21).kept g22)
          have G22 := sl.hide ((sl.unhide G21).kept g22)
          have H22 := sl.hide ((sl.unhide H21).kept g22)
          clear g22 B21 D21 U21 Z21 F21 E21 G21 H21
          have hq1 : ¬ m1 < 0 := by omega
          have zH0 := (sl.unhide H22).c0
          have zH1 := (sl.unhide H22).c1
          have zH2 := (sl.unhide H22).c2
          have zH3 := (sl.unhide H22).c3
          go_wp2_with fail
          refine (ua.heldKnown _ dg sat vals.length cost m1 _ hnV (by omega) (by omega) (sl.unhide Z22).sl).mono ?_; rintro e w23 ⟨rfl, g23⟩
          clear zH0 zH1 zH2 zH3
          have t23 := g23.size
          have B23 := sl.hide (sl.below_none (sl.unhide B22) g23)
          have D23 := sl.hide ((sl.unhide D22).none g23)
          have U23 := sl.hide ((sl.unhide U22).kept g23)
          have Z23 := sl.hide ((sl.unhide Z22).kept g23)
          have F23 := sl.hide ((sl.unhide F22).kept g23)
          have E23 := sl.hide ((sl.unhide E22).kept g23)
          have G23 := sl.hide ((sl.unhide G22).kept g23)
          have H23 := sl.hide ((sl.unhide H22).kept g23)
          clear g23 B22 D22 U22 Z22 F22 E22 G22 H22
          have hq3 : ¬ m1 + (vals.length : Int) < 0 := by omega
          go_wp2_with fail
          go_ret
          exact ⟨rfl, (sl.unhide B23)⟩

/-! ### the row's step (the guide's own frame) -/
set_option maxRecDepth 100000 in
theorem contract (H : Type) (enc : TypeId × Value → H) (W : World) (base : Nat) (args : Array Value) (ds gs : List (DataW H)) (before : List MemPlace)
    (hval : ∀ (j : Nat) t v, Tryz.f4.params[j]? = some t → args[j]? = some v → Value.okWide Tryz.prog W .any base t v)
    (hW : DataW.Whole enc Tryz.prog Tryz.f4.params.toList Rows.fnExactLookupSpec.vars false W args.toList ds gs before) (hL : laidMetH Tryz.prog Rows.fnExactLookupRow.laid W) :
    Calls Tryz.prog 4 args W fun e W' => ∃ v, e = .returned v ∧ Rows.fnExactLookupSpec.post enc Tryz.prog Tryz.f4 false true false false W args v W' := by
  have hW' := hW
  obtain ⟨p, q, hA0, hV, rfl, hfz, hnd⟩ := hW
  have hA : DataW.TrodAll enc Tryz.prog W 0 (fun _ => true) true Tryz.f4.params.toList args.toList ds p := hA0
  rw [Tryz.params4] at hA hval
  obtain ⟨x0, vs0, d0, ds0, p0, q0, hargs, rfl, rfl, h0, r0⟩ := trodAll_cons hA
  obtain ⟨x1, vs1, d1, ds1, p1, q1, rfl, rfl, rfl, h1, r1⟩ := trodAll_cons r0
  obtain ⟨rfl, rfl, rfl⟩ := trodAll_nil r1
  obtain rfl : args = #[x0, x1] := by cases args; simp_all
  obtain ⟨g0, g1, rfl⟩ := vars2 hV
  obtain ⟨cs0, rfl, _⟩ := okWide_struct Tryz.underlying47 (hval 0 47 _ rfl rfl)
  have k0 := h0
  have lt0 : ∀ x ∈ p0, x.block < W.heap.size := by obtain ⟨m, hm⟩ := k0; exact DataW.trod_lt m _ _ _ hm
  obtain ⟨n0, v0, KK0, e0, f0, w0⟩ : ∃ n v KK, cs0 = #[.int .i64 n, v] ∧ (Lit.int .i64 n).wf = true ∧ ua.IsKns W v KK := by
    obtain ⟨fuel, hf⟩ := h0
    obtain ⟨n, v, KK, e, hw, hv⟩ := ua.open_cache hf
    refine ⟨n, v, KK, ?_, hw, hv⟩
    cases cs0
    simpa [Value.cells] using e
  subst e0
  obtain ⟨cs1, rfl, _⟩ := okWide_struct Tryz.underlying48 (hval 1 48 _ rfl rfl)
  have k1 := h1
  have lt1 : ∀ x ∈ p1, x.block < W.heap.size := by obtain ⟨m, hm⟩ := k1; exact DataW.trod_lt m _ _ _ hm
  obtain ⟨n1, v1, LL1, e1, f1, w1⟩ : ∃ n v LL, cs1 = #[.int .i64 n, v] ∧ (Lit.int .i64 n).wf = true ∧ row.IsRows W v LL := by
    obtain ⟨fuel, hf⟩ := h1
    obtain ⟨n, v, LL, e, hw, hv⟩ := row.open_cnf hf
    refine ⟨n, v, LL, ?_, hw, hv⟩
    cases cs1
    simpa [Value.cells] using e
  subst e1
  clear hA0
  refine (walk n0 v0 KK0 n1 v1 LL1 W f0 w0 f1 w1 (table hL)).mono fun e W' ⟨he, bel⟩ => ?_
  subst he
  exact ⟨_, rfl, _, _, _, [], _, _, hW', trodAll_mk1 (shut_bool Tryz.underlying4 _), (trodAll_cons_mk (Below.trod laidOut (by kernel_rfl) (of_decide_eq_true (by kernel_rfl)) k0 bel lt0) (trodAll_cons_mk (Below.trod laidOut (by kernel_rfl) (of_decide_eq_true (by kernel_rfl)) k1 bel lt1) trodAll_mk0)), Below.trodVars laidOutV bel (by kernel_rfl) hV, bel.frame _, fun h => by cases h⟩

set_option maxRecDepth 100000 in
theorem lifted (os : Os) (started : os.Started) (H : Type) (enc : TypeId × Value → H) (F : Stop.Interp) :
    ReturnsInHanded {} Tryz.checked os 4 .any ((OpenSpec.ofChange Rows.fnExactLookupSpec).preRow enc Tryz.prog Tryz.f4 Rows.fnExactLookupRow.domain false Rows.fnExactLookupRow.laid) (((OpenSpec.ofChange Rows.fnExactLookupSpec).at F).post enc Tryz.prog Tryz.f4 false true false false) := by
  refine returnsInHanded_of_row (C := Tryz.checked) (s := OpenSpec.ofChange Rows.fnExactLookupSpec) own started (by kernel_rfl) Tryz.func4
    (witness_row_at (enc := enc) (C := Tryz.checked) false ({ World.holding Tryz.prog os ⟨#[], #[], []⟩ with heap := (((((World.holding Tryz.prog os ⟨#[], #[], []⟩).heap.modify 4 fun | .cells _ t frozen => .cells (Lib.deBruijn32tab.map fun (n : Nat) => Value.int .u8 n).toArray t frozen | o => o).modify 2 fun | .cells _ t frozen => .cells (Lib.deBruijn64tab.map fun (n : Nat) => Value.int .u8 n).toArray t frozen | o => o).modify 3 fun | .cells _ t frozen => .cells (Lib.pow10Tab.map fun n => Value.int .u64 n).toArray t frozen | o => o).modify 1 fun | .cells _ t frozen => .cells (zk.kL.map fun n => Value.int .u32 n).toArray t frozen | o => o).modify 0 fun | .cells _ t frozen => .cells (zk.sL.map fun n => Value.int .u32 n).toArray t frozen | o => o } : World) #[.agg #[.int .i64 0, .slice none 0 0], .agg #[.int .i64 0, .slice none 0 0]] rfl (by kernel_rfl) (by kernel_rfl) (by kernel_rfl)
      (OpenSpec.preRow_of_cond 8 (x := ([.agg [.lit (.int .i64 0), .nil], .agg [.lit (.int .i64 0), .nil]], [Rows.laid_loop_example_g00123_impl_sumStarts, Rows.laid_loop_example_g00123_impl_sumConsts], MemPlace.row ⟨0, 0, none⟩ 8 ++ MemPlace.row ⟨1, 0, none⟩ 64)) (by kernel_rfl) (by kernel_rfl) (fun k hk => by cases hk) (by kernel_rfl) (laidMet_of_run' 8 (by kernel_rfl) (by kernel_rfl)))) ?_
  intro W base args ds gs before hval hW _ _ _ hL _ _
  exact contract H enc W base args ds gs before hval hW hL

theorem said : Rows.FnExactLookupSaid :=
  OpenClaim.holds_of_cond 4 Tryz.f4 rfl rfl rfl rfl rfl rfl rfl ⟨rfl, rfl, rfl, rfl, rfl⟩ rfl rfl rfl rfl rfl (by kernel_rfl) Tryz.func4 (by kernel_rfl)
    (of_decide_eq_true (by kernel_rfl)) (by unfold Func.isWrapper; first | (rw [if_pos (by decide +kernel)]; kernel_rfl) | (rw [if_neg (by decide +kernel)]; exact ⟨rfl, rfl⟩))
    (fun os started H enc _ F => by rw [OpenClaim.pre_eq_preRow]; exact lifted os started H enc F)

theorem plain (f : FuncId) (fn : Func) (hf : Tryz.pinned.checked.prog.funcNamed "loop.example/g00123/laws.FnExactLookup" = some f) (hfn : Tryz.pinned.checked.prog.funcs[f]? = some fn) :
    false = Tryz.pinned.checked.prog.looks [] ∧ ∀ (j : Nat) t, fn.params[j]? = some t → Tryz.pinned.checked.prog.wantsStandIn t = false := by
  obtain rfl : f = 4 := Option.some.inj ((show Tryz.prog.funcNamed "loop.example/g00123/laws.FnExactLookup" = some 4 by kernel_rfl).symm.trans hf) |>.symm
  obtain rfl : fn = Tryz.f4 := (Option.some.inj (Tryz.func4.symm.trans hfn)).symm
  refine ⟨by kernel_rfl, fun j t ht => ?_⟩
  rw [Tryz.params4] at ht
  have hh : t = 47 ∨ t = 48 := by simpa using Array.mem_of_getElem? ht
  rcases hh with rfl | rfl
  · exact (show Tryz.prog.wantsStandIn 47 = false by kernel_rfl)
  · exact (show Tryz.prog.wantsStandIn 48 = false by kernel_rfl)

/-- the statement: the row's tied card -/
theorem proved : Rows.FnExactLookupCardSaid :=
  Claim7.holds_tied_plain_at .later [] _ _ _ _ said (fun _ h => by cases h) (by kernel_rfl) (fun _ h => by cases h) fnExactLookup_row_tie rfl ⟨rfl, rfl⟩ (by kernel_rfl) rfl plain (by kernel_rfl)
#print axioms proved
end Go.Proofs.YtnlllcgcaddhmaaGreatDoor.fnExactLookup
