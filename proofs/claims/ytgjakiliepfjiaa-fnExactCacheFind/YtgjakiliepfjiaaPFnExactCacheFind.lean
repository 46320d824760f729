/- At every cache and every digest the law FnExactCacheFind returns true: CacheFind answers as the model, writes into no argument and owns its answer; no condition. -/
import Derived.Test.YtgjakiliepfjiaaRows
import Derived.Test.YtgjakiliepfjiaaUi
import Derived.Test.YtgjakiliepfjiaaUz
import Derived.WalkKit
import Derived.ProofKit
import Derived.OpenShut
import Derived.ShutString
import Derived.ChangeOld
import Derived.Below
namespace Go.Proofs.Ytgjakiliepfjiaa.fnExactCacheFind
open Go.ChangeShapes Go.WideShapes Go.ChangeAt Go.RowKit
open Go.ChangeMaps (open_string shut_string)
set_option linter.unusedVariables false

theorem own : ownKnob Try.prog.godebug = none := by kernel_rfl
theorem laidOut : laidOutB Try.prog = true := by kernel_rfl

/-! ### the walk -/
set_option maxRecDepth 100000 in
set_option maxHeartbeats 8000000 in
theorem walk (n0 : Int) (v0 : Value) (KK0 : List ua.Kn) (a1 : ByteArray) (w : World) (f0 : (Lit.int .i64 n0).wf = true) (w0 : ua.IsKns w v0 KK0) (w1 : a1.size ≤ maxLen) :
    Calls Try.prog 4 #[.agg #[.int .i64 n0, v0], .string a1] w fun e w' => e = .returned (.bool true) ∧ Below w.heap.size w w' := by
  obtain ⟨hS, hl0, hl1⟩ := w0
  by_cases hbig : (1048576 : Int) < (a1.size : Int)
  · clear hS hl0 hl1
    have G0 := sl.hide (World.grownBy_alloc w (.cells #[.int .i64 n0, v0] 38) none)
    go_enter Try.func4, Try.ntmps4
    go_wp2_with fail
    go_ret
    exact ⟨rfl, sl.below_of (sl.unhide G0)⟩
  have hd : a1.size ≤ maxLen := by unfold maxLen; omega
  obtain ⟨K, hK⟩ : ∃ K, K = ua.fndK n0 KK0 a1 := ⟨_, rfl⟩
  obtain ⟨L, hLL⟩ : ∃ L, L = ua.fndL n0 KK0 a1 := ⟨_, rfl⟩
  obtain ⟨b, hb⟩ : ∃ b, b = ua.fndB n0 KK0 a1 := ⟨_, rfl⟩
  have CI := fun (hn : ua.tot KK0 ≤ 1048576) v w1 hv => ua.implCacheFind v n0 KK0 a1 w1 hn hd hv
  have CS := fun (hn : ua.tot KK0 ≤ 1048576) v w1 hv => ua.specCacheFind v n0 KK0 a1 w1 hn hv
  unfold ua.FindE at CI
  unfold ua.FindS at CS
  have hF := ua.tot_fnd n0 KK0 a1
  have hV := ua.vals_fnd n0 KK0 a1
  rw [← hK, ← hLL, ← hb] at CI CS
  rw [← hLL] at hF
  rw [← hK] at hV
  clear hK hLL hb
  obtain ⟨dg, sat, vals, cost⟩ := K
  dsimp only at CI CS hV
  have HCI := sl.hide CI
  have HCS := sl.hide CS
  clear CI CS
  have g0 := World.grownBy_alloc w (.cells #[.int .i64 n0, v0] 38) none
  have C0 := sl.hide (ua.szCache v0 n0 KK0 1048576 _ (by decide) (by decide) hl0 hl1 (hS.kept g0))
  have S := sl.hide hS
  have F0 := sl.hide (cf.Box.new 38 w (.int .i64 n0) v0)
  have B0 := sl.hide (sl.below_of g0)
  have sw0 := g0.size
  clear hS g0 hl0 hl1
  go_enter Try.func4, Try.ntmps4
  go_wp2_with fail
  refine (sl.unhide C0).mono ?_; rintro e w1 ⟨r1, rfl, g1⟩
  obtain ⟨g1, hr1⟩ := g1
  have t1 := g1.size
  have B1 := sl.hide (sl.below_none (sl.unhide B0) g1)
  have F1 := sl.hide ((sl.unhide F0).kept g1)
  clear g1 B0 F0
  rcases hr1 with rfl | ⟨hr0, hr1⟩
  · go_wp2_with fail
    go_ret
    exact ⟨rfl, sl.unhide B1⟩
  have hn : ua.tot KK0 ≤ 1048576 := by omega
  have hq : ¬ r1 < 0 := by omega
  have hnF : ua.tot L ≤ 1048576 := Nat.le_trans hF hn
  have hnV : vals.length ≤ 1048576 := Nat.le_trans hV hn
  have DI := sl.hide (sl.unhide HCI hn)
  have DS := sl.hide (sl.unhide HCS hn)
  clear hr1 hF hV HCI HCS C0
  have zF0 := (sl.unhide F1).c0
  have zF1 := (sl.unhide F1).c1
  go_wp2_with fail
  refine (ua.toCache v0 n0 KK0 _ hn ((sl.unhide S).below (sl.unhide B1))).mono ?_; rintro e w2 ⟨u2, rfl, o2, g2⟩
  clear zF0 zF1
  obtain ⟨ua2, uc2, rfl⟩ := o2.len
  have t2 := g2.size
  have B2 := sl.hide (sl.below_none (sl.unhide B1) g2)
  have F2 := sl.hide ((sl.unhide F1).kept g2)
  have P2 := sl.hide o2
  clear o2
  clear g2 B1 F1
  go_wp2_with fail
  refine (sl.unhide DS _ _ (sl.unhide P2).vkns).mono ?_; rintro e w3 ⟨u3, v3, rfl, vl3, vk3, g3⟩
  obtain ⟨ua3, uc3, rfl⟩ := vk3.len
  obtain ⟨va3, vc3, rfl, vx3⟩ := vl3.sl
  clear vx3
  have t3 := g3.size
  have B3 := sl.hide (sl.below_none (sl.unhide B2) g3)
  have P3 := sl.hide ((sl.unhide P2).kept g3)
  have F3 := sl.hide ((sl.unhide F2).kept g3)
  clear g3 B2 P2 F2
  clear P3
  have VL := sl.hide vl3.sl
  have VK := sl.hide vk3.kns
  clear vl3 vk3
  have D3 := sl.hide (ua.Old.start w3)
  obtain ⟨V3, hV3⟩ : ∃ V, V = (w3.alloc (.cells #[.int .i64 n0, .slice ua3 L.length uc3] 26)).alloc (.cells #[.string dg, .bool sat, .slice va3 vals.length vc3, .int .i64 cost] 29) := ⟨_, rfl⟩
  have gv3 : w3.grownBy V3 none := by rw [hV3]; exact sl.grown_trans (World.grownBy_alloc _ _ _) (World.grownBy_alloc _ _ _)
  have sv3 : w3.heap.size + 2 ≤ V3.heap.size := by rw [hV3]; simp only [World.size_alloc]; omega
  have NM : cf.Box 26 V3 (w3.heap.size) (.int .i64 n0) (.slice ua3 L.length uc3) := by
    rw [hV3]
    have q := (cf.Box.new 26 w3 (.int .i64 n0) (.slice ua3 L.length uc3)).kept (World.grownBy_alloc _ (.cells #[.string dg, .bool sat, .slice va3 vals.length vc3, .int .i64 cost] 29) none)
    exact q
  have NN : yb.Box4 29 V3 (w3.heap.size + 1) (.string dg) (.bool sat) (.slice va3 vals.length vc3) (.int .i64 cost) := by
    rw [hV3]
    have q := yb.Box4.new 29 (w3.alloc (.cells #[.int .i64 n0, .slice ua3 L.length uc3] 26)) (.string dg) (.bool sat) (.slice va3 vals.length vc3) (.int .i64 cost)
    simp only [World.size_alloc] at q
    exact q
  have Bv3 := sl.hide (sl.below_none (sl.unhide B3) gv3)
  have Dv3 := sl.hide ((sl.unhide D3).none gv3)
  have Fv3 := sl.hide ((sl.unhide F3).kept gv3)
  have Mv3 := sl.hide NM
  have Nv3 := sl.hide NN
  clear gv3 NM NN B3 D3 F3
  go_upto_region 8 with fail
  rw [← hV3]
  clear hV3
  generalize w3.heap.size = vb3 at *
  have zF0 := (sl.unhide Fv3).c0
  have zF1 := (sl.unhide Fv3).c1
  go_wp2_with fail
  refine (ua.toCache v0 n0 KK0 _ hn ((sl.unhide S).below (sl.unhide Bv3))).mono ?_; rintro e w4 ⟨u4, rfl, o4, g4⟩
  clear zF0 zF1
  obtain ⟨ua4, uc4, rfl⟩ := o4.len
  have t4 := g4.size
  have B4 := sl.hide (sl.below_none (sl.unhide Bv3) g4)
  have D4 := sl.hide ((sl.unhide Dv3).none g4)
  have F4 := sl.hide ((sl.unhide Fv3).kept g4)
  have M4 := sl.hide ((sl.unhide Mv3).kept g4)
  have N4 := sl.hide ((sl.unhide Nv3).kept g4)
  have X4 := sl.hide o4
  clear o4
  clear g4 Bv3 Dv3 Fv3 Mv3 Nv3
  obtain ⟨V4, hV4⟩ : ∃ V, V = w4.alloc (.cells #[.int .i64 n0, .slice ua4 KK0.length uc4] 26) := ⟨_, rfl⟩
  have gv4 : w4.grownBy V4 none := by rw [hV4]; exact World.grownBy_alloc _ _ _
  have sv4 : w4.heap.size + 1 ≤ V4.heap.size := by rw [hV4]; simp only [World.size_alloc]; omega
  have NY : cf.Box 26 V4 (w4.heap.size) (.int .i64 n0) (.slice ua4 KK0.length uc4) := by
    rw [hV4]
    have q := cf.Box.new 26 w4 (.int .i64 n0) (.slice ua4 KK0.length uc4)
    exact q
  have Bv4 := sl.hide (sl.below_none (sl.unhide B4) gv4)
  have Dv4 := sl.hide ((sl.unhide D4).none gv4)
  have Xv4 := sl.hide ((sl.unhide X4).kept gv4)
  have Fv4 := sl.hide ((sl.unhide F4).kept gv4)
  have Mv4 := sl.hide ((sl.unhide M4).kept gv4)
  have Nv4 := sl.hide ((sl.unhide N4).kept gv4)
  have Yv4 := sl.hide NY
  clear gv4 NY B4 D4 X4 F4 M4 N4
  go_upto_region 9 with fail
  rw [← hV4]
  clear hV4
  generalize w4.heap.size = vb4 at *
  have zY0 := (sl.unhide Yv4).c0
  have zY1 := (sl.unhide Yv4).c1
  go_wp2_with fail
  refine (sl.unhide DI _ _ (sl.unhide Xv4).vkns).mono ?_; rintro e w5 ⟨u5, v5, mid5, rfl, hm5, hM5, ov5, ou5, g5⟩
  clear zY0 zY1
  obtain ⟨ua5, uc5, rfl⟩ := ou5.len
  obtain ⟨va5, vc5, rfl, vx5⟩ := ov5.sl
  clear vx5
  have t5 := g5.size
  have B5 := sl.hide (sl.below_none (sl.unhide Bv4) g5)
  have D5 := sl.hide ((sl.unhide Dv4).none g5)
  have X5 := sl.hide ((sl.unhide Xv4).kept g5)
  have F5 := sl.hide ((sl.unhide Fv4).kept g5)
  have M5 := sl.hide ((sl.unhide Mv4).kept g5)
  have N5 := sl.hide ((sl.unhide Nv4).kept g5)
  have Y5 := sl.hide ((sl.unhide Yv4).kept g5)
  have U5 := sl.hide ou5
  have Z5 := sl.hide ov5
  clear ou5 ov5
  clear g5 Bv4 Dv4 Xv4 Fv4 Mv4 Nv4 Yv4
  obtain ⟨V5, hV5⟩ : ∃ V, V = (w5.alloc (.cells #[.int .i64 n0, .slice ua5 L.length uc5] 26)).alloc (.cells #[.string dg, .bool sat, .slice va5 vals.length vc5, .int .i64 cost] 29) := ⟨_, rfl⟩
  have gv5 : w5.grownBy V5 none := by rw [hV5]; exact sl.grown_trans (World.grownBy_alloc _ _ _) (World.grownBy_alloc _ _ _)
  have sv5 : w5.heap.size + 2 ≤ V5.heap.size := by rw [hV5]; simp only [World.size_alloc]; omega
  have NG : cf.Box 26 V5 (w5.heap.size) (.int .i64 n0) (.slice ua5 L.length uc5) := by
    rw [hV5]
    have q := (cf.Box.new 26 w5 (.int .i64 n0) (.slice ua5 L.length uc5)).kept (World.grownBy_alloc _ (.cells #[.string dg, .bool sat, .slice va5 vals.length vc5, .int .i64 cost] 29) none)
    exact q
  have NH : yb.Box4 29 V5 (w5.heap.size + 1) (.string dg) (.bool sat) (.slice va5 vals.length vc5) (.int .i64 cost) := by
    rw [hV5]
    have q := yb.Box4.new 29 (w5.alloc (.cells #[.int .i64 n0, .slice ua5 L.length uc5] 26)) (.string dg) (.bool sat) (.slice va5 vals.length vc5) (.int .i64 cost)
    simp only [World.size_alloc] at q
    exact q
  have Bv5 := sl.hide (sl.below_none (sl.unhide B5) gv5)
  have Dv5 := sl.hide ((sl.unhide D5).none gv5)
  have Xv5 := sl.hide ((sl.unhide X5).kept gv5)
  have Uv5 := sl.hide ((sl.unhide U5).kept gv5)
  have Zv5 := sl.hide ((sl.unhide Z5).kept gv5)
  have Fv5 := sl.hide ((sl.unhide F5).kept gv5)
  have Mv5 := sl.hide ((sl.unhide M5).kept gv5)
  have Nv5 := sl.hide ((sl.unhide N5).kept gv5)
  have Yv5 := sl.hide ((sl.unhide Y5).kept gv5)
  have Gv5 := sl.hide NG
  have Hv5 := sl.hide NH
  clear gv5 NG NH B5 D5 X5 U5 Z5 F5 M5 N5 Y5
  go_upto_region 10 with fail
  rw [← hV5]
  clear hV5
  generalize w5.heap.size = vb5 at *
  have hbb : (b != b) = false := by cases b <;> rfl
  have zG0 := (sl.unhide Gv5).c0
  have zG1 := (sl.unhide Gv5).c1
  have zM0 := (sl.unhide Mv5).c0
  have zM1 := (sl.unhide Mv5).c1
  go_wp2_with fail
  refine (ua.eqCache _ _ n0 L _ hnF (sl.unhide Uv5).kns ((sl.unhide VK).kept (sl.unhide Dv5).grown)).mono ?_; rintro e w6 ⟨rfl, g6⟩
  clear zG0 zG1 zM0 zM1
  have t6 := g6.size
  have B6 := sl.hide (sl.below_none (sl.unhide Bv5) g6)
  have D6 := sl.hide ((sl.unhide Dv5).none g6)
  have X6 := sl.hide ((sl.unhide Xv5).kept g6)
  have U6 := sl.hide ((sl.unhide Uv5).kept g6)
  have Z6 := sl.hide ((sl.unhide Zv5).kept g6)
  have F6 := sl.hide ((sl.unhide Fv5).kept g6)
  have M6 := sl.hide ((sl.unhide Mv5).kept g6)
  have N6 := sl.hide ((sl.unhide Nv5).kept g6)
  have Y6 := sl.hide ((sl.unhide Yv5).kept g6)
  have G6 := sl.hide ((sl.unhide Gv5).kept g6)
  have H6 := sl.hide ((sl.unhide Hv5).kept g6)
  clear g6 Bv5 Dv5 Xv5 Uv5 Zv5 Fv5 Mv5 Nv5 Yv5 Gv5 Hv5
  have zH0 := (sl.unhide H6).c0
  have zH1 := (sl.unhide H6).c1
  have zH2 := (sl.unhide H6).c2
  have zH3 := (sl.unhide H6).c3
  have zN0 := (sl.unhide N6).c0
  have zN1 := (sl.unhide N6).c1
  have zN2 := (sl.unhide N6).c2
  have zN3 := (sl.unhide N6).c3
  go_wp2_with fail
  refine (ua.eqKnown _ _ ⟨dg, sat, vals, cost⟩ _ hnV (sl.unhide Z6).sl ((sl.unhide VL).kept (sl.unhide D6).grown (.inl rfl))).mono ?_; rintro e w7 ⟨rfl, g7⟩
  clear zH0 zH1 zH2 zH3 zN0 zN1 zN2 zN3
  have t7 := g7.size
  have B7 := sl.hide (sl.below_none (sl.unhide B6) g7)
  have D7 := sl.hide ((sl.unhide D6).none g7)
  have X7 := sl.hide ((sl.unhide X6).kept g7)
  have U7 := sl.hide ((sl.unhide U6).kept g7)
  have Z7 := sl.hide ((sl.unhide Z6).kept g7)
  have F7 := sl.hide ((sl.unhide F6).kept g7)
  have M7 := sl.hide ((sl.unhide M6).kept g7)
  have N7 := sl.hide ((sl.unhide N6).kept g7)
  have Y7 := sl.hide ((sl.unhide Y6).kept g7)
  have G7 := sl.hide ((sl.unhide G6).kept g7)
  have H7 := sl.hide ((sl.unhide H6).kept g7)
  clear g7 B6 D6 X6 U6 Z6 F6 M6 N6 Y6 G6 H6
  go_upto_region 12 with fail
  have T5 := sl.hide (ua.toCache v0 n0 KK0 w7.drew hn (((sl.unhide S).below (sl.unhide B7)).kept (cf.grown_drew w7 none)))
  have E5 := sl.hide (fun u6 wa (g6 : w7.drew.grownBy wa none) (o6 : ua.OwnK w7.drew.heap.size wa.heap.size wa u6 KK0) => ua.eqCache _ u6 n0 KK0 wa hn ((sl.unhide X7).kept (sl.grown_trans (r := none) (cf.grown_drew w7 none) g6)).kns o6.kns)
  have YY5 := sl.hide (fun wa (g6 : w7.drew.grownBy wa none) => (sl.unhide Y7).kept (sl.grown_trans (r := none) (cf.grown_drew w7 none) g6))
  have GG5 := sl.hide (fun wa wb (g6 : w7.drew.grownBy wa none) (g7 : wa.grownBy wb none) => sl.grown_trans (r := none) (sl.grown_trans (r := none) (cf.grown_drew w7 none) g6) g7)
  have zF0 := (sl.unhide F7).c0
  have zF1 := (sl.unhide F7).c1
  have zY0 := (sl.unhide Y7).c0
  have zY1 := (sl.unhide Y7).c1
  go_cut [63] (fun q wx => q = .bool false ∧ Hid (w7.grownBy wx none))
  case first =>
    go_region_with (first
      | (go_at_call 15; refine (sl.unhide T5).mono ?_; rintro e wa ⟨u6, rfl, o6, g6⟩; have z0 := (sl.unhide YY5 wa g6).c0; have z1 := (sl.unhide YY5 wa g6).c1; have EE6 := sl.hide (sl.unhide E5 u6 wa g6 o6); have GG6 := sl.hide (fun wb => sl.unhide GG5 wa wb g6); clear g6 o6)
      | (go_at_call 16; refine (sl.unhide EE6).mono ?_; rintro e wb ⟨rfl, g7⟩; have GG7 := sl.hide (sl.unhide GG6 wb g7); clear g7))
    all_goals (go_wp2_with fail; go_meet; exact ⟨rfl, GG7⟩)
  case rest =>
    obtain ⟨rfl, hg⟩ := hcut
    clear T5 E5 YY5 GG5 zF0 zF1 zY0 zY1
    have g8 := sl.unhide hg
    have t8 := g8.size
    have B8 := sl.hide (sl.below_none (sl.unhide B7) g8)
    have D8 := sl.hide ((sl.unhide D7).none g8)
    have X8 := sl.hide ((sl.unhide X7).kept g8)
    have U8 := sl.hide ((sl.unhide U7).kept g8)
    have Z8 := sl.hide ((sl.unhide Z7).kept g8)
    have F8 := sl.hide ((sl.unhide F7).kept g8)
    have M8 := sl.hide ((sl.unhide M7).kept g8)
    have N8 := sl.hide ((sl.unhide N7).kept g8)
    have Y8 := sl.hide ((sl.unhide Y7).kept g8)
    have G8 := sl.hide ((sl.unhide G7).kept g8)
    have H8 := sl.hide ((sl.unhide H7).kept g8)
    clear hg g8 B7 D7 X7 U7 Z7 F7 M7 N7 Y7 G7 H7
    generalize hwc : wc = w8 at *
    clear hwc
    have zY0 := (sl.unhide Y8).c0
    have zY1 := (sl.unhide Y8).c1
    go_wp2_with fail
    refine (ua.markCache _ n0 KK0 1 _ _ _ (Nat.le_succ_of_le hn) (fun i => Nat.le_trans (ua.tot_vals KK0 i) hn) (by decide) (by decide) (sl.unhide X8)).mono ?_; rintro e w9 ⟨rfl, o9, g9⟩
    clear zY0 zY1
    have t9 := g9.size
    have B9 := sl.hide (css.below_outs (sl.unhide B8) (by omega) g9)
    have D9 := sl.hide ((sl.unhide D8).outs (by omega) g9)
    have U9 := sl.hide ((sl.unhide U8).outs g9 (by omega))
    have Z9 := sl.hide (css.own_outs (sl.unhide Z8) g9 (by omega))
    have F9 := sl.hide (ua.box_outs (sl.unhide F8) g9 (by omega))
    have M9 := sl.hide (ua.box_outs (sl.unhide M8) g9 (by omega))
    have N9 := sl.hide (ua.box4_outs (sl.unhide N8) g9 (by omega))
    have Y9 := sl.hide (ua.box_outs (sl.unhide Y8) g9 (by omega))
    have G9 := sl.hide (ua.box_outs (sl.unhide G8) g9 (by omega))
    have H9 := sl.hide (ua.box4_outs (sl.unhide H8) g9 (by omega))
    clear o9
    clear g9 B8 D8 X8 U8 Z8 F8 M8 N8 Y8 G8 H8
    clear Y9
    have hk : ¬ (1 : Int) + (ua.sumK KK0 : Int) < 0 := by omega
    have hk' : decide ((1 : Int) + (ua.sumK KK0 : Int) < 0) = false := decide_eq_false hk
    have zG0 := (sl.unhide G9).c0
    have zG1 := (sl.unhide G9).c1
    have zM0 := (sl.unhide M9).c0
    have zM1 := (sl.unhide M9).c1
    go_wp2_with fail
    refine (ua.eqCache _ _ n0 L _ hnF (sl.unhide U9).kns ((sl.unhide VK).kept (sl.unhide D9).grown)).mono ?_; rintro e w10 ⟨rfl, g10⟩
    clear zG0 zG1 zM0 zM1
    have t10 := g10.size
    have B10 := sl.hide (sl.below_none (sl.unhide B9) g10)
    have D10 := sl.hide ((sl.unhide D9).none g10)
    have U10 := sl.hide ((sl.unhide U9).kept g10)
    have Z10 := sl.hide ((sl.unhide Z9).kept g10)
    have F10 := sl.hide ((sl.unhide F9).kept g10)
    have M10 := sl.hide ((sl.unhide M9).kept g10)
    have N10 := sl.hide ((sl.unhide N9).kept g10)
    have G10 := sl.hide ((sl.unhide G9).kept g10)
    have H10 := sl.hide ((sl.unhide H9).kept g10)
    clear g10 B9 D9 U9 Z9 F9 M9 N9 G9 H9
    clear hk hk'
    have zH0 := (sl.unhide H10).c0
    have zH1 := (sl.unhide H10).c1
    have zH2 := (sl.unhide H10).c2
    have zH3 := (sl.unhide H10).c3
    have zN0 := (sl.unhide N10).c0
    have zN1 := (sl.unhide N10).c1
    have zN2 := (sl.unhide N10).c2
    have zN3 := (sl.unhide N10).c3
    go_wp2_with fail
    refine (ua.eqKnown _ _ ⟨dg, sat, vals, cost⟩ _ hnV (sl.unhide Z10).sl ((sl.unhide VL).kept (sl.unhide D10).grown (.inl rfl))).mono ?_; rintro e w11 ⟨rfl, g11⟩
    clear zH0 zH1 zH2 zH3 zN0 zN1 zN2 zN3
    have t11 := g11.size
    have B11 := sl.hide (sl.below_none (sl.unhide B10) g11)
    have D11 := sl.hide ((sl.unhide D10).none g11)
    have U11 := sl.hide ((sl.unhide U10).kept g11)
    have Z11 := sl.hide ((sl.unhide Z10).kept g11)
    have F11 := sl.hide ((sl.unhide F10).kept g11)
    have M11 := sl.hide ((sl.unhide M10).kept g11)
    have N11 := sl.hide ((sl.unhide N10).kept g11)
    have G11 := sl.hide ((sl.unhide G10).kept g11)
    have H11 := sl.hide ((sl.unhide H10).kept g11)
    clear g11 B10 D10 U10 Z10 F10 M10 N10 G10 H10
    have hs := ua.sumK_le L
    have zG0 := (sl.unhide G11).c0
    have zG1 := (sl.unhide G11).c1
    go_wp2_with fail
    refine (ua.markCache _ n0 L 1 _ _ _ (Nat.le_succ_of_le hnF) (fun i => Nat.le_trans (ua.tot_vals L i) hnF) (by decide) (by decide) (sl.unhide U11)).mono ?_; rintro e w12 ⟨rfl, o12, g12⟩
    clear zG0 zG1
    have t12 := g12.size
    have B12 := sl.hide (css.below_outs (sl.unhide B11) (by omega) g12)
    have D12 := sl.hide ((sl.unhide D11).outs (by omega) g12)
    have Z12 := sl.hide (css.own_outs (sl.unhide Z11) g12 (by omega))
    have F12 := sl.hide (ua.box_outs (sl.unhide F11) g12 (by omega))
    have M12 := sl.hide (ua.box_outs (sl.unhide M11) g12 (by omega))
    have N12 := sl.hide (ua.box4_outs (sl.unhide N11) g12 (by omega))
    have G12 := sl.hide (ua.box_outs (sl.unhide G11) g12 (by omega))
    have H12 := sl.hide (ua.box4_outs (sl.unhide H11) g12 (by omega))
    have U12 := sl.hide o12
    clear o12
    clear g12 B11 D11 U11 Z11 F11 M11 N11 G11 H11
    obtain ⟨m1, hm1⟩ : ∃ m1, m1 = (1 : Int) + (ua.sumK L : Int) := ⟨_, rfl⟩
    have hm2 : 1 ≤ m1 := by omega
    have hm3 : m1 ≤ 1099511627776 := by omega
    rw [← hm1]
    have HM1 := sl.hide hm1
    clear hm1
    have zH0 := (sl.unhide H12).c0
    have zH1 := (sl.unhide H12).c1
    have zH2 := (sl.unhide H12).c2
    have zH3 := (sl.unhide H12).c3
    go_wp2_with fail
    refine (ua.markKnown _ ⟨dg, sat, vals, cost⟩ m1 _ _ _ hnV (by omega) (by omega) (sl.unhide Z12)).mono ?_; rintro e w13 ⟨rfl, o13, g13⟩
    clear zH0 zH1 zH2 zH3
    have t13 := g13.size
    have B13 := sl.hide (css.below_outs (sl.unhide B12) (by omega) g13)
    have D13 := sl.hide ((sl.unhide D12).outs (by omega) g13)
    have U13 := sl.hide ((sl.unhide U12).outs g13 (by omega))
    have F13 := sl.hide (ua.box_outs (sl.unhide F12) g13 (by omega))
    have M13 := sl.hide (ua.box_outs (sl.unhide M12) g13 (by omega))
    have N13 := sl.hide (ua.box4_outs (sl.unhide N12) g13 (by omega))
    have G13 := sl.hide (ua.box_outs (sl.unhide G12) g13 (by omega))
    have H13 := sl.hide (ua.box4_outs (sl.unhide H12) g13 (by omega))
    have Z13 := sl.hide o13
    clear o13
    clear g13 B12 D12 Z12 U12 F12 M12 N12 G12 H12
    have zG0 := (sl.unhide G13).c0
    have zG1 := (sl.unhide G13).c1
    go_wp2_with fail
    refine (ua.heldCache _ n0 L 1 _ (Nat.le_succ_of_le hnF) (fun i => Nat.le_trans (ua.tot_vals L i) hnF) (by decide) (by decide) (sl.unhide U13).kns).mono ?_; rintro e w14 ⟨rfl, g14⟩
    clear zG0 zG1
    rw [← sl.unhide HM1]
    have t14 := g14.size
    have B14 := sl.hide (sl.below_none (sl.unhide B13) g14)
    have D14 := sl.hide ((sl.unhide D13).none g14)
    have U14 := sl.hide ((sl.unhide U13).kept g14)
    have Z14 := sl.hide ((sl.unhide Z13).kept g14)
    have F14 := sl.hide ((sl.unhide F13).kept g14)
    have M14 := sl.hide ((sl.unhide M13).kept g14)
    have N14 := sl.hide ((sl.unhide N13).kept g14)
    have G14 := sl.hide ((sl.unhide G13).kept g14)
    have H14 := sl.hide ((sl.unhide H13).kept g14)
    clear g14 B13 D13 U13 Z13 F13 M13 N13 G13 H13
    have hq1 : ¬ m1 < 0 := by omega
    have zH0 := (sl.unhide H14).c0
    have zH1 := (sl.unhide H14).c1
    have zH2 := (sl.unhide H14).c2
    have zH3 := (sl.unhide H14).c3
    go_wp2_with fail
    refine (ua.heldKnown _ dg sat vals.length cost m1 _ hnV (by omega) (by omega) (sl.unhide Z14).sl).mono ?_; rintro e w15 ⟨rfl, g15⟩
    clear zH0 zH1 zH2 zH3
    have t15 := g15.size
    have B15 := sl.hide (sl.below_none (sl.unhide B14) g15)
    have D15 := sl.hide ((sl.unhide D14).none g15)
    have U15 := sl.hide ((sl.unhide U14).kept g15)
    have Z15 := sl.hide ((sl.unhide Z14).kept g15)
    have F15 := sl.hide ((sl.unhide F14).kept g15)
    have M15 := sl.hide ((sl.unhide M14).kept g15)
    have N15 := sl.hide ((sl.unhide N14).kept g15)
    have G15 := sl.hide ((sl.unhide G14).kept g15)
    have H15 := sl.hide ((sl.unhide H14).kept g15)
    clear g15 B14 D14 U14 Z14 F14 M14 N14 G14 H14
    have hq2 : ¬ m1 + (vals.length : Int) < 0 := by omega
    have zF0 := (sl.unhide F15).c0
    have zF1 := (sl.unhide F15).c1
    go_wp2_with fail
    refine (ua.toCache v0 n0 KK0 _ hn ((sl.unhide S).below (sl.unhide B15))).mono ?_; rintro e w16 ⟨u16, rfl, o16, g16⟩
    clear zF0 zF1
    obtain ⟨ua16, uc16, rfl⟩ := o16.len
    have t16 := g16.size
    have B16 := sl.hide (sl.below_none (sl.unhide B15) g16)
    have D16 := sl.hide ((sl.unhide D15).none g16)
    have U16 := sl.hide ((sl.unhide U15).kept g16)
    have Z16 := sl.hide ((sl.unhide Z15).kept g16)
    have F16 := sl.hide ((sl.unhide F15).kept g16)
    have M16 := sl.hide ((sl.unhide M15).kept g16)
    have N16 := sl.hide ((sl.unhide N15).kept g16)
    have G16 := sl.hide ((sl.unhide G15).kept g16)
    have H16 := sl.hide ((sl.unhide H15).kept g16)
    have P16 := sl.hide o16
    clear o16
    clear g16 B15 D15 U15 Z15 F15 M15 N15 G15 H15
    go_wp2_with fail
    refine (sl.unhide DI _ _ (sl.unhide P16).vkns).mono ?_; rintro e w17 ⟨u17, v17, mid17, rfl, hm17, hM17, ov17, ou17, g17⟩
    obtain ⟨ua17, uc17, rfl⟩ := ou17.len
    obtain ⟨va17, vc17, rfl, vx17⟩ := ov17.sl
    clear vx17
    have t17 := g17.size
    have B17 := sl.hide (sl.below_none (sl.unhide B16) g17)
    have D17 := sl.hide ((sl.unhide D16).none g17)
    have U17 := sl.hide ((sl.unhide U16).kept g17)
    have Z17 := sl.hide ((sl.unhide Z16).kept g17)
    have P17 := sl.hide ((sl.unhide P16).kept g17)
    have F17 := sl.hide ((sl.unhide F16).kept g17)
    have M17 := sl.hide ((sl.unhide M16).kept g17)
    have N17 := sl.hide ((sl.unhide N16).kept g17)
    have G17 := sl.hide ((sl.unhide G16).kept g17)
    have H17 := sl.hide ((sl.unhide H16).kept g17)
    have R17 := sl.hide ou17
    have Q17 := sl.hide ov17
    clear ou17 ov17
    clear g17 B16 D16 U16 Z16 P16 F16 M16 N16 G16 H16
    clear P17
    obtain ⟨V17, hV17⟩ : ∃ V, V = (w17.alloc (.cells #[.int .i64 n0, .slice ua17 L.length uc17] 26)).alloc (.cells #[.string dg, .bool sat, .slice va17 vals.length vc17, .int .i64 cost] 29) := ⟨_, rfl⟩
    have gv17 : w17.grownBy V17 none := by rw [hV17]; exact sl.grown_trans (World.grownBy_alloc _ _ _) (World.grownBy_alloc _ _ _)
    have sv17 : w17.heap.size + 2 ≤ V17.heap.size := by rw [hV17]; simp only [World.size_alloc]; omega
    have NI : cf.Box 26 V17 (w17.heap.size) (.int .i64 n0) (.slice ua17 L.length uc17) := by
      rw [hV17]
      have q := (cf.Box.new 26 w17 (.int .i64 n0) (.slice ua17 L.length uc17)).kept (World.grownBy_alloc _ (.cells #[.string dg, .bool sat, .slice va17 vals.length vc17, .int .i64 cost] 29) none)
      exact q
    have NJ : yb.Box4 29 V17 (w17.heap.size + 1) (.string dg) (.bool sat) (.slice va17 vals.length vc17) (.int .i64 cost) := by
      rw [hV17]
      have q := yb.Box4.new 29 (w17.alloc (.cells #[.int .i64 n0, .slice ua17 L.length uc17] 26)) (.string dg) (.bool sat) (.slice va17 vals.length vc17) (.int .i64 cost)
      simp only [World.size_alloc] at q
      exact q
    have Bv17 := sl.hide (sl.below_none (sl.unhide B17) gv17)
    have Dv17 := sl.hide ((sl.unhide D17).none gv17)
    have Uv17 := sl.hide ((sl.unhide U17).kept gv17)
    have Zv17 := sl.hide ((sl.unhide Z17).kept gv17)
    have Rv17 := sl.hide ((sl.unhide R17).kept gv17)
    have Qv17 := sl.hide ((sl.unhide Q17).kept gv17)
    have Fv17 := sl.hide ((sl.unhide F17).kept gv17)
    have Mv17 := sl.hide ((sl.unhide M17).kept gv17)
    have Nv17 := sl.hide ((sl.unhide N17).kept gv17)
    have Gv17 := sl.hide ((sl.unhide G17).kept gv17)
    have Hv17 := sl.hide ((sl.unhide H17).kept gv17)
    have Iv17 := sl.hide NI
    have Jv17 := sl.hide NJ
    clear gv17 NI NJ B17 D17 U17 Z17 R17 Q17 F17 M17 N17 G17 H17
    go_upto_region 31 with fail
    rw [← hV17]
    clear hV17
    generalize w17.heap.size = vb17 at *
    have zI0 := (sl.unhide Iv17).c0
    have zI1 := (sl.unhide Iv17).c1
    have zM0 := (sl.unhide Mv17).c0
    have zM1 := (sl.unhide Mv17).c1
    go_wp2_with fail
    refine (ua.eqCache _ _ n0 L _ hnF (sl.unhide Rv17).kns ((sl.unhide VK).kept (sl.unhide Dv17).grown)).mono ?_; rintro e w18 ⟨rfl, g18⟩
    clear zI0 zI1 zM0 zM1
    have t18 := g18.size
    have B18 := sl.hide (sl.below_none (sl.unhide Bv17) g18)
    have D18 := sl.hide ((sl.unhide Dv17).none g18)
    have U18 := sl.hide ((sl.unhide Uv17).kept g18)
    have Z18 := sl.hide ((sl.unhide Zv17).kept g18)
    have R18 := sl.hide ((sl.unhide Rv17).kept g18)
    have Q18 := sl.hide ((sl.unhide Qv17).kept g18)
    have F18 := sl.hide ((sl.unhide Fv17).kept g18)
    have M18 := sl.hide ((sl.unhide Mv17).kept g18)
    have N18 := sl.hide ((sl.unhide Nv17).kept g18)
    have G18 := sl.hide ((sl.unhide Gv17).kept g18)
    have H18 := sl.hide ((sl.unhide Hv17).kept g18)
    have I18 := sl.hide ((sl.unhide Iv17).kept g18)
    have J18 := sl.hide ((sl.unhide Jv17).kept g18)
    clear g18 Bv17 Dv17 Uv17 Zv17 Rv17 Qv17 Fv17 Mv17 Nv17 Gv17 Hv17 Iv17 Jv17
    have zJ0 := (sl.unhide J18).c0
    have zJ1 := (sl.unhide J18).c1
    have zJ2 := (sl.unhide J18).c2
    have zJ3 := (sl.unhide J18).c3
    have zN0 := (sl.unhide N18).c0
    have zN1 := (sl.unhide N18).c1
    have zN2 := (sl.unhide N18).c2
    have zN3 := (sl.unhide N18).c3
    go_wp2_with fail
    refine (ua.eqKnown _ _ ⟨dg, sat, vals, cost⟩ _ hnV (sl.unhide Q18).sl ((sl.unhide VL).kept (sl.unhide D18).grown (.inl rfl))).mono ?_; rintro e w19 ⟨rfl, g19⟩
    clear zJ0 zJ1 zJ2 zJ3 zN0 zN1 zN2 zN3
    have t19 := g19.size
    have B19 := sl.hide (sl.below_none (sl.unhide B18) g19)
    have D19 := sl.hide ((sl.unhide D18).none g19)
    have U19 := sl.hide ((sl.unhide U18).kept g19)
    have Z19 := sl.hide ((sl.unhide Z18).kept g19)
    have R19 := sl.hide ((sl.unhide R18).kept g19)
    have Q19 := sl.hide ((sl.unhide Q18).kept g19)
    have F19 := sl.hide ((sl.unhide F18).kept g19)
    have M19 := sl.hide ((sl.unhide M18).kept g19)
    have N19 := sl.hide ((sl.unhide N18).kept g19)
    have G19 := sl.hide ((sl.unhide G18).kept g19)
    have H19 := sl.hide ((sl.unhide H18).kept g19)
    have I19 := sl.hide ((sl.unhide I18).kept g19)
    have J19 := sl.hide ((sl.unhide J18).kept g19)
    clear g19 B18 D18 U18 Z18 R18 Q18 F18 M18 N18 G18 H18 I18 J18
    clear R19 Q19 I19 J19 M19 N19
    have zG0 := (sl.unhide G19).c0
    have zG1 := (sl.unhide G19).c1
    go_wp2_with fail
    refine (ua.heldCache _ n0 L 1 _ (Nat.le_succ_of_le hnF) (fun i => Nat.le_trans (ua.tot_vals L i) hnF) (by decide) (by decide) (sl.unhide U19).kns).mono ?_; rintro e w20 ⟨rfl, g20⟩
    clear zG0 zG1
    rw [← sl.unhide HM1]
    have t20 := g20.size
    have B20 := sl.hide (sl.below_none (sl.unhide B19) g20)
    have D20 := sl.hide ((sl.unhide D19).none g20)
    have U20 := sl.hide ((sl.unhide U19).kept g20)
    have Z20 := sl.hide ((sl.unhide Z19).kept g20)
    have F20 := sl.hide ((sl.unhide F19).kept g20)
    have G20 := sl.hide ((sl.unhide G19).kept g20)
    have H20 := sl.hide ((sl.unhide H19).kept g20)
    clear g20 B19 D19 U19 Z19 F19 G19 H19
    have hq1 : ¬ m1 < 0 := by omega
    have zH0 := (sl.unhide H20).c0
    have zH1 := (sl.unhide H20).c1
    have zH2 := (sl.unhide H20).c2
    have zH3 := (sl.unhide H20).c3
    go_wp2_with fail
    refine (ua.heldKnown _ dg sat vals.length cost m1 _ hnV (by omega) (by omega) (sl.unhide Z20).sl).mono ?_; rintro e w21 ⟨rfl, g21⟩
    clear zH0 zH1 zH2 zH3
    have t21 := g21.size
    have B21 := sl.hide (sl.below_none (sl.unhide B20) g21)
    have D21 := sl.hide ((sl.unhide D20).none g21)
    have U21 := sl.hide ((sl.unhide U20).kept g21)
    have Z21 := sl.hide ((sl.unhide Z20).kept g21)
    have F21 := sl.hide ((sl.unhide F20).kept g21)
    have G21 := sl.hide ((sl.unhide G20).kept g21)
    have H21 := sl.hide ((sl.unhide H20).kept g21)
    clear g21 B20 D20 U20 Z20 F20 G20 H20
    have hq2 : ¬ m1 + (vals.length : Int) < 0 := by omega
    go_wp2_with fail
    go_ret
    exact ⟨rfl, (sl.unhide B21)⟩

/-! ### the row's step (the guide's own frame) -/
set_option maxRecDepth 100000 in
theorem lifted (os : Os) (started : os.Started) (H : Type) (enc : TypeId × Value → H) :
    ReturnsInHanded {} Try.checked os 4 .any (Rows.fnExactCacheFindSpec.pre6 enc Try.prog Try.f4 Rows.fnExactCacheFindRow.domain false) (Rows.fnExactCacheFindSpec.post enc Try.prog Try.f4 false true false false) := by
  refine returnsInHanded_of_change (C := Try.checked) own started (by kernel_rfl) Try.func4
    (ChangeSpec.witness6 (enc := enc) (C := Try.checked) false ⟨#[], #[.agg #[.int .i64 0, .slice none 0 0], .string ByteArray.empty], []⟩ 8 (by kernel_rfl) (by kernel_rfl) (by kernel_rfl) (by kernel_rfl)) ?_
  intro W base args ds gs before hval0 hW hcnd _
  have hval : ∀ (j : Nat) t v, Try.f4.params[j]? = some t → args[j]? = some v → Value.okWide Try.prog W .any base t v := hval0
  have hW' := hW
  obtain ⟨p, q, hA0, hV, rfl, hfz, hnd⟩ := hW
  have hA : DataW.TrodAll enc Try.prog W 0 (fun _ => true) true Try.f4.params.toList args.toList ds p := hA0
  rw [Try.params4] at hA hval
  obtain ⟨x0, vs0, d0, ds0, p0, q0, hargs, rfl, rfl, h0, r0⟩ := trodAll_cons hA
  obtain ⟨x1, vs1, d1, ds1, p1, q1, rfl, rfl, rfl, h1, r1⟩ := trodAll_cons r0
  obtain ⟨rfl, rfl, rfl⟩ := trodAll_nil r1
  obtain rfl : args = #[x0, x1] := by cases args; simp_all
  obtain ⟨rfl, rfl⟩ := trodVars_none hV
  obtain ⟨cs0, rfl, _⟩ := okWide_struct Try.underlying38 (hval 0 38 _ rfl rfl)
  have k0 := h0
  have lt0 : ∀ x ∈ p0, x.block < W.heap.size := by obtain ⟨m, hm⟩ := k0; exact DataW.trod_lt m _ _ _ hm
  obtain ⟨n0, v0, KK0, e0, f0, w0⟩ : ∃ n v KK, cs0 = #[.int .i64 n, v] ∧ (Lit.int .i64 n).wf = true ∧ ua.IsKns W v KK := by
    obtain ⟨fuel, hf⟩ := h0
    obtain ⟨n, v, KK, e, hw, hv⟩ := ua.open_cache hf
    refine ⟨n, v, KK, ?_, hw, hv⟩
    cases cs0
    simpa [Value.cells] using e
  subst e0
  have k1 := h1
  have lt1 : ∀ x ∈ p1, x.block < W.heap.size := by obtain ⟨m, hm⟩ := k1; exact DataW.trod_lt m _ _ _ hm
  obtain ⟨a1, rfl, rfl, rfl, w1⟩ := open_string Try.underlying9 (hval 1 9 _ rfl rfl) h1
  clear hA0 hval0
  refine (walk n0 v0 KK0 a1 W f0 w0 w1).mono fun e W' ⟨he, bel⟩ => ?_
  subst he
  exact ⟨_, rfl, _, _, _, [], _, [], hW', trodAll_mk1 (shut_bool Try.underlying4 _), (trodAll_cons_mk (Below.trod laidOut (by kernel_rfl) (of_decide_eq_true (by kernel_rfl)) k0 bel lt0) (trodAll_cons_mk (Below.trod laidOut (by kernel_rfl) (of_decide_eq_true (by kernel_rfl)) k1 bel lt1) trodAll_mk0)), rfl, bel.frame _, fun h => by cases h⟩

theorem over : Rows.fnExactCacheFindRow.holds Try.pinned (OpenSpec.ofChange Rows.fnExactCacheFindSpec) :=
  OpenClaim.holds_of_wide 4 Try.f4 rfl rfl rfl rfl rfl rfl rfl ⟨rfl, rfl, rfl, rfl, rfl⟩ rfl rfl rfl rfl rfl (by kernel_rfl) Try.func4 (by kernel_rfl)
    (of_decide_eq_true (by kernel_rfl)) (by unfold Func.isWrapper; first | (rw [if_pos (by decide +kernel)]; kernel_rfl) | (rw [if_neg (by decide +kernel)]; exact ⟨rfl, rfl⟩))
    (fun os started H enc _ => lifted os started H enc)

/-- the statement -/
theorem proved : Rows.FnExactCacheFindSaid := over
#print axioms proved
end Go.Proofs.Ytgjakiliepfjiaa.fnExactCacheFind
