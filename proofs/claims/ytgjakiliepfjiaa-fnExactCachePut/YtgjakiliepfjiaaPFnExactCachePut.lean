/- At every cache and everything that is known the law FnExactCachePut returns true: CachePut answers as the model, writes into no argument and owns its answer; no condition. -/
import Derived.Test.YtgjakiliepfjiaaRows
import Derived.Test.YtgjakiliepfjiaaUi
import Derived.Test.YtgjakiliepfjiaaUt
import Derived.WalkKit
import Derived.ProofKit
import Derived.OpenShut
import Derived.ShutString
import Derived.ChangeOld
import Derived.Below
namespace Go.Proofs.Ytgjakiliepfjiaa.fnExactCachePut
open Go.ChangeShapes Go.WideShapes Go.ChangeAt Go.RowKit
open Go.ChangeMaps (open_string shut_string)
set_option linter.unusedVariables false

theorem own : ownKnob Try.prog.godebug = none := by kernel_rfl
theorem laidOut : laidOutB Try.prog = true := by kernel_rfl

/-! ### the walk -/
set_option maxRecDepth 100000 in
set_option maxHeartbeats 8000000 in
theorem walk (n0 : Int) (v0 : Value) (KK0 : List ua.Kn) (u1 : Value) (x1 : ua.Kn) (w : World) (f0 : (Lit.int .i64 n0).wf = true) (w0 : ua.IsKns w v0 KK0) (w1 : sl.Sl w u1 x1.vals) (l1 : x1.vals.length ≤ 9223372036854775807) (d1 : x1.dg.size ≤ 9223372036854775807) :
    Calls Try.prog 5 #[.agg #[.int .i64 n0, v0], .agg #[.string x1.dg, .bool x1.sat, u1, .int .i64 x1.cost]] w fun e w' => e = .returned (.bool true) ∧ Below w.heap.size w w' := by
  obtain ⟨hS, hl0, hl1⟩ := w0
  have hS1 := w1
  clear w1
  obtain ⟨dg, sat, vals, cost⟩ := x1
  dsimp only at hS1 l1 d1
  obtain ⟨xa, xc, rfl⟩ : ∃ a c, u1 = .slice a vals.length c := by obtain ⟨a, c, h, _⟩ := hS1; exact ⟨a, c, h⟩
  obtain ⟨L, hLL⟩ : ∃ L, L = ua.putK n0 KK0 ⟨dg, sat, vals, cost⟩ := ⟨_, rfl⟩
  have HF := sl.hide (fun (hn : ua.tot KK0 ≤ 1048576) (hd : dg.size ≤ maxLen) (hv : vals.length ≤ 1048576) v u w1 h1 h2 => ua.implCachePut v u n0 KK0 ⟨dg, sat, vals, cost⟩ w1 hn hd hv h1 h2)
  have HS := sl.hide (fun (hn : ua.tot KK0 ≤ 1048576) (hv : vals.length ≤ 1048576) v u w1 h1 h2 => ua.specCachePut v u n0 KK0 ⟨dg, sat, vals, cost⟩ w1 hn hv h1 h2)
  have b1 := ua.tot_put n0 KK0 ⟨dg, sat, vals, cost⟩
  have b2 := ua.vals_put n0 KK0 ⟨dg, sat, vals, cost⟩
  have b3 := fun (h : KK0.length ≤ 1048576) => ua.len_put n0 KK0 ⟨dg, sat, vals, cost⟩ h
  unfold ua.CacheE at HF
  unfold ua.PutS at HS
  rw [← hLL] at b1 b2 b3 HF HS
  unfold ua.wt at b1
  dsimp only at b1 b2 HF HS
  clear hLL
  have g0 : w.grownBy ((w.alloc (.cells #[.int .i64 n0, v0] 38)).alloc (.cells #[.string dg, .bool sat, .slice xa vals.length xc, .int .i64 cost] 46)) none := sl.grown_trans (World.grownBy_alloc _ _ _) (World.grownBy_alloc _ _ _)
  obtain ⟨W0, hW0⟩ : ∃ W0, W0 = (w.alloc (.cells #[.int .i64 n0, v0] 38)).alloc (.cells #[.string dg, .bool sat, .slice xa vals.length xc, .int .i64 cost] 46) := ⟨_, rfl⟩
  rw [← hW0] at g0
  have F0 : Hid (cf.Box 38 W0 w.heap.size (.int .i64 n0) v0) := by rw [hW0]; exact (cf.Box.new _ _ _ _).kept (World.grownBy_alloc _ _ none)
  have E0 : Hid (yb.Box4 46 W0 (w.heap.size + 1) (.string dg) (.bool sat) (.slice xa vals.length xc) (.int .i64 cost)) := by
    rw [hW0]
    have q := yb.Box4.new 46 (w.alloc (.cells #[.int .i64 n0, v0] 38)) (.string dg) (.bool sat) (.slice xa vals.length xc) (.int .i64 cost)
    rw [World.size_alloc] at q
    exact q
  have C0 := sl.hide (ua.szCache v0 n0 KK0 1048576 W0 (by decide) (by decide) hl0 hl1 (hS.kept g0))
  have S := sl.hide hS
  have S1 := sl.hide hS1
  have B0 := sl.hide (sl.below_of g0)
  have sw0 : w.heap.size + 2 ≤ W0.heap.size := by rw [hW0]; simp only [World.size_alloc]; omega
  clear hS hS1 g0 hl0 hl1
  go_enter Try.func5, Try.ntmps5
  go_upto_region 1 with fail
  rw [← hW0]
  clear hW0
  have zF0 := (sl.unhide F0).c0
  have zF1 := (sl.unhide F0).c1
  go_wp2_with fail
  refine (sl.unhide C0).mono ?_; rintro e w1 ⟨r1, rfl, g1⟩
  clear zF0 zF1
  obtain ⟨g1, hr1⟩ := g1
  have t1 := g1.size
  have B1 := sl.hide (sl.below_none (sl.unhide B0) g1)
  have F1 := sl.hide ((sl.unhide F0).kept g1)
  have E1 := sl.hide ((sl.unhide E0).kept g1)
  clear g1 B0 F0 E0
  rcases hr1 with rfl | ⟨hr0, hr1⟩
  · go_wp2_with fail
    go_ret
    exact ⟨rfl, sl.unhide B1⟩
  have hn : ua.tot KK0 ≤ 1048576 := by omega
  have hq : ¬ r1 < 0 := by omega
  have CZ := ua.szKnown xa vals.length xc dg sat cost r1 w1 hr0 (by omega) d1 l1
  by_cases hz : r1 < (dg.size : Int) + (vals.length : Int)
  · rw [if_pos hz] at CZ
    have HZ := sl.hide CZ
    clear CZ hz
    have zE0 := (sl.unhide E1).c0
    have zE1 := (sl.unhide E1).c1
    have zE2 := (sl.unhide E1).c2
    have zE3 := (sl.unhide E1).c3
    go_wp2_with fail
    refine (sl.unhide HZ).mono ?_; rintro e w2 ⟨rfl, g2⟩
    have B2 := sl.hide (sl.below_none (sl.unhide B1) g2)
    clear g2 zE0 zE1 zE2 zE3
    go_wp2_with fail
    go_ret
    exact ⟨rfl, sl.unhide B2⟩
  rw [if_neg hz] at CZ
  have HZ := sl.hide CZ
  have hnV : vals.length ≤ 1048576 := by omega
  have hnD : dg.size ≤ maxLen := by unfold maxLen; omega
  have hnL : ua.tot L ≤ 1048577 := by omega
  have hin : ∀ i, (L.getD i ua.kz).vals.length ≤ 1048576 := fun i => by have := b2 i; omega
  have hlen := b3 (Nat.le_trans (ua.tot_len KK0) hn)
  have hs := ua.sumK_le L
  have HSL : Hid (ua.sumK L ≤ 3145731) := by show _ ≤ _; omega
  have HS0 : Hid (ua.sumK KK0 ≤ 3145731) := by have := ua.sumK_le KK0; show _ ≤ _; omega
  have hq2 : ¬ r1 - ((dg.size : Int) + (vals.length : Int)) < 0 := by omega
  have DI := sl.hide (sl.unhide HF hn hnD hnV)
  have DS := sl.hide (sl.unhide HS hn hnV)
  have HIN := sl.hide hin
  generalize r1 - ((dg.size : Int) + (vals.length : Int)) = r2 at *
  clear CZ hz hr1 b1 b2 b3 HF HS C0 hs hin
  have zE0 := (sl.unhide E1).c0
  have zE1 := (sl.unhide E1).c1
  have zE2 := (sl.unhide E1).c2
  have zE3 := (sl.unhide E1).c3
  go_wp2_with fail
  refine (sl.unhide HZ).mono ?_; rintro e w2 ⟨rfl, g2⟩
  clear zE0 zE1 zE2 zE3
  have t2 := g2.size
  have B2 := sl.hide (sl.below_none (sl.unhide B1) g2)
  have F2 := sl.hide ((sl.unhide F1).kept g2)
  have E2 := sl.hide ((sl.unhide E1).kept g2)
  clear g2 B1 F1 E1
  have DR : Hid (∀ v u w1, ua.VKns w1 v KK0 → ua.Vl w1 u vals → Calls Try.prog 8 #[.agg #[.int .i64 n0, v], .agg #[.string dg, .bool sat, u, .int .i64 cost]] w1 fun e w' => ∃ u lo, e = .returned (.agg #[.int .i64 n0, u]) ∧ ua.RwK lo w' u L ∧ w1.grownBy w' none) := fun v u w1 h1 h2 => (sl.unhide DI v u w1 h1 h2).mono (by rintro e w' ⟨u, rfl, o, g⟩; exact ⟨u, _, rfl, o.rwk, g⟩)
  clear HZ
  go_upto_region 8 with fail
  go_cut [6] (fun p wx => ∃ c ya yc, p = .pointer (some ⟨c, 0, none⟩) ∧ Hid (ua.Fin w2 wx n0 c (.slice ya L.length yc) L))
  case first =>
    have T0 := sl.hide (fun w1 (gx : w2.grownBy w1 none) => ua.toCache v0 n0 KK0 w1 hn (((sl.unhide S).below (sl.unhide B2)).kept gx))
    have T1 := sl.hide (fun w1 (gx : w2.grownBy w1 none) => ua.toKnown (.slice xa vals.length xc) ⟨dg, sat, vals, cost⟩ w1 hnV (((sl.unhide S1).below (sl.unhide B2)).kept gx (.inl rfl)))
    dsimp only at T1
    have CK := sl.hide (fun (w1 : World) (gx : w2.grownBy w1 none) => And.intro ((sl.unhide F2).kept gx).c0 (And.intro ((sl.unhide F2).kept gx).c1 (And.intro ((sl.unhide E2).kept gx).c0 (And.intro ((sl.unhide E2).kept gx).c1 (And.intro ((sl.unhide E2).kept gx).c2 ((sl.unhide E2).kept gx).c3)))))
    have x0 := (sl.unhide F2).c0
    have x1 := (sl.unhide F2).c1
    have y0 := (sl.unhide E2).c0
    have y1 := (sl.unhide E2).c1
    have y2 := (sl.unhide E2).c2
    have y3 := (sl.unhide E2).c3
    have e0 := World.new_ne w2 _ x0
    have e1 := World.new_ne w2 _ y0
    have GB := sl.hide (cf.grown_drew w2 none)
    have GA := sl.hide (sl.grown_trans (r := none) (World.grownBy_alloc w2 (.cells #[.int .i64 0, .slice none 0 0] 26) none) (cf.grown_drew (w2.alloc (.cells #[.int .i64 0, .slice none 0 0] 26)) none))
    have BN := sl.hide ((cf.Box.new 26 w2 (.int .i64 0) (.slice none 0 0)).kept (cf.grown_drew (w2.alloc (.cells #[.int .i64 0, .slice none 0 0] 26)) none))
    clear F2 E2 B2
    go_region_held3 (fun w' => w'.cell? ⟨w.heap.size, 0, none⟩ = some (.int .i64 n0) ∧ w'.cell? ⟨w.heap.size, 1, none⟩ = some v0 ∧ w'.cell? ⟨w.heap.size + 1, 0, none⟩ = some (.string dg) ∧ w'.cell? ⟨w.heap.size + 1, 1, none⟩ = some (.bool sat) ∧ w'.cell? ⟨w.heap.size + 1, 2, none⟩ = some (.slice xa vals.length xc) ∧ w'.cell? ⟨w.heap.size + 1, 3, none⟩ = some (.int .i64 cost)) (go_keep) (first
      | (go_at_call 15; (first | (refine (sl.unhide T0 _ (sl.unhide GB)).mono ?_; rintro e w6 ⟨p6, rfl, o6, g6⟩; have G6 := sl.hide (sl.grown_trans (r := none) (sl.unhide GB) g6)) | (refine (sl.unhide T0 _ (sl.unhide GA)).mono ?_; rintro e w6 ⟨p6, rfl, o6, g6⟩; have G6 := sl.hide (sl.grown_trans (r := none) (sl.unhide GA) g6); have BX6 := sl.hide (And.intro ((sl.unhide BN).kept g6) (Nat.le_refl w2.heap.size)))); obtain ⟨a6, c6, rfl⟩ := o6.len; have O6 := sl.hide o6.vkns; obtain ⟨k1, k2, k3, k4, k5, k6⟩ := sl.unhide CK _ (sl.unhide G6); have e6 := World.new_ne w6 _ k1; have e6' := World.new_ne w6 _ k3; clear g6 o6)
      | (go_at_call 23; (first | (refine (sl.unhide T1 _ (sl.unhide G6)).mono ?_; rintro e w7 ⟨p7, rfl, o7, g7⟩; have G7 := sl.hide (sl.grown_trans (r := none) (sl.unhide G6) g7); have O67 := sl.hide ((sl.unhide O6).kept g7); (try (have BX7 := sl.hide (And.intro ((sl.unhide BX6).1.kept g7) (sl.unhide BX6).2)))) | (refine (sl.unhide T1 _ (sl.grown_trans (r := none) (sl.unhide G6) (World.grownBy_alloc w6 (.cells #[.int .i64 0, .slice none 0 0] 26) none))).mono ?_; rintro e w7 ⟨p7, rfl, o7, g7⟩; have G7 := sl.hide (sl.grown_trans (r := none) (sl.grown_trans (r := none) (sl.unhide G6) (World.grownBy_alloc w6 (.cells #[.int .i64 0, .slice none 0 0] 26) none)) g7); have O67 := sl.hide (((sl.unhide O6).kept (World.grownBy_alloc w6 (.cells #[.int .i64 0, .slice none 0 0] 26) none)).kept g7); have BX7 := sl.hide (And.intro ((cf.Box.new 26 w6 (.int .i64 0) (.slice none 0 0)).kept g7) (sl.unhide G6).size))); obtain ⟨a7, c7, rfl, _⟩ := sl.Sl.of_own o7; have V7 : Hid (ua.Vl w7 (.slice a7 vals.length c7) vals) := ⟨_, _, sl.Own.of o7⟩; obtain ⟨l1, l2, l3, l4, l5, l6⟩ := sl.unhide CK _ (sl.unhide G7); have e7 := World.new_ne w7 _ l1; have e7' := World.new_ne w7 _ l3; clear g7 o7)
      | (go_at_call 9; (first | (refine (sl.unhide DS _ _ _ (sl.unhide O67) (sl.unhide V7)).mono ?_; rintro e w8 ⟨p8, lo8, rfl, r8, g8⟩; have G8 := sl.hide (sl.grown_trans (r := none) (sl.unhide G7) g8); (try (have BX8 := sl.hide (And.intro ((sl.unhide BX7).1.kept g8) (sl.unhide BX7).2)))) | (refine (sl.unhide DS _ _ _ ((sl.unhide O67).kept (World.grownBy_alloc w7 (.cells #[.int .i64 0, .slice none 0 0] 26) none)) ((sl.unhide V7).kept (World.grownBy_alloc w7 (.cells #[.int .i64 0, .slice none 0 0] 26) none))).mono ?_; rintro e w8 ⟨p8, lo8, rfl, r8, g8⟩; have G8 := sl.hide (sl.grown_trans (r := none) (sl.grown_trans (r := none) (sl.unhide G7) (World.grownBy_alloc w7 (.cells #[.int .i64 0, .slice none 0 0] 26) none)) g8); have BX8 := sl.hide (And.intro ((cf.Box.new 26 w7 (.int .i64 0) (.slice none 0 0)).kept g8) (sl.unhide G7).size))); obtain ⟨qa, qc, rfl⟩ := r8.len; have R8 := sl.hide r8; (try (have q0 := (sl.unhide BX8).1.c0)); (try (have q1 := (sl.unhide BX8).1.c1)); (try (have f0 := (sl.unhide BX8).1.f 0)); (try (have f1 := (sl.unhide BX8).1.f 1)); obtain ⟨m1, m2, m3, m4, m5, m6⟩ := sl.unhide CK _ (sl.unhide G8); clear g8 r8))
    all_goals
      go_wp2_with fail
      go_meet
      first
        | exact ⟨_, qa, qc, rfl, ua.finB (sl.unhide R8) (sl.unhide G8)⟩
        | exact ⟨_, qa, qc, rfl, ua.finA (sl.unhide BX8).1 (sl.unhide R8) (sl.unhide G8) (sl.unhide BX8).2⟩
  case rest =>
    obtain ⟨c3, ya3, yc3, rfl, hfin⟩ := hcut
    obtain ⟨fb3, fk3, g3, fl3⟩ := sl.unhide hfin
    have t3 := g3.size
    have fc3 := fb3.lt
    have B3 := sl.hide (sl.below_none (sl.unhide B2) g3)
    have F3 := sl.hide ((sl.unhide F2).kept g3)
    have E3 := sl.hide ((sl.unhide E2).kept g3)
    have M3 := sl.hide fb3
    have KNM := sl.hide fk3
    clear g3 hfin fb3 fk3 B2 F2 E2
    generalize hwc : wc = w3 at *
    clear hwc
    have D3 := sl.hide (ua.Old.start w3)
    have zF0 := (sl.unhide F3).c0
    have zF1 := (sl.unhide F3).c1
    go_wp2_with fail
    refine (ua.toCache v0 n0 KK0 _ hn ((sl.unhide S).below (sl.unhide B3))).mono ?_; rintro e w4 ⟨u4, rfl, o4, g4⟩
    clear zF0 zF1
    obtain ⟨ua4, uc4, rfl⟩ := o4.len
    have t4 := g4.size
    have B4 := sl.hide (sl.below_none (sl.unhide B3) g4)
    have D4 := sl.hide ((sl.unhide D3).none g4)
    have F4 := sl.hide ((sl.unhide F3).kept g4)
    have E4 := sl.hide ((sl.unhide E3).kept g4)
    have M4 := sl.hide ((sl.unhide M3).kept g4)
    have X4 := sl.hide o4
    clear o4
    clear g4 B3 D3 F3 E3 M3
    obtain ⟨V4, hV4⟩ : ∃ V, V = w4.alloc (.cells #[.int .i64 n0, .slice ua4 KK0.length uc4] 26) := ⟨_, rfl⟩
    have gv4 : w4.grownBy V4 none := by rw [hV4]; exact World.grownBy_alloc _ _ _
    have sv4 : w4.heap.size + 1 ≤ V4.heap.size := by rw [hV4]; simp only [World.size_alloc]; omega
    have NY : cf.Box 26 V4 (w4.heap.size) (.int .i64 n0) (.slice ua4 KK0.length uc4) := by
      rw [hV4]
      have q := cf.Box.new 26 w4 (.int .i64 n0) (.slice ua4 KK0.length uc4)
      exact q
    have Bv4 := sl.hide (sl.below_none (sl.unhide B4) gv4)
    have Dv4 := sl.hide ((sl.unhide D4).none gv4)
    have Xv4 := sl.hide ((sl.unhide X4).kept gv4)
    have Fv4 := sl.hide ((sl.unhide F4).kept gv4)
    have Ev4 := sl.hide ((sl.unhide E4).kept gv4)
    have Mv4 := sl.hide ((sl.unhide M4).kept gv4)
    have Yv4 := sl.hide NY
    clear gv4 NY B4 D4 X4 F4 E4 M4
    go_upto_region 10 with fail
    rw [← hV4]
    clear hV4
    generalize w4.heap.size = vb4 at *
    have zE0 := (sl.unhide Ev4).c0
    have zE1 := (sl.unhide Ev4).c1
    have zE2 := (sl.unhide Ev4).c2
    have zE3 := (sl.unhide Ev4).c3
    go_wp2_with fail
    refine (ua.toKnown (.slice xa vals.length xc) ⟨dg, sat, vals, cost⟩ _ hnV ((sl.unhide S1).below (sl.unhide Bv4))).mono ?_; rintro e w5 ⟨u5, rfl, o5, g5⟩
    clear zE0 zE1 zE2 zE3
    obtain ⟨ua5, uc5, rfl, vx5⟩ := sl.Sl.of_own o5
    clear vx5
    have t5 := g5.size
    have B5 := sl.hide (sl.below_none (sl.unhide Bv4) g5)
    have D5 := sl.hide ((sl.unhide Dv4).none g5)
    have X5 := sl.hide ((sl.unhide Xv4).kept g5)
    have F5 := sl.hide ((sl.unhide Fv4).kept g5)
    have E5 := sl.hide ((sl.unhide Ev4).kept g5)
    have M5 := sl.hide ((sl.unhide Mv4).kept g5)
    have Y5 := sl.hide ((sl.unhide Yv4).kept g5)
    have Z5 := sl.hide (sl.Own.of o5)
    clear o5
    clear g5 Bv4 Dv4 Xv4 Fv4 Ev4 Mv4 Yv4
    obtain ⟨V5, hV5⟩ : ∃ V, V = w5.alloc (.cells #[.string dg, .bool sat, .slice ua5 vals.length uc5, .int .i64 cost] 29) := ⟨_, rfl⟩
    have gv5 : w5.grownBy V5 none := by rw [hV5]; exact World.grownBy_alloc _ _ _
    have sv5 : w5.heap.size + 1 ≤ V5.heap.size := by rw [hV5]; simp only [World.size_alloc]; omega
    have NH : yb.Box4 29 V5 (w5.heap.size) (.string dg) (.bool sat) (.slice ua5 vals.length uc5) (.int .i64 cost) := by
      rw [hV5]
      have q := yb.Box4.new 29 w5 (.string dg) (.bool sat) (.slice ua5 vals.length uc5) (.int .i64 cost)
      exact q
    have Bv5 := sl.hide (sl.below_none (sl.unhide B5) gv5)
    have Dv5 := sl.hide ((sl.unhide D5).none gv5)
    have Xv5 := sl.hide ((sl.unhide X5).kept gv5)
    have Zv5 := sl.hide ((sl.unhide Z5).kept gv5)
    have Fv5 := sl.hide ((sl.unhide F5).kept gv5)
    have Ev5 := sl.hide ((sl.unhide E5).kept gv5)
    have Mv5 := sl.hide ((sl.unhide M5).kept gv5)
    have Yv5 := sl.hide ((sl.unhide Y5).kept gv5)
    have Hv5 := sl.hide NH
    clear gv5 NH B5 D5 X5 Z5 F5 E5 M5 Y5
    go_upto_region 11 with fail
    rw [← hV5]
    clear hV5
    generalize w5.heap.size = vb5 at *
    have zY0 := (sl.unhide Yv5).c0
    have zY1 := (sl.unhide Yv5).c1
    have zH0 := (sl.unhide Hv5).c0
    have zH1 := (sl.unhide Hv5).c1
    have zH2 := (sl.unhide Hv5).c2
    have zH3 := (sl.unhide Hv5).c3
    go_wp2_with fail
    refine (sl.unhide DI _ _ _ (sl.unhide Xv5).vkns ⟨_, _, (sl.unhide Zv5)⟩).mono ?_; rintro e w6 ⟨u6, rfl, o6, g6⟩
    clear zY0 zY1 zH0 zH1 zH2 zH3
    obtain ⟨ua6, uc6, rfl⟩ := o6.len
    have t6 := g6.size
    have B6 := sl.hide (sl.below_none (sl.unhide Bv5) g6)
    have D6 := sl.hide ((sl.unhide Dv5).none g6)
    have X6 := sl.hide ((sl.unhide Xv5).kept g6)
    have Z6 := sl.hide ((sl.unhide Zv5).kept g6)
    have F6 := sl.hide ((sl.unhide Fv5).kept g6)
    have E6 := sl.hide ((sl.unhide Ev5).kept g6)
    have M6 := sl.hide ((sl.unhide Mv5).kept g6)
    have Y6 := sl.hide ((sl.unhide Yv5).kept g6)
    have H6 := sl.hide ((sl.unhide Hv5).kept g6)
    have U6 := sl.hide o6
    clear o6
    clear g6 Bv5 Dv5 Xv5 Zv5 Fv5 Ev5 Mv5 Yv5 Hv5
    obtain ⟨V6, hV6⟩ : ∃ V, V = w6.alloc (.cells #[.int .i64 n0, .slice ua6 L.length uc6] 26) := ⟨_, rfl⟩
    have gv6 : w6.grownBy V6 none := by rw [hV6]; exact World.grownBy_alloc _ _ _
    have sv6 : w6.heap.size + 1 ≤ V6.heap.size := by rw [hV6]; simp only [World.size_alloc]; omega
    have NG : cf.Box 26 V6 (w6.heap.size) (.int .i64 n0) (.slice ua6 L.length uc6) := by
      rw [hV6]
      have q := cf.Box.new 26 w6 (.int .i64 n0) (.slice ua6 L.length uc6)
      exact q
    have Bv6 := sl.hide (sl.below_none (sl.unhide B6) gv6)
    have Dv6 := sl.hide ((sl.unhide D6).none gv6)
    have Xv6 := sl.hide ((sl.unhide X6).kept gv6)
    have Zv6 := sl.hide ((sl.unhide Z6).kept gv6)
    have Uv6 := sl.hide ((sl.unhide U6).kept gv6)
    have Fv6 := sl.hide ((sl.unhide F6).kept gv6)
    have Ev6 := sl.hide ((sl.unhide E6).kept gv6)
    have Mv6 := sl.hide ((sl.unhide M6).kept gv6)
    have Yv6 := sl.hide ((sl.unhide Y6).kept gv6)
    have Hv6 := sl.hide ((sl.unhide H6).kept gv6)
    have Gv6 := sl.hide NG
    clear gv6 NG B6 D6 X6 Z6 U6 F6 E6 M6 Y6 H6
    go_upto_region 12 with fail
    rw [← hV6]
    clear hV6
    generalize w6.heap.size = vb6 at *
    have zG0 := (sl.unhide Gv6).c0
    have zG1 := (sl.unhide Gv6).c1
    have zM0 := (sl.unhide Mv6).c0
    have zM1 := (sl.unhide Mv6).c1
    go_wp2_with fail
    refine (ua.eqCacheB _ _ n0 L _ hlen (sl.unhide HIN) (sl.unhide Uv6).kns ((sl.unhide KNM).kept (sl.unhide Dv6).grown)).mono ?_; rintro e w7 ⟨rfl, g7⟩
    clear zG0 zG1 zM0 zM1
    have t7 := g7.size
    have B7 := sl.hide (sl.below_none (sl.unhide Bv6) g7)
    have D7 := sl.hide ((sl.unhide Dv6).none g7)
    have X7 := sl.hide ((sl.unhide Xv6).kept g7)
    have Z7 := sl.hide ((sl.unhide Zv6).kept g7)
    have U7 := sl.hide ((sl.unhide Uv6).kept g7)
    have F7 := sl.hide ((sl.unhide Fv6).kept g7)
    have E7 := sl.hide ((sl.unhide Ev6).kept g7)
    have M7 := sl.hide ((sl.unhide Mv6).kept g7)
    have Y7 := sl.hide ((sl.unhide Yv6).kept g7)
    have H7 := sl.hide ((sl.unhide Hv6).kept g7)
    have G7 := sl.hide ((sl.unhide Gv6).kept g7)
    clear g7 Bv6 Dv6 Xv6 Zv6 Uv6 Fv6 Ev6 Mv6 Yv6 Hv6 Gv6
    go_upto_region 14 with fail
    have T5 := sl.hide (ua.toCache v0 n0 KK0 w7.drew hn (((sl.unhide S).below (sl.unhide B7)).kept (cf.grown_drew w7 none)))
    have E5 := sl.hide (fun u6 wa (g6 : w7.drew.grownBy wa none) (o6 : ua.OwnK w7.drew.heap.size wa.heap.size wa u6 KK0) => ua.eqCache _ u6 n0 KK0 wa hn ((sl.unhide X7).kept (sl.grown_trans (r := none) (cf.grown_drew w7 none) g6)).kns o6.kns)
    have YY5 := sl.hide (fun wa (g6 : w7.drew.grownBy wa none) => (sl.unhide Y7).kept (sl.grown_trans (r := none) (cf.grown_drew w7 none) g6))
    have GG5 := sl.hide (fun wa wb (g6 : w7.drew.grownBy wa none) (g7 : wa.grownBy wb none) => sl.grown_trans (r := none) (sl.grown_trans (r := none) (cf.grown_drew w7 none) g6) g7)
    have zF0 := (sl.unhide F7).c0
    have zF1 := (sl.unhide F7).c1
    have zY0 := (sl.unhide Y7).c0
    have zY1 := (sl.unhide Y7).c1
    go_cut [44] (fun q wx => q = .bool false ∧ Hid (w7.grownBy wx none))
    case first =>
      go_region_with (first
        | (go_at_call 15; refine (sl.unhide T5).mono ?_; rintro e wa ⟨u6, rfl, o6, g6⟩; have z0 := (sl.unhide YY5 wa g6).c0; have z1 := (sl.unhide YY5 wa g6).c1; have EE6 := sl.hide (sl.unhide E5 u6 wa g6 o6); have GG6 := sl.hide (fun wb => sl.unhide GG5 wa wb g6); clear g6 o6)
        | (go_at_call 16; refine (sl.unhide EE6).mono ?_; rintro e wb ⟨rfl, g7⟩; have GG7 := sl.hide (sl.unhide GG6 wb g7); clear g7))
      all_goals (go_wp2_with fail; go_meet; exact ⟨rfl, GG7⟩)
    case rest =>
      obtain ⟨rfl, hg⟩ := hcut
      clear T5 E5 YY5 GG5 zF0 zF1 zY0 zY1
      have g8 := sl.unhide hg
      have t8 := g8.size
      have B8 := sl.hide (sl.below_none (sl.unhide B7) g8)
      have D8 := sl.hide ((sl.unhide D7).none g8)
      have X8 := sl.hide ((sl.unhide X7).kept g8)
      have Z8 := sl.hide ((sl.unhide Z7).kept g8)
      have U8 := sl.hide ((sl.unhide U7).kept g8)
      have F8 := sl.hide ((sl.unhide F7).kept g8)
      have E8 := sl.hide ((sl.unhide E7).kept g8)
      have M8 := sl.hide ((sl.unhide M7).kept g8)
      have Y8 := sl.hide ((sl.unhide Y7).kept g8)
      have H8 := sl.hide ((sl.unhide H7).kept g8)
      have G8 := sl.hide ((sl.unhide G7).kept g8)
      clear hg g8 B7 D7 X7 Z7 U7 F7 E7 M7 Y7 H7 G7
      generalize hwc : wc = w8 at *
      clear hwc
      go_upto_region 16 with fail
      have T5 := sl.hide (ua.toKnown (.slice xa vals.length xc) ⟨dg, sat, vals, cost⟩ w8.drew hnV (((sl.unhide S1).below (sl.unhide B8)).kept (cf.grown_drew w8 none) (.inl rfl)))
      have E5 := sl.hide (fun u6 wa (g6 : w8.drew.grownBy wa none) (o6 : wa.ownsRow w8.drew.heap.size 3 1 u6 vals.length (sl.ints vals)) => ua.eqKnown _ u6 ⟨dg, sat, vals, cost⟩ wa hnV ((sl.unhide Z8).kept (sl.grown_trans (r := none) (cf.grown_drew w8 none) g6)).sl (sl.Sl.of_own o6))
      have YY5 := sl.hide (fun wa (g6 : w8.drew.grownBy wa none) => (sl.unhide H8).kept (sl.grown_trans (r := none) (cf.grown_drew w8 none) g6))
      have GG5 := sl.hide (fun wa wb (g6 : w8.drew.grownBy wa none) (g7 : wa.grownBy wb none) => sl.grown_trans (r := none) (sl.grown_trans (r := none) (cf.grown_drew w8 none) g6) g7)
      have zE0 := (sl.unhide E8).c0
      have zE1 := (sl.unhide E8).c1
      have zE2 := (sl.unhide E8).c2
      have zE3 := (sl.unhide E8).c3
      have zH0 := (sl.unhide H8).c0
      have zH1 := (sl.unhide H8).c1
      have zH2 := (sl.unhide H8).c2
      have zH3 := (sl.unhide H8).c3
      go_cut [49] (fun q wx => q = .bool false ∧ Hid (w8.grownBy wx none))
      case first =>
        go_region_with (first
          | (go_at_call 23; refine (sl.unhide T5).mono ?_; rintro e wa ⟨u6, rfl, o6, g6⟩; have z0 := (sl.unhide YY5 wa g6).c0; have z1 := (sl.unhide YY5 wa g6).c1; have z2 := (sl.unhide YY5 wa g6).c2; have z3 := (sl.unhide YY5 wa g6).c3; have EE6 := sl.hide (sl.unhide E5 u6 wa g6 o6); have GG6 := sl.hide (fun wb => sl.unhide GG5 wa wb g6); clear g6 o6)
          | (go_at_call 17; refine (sl.unhide EE6).mono ?_; rintro e wb ⟨rfl, g7⟩; have GG7 := sl.hide (sl.unhide GG6 wb g7); clear g7))
        all_goals (go_wp2_with fail; go_meet; exact ⟨rfl, GG7⟩)
      case rest =>
        obtain ⟨rfl, hg⟩ := hcut
        clear T5 E5 YY5 GG5 zE0 zE1 zE2 zE3 zH0 zH1 zH2 zH3
        have g9 := sl.unhide hg
        have t9 := g9.size
        have B9 := sl.hide (sl.below_none (sl.unhide B8) g9)
        have D9 := sl.hide ((sl.unhide D8).none g9)
        have X9 := sl.hide ((sl.unhide X8).kept g9)
        have Z9 := sl.hide ((sl.unhide Z8).kept g9)
        have U9 := sl.hide ((sl.unhide U8).kept g9)
        have F9 := sl.hide ((sl.unhide F8).kept g9)
        have E9 := sl.hide ((sl.unhide E8).kept g9)
        have M9 := sl.hide ((sl.unhide M8).kept g9)
        have Y9 := sl.hide ((sl.unhide Y8).kept g9)
        have H9 := sl.hide ((sl.unhide H8).kept g9)
        have G9 := sl.hide ((sl.unhide G8).kept g9)
        clear hg g9 B8 D8 X8 Z8 U8 F8 E8 M8 Y8 H8 G8
        generalize hwc : wc = w9 at *
        clear hwc
        have s0 := sl.unhide HS0
        have s1 := sl.unhide HSL
        have zY0 := (sl.unhide Y9).c0
        have zY1 := (sl.unhide Y9).c1
        go_wp2_with fail
        refine (ua.markCache _ n0 KK0 1 _ _ _ (Nat.le_succ_of_le hn) (fun i => Nat.le_trans (ua.tot_vals KK0 i) hn) (by decide) (by decide) (sl.unhide X9)).mono ?_; rintro e w10 ⟨rfl, o10, g10⟩
        clear zY0 zY1
        have t10 := g10.size
        have B10 := sl.hide (css.below_outs (sl.unhide B9) (by omega) g10)
        have D10 := sl.hide ((sl.unhide D9).outs (by omega) g10)
        have Z10 := sl.hide (css.own_outs (sl.unhide Z9) g10 (by omega))
        have U10 := sl.hide ((sl.unhide U9).outs g10 (by omega))
        have F10 := sl.hide (ua.box_outs (sl.unhide F9) g10 (by omega))
        have E10 := sl.hide (ua.box4_outs (sl.unhide E9) g10 (by omega))
        have M10 := sl.hide (ua.box_outs (sl.unhide M9) g10 (by omega))
        have Y10 := sl.hide (ua.box_outs (sl.unhide Y9) g10 (by omega))
        have H10 := sl.hide (ua.box4_outs (sl.unhide H9) g10 (by omega))
        have G10 := sl.hide (ua.box_outs (sl.unhide G9) g10 (by omega))
        clear o10
        clear g10 B9 D9 X9 Z9 U9 F9 E9 M9 Y9 H9 G9
        clear Y10
        have zH0 := (sl.unhide H10).c0
        have zH1 := (sl.unhide H10).c1
        have zH2 := (sl.unhide H10).c2
        have zH3 := (sl.unhide H10).c3
        go_wp2_with fail
        refine (ua.markKnown _ ⟨dg, sat, vals, cost⟩ (1 + (ua.sumK KK0 : Int)) _ _ _ hnV (by omega) (by omega) (sl.unhide Z10)).mono ?_; rintro e w11 ⟨rfl, o11, g11⟩
        clear zH0 zH1 zH2 zH3
        have t11 := g11.size
        have B11 := sl.hide (css.below_outs (sl.unhide B10) (by omega) g11)
        have D11 := sl.hide ((sl.unhide D10).outs (by omega) g11)
        have U11 := sl.hide ((sl.unhide U10).outs g11 (by omega))
        have F11 := sl.hide (ua.box_outs (sl.unhide F10) g11 (by omega))
        have E11 := sl.hide (ua.box4_outs (sl.unhide E10) g11 (by omega))
        have M11 := sl.hide (ua.box_outs (sl.unhide M10) g11 (by omega))
        have H11 := sl.hide (ua.box4_outs (sl.unhide H10) g11 (by omega))
        have G11 := sl.hide (ua.box_outs (sl.unhide G10) g11 (by omega))
        clear o11
        clear g11 B10 D10 Z10 U10 F10 E10 M10 H10 G10
        clear H11
        have hk : ¬ (1 : Int) + (ua.sumK KK0 : Int) + (vals.length : Int) < 0 := by omega
        have hk' : decide ((1 : Int) + (ua.sumK KK0 : Int) + (vals.length : Int) < 0) = false := decide_eq_false hk
        have zG0 := (sl.unhide G11).c0
        have zG1 := (sl.unhide G11).c1
        have zM0 := (sl.unhide M11).c0
        have zM1 := (sl.unhide M11).c1
        go_wp2_with fail
        refine (ua.eqCacheB _ _ n0 L _ hlen (sl.unhide HIN) (sl.unhide U11).kns ((sl.unhide KNM).kept (sl.unhide D11).grown)).mono ?_; rintro e w12 ⟨rfl, g12⟩
        clear zG0 zG1 zM0 zM1
        have t12 := g12.size
        have B12 := sl.hide (sl.below_none (sl.unhide B11) g12)
        have D12 := sl.hide ((sl.unhide D11).none g12)
        have U12 := sl.hide ((sl.unhide U11).kept g12)
        have F12 := sl.hide ((sl.unhide F11).kept g12)
        have E12 := sl.hide ((sl.unhide E11).kept g12)
        have M12 := sl.hide ((sl.unhide M11).kept g12)
        have G12 := sl.hide ((sl.unhide G11).kept g12)
        clear g12 B11 D11 U11 F11 E11 M11 G11
        clear hk hk'
        have zG0 := (sl.unhide G12).c0
        have zG1 := (sl.unhide G12).c1
        go_wp2_with fail
        refine (ua.markCache _ n0 L 1 _ _ _ hnL (sl.unhide HIN) (by decide) (by decide) (sl.unhide U12)).mono ?_; rintro e w13 ⟨rfl, o13, g13⟩
        clear zG0 zG1
        have t13 := g13.size
        have B13 := sl.hide (css.below_outs (sl.unhide B12) (by omega) g13)
        have D13 := sl.hide ((sl.unhide D12).outs (by omega) g13)
        have F13 := sl.hide (ua.box_outs (sl.unhide F12) g13 (by omega))
        have E13 := sl.hide (ua.box4_outs (sl.unhide E12) g13 (by omega))
        have M13 := sl.hide (ua.box_outs (sl.unhide M12) g13 (by omega))
        have G13 := sl.hide (ua.box_outs (sl.unhide G12) g13 (by omega))
        have U13 := sl.hide o13
        clear o13
        clear g13 B12 D12 U12 F12 E12 M12 G12
        have hq9 : ¬ (1 : Int) + (ua.sumK L : Int) < 0 := by omega
        have zG0 := (sl.unhide G13).c0
        have zG1 := (sl.unhide G13).c1
        go_wp2_with fail
        refine (ua.heldCache _ n0 L 1 _ hnL (sl.unhide HIN) (by decide) (by decide) (sl.unhide U13).kns).mono ?_; rintro e w14 ⟨rfl, g14⟩
        clear zG0 zG1
        have t14 := g14.size
        have B14 := sl.hide (sl.below_none (sl.unhide B13) g14)
        have D14 := sl.hide ((sl.unhide D13).none g14)
        have U14 := sl.hide ((sl.unhide U13).kept g14)
        have F14 := sl.hide ((sl.unhide F13).kept g14)
        have E14 := sl.hide ((sl.unhide E13).kept g14)
        have M14 := sl.hide ((sl.unhide M13).kept g14)
        have G14 := sl.hide ((sl.unhide G13).kept g14)
        clear g14 B13 D13 U13 F13 E13 M13 G13
        go_upto_region 31 with fail
        go_cut [13] (fun p wx => ∃ c ya yc, p = .pointer (some ⟨c, 0, none⟩) ∧ Hid (ua.Fin w14 wx n0 c (.slice ya L.length yc) L))
        case first =>
          have T0 := sl.hide (fun w1 (gx : w14.grownBy w1 none) => ua.toCache v0 n0 KK0 w1 hn (((sl.unhide S).below (sl.unhide B14)).kept gx))
          have T1 := sl.hide (fun w1 (gx : w14.grownBy w1 none) => ua.toKnown (.slice xa vals.length xc) ⟨dg, sat, vals, cost⟩ w1 hnV (((sl.unhide S1).below (sl.unhide B14)).kept gx (.inl rfl)))
          dsimp only at T1
          have CK := sl.hide (fun (w1 : World) (gx : w14.grownBy w1 none) => And.intro ((sl.unhide F14).kept gx).c0 (And.intro ((sl.unhide F14).kept gx).c1 (And.intro ((sl.unhide E14).kept gx).c0 (And.intro ((sl.unhide E14).kept gx).c1 (And.intro ((sl.unhide E14).kept gx).c2 ((sl.unhide E14).kept gx).c3)))))
          have x0 := (sl.unhide F14).c0
          have x1 := (sl.unhide F14).c1
          have y0 := (sl.unhide E14).c0
          have y1 := (sl.unhide E14).c1
          have y2 := (sl.unhide E14).c2
          have y3 := (sl.unhide E14).c3
          have e0 := World.new_ne w14 _ x0
          have e1 := World.new_ne w14 _ y0
          have GB := sl.hide (cf.grown_drew w14 none)
          have GA := sl.hide (sl.grown_trans (r := none) (World.grownBy_alloc w14 (.cells #[.int .i64 0, .slice none 0 0] 26) none) (cf.grown_drew (w14.alloc (.cells #[.int .i64 0, .slice none 0 0] 26)) none))
          have BN := sl.hide ((cf.Box.new 26 w14 (.int .i64 0) (.slice none 0 0)).kept (cf.grown_drew (w14.alloc (.cells #[.int .i64 0, .slice none 0 0] 26)) none))
          clear U14 F14 E14 M14 G14 B14 D14
          go_region_held3 (fun w' => w'.cell? ⟨w.heap.size, 0, none⟩ = some (.int .i64 n0) ∧ w'.cell? ⟨w.heap.size, 1, none⟩ = some v0 ∧ w'.cell? ⟨w.heap.size + 1, 0, none⟩ = some (.string dg) ∧ w'.cell? ⟨w.heap.size + 1, 1, none⟩ = some (.bool sat) ∧ w'.cell? ⟨w.heap.size + 1, 2, none⟩ = some (.slice xa vals.length xc) ∧ w'.cell? ⟨w.heap.size + 1, 3, none⟩ = some (.int .i64 cost)) (go_keep) (first
            | (go_at_call 15; (first | (refine (sl.unhide T0 _ (sl.unhide GB)).mono ?_; rintro e w6 ⟨p6, rfl, o6, g6⟩; have G6 := sl.hide (sl.grown_trans (r := none) (sl.unhide GB) g6)) | (refine (sl.unhide T0 _ (sl.unhide GA)).mono ?_; rintro e w6 ⟨p6, rfl, o6, g6⟩; have G6 := sl.hide (sl.grown_trans (r := none) (sl.unhide GA) g6); have BX6 := sl.hide (And.intro ((sl.unhide BN).kept g6) (Nat.le_refl w14.heap.size)))); obtain ⟨a6, c6, rfl⟩ := o6.len; have O6 := sl.hide o6.vkns; obtain ⟨k1, k2, k3, k4, k5, k6⟩ := sl.unhide CK _ (sl.unhide G6); have e6 := World.new_ne w6 _ k1; have e6' := World.new_ne w6 _ k3; clear g6 o6)
            | (go_at_call 23; (first | (refine (sl.unhide T1 _ (sl.unhide G6)).mono ?_; rintro e w7 ⟨p7, rfl, o7, g7⟩; have G7 := sl.hide (sl.grown_trans (r := none) (sl.unhide G6) g7); have O67 := sl.hide ((sl.unhide O6).kept g7); (try (have BX7 := sl.hide (And.intro ((sl.unhide BX6).1.kept g7) (sl.unhide BX6).2)))) | (refine (sl.unhide T1 _ (sl.grown_trans (r := none) (sl.unhide G6) (World.grownBy_alloc w6 (.cells #[.int .i64 0, .slice none 0 0] 26) none))).mono ?_; rintro e w7 ⟨p7, rfl, o7, g7⟩; have G7 := sl.hide (sl.grown_trans (r := none) (sl.grown_trans (r := none) (sl.unhide G6) (World.grownBy_alloc w6 (.cells #[.int .i64 0, .slice none 0 0] 26) none)) g7); have O67 := sl.hide (((sl.unhide O6).kept (World.grownBy_alloc w6 (.cells #[.int .i64 0, .slice none 0 0] 26) none)).kept g7); have BX7 := sl.hide (And.intro ((cf.Box.new 26 w6 (.int .i64 0) (.slice none 0 0)).kept g7) (sl.unhide G6).size))); obtain ⟨a7, c7, rfl, _⟩ := sl.Sl.of_own o7; have V7 : Hid (ua.Vl w7 (.slice a7 vals.length c7) vals) := ⟨_, _, sl.Own.of o7⟩; obtain ⟨l1, l2, l3, l4, l5, l6⟩ := sl.unhide CK _ (sl.unhide G7); have e7 := World.new_ne w7 _ l1; have e7' := World.new_ne w7 _ l3; clear g7 o7)
            | (go_at_call 8; (first | (refine (sl.unhide DR _ _ _ (sl.unhide O67) (sl.unhide V7)).mono ?_; rintro e w8 ⟨p8, lo8, rfl, r8, g8⟩; have G8 := sl.hide (sl.grown_trans (r := none) (sl.unhide G7) g8); (try (have BX8 := sl.hide (And.intro ((sl.unhide BX7).1.kept g8) (sl.unhide BX7).2)))) | (refine (sl.unhide DR _ _ _ ((sl.unhide O67).kept (World.grownBy_alloc w7 (.cells #[.int .i64 0, .slice none 0 0] 26) none)) ((sl.unhide V7).kept (World.grownBy_alloc w7 (.cells #[.int .i64 0, .slice none 0 0] 26) none))).mono ?_; rintro e w8 ⟨p8, lo8, rfl, r8, g8⟩; have G8 := sl.hide (sl.grown_trans (r := none) (sl.grown_trans (r := none) (sl.unhide G7) (World.grownBy_alloc w7 (.cells #[.int .i64 0, .slice none 0 0] 26) none)) g8); have BX8 := sl.hide (And.intro ((cf.Box.new 26 w7 (.int .i64 0) (.slice none 0 0)).kept g8) (sl.unhide G7).size))); obtain ⟨qa, qc, rfl⟩ := r8.len; have R8 := sl.hide r8; (try (have q0 := (sl.unhide BX8).1.c0)); (try (have q1 := (sl.unhide BX8).1.c1)); (try (have f0 := (sl.unhide BX8).1.f 0)); (try (have f1 := (sl.unhide BX8).1.f 1)); obtain ⟨m1, m2, m3, m4, m5, m6⟩ := sl.unhide CK _ (sl.unhide G8); clear g8 r8))
          all_goals
            go_wp2_with fail
            go_meet
            first
              | exact ⟨_, qa, qc, rfl, ua.finB (sl.unhide R8) (sl.unhide G8)⟩
              | exact ⟨_, qa, qc, rfl, ua.finA (sl.unhide BX8).1 (sl.unhide R8) (sl.unhide G8) (sl.unhide BX8).2⟩
        case rest =>
          obtain ⟨c15, ya15, yc15, rfl, hfin⟩ := hcut
          obtain ⟨fb15, fk15, g15, fl15⟩ := sl.unhide hfin
          have t15 := g15.size
          have fc15 := fb15.lt
          have B15 := sl.hide (sl.below_none (sl.unhide B14) g15)
          have D15 := sl.hide ((sl.unhide D14).none g15)
          have U15 := sl.hide ((sl.unhide U14).kept g15)
          have F15 := sl.hide ((sl.unhide F14).kept g15)
          have E15 := sl.hide ((sl.unhide E14).kept g15)
          have M15 := sl.hide ((sl.unhide M14).kept g15)
          have G15 := sl.hide ((sl.unhide G14).kept g15)
          have I15 := sl.hide fb15
          have KNI := sl.hide fk15
          clear g15 hfin fb15 fk15 B14 D14 U14 F14 E14 M14 G14
          generalize hwc : wc = w15 at *
          clear hwc
          have zI0 := (sl.unhide I15).c0
          have zI1 := (sl.unhide I15).c1
          have zM0 := (sl.unhide M15).c0
          have zM1 := (sl.unhide M15).c1
          go_wp2_with fail
          refine (ua.eqCacheB _ _ n0 L _ hlen (sl.unhide HIN) (sl.unhide KNI) ((sl.unhide KNM).kept (sl.unhide D15).grown)).mono ?_; rintro e w16 ⟨rfl, g16⟩
          clear zI0 zI1 zM0 zM1
          have t16 := g16.size
          have B16 := sl.hide (sl.below_none (sl.unhide B15) g16)
          have D16 := sl.hide ((sl.unhide D15).none g16)
          have U16 := sl.hide ((sl.unhide U15).kept g16)
          have F16 := sl.hide ((sl.unhide F15).kept g16)
          have E16 := sl.hide ((sl.unhide E15).kept g16)
          have M16 := sl.hide ((sl.unhide M15).kept g16)
          have G16 := sl.hide ((sl.unhide G15).kept g16)
          have I16 := sl.hide ((sl.unhide I15).kept g16)
          clear g16 B15 D15 U15 F15 E15 M15 G15 I15
          clear I16 M16
          have zG0 := (sl.unhide G16).c0
          have zG1 := (sl.unhide G16).c1
          go_wp2_with fail
          refine (ua.heldCache _ n0 L 1 _ hnL (sl.unhide HIN) (by decide) (by decide) (sl.unhide U16).kns).mono ?_; rintro e w17 ⟨rfl, g17⟩
          clear zG0 zG1
          have t17 := g17.size
          have B17 := sl.hide (sl.below_none (sl.unhide B16) g17)
          have D17 := sl.hide ((sl.unhide D16).none g17)
          have U17 := sl.hide ((sl.unhide U16).kept g17)
          have F17 := sl.hide ((sl.unhide F16).kept g17)
          have E17 := sl.hide ((sl.unhide E16).kept g17)
          have G17 := sl.hide ((sl.unhide G16).kept g17)
          clear g17 B16 D16 U16 F16 E16 G16
          go_wp2_with fail
          go_ret
          exact ⟨rfl, (sl.unhide B17)⟩

/-! ### the row's step (the guide's own frame) -/
set_option maxRecDepth 100000 in
theorem lifted (os : Os) (started : os.Started) (H : Type) (enc : TypeId × Value → H) :
    ReturnsInHanded {} Try.checked os 5 .any (Rows.fnExactCachePutSpec.pre6 enc Try.prog Try.f5 Rows.fnExactCachePutRow.domain false) (Rows.fnExactCachePutSpec.post enc Try.prog Try.f5 false true false false) := by
  refine returnsInHanded_of_change (C := Try.checked) own started (by kernel_rfl) Try.func5
    (ChangeSpec.witness6 (enc := enc) (C := Try.checked) false ⟨#[], #[.agg #[.int .i64 0, .slice none 0 0], .agg #[.string ByteArray.empty, .bool false, .slice none 0 0, .int .i64 0]], []⟩ 8 (by kernel_rfl) (by kernel_rfl) (by kernel_rfl) (by kernel_rfl)) ?_
  intro W base args ds gs before hval0 hW hcnd _
  have hval : ∀ (j : Nat) t v, Try.f5.params[j]? = some t → args[j]? = some v → Value.okWide Try.prog W .any base t v := hval0
  have hW' := hW
  obtain ⟨p, q, hA0, hV, rfl, hfz, hnd⟩ := hW
  have hA : DataW.TrodAll enc Try.prog W 0 (fun _ => true) true Try.f5.params.toList args.toList ds p := hA0
  rw [Try.params5] at hA hval
  obtain ⟨x0, vs0, d0, ds0, p0, q0, hargs, rfl, rfl, h0, r0⟩ := trodAll_cons hA
  obtain ⟨x1, vs1, d1, ds1, p1, q1, rfl, rfl, rfl, h1, r1⟩ := trodAll_cons r0
  obtain ⟨rfl, rfl, rfl⟩ := trodAll_nil r1
  obtain rfl : args = #[x0, x1] := by cases args; simp_all
  obtain ⟨rfl, rfl⟩ := trodVars_none hV
  obtain ⟨cs0, rfl, _⟩ := okWide_struct Try.underlying38 (hval 0 38 _ rfl rfl)
  have k0 := h0
  have lt0 : ∀ x ∈ p0, x.block < W.heap.size := by obtain ⟨m, hm⟩ := k0; exact DataW.trod_lt m _ _ _ hm
  obtain ⟨n0, v0, KK0, e0, f0, w0⟩ : ∃ n v KK, cs0 = #[.int .i64 n, v] ∧ (Lit.int .i64 n).wf = true ∧ ua.IsKns W v KK := by
    obtain ⟨fuel, hf⟩ := h0
    obtain ⟨n, v, KK, e, hw, hv⟩ := ua.open_cache hf
    refine ⟨n, v, KK, ?_, hw, hv⟩
    cases cs0
    simpa [Value.cells] using e
  subst e0
  obtain ⟨cs1, rfl, _⟩ := okWide_struct Try.underlying46 (hval 1 46 _ rfl rfl)
  have k1 := h1
  have lt1 : ∀ x ∈ p1, x.block < W.heap.size := by obtain ⟨m, hm⟩ := k1; exact DataW.trod_lt m _ _ _ hm
  obtain ⟨u1, kn1, e1, w1, l1, dd1⟩ : ∃ (u : Value) (k : ua.Kn), cs1 = #[.string k.dg, .bool k.sat, u, .int .i64 k.cost] ∧ sl.Sl W u k.vals ∧ k.vals.length ≤ 9223372036854775807 ∧ k.dg.size ≤ 9223372036854775807 := by
    obtain ⟨fuel, hf⟩ := h1
    obtain ⟨u, k, e, h1, h2, h3, _⟩ := ua.open_known hf
    refine ⟨u, k, ?_, h1, h2, h3⟩
    cases cs1
    simpa [Value.cells] using e
  subst e1
  clear hA0 hval0
  refine (walk n0 v0 KK0 u1 kn1 W f0 w0 w1 l1 dd1).mono fun e W' ⟨he, bel⟩ => ?_
  subst he
  exact ⟨_, rfl, _, _, _, [], _, [], hW', trodAll_mk1 (shut_bool Try.underlying4 _), (trodAll_cons_mk (Below.trod laidOut (by kernel_rfl) (of_decide_eq_true (by kernel_rfl)) k0 bel lt0) (trodAll_cons_mk (Below.trod laidOut (by kernel_rfl) (of_decide_eq_true (by kernel_rfl)) k1 bel lt1) trodAll_mk0)), rfl, bel.frame _, fun h => by cases h⟩

theorem over : Rows.fnExactCachePutRow.holds Try.pinned (OpenSpec.ofChange Rows.fnExactCachePutSpec) :=
  OpenClaim.holds_of_wide 5 Try.f5 rfl rfl rfl rfl rfl rfl rfl ⟨rfl, rfl, rfl, rfl, rfl⟩ rfl rfl rfl rfl rfl (by kernel_rfl) Try.func5 (by kernel_rfl)
    (of_decide_eq_true (by kernel_rfl)) (by unfold Func.isWrapper; first | (rw [if_pos (by decide +kernel)]; kernel_rfl) | (rw [if_neg (by decide +kernel)]; exact ⟨rfl, rfl⟩))
    (fun os started H enc _ => lifted os started H enc)

/-- the statement -/
theorem proved : Rows.FnExactCachePutSaid := over
#print axioms proved
end Go.Proofs.Ytgjakiliepfjiaa.fnExactCachePut
