/- For every two formulas impl.CnfJoin answers as spec.CnfJoin, writes into neither and answers with memory of its own (the law FnExactCnfJoin returns true); no condition. -/
import Derived.Test.YtogidhekdpgggaaRows
import Derived.Test.YtogidhekdpgggaaRow
import Derived.Test.YtogidhekdpgggaaJp
import Derived.WalkKit
import Derived.ProofKit
import Derived.OpenShut
import Derived.ShutString
import Derived.ChangeOld
import Derived.Below
namespace Go.Proofs.Ytogidhekdpgggaa.fnExactCnfJoin
open Go.ChangeShapes Go.WideShapes Go.ChangeAt Go.RowKit
open Go.ChangeMaps (open_string shut_string)
set_option linter.unusedVariables false

theorem own : ownKnob Try.prog.godebug = none := by kernel_rfl
theorem laidOut : laidOutB Try.prog = true := by kernel_rfl

/-! ### the walk -/
set_option maxRecDepth 100000 in
set_option maxHeartbeats 8000000 in
theorem walk (n0 : Int) (v0 : Value) (LL0 : List (List Int)) (n1 : Int) (v1 : Value) (LL1 : List (List Int)) (w : World) (f0 : (Lit.int .i64 n0).wf = true) (w0 : row.IsRows w v0 LL0) (f1 : (Lit.int .i64 n1).wf = true) (w1 : row.IsRows w v1 LL1) :
    Calls Try.prog 8 #[.agg #[.int .i64 n0, v0], .agg #[.int .i64 n1, v1]] w fun e w' => e = .returned (.bool true) ∧ Below w.heap.size w w' := by
  obtain ⟨hS0, hl0, hk0⟩ := w0
  obtain ⟨hS1, hl1, hk1⟩ := w1
  have S_ := trivial
  have s1 := sl.hide (World.grownBy_alloc w (.cells #[(.int .i64 n0), v0] 24) none).size
  have B1 := sl.hide (sl.below_of (World.grownBy_alloc w (.cells #[(.int .i64 n0), v0] 24) none))
  have q1 : Hid ((w.alloc (.cells #[(.int .i64 n0), v0] 24)).heap.size = w.heap.size + 1) := World.size_alloc ..
  have F0_1 := sl.hide (cf.Box.new 24 w (.int .i64 n0) v0)
  have s2 := sl.hide (World.grownBy_alloc (w.alloc (.cells #[(.int .i64 n0), v0] 24)) (.cells #[(.int .i64 n1), v1] 24) none).size
  have B2 := sl.hide (sl.below_none (sl.unhide B1) (World.grownBy_alloc (w.alloc (.cells #[(.int .i64 n0), v0] 24)) (.cells #[(.int .i64 n1), v1] 24) none))
  have F0_2 := sl.hide ((sl.unhide F0_1).kept (World.grownBy_alloc (w.alloc (.cells #[(.int .i64 n0), v0] 24)) (.cells #[(.int .i64 n1), v1] 24) none))
  have q2 : Hid (((w.alloc (.cells #[(.int .i64 n0), v0] 24)).alloc (.cells #[(.int .i64 n1), v1] 24)).heap.size = (w.alloc (.cells #[(.int .i64 n0), v0] 24)).heap.size + 1) := World.size_alloc ..
  have F1_2 := sl.hide (cf.Box.new 24 (w.alloc (.cells #[(.int .i64 n0), v0] 24)) (.int .i64 n1) v1)
  simp only [World.size_alloc] at F1_2
  clear B1 F0_1
  have S0 := sl.hide hS0
  have S1 := sl.hide hS1
  clear hS0
  clear hS1
  go_enter Try.func8, Try.ntmps8
  have zF0_0 := (sl.unhide F0_2).c0
  have zF0_1 := (sl.unhide F0_2).c1
  go_wp2_with fail
  refine (cf.szCnf v0 n0 LL0 1048576 _ (by decide) (by decide) hl0 hk0 ((sl.unhide S0).below (sl.unhide B2))).mono ?_; rintro e w3 ⟨r0, rfl, g3, hr⟩
  clear zF0_0 zF0_1
  have s3 := sl.hide (g3).size
  have B3 := sl.hide (sl.below_none (sl.unhide B2) (g3))
  have F0_3 := sl.hide ((sl.unhide F0_2).kept (g3))
  have F1_3 := sl.hide ((sl.unhide F1_2).kept (g3))
  clear g3 B2 F0_2 F1_2
  rcases hr with rfl | ⟨hr0, hr1⟩
  · go_wp2_with fail
    go_ret
    exact ⟨rfl, sl.unhide B3⟩
  have hn0 : css.tot LL0 ≤ 1048576 := by omega
  have hq0 : ¬ r0 < 0 := by omega
  have hb0 : 0 ≤ r0 ∧ r0 ≤ 1048576 := by omega
  have ht0 := sl.hide hr1
  clear hr0 hr1
  have zF1_0 := (sl.unhide F1_3).c0
  have zF1_1 := (sl.unhide F1_3).c1
  go_wp2_with fail
  refine (cf.szCnf v1 n1 LL1 r0 _ (by omega) (by omega) hl1 hk1 ((sl.unhide S1).below (sl.unhide B3))).mono ?_; rintro e w4 ⟨r1, rfl, g4, hr⟩
  clear zF1_0 zF1_1
  have s4 := sl.hide (g4).size
  have B4 := sl.hide (sl.below_none (sl.unhide B3) (g4))
  have F0_4 := sl.hide ((sl.unhide F0_3).kept (g4))
  have F1_4 := sl.hide ((sl.unhide F1_3).kept (g4))
  clear g4 B3 F0_3 F1_3
  rcases hr with rfl | ⟨hr0, hr1⟩
  · go_wp2_with fail
    go_ret
    exact ⟨rfl, sl.unhide B4⟩
  have hn1 : css.tot LL1 ≤ 1048576 := by omega
  have hq1 : ¬ r1 < 0 := by omega
  have hb1 : 0 ≤ r1 ∧ r1 ≤ 1048576 := by omega
  have ht1 := sl.hide hr1
  clear hr0 hr1
  have hsum : css.tot LL0 + css.tot LL1 ≤ 1048576 := by have h0 := sl.unhide ht0; have h1 := sl.unhide ht1; omega
  obtain ⟨N, b, R, hR, cs, ci⟩ := jn.both n0 n1 LL0 LL1 hsum
  have CS := sl.hide cs
  have CI := sl.hide ci
  clear cs ci hsum
  have hs0 : css.sumLen LL0 ≤ 1048576 := Nat.le_trans (css.sumLen_le LL0) hn0
  have hz1 : decide ((1 : Int) + (css.sumLen LL0 : Int) + (css.sumLen LL1 : Int) < 0) = false := decide_eq_false (by omega)
  have hz2 : ¬ (1 : Int) + (css.sumLen R : Int) < 0 := by omega
  go_upto_region 8 with fail
  go_cut [6, 7] (fun p q wx => ∃ c ya yc lo hi, p = .pointer (some ⟨c, 0, none⟩) ∧ q = .bool b ∧ Hid (jn.Fin w4 wx c lo hi N (.slice ya R.length yc) R))
  case first =>
    have T0 := sl.hide (fun w1 (g : w4.grownBy w1 none) => cf.toCnf v0 n0 LL0 w1 hn0 (((sl.unhide S0).below (sl.unhide B4)).kept g))
    have T1 := sl.hide (fun w1 (g : w4.grownBy w1 none) => cf.toCnf v1 n1 LL1 w1 hn1 (((sl.unhide S1).below (sl.unhide B4)).kept g))
    have CK := sl.hide (fun (w1 : World) (g : w4.grownBy w1 none) => And.intro ((sl.unhide F0_4).kept g).c0 (And.intro ((sl.unhide F0_4).kept g).c1 (And.intro ((sl.unhide F1_4).kept g).c0 ((sl.unhide F1_4).kept g).c1)))
    have x0 := (sl.unhide F0_4).c0
    have x1 := (sl.unhide F0_4).c1
    have y0 := (sl.unhide F1_4).c0
    have y1 := (sl.unhide F1_4).c1
    have e0 := World.new_ne w4 _ x0
    have e1 := World.new_ne w4 _ y0
    have GB := sl.hide (cf.grown_drew w4 none)
    have GA := sl.hide (sl.grown_trans (r := none) (World.grownBy_alloc w4 (.cells #[.int .i64 0, .slice none 0 0] 27) none) (cf.grown_drew (w4.alloc (.cells #[.int .i64 0, .slice none 0 0] 27)) none))
    have BN := sl.hide ((cf.Box.new 27 w4 (.int .i64 0) (.slice none 0 0)).kept (cf.grown_drew (w4.alloc (.cells #[.int .i64 0, .slice none 0 0] 27)) none))
    clear F0_4 F1_4 B4
    go_region_held3 (fun w' => w'.cell? ⟨w.heap.size, 0, none⟩ = some (.int .i64 n0) ∧ w'.cell? ⟨w.heap.size, 1, none⟩ = some v0 ∧ w'.cell? ⟨w.heap.size + 1, 0, none⟩ = some (.int .i64 n1) ∧ w'.cell? ⟨w.heap.size + 1, 1, none⟩ = some v1) (go_keep) (first
      | (go_at_call_of 11 (Value.agg #[Value.int IntKind.i64 n0, v0]); (first | refine (sl.unhide T0 _ (sl.unhide GB)).mono ?_ | refine (sl.unhide T0 _ (sl.unhide GA)).mono ?_); rintro e w6 ⟨p6, rfl, o6, g6⟩; have G6 : Hid (w4.grownBy w6 none) := (by first | exact sl.grown_trans (r := none) (sl.unhide GB) g6 | exact sl.grown_trans (r := none) (sl.unhide GA) g6); obtain ⟨k1, k2, k3, k4⟩ := sl.unhide CK w6 (sl.unhide G6); have m1 := World.new_ne w6 _ k1; have m2 := World.new_ne w6 _ k3; (try (have BX6 := sl.hide ((sl.unhide BN).kept g6))); have O6 := sl.hide o6; clear o6 g6)
      | (go_at_call_of 11 (Value.agg #[Value.int IntKind.i64 n1, v1]); (first | refine (sl.unhide T1 _ (sl.unhide G6)).mono ?_ | refine (sl.unhide T1 _ (sl.grown_trans (r := none) (sl.unhide G6) (World.grownBy_alloc w6 (.cells #[.int .i64 0, .slice none 0 0] 27) none))).mono ?_); rintro e w7 ⟨p7, rfl, o7, g7⟩; have GG : Hid (w6.grownBy w7 none) := (by first | exact g7 | exact sl.grown_trans (r := none) (World.grownBy_alloc w6 (.cells #[.int .i64 0, .slice none 0 0] 27) none) g7); have G7 := sl.hide (sl.grown_trans (r := none) (sl.unhide G6) (sl.unhide GG)); obtain ⟨k5, k6, k7, k8⟩ := sl.unhide CK w7 (sl.unhide G7); have m3 := World.new_ne w7 _ k5; have m4 := World.new_ne w7 _ k7; (first | (have BX7 := sl.hide ((sl.unhide BX6).kept g7)) | (have BX7 := sl.hide ((cf.Box.new 27 w6 (.int .i64 0) (.slice none 0 0)).kept g7)) | skip); have O67 := sl.hide ((sl.unhide O6).kept (sl.unhide GG)); have O7 := sl.hide o7; have s7 := sl.hide (sl.unhide GG).size; clear o7 g7)
      | (go_at_call 26; (first | refine (sl.unhide CS _ _ _ _ _ _ _ (sl.unhide O67) (sl.unhide O7) (sl.unhide s7) (Nat.le_refl _)).mono ?_ | refine (sl.unhide CS _ _ _ _ _ _ _ ((sl.unhide O67).kept (World.grownBy_alloc w7 (.cells #[.int .i64 0, .slice none 0 0] 27) none)) ((sl.unhide O7).kept (World.grownBy_alloc w7 (.cells #[.int .i64 0, .slice none 0 0] 27) none)) (by rw [World.size_alloc]; have := sl.unhide s7; omega) (by rw [World.size_alloc]; omega)).mono ?_); rintro e w8 ⟨p8, rfl, o8, g8⟩; obtain ⟨qa, qc, rfl⟩ := o8.len; have GH : Hid (w7.grownBy w8 none) := (by first | exact g8 | exact sl.grown_trans (r := none) (World.grownBy_alloc w7 (.cells #[.int .i64 0, .slice none 0 0] 27) none) g8); have G8 := sl.hide (sl.grown_trans (r := none) (sl.unhide G7) (sl.unhide GH)); obtain ⟨k9, ka, kb, kc⟩ := sl.unhide CK w8 (sl.unhide G8); have m5 := World.new_ne w8 _ k9; have m6 := World.new_ne w8 _ kb; (first | (have BX8 := sl.hide (And.intro ((sl.unhide BX7).kept g8) (sl.unhide BX7).lt)) | (have BX8 := sl.hide (And.intro ((cf.Box.new 27 w7 (.int .i64 0) (.slice none 0 0)).kept g8) (cf.Box.new 27 w7 (.int .i64 0) (.slice none 0 0)).lt)) | skip); (try (have t0 := (sl.unhide BX8).1.c0; have t1 := (sl.unhide BX8).1.c1; have t2 := (sl.unhide BX8).1.f 0; have t3 := (sl.unhide BX8).1.f 1)); have O8 := sl.hide o8; clear o8 g8))
    all_goals
      go_wp2_with fail
      go_meet
      first
        | exact ⟨_, qa, qc, _, _, rfl, rfl, jn.finB (sl.unhide O8) (sl.unhide G8) (sl.unhide G7).size⟩
        | exact ⟨_, qa, qc, _, _, rfl, rfl, jn.finA (sl.unhide BX8).1 (sl.unhide O8) (sl.unhide G8) (Nat.le_refl _) ((sl.unhide G7).size) (sl.unhide BX8).2⟩
        | exact ⟨_, qa, qc, _, _, rfl, rfl, jn.finA (sl.unhide BX8).1 (sl.unhide O8) (sl.unhide G8) (Nat.le_refl _) ((by rw [World.size_alloc]; exact Nat.le_succ_of_le (sl.unhide G7).size)) (sl.unhide BX8).2⟩
        | exact ⟨_, qa, qc, _, _, rfl, rfl, jn.finA (sl.unhide BX8).1 (sl.unhide O8) (sl.unhide G8) ((sl.unhide G6).size) ((sl.unhide G7).size) (sl.unhide BX8).2⟩
        | exact ⟨_, qa, qc, _, _, rfl, rfl, jn.finA (sl.unhide BX8).1 (sl.unhide O8) (sl.unhide G8) ((sl.unhide G6).size) ((by rw [World.size_alloc]; exact Nat.le_succ_of_le (sl.unhide G7).size)) (sl.unhide BX8).2⟩
        | exact ⟨_, qa, qc, _, _, rfl, rfl, jn.finA (sl.unhide BX8).1 (sl.unhide O8) (sl.unhide G8) ((sl.unhide G7).size) ((sl.unhide G7).size) (sl.unhide BX8).2⟩
        | exact ⟨_, qa, qc, _, _, rfl, rfl, jn.finA (sl.unhide BX8).1 (sl.unhide O8) (sl.unhide G8) ((sl.unhide G7).size) ((by rw [World.size_alloc]; exact Nat.le_succ_of_le (sl.unhide G7).size)) (sl.unhide BX8).2⟩
  case rest =>
    obtain ⟨c5, ya5, yc5, lo5, hi5, rfl, rfl, hfin⟩ := hcut
    obtain ⟨fb, fo, g5, fl1, fl2, fl3, fl4⟩ := sl.unhide hfin
    have UA5 := sl.hide fo
    have U5 := sl.hide fb
    have fl5 := sl.hide (And.intro fl1 (And.intro fl2 (And.intro fl3 fl4)))
    have fk5 := sl.hide fb.lt
    have s5 := sl.hide (g5).size
    have B5 := sl.hide (sl.below_none (sl.unhide B4) (g5))
    have F0_5 := sl.hide ((sl.unhide F0_4).kept (g5))
    have F1_5 := sl.hide ((sl.unhide F1_4).kept (g5))
    clear g5 hfin fb fo fl1 fl2 fl3 fl4 B4 F0_4 F1_4
    have zF0_0 := (sl.unhide F0_5).c0
    have zF0_1 := (sl.unhide F0_5).c1
    go_wp2_with fail
    refine (cf.toCnf v0 n0 LL0 _ hn0 ((sl.unhide S0).below (sl.unhide B5))).mono ?_; rintro e w6 ⟨u6, rfl, o6, g6⟩
    clear zF0_0 zF0_1
    obtain ⟨a6_, c6_, rfl⟩ := o6.len
    have s6 := sl.hide (g6).size
    have B6 := sl.hide (sl.below_none (sl.unhide B5) (g6))
    have UA6 := sl.hide ((sl.unhide UA5).kept (g6))
    have F0_6 := sl.hide ((sl.unhide F0_5).kept (g6))
    have F1_6 := sl.hide ((sl.unhide F1_5).kept (g6))
    have U6 := sl.hide ((sl.unhide U5).kept (g6))
    have X6 := sl.hide o6
    clear o6 g6 B5 UA5 F0_5 F1_5 U5
    have pF1_0 := (sl.unhide F1_6).c0
    have pF1_1 := (sl.unhide F1_6).c1
    have pF1_l := (sl.unhide F1_6).lt
    have s7 := sl.hide (World.grownBy_alloc w6 (.cells #[(.int .i64 n0), (.slice a6_ LL0.length c6_)] 27) none).size
    have B7 := sl.hide (sl.below_none (sl.unhide B6) (World.grownBy_alloc w6 (.cells #[(.int .i64 n0), (.slice a6_ LL0.length c6_)] 27) none))
    have UA7 := sl.hide ((sl.unhide UA6).kept (World.grownBy_alloc w6 (.cells #[(.int .i64 n0), (.slice a6_ LL0.length c6_)] 27) none))
    have X7 := sl.hide ((sl.unhide X6).kept (World.grownBy_alloc w6 (.cells #[(.int .i64 n0), (.slice a6_ LL0.length c6_)] 27) none))
    have F0_7 := sl.hide ((sl.unhide F0_6).kept (World.grownBy_alloc w6 (.cells #[(.int .i64 n0), (.slice a6_ LL0.length c6_)] 27) none))
    have F1_7 := sl.hide ((sl.unhide F1_6).kept (World.grownBy_alloc w6 (.cells #[(.int .i64 n0), (.slice a6_ LL0.length c6_)] 27) none))
    have U7 := sl.hide ((sl.unhide U6).kept (World.grownBy_alloc w6 (.cells #[(.int .i64 n0), (.slice a6_ LL0.length c6_)] 27) none))
    have q7 : Hid ((w6.alloc (.cells #[(.int .i64 n0), (.slice a6_ LL0.length c6_)] 27)).heap.size = w6.heap.size + 1) := World.size_alloc ..
    have V7 := sl.hide (cf.Box.new 27 w6 (.int .i64 n0) (.slice a6_ LL0.length c6_))
    clear B6 UA6 X6 F0_6 F1_6 U6
    have zF1_0 := (sl.unhide F1_7).c0
    have zF1_1 := (sl.unhide F1_7).c1
    go_wp2_with fail
    refine (cf.toCnf v1 n1 LL1 _ hn1 ((sl.unhide S1).below (sl.unhide B7))).mono ?_; rintro e w8 ⟨u8, rfl, o8, g8⟩
    clear pF1_0 pF1_1 pF1_l zF1_0 zF1_1
    obtain ⟨a8_, c8_, rfl⟩ := o8.len
    have s8 := sl.hide (g8).size
    have B8 := sl.hide (sl.below_none (sl.unhide B7) (g8))
    have UA8 := sl.hide ((sl.unhide UA7).kept (g8))
    have X8 := sl.hide ((sl.unhide X7).kept (g8))
    have F0_8 := sl.hide ((sl.unhide F0_7).kept (g8))
    have F1_8 := sl.hide ((sl.unhide F1_7).kept (g8))
    have U8 := sl.hide ((sl.unhide U7).kept (g8))
    have V8 := sl.hide ((sl.unhide V7).kept (g8))
    have Y8 := sl.hide o8
    clear o8 g8 B7 UA7 X7 F0_7 F1_7 U7 V7
    have pV0 := (sl.unhide V8).c0
    have pV1 := (sl.unhide V8).c1
    have pVl := (sl.unhide V8).lt
    have s9 := sl.hide (World.grownBy_alloc w8 (.cells #[(.int .i64 n1), (.slice a8_ LL1.length c8_)] 27) none).size
    have B9 := sl.hide (sl.below_none (sl.unhide B8) (World.grownBy_alloc w8 (.cells #[(.int .i64 n1), (.slice a8_ LL1.length c8_)] 27) none))
    have UA9 := sl.hide ((sl.unhide UA8).kept (World.grownBy_alloc w8 (.cells #[(.int .i64 n1), (.slice a8_ LL1.length c8_)] 27) none))
    have X9 := sl.hide ((sl.unhide X8).kept (World.grownBy_alloc w8 (.cells #[(.int .i64 n1), (.slice a8_ LL1.length c8_)] 27) none))
    have Y9 := sl.hide ((sl.unhide Y8).kept (World.grownBy_alloc w8 (.cells #[(.int .i64 n1), (.slice a8_ LL1.length c8_)] 27) none))
    have F0_9 := sl.hide ((sl.unhide F0_8).kept (World.grownBy_alloc w8 (.cells #[(.int .i64 n1), (.slice a8_ LL1.length c8_)] 27) none))
    have F1_9 := sl.hide ((sl.unhide F1_8).kept (World.grownBy_alloc w8 (.cells #[(.int .i64 n1), (.slice a8_ LL1.length c8_)] 27) none))
    have U9 := sl.hide ((sl.unhide U8).kept (World.grownBy_alloc w8 (.cells #[(.int .i64 n1), (.slice a8_ LL1.length c8_)] 27) none))
    have V9 := sl.hide ((sl.unhide V8).kept (World.grownBy_alloc w8 (.cells #[(.int .i64 n1), (.slice a8_ LL1.length c8_)] 27) none))
    have q9 : Hid ((w8.alloc (.cells #[(.int .i64 n1), (.slice a8_ LL1.length c8_)] 27)).heap.size = w8.heap.size + 1) := World.size_alloc ..
    have VY9 := sl.hide (cf.Box.new 27 w8 (.int .i64 n1) (.slice a8_ LL1.length c8_))
    clear B8 UA8 X8 Y8 F0_8 F1_8 U8 V8
    have zV0 := (sl.unhide V9).c0
    have zV1 := (sl.unhide V9).c1
    have zVY0 := (sl.unhide VY9).c0
    have zVY1 := (sl.unhide VY9).c1
    go_wp2_with fail
    refine (sl.unhide CI _ _ _ _ _ _ _ (sl.unhide X9) (sl.unhide Y9) (by have s1_ := sl.unhide s1; have q1_ := sl.unhide q1; have s2_ := sl.unhide s2; have q2_ := sl.unhide q2; have s3_ := sl.unhide s3; have s4_ := sl.unhide s4; have fk5_ := sl.unhide fk5; have s5_ := sl.unhide s5; have fl5_ := sl.unhide fl5; have s6_ := sl.unhide s6; have s7_ := sl.unhide s7; have q7_ := sl.unhide q7; have s8_ := sl.unhide s8; have s9_ := sl.unhide s9; have q9_ := sl.unhide q9; omega) (by have s1_ := sl.unhide s1; have q1_ := sl.unhide q1; have s2_ := sl.unhide s2; have q2_ := sl.unhide q2; have s3_ := sl.unhide s3; have s4_ := sl.unhide s4; have fk5_ := sl.unhide fk5; have s5_ := sl.unhide s5; have fl5_ := sl.unhide fl5; have s6_ := sl.unhide s6; have s7_ := sl.unhide s7; have q7_ := sl.unhide q7; have s8_ := sl.unhide s8; have s9_ := sl.unhide s9; have q9_ := sl.unhide q9; omega)).mono ?_; rintro e w10 ⟨u10, rfl, o10, g10⟩
    clear pV0 pV1 pVl zV0 zV1 zVY0 zVY1
    obtain ⟨a10_, c10_, rfl⟩ := o10.len
    have s10 := sl.hide (g10).size
    have B10 := sl.hide (sl.below_none (sl.unhide B9) (g10))
    have UA10 := sl.hide ((sl.unhide UA9).kept (g10))
    have X10 := sl.hide ((sl.unhide X9).kept (g10))
    have Y10 := sl.hide ((sl.unhide Y9).kept (g10))
    have F0_10 := sl.hide ((sl.unhide F0_9).kept (g10))
    have F1_10 := sl.hide ((sl.unhide F1_9).kept (g10))
    have U10 := sl.hide ((sl.unhide U9).kept (g10))
    have V10 := sl.hide ((sl.unhide V9).kept (g10))
    have VY10 := sl.hide ((sl.unhide VY9).kept (g10))
    have GA10 := sl.hide o10
    clear o10 g10 B9 UA9 X9 Y9 F0_9 F1_9 U9 V9 VY9
    have pU0 := (sl.unhide U10).c0
    have pU1 := (sl.unhide U10).c1
    have pUl := (sl.unhide U10).lt
    have s11 := sl.hide (World.grownBy_alloc w10 (.cells #[(.int .i64 N), (.slice a10_ R.length c10_)] 27) none).size
    have B11 := sl.hide (sl.below_none (sl.unhide B10) (World.grownBy_alloc w10 (.cells #[(.int .i64 N), (.slice a10_ R.length c10_)] 27) none))
    have UA11 := sl.hide ((sl.unhide UA10).kept (World.grownBy_alloc w10 (.cells #[(.int .i64 N), (.slice a10_ R.length c10_)] 27) none))
    have X11 := sl.hide ((sl.unhide X10).kept (World.grownBy_alloc w10 (.cells #[(.int .i64 N), (.slice a10_ R.length c10_)] 27) none))
    have Y11 := sl.hide ((sl.unhide Y10).kept (World.grownBy_alloc w10 (.cells #[(.int .i64 N), (.slice a10_ R.length c10_)] 27) none))
    have GA11 := sl.hide ((sl.unhide GA10).kept (World.grownBy_alloc w10 (.cells #[(.int .i64 N), (.slice a10_ R.length c10_)] 27) none))
    have F0_11 := sl.hide ((sl.unhide F0_10).kept (World.grownBy_alloc w10 (.cells #[(.int .i64 N), (.slice a10_ R.length c10_)] 27) none))
    have F1_11 := sl.hide ((sl.unhide F1_10).kept (World.grownBy_alloc w10 (.cells #[(.int .i64 N), (.slice a10_ R.length c10_)] 27) none))
    have U11 := sl.hide ((sl.unhide U10).kept (World.grownBy_alloc w10 (.cells #[(.int .i64 N), (.slice a10_ R.length c10_)] 27) none))
    have V11 := sl.hide ((sl.unhide V10).kept (World.grownBy_alloc w10 (.cells #[(.int .i64 N), (.slice a10_ R.length c10_)] 27) none))
    have VY11 := sl.hide ((sl.unhide VY10).kept (World.grownBy_alloc w10 (.cells #[(.int .i64 N), (.slice a10_ R.length c10_)] 27) none))
    have q11 : Hid ((w10.alloc (.cells #[(.int .i64 N), (.slice a10_ R.length c10_)] 27)).heap.size = w10.heap.size + 1) := World.size_alloc ..
    have G11 := sl.hide (cf.Box.new 27 w10 (.int .i64 N) (.slice a10_ R.length c10_))
    clear B10 UA10 X10 Y10 GA10 F0_10 F1_10 U10 V10 VY10
    have zU0 := (sl.unhide U11).c0
    have zU1 := (sl.unhide U11).c1
    have zG0 := (sl.unhide G11).c0
    have zG1 := (sl.unhide G11).c1
    go_wp2_with fail
    refine (cf.eqCnf _ _ N R _ hR (sl.unhide GA11).sls (sl.unhide UA11).sls).mono ?_; rintro e w12 ⟨rfl, g12⟩
    clear pU0 pU1 pUl zU0 zU1 zG0 zG1
    have s12 := sl.hide (g12).size
    have B12 := sl.hide (sl.below_none (sl.unhide B11) (g12))
    have UA12 := sl.hide ((sl.unhide UA11).kept (g12))
    have X12 := sl.hide ((sl.unhide X11).kept (g12))
    have Y12 := sl.hide ((sl.unhide Y11).kept (g12))
    have GA12 := sl.hide ((sl.unhide GA11).kept (g12))
    have F0_12 := sl.hide ((sl.unhide F0_11).kept (g12))
    have F1_12 := sl.hide ((sl.unhide F1_11).kept (g12))
    have U12 := sl.hide ((sl.unhide U11).kept (g12))
    have V12 := sl.hide ((sl.unhide V11).kept (g12))
    have VY12 := sl.hide ((sl.unhide VY11).kept (g12))
    have G12 := sl.hide ((sl.unhide G11).kept (g12))
    clear g12 B11 UA11 X11 Y11 GA11 F0_11 F1_11 U11 V11 VY11 G11
    go_upto_region 14 with fail
    go_cut [58] (fun q wx => q = .bool false ∧ Hid (w12.grownBy wx none))
    case first =>
      have T5 := sl.hide (cf.toCnf v0 n0 LL0 w12.drew hn0 (((sl.unhide S0).below (sl.unhide B12)).kept (cf.grown_drew w12 none)))
      have E5 := sl.hide (fun u6 w6 (g6 : w12.drew.grownBy w6 none) (o6 : css.OwnS w12.drew.heap.size w6.heap.size w6 u6 LL0) => cf.eqCnf _ u6 n0 LL0 w6 hn0 ((sl.unhide X12).kept (sl.grown_trans (r := none) (cf.grown_drew w12 none) g6)).sls o6.sls)
      have X5' := sl.hide (fun w6 (g6 : w12.drew.grownBy w6 none) => (sl.unhide V12).kept (sl.grown_trans (r := none) (cf.grown_drew w12 none) g6))
      have G5 := sl.hide (fun w6 w7 (g6 : w12.drew.grownBy w6 none) (g7 : w6.grownBy w7 none) => sl.grown_trans (r := none) (sl.grown_trans (r := none) (cf.grown_drew w12 none) g6) g7)
      have x0 := (sl.unhide F0_12).c0
      have x1 := (sl.unhide F0_12).c1
      have y0 := (sl.unhide V12).c0
      have y1 := (sl.unhide V12).c1
      clear UA12 X12 Y12 GA12 F0_12 F1_12 U12 V12 VY12 G12 B12
      go_region_with (first
        | (go_at_call 11; refine (sl.unhide T5).mono ?_; rintro e w6 ⟨u6, rfl, o6, g6⟩; have z0 := (sl.unhide X5' w6 g6).c0; have z1 := (sl.unhide X5' w6 g6).c1; have E6 := sl.hide (sl.unhide E5 u6 w6 g6 o6); have G6 := sl.hide (fun w7 => sl.unhide G5 w6 w7 g6); clear g6 o6)
        | (go_at_call 13; refine (sl.unhide E6).mono ?_; rintro e w7 ⟨rfl, g7⟩; have G7 := sl.hide (sl.unhide G6 w7 g7); clear g7))
      all_goals (go_wp2_with fail; go_meet; exact ⟨rfl, G7⟩)
    case rest =>
      obtain ⟨rfl, hg⟩ := hcut
      have g13 := sl.unhide hg
      have s13 := sl.hide (g13).size
      have B13 := sl.hide (sl.below_none (sl.unhide B12) (g13))
      have UA13 := sl.hide ((sl.unhide UA12).kept (g13))
      have X13 := sl.hide ((sl.unhide X12).kept (g13))
      have Y13 := sl.hide ((sl.unhide Y12).kept (g13))
      have GA13 := sl.hide ((sl.unhide GA12).kept (g13))
      have F0_13 := sl.hide ((sl.unhide F0_12).kept (g13))
      have F1_13 := sl.hide ((sl.unhide F1_12).kept (g13))
      have U13 := sl.hide ((sl.unhide U12).kept (g13))
      have V13 := sl.hide ((sl.unhide V12).kept (g13))
      have VY13 := sl.hide ((sl.unhide VY12).kept (g13))
      have G13 := sl.hide ((sl.unhide G12).kept (g13))
      clear g13 hg B12 UA12 X12 Y12 GA12 F0_12 F1_12 U12 V12 VY12 G12
      go_upto_region 16 with fail
      go_cut [63] (fun q wx => q = .bool false ∧ Hid (wc.grownBy wx none))
      case first =>
        have T5 := sl.hide (cf.toCnf v1 n1 LL1 wc.drew hn1 (((sl.unhide S1).below (sl.unhide B13)).kept (cf.grown_drew wc none)))
        have E5 := sl.hide (fun u6 w6 (g6 : wc.drew.grownBy w6 none) (o6 : css.OwnS wc.drew.heap.size w6.heap.size w6 u6 LL1) => cf.eqCnf _ u6 n1 LL1 w6 hn1 ((sl.unhide Y13).kept (sl.grown_trans (r := none) (cf.grown_drew wc none) g6)).sls o6.sls)
        have X5' := sl.hide (fun w6 (g6 : wc.drew.grownBy w6 none) => (sl.unhide VY13).kept (sl.grown_trans (r := none) (cf.grown_drew wc none) g6))
        have G5 := sl.hide (fun w6 w7 (g6 : wc.drew.grownBy w6 none) (g7 : w6.grownBy w7 none) => sl.grown_trans (r := none) (sl.grown_trans (r := none) (cf.grown_drew wc none) g6) g7)
        have x0 := (sl.unhide F1_13).c0
        have x1 := (sl.unhide F1_13).c1
        have y0 := (sl.unhide VY13).c0
        have y1 := (sl.unhide VY13).c1
        clear UA13 X13 Y13 GA13 F0_13 F1_13 U13 V13 VY13 G13 B13
        go_region_with (first
          | (go_at_call 11; refine (sl.unhide T5).mono ?_; rintro e w6 ⟨u6, rfl, o6, g6⟩; have z0 := (sl.unhide X5' w6 g6).c0; have z1 := (sl.unhide X5' w6 g6).c1; have E6 := sl.hide (sl.unhide E5 u6 w6 g6 o6); have G6 := sl.hide (fun w7 => sl.unhide G5 w6 w7 g6); clear g6 o6)
          | (go_at_call 13; refine (sl.unhide E6).mono ?_; rintro e w7 ⟨rfl, g7⟩; have G7 := sl.hide (sl.unhide G6 w7 g7); clear g7))
        all_goals (go_wp2_with fail; go_meet; exact ⟨rfl, G7⟩)
      case rest =>
        obtain ⟨rfl, hg⟩ := hcut
        have g14 := sl.unhide hg
        have s14 := sl.hide (g14).size
        have B14 := sl.hide (sl.below_none (sl.unhide B13) (g14))
        have UA14 := sl.hide ((sl.unhide UA13).kept (g14))
        have X14 := sl.hide ((sl.unhide X13).kept (g14))
        have Y14 := sl.hide ((sl.unhide Y13).kept (g14))
        have GA14 := sl.hide ((sl.unhide GA13).kept (g14))
        have F0_14 := sl.hide ((sl.unhide F0_13).kept (g14))
        have F1_14 := sl.hide ((sl.unhide F1_13).kept (g14))
        have U14 := sl.hide ((sl.unhide U13).kept (g14))
        have V14 := sl.hide ((sl.unhide V13).kept (g14))
        have VY14 := sl.hide ((sl.unhide VY13).kept (g14))
        have G14 := sl.hide ((sl.unhide G13).kept (g14))
        clear g14 hg B13 UA13 X13 Y13 GA13 F0_13 F1_13 U13 V13 VY13 G13
        have zV0 := (sl.unhide V14).c0
        have zV1 := (sl.unhide V14).c1
        go_wp2_with fail
        refine (cf.markCnf _ n0 LL0 1 _ _ _ hn0 (by omega) (by omega) (sl.unhide X14)).mono ?_; rintro e w15 ⟨rfl, o15, g15⟩
        clear zV0 zV1
        have s15 := sl.hide g15.size
        have B15 := sl.hide (css.below_outs (sl.unhide B14) (by have s1_ := sl.unhide s1; have q1_ := sl.unhide q1; have s2_ := sl.unhide s2; have q2_ := sl.unhide q2; have s3_ := sl.unhide s3; have s4_ := sl.unhide s4; have fk5_ := sl.unhide fk5; have s5_ := sl.unhide s5; have fl5_ := sl.unhide fl5; have s6_ := sl.unhide s6; have s7_ := sl.unhide s7; have q7_ := sl.unhide q7; have s8_ := sl.unhide s8; have s9_ := sl.unhide s9; have q9_ := sl.unhide q9; have s10_ := sl.unhide s10; have s11_ := sl.unhide s11; have q11_ := sl.unhide q11; have s12_ := sl.unhide s12; have s13_ := sl.unhide s13; have s14_ := sl.unhide s14; have s15_ := sl.unhide s15; omega) g15)
        have UA15 := sl.hide (css.OwnS.outs (sl.unhide UA14) g15 (by have s1_ := sl.unhide s1; have q1_ := sl.unhide q1; have s2_ := sl.unhide s2; have q2_ := sl.unhide q2; have s3_ := sl.unhide s3; have s4_ := sl.unhide s4; have fk5_ := sl.unhide fk5; have s5_ := sl.unhide s5; have fl5_ := sl.unhide fl5; have s6_ := sl.unhide s6; have s7_ := sl.unhide s7; have q7_ := sl.unhide q7; have s8_ := sl.unhide s8; have s9_ := sl.unhide s9; have q9_ := sl.unhide q9; have s10_ := sl.unhide s10; have s11_ := sl.unhide s11; have q11_ := sl.unhide q11; have s12_ := sl.unhide s12; have s13_ := sl.unhide s13; have s14_ := sl.unhide s14; have s15_ := sl.unhide s15; omega))
        have Y15 := sl.hide (css.OwnS.outs (sl.unhide Y14) g15 (by have s1_ := sl.unhide s1; have q1_ := sl.unhide q1; have s2_ := sl.unhide s2; have q2_ := sl.unhide q2; have s3_ := sl.unhide s3; have s4_ := sl.unhide s4; have fk5_ := sl.unhide fk5; have s5_ := sl.unhide s5; have fl5_ := sl.unhide fl5; have s6_ := sl.unhide s6; have s7_ := sl.unhide s7; have q7_ := sl.unhide q7; have s8_ := sl.unhide s8; have s9_ := sl.unhide s9; have q9_ := sl.unhide q9; have s10_ := sl.unhide s10; have s11_ := sl.unhide s11; have q11_ := sl.unhide q11; have s12_ := sl.unhide s12; have s13_ := sl.unhide s13; have s14_ := sl.unhide s14; have s15_ := sl.unhide s15; omega))
        have GA15 := sl.hide (css.OwnS.outs (sl.unhide GA14) g15 (by have s1_ := sl.unhide s1; have q1_ := sl.unhide q1; have s2_ := sl.unhide s2; have q2_ := sl.unhide q2; have s3_ := sl.unhide s3; have s4_ := sl.unhide s4; have fk5_ := sl.unhide fk5; have s5_ := sl.unhide s5; have fl5_ := sl.unhide fl5; have s6_ := sl.unhide s6; have s7_ := sl.unhide s7; have q7_ := sl.unhide q7; have s8_ := sl.unhide s8; have s9_ := sl.unhide s9; have q9_ := sl.unhide q9; have s10_ := sl.unhide s10; have s11_ := sl.unhide s11; have q11_ := sl.unhide q11; have s12_ := sl.unhide s12; have s13_ := sl.unhide s13; have s14_ := sl.unhide s14; have s15_ := sl.unhide s15; omega))
        have F0_15 := sl.hide ((sl.unhide F0_14).outs g15 (by have s1_ := sl.unhide s1; have q1_ := sl.unhide q1; have s2_ := sl.unhide s2; have q2_ := sl.unhide q2; have s3_ := sl.unhide s3; have s4_ := sl.unhide s4; have fk5_ := sl.unhide fk5; have s5_ := sl.unhide s5; have fl5_ := sl.unhide fl5; have s6_ := sl.unhide s6; have s7_ := sl.unhide s7; have q7_ := sl.unhide q7; have s8_ := sl.unhide s8; have s9_ := sl.unhide s9; have q9_ := sl.unhide q9; have s10_ := sl.unhide s10; have s11_ := sl.unhide s11; have q11_ := sl.unhide q11; have s12_ := sl.unhide s12; have s13_ := sl.unhide s13; have s14_ := sl.unhide s14; have s15_ := sl.unhide s15; omega))
        have F1_15 := sl.hide ((sl.unhide F1_14).outs g15 (by have s1_ := sl.unhide s1; have q1_ := sl.unhide q1; have s2_ := sl.unhide s2; have q2_ := sl.unhide q2; have s3_ := sl.unhide s3; have s4_ := sl.unhide s4; have fk5_ := sl.unhide fk5; have s5_ := sl.unhide s5; have fl5_ := sl.unhide fl5; have s6_ := sl.unhide s6; have s7_ := sl.unhide s7; have q7_ := sl.unhide q7; have s8_ := sl.unhide s8; have s9_ := sl.unhide s9; have q9_ := sl.unhide q9; have s10_ := sl.unhide s10; have s11_ := sl.unhide s11; have q11_ := sl.unhide q11; have s12_ := sl.unhide s12; have s13_ := sl.unhide s13; have s14_ := sl.unhide s14; have s15_ := sl.unhide s15; omega))
        have U15 := sl.hide ((sl.unhide U14).outs g15 (by have s1_ := sl.unhide s1; have q1_ := sl.unhide q1; have s2_ := sl.unhide s2; have q2_ := sl.unhide q2; have s3_ := sl.unhide s3; have s4_ := sl.unhide s4; have fk5_ := sl.unhide fk5; have s5_ := sl.unhide s5; have fl5_ := sl.unhide fl5; have s6_ := sl.unhide s6; have s7_ := sl.unhide s7; have q7_ := sl.unhide q7; have s8_ := sl.unhide s8; have s9_ := sl.unhide s9; have q9_ := sl.unhide q9; have s10_ := sl.unhide s10; have s11_ := sl.unhide s11; have q11_ := sl.unhide q11; have s12_ := sl.unhide s12; have s13_ := sl.unhide s13; have s14_ := sl.unhide s14; have s15_ := sl.unhide s15; omega))
        have V15 := sl.hide ((sl.unhide V14).outs g15 (by have s1_ := sl.unhide s1; have q1_ := sl.unhide q1; have s2_ := sl.unhide s2; have q2_ := sl.unhide q2; have s3_ := sl.unhide s3; have s4_ := sl.unhide s4; have fk5_ := sl.unhide fk5; have s5_ := sl.unhide s5; have fl5_ := sl.unhide fl5; have s6_ := sl.unhide s6; have s7_ := sl.unhide s7; have q7_ := sl.unhide q7; have s8_ := sl.unhide s8; have s9_ := sl.unhide s9; have q9_ := sl.unhide q9; have s10_ := sl.unhide s10; have s11_ := sl.unhide s11; have q11_ := sl.unhide q11; have s12_ := sl.unhide s12; have s13_ := sl.unhide s13; have s14_ := sl.unhide s14; have s15_ := sl.unhide s15; omega))
        have VY15 := sl.hide ((sl.unhide VY14).outs g15 (by have s1_ := sl.unhide s1; have q1_ := sl.unhide q1; have s2_ := sl.unhide s2; have q2_ := sl.unhide q2; have s3_ := sl.unhide s3; have s4_ := sl.unhide s4; have fk5_ := sl.unhide fk5; have s5_ := sl.unhide s5; have fl5_ := sl.unhide fl5; have s6_ := sl.unhide s6; have s7_ := sl.unhide s7; have q7_ := sl.unhide q7; have s8_ := sl.unhide s8; have s9_ := sl.unhide s9; have q9_ := sl.unhide q9; have s10_ := sl.unhide s10; have s11_ := sl.unhide s11; have q11_ := sl.unhide q11; have s12_ := sl.unhide s12; have s13_ := sl.unhide s13; have s14_ := sl.unhide s14; have s15_ := sl.unhide s15; omega))
        have G15 := sl.hide ((sl.unhide G14).outs g15 (by have s1_ := sl.unhide s1; have q1_ := sl.unhide q1; have s2_ := sl.unhide s2; have q2_ := sl.unhide q2; have s3_ := sl.unhide s3; have s4_ := sl.unhide s4; have fk5_ := sl.unhide fk5; have s5_ := sl.unhide s5; have fl5_ := sl.unhide fl5; have s6_ := sl.unhide s6; have s7_ := sl.unhide s7; have q7_ := sl.unhide q7; have s8_ := sl.unhide s8; have s9_ := sl.unhide s9; have q9_ := sl.unhide q9; have s10_ := sl.unhide s10; have s11_ := sl.unhide s11; have q11_ := sl.unhide q11; have s12_ := sl.unhide s12; have s13_ := sl.unhide s13; have s14_ := sl.unhide s14; have s15_ := sl.unhide s15; omega))
        clear o15 g15 X14 B14 UA14 Y14 GA14 F0_14 F1_14 U14 V14 VY14 G14
        have zVY0 := (sl.unhide VY15).c0
        have zVY1 := (sl.unhide VY15).c1
        go_wp2_with fail
        refine (cf.markCnf _ n1 LL1 (1 + (css.sumLen LL0 : Int)) _ _ _ hn1 (by omega) (by omega) (sl.unhide Y15)).mono ?_; rintro e w16 ⟨rfl, o16, g16⟩
        clear zVY0 zVY1
        have s16 := sl.hide g16.size
        have B16 := sl.hide (css.below_outs (sl.unhide B15) (by have s1_ := sl.unhide s1; have q1_ := sl.unhide q1; have s2_ := sl.unhide s2; have q2_ := sl.unhide q2; have s3_ := sl.unhide s3; have s4_ := sl.unhide s4; have fk5_ := sl.unhide fk5; have s5_ := sl.unhide s5; have fl5_ := sl.unhide fl5; have s6_ := sl.unhide s6; have s7_ := sl.unhide s7; have q7_ := sl.unhide q7; have s8_ := sl.unhide s8; have s9_ := sl.unhide s9; have q9_ := sl.unhide q9; have s10_ := sl.unhide s10; have s11_ := sl.unhide s11; have q11_ := sl.unhide q11; have s12_ := sl.unhide s12; have s13_ := sl.unhide s13; have s14_ := sl.unhide s14; have s15_ := sl.unhide s15; have s16_ := sl.unhide s16; omega) g16)
        have UA16 := sl.hide (css.OwnS.outs (sl.unhide UA15) g16 (by have s1_ := sl.unhide s1; have q1_ := sl.unhide q1; have s2_ := sl.unhide s2; have q2_ := sl.unhide q2; have s3_ := sl.unhide s3; have s4_ := sl.unhide s4; have fk5_ := sl.unhide fk5; have s5_ := sl.unhide s5; have fl5_ := sl.unhide fl5; have s6_ := sl.unhide s6; have s7_ := sl.unhide s7; have q7_ := sl.unhide q7; have s8_ := sl.unhide s8; have s9_ := sl.unhide s9; have q9_ := sl.unhide q9; have s10_ := sl.unhide s10; have s11_ := sl.unhide s11; have q11_ := sl.unhide q11; have s12_ := sl.unhide s12; have s13_ := sl.unhide s13; have s14_ := sl.unhide s14; have s15_ := sl.unhide s15; have s16_ := sl.unhide s16; omega))
        have GA16 := sl.hide (css.OwnS.outs (sl.unhide GA15) g16 (by have s1_ := sl.unhide s1; have q1_ := sl.unhide q1; have s2_ := sl.unhide s2; have q2_ := sl.unhide q2; have s3_ := sl.unhide s3; have s4_ := sl.unhide s4; have fk5_ := sl.unhide fk5; have s5_ := sl.unhide s5; have fl5_ := sl.unhide fl5; have s6_ := sl.unhide s6; have s7_ := sl.unhide s7; have q7_ := sl.unhide q7; have s8_ := sl.unhide s8; have s9_ := sl.unhide s9; have q9_ := sl.unhide q9; have s10_ := sl.unhide s10; have s11_ := sl.unhide s11; have q11_ := sl.unhide q11; have s12_ := sl.unhide s12; have s13_ := sl.unhide s13; have s14_ := sl.unhide s14; have s15_ := sl.unhide s15; have s16_ := sl.unhide s16; omega))
        have F0_16 := sl.hide ((sl.unhide F0_15).outs g16 (by have s1_ := sl.unhide s1; have q1_ := sl.unhide q1; have s2_ := sl.unhide s2; have q2_ := sl.unhide q2; have s3_ := sl.unhide s3; have s4_ := sl.unhide s4; have fk5_ := sl.unhide fk5; have s5_ := sl.unhide s5; have fl5_ := sl.unhide fl5; have s6_ := sl.unhide s6; have s7_ := sl.unhide s7; have q7_ := sl.unhide q7; have s8_ := sl.unhide s8; have s9_ := sl.unhide s9; have q9_ := sl.unhide q9; have s10_ := sl.unhide s10; have s11_ := sl.unhide s11; have q11_ := sl.unhide q11; have s12_ := sl.unhide s12; have s13_ := sl.unhide s13; have s14_ := sl.unhide s14; have s15_ := sl.unhide s15; have s16_ := sl.unhide s16; omega))
        have F1_16 := sl.hide ((sl.unhide F1_15).outs g16 (by have s1_ := sl.unhide s1; have q1_ := sl.unhide q1; have s2_ := sl.unhide s2; have q2_ := sl.unhide q2; have s3_ := sl.unhide s3; have s4_ := sl.unhide s4; have fk5_ := sl.unhide fk5; have s5_ := sl.unhide s5; have fl5_ := sl.unhide fl5; have s6_ := sl.unhide s6; have s7_ := sl.unhide s7; have q7_ := sl.unhide q7; have s8_ := sl.unhide s8; have s9_ := sl.unhide s9; have q9_ := sl.unhide q9; have s10_ := sl.unhide s10; have s11_ := sl.unhide s11; have q11_ := sl.unhide q11; have s12_ := sl.unhide s12; have s13_ := sl.unhide s13; have s14_ := sl.unhide s14; have s15_ := sl.unhide s15; have s16_ := sl.unhide s16; omega))
        have U16 := sl.hide ((sl.unhide U15).outs g16 (by have s1_ := sl.unhide s1; have q1_ := sl.unhide q1; have s2_ := sl.unhide s2; have q2_ := sl.unhide q2; have s3_ := sl.unhide s3; have s4_ := sl.unhide s4; have fk5_ := sl.unhide fk5; have s5_ := sl.unhide s5; have fl5_ := sl.unhide fl5; have s6_ := sl.unhide s6; have s7_ := sl.unhide s7; have q7_ := sl.unhide q7; have s8_ := sl.unhide s8; have s9_ := sl.unhide s9; have q9_ := sl.unhide q9; have s10_ := sl.unhide s10; have s11_ := sl.unhide s11; have q11_ := sl.unhide q11; have s12_ := sl.unhide s12; have s13_ := sl.unhide s13; have s14_ := sl.unhide s14; have s15_ := sl.unhide s15; have s16_ := sl.unhide s16; omega))
        have V16 := sl.hide ((sl.unhide V15).outs g16 (by have s1_ := sl.unhide s1; have q1_ := sl.unhide q1; have s2_ := sl.unhide s2; have q2_ := sl.unhide q2; have s3_ := sl.unhide s3; have s4_ := sl.unhide s4; have fk5_ := sl.unhide fk5; have s5_ := sl.unhide s5; have fl5_ := sl.unhide fl5; have s6_ := sl.unhide s6; have s7_ := sl.unhide s7; have q7_ := sl.unhide q7; have s8_ := sl.unhide s8; have s9_ := sl.unhide s9; have q9_ := sl.unhide q9; have s10_ := sl.unhide s10; have s11_ := sl.unhide s11; have q11_ := sl.unhide q11; have s12_ := sl.unhide s12; have s13_ := sl.unhide s13; have s14_ := sl.unhide s14; have s15_ := sl.unhide s15; have s16_ := sl.unhide s16; omega))
        have VY16 := sl.hide ((sl.unhide VY15).outs g16 (by have s1_ := sl.unhide s1; have q1_ := sl.unhide q1; have s2_ := sl.unhide s2; have q2_ := sl.unhide q2; have s3_ := sl.unhide s3; have s4_ := sl.unhide s4; have fk5_ := sl.unhide fk5; have s5_ := sl.unhide s5; have fl5_ := sl.unhide fl5; have s6_ := sl.unhide s6; have s7_ := sl.unhide s7; have q7_ := sl.unhide q7; have s8_ := sl.unhide s8; have s9_ := sl.unhide s9; have q9_ := sl.unhide q9; have s10_ := sl.unhide s10; have s11_ := sl.unhide s11; have q11_ := sl.unhide q11; have s12_ := sl.unhide s12; have s13_ := sl.unhide s13; have s14_ := sl.unhide s14; have s15_ := sl.unhide s15; have s16_ := sl.unhide s16; omega))
        have G16 := sl.hide ((sl.unhide G15).outs g16 (by have s1_ := sl.unhide s1; have q1_ := sl.unhide q1; have s2_ := sl.unhide s2; have q2_ := sl.unhide q2; have s3_ := sl.unhide s3; have s4_ := sl.unhide s4; have fk5_ := sl.unhide fk5; have s5_ := sl.unhide s5; have fl5_ := sl.unhide fl5; have s6_ := sl.unhide s6; have s7_ := sl.unhide s7; have q7_ := sl.unhide q7; have s8_ := sl.unhide s8; have s9_ := sl.unhide s9; have q9_ := sl.unhide q9; have s10_ := sl.unhide s10; have s11_ := sl.unhide s11; have q11_ := sl.unhide q11; have s12_ := sl.unhide s12; have s13_ := sl.unhide s13; have s14_ := sl.unhide s14; have s15_ := sl.unhide s15; have s16_ := sl.unhide s16; omega))
        clear o16 g16 Y15 B15 UA15 GA15 F0_15 F1_15 U15 V15 VY15 G15
        have zU0 := (sl.unhide U16).c0
        have zU1 := (sl.unhide U16).c1
        have zG0 := (sl.unhide G16).c0
        have zG1 := (sl.unhide G16).c1
        go_wp2_with fail
        refine (cf.eqCnf _ _ N R _ hR (sl.unhide GA16).sls (sl.unhide UA16).sls).mono ?_; rintro e w17 ⟨rfl, g17⟩
        clear zU0 zU1 zG0 zG1
        have s17 := sl.hide (g17).size
        have B17 := sl.hide (sl.below_none (sl.unhide B16) (g17))
        have UA17 := sl.hide ((sl.unhide UA16).kept (g17))
        have GA17 := sl.hide ((sl.unhide GA16).kept (g17))
        have F0_17 := sl.hide ((sl.unhide F0_16).kept (g17))
        have F1_17 := sl.hide ((sl.unhide F1_16).kept (g17))
        have U17 := sl.hide ((sl.unhide U16).kept (g17))
        have V17 := sl.hide ((sl.unhide V16).kept (g17))
        have VY17 := sl.hide ((sl.unhide VY16).kept (g17))
        have G17 := sl.hide ((sl.unhide G16).kept (g17))
        clear g17 B16 UA16 GA16 F0_16 F1_16 U16 V16 VY16 G16
        have zG0 := (sl.unhide G17).c0
        have zG1 := (sl.unhide G17).c1
        go_wp2_with fail
        refine (cf.markCnf _ N R 1 _ _ _ hR (by omega) (by omega) (sl.unhide GA17)).mono ?_; rintro e w18 ⟨rfl, o18, g18⟩
        clear zG0 zG1
        have s18 := sl.hide g18.size
        have B18 := sl.hide (css.below_outs (sl.unhide B17) (by have s1_ := sl.unhide s1; have q1_ := sl.unhide q1; have s2_ := sl.unhide s2; have q2_ := sl.unhide q2; have s3_ := sl.unhide s3; have s4_ := sl.unhide s4; have fk5_ := sl.unhide fk5; have s5_ := sl.unhide s5; have fl5_ := sl.unhide fl5; have s6_ := sl.unhide s6; have s7_ := sl.unhide s7; have q7_ := sl.unhide q7; have s8_ := sl.unhide s8; have s9_ := sl.unhide s9; have q9_ := sl.unhide q9; have s10_ := sl.unhide s10; have s11_ := sl.unhide s11; have q11_ := sl.unhide q11; have s12_ := sl.unhide s12; have s13_ := sl.unhide s13; have s14_ := sl.unhide s14; have s15_ := sl.unhide s15; have s16_ := sl.unhide s16; have s17_ := sl.unhide s17; have s18_ := sl.unhide s18; omega) g18)
        have UA18 := sl.hide (css.OwnS.outs (sl.unhide UA17) g18 (by have s1_ := sl.unhide s1; have q1_ := sl.unhide q1; have s2_ := sl.unhide s2; have q2_ := sl.unhide q2; have s3_ := sl.unhide s3; have s4_ := sl.unhide s4; have fk5_ := sl.unhide fk5; have s5_ := sl.unhide s5; have fl5_ := sl.unhide fl5; have s6_ := sl.unhide s6; have s7_ := sl.unhide s7; have q7_ := sl.unhide q7; have s8_ := sl.unhide s8; have s9_ := sl.unhide s9; have q9_ := sl.unhide q9; have s10_ := sl.unhide s10; have s11_ := sl.unhide s11; have q11_ := sl.unhide q11; have s12_ := sl.unhide s12; have s13_ := sl.unhide s13; have s14_ := sl.unhide s14; have s15_ := sl.unhide s15; have s16_ := sl.unhide s16; have s17_ := sl.unhide s17; have s18_ := sl.unhide s18; omega))
        have F0_18 := sl.hide ((sl.unhide F0_17).outs g18 (by have s1_ := sl.unhide s1; have q1_ := sl.unhide q1; have s2_ := sl.unhide s2; have q2_ := sl.unhide q2; have s3_ := sl.unhide s3; have s4_ := sl.unhide s4; have fk5_ := sl.unhide fk5; have s5_ := sl.unhide s5; have fl5_ := sl.unhide fl5; have s6_ := sl.unhide s6; have s7_ := sl.unhide s7; have q7_ := sl.unhide q7; have s8_ := sl.unhide s8; have s9_ := sl.unhide s9; have q9_ := sl.unhide q9; have s10_ := sl.unhide s10; have s11_ := sl.unhide s11; have q11_ := sl.unhide q11; have s12_ := sl.unhide s12; have s13_ := sl.unhide s13; have s14_ := sl.unhide s14; have s15_ := sl.unhide s15; have s16_ := sl.unhide s16; have s17_ := sl.unhide s17; have s18_ := sl.unhide s18; omega))
        have F1_18 := sl.hide ((sl.unhide F1_17).outs g18 (by have s1_ := sl.unhide s1; have q1_ := sl.unhide q1; have s2_ := sl.unhide s2; have q2_ := sl.unhide q2; have s3_ := sl.unhide s3; have s4_ := sl.unhide s4; have fk5_ := sl.unhide fk5; have s5_ := sl.unhide s5; have fl5_ := sl.unhide fl5; have s6_ := sl.unhide s6; have s7_ := sl.unhide s7; have q7_ := sl.unhide q7; have s8_ := sl.unhide s8; have s9_ := sl.unhide s9; have q9_ := sl.unhide q9; have s10_ := sl.unhide s10; have s11_ := sl.unhide s11; have q11_ := sl.unhide q11; have s12_ := sl.unhide s12; have s13_ := sl.unhide s13; have s14_ := sl.unhide s14; have s15_ := sl.unhide s15; have s16_ := sl.unhide s16; have s17_ := sl.unhide s17; have s18_ := sl.unhide s18; omega))
        have U18 := sl.hide ((sl.unhide U17).outs g18 (by have s1_ := sl.unhide s1; have q1_ := sl.unhide q1; have s2_ := sl.unhide s2; have q2_ := sl.unhide q2; have s3_ := sl.unhide s3; have s4_ := sl.unhide s4; have fk5_ := sl.unhide fk5; have s5_ := sl.unhide s5; have fl5_ := sl.unhide fl5; have s6_ := sl.unhide s6; have s7_ := sl.unhide s7; have q7_ := sl.unhide q7; have s8_ := sl.unhide s8; have s9_ := sl.unhide s9; have q9_ := sl.unhide q9; have s10_ := sl.unhide s10; have s11_ := sl.unhide s11; have q11_ := sl.unhide q11; have s12_ := sl.unhide s12; have s13_ := sl.unhide s13; have s14_ := sl.unhide s14; have s15_ := sl.unhide s15; have s16_ := sl.unhide s16; have s17_ := sl.unhide s17; have s18_ := sl.unhide s18; omega))
        have V18 := sl.hide ((sl.unhide V17).outs g18 (by have s1_ := sl.unhide s1; have q1_ := sl.unhide q1; have s2_ := sl.unhide s2; have q2_ := sl.unhide q2; have s3_ := sl.unhide s3; have s4_ := sl.unhide s4; have fk5_ := sl.unhide fk5; have s5_ := sl.unhide s5; have fl5_ := sl.unhide fl5; have s6_ := sl.unhide s6; have s7_ := sl.unhide s7; have q7_ := sl.unhide q7; have s8_ := sl.unhide s8; have s9_ := sl.unhide s9; have q9_ := sl.unhide q9; have s10_ := sl.unhide s10; have s11_ := sl.unhide s11; have q11_ := sl.unhide q11; have s12_ := sl.unhide s12; have s13_ := sl.unhide s13; have s14_ := sl.unhide s14; have s15_ := sl.unhide s15; have s16_ := sl.unhide s16; have s17_ := sl.unhide s17; have s18_ := sl.unhide s18; omega))
        have VY18 := sl.hide ((sl.unhide VY17).outs g18 (by have s1_ := sl.unhide s1; have q1_ := sl.unhide q1; have s2_ := sl.unhide s2; have q2_ := sl.unhide q2; have s3_ := sl.unhide s3; have s4_ := sl.unhide s4; have fk5_ := sl.unhide fk5; have s5_ := sl.unhide s5; have fl5_ := sl.unhide fl5; have s6_ := sl.unhide s6; have s7_ := sl.unhide s7; have q7_ := sl.unhide q7; have s8_ := sl.unhide s8; have s9_ := sl.unhide s9; have q9_ := sl.unhide q9; have s10_ := sl.unhide s10; have s11_ := sl.unhide s11; have q11_ := sl.unhide q11; have s12_ := sl.unhide s12; have s13_ := sl.unhide s13; have s14_ := sl.unhide s14; have s15_ := sl.unhide s15; have s16_ := sl.unhide s16; have s17_ := sl.unhide s17; have s18_ := sl.unhide s18; omega))
        have G18 := sl.hide ((sl.unhide G17).outs g18 (by have s1_ := sl.unhide s1; have q1_ := sl.unhide q1; have s2_ := sl.unhide s2; have q2_ := sl.unhide q2; have s3_ := sl.unhide s3; have s4_ := sl.unhide s4; have fk5_ := sl.unhide fk5; have s5_ := sl.unhide s5; have fl5_ := sl.unhide fl5; have s6_ := sl.unhide s6; have s7_ := sl.unhide s7; have q7_ := sl.unhide q7; have s8_ := sl.unhide s8; have s9_ := sl.unhide s9; have q9_ := sl.unhide q9; have s10_ := sl.unhide s10; have s11_ := sl.unhide s11; have q11_ := sl.unhide q11; have s12_ := sl.unhide s12; have s13_ := sl.unhide s13; have s14_ := sl.unhide s14; have s15_ := sl.unhide s15; have s16_ := sl.unhide s16; have s17_ := sl.unhide s17; have s18_ := sl.unhide s18; omega))
        have GA18 := sl.hide o18
        clear o18 g18 GA17 B17 UA17 F0_17 F1_17 U17 V17 VY17 G17
        have zG0 := (sl.unhide G18).c0
        have zG1 := (sl.unhide G18).c1
        go_wp2_with fail
        refine (cf.heldCnf _ N R 1 _ hR (by decide) (by decide) (sl.unhide GA18).sls).mono ?_; rintro e w19 ⟨rfl, g19⟩
        clear zG0 zG1
        have s19 := sl.hide (g19).size
        have B19 := sl.hide (sl.below_none (sl.unhide B18) (g19))
        have UA19 := sl.hide ((sl.unhide UA18).kept (g19))
        have GA19 := sl.hide ((sl.unhide GA18).kept (g19))
        have F0_19 := sl.hide ((sl.unhide F0_18).kept (g19))
        have F1_19 := sl.hide ((sl.unhide F1_18).kept (g19))
        have U19 := sl.hide ((sl.unhide U18).kept (g19))
        have V19 := sl.hide ((sl.unhide V18).kept (g19))
        have VY19 := sl.hide ((sl.unhide VY18).kept (g19))
        have G19 := sl.hide ((sl.unhide G18).kept (g19))
        clear g19 B18 UA18 GA18 F0_18 F1_18 U18 V18 VY18 G18
        go_upto_region 31 with fail
        go_cut [15, 16] (fun p q wx => ∃ c ya yc lo hi, p = .pointer (some ⟨c, 0, none⟩) ∧ q = .bool b ∧ Hid (jn.Fin w19 wx c lo hi N (.slice ya R.length yc) R))
        case first =>
          have T0 := sl.hide (fun w1 (g : w19.grownBy w1 none) => cf.toCnf v0 n0 LL0 w1 hn0 (((sl.unhide S0).below (sl.unhide B19)).kept g))
          have T1 := sl.hide (fun w1 (g : w19.grownBy w1 none) => cf.toCnf v1 n1 LL1 w1 hn1 (((sl.unhide S1).below (sl.unhide B19)).kept g))
          have CK := sl.hide (fun (w1 : World) (g : w19.grownBy w1 none) => And.intro ((sl.unhide F0_19).kept g).c0 (And.intro ((sl.unhide F0_19).kept g).c1 (And.intro ((sl.unhide F1_19).kept g).c0 ((sl.unhide F1_19).kept g).c1)))
          have x0 := (sl.unhide F0_19).c0
          have x1 := (sl.unhide F0_19).c1
          have y0 := (sl.unhide F1_19).c0
          have y1 := (sl.unhide F1_19).c1
          have e0 := World.new_ne w19 _ x0
          have e1 := World.new_ne w19 _ y0
          have GB := sl.hide (cf.grown_drew w19 none)
          have GA := sl.hide (sl.grown_trans (r := none) (World.grownBy_alloc w19 (.cells #[.int .i64 0, .slice none 0 0] 27) none) (cf.grown_drew (w19.alloc (.cells #[.int .i64 0, .slice none 0 0] 27)) none))
          have BN := sl.hide ((cf.Box.new 27 w19 (.int .i64 0) (.slice none 0 0)).kept (cf.grown_drew (w19.alloc (.cells #[.int .i64 0, .slice none 0 0] 27)) none))
          clear UA19 GA19 F0_19 F1_19 U19 V19 VY19 G19 B19
          go_region_held3 (fun w' => w'.cell? ⟨w.heap.size, 0, none⟩ = some (.int .i64 n0) ∧ w'.cell? ⟨w.heap.size, 1, none⟩ = some v0 ∧ w'.cell? ⟨w.heap.size + 1, 0, none⟩ = some (.int .i64 n1) ∧ w'.cell? ⟨w.heap.size + 1, 1, none⟩ = some v1) (go_keep) (first
            | (go_at_call_of 11 (Value.agg #[Value.int IntKind.i64 n0, v0]); (first | refine (sl.unhide T0 _ (sl.unhide GB)).mono ?_ | refine (sl.unhide T0 _ (sl.unhide GA)).mono ?_); rintro e w6 ⟨p6, rfl, o6, g6⟩; have G6 : Hid (w19.grownBy w6 none) := (by first | exact sl.grown_trans (r := none) (sl.unhide GB) g6 | exact sl.grown_trans (r := none) (sl.unhide GA) g6); obtain ⟨k1, k2, k3, k4⟩ := sl.unhide CK w6 (sl.unhide G6); have m1 := World.new_ne w6 _ k1; have m2 := World.new_ne w6 _ k3; (try (have BX6 := sl.hide ((sl.unhide BN).kept g6))); have O6 := sl.hide o6; clear o6 g6)
            | (go_at_call_of 11 (Value.agg #[Value.int IntKind.i64 n1, v1]); (first | refine (sl.unhide T1 _ (sl.unhide G6)).mono ?_ | refine (sl.unhide T1 _ (sl.grown_trans (r := none) (sl.unhide G6) (World.grownBy_alloc w6 (.cells #[.int .i64 0, .slice none 0 0] 27) none))).mono ?_); rintro e w7 ⟨p7, rfl, o7, g7⟩; have GG : Hid (w6.grownBy w7 none) := (by first | exact g7 | exact sl.grown_trans (r := none) (World.grownBy_alloc w6 (.cells #[.int .i64 0, .slice none 0 0] 27) none) g7); have G7 := sl.hide (sl.grown_trans (r := none) (sl.unhide G6) (sl.unhide GG)); obtain ⟨k5, k6, k7, k8⟩ := sl.unhide CK w7 (sl.unhide G7); have m3 := World.new_ne w7 _ k5; have m4 := World.new_ne w7 _ k7; (first | (have BX7 := sl.hide ((sl.unhide BX6).kept g7)) | (have BX7 := sl.hide ((cf.Box.new 27 w6 (.int .i64 0) (.slice none 0 0)).kept g7)) | skip); have O67 := sl.hide ((sl.unhide O6).kept (sl.unhide GG)); have O7 := sl.hide o7; have s7 := sl.hide (sl.unhide GG).size; clear o7 g7)
            | (go_at_call 27; (first | refine (sl.unhide CI _ _ _ _ _ _ _ (sl.unhide O67) (sl.unhide O7) (sl.unhide s7) (Nat.le_refl _)).mono ?_ | refine (sl.unhide CI _ _ _ _ _ _ _ ((sl.unhide O67).kept (World.grownBy_alloc w7 (.cells #[.int .i64 0, .slice none 0 0] 27) none)) ((sl.unhide O7).kept (World.grownBy_alloc w7 (.cells #[.int .i64 0, .slice none 0 0] 27) none)) (by rw [World.size_alloc]; have := sl.unhide s7; omega) (by rw [World.size_alloc]; omega)).mono ?_); rintro e w8 ⟨p8, rfl, o8, g8⟩; obtain ⟨qa, qc, rfl⟩ := o8.len; have GH : Hid (w7.grownBy w8 none) := (by first | exact g8 | exact sl.grown_trans (r := none) (World.grownBy_alloc w7 (.cells #[.int .i64 0, .slice none 0 0] 27) none) g8); have G8 := sl.hide (sl.grown_trans (r := none) (sl.unhide G7) (sl.unhide GH)); obtain ⟨k9, ka, kb, kc⟩ := sl.unhide CK w8 (sl.unhide G8); have m5 := World.new_ne w8 _ k9; have m6 := World.new_ne w8 _ kb; (first | (have BX8 := sl.hide (And.intro ((sl.unhide BX7).kept g8) (sl.unhide BX7).lt)) | (have BX8 := sl.hide (And.intro ((cf.Box.new 27 w7 (.int .i64 0) (.slice none 0 0)).kept g8) (cf.Box.new 27 w7 (.int .i64 0) (.slice none 0 0)).lt)) | skip); (try (have t0 := (sl.unhide BX8).1.c0; have t1 := (sl.unhide BX8).1.c1; have t2 := (sl.unhide BX8).1.f 0; have t3 := (sl.unhide BX8).1.f 1)); have O8 := sl.hide o8; clear o8 g8))
          all_goals
            go_wp2_with fail
            go_meet
            first
              | exact ⟨_, qa, qc, _, _, rfl, rfl, jn.finB (sl.unhide O8) (sl.unhide G8) (sl.unhide G7).size⟩
              | exact ⟨_, qa, qc, _, _, rfl, rfl, jn.finA (sl.unhide BX8).1 (sl.unhide O8) (sl.unhide G8) (Nat.le_refl _) ((sl.unhide G7).size) (sl.unhide BX8).2⟩
              | exact ⟨_, qa, qc, _, _, rfl, rfl, jn.finA (sl.unhide BX8).1 (sl.unhide O8) (sl.unhide G8) (Nat.le_refl _) ((by rw [World.size_alloc]; exact Nat.le_succ_of_le (sl.unhide G7).size)) (sl.unhide BX8).2⟩
              | exact ⟨_, qa, qc, _, _, rfl, rfl, jn.finA (sl.unhide BX8).1 (sl.unhide O8) (sl.unhide G8) ((sl.unhide G6).size) ((sl.unhide G7).size) (sl.unhide BX8).2⟩
              | exact ⟨_, qa, qc, _, _, rfl, rfl, jn.finA (sl.unhide BX8).1 (sl.unhide O8) (sl.unhide G8) ((sl.unhide G6).size) ((by rw [World.size_alloc]; exact Nat.le_succ_of_le (sl.unhide G7).size)) (sl.unhide BX8).2⟩
              | exact ⟨_, qa, qc, _, _, rfl, rfl, jn.finA (sl.unhide BX8).1 (sl.unhide O8) (sl.unhide G8) ((sl.unhide G7).size) ((sl.unhide G7).size) (sl.unhide BX8).2⟩
              | exact ⟨_, qa, qc, _, _, rfl, rfl, jn.finA (sl.unhide BX8).1 (sl.unhide O8) (sl.unhide G8) ((sl.unhide G7).size) ((by rw [World.size_alloc]; exact Nat.le_succ_of_le (sl.unhide G7).size)) (sl.unhide BX8).2⟩
        case rest =>
          obtain ⟨c20, ya20, yc20, lo20, hi20, rfl, rfl, hfin⟩ := hcut
          obtain ⟨fb, fo, g20, fl1, fl2, fl3, fl4⟩ := sl.unhide hfin
          have HA20 := sl.hide fo
          have H20 := sl.hide fb
          have fl20 := sl.hide (And.intro fl1 (And.intro fl2 (And.intro fl3 fl4)))
          have fk20 := sl.hide fb.lt
          have s20 := sl.hide (g20).size
          have B20 := sl.hide (sl.below_none (sl.unhide B19) (g20))
          have UA20 := sl.hide ((sl.unhide UA19).kept (g20))
          have GA20 := sl.hide ((sl.unhide GA19).kept (g20))
          have F0_20 := sl.hide ((sl.unhide F0_19).kept (g20))
          have F1_20 := sl.hide ((sl.unhide F1_19).kept (g20))
          have U20 := sl.hide ((sl.unhide U19).kept (g20))
          have V20 := sl.hide ((sl.unhide V19).kept (g20))
          have VY20 := sl.hide ((sl.unhide VY19).kept (g20))
          have G20 := sl.hide ((sl.unhide G19).kept (g20))
          clear g20 hfin fb fo fl1 fl2 fl3 fl4 B19 UA19 GA19 F0_19 F1_19 U19 V19 VY19 G19
          have zU0 := (sl.unhide U20).c0
          have zU1 := (sl.unhide U20).c1
          have zH0 := (sl.unhide H20).c0
          have zH1 := (sl.unhide H20).c1
          go_wp2_with fail
          refine (cf.eqCnf _ _ N R _ hR (sl.unhide HA20).sls (sl.unhide UA20).sls).mono ?_; rintro e w21 ⟨rfl, g21⟩
          clear zU0 zU1 zH0 zH1
          have s21 := sl.hide (g21).size
          have B21 := sl.hide (sl.below_none (sl.unhide B20) (g21))
          have UA21 := sl.hide ((sl.unhide UA20).kept (g21))
          have GA21 := sl.hide ((sl.unhide GA20).kept (g21))
          have HA21 := sl.hide ((sl.unhide HA20).kept (g21))
          have F0_21 := sl.hide ((sl.unhide F0_20).kept (g21))
          have F1_21 := sl.hide ((sl.unhide F1_20).kept (g21))
          have U21 := sl.hide ((sl.unhide U20).kept (g21))
          have V21 := sl.hide ((sl.unhide V20).kept (g21))
          have VY21 := sl.hide ((sl.unhide VY20).kept (g21))
          have G21 := sl.hide ((sl.unhide G20).kept (g21))
          have H21 := sl.hide ((sl.unhide H20).kept (g21))
          clear g21 B20 UA20 GA20 HA20 F0_20 F1_20 U20 V20 VY20 G20 H20
          have zG0 := (sl.unhide G21).c0
          have zG1 := (sl.unhide G21).c1
          go_wp2_with fail
          refine (cf.heldCnf _ N R 1 _ hR (by decide) (by decide) (sl.unhide GA21).sls).mono ?_; rintro e w22 ⟨rfl, g22⟩
          clear zG0 zG1
          have s22 := sl.hide (g22).size
          have B22 := sl.hide (sl.below_none (sl.unhide B21) (g22))
          have UA22 := sl.hide ((sl.unhide UA21).kept (g22))
          have GA22 := sl.hide ((sl.unhide GA21).kept (g22))
          have HA22 := sl.hide ((sl.unhide HA21).kept (g22))
          have F0_22 := sl.hide ((sl.unhide F0_21).kept (g22))
          have F1_22 := sl.hide ((sl.unhide F1_21).kept (g22))
          have U22 := sl.hide ((sl.unhide U21).kept (g22))
          have V22 := sl.hide ((sl.unhide V21).kept (g22))
          have VY22 := sl.hide ((sl.unhide VY21).kept (g22))
          have G22 := sl.hide ((sl.unhide G21).kept (g22))
          have H22 := sl.hide ((sl.unhide H21).kept (g22))
          clear g22 B21 UA21 GA21 HA21 F0_21 F1_21 U21 V21 VY21 G21 H21
          go_wp2_with fail
          go_ret
          exact ⟨rfl, sl.unhide B22⟩

/-! ### the row's step (the guide's own frame) -/
set_option maxRecDepth 100000 in
theorem lifted (os : Os) (started : os.Started) (H : Type) (enc : TypeId × Value → H) :
    ReturnsInHanded {} Try.checked os 8 .any (Rows.fnExactCnfJoinSpec.pre6 enc Try.prog Try.f8 Rows.fnExactCnfJoinRow.domain false) (Rows.fnExactCnfJoinSpec.post enc Try.prog Try.f8 false true false false) := by
  refine returnsInHanded_of_change (C := Try.checked) own started (by kernel_rfl) Try.func8
    (ChangeSpec.witness6 (enc := enc) (C := Try.checked) false ⟨#[], #[.agg #[.int .i64 0, .slice none 0 0], .agg #[.int .i64 0, .slice none 0 0]], []⟩ 8 (by kernel_rfl) (by kernel_rfl) (by kernel_rfl) (by kernel_rfl)) ?_
  intro W base args ds gs before hval0 hW hcnd _
  have hval : ∀ (j : Nat) t v, Try.f8.params[j]? = some t → args[j]? = some v → Value.okWide Try.prog W .any base t v := hval0
  have hW' := hW
  obtain ⟨p, q, hA0, hV, rfl, hfz, hnd⟩ := hW
  have hA : DataW.TrodAll enc Try.prog W 0 (fun _ => true) true Try.f8.params.toList args.toList ds p := hA0
  rw [Try.params8] at hA hval
  obtain ⟨x0, vs0, d0, ds0, p0, q0, hargs, rfl, rfl, h0, r0⟩ := trodAll_cons hA
  obtain ⟨x1, vs1, d1, ds1, p1, q1, rfl, rfl, rfl, h1, r1⟩ := trodAll_cons r0
  obtain ⟨rfl, rfl, rfl⟩ := trodAll_nil r1
  obtain rfl : args = #[x0, x1] := by cases args; simp_all
  obtain ⟨rfl, rfl⟩ := trodVars_none hV
  obtain ⟨cs0, rfl, _⟩ := okWide_struct Try.underlying24 (hval 0 24 _ rfl rfl)
  have k0 := h0
  have lt0 : ∀ x ∈ p0, x.block < W.heap.size := by obtain ⟨m, hm⟩ := k0; exact DataW.trod_lt m _ _ _ hm
  obtain ⟨n0, v0, LL0, e0, f0, w0⟩ : ∃ n v LL, cs0 = #[.int .i64 n, v] ∧ (Lit.int .i64 n).wf = true ∧ row.IsRows W v LL := by
    obtain ⟨fuel, hf⟩ := h0
    obtain ⟨n, v, LL, e, hw, hv⟩ := row.open_cnf hf
    refine ⟨n, v, LL, ?_, hw, hv⟩
    cases cs0
    simpa [Value.cells] using e
  subst e0
  obtain ⟨cs1, rfl, _⟩ := okWide_struct Try.underlying24 (hval 1 24 _ rfl rfl)
  have k1 := h1
  have lt1 : ∀ x ∈ p1, x.block < W.heap.size := by obtain ⟨m, hm⟩ := k1; exact DataW.trod_lt m _ _ _ hm
  obtain ⟨n1, v1, LL1, e1, f1, w1⟩ : ∃ n v LL, cs1 = #[.int .i64 n, v] ∧ (Lit.int .i64 n).wf = true ∧ row.IsRows W v LL := by
    obtain ⟨fuel, hf⟩ := h1
    obtain ⟨n, v, LL, e, hw, hv⟩ := row.open_cnf hf
    refine ⟨n, v, LL, ?_, hw, hv⟩
    cases cs1
    simpa [Value.cells] using e
  subst e1
  clear hA0 hval0
  refine (walk n0 v0 LL0 n1 v1 LL1 W f0 w0 f1 w1).mono fun e W' ⟨he, bel⟩ => ?_
  subst he
  exact ⟨_, rfl, _, _, _, [], _, [], hW', trodAll_mk1 (shut_bool Try.underlying4 _), (trodAll_cons_mk (Below.trod laidOut (by kernel_rfl) (of_decide_eq_true (by kernel_rfl)) k0 bel lt0) (trodAll_cons_mk (Below.trod laidOut (by kernel_rfl) (of_decide_eq_true (by kernel_rfl)) k1 bel lt1) trodAll_mk0)), rfl, bel.frame _, fun h => by cases h⟩

theorem over : Rows.fnExactCnfJoinRow.holds Try.pinned (OpenSpec.ofChange Rows.fnExactCnfJoinSpec) :=
  OpenClaim.holds_of_wide 8 Try.f8 rfl rfl rfl rfl rfl rfl rfl ⟨rfl, rfl, rfl, rfl, rfl⟩ rfl rfl rfl rfl rfl (by kernel_rfl) Try.func8 (by kernel_rfl)
    (of_decide_eq_true (by kernel_rfl)) (by unfold Func.isWrapper; first | (rw [if_pos (by decide +kernel)]; kernel_rfl) | (rw [if_neg (by decide +kernel)]; exact ⟨rfl, rfl⟩))
    (fun os started H enc _ => lifted os started H enc)

/-- the statement -/
theorem proved : Rows.FnExactCnfJoinSaid := over
#print axioms proved
end Go.Proofs.Ytogidhekdpgggaa.fnExactCnfJoin
