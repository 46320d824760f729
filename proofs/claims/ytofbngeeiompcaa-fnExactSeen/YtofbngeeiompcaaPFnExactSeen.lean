/- At every list of ops, every list of texts and every number the law FnExactSeen returns true: Seen answers as the model, writes into no argument and owns its answer; no condition. -/
import Derived.Test.YtofbngeeiompcaaRows
import Derived.Test.YtofbngeeiompcaaVu
import Derived.WalkKit
import Derived.ProofKit
import Derived.OpenShut
import Derived.ShutString
import Derived.ChangeOld
import Derived.Below
namespace Go.Proofs.Ytofbngeeiompcaa.fnExactSeen
open Go.ChangeShapes Go.WideShapes Go.ChangeAt Go.RowKit
open Go.ChangeMaps (open_string shut_string)
set_option linter.unusedVariables false

theorem own : ownKnob Try.prog.godebug = none := by kernel_rfl
theorem laidOut : laidOutB Try.prog = true := by kernel_rfl

/-! ### the walk -/
set_option maxRecDepth 100000 in
set_option maxHeartbeats 8000000 in
theorem walk (v0 : Value) (OO0 : List va.Op) (v1 : Value) (SS1 : List ByteArray) (a2 : Int) (w : World) (w0 : va.IsOps w v0 OO0) (w1 : vs.IsStrs w v1 SS1) (w2 : (Lit.int .i64 a2).wf = true) :
    Calls Try.prog 4 #[v0, v1, .int .i64 a2] w fun e w' => e = .returned (.bool true) ∧ Below w.heap.size w w' := by
  obtain ⟨hS0, hl0, hl1⟩ := w0
  obtain ⟨hS1, hm0, hm1⟩ := w1
  have C0 := sl.hide (va.szHallOpS v0 OO0 1048576 _ (by decide) (by decide) hl0 hl1 hS0)
  have C1 := sl.hide (fun (r : Int) w1 (h0 : 0 ≤ r) (h1 : r ≤ 1048576) (b : Below w.heap.size w w1) => vs.szStringS v1 SS1 r w1 h0 h1 hm0 hm1 (hS1.below b))
  have S0 := sl.hide hS0
  have S1 := sl.hide hS1
  clear hS0 hS1 hl0 hl1 hm0 hm1
  go_enter Try.func4, Try.ntmps4
  go_wp2_with fail
  refine (sl.unhide C0).mono ?_; rintro e w1 ⟨r1, rfl, g1⟩
  obtain ⟨g1, hr1⟩ := g1
  have t1 := g1.size
  have B1 := sl.hide (sl.below_of g1)
  have s1 := (sl.unhide B1).size
  clear g1
  rcases hr1 with rfl | ⟨hr0, hr1⟩
  · go_wp2_with fail
    go_ret
    exact ⟨rfl, sl.unhide B1⟩
  have hn0 : va.tot OO0 ≤ 1048576 := by omega
  have hq : ¬ r1 < 0 := by omega
  have hr9 : r1 ≤ 1048576 := by omega
  have hL0 := Nat.le_trans (va.tot_len OO0) hn0
  have hM : (vs.seenL OO0 SS1 a2).length ≤ 1048576 := Nat.le_trans (vs.seenL_le OO0 SS1 a2) hL0
  clear hr1 hn0
  go_wp2_with fail
  refine (sl.unhide C1 _ _ hr0 hr9 (sl.unhide B1)).mono ?_; rintro e w' ⟨r2, rfl, hw, hr2⟩; have hw' := hw.symm; clear hw; subst hw'
  rcases hr2 with rfl | ⟨hr20, hr21⟩
  · go_wp2_with fail
    go_ret
    exact ⟨rfl, sl.unhide B1⟩
  have hn1 : vs.tot SS1 ≤ 1048576 := by omega
  have hq2 : ¬ r2 < 0 := by omega
  have hL1 := Nat.le_trans (vs.tot_len SS1) hn1
  clear hr21 hn1 hr9 C0 C1
  go_wp2_with fail
  refine (va.toHallOpS _ OO0 _ hL0 ((sl.unhide S0).below (sl.unhide B1))).mono ?_; rintro e w2 ⟨u2, rfl, o2, g2⟩
  obtain ⟨ua2, uc2, rfl⟩ := o2.len
  have t2 := g2.size
  have B2 := sl.hide (sl.below_none (sl.unhide B1) g2)
  have s2 := (sl.unhide B2).size
  have P2 := sl.hide o2
  clear o2
  clear g2 B1
  go_wp2_with fail
  refine (vs.toStringS _ SS1 _ hL1 ((sl.unhide S1).below (sl.unhide B2))).mono ?_; rintro e w3 ⟨u3, rfl, o3, g3⟩
  obtain ⟨ua3, uc3, rfl⟩ := o3.len
  have t3 := g3.size
  have B3 := sl.hide (sl.below_none (sl.unhide B2) g3)
  have s3 := (sl.unhide B3).size
  have P3 := sl.hide ((sl.unhide P2).kept g3)
  have Q3 := sl.hide o3
  clear o3
  clear g3 B2 P2
  go_wp2_with fail
  refine (vs.specSeen _ _ OO0 SS1 a2 _ hL0 hL1 (sl.unhide P3).ops (sl.unhide Q3).strs).mono ?_; rintro e w4 ⟨u4, rfl, o4, g4⟩
  obtain ⟨ua4, uc4, rfl⟩ := o4.len
  have t4 := g4.size
  have B4 := sl.hide (sl.below_none (sl.unhide B3) g4)
  have s4 := (sl.unhide B4).size
  have P4 := sl.hide ((sl.unhide P3).kept g4)
  have Q4 := sl.hide ((sl.unhide Q3).kept g4)
  have U4 := sl.hide o4
  clear o4
  clear g4 B3 P3 Q3
  clear P4 Q4
  go_wp2_with fail
  refine (va.toHallOpS _ OO0 _ hL0 ((sl.unhide S0).below (sl.unhide B4))).mono ?_; rintro e w5 ⟨u5, rfl, o5, g5⟩
  obtain ⟨ua5, uc5, rfl⟩ := o5.len
  have t5 := g5.size
  have B5 := sl.hide (sl.below_none (sl.unhide B4) g5)
  have s5 := (sl.unhide B5).size
  have U5 := sl.hide ((sl.unhide U4).kept g5)
  have X5 := sl.hide o5
  clear o5
  clear g5 B4 U4
  go_wp2_with fail
  refine (vs.toStringS _ SS1 _ hL1 ((sl.unhide S1).below (sl.unhide B5))).mono ?_; rintro e w6 ⟨u6, rfl, o6, g6⟩
  obtain ⟨ua6, uc6, rfl⟩ := o6.len
  have t6 := g6.size
  have B6 := sl.hide (sl.below_none (sl.unhide B5) g6)
  have s6 := (sl.unhide B6).size
  have U6 := sl.hide ((sl.unhide U5).kept g6)
  have X6 := sl.hide ((sl.unhide X5).kept g6)
  have Y6 := sl.hide o6
  clear o6
  clear g6 B5 U5 X5
  go_wp2_with fail
  refine (vs.implSeen _ _ OO0 SS1 a2 _ hL0 hL1 (sl.unhide X6).ops (sl.unhide Y6).strs).mono ?_; rintro e w7 ⟨u7, rfl, o7, g7⟩
  obtain ⟨ua7, uc7, rfl⟩ := o7.len
  have t7 := g7.size
  have B7 := sl.hide (sl.below_none (sl.unhide B6) g7)
  have s7 := (sl.unhide B7).size
  have U7 := sl.hide ((sl.unhide U6).kept g7)
  have X7 := sl.hide ((sl.unhide X6).kept g7)
  have Y7 := sl.hide ((sl.unhide Y6).kept g7)
  have V7 := sl.hide o7
  clear o7
  clear g7 B6 U6 X6 Y6
  go_wp2_with fail
  refine (vs.eqStringS _ _ _ _ hM (sl.unhide V7).strs (sl.unhide U7).strs).mono ?_; rintro e w8 ⟨rfl, g8⟩
  have t8 := g8.size
  have B8 := sl.hide (sl.below_none (sl.unhide B7) g8)
  have s8 := (sl.unhide B8).size
  have U8 := sl.hide ((sl.unhide U7).kept g8)
  have X8 := sl.hide ((sl.unhide X7).kept g8)
  have Y8 := sl.hide ((sl.unhide Y7).kept g8)
  have V8 := sl.hide ((sl.unhide V7).kept g8)
  clear g8 B7 U7 X7 Y7 V7
  go_wp2_with fail
  refine (va.toHallOpS _ OO0 _ hL0 ((sl.unhide S0).below (sl.unhide B8))).mono ?_; rintro e w9 ⟨u9, rfl, o9, g9⟩
  obtain ⟨ua9, uc9, rfl⟩ := o9.len
  have t9 := g9.size
  have B9 := sl.hide (sl.below_none (sl.unhide B8) g9)
  have s9 := (sl.unhide B9).size
  have U9 := sl.hide ((sl.unhide U8).kept g9)
  have X9 := sl.hide ((sl.unhide X8).kept g9)
  have Y9 := sl.hide ((sl.unhide Y8).kept g9)
  have V9 := sl.hide ((sl.unhide V8).kept g9)
  have P9 := sl.hide o9
  clear o9
  clear g9 B8 U8 X8 Y8 V8
  go_wp2_with fail
  refine (va.eqHallOpS _ _ _ _ hL0 (sl.unhide X9).ops (sl.unhide P9).ops).mono ?_; rintro e w10 ⟨rfl, g10⟩
  have t10 := g10.size
  have B10 := sl.hide (sl.below_none (sl.unhide B9) g10)
  have s10 := (sl.unhide B10).size
  have U10 := sl.hide ((sl.unhide U9).kept g10)
  have X10 := sl.hide ((sl.unhide X9).kept g10)
  have Y10 := sl.hide ((sl.unhide Y9).kept g10)
  have V10 := sl.hide ((sl.unhide V9).kept g10)
  have P10 := sl.hide ((sl.unhide P9).kept g10)
  clear g10 B9 U9 X9 Y9 V9 P9
  clear P10
  go_wp2_with fail
  refine (vs.toStringS _ SS1 _ hL1 ((sl.unhide S1).below (sl.unhide B10))).mono ?_; rintro e w11 ⟨u11, rfl, o11, g11⟩
  obtain ⟨ua11, uc11, rfl⟩ := o11.len
  have t11 := g11.size
  have B11 := sl.hide (sl.below_none (sl.unhide B10) g11)
  have s11 := (sl.unhide B11).size
  have U11 := sl.hide ((sl.unhide U10).kept g11)
  have X11 := sl.hide ((sl.unhide X10).kept g11)
  have Y11 := sl.hide ((sl.unhide Y10).kept g11)
  have V11 := sl.hide ((sl.unhide V10).kept g11)
  have Q11 := sl.hide o11
  clear o11
  clear g11 B10 U10 X10 Y10 V10
  go_wp2_with fail
  refine (vs.eqStringS _ _ _ _ hL1 (sl.unhide Y11).strs (sl.unhide Q11).strs).mono ?_; rintro e w12 ⟨rfl, g12⟩
  have t12 := g12.size
  have B12 := sl.hide (sl.below_none (sl.unhide B11) g12)
  have s12 := (sl.unhide B12).size
  have U12 := sl.hide ((sl.unhide U11).kept g12)
  have X12 := sl.hide ((sl.unhide X11).kept g12)
  have Y12 := sl.hide ((sl.unhide Y11).kept g12)
  have V12 := sl.hide ((sl.unhide V11).kept g12)
  have Q12 := sl.hide ((sl.unhide Q11).kept g12)
  clear g12 B11 U11 X11 Y11 V11 Q11
  clear Q12
  go_wp2_with fail
  refine (va.markHallOpS _ OO0 1 _ _ _ hL0 (by decide) (by decide) (sl.unhide X12)).mono ?_; rintro e w13 ⟨rfl, o13, g13⟩
  have t13 := g13.size
  have B13 := sl.hide (css.below_outs (sl.unhide B12) (by omega) g13)
  have s13 := (sl.unhide B13).size
  have U13 := sl.hide ((sl.unhide U12).outs g13 (by omega))
  have Y13 := sl.hide ((sl.unhide Y12).outs g13 (by omega))
  have V13 := sl.hide ((sl.unhide V12).outs g13 (by omega))
  clear o13
  clear g13 B12 U12 X12 Y12 V12
  go_wp2_with fail
  refine (vs.markStringS _ SS1 (1 + 4 * (OO0.length : Int)) _ _ _ hL1 (by omega) (by omega) (sl.unhide Y13)).mono ?_; rintro e w14 ⟨rfl, o14, g14⟩
  have t14 := g14.size
  have B14 := sl.hide (css.below_outs (sl.unhide B13) (by omega) g14)
  have s14 := (sl.unhide B14).size
  have U14 := sl.hide ((sl.unhide U13).outs g14 (by omega))
  have V14 := sl.hide ((sl.unhide V13).outs g14 (by omega))
  clear o14
  clear g14 B13 U13 Y13 V13
  have hk : ¬ (1 : Int) + 4 * (OO0.length : Int) + (SS1.length : Int) < 0 := by omega
  have hk' : decide ((1 : Int) + 4 * (OO0.length : Int) + (SS1.length : Int) < 0) = false := decide_eq_false hk
  go_wp2_with fail
  refine (vs.eqStringS _ _ _ _ hM (sl.unhide V14).strs (sl.unhide U14).strs).mono ?_; rintro e w15 ⟨rfl, g15⟩
  have t15 := g15.size
  have B15 := sl.hide (sl.below_none (sl.unhide B14) g15)
  have s15 := (sl.unhide B15).size
  have U15 := sl.hide ((sl.unhide U14).kept g15)
  have V15 := sl.hide ((sl.unhide V14).kept g15)
  clear g15 B14 U14 V14
  clear hk hk'
  go_wp2_with fail
  refine (vs.markStringS _ (vs.seenL OO0 SS1 a2) 1 _ _ _ hM (by decide) (by decide) (sl.unhide V15)).mono ?_; rintro e w16 ⟨rfl, o16, g16⟩
  have t16 := g16.size
  have B16 := sl.hide (css.below_outs (sl.unhide B15) (by omega) g16)
  have s16 := (sl.unhide B16).size
  have U16 := sl.hide ((sl.unhide U15).outs g16 (by omega))
  have V16 := sl.hide o16
  clear o16
  clear g16 B15 U15 V15
  have hk : ¬ (1 : Int) + ((vs.seenL OO0 SS1 a2).length : Int) < 0 := by omega
  go_wp2_with fail
  refine (vs.heldStringS _ _ 1 _ hM (by decide) (by decide) (sl.unhide V16).strs).mono ?_; rintro e w17 ⟨rfl, g17⟩
  have t17 := g17.size
  have B17 := sl.hide (sl.below_none (sl.unhide B16) g17)
  have s17 := (sl.unhide B17).size
  have U17 := sl.hide ((sl.unhide U16).kept g17)
  have V17 := sl.hide ((sl.unhide V16).kept g17)
  clear g17 B16 U16 V16
  go_wp2_with fail
  refine (va.toHallOpS _ OO0 _ hL0 ((sl.unhide S0).below (sl.unhide B17))).mono ?_; rintro e w18 ⟨u18, rfl, o18, g18⟩
  obtain ⟨ua18, uc18, rfl⟩ := o18.len
  have t18 := g18.size
  have B18 := sl.hide (sl.below_none (sl.unhide B17) g18)
  have s18 := (sl.unhide B18).size
  have U18 := sl.hide ((sl.unhide U17).kept g18)
  have V18 := sl.hide ((sl.unhide V17).kept g18)
  have P18 := sl.hide o18
  clear o18
  clear g18 B17 U17 V17
  go_wp2_with fail
  refine (vs.toStringS _ SS1 _ hL1 ((sl.unhide S1).below (sl.unhide B18))).mono ?_; rintro e w19 ⟨u19, rfl, o19, g19⟩
  obtain ⟨ua19, uc19, rfl⟩ := o19.len
  have t19 := g19.size
  have B19 := sl.hide (sl.below_none (sl.unhide B18) g19)
  have s19 := (sl.unhide B19).size
  have U19 := sl.hide ((sl.unhide U18).kept g19)
  have V19 := sl.hide ((sl.unhide V18).kept g19)
  have P19 := sl.hide ((sl.unhide P18).kept g19)
  have Q19 := sl.hide o19
  clear o19
  clear g19 B18 U18 V18 P18
  go_wp2_with fail
  refine (vs.implSeen _ _ OO0 SS1 a2 _ hL0 hL1 (sl.unhide P19).ops (sl.unhide Q19).strs).mono ?_; rintro e w20 ⟨u20, rfl, o20, g20⟩
  obtain ⟨ua20, uc20, rfl⟩ := o20.len
  have t20 := g20.size
  have B20 := sl.hide (sl.below_none (sl.unhide B19) g20)
  have s20 := (sl.unhide B20).size
  have U20 := sl.hide ((sl.unhide U19).kept g20)
  have V20 := sl.hide ((sl.unhide V19).kept g20)
  have P20 := sl.hide ((sl.unhide P19).kept g20)
  have Q20 := sl.hide ((sl.unhide Q19).kept g20)
  have H20 := sl.hide o20
  clear o20
  clear g20 B19 U19 V19 P19 Q19
  clear P20 Q20
  go_wp2_with fail
  refine (vs.eqStringS _ _ _ _ hM (sl.unhide H20).strs (sl.unhide U20).strs).mono ?_; rintro e w21 ⟨rfl, g21⟩
  have t21 := g21.size
  have B21 := sl.hide (sl.below_none (sl.unhide B20) g21)
  have s21 := (sl.unhide B21).size
  have U21 := sl.hide ((sl.unhide U20).kept g21)
  have V21 := sl.hide ((sl.unhide V20).kept g21)
  have H21 := sl.hide ((sl.unhide H20).kept g21)
  clear g21 B20 U20 V20 H20
  clear H21 U21
  go_wp2_with fail
  refine (vs.heldStringS _ _ 1 _ hM (by decide) (by decide) (sl.unhide V21).strs).mono ?_; rintro e w22 ⟨rfl, g22⟩
  have t22 := g22.size
  have B22 := sl.hide (sl.below_none (sl.unhide B21) g22)
  have s22 := (sl.unhide B22).size
  have V22 := sl.hide ((sl.unhide V21).kept g22)
  clear g22 B21 V21
  go_wp2_with fail
  go_ret
  exact ⟨rfl, sl.unhide B22⟩

/-! ### the row's step (the guide's own frame) -/
set_option maxRecDepth 100000 in
theorem lifted (os : Os) (started : os.Started) (H : Type) (enc : TypeId × Value → H) :
    ReturnsInHanded {} Try.checked os 4 .any (Rows.fnExactSeenSpec.pre6 enc Try.prog Try.f4 Rows.fnExactSeenRow.domain false) (Rows.fnExactSeenSpec.post enc Try.prog Try.f4 false true false false) := by
  refine returnsInHanded_of_change (C := Try.checked) own started (by kernel_rfl) Try.func4
    (ChangeSpec.witness6 (enc := enc) (C := Try.checked) false ⟨#[], #[.slice none 0 0, .slice none 0 0, .int .i64 0], []⟩ 8 (by kernel_rfl) (by kernel_rfl) (by kernel_rfl) (by kernel_rfl)) ?_
  intro W base args ds gs before hval0 hW hcnd _
  have hval : ∀ (j : Nat) t v, Try.f4.params[j]? = some t → args[j]? = some v → Value.okWide Try.prog W .any base t v := hval0
  have hW' := hW
  obtain ⟨p, q, hA0, hV, rfl, hfz, hnd⟩ := hW
  have hA : DataW.TrodAll enc Try.prog W 0 (fun _ => true) true Try.f4.params.toList args.toList ds p := hA0
  rw [Try.params4] at hA hval
  obtain ⟨x0, vs0, d0, ds0, p0, q0, hargs, rfl, rfl, h0, r0⟩ := trodAll_cons hA
  obtain ⟨x1, vs1, d1, ds1, p1, q1, rfl, rfl, rfl, h1, r1⟩ := trodAll_cons r0
  obtain ⟨x2, vs2, d2, ds2, p2, q2, rfl, rfl, rfl, h2, r2⟩ := trodAll_cons r1
  obtain ⟨rfl, rfl, rfl⟩ := trodAll_nil r2
  obtain rfl : args = #[x0, x1, x2] := by cases args; simp_all
  obtain ⟨rfl, rfl⟩ := trodVars_none hV
  obtain ⟨sa0, slen0, scap0, rfl⟩ := okWide_slice Try.underlying22 (hval 0 22 _ rfl rfl)
  have k0 := h0
  have lt0 : ∀ x ∈ p0, x.block < W.heap.size := by obtain ⟨m, hm⟩ := k0; exact DataW.trod_lt m _ _ _ hm
  obtain ⟨v0, OO0, e0, w0⟩ : ∃ v OO, Value.slice sa0 slen0 scap0 = v ∧ va.IsOps W v OO := by
    obtain ⟨fuel, hf⟩ := h0
    obtain ⟨v, OO, e, hv⟩ := va.open_ops hf
    exact ⟨v, OO, by simpa [Value.cells] using e, hv⟩
  subst e0
  obtain ⟨sa1, slen1, scap1, rfl⟩ := okWide_slice Try.underlying30 (hval 1 30 _ rfl rfl)
  have k1 := h1
  have lt1 : ∀ x ∈ p1, x.block < W.heap.size := by obtain ⟨m, hm⟩ := k1; exact DataW.trod_lt m _ _ _ hm
  obtain ⟨v1, SS1, e1, w1⟩ : ∃ v SS, Value.slice sa1 slen1 scap1 = v ∧ vs.IsStrs W v SS := by
    obtain ⟨fuel, hf⟩ := h1
    obtain ⟨v, SS, e, hv⟩ := vs.open_strs hf
    exact ⟨v, SS, by simpa [Value.cells] using e, hv⟩
  subst e1
  have k2 := h2
  have lt2 : ∀ x ∈ p2, x.block < W.heap.size := by obtain ⟨m, hm⟩ := k2; exact DataW.trod_lt m _ _ _ hm
  obtain ⟨a2, rfl, rfl, rfl, w2⟩ := open_int Try.underlying3 (hval 2 3 _ rfl rfl) h2
  clear hA0 hval0
  refine (walk (.slice sa0 slen0 scap0) OO0 (.slice sa1 slen1 scap1) SS1 a2 W w0 w1 w2).mono fun e W' ⟨he, bel⟩ => ?_
  subst he
  exact ⟨_, rfl, _, _, _, [], _, [], hW', trodAll_mk1 (shut_bool Try.underlying4 _), (trodAll_cons_mk (Below.trod laidOut (by kernel_rfl) (of_decide_eq_true (by kernel_rfl)) k0 bel lt0) (trodAll_cons_mk (Below.trod laidOut (by kernel_rfl) (of_decide_eq_true (by kernel_rfl)) k1 bel lt1) (trodAll_cons_mk (Below.trod laidOut (by kernel_rfl) (of_decide_eq_true (by kernel_rfl)) k2 bel lt2) trodAll_mk0))), rfl, bel.frame _, fun h => by cases h⟩

theorem over : Rows.fnExactSeenRow.holds Try.pinned (OpenSpec.ofChange Rows.fnExactSeenSpec) :=
  OpenClaim.holds_of_wide 4 Try.f4 rfl rfl rfl rfl rfl rfl rfl ⟨rfl, rfl, rfl, rfl, rfl⟩ rfl rfl rfl rfl rfl (by kernel_rfl) Try.func4 (by kernel_rfl)
    (of_decide_eq_true (by kernel_rfl)) (by unfold Func.isWrapper; first | (rw [if_pos (by decide +kernel)]; kernel_rfl) | (rw [if_neg (by decide +kernel)]; exact ⟨rfl, rfl⟩))
    (fun os started H enc _ => lifted os started H enc)

/-- the statement -/
theorem proved : Rows.FnExactSeenSaid := over
#print axioms proved
end Go.Proofs.Ytofbngeeiompcaa.fnExactSeen
