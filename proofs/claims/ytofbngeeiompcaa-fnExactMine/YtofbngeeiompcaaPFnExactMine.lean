/- At every list of ops and every number the law FnExactMine returns true: Mine answers as the model, writes into no argument and owns its answer; no condition. -/
import Derived.Test.YtofbngeeiompcaaRows
import Derived.Test.YtofbngeeiompcaaVo
import Derived.Test.YtofbngeeiompcaaVb
import Derived.WalkKit
import Derived.ProofKit
import Derived.OpenShut
import Derived.ShutString
import Derived.ChangeOld
import Derived.Below
namespace Go.Proofs.Ytofbngeeiompcaa.fnExactMine
open Go.ChangeShapes Go.WideShapes Go.ChangeAt Go.RowKit
open Go.ChangeMaps (open_string shut_string)
set_option linter.unusedVariables false

theorem own : ownKnob Try.prog.godebug = none := by kernel_rfl
theorem laidOut : laidOutB Try.prog = true := by kernel_rfl

/-! ### the walk -/
set_option maxRecDepth 100000 in
set_option maxHeartbeats 8000000 in
theorem walk (v0 : Value) (OO0 : List va.Op) (a1 : Int) (w : World) (w0 : va.IsOps w v0 OO0) (w1 : (Lit.int .i64 a1).wf = true) :
    Calls Try.prog 3 #[v0, .int .i64 a1] w fun e w' => e = .returned (.bool true) ∧ Below w.heap.size w w' := by
  obtain ⟨hS, hl0, hl1⟩ := w0
  have C0 := sl.hide (va.szHallOpS v0 OO0 1048576 _ (by decide) (by decide) hl0 hl1 hS)
  have S := sl.hide hS
  clear hS hl0 hl1
  go_enter Try.func3, Try.ntmps3
  go_wp2_with fail
  refine (sl.unhide C0).mono ?_; rintro e w1 ⟨r, rfl, g1, hr⟩
  have B1 := sl.hide (sl.below_of g1)
  clear g1 C0
  rcases hr with rfl | ⟨hr0, hr1⟩
  · go_wp2_with fail
    go_ret
    exact ⟨rfl, sl.unhide B1⟩
  have hn : va.tot OO0 ≤ 1048576 := by omega
  have hq : ¬ r < 0 := by omega
  have hL := Nat.le_trans (va.tot_len OO0) hn
  have hM : (va.mineL OO0 a1).length ≤ 1048576 := Nat.le_trans (va.mine_le OO0 a1) hL
  clear hr1 hn
  go_wp2_with fail
  refine (va.toHallOpS _ OO0 _ hL ((sl.unhide S).below (sl.unhide B1))).mono ?_; rintro e w2 ⟨u2, rfl, o2, g2⟩
  obtain ⟨ua2, uc2, rfl⟩ := o2.len
  have B2 := sl.hide (sl.below_none (sl.unhide B1) g2)
  have O2 := sl.hide o2
  clear o2 g2 B1
  go_wp2_with fail
  refine (va.specMine _ OO0 a1 _ hL (sl.unhide O2).ops).mono ?_; rintro e w3 ⟨u3, rfl, o3, g3⟩
  obtain ⟨ua3, uc3, rfl⟩ := o3.len
  have B3 := sl.hide (sl.below_none (sl.unhide B2) g3)
  have U3 := sl.hide o3
  clear o3 g3 B2 O2
  go_wp2_with fail
  refine (va.toHallOpS _ OO0 _ hL ((sl.unhide S).below (sl.unhide B3))).mono ?_; rintro e w4 ⟨u4, rfl, o4, g4⟩
  obtain ⟨ua4, uc4, rfl⟩ := o4.len
  have s3 := (sl.unhide B3).size
  have t4 := g4.size
  have B4 := sl.hide (sl.below_none (sl.unhide B3) g4)
  have U4 := sl.hide ((sl.unhide U3).kept g4)
  have X4 := sl.hide o4
  clear o4 g4 B3 U3
  go_wp2_with fail
  refine (va.implMine _ OO0 a1 _ hL (sl.unhide X4).ops).mono ?_; rintro e w5 ⟨u5, rfl, o5, g5⟩
  obtain ⟨ua5, uc5, rfl⟩ := o5.len
  have s4 := (sl.unhide B4).size
  have t5 := g5.size
  have B5 := sl.hide (sl.below_none (sl.unhide B4) g5)
  have U5 := sl.hide ((sl.unhide U4).kept g5)
  have X5 := sl.hide ((sl.unhide X4).kept g5)
  have V5 := sl.hide o5
  clear o5 g5 B4 U4 X4
  go_wp2_with fail
  refine (va.eqHallOpS _ _ _ _ hM (sl.unhide V5).ops (sl.unhide U5).ops).mono ?_; rintro e w6 ⟨rfl, g6⟩
  have B6 := sl.hide (sl.below_none (sl.unhide B5) g6)
  have U6 := sl.hide ((sl.unhide U5).kept g6)
  have X6 := sl.hide ((sl.unhide X5).kept g6)
  have V6 := sl.hide ((sl.unhide V5).kept g6)
  clear g6 B5 U5 X5 V5
  go_wp2_with fail
  refine (va.toHallOpS _ OO0 _ hL ((sl.unhide S).below (sl.unhide B6))).mono ?_; rintro e w7 ⟨u7, rfl, o7, g7⟩
  obtain ⟨ua7, uc7, rfl⟩ := o7.len
  have B7 := sl.hide (sl.below_none (sl.unhide B6) g7)
  have U7 := sl.hide ((sl.unhide U6).kept g7)
  have X7 := sl.hide ((sl.unhide X6).kept g7)
  have V7 := sl.hide ((sl.unhide V6).kept g7)
  have Y7 := sl.hide o7
  clear o7 g7 B6 U6 X6 V6
  go_wp2_with fail
  refine (va.eqHallOpS _ _ _ _ hL (sl.unhide X7).ops (sl.unhide Y7).ops).mono ?_; rintro e w8 ⟨rfl, g8⟩
  have B8 := sl.hide (sl.below_none (sl.unhide B7) g8)
  have U8 := sl.hide ((sl.unhide U7).kept g8)
  have X8 := sl.hide ((sl.unhide X7).kept g8)
  have V8 := sl.hide ((sl.unhide V7).kept g8)
  clear g8 B7 U7 X7 V7 Y7
  go_wp2_with fail
  refine (va.markHallOpS _ OO0 1 _ _ _ hL (by decide) (by decide) (sl.unhide X8)).mono ?_; rintro e w9 ⟨rfl, o9, g9⟩
  have B9 := sl.hide (css.below_outs (sl.unhide B8) (by omega) g9)
  have U9 := sl.hide ((sl.unhide U8).outs g9 (.inl (by omega)))
  have V9 := sl.hide ((sl.unhide V8).outs g9 (.inr (by omega)))
  clear o9 g9 B8 U8 X8 V8
  have hk : ¬ (1 : Int) + 4 * (OO0.length : Int) < 0 := by omega
  have hk' : decide ((1 : Int) + 4 * (OO0.length : Int) < 0) = false := decide_eq_false hk
  go_wp2_with fail
  refine (va.eqHallOpS _ _ _ _ hM (sl.unhide V9).ops (sl.unhide U9).ops).mono ?_; rintro e w10 ⟨rfl, g10⟩
  have B10 := sl.hide (sl.below_none (sl.unhide B9) g10)
  have U10 := sl.hide ((sl.unhide U9).kept g10)
  have V10 := sl.hide ((sl.unhide V9).kept g10)
  clear g10 B9 U9 V9 hk hk'
  go_wp2_with fail
  refine (va.markHallOpS _ (va.mineL OO0 a1) 1 _ _ _ hM (by decide) (by decide) (sl.unhide V10)).mono ?_; rintro e w11 ⟨rfl, o11, g11⟩
  have B11 := sl.hide (css.below_outs (sl.unhide B10) (by omega) g11)
  have U11 := sl.hide ((sl.unhide U10).outs g11 (.inl (by omega)))
  have V11 := sl.hide o11
  clear o11 g11 B10 U10 V10
  have hk : ¬ (1 : Int) + 4 * ((va.mineL OO0 a1).length : Int) < 0 := by omega
  go_wp2_with fail
  refine (va.heldHallOpS _ _ 1 _ hM (by decide) (by decide) (sl.unhide V11).ops).mono ?_; rintro e w12 ⟨rfl, g12⟩
  have B12 := sl.hide (sl.below_none (sl.unhide B11) g12)
  have U12 := sl.hide ((sl.unhide U11).kept g12)
  have V12 := sl.hide ((sl.unhide V11).kept g12)
  clear g12 B11 U11 V11
  go_wp2_with fail
  refine (va.toHallOpS _ OO0 _ hL ((sl.unhide S).below (sl.unhide B12))).mono ?_; rintro e w13 ⟨u13, rfl, o13, g13⟩
  obtain ⟨ua13, uc13, rfl⟩ := o13.len
  have B13 := sl.hide (sl.below_none (sl.unhide B12) g13)
  have U13 := sl.hide ((sl.unhide U12).kept g13)
  have V13 := sl.hide ((sl.unhide V12).kept g13)
  have Y13 := sl.hide o13
  clear o13 g13 B12 U12 V12
  go_wp2_with fail
  refine (va.implMine _ OO0 a1 _ hL (sl.unhide Y13).ops).mono ?_; rintro e w14 ⟨u14, rfl, o14, g14⟩
  obtain ⟨ua14, uc14, rfl⟩ := o14.len
  have B14 := sl.hide (sl.below_none (sl.unhide B13) g14)
  have U14 := sl.hide ((sl.unhide U13).kept g14)
  have V14 := sl.hide ((sl.unhide V13).kept g14)
  have H14 := sl.hide o14
  clear o14 g14 B13 U13 V13 Y13
  go_wp2_with fail
  refine (va.eqHallOpS _ _ _ _ hM (sl.unhide H14).ops (sl.unhide U14).ops).mono ?_; rintro e w15 ⟨rfl, g15⟩
  have B15 := sl.hide (sl.below_none (sl.unhide B14) g15)
  have V15 := sl.hide ((sl.unhide V14).kept g15)
  clear g15 B14 U14 V14 H14
  go_wp2_with fail
  refine (va.heldHallOpS _ _ 1 _ hM (by decide) (by decide) (sl.unhide V15).ops).mono ?_; rintro e w16 ⟨rfl, g16⟩
  have B16 := sl.hide (sl.below_none (sl.unhide B15) g16)
  clear g16 B15 V15
  go_wp2_with fail
  go_ret
  exact ⟨rfl, sl.unhide B16⟩

/-! ### the row's step (the guide's own frame) -/
set_option maxRecDepth 100000 in
theorem lifted (os : Os) (started : os.Started) (H : Type) (enc : TypeId × Value → H) :
    ReturnsInHanded {} Try.checked os 3 .any (Rows.fnExactMineSpec.pre6 enc Try.prog Try.f3 Rows.fnExactMineRow.domain false) (Rows.fnExactMineSpec.post enc Try.prog Try.f3 false true false false) := by
  refine returnsInHanded_of_change (C := Try.checked) own started (by kernel_rfl) Try.func3
    (ChangeSpec.witness6 (enc := enc) (C := Try.checked) false ⟨#[], #[.slice none 0 0, .int .i64 0], []⟩ 8 (by kernel_rfl) (by kernel_rfl) (by kernel_rfl) (by kernel_rfl)) ?_
  intro W base args ds gs before hval0 hW hcnd _
  have hval : ∀ (j : Nat) t v, Try.f3.params[j]? = some t → args[j]? = some v → Value.okWide Try.prog W .any base t v := hval0
  have hW' := hW
  obtain ⟨p, q, hA0, hV, rfl, hfz, hnd⟩ := hW
  have hA : DataW.TrodAll enc Try.prog W 0 (fun _ => true) true Try.f3.params.toList args.toList ds p := hA0
  rw [Try.params3] at hA hval
  obtain ⟨x0, vs0, d0, ds0, p0, q0, hargs, rfl, rfl, h0, r0⟩ := trodAll_cons hA
  obtain ⟨x1, vs1, d1, ds1, p1, q1, rfl, rfl, rfl, h1, r1⟩ := trodAll_cons r0
  obtain ⟨rfl, rfl, rfl⟩ := trodAll_nil r1
  obtain rfl : args = #[x0, x1] := by cases args; simp_all
  obtain ⟨rfl, rfl⟩ := trodVars_none hV
  obtain ⟨sa0, slen0, scap0, rfl⟩ := okWide_slice Try.underlying22 (hval 0 22 _ rfl rfl)
  have k0 := h0
  have lt0 : ∀ x ∈ p0, x.block < W.heap.size := by obtain ⟨m, hm⟩ := k0; exact DataW.trod_lt m _ _ _ hm
  obtain ⟨v0, OO0, e0, w0⟩ : ∃ v OO, Value.slice sa0 slen0 scap0 = v ∧ va.IsOps W v OO := by
    obtain ⟨fuel, hf⟩ := h0
    obtain ⟨v, OO, e, hv⟩ := va.open_ops hf
    exact ⟨v, OO, by simpa [Value.cells] using e, hv⟩
  subst e0
  have k1 := h1
  have lt1 : ∀ x ∈ p1, x.block < W.heap.size := by obtain ⟨m, hm⟩ := k1; exact DataW.trod_lt m _ _ _ hm
  obtain ⟨a1, rfl, rfl, rfl, w1⟩ := open_int Try.underlying3 (hval 1 3 _ rfl rfl) h1
  clear hA0 hval0
  refine (walk (.slice sa0 slen0 scap0) OO0 a1 W w0 w1).mono fun e W' ⟨he, bel⟩ => ?_
  subst he
  exact ⟨_, rfl, _, _, _, [], _, [], hW', trodAll_mk1 (shut_bool Try.underlying4 _), (trodAll_cons_mk (Below.trod laidOut (by kernel_rfl) (of_decide_eq_true (by kernel_rfl)) k0 bel lt0) (trodAll_cons_mk (Below.trod laidOut (by kernel_rfl) (of_decide_eq_true (by kernel_rfl)) k1 bel lt1) trodAll_mk0)), rfl, bel.frame _, fun h => by cases h⟩

theorem over : Rows.fnExactMineRow.holds Try.pinned (OpenSpec.ofChange Rows.fnExactMineSpec) :=
  OpenClaim.holds_of_wide 3 Try.f3 rfl rfl rfl rfl rfl rfl rfl ⟨rfl, rfl, rfl, rfl, rfl⟩ rfl rfl rfl rfl rfl (by kernel_rfl) Try.func3 (by kernel_rfl)
    (of_decide_eq_true (by kernel_rfl)) (by unfold Func.isWrapper; first | (rw [if_pos (by decide +kernel)]; kernel_rfl) | (rw [if_neg (by decide +kernel)]; exact ⟨rfl, rfl⟩))
    (fun os started H enc _ => lifted os started H enc)

/-- the statement -/
theorem proved : Rows.FnExactMineSaid := over
#print axioms proved
end Go.Proofs.Ytofbngeeiompcaa.fnExactMine
