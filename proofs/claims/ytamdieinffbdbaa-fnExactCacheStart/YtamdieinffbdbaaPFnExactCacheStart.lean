/- At every number the law FnExactCacheStart returns true: CacheStart answers as the model, its answer owns its memory, behind another call too; no condition. -/
import Derived.Test.YtamdieinffbdbaaRows
import Derived.Test.YtamdieinffbdbaaUi
import Derived.Test.YtamdieinffbdbaaUh
import Derived.Test.YtamdieinffbdbaaUd
import Derived.WalkKit
import Derived.ProofKit
import Derived.OpenShut
import Derived.ShutString
import Derived.ChangeOld
import Derived.Below
namespace Go.Proofs.Ytamdieinffbdbaa.fnExactCacheStart
open Go.ChangeShapes Go.WideShapes Go.ChangeAt Go.RowKit
open Go.ChangeMaps (open_string shut_string)
set_option linter.unusedVariables false

theorem own : ownKnob Try.prog.godebug = none := by kernel_rfl
theorem laidOut : laidOutB Try.prog = true := by kernel_rfl

/-! ### the walk -/
set_option maxRecDepth 100000 in
set_option maxHeartbeats 8000000 in
theorem walk (a0 : Int) (w : World) (w0 : (Lit.int .i64 a0).wf = true) :
    Calls Try.prog 5 #[.int .i64 a0] w fun e w' => e = .returned (.bool true) ∧ Below w.heap.size w w' := by
  clear w0
  have hN := fun w' => ua.Kns.nil w' none 0
  have HN := sl.hide hN
  clear hN
  obtain ⟨r, hr⟩ : ∃ r, r = ua.startR a0 := ⟨_, rfl⟩
  obtain ⟨b, hb⟩ : ∃ b, b = ua.inB a0 0 50 := ⟨_, rfl⟩
  have CI := sl.hide (fun w => ua.implCacheStart a0 w)
  have CS := sl.hide (fun w => ua.specCacheStart a0 w)
  rw [← hr, ← hb] at CI CS
  clear hr hb
  have EQ : Hid (∀ w', Calls Try.prog 17 #[.agg #[.int .i64 r, .slice none 0 0], .agg #[.int .i64 r, .slice none 0 0]] w' fun e w1 => e = .returned (.bool true) ∧ w'.grownBy w1 none) := fun w' => ua.eqCache _ _ r [] w' (by decide) (sl.unhide HN w') (sl.unhide HN w')
  have MK : Hid (∀ w', Calls Try.prog 20 #[.agg #[.int .i64 r, .slice none 0 0], .int .i64 1] w' fun e w1 => e = .returned (.int .i64 1) ∧ w'.grownBy w1 none) := fun w' => (ua.markCache (.slice none 0 0) r [] 1 0 0 w' (by decide) (by decide) (by decide) (ua.OwnK.none 0 0 w')).mono (by rintro e w1 ⟨rfl, _, g⟩; exact ⟨rfl, ⟨g.os, g.tape, g.output, g.size, fun k hk _ => g.block k hk (by omega)⟩⟩)
  have HE : Hid (∀ w', Calls Try.prog 21 #[.agg #[.int .i64 r, .slice none 0 0], .int .i64 1] w' fun e w1 => e = .returned (.int .i64 1) ∧ w'.grownBy w1 none) := fun w' => ua.heldCache (.slice none 0 0) r [] 1 w' (by decide) (by decide) (by decide) (sl.unhide HN w')
  clear HN
  have G0 := sl.hide (sl.grown_refl w)
  go_enter Try.func5, Try.ntmps5
  go_wp2_with fail
  refine (sl.unhide CS _).mono ?_; rintro e w1 ⟨rfl, g1⟩
  have G1 := sl.hide (sl.grown_trans (r := none) (sl.unhide G0) g1)
  clear G0
  clear g1
  obtain ⟨V1, hV1⟩ : ∃ V, V = w1.alloc (.cells #[.int .i64 r, .slice none 0 0] 26) := ⟨_, rfl⟩
  have gv1 : w1.grownBy V1 none := by rw [hV1]; exact World.grownBy_alloc _ _ _
  have An : cf.Box 26 V1 w1.heap.size (.int .i64 r) (.slice none 0 0) := by rw [hV1]; exact cf.Box.new _ _ _ _
  have G2 := sl.hide (sl.grown_trans (r := none) (sl.unhide G1) gv1)
  clear G1
  have A2 := sl.hide An
  clear An gv1
  go_upto_region 2 with fail
  rw [← hV1]
  clear hV1
  generalize w1.heap.size = vb1 at *
  have zA0 := (sl.unhide A2).c0
  have zA1 := (sl.unhide A2).c1
  go_wp2_with fail
  refine (sl.unhide CI _).mono ?_; rintro e w3 ⟨rfl, g3⟩
  clear zA0 zA1
  have G3 := sl.hide (sl.grown_trans (r := none) (sl.unhide G2) g3)
  have A3 := sl.hide ((sl.unhide A2).kept g3)
  clear G2 A2
  clear g3
  obtain ⟨V3, hV3⟩ : ∃ V, V = w3.alloc (.cells #[.int .i64 r, .slice none 0 0] 26) := ⟨_, rfl⟩
  have gv3 : w3.grownBy V3 none := by rw [hV3]; exact World.grownBy_alloc _ _ _
  have Bn : cf.Box 26 V3 w3.heap.size (.int .i64 r) (.slice none 0 0) := by rw [hV3]; exact cf.Box.new _ _ _ _
  have G4 := sl.hide (sl.grown_trans (r := none) (sl.unhide G3) gv3)
  have A4 := sl.hide ((sl.unhide A3).kept gv3)
  clear G3 A3
  have B4 := sl.hide Bn
  clear Bn gv3
  go_upto_region 3 with fail
  rw [← hV3]
  clear hV3
  generalize w3.heap.size = vb3 at *
  have zA0 := (sl.unhide A4).c0
  have zA1 := (sl.unhide A4).c1
  have zB0 := (sl.unhide B4).c0
  have zB1 := (sl.unhide B4).c1
  go_wp2_with fail
  refine (sl.unhide EQ _).mono ?_; rintro e w5 ⟨rfl, g5⟩
  clear zA0 zA1 zB0 zB1
  have G5 := sl.hide (sl.grown_trans (r := none) (sl.unhide G4) g5)
  have A5 := sl.hide ((sl.unhide A4).kept g5)
  have B5 := sl.hide ((sl.unhide B4).kept g5)
  clear G4 A4 B4
  clear g5
  have hbb : (b != b) = false := by cases b <;> rfl
  have zA0 := (sl.unhide A5).c0
  have zA1 := (sl.unhide A5).c1
  have zB0 := (sl.unhide B5).c0
  have zB1 := (sl.unhide B5).c1
  go_wp2_with fail
  refine (sl.unhide MK _).mono ?_; rintro e w6 ⟨rfl, g6⟩
  clear zA0 zA1 zB0 zB1
  have G6 := sl.hide (sl.grown_trans (r := none) (sl.unhide G5) g6)
  have A6 := sl.hide ((sl.unhide A5).kept g6)
  have B6 := sl.hide ((sl.unhide B5).kept g6)
  clear G5 A5 B5
  clear g6
  have zA0 := (sl.unhide A6).c0
  have zA1 := (sl.unhide A6).c1
  have zB0 := (sl.unhide B6).c0
  have zB1 := (sl.unhide B6).c1
  go_wp2_with fail
  refine (sl.unhide HE _).mono ?_; rintro e w7 ⟨rfl, g7⟩
  clear zA0 zA1 zB0 zB1
  have G7 := sl.hide (sl.grown_trans (r := none) (sl.unhide G6) g7)
  have A7 := sl.hide ((sl.unhide A6).kept g7)
  have B7 := sl.hide ((sl.unhide B6).kept g7)
  clear G6 A6 B6
  clear g7
  have zA0 := (sl.unhide A7).c0
  have zA1 := (sl.unhide A7).c1
  have zB0 := (sl.unhide B7).c0
  have zB1 := (sl.unhide B7).c1
  go_wp2_with fail
  refine (sl.unhide CI _).mono ?_; rintro e w8 ⟨rfl, g8⟩
  clear zA0 zA1 zB0 zB1
  have G8 := sl.hide (sl.grown_trans (r := none) (sl.unhide G7) g8)
  have A8 := sl.hide ((sl.unhide A7).kept g8)
  have B8 := sl.hide ((sl.unhide B7).kept g8)
  clear G7 A7 B7
  clear g8
  obtain ⟨V8, hV8⟩ : ∃ V, V = w8.alloc (.cells #[.int .i64 r, .slice none 0 0] 26) := ⟨_, rfl⟩
  have gv8 : w8.grownBy V8 none := by rw [hV8]; exact World.grownBy_alloc _ _ _
  have Cn : cf.Box 26 V8 w8.heap.size (.int .i64 r) (.slice none 0 0) := by rw [hV8]; exact cf.Box.new _ _ _ _
  have G9 := sl.hide (sl.grown_trans (r := none) (sl.unhide G8) gv8)
  have A9 := sl.hide ((sl.unhide A8).kept gv8)
  have B9 := sl.hide ((sl.unhide B8).kept gv8)
  clear G8 A8 B8
  have C9 := sl.hide Cn
  clear Cn gv8
  go_upto_region 14 with fail
  rw [← hV8]
  clear hV8
  generalize w8.heap.size = vb8 at *
  have zA0 := (sl.unhide A9).c0
  have zA1 := (sl.unhide A9).c1
  have zB0 := (sl.unhide B9).c0
  have zB1 := (sl.unhide B9).c1
  have zC0 := (sl.unhide C9).c0
  have zC1 := (sl.unhide C9).c1
  go_wp2_with fail
  refine (sl.unhide EQ _).mono ?_; rintro e w10 ⟨rfl, g10⟩
  clear zA0 zA1 zB0 zB1 zC0 zC1
  have G10 := sl.hide (sl.grown_trans (r := none) (sl.unhide G9) g10)
  have A10 := sl.hide ((sl.unhide A9).kept g10)
  have B10 := sl.hide ((sl.unhide B9).kept g10)
  have C10 := sl.hide ((sl.unhide C9).kept g10)
  clear G9 A9 B9 C9
  clear g10
  have zA0 := (sl.unhide A10).c0
  have zA1 := (sl.unhide A10).c1
  have zB0 := (sl.unhide B10).c0
  have zB1 := (sl.unhide B10).c1
  have zC0 := (sl.unhide C10).c0
  have zC1 := (sl.unhide C10).c1
  go_wp2_with fail
  refine (sl.unhide HE _).mono ?_; rintro e w11 ⟨rfl, g11⟩
  clear zA0 zA1 zB0 zB1 zC0 zC1
  have G11 := sl.hide (sl.grown_trans (r := none) (sl.unhide G10) g11)
  have A11 := sl.hide ((sl.unhide A10).kept g11)
  have B11 := sl.hide ((sl.unhide B10).kept g11)
  have C11 := sl.hide ((sl.unhide C10).kept g11)
  clear G10 A10 B10 C10
  clear g11
  go_wp2_with fail
  go_ret
  exact ⟨rfl, sl.below_of (sl.unhide G11)⟩

/-! ### the row's step (the guide's own frame) -/
set_option maxRecDepth 100000 in
theorem lifted (os : Os) (started : os.Started) (H : Type) (enc : TypeId × Value → H) :
    ReturnsInHanded {} Try.checked os 5 .any (Rows.fnExactCacheStartSpec.pre6 enc Try.prog Try.f5 Rows.fnExactCacheStartRow.domain false) (Rows.fnExactCacheStartSpec.post enc Try.prog Try.f5 false true false false) := by
  refine returnsInHanded_of_change (C := Try.checked) own started (by kernel_rfl) Try.func5
    (ChangeSpec.witness6 (enc := enc) (C := Try.checked) false ⟨#[], #[.int .i64 0], []⟩ 8 (by kernel_rfl) (by kernel_rfl) (by kernel_rfl) (by kernel_rfl)) ?_
  intro W base args ds gs before hval0 hW hcnd _
  have hval : ∀ (j : Nat) t v, Try.f5.params[j]? = some t → args[j]? = some v → Value.okWide Try.prog W .any base t v := hval0
  have hW' := hW
  obtain ⟨p, q, hA0, hV, rfl, hfz, hnd⟩ := hW
  have hA : DataW.TrodAll enc Try.prog W 0 (fun _ => true) true Try.f5.params.toList args.toList ds p := hA0
  rw [Try.params5] at hA hval
  obtain ⟨x0, vs0, d0, ds0, p0, q0, hargs, rfl, rfl, h0, r0⟩ := trodAll_cons hA
  obtain ⟨rfl, rfl, rfl⟩ := trodAll_nil r0
  obtain rfl : args = #[x0] := by cases args; simp_all
  obtain ⟨rfl, rfl⟩ := trodVars_none hV
  have k0 := h0
  have lt0 : ∀ x ∈ p0, x.block < W.heap.size := by obtain ⟨m, hm⟩ := k0; exact DataW.trod_lt m _ _ _ hm
  obtain ⟨a0, rfl, rfl, rfl, w0⟩ := open_int Try.underlying3 (hval 0 3 _ rfl rfl) h0
  clear hA0 hval0
  refine (walk a0 W w0).mono fun e W' ⟨he, bel⟩ => ?_
  subst he
  exact ⟨_, rfl, _, _, _, [], _, [], hW', trodAll_mk1 (shut_bool Try.underlying4 _), (trodAll_cons_mk (Below.trod laidOut (by kernel_rfl) (of_decide_eq_true (by kernel_rfl)) k0 bel lt0) trodAll_mk0), rfl, bel.frame _, fun h => by cases h⟩

theorem over : Rows.fnExactCacheStartRow.holds Try.pinned (OpenSpec.ofChange Rows.fnExactCacheStartSpec) :=
  OpenClaim.holds_of_wide 5 Try.f5 rfl rfl rfl rfl rfl rfl rfl ⟨rfl, rfl, rfl, rfl, rfl⟩ rfl rfl rfl rfl rfl (by kernel_rfl) Try.func5 (by kernel_rfl)
    (of_decide_eq_true (by kernel_rfl)) (by unfold Func.isWrapper; first | (rw [if_pos (by decide +kernel)]; kernel_rfl) | (rw [if_neg (by decide +kernel)]; exact ⟨rfl, rfl⟩))
    (fun os started H enc _ => lifted os started H enc)

/-- the statement -/
theorem proved : Rows.FnExactCacheStartSaid := over
#print axioms proved
end Go.Proofs.Ytamdieinffbdbaa.fnExactCacheStart
