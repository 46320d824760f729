/- At every cache the law FnExactCacheOk returns true: CacheOk answers as the model and leaves the cache as it was; no condition. -/
import Derived.Test.YtamdieinffbdbaaRows
import Derived.Test.YtamdieinffbdbaaUi
import Derived.Test.YtamdieinffbdbaaUh
import Derived.Test.YtamdieinffbdbaaUd
import Derived.WalkKit
import Derived.ProofKit
import Derived.OpenShut
import Derived.ShutString
import Derived.ChangeOld
import Derived.Below
namespace Go.Proofs.Ytamdieinffbdbaa.fnExactCacheOk
open Go.ChangeShapes Go.WideShapes Go.ChangeAt Go.RowKit
open Go.ChangeMaps (open_string shut_string)
set_option linter.unusedVariables false

theorem own : ownKnob Try.prog.godebug = none := by kernel_rfl
theorem laidOut : laidOutB Try.prog = true := by kernel_rfl

/-! ### the walk -/
set_option maxRecDepth 100000 in
set_option maxHeartbeats 8000000 in
theorem walk (n0 : Int) (v0 : Value) (KK0 : List ua.Kn) (w : World) (f0 : (Lit.int .i64 n0).wf = true) (w0 : ua.IsKns w v0 KK0) :
    Calls Try.prog 4 #[.agg #[.int .i64 n0, v0]] w fun e w' => e = .returned (.bool true) ∧ Below w.heap.size w w' := by
  obtain ⟨hS, hl0, hl1⟩ := w0
  have g0 := World.grownBy_alloc w (.cells #[.int .i64 n0, v0] 38) none
  have C0 := sl.hide (ua.szCache v0 n0 KK0 1048576 _ (by decide) (by decide) hl0 hl1 (hS.kept g0))
  have S := sl.hide hS
  have F0 := sl.hide (cf.Box.new 38 w (.int .i64 n0) v0)
  have B0 := sl.hide (sl.below_of g0)
  clear hS g0 hl0 hl1
  go_enter Try.func4, Try.ntmps4
  go_wp2_with fail
  refine (sl.unhide C0).mono ?_; rintro e w1 ⟨r, rfl, g1, hr⟩
  have B1 := sl.hide (sl.below_none (sl.unhide B0) g1)
  have F1 := sl.hide ((sl.unhide F0).kept g1)
  clear g1 B0 F0 C0
  rcases hr with rfl | ⟨hr0, hr1⟩
  · go_wp2_with fail
    go_ret
    exact ⟨rfl, sl.unhide B1⟩
  have hn : ua.tot KK0 ≤ 1048576 := by omega
  have hq : ¬ r < 0 := by omega
  have hlen := Nat.le_trans (ua.tot_len KK0) hn
  have hdg : ∀ i, (KK0.getD i ua.kz).dg.size ≤ maxLen := fun i => Nat.le_trans (ua.tot_dg KK0 i) (Nat.le_trans hn (by decide))
  have x0 := (sl.unhide F1).c0
  have x1 := (sl.unhide F1).c1
  go_wp2_with fail
  refine (ua.toCache v0 n0 KK0 _ hn ((sl.unhide S).below (sl.unhide B1))).mono ?_; rintro e w2 ⟨u2, rfl, o2, g2⟩
  clear x0 x1
  have B2 := sl.hide (sl.below_none (sl.unhide B1) g2)
  have F2 := sl.hide ((sl.unhide F1).kept g2)
  have O2 := sl.hide o2
  clear o2 g2 B1 F1
  go_wp2_with fail
  refine (ua.specCacheOk u2 n0 KK0 _ hlen (sl.unhide O2).kns).mono ?_; rintro e w3 ⟨rfl, g3⟩
  have B3 := sl.hide (sl.below_none (sl.unhide B2) g3)
  have F3 := sl.hide ((sl.unhide F2).kept g3)
  clear g3 B2 F2 O2
  have x0 := (sl.unhide F3).c0
  have x1 := (sl.unhide F3).c1
  go_wp2_with fail
  refine (ua.toCache v0 n0 KK0 _ hn ((sl.unhide S).below (sl.unhide B3))).mono ?_; rintro e w4 ⟨u4, rfl, o4, g4⟩
  obtain ⟨a4, c4, rfl⟩ := o4.len
  clear x0 x1
  have g4' := World.grownBy_alloc w4 (.cells #[.int .i64 n0, .slice a4 KK0.length c4] 26) none
  have B4 := sl.hide (sl.below_none (sl.below_none (sl.unhide B3) g4) g4')
  have F4 := sl.hide (((sl.unhide F3).kept g4).kept g4')
  have O4 := sl.hide (o4.kept g4')
  have X4 := sl.hide (cf.Box.new 26 w4 (.int .i64 n0) (.slice a4 KK0.length c4))
  clear o4 g4 g4' B3 F3
  go_wp2_with fail
  refine (ua.implCacheOk (.slice a4 KK0.length c4) n0 KK0 _ hlen hdg (sl.unhide O4).kns).mono ?_; rintro e w5 ⟨rfl, g5⟩
  have B5 := sl.hide (sl.below_none (sl.unhide B4) g5)
  have F5 := sl.hide ((sl.unhide F4).kept g5)
  have O5 := sl.hide ((sl.unhide O4).kept g5)
  have X5 := sl.hide ((sl.unhide X4).kept g5)
  clear g5 B4 F4 O4 X4
  go_upto_region 10 with fail
  go_cut [26] (fun q wx => q = .bool false ∧ Hid (w5.grownBy wx none))
  case first =>
    have T5 := sl.hide (ua.toCache v0 n0 KK0 w5.drew hn (((sl.unhide S).below (sl.unhide B5)).kept (cf.grown_drew w5 none)))
    have E5 := sl.hide (fun u6 w6 (g6 : w5.drew.grownBy w6 none) (o6 : ua.OwnK w5.drew.heap.size w6.heap.size w6 u6 KK0) => ua.eqCache _ u6 n0 KK0 w6 hn ((sl.unhide O5).kept (sl.grown_trans (r := none) (cf.grown_drew w5 none) g6)).kns o6.kns)
    have X5' := sl.hide (fun w6 (g6 : w5.drew.grownBy w6 none) => (sl.unhide X5).kept (sl.grown_trans (r := none) (cf.grown_drew w5 none) g6))
    have G5 := sl.hide (fun w6 w7 (g6 : w5.drew.grownBy w6 none) (g7 : w6.grownBy w7 none) => sl.grown_trans (r := none) (sl.grown_trans (r := none) (cf.grown_drew w5 none) g6) g7)
    have x0 := (sl.unhide F5).c0
    have x1 := (sl.unhide F5).c1
    have y0 := (sl.unhide X5).c0
    have y1 := (sl.unhide X5).c1
    clear F5 O5 X5 S B5
    go_region_with (first
      | (go_at_call 16; refine (sl.unhide T5).mono ?_; rintro e w6 ⟨u6, rfl, o6, g6⟩; have z0 := (sl.unhide X5' w6 g6).c0; have z1 := (sl.unhide X5' w6 g6).c1; have E6 := sl.hide (sl.unhide E5 u6 w6 g6 o6); have G6 := sl.hide (fun w7 => sl.unhide G5 w6 w7 g6); clear g6 o6)
      | (go_at_call 17; refine (sl.unhide E6).mono ?_; rintro e w7 ⟨rfl, g7⟩; have G7 := sl.hide (sl.unhide G6 w7 g7); clear g7))
    all_goals (go_wp2_with fail; go_meet; exact ⟨rfl, G7⟩)
  case rest =>
    obtain ⟨rfl, hg⟩ := hcut
    go_wp2_with fail
    go_ret
    exact ⟨rfl, sl.below_none (sl.unhide B5) (sl.unhide hg)⟩

/-! ### the row's step (the guide's own frame) -/
set_option maxRecDepth 100000 in
theorem lifted (os : Os) (started : os.Started) (H : Type) (enc : TypeId × Value → H) :
    ReturnsInHanded {} Try.checked os 4 .any (Rows.fnExactCacheOkSpec.pre6 enc Try.prog Try.f4 Rows.fnExactCacheOkRow.domain false) (Rows.fnExactCacheOkSpec.post enc Try.prog Try.f4 false true false false) := by
  refine returnsInHanded_of_change (C := Try.checked) own started (by kernel_rfl) Try.func4
    (ChangeSpec.witness6 (enc := enc) (C := Try.checked) false ⟨#[], #[.agg #[.int .i64 0, .slice none 0 0]], []⟩ 8 (by kernel_rfl) (by kernel_rfl) (by kernel_rfl) (by kernel_rfl)) ?_
  intro W base args ds gs before hval0 hW hcnd _
  have hval : ∀ (j : Nat) t v, Try.f4.params[j]? = some t → args[j]? = some v → Value.okWide Try.prog W .any base t v := hval0
  have hW' := hW
  obtain ⟨p, q, hA0, hV, rfl, hfz, hnd⟩ := hW
  have hA : DataW.TrodAll enc Try.prog W 0 (fun _ => true) true Try.f4.params.toList args.toList ds p := hA0
  rw [Try.params4] at hA hval
  obtain ⟨x0, vs0, d0, ds0, p0, q0, hargs, rfl, rfl, h0, r0⟩ := trodAll_cons hA
  obtain ⟨rfl, rfl, rfl⟩ := trodAll_nil r0
  obtain rfl : args = #[x0] := by cases args; simp_all
  obtain ⟨rfl, rfl⟩ := trodVars_none hV
  obtain ⟨cs0, rfl, _⟩ := okWide_struct Try.underlying38 (hval 0 38 _ rfl rfl)
  have k0 := h0
  have lt0 : ∀ x ∈ p0, x.block < W.heap.size := by obtain ⟨m, hm⟩ := k0; exact DataW.trod_lt m _ _ _ hm
  obtain ⟨n0, v0, KK0, e0, f0, w0⟩ : ∃ n v KK, cs0 = #[.int .i64 n, v] ∧ (Lit.int .i64 n).wf = true ∧ ua.IsKns W v KK := by
    obtain ⟨fuel, hf⟩ := h0
    obtain ⟨n, v, KK, e, hw, hv⟩ := ua.open_cache hf
    refine ⟨n, v, KK, ?_, hw, hv⟩
    cases cs0
    simpa [Value.cells] using e
  subst e0
  clear hA0 hval0
  refine (walk n0 v0 KK0 W f0 w0).mono fun e W' ⟨he, bel⟩ => ?_
  subst he
  exact ⟨_, rfl, _, _, _, [], _, [], hW', trodAll_mk1 (shut_bool Try.underlying4 _), (trodAll_cons_mk (Below.trod laidOut (by kernel_rfl) (of_decide_eq_true (by kernel_rfl)) k0 bel lt0) trodAll_mk0), rfl, bel.frame _, fun h => by cases h⟩

theorem over : Rows.fnExactCacheOkRow.holds Try.pinned (OpenSpec.ofChange Rows.fnExactCacheOkSpec) :=
  OpenClaim.holds_of_wide 4 Try.f4 rfl rfl rfl rfl rfl rfl rfl ⟨rfl, rfl, rfl, rfl, rfl⟩ rfl rfl rfl rfl rfl (by kernel_rfl) Try.func4 (by kernel_rfl)
    (of_decide_eq_true (by kernel_rfl)) (by unfold Func.isWrapper; first | (rw [if_pos (by decide +kernel)]; kernel_rfl) | (rw [if_neg (by decide +kernel)]; exact ⟨rfl, rfl⟩))
    (fun os started H enc _ => lifted os started H enc)

/-- the statement -/
theorem proved : Rows.FnExactCacheOkSaid := over
#print axioms proved
end Go.Proofs.Ytamdieinffbdbaa.fnExactCacheOk
