/- At every eight words and every text impl.SumBlock answers as spec.SumBlock and writes nothing that was there (the law FnExactSumBlock returns true); the program's table lies as its text lays it (tied). -/
import Derived.Test.YtfmmdnikeoloeaaDoorCards
import Derived.Test.YtfmmdnikeoloeaaDoorTie
import Derived.OpenVars
import Derived.Test.YtfmmdnikeoloeaaDoorZt
import Derived.Test.YtfmmdnikeoloeaaDoorZn
import Derived.WalkKit
import Derived.ProofKit
import Derived.OpenShut
import Derived.ShutString
import Derived.ChangeOld
import Derived.Below
import Derived.Deep.DeepHandedRow
import Derived.Lib.LaidTab
import Derived.Lib.TrailingZeros
import Derived.Stop.LaidErr
import Derived.LaidHandle
import Derived.LaidSub
namespace Go.Proofs.YtfmmdnikeoloeaaDoor.fnExactSumBlock
open Go.ChangeShapes Go.WideShapes Go.ChangeAt Go.RowKit
open Go.ChangeMaps (open_string shut_string)
set_option linter.unusedVariables false

theorem own : ownKnob Tryd.prog.godebug = none := by kernel_rfl
theorem laidOut : laidOutB Tryd.prog = true := by kernel_rfl

theorem laidOutV : laidOutB Tryd.prog = true := by kernel_rfl
theorem vars1 {H : Type} {enc : TypeId × Value → H} {P : Program} {w : World} {sp : Nat → Bool} {n : String} {gs : List (DataW H)} {ps : List MemPlace} (h : DataW.TrodVars enc P w sp [n] gs ps) : ∃ g, gs = [g] := by
  cases gs with
  | nil => exact h.elim
  | cons g t =>
    obtain ⟨_, _, _, _, _, _, _, _, _, _, hs, _⟩ := h
    cases t with
    | nil => exact ⟨g, rfl⟩
    | cons _ _ => exact hs.elim
theorem vars2 {H : Type} {enc : TypeId × Value → H} {P : Program} {w : World} {sp : Nat → Bool} {n m : String} {gs : List (DataW H)} {ps : List MemPlace} (h : DataW.TrodVars enc P w sp [n, m] gs ps) : ∃ g k, gs = [g, k] := by
  cases gs with
  | nil => exact h.elim
  | cons g t =>
    obtain ⟨_, _, _, _, _, _, _, _, _, _, hs, _⟩ := h
    obtain ⟨k, rfl⟩ := vars1 hs
    exact ⟨g, k, rfl⟩
theorem gK : Tryd.prog.globalNamed "loop.example/g00123/impl.sumConsts" = some 1 := by kernel_rfl
theorem tyK : (Tryd.prog.globals[1]?).map (·.type) = some 62 := by kernel_rfl
theorem cellsK : Tryd.prog.cellsOf 62 = 64 := by kernel_rfl
theorem dataK : (Rows.laid_loop_example_g00123_impl_sumConsts : DataW Unit) = Lib.tabData .u32 zk.kL := by kernel_rfl
theorem cellsW : Tryd.prog.cellsOf 26 = 1 := by kernel_rfl
theorem laid_tail {P : Program} {W : World} {x : String × DataW Unit} {rest : List (String × DataW Unit)} (h : laidMet P (x :: rest) W) : laidMet P rest W := by
  obtain ⟨ps, hv, hn, hc⟩ := h
  obtain ⟨n, d⟩ := x
  obtain ⟨g, t, cs, fuel, p, q, _, _, _, _, hr, rfl⟩ := hv
  exact ⟨q, hr, (List.nodup_append.1 hn).2.1, fun b off hm => hc b off (List.mem_append_right _ hm)⟩
/-- what the row's list gives: the tables as they lie -/
theorem table {W : World} (h : laidMetH Tryd.prog Rows.fnExactSumBlockRow.laid W) : zk.TabK W := by
  have h1 : laidMet Tryd.prog Rows.fnExactSumBlockRow.laid W := h
  have h10 := h1
  have tK : zk.TabK W := by
    have hh : laidMet Tryd.prog (("loop.example/g00123/impl.sumConsts", Lib.tabData .u32 zk.kL) :: []) W := by
      rw [← dataK]
      exact h10
    have t : Lib.TabIs Tryd.prog W "loop.example/g00123/impl.sumConsts" .u32 zk.kL :=
      Lib.tabIs_of_head gK tyK Tryd.underlying62 Tryd.underlying26 cellsW cellsK hh
    exact fun j hj => t.cell gK j hj
  exact tK

/-! ### the walk -/
set_option maxRecDepth 100000 in
set_option maxHeartbeats 8000000 in
theorem walk (L0 : List Int) (a1 : ByteArray) (w : World) (w0 : zl.Wd8 L0) (w1 : a1.size ≤ maxLen) (hT : zk.TabK w) :
    Calls Tryd.prog 7 #[zl.v8 L0, .string a1] w fun e w' => e = .returned (.bool true) ∧ Below w.heap.size w w' := by
  by_cases hbig : 1048576 < a1.size
  · have hi : (1048576 : Int) < (a1.size : Int) := by omega
    obtain ⟨a, b, c, d, e, f, g, i, rfl, _⟩ := zl.wd8_parts w0
    show Calls Tryd.prog 7 #[.agg #[.int .u32 a, .int .u32 b, .int .u32 c, .int .u32 d, .int .u32 e, .int .u32 f, .int .u32 g, .int .u32 i], .string a1] w fun e w' => e = .returned (.bool true) ∧ Below w.heap.size w w'
    have G := sl.hide (sl.below_of (World.grownBy_alloc w (.cells #[.int .u32 a, .int .u32 b, .int .u32 c, .int .u32 d, .int .u32 e, .int .u32 f, .int .u32 g, .int .u32 i] 27) none))
    clear w0
    go_enter Tryd.func7, Tryd.ntmps7
    go_wp2
    go_ret
    exact ⟨rfl, sl.unhide G⟩
  · have hi : ¬ (1048576 : Int) < (a1.size : Int) := by omega
    have hs : a1.size ≤ 1048576 := by omega
    have hB := zm.blk_wd w0 a1
    have CT := sl.hide (fun w => zt.toA8 L0 w w0)
    have CS := sl.hide (fun w => zn.specSumBlock L0 a1 w w0 hs)
    have CI := sl.hide (fun w h => zm.implSumBlock L0 a1 w w0 hs h)
    have CE := sl.hide (fun w => zt.eqA8 (zm.blk L0 a1) w hB)
    have TT := sl.hide hT
    obtain ⟨a, b, c, d, e, f, g, i, hE, _⟩ := zl.wd8_parts w0
    obtain ⟨a2, b2, c2, d2, e2, f2, g2, i2, hE2, _⟩ := zl.wd8_parts hB
    rw [hE2] at CS CI CE
    rw [hE] at CT CS CI
    rw [hE]
    have CT' : Hid (∀ w, Calls Tryd.prog 30 #[.agg #[.int .u32 a, .int .u32 b, .int .u32 c, .int .u32 d, .int .u32 e, .int .u32 f, .int .u32 g, .int .u32 i]] w fun r w' => r = .returned (.agg #[.int .u32 a, .int .u32 b, .int .u32 c, .int .u32 d, .int .u32 e, .int .u32 f, .int .u32 g, .int .u32 i]) ∧ w.grownBy w' none) := sl.unhide CT
    have CS' : Hid (∀ w, Calls Tryd.prog 29 #[.agg #[.int .u32 a, .int .u32 b, .int .u32 c, .int .u32 d, .int .u32 e, .int .u32 f, .int .u32 g, .int .u32 i], .string a1] w fun r w' => r = .returned (.agg #[.int .u32 a2, .int .u32 b2, .int .u32 c2, .int .u32 d2, .int .u32 e2, .int .u32 f2, .int .u32 g2, .int .u32 i2]) ∧ w.grownBy w' none) := sl.unhide CS
    have CI' : Hid (∀ w, zk.TabK w → Calls Tryd.prog 15 #[.agg #[.int .u32 a, .int .u32 b, .int .u32 c, .int .u32 d, .int .u32 e, .int .u32 f, .int .u32 g, .int .u32 i], .string a1] w fun r w' => r = .returned (.agg #[.int .u32 a2, .int .u32 b2, .int .u32 c2, .int .u32 d2, .int .u32 e2, .int .u32 f2, .int .u32 g2, .int .u32 i2]) ∧ w.grownBy w' none) := sl.unhide CI
    have CE' : Hid (∀ w, Calls Tryd.prog 31 #[.agg #[.int .u32 a2, .int .u32 b2, .int .u32 c2, .int .u32 d2, .int .u32 e2, .int .u32 f2, .int .u32 g2, .int .u32 i2], .agg #[.int .u32 a2, .int .u32 b2, .int .u32 c2, .int .u32 d2, .int .u32 e2, .int .u32 f2, .int .u32 g2, .int .u32 i2]] w fun r w' => r = .returned (.bool true) ∧ w.grownBy w' none) := sl.unhide CE
    show Calls Tryd.prog 7 #[.agg #[.int .u32 a, .int .u32 b, .int .u32 c, .int .u32 d, .int .u32 e, .int .u32 f, .int .u32 g, .int .u32 i], .string a1] w fun e w' => e = .returned (.bool true) ∧ Below w.heap.size w w'
    have B0 := sl.hide (zm.Bx.new w [a, b, c, d, e, f, g, i])
    have G0 := sl.hide (World.grownBy_alloc w (.cells (zs.ints [a, b, c, d, e, f, g, i]).toArray 27) none)
    clear CT CS CI CE hE hE2 hB w0 hT
    go_enter Tryd.func7, Tryd.ntmps7
    go_wp2_with fail
    refine (sl.unhide CT' _).mono ?_; rintro r w1 ⟨rfl, g1⟩
    have B1 := sl.hide ((sl.unhide B0).kept g1)
    have G1 := sl.hide (sl.grown_trans (r := none) (sl.unhide G0) g1)
    clear g1 B0 G0
    go_wp2_with fail
    refine (sl.unhide CS' _).mono ?_; rintro r w2 ⟨rfl, g2'⟩
    have ga := World.grownBy_alloc w2 (.cells (zs.ints [a2, b2, c2, d2, e2, f2, g2, i2]).toArray 27) none
    have B2 := sl.hide (((sl.unhide B1).kept g2').kept ga)
    have G2 := sl.hide (sl.grown_trans (r := none) (sl.grown_trans (r := none) (sl.unhide G1) g2') ga)
    have Q2 := sl.hide (zm.Bx.new w2 [a2, b2, c2, d2, e2, f2, g2, i2])
    obtain ⟨q0, q1, q2, q3, q4, q5, q6, q7, _⟩ := ((sl.unhide B1).kept g2').parts
    have hne : ¬ w.heap.size = w2.heap.size := by have := ((sl.unhide B1).kept g2').lt; omega
    have hlt2 : w.heap.size < w2.heap.size := ((sl.unhide B1).kept g2').lt
    clear g2' B1 G1 CS' ga
    go_wp2_with fail
    refine (sl.unhide CT' _).mono ?_; rintro r w3 ⟨rfl, g3⟩
    have G3 := sl.hide (sl.grown_trans (r := none) (sl.unhide G2) g3)
    have Q3 := sl.hide ((sl.unhide Q2).kept g3)
    clear g3 G2 Q2 B2 q0 q1 q2 q3 q4 q5 q6 q7
    go_wp2_with fail
    refine (sl.unhide CI' _ ((sl.unhide TT).kept (sl.unhide G3))).mono ?_; rintro r w4 ⟨rfl, g4⟩
    have ga := World.grownBy_alloc w4 (.cells (zs.ints [a2, b2, c2, d2, e2, f2, g2, i2]).toArray 27) none
    have G4 := sl.hide (sl.grown_trans (r := none) (sl.grown_trans (r := none) (sl.unhide G3) g4) ga)
    obtain ⟨q0, q1, q2, q3, q4, q5, q6, q7, _⟩ := ((sl.unhide Q3).kept g4).parts
    have hne3 : ¬ w2.heap.size = w4.heap.size := by have := ((sl.unhide Q3).kept g4).lt; omega
    have hlt4 : w2.heap.size < w4.heap.size := ((sl.unhide Q3).kept g4).lt
    clear g4 G3 Q3 CI' ga CT' TT
    go_wp2_with fail
    refine (sl.unhide CE' _).mono ?_; rintro r w5 ⟨rfl, g5⟩
    have G5 := sl.hide (sl.grown_trans (r := none) (sl.unhide G4) g5)
    clear g5 G4 CE' q0 q1 q2 q3 q4 q5 q6 q7
    go_wp2_with fail
    go_ret
    exact ⟨rfl, sl.below_of (sl.unhide G5)⟩

/-! ### the row's step (the guide's own frame) -/
set_option maxRecDepth 100000 in
theorem contract (H : Type) (enc : TypeId × Value → H) (W : World) (base : Nat) (args : Array Value) (ds gs : List (DataW H)) (before : List MemPlace)
    (hval : ∀ (j : Nat) t v, Tryd.f7.params[j]? = some t → args[j]? = some v → Value.okWide Tryd.prog W .any base t v)
    (hW : DataW.Whole enc Tryd.prog Tryd.f7.params.toList Rows.fnExactSumBlockSpec.vars false W args.toList ds gs before) (hL : laidMetH Tryd.prog Rows.fnExactSumBlockRow.laid W) :
    Calls Tryd.prog 7 args W fun e W' => ∃ v, e = .returned v ∧ Rows.fnExactSumBlockSpec.post enc Tryd.prog Tryd.f7 false true false false W args v W' := by
  have hW' := hW
  obtain ⟨p, q, hA0, hV, rfl, hfz, hnd⟩ := hW
  have hA : DataW.TrodAll enc Tryd.prog W 0 (fun _ => true) true Tryd.f7.params.toList args.toList ds p := hA0
  rw [Tryd.params7] at hA hval
  obtain ⟨x0, vs0, d0, ds0, p0, q0, hargs, rfl, rfl, h0, r0⟩ := trodAll_cons hA
  obtain ⟨x1, vs1, d1, ds1, p1, q1, rfl, rfl, rfl, h1, r1⟩ := trodAll_cons r0
  obtain ⟨rfl, rfl, rfl⟩ := trodAll_nil r1
  obtain rfl : args = #[x0, x1] := by cases args; simp_all
  obtain ⟨g0, rfl⟩ := vars1 hV
  obtain ⟨cs0, rfl, _⟩ : ∃ cs, x0 = .agg cs ∧ cs.size = Tryd.prog.cellsOf 27 := by
    have h := hval 0 27 _ rfl rfl
    simp only [Value.okWide, Tryd.underlying27] at h
    obtain ⟨cs, h1, h2, _⟩ := h
    exact ⟨cs, h1, h2⟩
  have k0 := h0
  have lt0 : ∀ x ∈ p0, x.block < W.heap.size := by obtain ⟨m, hm⟩ := k0; exact DataW.trod_lt m _ _ _ hm
  obtain ⟨L0, e0, w0⟩ : ∃ L : List Int, cs0 = (L.map (Value.int .u32)).toArray ∧ zl.Wd8 L := by
    obtain ⟨fuel, hf⟩ := h0
    obtain ⟨L, e, hw⟩ := zt.open_a8 hf
    refine ⟨L, ?_, hw⟩
    cases cs0
    simpa [Value.cells] using e
  subst e0
  have k1 := h1
  have lt1 : ∀ x ∈ p1, x.block < W.heap.size := by obtain ⟨m, hm⟩ := k1; exact DataW.trod_lt m _ _ _ hm
  obtain ⟨a1, rfl, rfl, rfl, w1⟩ := open_string Tryd.underlying9 (hval 1 9 _ rfl rfl) h1
  clear hA0
  refine (walk L0 a1 W w0 w1 (table hL)).mono fun e W' ⟨he, bel⟩ => ?_
  subst he
  exact ⟨_, rfl, _, _, _, [], _, _, hW', trodAll_mk1 (shut_bool Tryd.underlying4 _), (trodAll_cons_mk (Below.trod laidOut (by kernel_rfl) (of_decide_eq_true (by kernel_rfl)) k0 bel lt0) (trodAll_cons_mk (Below.trod laidOut (by kernel_rfl) (of_decide_eq_true (by kernel_rfl)) k1 bel lt1) trodAll_mk0)), Below.trodVars laidOutV bel (by kernel_rfl) hV, bel.frame _, fun h => by cases h⟩

set_option maxRecDepth 100000 in
theorem lifted (os : Os) (started : os.Started) (H : Type) (enc : TypeId × Value → H) (F : Stop.Interp) :
    ReturnsInHanded {} Tryd.checked os 7 .any ((OpenSpec.ofChange Rows.fnExactSumBlockSpec).preRow enc Tryd.prog Tryd.f7 Rows.fnExactSumBlockRow.domain false Rows.fnExactSumBlockRow.laid) (((OpenSpec.ofChange Rows.fnExactSumBlockSpec).at F).post enc Tryd.prog Tryd.f7 false true false false) := by
  refine returnsInHanded_of_row (C := Tryd.checked) (s := OpenSpec.ofChange Rows.fnExactSumBlockSpec) own started (by kernel_rfl) Tryd.func7
    (witness_row_at (enc := enc) (C := Tryd.checked) false ({ World.holding Tryd.prog os ⟨#[], #[], []⟩ with heap := ((World.holding Tryd.prog os ⟨#[], #[], []⟩).heap.modify 1 fun | .cells _ t frozen => .cells (zk.kL.map fun n => Value.int .u32 n).toArray t frozen | o => o) } : World) #[.agg #[.int .u32 0, .int .u32 0, .int .u32 0, .int .u32 0, .int .u32 0, .int .u32 0, .int .u32 0, .int .u32 0], .string ByteArray.empty] rfl (by kernel_rfl) (by kernel_rfl) (by kernel_rfl)
      (OpenSpec.preRow_of_cond 8 (x := ([.agg [.lit (.int .u32 0), .lit (.int .u32 0), .lit (.int .u32 0), .lit (.int .u32 0), .lit (.int .u32 0), .lit (.int .u32 0), .lit (.int .u32 0), .lit (.int .u32 0)], .lit (.string [])], [Rows.laid_loop_example_g00123_impl_sumConsts], MemPlace.row ⟨1, 0, none⟩ 64)) (by kernel_rfl) (by kernel_rfl) (fun k hk => by cases hk) (by kernel_rfl) (laidMet_of_run' 8 (by kernel_rfl) (by kernel_rfl)))) ?_
  intro W base args ds gs before hval hW _ _ _ hL _ _
  exact contract H enc W base args ds gs before hval hW hL

theorem said : Rows.FnExactSumBlockSaid :=
  OpenClaim.holds_of_cond 7 Tryd.f7 rfl rfl rfl rfl rfl rfl rfl ⟨rfl, rfl, rfl, rfl, rfl⟩ rfl rfl rfl rfl rfl (by kernel_rfl) Tryd.func7 (by kernel_rfl)
    (of_decide_eq_true (by kernel_rfl)) (by unfold Func.isWrapper; first | (rw [if_pos (by decide +kernel)]; kernel_rfl) | (rw [if_neg (by decide +kernel)]; exact ⟨rfl, rfl⟩))
    (fun os started H enc _ F => by rw [OpenClaim.pre_eq_preRow]; exact lifted os started H enc F)

theorem plain (f : FuncId) (fn : Func) (hf : Tryd.pinned.checked.prog.funcNamed "loop.example/g00123/laws.FnExactSumBlock" = some f) (hfn : Tryd.pinned.checked.prog.funcs[f]? = some fn) :
    false = Tryd.pinned.checked.prog.looks [] ∧ ∀ (j : Nat) t, fn.params[j]? = some t → Tryd.pinned.checked.prog.wantsStandIn t = false := by
  obtain rfl : f = 7 := Option.some.inj ((show Tryd.prog.funcNamed "loop.example/g00123/laws.FnExactSumBlock" = some 7 by kernel_rfl).symm.trans hf) |>.symm
  obtain rfl : fn = Tryd.f7 := (Option.some.inj (Tryd.func7.symm.trans hfn)).symm
  refine ⟨by kernel_rfl, fun j t ht => ?_⟩
  rw [Tryd.params7] at ht
  rcases (show t = 27 ∨ t = 9 by simpa using Array.mem_of_getElem? ht) with rfl | rfl
  · exact (show Tryd.prog.wantsStandIn 27 = false by kernel_rfl)
  · exact (show Tryd.prog.wantsStandIn 9 = false by kernel_rfl)

/-- the statement: the row's tied card -/
theorem proved : Rows.FnExactSumBlockCardSaid :=
  Claim7.holds_tied_plain_at .later [] _ _ _ _ said (fun _ h => by cases h) (by kernel_rfl) (fun _ h => by cases h) fnExactSumBlock_row_tie rfl ⟨rfl, rfl⟩ (by kernel_rfl) rfl plain (by kernel_rfl)
#print axioms proved
end Go.Proofs.YtfmmdnikeoloeaaDoor.fnExactSumBlock
