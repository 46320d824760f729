/- At every list of lists of numbers impl.ProofText answers as spec.ProofText and writes nothing into its argument (the law FnExactProofText returns true); the library's tables lie as its text lays them (tied). -/
import Derived.Test.YtgcglpdemolcoaaDoorCards
import Derived.Test.YtgcglpdemolcoaaDoorTie
import Derived.Test.YtgcglpdemolcoaaDoorRow
import Derived.Test.YtgcglpdemolcoaaDoorPt
import Derived.WalkKit
import Derived.ProofKit
import Derived.OpenShut
import Derived.ShutString
import Derived.ChangeOld
import Derived.Below
import Derived.Deep.DeepHandedRow
import Derived.Lib.LaidTab
import Derived.Lib.TrailingZeros
import Derived.Stop.LaidErr
import Derived.LaidHandle
import Derived.LaidSub
namespace Go.Proofs.YtgcglpdemolcoaaDoor.fnExactProofText
open Go.ChangeShapes Go.WideShapes Go.ChangeAt Go.RowKit
open Go.ChangeMaps (open_string shut_string)
set_option linter.unusedVariables false

theorem own : ownKnob Tryd.prog.godebug = none := by kernel_rfl
theorem laidOut : laidOutB Tryd.prog = true := by kernel_rfl

theorem gPowType : (Tryd.prog.globals[4]?).map (·.type) = some 191 := by kernel_rfl
theorem cellsPow : Tryd.prog.cellsOf 191 = 20 := by kernel_rfl
theorem cellsU64 : Tryd.prog.cellsOf 79 = 1 := by kernel_rfl
theorem laid_tail {P : Program} {W : World} {x : String × DataW Unit} {rest : List (String × DataW Unit)} (h : laidMet P (x :: rest) W) : laidMet P rest W := by
  obtain ⟨ps, hv, hn, hc⟩ := h
  obtain ⟨n, d⟩ := x
  obtain ⟨g, t, cs, fuel, p, q, _, _, _, _, hr, rfl⟩ := hv
  exact ⟨q, hr, (List.nodup_append.1 hn).2.1, fun b off hm => hc b off (List.mem_append_right _ hm)⟩
theorem powData : (Rows.laid_internal_strconv_uint64pow10 : DataW Unit) = Lib.tabData .u64 Lib.pow10Tab := by kernel_rfl
/-- what the row's list gives: the table of powers -/
theorem table {W : World} (h : laidMetH Tryd.prog Rows.fnExactProofTextRow.laid W) : txt.Pow W := by
  have h1 : laidMet Tryd.prog Rows.fnExactProofTextRow.laid W := h
  have h2 := laid_tail (laid_tail h1)
  rw [powData] at h2
  have t : Lib.TabIs Tryd.prog W "internal/strconv.uint64pow10" .u64 Lib.pow10Tab :=
    Lib.tabIs_of_head txt.gPow gPowType Tryd.underlying191 Tryd.underlying79 cellsU64 cellsPow h2
  exact ⟨World.block_lt_of_cell? W _ (t.cell txt.gPow 0 (by decide)), t⟩

/-! ### the walk -/
set_option maxRecDepth 100000 in
set_option maxHeartbeats 8000000 in
theorem walk (v0 : Value) (LL0 : List (List Int)) (w : World) (w0 : row.IsRows w v0 LL0) (hT : txt.Pow w) :
    Calls Tryd.prog 14 #[v0] w fun e w' => e = .returned (.bool true) ∧ Below w.heap.size w w' := by
  obtain ⟨hS0, hl0, hk0⟩ := w0
  have S0 := sl.hide hS0
  go_enter Tryd.func14, Tryd.ntmps14
  go_wp2_with fail
  refine (css.szIntSS v0 LL0 1048576 _ (by decide) (by decide) hl0 hk0 hS0).mono ?_; rintro e w' ⟨r0, rfl, hw, hr⟩; have hw' := hw.symm; clear hw; subst hw'
  rcases hr with rfl | ⟨hr0, hr1⟩
  · go_wp2_with fail
    go_ret
    exact ⟨rfl, Below.refl _ _⟩
  have hn0 : css.tot LL0 ≤ 1048576 := by omega
  have hq0 : ¬ r0 < 0 := by omega
  have hl : LL0.length ≤ 1048576 := Nat.le_trans (css.tot_len LL0) hn0
  have hin : Hid (∀ i, (LL0.getD i []).length ≤ 1048576) := fun i => Nat.le_trans (css.tot_in LL0 i) hn0
  have CT := sl.hide (fun (w' : World) (g : w.grownBy w' none) => css.toIntSS v0 LL0 w' hl (sl.unhide hin) (hS0.kept g))
  have TT := sl.hide hT
  clear hr0 hr1 hS0 hl0 hk0 hT
  go_wp2_with fail
  refine (sl.unhide CT _ (sl.grown_refl _)).mono ?_; rintro e w1 ⟨u1, rfl, o1, g1⟩
  obtain ⟨a1, c1, rfl⟩ := o1.len
  have G1 := sl.hide g1
  have C1 := sl.hide (pt.specProofText _ LL0 w1 hn0 o1.sls)
  clear o1 g1
  go_wp2_with fail
  refine (sl.unhide C1).mono ?_; rintro e w1' ⟨rfl, g1'⟩
  replace G1 := sl.hide (sl.grown_trans (r := none) (sl.unhide G1) g1')
  clear C1 g1'
  go_wp2_with fail
  refine (sl.unhide CT _ (sl.unhide G1)).mono ?_; rintro e w2 ⟨u2, rfl, o2, g2⟩
  obtain ⟨a2, c2, rfl⟩ := o2.len
  have G2 := sl.hide (sl.grown_trans (r := none) (sl.unhide G1) g2)
  have C2 := sl.hide (pt.implProofText _ LL0 w2 ((sl.unhide TT).kept (sl.unhide G2)) hn0 o2.sls)
  have O2 := sl.hide o2
  clear o2 g2
  unfold dec.str at *
  generalize pt.prf LL0 = q at *
  go_wp2_with fail
  refine (sl.unhide C2).mono ?_; rintro e w2' ⟨rfl, g2'⟩
  replace G2 := sl.hide (sl.grown_trans (r := none) (sl.unhide G2) g2')
  replace O2 := sl.hide ((sl.unhide O2).kept g2')
  clear C2 g2'
  go_wp2_with fail
  refine (sl.unhide CT _ (sl.unhide G2)).mono ?_; rintro e w3 ⟨u3, rfl, o3, g3⟩
  obtain ⟨a3, c3, rfl⟩ := o3.len
  have G3 := sl.hide (sl.grown_trans (r := none) (sl.unhide G2) g3)
  have C3 := sl.hide (css.eqIntSS _ _ LL0 w3 hl (sl.unhide hin) ((sl.unhide O2).kept g3).sls o3.sls)
  clear o3 g3
  go_wp2_with fail
  refine (sl.unhide C3).mono ?_; rintro e w4 ⟨rfl, g4⟩
  have G4 := sl.hide (sl.grown_trans (r := none) (sl.unhide G3) g4)
  clear g4
  go_wp2_with fail
  go_ret
  exact ⟨rfl, sl.below_of (sl.unhide G4)⟩

/-! ### the row's step (the guide's own frame) -/
set_option maxRecDepth 100000 in
theorem contract (H : Type) (enc : TypeId × Value → H) (W : World) (base : Nat) (args : Array Value) (ds gs : List (DataW H)) (before : List MemPlace)
    (hval : ∀ (j : Nat) t v, Tryd.f14.params[j]? = some t → args[j]? = some v → Value.okWide Tryd.prog W .any base t v)
    (hW : DataW.Whole enc Tryd.prog Tryd.f14.params.toList Rows.fnExactProofTextSpec.vars false W args.toList ds gs before) (hL : laidMetH Tryd.prog Rows.fnExactProofTextRow.laid W) :
    Calls Tryd.prog 14 args W fun e W' => ∃ v, e = .returned v ∧ Rows.fnExactProofTextSpec.post enc Tryd.prog Tryd.f14 false true false false W args v W' := by
  have hW' := hW
  obtain ⟨p, q, hA0, hV, rfl, hfz, hnd⟩ := hW
  have hA : DataW.TrodAll enc Tryd.prog W 0 (fun _ => true) true Tryd.f14.params.toList args.toList ds p := hA0
  rw [Tryd.params14] at hA hval
  obtain ⟨x0, vs0, d0, ds0, p0, q0, hargs, rfl, rfl, h0, r0⟩ := trodAll_cons hA
  obtain ⟨rfl, rfl, rfl⟩ := trodAll_nil r0
  obtain rfl : args = #[x0] := by cases args; simp_all
  obtain ⟨rfl, rfl⟩ := trodVars_none hV
  obtain ⟨sa0, slen0, scap0, rfl⟩ := okWide_slice Tryd.underlying24 (hval 0 24 _ rfl rfl)
  have k0 := h0
  have lt0 : ∀ x ∈ p0, x.block < W.heap.size := by obtain ⟨m, hm⟩ := k0; exact DataW.trod_lt m _ _ _ hm
  obtain ⟨v0, LL0, e0, w0⟩ : ∃ v LL, Value.slice sa0 slen0 scap0 = v ∧ row.IsRows W v LL := by
    obtain ⟨fuel, hf⟩ := h0
    obtain ⟨v, LL, e, hv⟩ := row.open_rows hf
    exact ⟨v, LL, by simpa [Value.cells] using e, hv⟩
  subst e0
  clear hA0
  refine (walk (.slice sa0 slen0 scap0) LL0 W w0 (table hL)).mono fun e W' ⟨he, bel⟩ => ?_
  subst he
  exact ⟨_, rfl, _, _, _, [], _, [], hW', trodAll_mk1 (shut_bool Tryd.underlying4 _), (trodAll_cons_mk (Below.trod laidOut (by kernel_rfl) (of_decide_eq_true (by kernel_rfl)) k0 bel lt0) trodAll_mk0), rfl, bel.frame _, fun h => by cases h⟩

set_option maxRecDepth 100000 in
theorem lifted (os : Os) (started : os.Started) (H : Type) (enc : TypeId × Value → H) (F : Stop.Interp) :
    ReturnsInHanded {} Tryd.checked os 14 .any ((OpenSpec.ofChange Rows.fnExactProofTextSpec).preRow enc Tryd.prog Tryd.f14 Rows.fnExactProofTextRow.domain false Rows.fnExactProofTextRow.laid) (((OpenSpec.ofChange Rows.fnExactProofTextSpec).at F).post enc Tryd.prog Tryd.f14 false true false false) := by
  refine returnsInHanded_of_row (C := Tryd.checked) (s := OpenSpec.ofChange Rows.fnExactProofTextSpec) own started (by kernel_rfl) Tryd.func14
    (witness_row_at (enc := enc) (C := Tryd.checked) false ({ World.holding Tryd.prog os ⟨#[], #[], []⟩ with heap := (((World.holding Tryd.prog os ⟨#[], #[], []⟩).heap.modify 5 fun | .cells _ t frozen => .cells (Lib.deBruijn32tab.map fun (n : Nat) => Value.int .u8 n).toArray t frozen | o => o).modify 0 fun | .cells _ t frozen => .cells (Lib.deBruijn64tab.map fun (n : Nat) => Value.int .u8 n).toArray t frozen | o => o).modify 4 fun | .cells _ t frozen => .cells (Lib.pow10Tab.map fun n => Value.int .u64 n).toArray t frozen | o => o } : World) #[.slice none 0 0] rfl (by kernel_rfl) (by kernel_rfl) (by kernel_rfl)
      (OpenSpec.preRow_of_cond 8 (x := ([.nil], [], [])) (by kernel_rfl) (by kernel_rfl) (fun k hk => by cases hk) (by kernel_rfl) (laidMet_of_run' 8 (by kernel_rfl) (by kernel_rfl)))) ?_
  intro W base args ds gs before hval hW _ _ _ hL _ _
  exact contract H enc W base args ds gs before hval hW hL

theorem said : Rows.FnExactProofTextSaid :=
  OpenClaim.holds_of_cond 14 Tryd.f14 rfl rfl rfl rfl rfl rfl rfl ⟨rfl, rfl, rfl, rfl, rfl⟩ rfl rfl rfl rfl rfl (by kernel_rfl) Tryd.func14 (by kernel_rfl)
    (of_decide_eq_true (by kernel_rfl)) (by unfold Func.isWrapper; first | (rw [if_pos (by decide +kernel)]; kernel_rfl) | (rw [if_neg (by decide +kernel)]; exact ⟨rfl, rfl⟩))
    (fun os started H enc _ F => by rw [OpenClaim.pre_eq_preRow]; exact lifted os started H enc F)

theorem plain (f : FuncId) (fn : Func) (hf : Tryd.pinned.checked.prog.funcNamed "loop.example/g00123/laws.FnExactProofText" = some f) (hfn : Tryd.pinned.checked.prog.funcs[f]? = some fn) :
    true = Tryd.pinned.checked.prog.looks [] ∧ ∀ (j : Nat) t, fn.params[j]? = some t → Tryd.pinned.checked.prog.wantsStandIn t = false := by
  obtain rfl : f = 14 := Option.some.inj ((show Tryd.prog.funcNamed "loop.example/g00123/laws.FnExactProofText" = some 14 by kernel_rfl).symm.trans hf) |>.symm
  obtain rfl : fn = Tryd.f14 := (Option.some.inj (Tryd.func14.symm.trans hfn)).symm
  refine ⟨by kernel_rfl, fun j t ht => ?_⟩
  rw [Tryd.params14] at ht
  obtain rfl : t = 24 := by simpa using Array.mem_of_getElem? ht
  exact (show Tryd.prog.wantsStandIn 24 = false by kernel_rfl)

/-- the statement: the row's tied card -/
theorem proved : Rows.FnExactProofTextCardSaid :=
  Claim7.holds_tied_plain_at .later [] _ _ _ _ said (fun _ h => by cases h) (by kernel_rfl) (fun _ h => by cases h) fnExactProofText_row_tie rfl ⟨rfl, rfl⟩ (by kernel_rfl) rfl plain (by kernel_rfl)
#print axioms proved
end Go.Proofs.YtgcglpdemolcoaaDoor.fnExactProofText
