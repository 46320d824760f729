/- At every list of numbers impl.ClauseText answers as spec.ClauseText and writes nothing (the law FnExactClauseText returns true); the library's tables lie as their text lays them (tied). -/
import Derived.Test.YtfokbkaommfnoaaDoorCards
import Derived.Test.YtfokbkaommfnoaaDoorTie
import Derived.Test.YtfokbkaommfnoaaDoorLits
import Derived.Test.YtfokbkaommfnoaaDoorSl
import Derived.Test.YtfokbkaommfnoaaDoorCls
import Derived.Test.YtfokbkaommfnoaaDoorDec
import Derived.Test.YtfokbkaommfnoaaDoorTxtM
import Derived.Test.YtfokbkaommfnoaaDoorShf
import Derived.Test.YtfokbkaommfnoaaDoorBld
import Derived.Test.YtfokbkaommfnoaaDoorTxtW
import Derived.WalkKit
import Derived.ProofKit
import Derived.OpenShut
import Derived.ShutString
import Derived.ChangeOld
import Derived.Below
import Derived.Deep.DeepHandedRow
import Derived.Lib.LaidTab
import Derived.Lib.TrailingZeros
import Derived.Stop.LaidErr
import Derived.Stop.LaidTwo
import Derived.LaidHandle
import Derived.LaidSub
namespace Go.Proofs.YtfokbkaommfnoaaDoor.fnExactClauseText
open Go.ChangeShapes Go.WideShapes Go.ChangeAt Go.RowKit
open Go.ChangeMaps (open_string shut_string)
set_option linter.unusedVariables false

theorem own : ownKnob Tryd.prog.godebug = none := by kernel_rfl
theorem laidOut : laidOutB Tryd.prog = true := by kernel_rfl

/-- what the walk is told of a slice of integers that came in -/
def IsRow (k : IntKind) (w : World) (a : Option Addr) (len cap : Nat) (zs : List Int) : Prop :=
  (a = none ∧ len = 0 ∧ cap = 0 ∧ zs = []) ∨
  ∃ x, a = some x ∧ len ≤ cap ∧ cap ≤ maxLen ∧ zs.length = cap ∧ (∀ i, i < zs.length → w.cell? (x.add i) = some (.int k (zs.getD i 0))) ∧ ∀ n ∈ zs, (Lit.int k n).wf = true

theorem gPowType : (Tryd.prog.globals[0]?).map (·.type) = some 56 := by kernel_rfl
theorem cellsPow : Tryd.prog.cellsOf 56 = 20 := by kernel_rfl
theorem cellsU64 : Tryd.prog.cellsOf 49 = 1 := by kernel_rfl
theorem laid_tail {P : Program} {W : World} {x : String × DataW Unit} {rest : List (String × DataW Unit)} (h : laidMet P (x :: rest) W) : laidMet P rest W := by
  obtain ⟨ps, hv, hn, hc⟩ := h
  obtain ⟨n, d⟩ := x
  obtain ⟨g, t, cs, fuel, p, q, _, _, _, _, hr, rfl⟩ := hv
  exact ⟨q, hr, (List.nodup_append.1 hn).2.1, fun b off hm => hc b off (List.mem_append_right _ hm)⟩
theorem powData : (Rows.laid_internal_strconv_uint64pow10 : DataW Unit) = Lib.tabData .u64 Lib.pow10Tab := by kernel_rfl
/-- what the row's list gives: the table of powers -/
theorem table {W : World} (h : laidMetH Tryd.prog Rows.fnExactClauseTextRow.laid W) : txt.Pow W := by
  have h1 : laidMet Tryd.prog Rows.fnExactClauseTextRow.laid W := h
  have h2 := laid_tail (laid_tail h1)
  rw [powData] at h2
  have t : Lib.TabIs Tryd.prog W "internal/strconv.uint64pow10" .u64 Lib.pow10Tab :=
    Lib.tabIs_of_head txt.gPow gPowType Tryd.underlying56 Tryd.underlying49 cellsU64 cellsPow h2
  exact ⟨World.block_lt_of_cell? W _ (t.cell txt.gPow 0 (by decide)), t⟩

/-! ### the walk -/
theorem walk (a0 : Option Addr) (len0 cap0 : Nat) (z0 : List Int) (w : World) (w0 : IsRow .i64 w a0 len0 cap0 z0) (hT : txt.Pow w) :
    Calls Tryd.prog 3 #[.slice a0 len0 cap0] w fun e w' => e = .returned (.bool true) ∧ Below w.heap.size w w' := by
  obtain ⟨L, rfl, hS, _⟩ := sl.of_row w0
  by_cases hbig : 1048576 < L.length
  · have hi : (1048576 : Int) < (L.length : Int) := by omega
    go_enter Tryd.func3, Tryd.ntmps3
    go_wp2
    go_ret
    exact ⟨rfl, Below.refl _ _⟩
  · have hi : ¬ (1048576 : Int) < (L.length : Int) := by omega
    have hL : L.length ≤ 1048576 := by omega
    have S := sl.hide hS
    have TT := sl.hide hT
    clear hS hT
    generalize hX : txt.text L = X
    have HX := sl.hide hX
    clear hX
    go_enter Tryd.func3, Tryd.ntmps3
    go_wp2_with fail
    refine (sl.toIntS _ L _ hL (sl.unhide S)).mono ?_; rintro e w1 ⟨rfl, o1, g1⟩
    have S1 := sl.hide ((sl.unhide S).kept g1 (.inl rfl))
    have G1 := sl.hide g1
    have O1 := sl.hide (sl.Sl.of_own o1)
    clear o1 g1
    go_wp2_with fail
    refine (txt.specClauseText _ L _ hL (sl.unhide O1)).mono ?_; rintro e w' ⟨rfl, hw⟩; have hw' := hw.symm; clear hw; subst hw'
    rw [sl.unhide HX]
    unfold dec.str
    go_wp2_with fail
    refine (sl.toIntS _ L _ hL (sl.unhide S1)).mono ?_; rintro e w2 ⟨rfl, o2, g2⟩
    have S2 := sl.hide ((sl.unhide S1).kept g2 (.inl rfl))
    have G2 := sl.hide (sl.grown_trans (r := none) (sl.unhide G1) g2)
    have O2 := sl.hide (sl.Sl.of_own o2)
    clear o2 g2
    go_wp2_with fail
    refine (txt.implClauseText _ L _ ((sl.unhide TT).kept (sl.unhide G2)) hL (sl.unhide O2)).mono ?_; rintro e w5 ⟨rfl, g5⟩
    have S5 := sl.hide ((sl.unhide S2).kept g5 (.inl rfl))
    have G5 := sl.hide (sl.grown_trans (r := none) (sl.unhide G2) g5)
    have O5 := sl.hide ((sl.unhide O2).kept g5 (.inl rfl))
    clear g5
    rw [sl.unhide HX]
    unfold dec.str
    go_wp2_with fail
    refine (sl.toIntS _ L _ hL (sl.unhide S5)).mono ?_; rintro e w3 ⟨rfl, o3, g3⟩
    have O2' := sl.hide ((sl.unhide O5).kept g3 (.inl rfl))
    have G3 := sl.hide (sl.grown_trans (r := none) (sl.unhide G5) g3)
    have O3 := sl.hide (sl.Sl.of_own o3)
    clear o3 g3
    go_wp2_with fail
    refine (sl.eqIntS _ _ L _ hL (sl.unhide O2') (sl.unhide O3)).mono ?_; rintro e w4 ⟨rfl, g4⟩
    have G4 := sl.hide (sl.grown_trans (r := none) (sl.unhide G3) g4)
    clear g4
    go_wp2_with fail
    go_ret
    exact ⟨rfl, sl.below_of (sl.unhide G4)⟩

/-! ### the row's step (the guide's own frame) -/
set_option maxRecDepth 100000 in
theorem contract (H : Type) (enc : TypeId × Value → H) (W : World) (base : Nat) (args : Array Value) (ds gs : List (DataW H)) (before : List MemPlace)
    (hval : ∀ (j : Nat) t v, Tryd.f3.params[j]? = some t → args[j]? = some v → Value.okWide Tryd.prog W .any base t v)
    (hW : DataW.Whole enc Tryd.prog Tryd.f3.params.toList Rows.fnExactClauseTextSpec.vars false W args.toList ds gs before) (hL : laidMetH Tryd.prog Rows.fnExactClauseTextRow.laid W) :
    Calls Tryd.prog 3 args W fun e W' => ∃ v, e = .returned v ∧ Rows.fnExactClauseTextSpec.post enc Tryd.prog Tryd.f3 false true false false W args v W' := by
  have hW' := hW
  obtain ⟨p, q, hA0, hV, rfl, hfz, hnd⟩ := hW
  have hA : DataW.TrodAll enc Tryd.prog W 0 (fun _ => true) true Tryd.f3.params.toList args.toList ds p := hA0
  rw [Tryd.params3] at hA hval
  obtain ⟨v0, vs0, d0, ds0, p0, q0, hargs, rfl, rfl, h0, r0⟩ := trodAll_cons hA
  obtain ⟨rfl, rfl, rfl⟩ := trodAll_nil r0
  obtain rfl : args = #[v0] := by cases args; simp_all
  obtain ⟨rfl, rfl⟩ := trodVars_none hV
  obtain ⟨a0, len0, cap0, rfl⟩ := okWide_slice Tryd.underlying22 (hval 0 22 v0 rfl rfl)
  have k0 := h0
  have lt0 : ∀ x ∈ p0, x.block < W.heap.size := by obtain ⟨m, hm⟩ := k0; exact DataW.trod_lt m _ _ _ hm
  obtain ⟨z0, w0⟩ : ∃ zs, IsRow .i64 W a0 len0 cap0 zs := by
    obtain ⟨fuel, hf⟩ := h0
    rcases open_ints Tryd.underlying22 Tryd.underlying3 (by kernel_rfl) hf with ⟨hcs, _⟩ | ⟨x, l, c, zs, hcs, _, hl, hm, hz, _, hcell, hwz⟩
    · simp [Value.cells] at hcs
      obtain ⟨rfl, rfl, rfl⟩ := hcs
      exact ⟨[], .inl ⟨rfl, rfl, rfl, rfl⟩⟩
    · simp [Value.cells] at hcs
      obtain ⟨rfl, rfl, rfl⟩ := hcs
      exact ⟨zs, .inr ⟨_, rfl, hl, hm, by simpa using hz, hcell, hwz⟩⟩
  clear hA0
  refine (walk a0 len0 cap0 z0 W w0 (table hL)).mono fun e W' ⟨he, bel⟩ => ?_
  subst he
  exact ⟨_, rfl, _, _, _, [], _, [], hW', trodAll_mk1 (shut_bool Tryd.underlying4 _), (trodAll_cons_mk (Below.trod laidOut (by kernel_rfl) (of_decide_eq_true (by kernel_rfl)) k0 bel lt0) trodAll_mk0), rfl, bel.frame _, fun h => by cases h⟩

set_option maxRecDepth 100000 in
theorem lifted (os : Os) (started : os.Started) (H : Type) (enc : TypeId × Value → H) (F : Stop.Interp) :
    ReturnsInHanded {} Tryd.checked os 3 .any ((OpenSpec.ofChange Rows.fnExactClauseTextSpec).preRow enc Tryd.prog Tryd.f3 Rows.fnExactClauseTextRow.domain false Rows.fnExactClauseTextRow.laid) (((OpenSpec.ofChange Rows.fnExactClauseTextSpec).at F).post enc Tryd.prog Tryd.f3 false true false false) := by
  refine returnsInHanded_of_row (C := Tryd.checked) (s := OpenSpec.ofChange Rows.fnExactClauseTextSpec) own started (by kernel_rfl) Tryd.func3
    (witness_row_at (enc := enc) (C := Tryd.checked) false ({ World.holding Tryd.prog os ⟨#[], #[], []⟩ with heap := (((World.holding Tryd.prog os ⟨#[], #[], []⟩).heap.modify 1 fun | .cells _ t frozen => .cells (Lib.deBruijn32tab.map fun (n : Nat) => Value.int .u8 n).toArray t frozen | o => o).modify 2 fun | .cells _ t frozen => .cells (Lib.deBruijn64tab.map fun (n : Nat) => Value.int .u8 n).toArray t frozen | o => o).modify 0 fun | .cells _ t frozen => .cells (Lib.pow10Tab.map fun n => Value.int .u64 n).toArray t frozen | o => o } : World) #[.slice none 0 0] rfl (by kernel_rfl) (by kernel_rfl) (by kernel_rfl)
      (OpenSpec.preRow_of_cond 8 (x := ([.nil], [], [])) (by kernel_rfl) (by kernel_rfl) (fun k hk => by cases hk) (by kernel_rfl) (laidMet_of_run' 8 (by kernel_rfl) (by kernel_rfl)))) ?_
  intro W base args ds gs before hval hW _ _ _ hL _ _
  exact contract H enc W base args ds gs before hval hW hL

theorem said : Rows.FnExactClauseTextSaid :=
  OpenClaim.holds_of_cond 3 Tryd.f3 rfl rfl rfl rfl rfl rfl rfl ⟨rfl, rfl, rfl, rfl, rfl⟩ rfl rfl rfl rfl rfl (by kernel_rfl) Tryd.func3 (by kernel_rfl)
    (of_decide_eq_true (by kernel_rfl)) (by unfold Func.isWrapper; first | (rw [if_pos (by decide +kernel)]; kernel_rfl) | (rw [if_neg (by decide +kernel)]; exact ⟨rfl, rfl⟩))
    (fun os started H enc _ F => by rw [OpenClaim.pre_eq_preRow]; exact lifted os started H enc F)

theorem plain (f : FuncId) (fn : Func) (hf : Tryd.pinned.checked.prog.funcNamed "loop.example/g00123/laws.FnExactClauseText" = some f) (hfn : Tryd.pinned.checked.prog.funcs[f]? = some fn) :
    false = Tryd.pinned.checked.prog.looks [] ∧ ∀ (j : Nat) t, fn.params[j]? = some t → Tryd.pinned.checked.prog.wantsStandIn t = false := by
  obtain rfl : f = 3 := Option.some.inj ((show Tryd.prog.funcNamed "loop.example/g00123/laws.FnExactClauseText" = some 3 by kernel_rfl).symm.trans hf) |>.symm
  obtain rfl : fn = Tryd.f3 := (Option.some.inj (Tryd.func3.symm.trans hfn)).symm
  refine ⟨by kernel_rfl, fun j t ht => ?_⟩
  rw [Tryd.params3] at ht
  obtain rfl : t = 22 := by simpa using Array.mem_of_getElem? ht
  exact (show Tryd.prog.wantsStandIn 22 = false by kernel_rfl)

/-- the statement: the row's tied card -/
theorem proved : Rows.FnExactClauseTextCardSaid :=
  Claim7.holds_tied_plain_at .later [] _ _ _ _ said (fun _ h => by cases h) (by kernel_rfl) (fun _ h => by cases h) fnExactClauseText_row_tie rfl ⟨rfl, rfl⟩ (by kernel_rfl) rfl plain (by kernel_rfl)
#print axioms proved
end Go.Proofs.YtfokbkaommfnoaaDoor.fnExactClauseText
