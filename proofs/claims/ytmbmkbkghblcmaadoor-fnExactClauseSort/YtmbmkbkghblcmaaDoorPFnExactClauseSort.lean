/- At every list of numbers impl.ClauseSort answers as spec.ClauseSort, writes nothing into its argument, and its answer owns its memory (the law FnExactClauseSort returns true); the library's table of places lies as its text lays it (tied). -/
import Derived.Test.YtmbmkbkghblcmaaDoorCards
import Derived.Test.YtmbmkbkghblcmaaDoorTie
import Derived.Test.YtmbmkbkghblcmaaDoorSrtS
import Derived.WalkKit
import Derived.ProofKit
import Derived.OpenShut
import Derived.ShutString
import Derived.ChangeOld
import Derived.Below
import Derived.Deep.DeepHandedRow
import Derived.Lib.LaidTab
import Derived.Lib.TrailingZeros
import Derived.Stop.LaidErr
namespace Go.Proofs.YtmbmkbkghblcmaaDoor.fnExactClauseSort
open Go.ChangeShapes Go.WideShapes Go.ChangeAt Go.RowKit
open Go.ChangeMaps (open_string shut_string)
set_option linter.unusedVariables false

theorem own : ownKnob Tryd.prog.godebug = none := by kernel_rfl
theorem laidOut : laidOutB Tryd.prog = true := by kernel_rfl

/-- what the walk is told of a slice of integers that came in -/
def IsRow (k : IntKind) (w : World) (a : Option Addr) (len cap : Nat) (zs : List Int) : Prop :=
  (a = none ∧ len = 0 ∧ cap = 0 ∧ zs = []) ∨
  ∃ x, a = some x ∧ len ≤ cap ∧ cap ≤ maxLen ∧ zs.length = cap ∧ (∀ i, i < zs.length → w.cell? (x.add i) = some (.int k (zs.getD i 0))) ∧ ∀ n ∈ zs, (Lit.int k n).wf = true

theorem gTab : Tryd.prog.globalNamed "math/bits.deBruijn64tab" = some 0 := by kernel_rfl
theorem gTabType : (Tryd.prog.globals[0]?).map (·.type) = some 102 := by kernel_rfl
theorem cellsTab : Tryd.prog.cellsOf 102 = 64 := by kernel_rfl
theorem cellsByte : Tryd.prog.cellsOf 5 = 1 := by kernel_rfl
/-- what the row's list gives: the table's cells hold its numbers -/
theorem table {W : World} (h : laidMetH Tryd.prog Rows.fnExactClauseSortRow.laid W) : srt.Tab W := by
  have t : Lib.TabIs Tryd.prog W "math/bits.deBruijn64tab" .u8 (Lib.deBruijn64tab.map fun (n : Nat) => (n : Int)) :=
    Lib.tabIs_of_head (rest := []) gTab gTabType Tryd.underlying102 Tryd.underlying5 cellsByte cellsTab h
  intro j hj
  have c := t.cell gTab j (by rw [List.length_map]; exact hj)
  rw [c]
  congr 2
  rw [List.getD, List.getD, List.getElem?_map]
  cases Lib.deBruijn64tab[j]? <;> rfl

/-! ### the walk -/
theorem walk (a0 : Option Addr) (len0 cap0 : Nat) (z0 : List Int) (w : World) (w0 : IsRow .i64 w a0 len0 cap0 z0) (hT : srt.Tab w) :
    Calls Tryd.prog 5 #[.slice a0 len0 cap0] w fun e w' => e = .returned (.bool true) ∧ Below w.heap.size w w' := by
  obtain ⟨L, rfl, hS, _⟩ := sl.of_row w0
  by_cases hbig : 1048576 < L.length
  · have hi : (1048576 : Int) < (L.length : Int) := by omega
    go_enter Tryd.func5, Tryd.ntmps5
    go_wp2
    go_ret
    exact ⟨rfl, Below.refl _ _⟩
  · have hi : ¬ (1048576 : Int) < (L.length : Int) := by omega
    have hL : L.length ≤ 1048576 := by omega
    have hM : (srt.sortL L).length ≤ 1048576 := Nat.le_trans (srt.sortL_len L) (by decide)
    have TT := sl.hide hT
    clear hT
    generalize hBB : srt.sortB L = bb
    have HB := sl.hide hBB
    clear hBB
    have S := sl.hide hS
    clear hS
    go_enter Tryd.func5, Tryd.ntmps5
    go_wp2_with fail
    -- the model's answer
    refine (sl.toIntS _ L _ hL (sl.unhide S)).mono ?_; rintro e w1 ⟨rfl, o1, g1⟩
    have B1 := sl.hide (sl.below_of g1)
    have O1 := sl.hide (sl.Own.of o1)
    clear o1 g1
    go_wp2_with fail
    refine (srt.specClauseSort _ L _ hL (sl.unhide O1).sl).mono ?_; rintro e w2 ⟨u, rfl, o2, g2⟩
    rw [sl.unhide HB]
    have s2 := Nat.le_trans (sl.unhide B1).size (Nat.le_refl _)
    have B2 := sl.hide (sl.below_none (sl.unhide B1) g2)
    have U2 := sl.hide (sl.Own.of o2)
    clear o2 g2 O1 B1
    go_wp2_with fail
    -- the program's
    refine (sl.toIntS _ L _ hL ((sl.unhide S).below (sl.unhide B2))).mono ?_; rintro e w3 ⟨rfl, o3, g3⟩
    have s3 := (sl.unhide B2).size
    have t3 := g3.size
    have B3 := sl.hide (sl.below_none (sl.unhide B2) g3)
    have U3 := sl.hide ((sl.unhide U2).kept g3)
    have X3 := sl.hide (sl.Own.of o3)
    clear o3 g3 B2 U2
    go_wp2_with fail
    refine (srt.implClauseSort _ L _ ((sl.unhide TT).below (sl.unhide B3)) hL (sl.unhide X3).sl).mono ?_; rintro e w4 ⟨v, rfl, o4, g4⟩
    rw [sl.unhide HB]
    have s4 := (sl.unhide B3).size
    have B4 := sl.hide (sl.below_none (sl.unhide B3) g4)
    have U4 := sl.hide ((sl.unhide U3).kept g4)
    have X4 := sl.hide ((sl.unhide X3).kept g4)
    have V4 := sl.hide (sl.Own.of o4)
    clear o4 g4 B3 U3 X3
    go_wp2_with fail
    refine (sl.eqIntS _ _ _ _ hM (sl.unhide V4).sl (sl.unhide U4).sl).mono ?_; rintro e w5 ⟨rfl, g5⟩
    have B5 := sl.hide (sl.below_none (sl.unhide B4) g5)
    have U5 := sl.hide ((sl.unhide U4).kept g5)
    have X5 := sl.hide ((sl.unhide X4).kept g5)
    have V5 := sl.hide ((sl.unhide V4).kept g5)
    clear g5 B4 U4 X4 V4
    go_wp2_with fail
    -- nothing is written into the argument
    refine (sl.toIntS _ L _ hL ((sl.unhide S).below (sl.unhide B5))).mono ?_; rintro e w6 ⟨rfl, o6, g6⟩
    have B6 := sl.hide (sl.below_none (sl.unhide B5) g6)
    have U6 := sl.hide ((sl.unhide U5).kept g6)
    have X6 := sl.hide ((sl.unhide X5).kept g6)
    have V6 := sl.hide ((sl.unhide V5).kept g6)
    have Y6 := sl.hide (sl.Own.of o6)
    clear o6 g6 B5 U5 X5 V5
    go_wp2_with fail
    refine (sl.eqIntS _ _ _ _ hL (sl.unhide X6).sl (sl.unhide Y6).sl).mono ?_; rintro e w7 ⟨rfl, g7⟩
    have B7 := sl.hide (sl.below_none (sl.unhide B6) g7)
    have U7 := sl.hide ((sl.unhide U6).kept g7)
    have X7 := sl.hide ((sl.unhide X6).kept g7)
    have V7 := sl.hide ((sl.unhide V6).kept g7)
    clear g7 B6 U6 X6 V6 Y6
    go_wp2_with fail
    -- marks in the argument don't reach the answer
    refine (sl.markIntS _ L 1 _ _ hL (by decide) (by decide) (sl.unhide X7).1).mono ?_; rintro e w8 ⟨rfl, o8, g8⟩
    have B8 := sl.hide (sl.below_by (sl.unhide B7) (sl.unhide X7) (by omega) g8)
    have U8 := sl.hide ((sl.unhide U7).kept_by (sl.unhide X7) (.inl (Nat.le_refl _)) g8)
    have V8 := sl.hide ((sl.unhide V7).kept_by (sl.unhide X7) (.inr (Nat.le_refl _)) g8)
    clear o8 g8 B7 U7 X7 V7
    have hk : decide ((1 : Int) + (L.length : Int) < 0) = false := decide_eq_false (by omega)
    go_wp2_with fail
    refine (sl.eqIntS _ _ _ _ hM (sl.unhide V8).sl (sl.unhide U8).sl).mono ?_; rintro e w9 ⟨rfl, g9⟩
    have B9 := sl.hide (sl.below_none (sl.unhide B8) g9)
    have U9 := sl.hide ((sl.unhide U8).kept g9)
    have V9 := sl.hide ((sl.unhide V8).kept g9)
    clear g9 B8 U8 V8
    go_wp2_with fail
    -- the answer owns its memory
    refine (sl.markIntS _ (srt.sortL L) 1 _ _ hM (by decide) (by decide) (sl.unhide V9).1).mono ?_; rintro e w10 ⟨rfl, o10, g10⟩
    have B10 := sl.hide (sl.below_by (sl.unhide B9) (sl.unhide V9) (by omega) g10)
    have U10 := sl.hide ((sl.unhide U9).kept_by (sl.unhide V9) (.inl (by omega)) g10)
    have V10 := sl.hide ((sl.unhide V9).marked o10)
    clear o10 g10 B9 U9 V9
    go_wp2_with fail
    refine (sl.heldIntS _ _ 1 _ hM (by decide) (by decide) (sl.unhide V10).sl).mono ?_; rintro e w' ⟨rfl, rfl⟩
    have hq : ¬ (1 : Int) + ((srt.sortL L).length : Int) < 0 := by omega
    go_wp2_with fail
    refine (sl.toIntS _ L _ hL ((sl.unhide S).below (sl.unhide B10))).mono ?_; rintro e w11 ⟨rfl, o11, g11⟩
    have B11 := sl.hide (sl.below_none (sl.unhide B10) g11)
    have U11 := sl.hide ((sl.unhide U10).kept g11)
    have V11 := sl.hide ((sl.unhide V10).kept g11)
    have Y11 := sl.hide (sl.Own.of o11)
    clear o11 g11 B10 U10 V10
    go_wp2_with fail
    refine (srt.implClauseSort _ L _ ((sl.unhide TT).below (sl.unhide B11)) hL (sl.unhide Y11).sl).mono ?_; rintro e w12 ⟨v12, rfl, o12, g12⟩
    rw [sl.unhide HB]
    have B12 := sl.hide (sl.below_none (sl.unhide B11) g12)
    have U12 := sl.hide ((sl.unhide U11).kept g12)
    have V12 := sl.hide ((sl.unhide V11).kept g12)
    have H12 := sl.hide (sl.Own.of o12)
    clear o12 g12 B11 U11 V11 Y11
    go_wp2_with fail
    refine (sl.eqIntS _ _ _ _ hM (sl.unhide H12).sl (sl.unhide U12).sl).mono ?_; rintro e w13 ⟨rfl, g13⟩
    have B13 := sl.hide (sl.below_none (sl.unhide B12) g13)
    have V13 := sl.hide ((sl.unhide V12).kept g13)
    clear g13 B12 U12 V12 H12
    go_wp2_with fail
    refine (sl.heldIntS _ _ 1 _ hM (by decide) (by decide) (sl.unhide V13).sl).mono ?_; rintro e w' ⟨rfl, rfl⟩
    go_wp2_with fail
    go_ret
    exact ⟨rfl, sl.unhide B13⟩

/-! ### the row's step (the guide's own frame) -/
set_option maxRecDepth 100000 in
theorem contract (H : Type) (enc : TypeId × Value → H) (W : World) (base : Nat) (args : Array Value) (ds gs : List (DataW H)) (before : List MemPlace)
    (hval : ∀ (j : Nat) t v, Tryd.f5.params[j]? = some t → args[j]? = some v → Value.okWide Tryd.prog W .any base t v)
    (hW : DataW.Whole enc Tryd.prog Tryd.f5.params.toList Rows.fnExactClauseSortSpec.vars false W args.toList ds gs before) (hL : laidMetH Tryd.prog Rows.fnExactClauseSortRow.laid W) :
    Calls Tryd.prog 5 args W fun e W' => ∃ v, e = .returned v ∧ Rows.fnExactClauseSortSpec.post enc Tryd.prog Tryd.f5 false true false false W args v W' := by
  have hW' := hW
  obtain ⟨p, q, hA0, hV, rfl, hfz, hnd⟩ := hW
  have hA : DataW.TrodAll enc Tryd.prog W 0 (fun _ => true) true Tryd.f5.params.toList args.toList ds p := hA0
  rw [Tryd.params5] at hA hval
  obtain ⟨v0, vs0, d0, ds0, p0, q0, hargs, rfl, rfl, h0, r0⟩ := trodAll_cons hA
  obtain ⟨rfl, rfl, rfl⟩ := trodAll_nil r0
  obtain rfl : args = #[v0] := by cases args; simp_all
  obtain ⟨rfl, rfl⟩ := trodVars_none hV
  obtain ⟨a0, len0, cap0, rfl⟩ := okWide_slice Tryd.underlying24 (hval 0 24 v0 rfl rfl)
  have k0 := h0
  have lt0 : ∀ x ∈ p0, x.block < W.heap.size := by obtain ⟨m, hm⟩ := k0; exact DataW.trod_lt m _ _ _ hm
  obtain ⟨z0, w0⟩ : ∃ zs, IsRow .i64 W a0 len0 cap0 zs := by
    obtain ⟨fuel, hf⟩ := h0
    rcases open_ints Tryd.underlying24 Tryd.underlying3 (by kernel_rfl) hf with ⟨hcs, _⟩ | ⟨x, l, c, zs, hcs, _, hl, hm, hz, _, hcell, hwz⟩
    · simp [Value.cells] at hcs
      obtain ⟨rfl, rfl, rfl⟩ := hcs
      exact ⟨[], .inl ⟨rfl, rfl, rfl, rfl⟩⟩
    · simp [Value.cells] at hcs
      obtain ⟨rfl, rfl, rfl⟩ := hcs
      exact ⟨zs, .inr ⟨_, rfl, hl, hm, by simpa using hz, hcell, hwz⟩⟩
  clear hA0
  refine (walk a0 len0 cap0 z0 W w0 (table hL)).mono fun e W' ⟨he, bel⟩ => ?_
  subst he
  exact ⟨_, rfl, _, _, _, [], _, [], hW', trodAll_mk1 (shut_bool Tryd.underlying4 _), (trodAll_cons_mk (Below.trod laidOut (by kernel_rfl) (of_decide_eq_true (by kernel_rfl)) k0 bel lt0) trodAll_mk0), rfl, bel.frame _, fun h => by cases h⟩

set_option maxRecDepth 100000 in
theorem lifted (os : Os) (started : os.Started) (H : Type) (enc : TypeId × Value → H) (F : Stop.Interp) :
    ReturnsInHanded {} Tryd.checked os 5 .any ((OpenSpec.ofChange Rows.fnExactClauseSortSpec).preRow enc Tryd.prog Tryd.f5 Rows.fnExactClauseSortRow.domain false Rows.fnExactClauseSortRow.laid) (((OpenSpec.ofChange Rows.fnExactClauseSortSpec).at F).post enc Tryd.prog Tryd.f5 false true false false) := by
  refine returnsInHanded_of_row (C := Tryd.checked) (s := OpenSpec.ofChange Rows.fnExactClauseSortSpec) own started (by kernel_rfl) Tryd.func5
    (witness_row_at (enc := enc) (C := Tryd.checked) false ({ World.holding Tryd.prog os ⟨#[], #[], []⟩ with heap := (World.holding Tryd.prog os ⟨#[], #[], []⟩).heap.modify 0 fun | .cells _ t frozen => .cells (Lib.deBruijn64tab.map fun (n : Nat) => Value.int .u8 n).toArray t frozen | o => o } : World) #[.slice none 0 0] rfl (by kernel_rfl) (by kernel_rfl) (by kernel_rfl)
      (OpenSpec.preRow_of_cond 8 (x := ([.nil], [], [])) (by kernel_rfl) (by kernel_rfl) (fun k hk => by cases hk) (by kernel_rfl) (laidMet_of_run' 8 (by kernel_rfl) (by kernel_rfl)))) ?_
  intro W base args ds gs before hval hW _ _ _ hL _ _
  exact contract H enc W base args ds gs before hval hW hL

theorem said : Rows.FnExactClauseSortSaid :=
  OpenClaim.holds_of_cond 5 Tryd.f5 rfl rfl rfl rfl rfl rfl rfl ⟨rfl, rfl, rfl, rfl, rfl⟩ rfl rfl rfl rfl rfl (by kernel_rfl) Tryd.func5 (by kernel_rfl)
    (of_decide_eq_true (by kernel_rfl)) (by unfold Func.isWrapper; first | (rw [if_pos (by decide +kernel)]; kernel_rfl) | (rw [if_neg (by decide +kernel)]; exact ⟨rfl, rfl⟩))
    (fun os started H enc _ F => by rw [OpenClaim.pre_eq_preRow]; exact lifted os started H enc F)

theorem plain (f : FuncId) (fn : Func) (hf : Tryd.pinned.checked.prog.funcNamed "loop.example/g00123/laws.FnExactClauseSort" = some f) (hfn : Tryd.pinned.checked.prog.funcs[f]? = some fn) :
    false = Tryd.pinned.checked.prog.looks [] ∧ ∀ (j : Nat) t, fn.params[j]? = some t → Tryd.pinned.checked.prog.wantsStandIn t = false := by
  obtain rfl : f = 5 := Option.some.inj ((show Tryd.prog.funcNamed "loop.example/g00123/laws.FnExactClauseSort" = some 5 by kernel_rfl).symm.trans hf) |>.symm
  obtain rfl : fn = Tryd.f5 := (Option.some.inj (Tryd.func5.symm.trans hfn)).symm
  refine ⟨by kernel_rfl, fun j t ht => ?_⟩
  rw [Tryd.params5] at ht
  obtain rfl : t = 24 := by simpa using Array.mem_of_getElem? ht
  exact (show Tryd.prog.wantsStandIn 24 = false by kernel_rfl)

/-- the statement: the row's tied card -/
theorem proved : Rows.FnExactClauseSortCardSaid :=
  Claim7.holds_tied_plain_at .later [] _ _ _ _ said (fun _ h => by cases h) (by kernel_rfl) (fun _ h => by cases h) fnExactClauseSort_row_tie rfl ⟨rfl, rfl⟩ (by kernel_rfl) rfl plain (by kernel_rfl)
#print axioms proved
end Go.Proofs.YtmbmkbkghblcmaaDoor.fnExactClauseSort
