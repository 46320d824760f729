/- For all bytes the law FnLeaves returns true: impl.Leaves answers as spec.Leaves at what it draws, and a clause that follows at once is implied; the library's table of places lies as its text lays it (tied). -/
import Derived.Test.YtloenjaonkdlaaaDoorCards
import Derived.Test.YtloenjaonkdlaaaDoorTie
import Derived.Test.YtloenjaonkdlaaaDoorJWat
import Derived.Test.YtloenjaonkdlaaaDoorMl
import Derived.Test.YtloenjaonkdlaaaDoorDm
import Derived.WalkKit
import Derived.ProofKit
import Derived.OpenShut
import Derived.ShutString
import Derived.ChangeOld
import Derived.Below
import Derived.Deep.DeepHandedRow
import Derived.Lib.LaidTab
import Derived.Lib.TrailingZeros
import Derived.Stop.LaidErr
import Derived.LaidHandle
import Derived.LaidSub
namespace Go.Proofs.YtloenjaonkdlaaaDoor.fnLeaves
open Go.ChangeShapes Go.WideShapes Go.ChangeAt Go.RowKit
open Go.ChangeMaps (open_string shut_string)
set_option linter.unusedVariables false

theorem own : ownKnob Tryd.prog.godebug = none := by kernel_rfl
theorem laidOut : laidOutB Tryd.prog = true := by kernel_rfl

/-- what the walk is told of a slice of integers that came in -/
def IsRow (k : IntKind) (w : World) (a : Option Addr) (len cap : Nat) (zs : List Int) : Prop :=
  (a = none ∧ len = 0 ∧ cap = 0 ∧ zs = []) ∨
  ∃ x, a = some x ∧ len ≤ cap ∧ cap ≤ maxLen ∧ zs.length = cap ∧ (∀ i, i < zs.length → w.cell? (x.add i) = some (.int k (zs.getD i 0))) ∧ ∀ n ∈ zs, (Lit.int k n).wf = true

theorem gTab : Tryd.prog.globalNamed "math/bits.deBruijn64tab" = some 1 := by kernel_rfl
theorem gTabType : (Tryd.prog.globals[1]?).map (·.type) = some 174 := by kernel_rfl
theorem cellsTab : Tryd.prog.cellsOf 174 = 64 := by kernel_rfl
theorem cellsByte : Tryd.prog.cellsOf 5 = 1 := by kernel_rfl
/-- what the row's list gives: the table's cells hold its numbers -/
theorem table {W : World} (h : laidMetH Tryd.prog Rows.fnLeavesRow.laid W) : srt.Tab W := by
  have t : Lib.TabIs Tryd.prog W "math/bits.deBruijn64tab" .u8 (Lib.deBruijn64tab.map fun (n : Nat) => (n : Int)) :=
    Lib.tabIs_of_head (rest := []) gTab gTabType Tryd.underlying174 Tryd.underlying5 cellsByte cellsTab h
  intro j hj
  have c := t.cell gTab j (by rw [List.length_map]; exact hj)
  rw [c]
  congr 2
  rw [List.getD, List.getD, List.getElem?_map]
  cases Lib.deBruijn64tab[j]? <;> rfl

/-! ### the walk -/
theorem walk (a0 : Option Addr) (len0 cap0 : Nat) (z0 : List Int) (w : World) (w0 : IsRow .u8 w a0 len0 cap0 z0) (hT : srt.Tab w) :
    Calls Tryd.prog 5 #[.slice a0 len0 cap0] w fun e w' => e = .returned (.bool true) ∧ Below w.heap.size w w' := by
  have hB := draw.of_rowB w0
  have hm : len0 ≤ 9223372036854775807 := by
    rcases w0 with ⟨_, h, _, _⟩ | ⟨_, _, h1, h2, _⟩
    · omega
    · unfold maxLen at h2
      omega
  clear w0
  by_cases hbig : 1048576 < len0
  · have C := sl.hide (draw.big a0 len0 cap0 w hm)
    rw [decide_eq_true hbig] at C
    clear hT
    go_enter Tryd.func5, Tryd.ntmps5
    go_wp2_with fail
    refine (sl.unhide C).mono ?_; rintro e w' ⟨rfl, rfl⟩
    go_wp2_with fail
    go_ret
    exact ⟨rfl, Below.refl _ _⟩
  have C := sl.hide (draw.big a0 len0 cap0 w hm)
  rw [decide_eq_false hbig] at C
  have HB := sl.hide hB
  have TT := sl.hide hT
  have hlen : len0 ≤ 1048576 := by omega
  clear hB hT hbig
  go_enter Tryd.func5, Tryd.ntmps5
  go_wp2_with fail
  refine (sl.unhide C).mono ?_; rintro e w' ⟨rfl, hw⟩; have hw' := hw.symm; clear hw; subst hw'
  clear C hm
  go_wp2_with fail
  refine (dl.drawLeaves a0 len0 cap0 _ hlen (sl.unhide HB)).mono ?_; rintro e w1 ⟨n, v, u, L, LL, rfl, hL49, ⟨mid, ou1, o1, hmid⟩, bd, g1⟩
  obtain ⟨va, vc, rfl⟩ := o1.len
  obtain ⟨ca, cc, rfl⟩ : ∃ ca cc, u = .slice ca L.length cc := by
    obtain ⟨xa, xc, e, _⟩ := ou1.sl
    exact ⟨xa, xc, e⟩
  have ht : css.tot LL ≤ 1048576 := Nat.le_trans (dl.tot_bd bd) (by decide)
  have hL : L.length ≤ 1048576 := by omega
  have gA := World.grownBy_alloc w1 (.cells #[.int .i64 n, .slice va LL.length vc] 34) none
  have F1 := sl.hide (cf.Box.new 34 w1 (.int .i64 n) (.slice va LL.length vc))
  have G1 := sl.hide (sl.grown_trans (r := none) g1 gA)
  have O1 := sl.hide (o1.kept gA)
  have U1 := sl.hide (ou1.kept gA)
  have hn25 : -1 ≤ n ∧ n ≤ 25 := bd.1
  have MI := sl.hide (fun (h : sp.leavesB n LL L = true) (k : n ≤ 14) => ml.leaves_imp h k)
  clear g1 o1 ou1 gA bd hmid
  generalize hBv : sp.leavesB n LL L = B at MI
  have HBv := sl.hide hBv
  clear hBv
  have z0 := (sl.unhide F1).c0
  have z1 := (sl.unhide F1).c1
  obtain ⟨W1, hW1⟩ : ∃ W1, W1 = w1.alloc (.cells #[.int .i64 n, .slice va LL.length vc] 34) := ⟨_, rfl⟩
  rw [← hW1] at F1 G1 O1 U1 z0 z1
  go_wp2_with fail
  rw [← hW1]
  refine (sp.implLeaves (.slice va LL.length vc) (.slice ca L.length cc) n LL L W1 ((sl.unhide TT).kept (sl.unhide G1)) ht hL (sl.unhide O1).sls (sl.unhide U1).sl).mono ?_; rintro e w2 ⟨rfl, g2⟩
  clear hW1 z0 z1
  rw [sl.unhide HBv]
  have G2 := sl.hide (sl.grown_trans (r := none) (sl.unhide G1) g2)
  have F2 := sl.hide ((sl.unhide F1).kept g2)
  have O2 := sl.hide ((sl.unhide O1).kept g2)
  have U2 := sl.hide ((sl.unhide U1).kept g2)
  clear g2 G1 F1 O1 U1
  have z0 := (sl.unhide F2).c0
  have z1 := (sl.unhide F2).c1
  go_wp2_with fail
  refine (sp.specLeaves (.slice va LL.length vc) (.slice ca L.length cc) n LL L w2 ht hL (sl.unhide O2).sls (sl.unhide U2).sl).mono ?_; rintro e w3 ⟨rfl, g3⟩
  rw [sl.unhide HBv]
  have G3 := sl.hide (sl.grown_trans (r := none) (sl.unhide G2) g3)
  have F3 := sl.hide ((sl.unhide F2).kept g3)
  have O3 := sl.hide ((sl.unhide O2).kept g3)
  have U3 := sl.hide ((sl.unhide U2).kept g3)
  clear g3 G2 F2 O2 U2 z0 z1
  have z0 := (sl.unhide F3).c0
  have z1 := (sl.unhide F3).c1
  cases B
  · go_wp2_with fail
    go_ret
    exact ⟨rfl, sl.below_of (sl.unhide G3)⟩
  · by_cases hn12 : 12 < n
    · go_wp2_with fail
      go_ret
      exact ⟨rfl, sl.below_of (sl.unhide G3)⟩
    · have hd : decide (12 < n) = false := decide_eq_false hn12
      have CI := sl.hide (cw.implImplies (.slice va LL.length vc) (.slice ca L.length cc) n LL L w3 ht hL (sl.unhide O3).sls (sl.unhide U3).sl)
      rw [sl.unhide MI rfl (by omega)] at CI
      clear O3 U3 MI
      go_wp2_with fail
      refine (sl.unhide CI).mono ?_; rintro e w4 ⟨rfl, g4⟩
      have G4 := sl.hide (sl.grown_trans (r := none) (sl.unhide G3) g4)
      clear g4 CI z0 z1
      go_wp2_with fail
      go_ret
      exact ⟨rfl, sl.below_of (sl.unhide G4)⟩

/-! ### the row's step (the guide's own frame) -/
set_option maxRecDepth 100000 in
theorem contract (H : Type) (enc : TypeId × Value → H) (W : World) (base : Nat) (args : Array Value) (ds gs : List (DataW H)) (before : List MemPlace)
    (hval : ∀ (j : Nat) t v, Tryd.f5.params[j]? = some t → args[j]? = some v → Value.okWide Tryd.prog W .any base t v)
    (hW : DataW.Whole enc Tryd.prog Tryd.f5.params.toList Rows.fnLeavesSpec.vars false W args.toList ds gs before) (hL : laidMetH Tryd.prog Rows.fnLeavesRow.laid W) :
    Calls Tryd.prog 5 args W fun e W' => ∃ v, e = .returned v ∧ Rows.fnLeavesSpec.post enc Tryd.prog Tryd.f5 false true false false W args v W' := by
  have hW' := hW
  obtain ⟨p, q, hA0, hV, rfl, hfz, hnd⟩ := hW
  have hA : DataW.TrodAll enc Tryd.prog W 0 (fun _ => true) true Tryd.f5.params.toList args.toList ds p := hA0
  rw [Tryd.params5] at hA hval
  obtain ⟨v0, vs0, d0, ds0, p0, q0, hargs, rfl, rfl, h0, r0⟩ := trodAll_cons hA
  obtain ⟨rfl, rfl, rfl⟩ := trodAll_nil r0
  obtain rfl : args = #[v0] := by cases args; simp_all
  obtain ⟨rfl, rfl⟩ := trodVars_none hV
  obtain ⟨a0, len0, cap0, rfl⟩ := okWide_slice Tryd.underlying22 (hval 0 22 v0 rfl rfl)
  have k0 := h0
  have lt0 : ∀ x ∈ p0, x.block < W.heap.size := by obtain ⟨m, hm⟩ := k0; exact DataW.trod_lt m _ _ _ hm
  obtain ⟨z0, w0⟩ : ∃ zs, IsRow .u8 W a0 len0 cap0 zs := by
    obtain ⟨fuel, hf⟩ := h0
    rcases open_ints Tryd.underlying22 Tryd.underlying5 (by kernel_rfl) hf with ⟨hcs, _⟩ | ⟨x, l, c, zs, hcs, _, hl, hm, hz, _, hcell, hwz⟩
    · simp [Value.cells] at hcs
      obtain ⟨rfl, rfl, rfl⟩ := hcs
      exact ⟨[], .inl ⟨rfl, rfl, rfl, rfl⟩⟩
    · simp [Value.cells] at hcs
      obtain ⟨rfl, rfl, rfl⟩ := hcs
      exact ⟨zs, .inr ⟨_, rfl, hl, hm, by simpa using hz, hcell, hwz⟩⟩
  clear hA0
  refine (walk a0 len0 cap0 z0 W w0 (table hL)).mono fun e W' ⟨he, bel⟩ => ?_
  subst he
  exact ⟨_, rfl, _, _, _, [], _, [], hW', trodAll_mk1 (shut_bool Tryd.underlying4 _), (trodAll_cons_mk (Below.trod laidOut (by kernel_rfl) (of_decide_eq_true (by kernel_rfl)) k0 bel lt0) trodAll_mk0), rfl, bel.frame _, fun h => by cases h⟩

set_option maxRecDepth 100000 in
theorem lifted (os : Os) (started : os.Started) (H : Type) (enc : TypeId × Value → H) (F : Stop.Interp) :
    ReturnsInHanded {} Tryd.checked os 5 .any ((OpenSpec.ofChange Rows.fnLeavesSpec).preRow enc Tryd.prog Tryd.f5 Rows.fnLeavesRow.domain false Rows.fnLeavesRow.laid) (((OpenSpec.ofChange Rows.fnLeavesSpec).at F).post enc Tryd.prog Tryd.f5 false true false false) := by
  refine returnsInHanded_of_row (C := Tryd.checked) (s := OpenSpec.ofChange Rows.fnLeavesSpec) own started (by kernel_rfl) Tryd.func5
    (witness_row_at (enc := enc) (C := Tryd.checked) false ({ World.holding Tryd.prog os ⟨#[], #[], []⟩ with heap := (World.holding Tryd.prog os ⟨#[], #[], []⟩).heap.modify 1 fun | .cells _ t frozen => .cells (Lib.deBruijn64tab.map fun (n : Nat) => Value.int .u8 n).toArray t frozen | o => o } : World) #[.slice none 0 0] rfl (by kernel_rfl) (by kernel_rfl) (by kernel_rfl)
      (OpenSpec.preRow_of_cond 8 (x := ([.nil], [], [])) (by kernel_rfl) (by kernel_rfl) (fun k hk => by cases hk) (by kernel_rfl) (laidMet_of_run' 8 (by kernel_rfl) (by kernel_rfl)))) ?_
  intro W base args ds gs before hval hW _ _ _ hL _ _
  exact contract H enc W base args ds gs before hval hW hL

theorem said : Rows.FnLeavesSaid :=
  OpenClaim.holds_of_cond 5 Tryd.f5 rfl rfl rfl rfl rfl rfl rfl ⟨rfl, rfl, rfl, rfl, rfl⟩ rfl rfl rfl rfl rfl (by kernel_rfl) Tryd.func5 (by kernel_rfl)
    (of_decide_eq_true (by kernel_rfl)) (by unfold Func.isWrapper; first | (rw [if_pos (by decide +kernel)]; kernel_rfl) | (rw [if_neg (by decide +kernel)]; exact ⟨rfl, rfl⟩))
    (fun os started H enc _ F => by rw [OpenClaim.pre_eq_preRow]; exact lifted os started H enc F)

theorem plain (f : FuncId) (fn : Func) (hf : Tryd.pinned.checked.prog.funcNamed "loop.example/g00123/laws.FnLeaves" = some f) (hfn : Tryd.pinned.checked.prog.funcs[f]? = some fn) :
    true = Tryd.pinned.checked.prog.looks [] ∧ ∀ (j : Nat) t, fn.params[j]? = some t → Tryd.pinned.checked.prog.wantsStandIn t = false := by
  obtain rfl : f = 5 := Option.some.inj ((show Tryd.prog.funcNamed "loop.example/g00123/laws.FnLeaves" = some 5 by kernel_rfl).symm.trans hf) |>.symm
  obtain rfl : fn = Tryd.f5 := (Option.some.inj (Tryd.func5.symm.trans hfn)).symm
  refine ⟨by kernel_rfl, fun j t ht => ?_⟩
  rw [Tryd.params5] at ht
  obtain rfl : t = 22 := by simpa using Array.mem_of_getElem? ht
  exact (show Tryd.prog.wantsStandIn 22 = false by kernel_rfl)

/-- the statement: the row's tied card -/
theorem proved : Rows.FnLeavesCardSaid :=
  Claim7.holds_tied_plain_at .later [] _ _ _ _ said (fun _ h => by cases h) (by kernel_rfl) (fun _ h => by cases h) fnLeaves_row_tie rfl ⟨rfl, rfl⟩ (by kernel_rfl) rfl plain (by kernel_rfl)
#print axioms proved
end Go.Proofs.YtloenjaonkdlaaaDoor.fnLeaves
