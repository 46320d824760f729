/- At every text and every number impl.ReadAssign answers as spec.ReadAssign, in memory of its own, and keeps nothing (the law FnExactReadAssign returns true); the library's tables and errors lie as their text lays them (tied). -/
import Derived.Test.YtloenjaonkdlaaaDoorCards
import Derived.Test.YtloenjaonkdlaaaDoorTie
import Derived.Test.YtloenjaonkdlaaaDoorRa
import Derived.WalkKit
import Derived.ProofKit
import Derived.OpenShut
import Derived.ShutString
import Derived.ChangeOld
import Derived.Below
import Derived.Deep.DeepHandedRow
import Derived.Lib.LaidTab
import Derived.Lib.TrailingZeros
import Derived.Stop.LaidErr
import Derived.LaidHandle
import Derived.LaidSub
namespace Go.Proofs.YtloenjaonkdlaaaDoor.fnExactReadAssign
open Go.ChangeShapes Go.WideShapes Go.ChangeAt Go.RowKit
open Go.ChangeMaps (open_string shut_string)
set_option linter.unusedVariables false

theorem own : ownKnob Tryd.prog.godebug = none := by kernel_rfl

theorem gPowType : (Tryd.prog.globals[4]?).map (·.type) = some 196 := by kernel_rfl
theorem cellsPow : Tryd.prog.cellsOf 196 = 20 := by kernel_rfl
theorem cellsU64 : Tryd.prog.cellsOf 88 = 1 := by kernel_rfl
theorem laid_tail {P : Program} {W : World} {x : String × DataW Unit} {rest : List (String × DataW Unit)} (h : laidMet P (x :: rest) W) : laidMet P rest W := by
  obtain ⟨ps, hv, hn, hc⟩ := h
  obtain ⟨n, d⟩ := x
  obtain ⟨g, t, cs, fuel, p, q, _, _, _, _, hr, rfl⟩ := hv
  exact ⟨q, hr, (List.nodup_append.1 hn).2.1, fun b off hm => hc b off (List.mem_append_right _ hm)⟩
theorem powData : (Rows.laid_internal_strconv_uint64pow10 : DataW Unit) = Lib.tabData .u64 Lib.pow10Tab := by kernel_rfl
theorem star : "*" ++ "errors.errorString" = "*errors.errorString" := by decide
theorem rowErr (u : TypeId) (h : Tryd.prog.typeName? 3 u = some "*errors.errorString") : u = 192 :=
  typeName_ptr_named (nm := "errors.errorString") (by rw [star]; kernel_rfl) (by kernel_rfl) (by decide) u (by rw [star]; exact h)
theorem gSyntType : (Tryd.prog.globals[2]?).map (·.type) = some 116 := by kernel_rfl
theorem gRangType : (Tryd.prog.globals[3]?).map (·.type) = some 116 := by kernel_rfl
theorem cellsErr : Tryd.prog.cellsOf 194 = 1 := by kernel_rfl
theorem cellsStr : Tryd.prog.cellsOf 9 = 1 := by kernel_rfl
theorem var_lt {W : World} {n : String} {g : Nat} {cs : Array Value} (hg : Tryd.prog.globalNamed n = some g) (hv : W.var? Tryd.prog n = some cs) : g < W.heap.size := by
  unfold World.var? at hv
  rw [hg] at hv
  rcases Nat.lt_or_ge g W.heap.size with h' | h'
  · exact h'
  · simp [Array.getElem?_eq_none h'] at hv
/-- what the row's list, and the world's shape, give -/
theorem table {W : World} (h : laidMetH Tryd.prog Rows.fnExactReadAssignRow.laid W) (hSh : W.ShapedOpen Tryd.prog) : rd.Env W := by
  have h1 : laidMet Tryd.prog Rows.fnExactReadAssignRow.laid W := h
  have h2 := laid_tail (laid_tail h1)
  have h3 := laid_tail h2
  have h4 := laid_tail h3
  rw [powData] at h2
  have t : Lib.TabIs Tryd.prog W "internal/strconv.uint64pow10" .u64 Lib.pow10Tab :=
    Lib.tabIs_of_head txt.gPow gPowType Tryd.underlying196 Tryd.underlying88 cellsU64 cellsPow h2
  obtain ⟨a1, s1, hv1, _, _, _⟩ := laid_sentinel h3 rd.gRang gRangType Tryd.underlying116 rowErr Tryd.underlying192 Tryd.underlying194 rfl rfl Tryd.underlying9 cellsErr cellsStr
  obtain ⟨a2, s2, hv2, _, _, _⟩ := laid_sentinel h4 rd.gSynt gSyntType Tryd.underlying116 rowErr Tryd.underlying192 Tryd.underlying194 rfl rfl Tryd.underlying9 cellsErr cellsStr
  have hM := Tryd.laysM145.s1_3 W hSh
  have hMl : 0 < W.heap.size := by obtain ⟨m, hm⟩ := hM; exact World.block_lt_of_cell? W _ hm
  exact ⟨⟨World.block_lt_of_cell? W _ (t.cell txt.gPow 0 (by decide)), t⟩, ⟨var_lt rd.gRang hv1, var_lt rd.gSynt hv2, hMl⟩, ⟨_, _, hv2⟩, ⟨_, _, hv1⟩, hM⟩

/-! ### the walk -/
theorem walk (a0 : ByteArray) (a1 : Int) (w0 : a0.size ≤ maxLen) (w1 : (Lit.int .i64 a1).wf = true) (w : World) (hT : rd.Env w) :
    Calls Tryd.prog 8 #[.string a0, .int .i64 a1] w fun e w' => e = .returned (.bool true) ∧ Below w.heap.size w w' := by
  by_cases hbig : 1048576 < a0.size
  · have hi : (1048576 : Int) < (a0.size : Int) := by omega
    go_enter Tryd.func8, Tryd.ntmps8
    go_wp2
    go_ret
    exact ⟨rfl, Below.refl _ _⟩
  · have hi : ¬ (1048576 : Int) < (a0.size : Int) := by omega
    have hs : a0.size ≤ 1048576 := by omega
    have hR : (ra.raL (rd.bytes a0) a1).length ≤ 1048576 := Nat.le_trans (ra.ra_len _ _) (by decide)
    have TT := sl.hide hT
    clear hT
    generalize hBB : ra.raB (rd.bytes a0) a1 = bb
    have HB := sl.hide hBB
    clear hBB
    go_enter Tryd.func8, Tryd.ntmps8
    go_wp2_with fail
    refine (ra.specReadAssign a0 a1 _ hs).mono ?_; rintro e v1 ⟨u1, rfl, o1, g1⟩
    rw [sl.unhide HB]
    have s1 := g1.size
    have B1 := sl.hide (sl.below_of g1)
    have W1 := sl.hide (sl.Own.of o1)
    clear o1 g1 
    go_wp2_with fail
    refine (ra.implReadAssign a0 a1 _ ((sl.unhide TT).below (sl.unhide B1)) hs).mono ?_; rintro e v2 ⟨u2, rfl, o2, g2⟩
    rw [sl.unhide HB]
    have s2 := g2.size
    have B2 := sl.hide (sl.below_none (sl.unhide B1) g2)
    have W2 := sl.hide ((sl.unhide W1).kept g2)
    have V2 := sl.hide (sl.Own.of o2)
    clear o2 g2 B1 W1
    go_wp2_with fail
    refine (sl.eqIntS _ _ _ _ hR (sl.unhide V2).sl (sl.unhide W2).sl).mono ?_; rintro e v3 ⟨rfl, g3⟩
    have s3 := g3.size
    have B3 := sl.hide (sl.below_none (sl.unhide B2) g3)
    have W3 := sl.hide ((sl.unhide W2).kept g3)
    have V3 := sl.hide ((sl.unhide V2).kept g3)
    clear g3 B2 W2 V2
    go_wp2_with fail
    refine (sl.markIntS _ (ra.raL (rd.bytes a0) a1) 1 _ _ hR (by omega) (by omega) (sl.unhide V3).1).mono ?_; rintro e v4 ⟨rfl, o4, g4⟩
    have s4 := g4.size
    have B4 := sl.hide (sl.below_by (sl.unhide B3) (sl.unhide V3) (by omega) g4)
    have W4 := sl.hide ((sl.unhide W3).kept_by (sl.unhide V3) (by omega) g4)
    have V4 := sl.hide ((sl.unhide V3).marked o4)
    clear o4 g4 V3 B3 W3
    go_wp2_with fail
    refine (sl.heldIntS _ _ 1 _ hR (by decide) (by decide) (sl.unhide V4).sl).mono ?_; rintro e v' ⟨rfl, hw⟩; have hw' := hw.symm; clear hw; subst hw'
    have hq : ¬ (1 : Int) + ((ra.raL (rd.bytes a0) a1).length : Int) < 0 := by omega
    go_wp2_with fail
    refine (ra.implReadAssign a0 a1 _ ((sl.unhide TT).below (sl.unhide B4)) hs).mono ?_; rintro e v5 ⟨u5, rfl, o5, g5⟩
    rw [sl.unhide HB]
    have s5 := g5.size
    have B5 := sl.hide (sl.below_none (sl.unhide B4) g5)
    have W5 := sl.hide ((sl.unhide W4).kept g5)
    have V5 := sl.hide ((sl.unhide V4).kept g5)
    have H5 := sl.hide (sl.Own.of o5)
    clear o5 g5 B4 W4 V4
    go_wp2_with fail
    refine (sl.eqIntS _ _ _ _ hR (sl.unhide H5).sl (sl.unhide W5).sl).mono ?_; rintro e v6 ⟨rfl, g6⟩
    have s6 := g6.size
    have B6 := sl.hide (sl.below_none (sl.unhide B5) g6)
    have W6 := sl.hide ((sl.unhide W5).kept g6)
    have V6 := sl.hide ((sl.unhide V5).kept g6)
    have H6 := sl.hide ((sl.unhide H5).kept g6)
    clear g6 B5 W5 V5 H5
    clear H6 W6
    go_wp2_with fail
    refine (sl.heldIntS _ _ 1 _ hR (by decide) (by decide) (sl.unhide V6).sl).mono ?_; rintro e v' ⟨rfl, hw⟩; have hw' := hw.symm; clear hw; subst hw'
    go_wp2_with fail
    go_ret
    exact ⟨rfl, sl.unhide B6⟩

/-! ### the row's step (the guide's own frame) -/
set_option maxRecDepth 100000 in
theorem contract (H : Type) (enc : TypeId × Value → H) (W : World) (base : Nat) (args : Array Value) (ds gs : List (DataW H)) (before : List MemPlace)
    (hval : ∀ (j : Nat) t v, Tryd.f8.params[j]? = some t → args[j]? = some v → Value.okWide Tryd.prog W .any base t v)
    (hW : DataW.Whole enc Tryd.prog Tryd.f8.params.toList Rows.fnExactReadAssignSpec.vars false W args.toList ds gs before) (hL : laidMetH Tryd.prog Rows.fnExactReadAssignRow.laid W) (hSh : W.ShapedOpen Tryd.prog) :
    Calls Tryd.prog 8 args W fun e W' => ∃ v, e = .returned v ∧ Rows.fnExactReadAssignSpec.post enc Tryd.prog Tryd.f8 false true false false W args v W' := by
  have hW' := hW
  obtain ⟨p, q, hA0, hV, rfl, hfz, hnd⟩ := hW
  have hA : DataW.TrodAll enc Tryd.prog W 0 (fun _ => true) true Tryd.f8.params.toList args.toList ds p := hA0
  rw [Tryd.params8] at hA hval
  obtain ⟨v0, vs0, d0, ds0, p0, q0, hargs, rfl, rfl, h0, r0⟩ := trodAll_cons hA
  obtain ⟨v1, vs1, d1, ds1, p1, q1, rfl, rfl, rfl, h1, r1⟩ := trodAll_cons r0
  obtain ⟨rfl, rfl, rfl⟩ := trodAll_nil r1
  obtain rfl : args = #[v0, v1] := by cases args; simp_all
  obtain ⟨rfl, rfl⟩ := trodVars_none hV
  obtain ⟨a0, rfl, rfl, rfl, w0⟩ := open_string Tryd.underlying9 (hval 0 9 v0 rfl rfl) h0
  obtain ⟨a1, rfl, rfl, rfl, w1⟩ := open_int Tryd.underlying3 (hval 1 3 v1 rfl rfl) h1
  clear hA0
  simp only [List.append_nil] at hW'
  refine (walk a0 a1 w0 w1 W (table hL hSh)).mono fun e W' ⟨he, hg⟩ => ?_
  subst he
  exact ⟨_, rfl, _, _, _, [], [], [], hW', trodAll_mk1 (shut_bool Tryd.underlying4 _), (trodAll_cons_mk (shut_string Tryd.underlying9 w0) (trodAll_cons_mk (shut_int Tryd.underlying3 w1) trodAll_mk0)), rfl, hg.frame _, fun h => by cases h⟩

set_option maxRecDepth 100000 in
theorem lifted (os : Os) (started : os.Started) (H : Type) (enc : TypeId × Value → H) (F : Stop.Interp) :
    ReturnsInHanded {} Tryd.checked os 8 .any ((OpenSpec.ofChange Rows.fnExactReadAssignSpec).preRow enc Tryd.prog Tryd.f8 Rows.fnExactReadAssignRow.domain false Rows.fnExactReadAssignRow.laid) (((OpenSpec.ofChange Rows.fnExactReadAssignSpec).at F).post enc Tryd.prog Tryd.f8 false true false false) := by
  refine returnsInHanded_of_row (C := Tryd.checked) (s := OpenSpec.ofChange Rows.fnExactReadAssignSpec) own started (by kernel_rfl) Tryd.func8
    (witness_row_at (enc := enc) (C := Tryd.checked) false ({ (World.holding Tryd.prog os ⟨#[.cells #[.string ⟨#[118, 97, 108, 117, 101, 32, 111, 117, 116, 32, 111, 102, 32, 114, 97, 110, 103, 101]⟩] 194, .cells #[.string ⟨#[105, 110, 118, 97, 108, 105, 100, 32, 115, 121, 110, 116, 97, 120]⟩] 194], #[], []⟩) with heap := ((((((World.holding Tryd.prog os ⟨#[.cells #[.string ⟨#[118, 97, 108, 117, 101, 32, 111, 117, 116, 32, 111, 102, 32, 114, 97, 110, 103, 101]⟩] 194, .cells #[.string ⟨#[105, 110, 118, 97, 108, 105, 100, 32, 115, 121, 110, 116, 97, 120]⟩] 194], #[], []⟩).heap.modify 5 fun | .cells _ t frozen => .cells (Lib.deBruijn32tab.map fun (n : Nat) => Value.int .u8 n).toArray t frozen | o => o).modify 1 fun | .cells _ t frozen => .cells (Lib.deBruijn64tab.map fun (n : Nat) => Value.int .u8 n).toArray t frozen | o => o).modify 4 fun | .cells _ t frozen => .cells (Lib.pow10Tab.map fun n => Value.int .u64 n).toArray t frozen | o => o).modify 3 fun | .cells _ t frozen => .cells #[.iface 192 (.pointer (some ⟨(World.holding Tryd.prog default ⟨#[], #[], []⟩).heap.size, 0, none⟩))] t frozen | o => o).modify 2 fun | .cells _ t frozen => .cells #[.iface 192 (.pointer (some ⟨(World.holding Tryd.prog default ⟨#[], #[], []⟩).heap.size + 1, 0, none⟩))] t frozen | o => o) } : World) #[.string ByteArray.empty, .int .i64 0] rfl (by kernel_rfl) (by kernel_rfl) (by kernel_rfl)
      (OpenSpec.preRow_of_cond 8 (x := ([.lit (.string []), .lit (.int .i64 0)], [], [])) (by kernel_rfl) (by kernel_rfl) (fun k hk => by cases hk) (by kernel_rfl) (laidMet_of_run' 8 (by kernel_rfl) (by kernel_rfl)))) ?_
  intro W base args ds gs before hval hW _ _ _ hL hSh _
  exact contract H enc W base args ds gs before hval hW hL hSh

theorem said : Rows.FnExactReadAssignSaid :=
  OpenClaim.holds_of_cond 8 Tryd.f8 rfl rfl rfl rfl rfl rfl rfl ⟨rfl, rfl, rfl, rfl, rfl⟩ rfl rfl rfl rfl rfl (by kernel_rfl) Tryd.func8 (by kernel_rfl)
    (of_decide_eq_true (by kernel_rfl)) (by unfold Func.isWrapper; first | (rw [if_pos (by decide +kernel)]; kernel_rfl) | (rw [if_neg (by decide +kernel)]; exact ⟨rfl, rfl⟩))
    (fun os started H enc _ F => by rw [OpenClaim.pre_eq_preRow]; exact lifted os started H enc F)

theorem plain (f : FuncId) (fn : Func) (hf : Tryd.pinned.checked.prog.funcNamed "loop.example/g00123/laws.FnExactReadAssign" = some f) (hfn : Tryd.pinned.checked.prog.funcs[f]? = some fn) :
    true = Tryd.pinned.checked.prog.looks [] ∧ ∀ (j : Nat) t, fn.params[j]? = some t → Tryd.pinned.checked.prog.wantsStandIn t = false := by
  obtain rfl : f = 8 := Option.some.inj ((show Tryd.prog.funcNamed "loop.example/g00123/laws.FnExactReadAssign" = some 8 by kernel_rfl).symm.trans hf) |>.symm
  obtain rfl : fn = Tryd.f8 := (Option.some.inj (Tryd.func8.symm.trans hfn)).symm
  refine ⟨by kernel_rfl, fun j t ht => ?_⟩
  rw [Tryd.params8] at ht
  have hm := Array.mem_of_getElem? ht
  simp only [List.mem_toArray, List.mem_cons, List.not_mem_nil, or_false] at hm
  rcases hm with rfl | rfl
  · exact (show Tryd.prog.wantsStandIn 9 = false by kernel_rfl)
  · exact (show Tryd.prog.wantsStandIn 3 = false by kernel_rfl)

/-- the statement: the row's tied card -/
theorem proved : Rows.FnExactReadAssignCardSaid :=
  Claim7.holds_tied_plain_at .later [] _ _ _ _ said (fun _ h => by cases h) (by kernel_rfl) (fun _ h => by cases h) fnExactReadAssign_row_tie rfl ⟨rfl, rfl⟩ (by kernel_rfl) rfl plain (by kernel_rfl)
#print axioms proved
end Go.Proofs.YtloenjaonkdlaaaDoor.fnExactReadAssign
