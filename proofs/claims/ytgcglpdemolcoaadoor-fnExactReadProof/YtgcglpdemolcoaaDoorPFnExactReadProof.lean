/- At every text impl.ReadProof answers as spec.ReadProof, lists and flag, in memory of its own, and keeps nothing (the law FnExactReadProof returns true); the library's tables and errors lie as their text lays them (tied). -/
import Derived.Test.YtgcglpdemolcoaaDoorCards
import Derived.Test.YtgcglpdemolcoaaDoorTie
import Derived.Test.YtgcglpdemolcoaaDoorRow
import Derived.Test.YtgcglpdemolcoaaDoorRr
import Derived.WalkKit
import Derived.ProofKit
import Derived.OpenShut
import Derived.ShutString
import Derived.ChangeOld
import Derived.Below
import Derived.Deep.DeepHandedRow
import Derived.Lib.LaidTab
import Derived.Lib.TrailingZeros
import Derived.Stop.LaidErr
import Derived.LaidHandle
import Derived.LaidSub
namespace Go.Proofs.YtgcglpdemolcoaaDoor.fnExactReadProof
open Go.ChangeShapes Go.WideShapes Go.ChangeAt Go.RowKit
open Go.ChangeMaps (open_string shut_string)
set_option linter.unusedVariables false

theorem own : ownKnob Tryd.prog.godebug = none := by kernel_rfl

theorem gPowType : (Tryd.prog.globals[4]?).map (·.type) = some 191 := by kernel_rfl
theorem cellsPow : Tryd.prog.cellsOf 191 = 20 := by kernel_rfl
theorem cellsU64 : Tryd.prog.cellsOf 79 = 1 := by kernel_rfl
theorem laid_tail {P : Program} {W : World} {x : String × DataW Unit} {rest : List (String × DataW Unit)} (h : laidMet P (x :: rest) W) : laidMet P rest W := by
  obtain ⟨ps, hv, hn, hc⟩ := h
  obtain ⟨n, d⟩ := x
  obtain ⟨g, t, cs, fuel, p, q, _, _, _, _, hr, rfl⟩ := hv
  exact ⟨q, hr, (List.nodup_append.1 hn).2.1, fun b off hm => hc b off (List.mem_append_right _ hm)⟩
theorem powData : (Rows.laid_internal_strconv_uint64pow10 : DataW Unit) = Lib.tabData .u64 Lib.pow10Tab := by kernel_rfl
theorem star : "*" ++ "errors.errorString" = "*errors.errorString" := by decide
theorem rowErr (u : TypeId) (h : Tryd.prog.typeName? 3 u = some "*errors.errorString") : u = 195 :=
  typeName_ptr_named (nm := "errors.errorString") (by rw [star]; kernel_rfl) (by kernel_rfl) (by decide) u (by rw [star]; exact h)
theorem gSyntType : (Tryd.prog.globals[2]?).map (·.type) = some 107 := by kernel_rfl
theorem gRangType : (Tryd.prog.globals[3]?).map (·.type) = some 107 := by kernel_rfl
theorem cellsErr : Tryd.prog.cellsOf 197 = 1 := by kernel_rfl
theorem cellsStr : Tryd.prog.cellsOf 9 = 1 := by kernel_rfl
theorem var_lt {W : World} {n : String} {g : Nat} {cs : Array Value} (hg : Tryd.prog.globalNamed n = some g) (hv : W.var? Tryd.prog n = some cs) : g < W.heap.size := by
  unfold World.var? at hv
  rw [hg] at hv
  rcases Nat.lt_or_ge g W.heap.size with h' | h'
  · exact h'
  · simp [Array.getElem?_eq_none h'] at hv
/-- what the row's list, and the world's shape, give -/
theorem table {W : World} (h : laidMetH Tryd.prog Rows.fnExactReadProofRow.laid W) (hSh : W.ShapedOpen Tryd.prog) : rd.Env W := by
  have h1 : laidMet Tryd.prog Rows.fnExactReadProofRow.laid W := h
  have h2 := laid_tail (laid_tail h1)
  have h3 := laid_tail h2
  have h4 := laid_tail h3
  rw [powData] at h2
  have t : Lib.TabIs Tryd.prog W "internal/strconv.uint64pow10" .u64 Lib.pow10Tab :=
    Lib.tabIs_of_head txt.gPow gPowType Tryd.underlying191 Tryd.underlying79 cellsU64 cellsPow h2
  obtain ⟨a1, s1, hv1, _, _, _⟩ := laid_sentinel h3 rd.gRang gRangType Tryd.underlying107 rowErr Tryd.underlying195 Tryd.underlying197 rfl rfl Tryd.underlying9 cellsErr cellsStr
  obtain ⟨a2, s2, hv2, _, _, _⟩ := laid_sentinel h4 rd.gSynt gSyntType Tryd.underlying107 rowErr Tryd.underlying195 Tryd.underlying197 rfl rfl Tryd.underlying9 cellsErr cellsStr
  have hM := Tryd.laysM145.s1_3 W hSh
  have hMl : 1 < W.heap.size := by obtain ⟨m, hm⟩ := hM; exact World.block_lt_of_cell? W _ hm
  exact ⟨⟨World.block_lt_of_cell? W _ (t.cell txt.gPow 0 (by decide)), t⟩, ⟨var_lt rd.gRang hv1, var_lt rd.gSynt hv2, hMl⟩, ⟨_, _, hv2⟩, ⟨_, _, hv1⟩, hM⟩

/-! ### the walk -/
theorem walk (a0 : ByteArray) (w0 : a0.size ≤ maxLen) (w : World) (hT : rd.Env w) :
    Calls Tryd.prog 15 #[.string a0] w fun e w' => e = .returned (.bool true) ∧ Below w.heap.size w w' := by
  by_cases hbig : 1048576 < a0.size
  · have hi : (1048576 : Int) < (a0.size : Int) := by omega
    go_enter Tryd.func15, Tryd.ntmps15
    go_wp2
    go_ret
    exact ⟨rfl, Below.refl _ _⟩
  have hi : ¬ (1048576 : Int) < (a0.size : Int) := by omega
  have hs : a0.size ≤ 1048576 := by omega
  have TT := sl.hide hT
  clear hT hbig
  obtain ⟨R, bb, hR, cs, ci⟩ := rq.bothQ a0 hs
  have CS := sl.hide cs
  have CI := sl.hide ci
  clear cs ci
  have hl : R.length ≤ 1048576 := Nat.le_trans (css.tot_len R) hR
  have hin : Hid (∀ i, (R.getD i []).length ≤ 1048576) := fun i => Nat.le_trans (css.tot_in R i) hR
  have hz2 : ¬ (1 : Int) + (css.sumLen R : Int) < 0 := by omega
  go_enter Tryd.func15, Tryd.ntmps15
  go_wp2_with fail
  refine (sl.unhide CS _).mono ?_; rintro e w1 ⟨u1, rfl, o1, g1⟩
  obtain ⟨a1, c1, rfl⟩ := o1.len
  have s1 := g1.size
  have B1 := sl.hide (sl.below_of g1)
  have W1 := sl.hide o1
  clear o1 g1
  go_wp2_with fail
  refine (sl.unhide CI _ ((sl.unhide TT).below (sl.unhide B1))).mono ?_; rintro e w2 ⟨u2, rfl, o2, g2⟩
  obtain ⟨a2, c2, rfl⟩ := o2.len
  have s2 := g2.size
  have B2 := sl.hide (sl.below_none (sl.unhide B1) g2)
  have W2 := sl.hide ((sl.unhide W1).kept g2)
  have V2 := sl.hide o2
  clear o2 g2 B1 W1
  go_wp2_with fail
  refine (css.eqIntSS _ _ R _ hl (sl.unhide hin) (sl.unhide V2).sls (sl.unhide W2).sls).mono ?_; rintro e w3 ⟨rfl, g3⟩
  have s3 := g3.size
  have B3 := sl.hide (sl.below_none (sl.unhide B2) g3)
  have W3 := sl.hide ((sl.unhide W2).kept g3)
  have V3 := sl.hide ((sl.unhide V2).kept g3)
  clear g3 B2 W2 V2
  go_wp2_with fail
  refine (css.markIntSS _ R 1 _ _ _ hR (by omega) (by omega) (sl.unhide V3)).mono ?_; rintro e w4 ⟨rfl, o4, g4⟩
  have s4 := g4.size
  have B4 := sl.hide (css.below_outs (sl.unhide B3) (by omega) g4)
  have W4 := sl.hide (css.OwnS.outs (sl.unhide W3) g4 (by omega))
  have V4 := sl.hide o4
  clear o4 g4 V3 B3 W3
  go_wp2_with fail
  refine (css.heldIntSS _ R 1 _ hR (by decide) (by decide) (sl.unhide V4).sls).mono ?_; rintro e v' ⟨rfl, hw⟩; have hw' := hw.symm; clear hw; subst hw'
  go_wp2_with fail
  refine (sl.unhide CI _ ((sl.unhide TT).below (sl.unhide B4))).mono ?_; rintro e w5 ⟨u5, rfl, o5, g5⟩
  obtain ⟨a5, c5, rfl⟩ := o5.len
  have s5 := g5.size
  have B5 := sl.hide (sl.below_none (sl.unhide B4) g5)
  have W5 := sl.hide ((sl.unhide W4).kept g5)
  have V5 := sl.hide ((sl.unhide V4).kept g5)
  have H5 := sl.hide o5
  clear o5 g5 B4 W4 V4
  go_wp2_with fail
  refine (css.eqIntSS _ _ R _ hl (sl.unhide hin) (sl.unhide H5).sls (sl.unhide W5).sls).mono ?_; rintro e w6 ⟨rfl, g6⟩
  have s6 := g6.size
  have B6 := sl.hide (sl.below_none (sl.unhide B5) g6)
  have V6 := sl.hide ((sl.unhide V5).kept g6)
  clear g6 B5 W5 V5 H5
  go_wp2_with fail
  refine (css.heldIntSS _ R 1 _ hR (by decide) (by decide) (sl.unhide V6).sls).mono ?_; rintro e v' ⟨rfl, hw⟩; have hw' := hw.symm; clear hw; subst hw'
  go_wp2_with fail
  go_ret
  exact ⟨rfl, sl.unhide B6⟩

/-! ### the row's step (the guide's own frame) -/
set_option maxRecDepth 100000 in
theorem contract (H : Type) (enc : TypeId × Value → H) (W : World) (base : Nat) (args : Array Value) (ds gs : List (DataW H)) (before : List MemPlace)
    (hval : ∀ (j : Nat) t v, Tryd.f15.params[j]? = some t → args[j]? = some v → Value.okWide Tryd.prog W .any base t v)
    (hW : DataW.Whole enc Tryd.prog Tryd.f15.params.toList Rows.fnExactReadProofSpec.vars false W args.toList ds gs before) (hL : laidMetH Tryd.prog Rows.fnExactReadProofRow.laid W) (hSh : W.ShapedOpen Tryd.prog) :
    Calls Tryd.prog 15 args W fun e W' => ∃ v, e = .returned v ∧ Rows.fnExactReadProofSpec.post enc Tryd.prog Tryd.f15 false true false false W args v W' := by
  have hW' := hW
  obtain ⟨p, q, hA0, hV, rfl, hfz, hnd⟩ := hW
  have hA : DataW.TrodAll enc Tryd.prog W 0 (fun _ => true) true Tryd.f15.params.toList args.toList ds p := hA0
  rw [Tryd.params15] at hA hval
  obtain ⟨v0, vs0, d0, ds0, p0, q0, hargs, rfl, rfl, h0, r0⟩ := trodAll_cons hA
  obtain ⟨rfl, rfl, rfl⟩ := trodAll_nil r0
  obtain rfl : args = #[v0] := by cases args; simp_all
  obtain ⟨rfl, rfl⟩ := trodVars_none hV
  obtain ⟨a0, rfl, rfl, rfl, w0⟩ := open_string Tryd.underlying9 (hval 0 9 v0 rfl rfl) h0
  clear hA0
  simp only [List.append_nil] at hW'
  refine (walk a0 w0 W (table hL hSh)).mono fun e W' ⟨he, hg⟩ => ?_
  subst he
  exact ⟨_, rfl, _, _, _, [], [], [], hW', trodAll_mk1 (shut_bool Tryd.underlying4 _), (trodAll_cons_mk (shut_string Tryd.underlying9 w0) trodAll_mk0), rfl, hg.frame _, fun h => by cases h⟩

set_option maxRecDepth 100000 in
theorem lifted (os : Os) (started : os.Started) (H : Type) (enc : TypeId × Value → H) (F : Stop.Interp) :
    ReturnsInHanded {} Tryd.checked os 15 .any ((OpenSpec.ofChange Rows.fnExactReadProofSpec).preRow enc Tryd.prog Tryd.f15 Rows.fnExactReadProofRow.domain false Rows.fnExactReadProofRow.laid) (((OpenSpec.ofChange Rows.fnExactReadProofSpec).at F).post enc Tryd.prog Tryd.f15 false true false false) := by
  refine returnsInHanded_of_row (C := Tryd.checked) (s := OpenSpec.ofChange Rows.fnExactReadProofSpec) own started (by kernel_rfl) Tryd.func15
    (witness_row_at (enc := enc) (C := Tryd.checked) false ({ (World.holding Tryd.prog os ⟨#[.cells #[.string ⟨#[118, 97, 108, 117, 101, 32, 111, 117, 116, 32, 111, 102, 32, 114, 97, 110, 103, 101]⟩] 197, .cells #[.string ⟨#[105, 110, 118, 97, 108, 105, 100, 32, 115, 121, 110, 116, 97, 120]⟩] 197], #[], []⟩) with heap := ((((((World.holding Tryd.prog os ⟨#[.cells #[.string ⟨#[118, 97, 108, 117, 101, 32, 111, 117, 116, 32, 111, 102, 32, 114, 97, 110, 103, 101]⟩] 197, .cells #[.string ⟨#[105, 110, 118, 97, 108, 105, 100, 32, 115, 121, 110, 116, 97, 120]⟩] 197], #[], []⟩).heap.modify 5 fun | .cells _ t frozen => .cells (Lib.deBruijn32tab.map fun (n : Nat) => Value.int .u8 n).toArray t frozen | o => o).modify 0 fun | .cells _ t frozen => .cells (Lib.deBruijn64tab.map fun (n : Nat) => Value.int .u8 n).toArray t frozen | o => o).modify 4 fun | .cells _ t frozen => .cells (Lib.pow10Tab.map fun n => Value.int .u64 n).toArray t frozen | o => o).modify 3 fun | .cells _ t frozen => .cells #[.iface 195 (.pointer (some ⟨(World.holding Tryd.prog default ⟨#[], #[], []⟩).heap.size, 0, none⟩))] t frozen | o => o).modify 2 fun | .cells _ t frozen => .cells #[.iface 195 (.pointer (some ⟨(World.holding Tryd.prog default ⟨#[], #[], []⟩).heap.size + 1, 0, none⟩))] t frozen | o => o) } : World) #[.string ByteArray.empty] rfl (by kernel_rfl) (by kernel_rfl) (by kernel_rfl)
      (OpenSpec.preRow_of_cond 8 (x := ([.lit (.string [])], [], [])) (by kernel_rfl) (by kernel_rfl) (fun k hk => by cases hk) (by kernel_rfl) (laidMet_of_run' 8 (by kernel_rfl) (by kernel_rfl)))) ?_
  intro W base args ds gs before hval hW _ _ _ hL hSh _
  exact contract H enc W base args ds gs before hval hW hL hSh

theorem said : Rows.FnExactReadProofSaid :=
  OpenClaim.holds_of_cond 15 Tryd.f15 rfl rfl rfl rfl rfl rfl rfl ⟨rfl, rfl, rfl, rfl, rfl⟩ rfl rfl rfl rfl rfl (by kernel_rfl) Tryd.func15 (by kernel_rfl)
    (of_decide_eq_true (by kernel_rfl)) (by unfold Func.isWrapper; first | (rw [if_pos (by decide +kernel)]; kernel_rfl) | (rw [if_neg (by decide +kernel)]; exact ⟨rfl, rfl⟩))
    (fun os started H enc _ F => by rw [OpenClaim.pre_eq_preRow]; exact lifted os started H enc F)

theorem plain (f : FuncId) (fn : Func) (hf : Tryd.pinned.checked.prog.funcNamed "loop.example/g00123/laws.FnExactReadProof" = some f) (hfn : Tryd.pinned.checked.prog.funcs[f]? = some fn) :
    true = Tryd.pinned.checked.prog.looks [] ∧ ∀ (j : Nat) t, fn.params[j]? = some t → Tryd.pinned.checked.prog.wantsStandIn t = false := by
  obtain rfl : f = 15 := Option.some.inj ((show Tryd.prog.funcNamed "loop.example/g00123/laws.FnExactReadProof" = some 15 by kernel_rfl).symm.trans hf) |>.symm
  obtain rfl : fn = Tryd.f15 := (Option.some.inj (Tryd.func15.symm.trans hfn)).symm
  refine ⟨by kernel_rfl, fun j t ht => ?_⟩
  rw [Tryd.params15] at ht
  obtain rfl : t = 9 := by simpa using Array.mem_of_getElem? ht
  exact (show Tryd.prog.wantsStandIn 9 = false by kernel_rfl)

/-- the statement: the row's tied card -/
theorem proved : Rows.FnExactReadProofCardSaid :=
  Claim7.holds_tied_plain_at .later [] _ _ _ _ said (fun _ h => by cases h) (by kernel_rfl) (fun _ h => by cases h) fnExactReadProof_row_tie rfl ⟨rfl, rfl⟩ (by kernel_rfl) rfl plain (by kernel_rfl)
#print axioms proved
end Go.Proofs.YtgcglpdemolcoaaDoor.fnExactReadProof
