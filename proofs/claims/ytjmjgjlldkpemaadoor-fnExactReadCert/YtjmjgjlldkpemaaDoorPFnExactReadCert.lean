/- At every text of at most 2^20 bytes ReadCert of the program answers as its model, and nothing that came in is written (the law FnExactReadCert returns true); no condition. -/
import Derived.Test.YtjmjgjlldkpemaaDoorCards
import Derived.Test.YtjmjgjlldkpemaaDoorTie
import Derived.Test.YtjmjgjlldkpemaaDoorYf
import Derived.WalkKit
import Derived.ProofKit
import Derived.OpenShut
import Derived.ShutString
import Derived.ChangeOld
import Derived.Below
import Derived.Deep.DeepHandedRow
import Derived.Lib.LaidTab
import Derived.Lib.TrailingZeros
import Derived.Stop.LaidErr
import Derived.LaidHandle
import Derived.LaidSub
namespace Go.Proofs.YtjmjgjlldkpemaaDoor.fnExactReadCert
open Go.ChangeShapes Go.WideShapes Go.ChangeAt Go.RowKit
open Go.ChangeMaps (open_string shut_string)
set_option linter.unusedVariables false

theorem own : ownKnob Tryd.prog.godebug = none := by kernel_rfl

/-- what the world's shape gives -/
theorem table {W : World} (hSh : W.ShapedOpen Tryd.prog) : yd.Most W := Tryd.laysM145.s1_3 W hSh

/-! ### the walk -/
theorem walk (a0 : ByteArray) (w0 : a0.size ≤ maxLen) (w : World) (hT : yd.Most w) :
    Calls Tryd.prog 5 #[.string a0] w fun e w' => e = .returned (.bool true) ∧ Below w.heap.size w w' := by
  by_cases hbig : 1048576 < a0.size
  · have hi : (1048576 : Int) < (a0.size : Int) := by omega
    go_enter Tryd.func5, Tryd.ntmps5
    go_wp2
    go_ret
    exact ⟨rfl, Below.refl _ _⟩
  · have hi : ¬ (1048576 : Int) < (a0.size : Int) := by omega
    obtain ⟨d, sat, b, m, ok, cs, ci⟩ := yd.both a0 (by omega)
    have CS := sl.hide cs
    have CI := sl.hide (fun w1 (g : w.grownBy w1 none) => ci w1 (hT.kept g))
    have CE := sl.hide (fun w => yd.eqSame d sat b m w)
    clear cs ci hT hbig
    go_enter Tryd.func5, Tryd.ntmps5
    go_wp2_with fail
    refine (sl.unhide CS _).mono ?_; rintro e w1 ⟨rfl, g1⟩
    have ga := World.grownBy_alloc w1 (.cells #[.string d, .bool sat, .string b, .string m] 38) none
    have G1 := sl.hide (sl.grown_trans (r := none) g1 ga)
    have B1 := sl.hide (yb.Box4.new 38 w1 (.string d) (.bool sat) (.string b) (.string m))
    clear g1 ga CS
    go_wp2_with fail
    refine (sl.unhide CI _ (sl.unhide G1)).mono ?_; rintro e w2 ⟨rfl, g2⟩
    have ga := World.grownBy_alloc w2 (.cells #[.string d, .bool sat, .string b, .string m] 38) none
    obtain ⟨W4, hW4⟩ : ∃ W4, W4 = w2.alloc (.cells #[.string d, .bool sat, .string b, .string m] 38) := ⟨_, rfl⟩
    have B2 := sl.hide (((sl.unhide B1).kept g2).kept ga)
    have B3 := sl.hide (yb.Box4.new 38 w2 (.string d) (.bool sat) (.string b) (.string m))
    have G2 := sl.hide (sl.grown_trans (r := none) (sl.grown_trans (r := none) (sl.unhide G1) g2) ga)
    rw [← hW4] at B2 B3 G2
    clear g2 ga CI G1 B1
    go_upto_region 5 with fail
    rw [← hW4]
    have x0 := (sl.unhide B2).c0
    have x1 := (sl.unhide B2).c1
    have x2 := (sl.unhide B2).c2
    have x3 := (sl.unhide B2).c3
    have y0 := (sl.unhide B3).c0
    have y1 := (sl.unhide B3).c1
    have y2 := (sl.unhide B3).c2
    have y3 := (sl.unhide B3).c3
    clear hW4
    go_wp2_with fail
    refine (sl.unhide CE _).mono ?_; rintro e w3 ⟨rfl, g3⟩
    have G3 := sl.hide (sl.grown_trans (r := none) (sl.unhide G2) g3)
    clear g3 CE G2
    go_wp2_with fail
    go_ret
    exact ⟨rfl, sl.below_of (sl.unhide G3)⟩

/-! ### the row's step (the guide's own frame) -/
set_option maxRecDepth 100000 in
theorem contract (H : Type) (enc : TypeId × Value → H) (W : World) (base : Nat) (args : Array Value) (ds gs : List (DataW H)) (before : List MemPlace)
    (hval : ∀ (j : Nat) t v, Tryd.f5.params[j]? = some t → args[j]? = some v → Value.okWide Tryd.prog W .any base t v)
    (hW : DataW.Whole enc Tryd.prog Tryd.f5.params.toList Rows.fnExactReadCertSpec.vars false W args.toList ds gs before) (hL : laidMetH Tryd.prog Rows.fnExactReadCertRow.laid W) (hSh : W.ShapedOpen Tryd.prog) :
    Calls Tryd.prog 5 args W fun e W' => ∃ v, e = .returned v ∧ Rows.fnExactReadCertSpec.post enc Tryd.prog Tryd.f5 false true false false W args v W' := by
  have hW' := hW
  obtain ⟨p, q, hA0, hV, rfl, hfz, hnd⟩ := hW
  have hA : DataW.TrodAll enc Tryd.prog W 0 (fun _ => true) true Tryd.f5.params.toList args.toList ds p := hA0
  rw [Tryd.params5] at hA hval
  obtain ⟨v0, vs0, d0, ds0, p0, q0, hargs, rfl, rfl, h0, r0⟩ := trodAll_cons hA
  obtain ⟨rfl, rfl, rfl⟩ := trodAll_nil r0
  obtain rfl : args = #[v0] := by cases args; simp_all
  obtain ⟨rfl, rfl⟩ := trodVars_none hV
  obtain ⟨a0, rfl, rfl, rfl, w0⟩ := open_string Tryd.underlying9 (hval 0 9 v0 rfl rfl) h0
  clear hA0
  simp only [List.append_nil] at hW'
  refine (walk a0 w0 W (table hSh)).mono fun e W' ⟨he, hg⟩ => ?_
  subst he
  exact ⟨_, rfl, _, _, _, [], [], [], hW', trodAll_mk1 (shut_bool Tryd.underlying4 _), (trodAll_cons_mk (shut_string Tryd.underlying9 w0) trodAll_mk0), rfl, hg.frame _, fun h => by cases h⟩

set_option maxRecDepth 100000 in
theorem lifted (os : Os) (started : os.Started) (H : Type) (enc : TypeId × Value → H) (F : Stop.Interp) :
    ReturnsInHanded {} Tryd.checked os 5 .any ((OpenSpec.ofChange Rows.fnExactReadCertSpec).preRow enc Tryd.prog Tryd.f5 Rows.fnExactReadCertRow.domain false Rows.fnExactReadCertRow.laid) (((OpenSpec.ofChange Rows.fnExactReadCertSpec).at F).post enc Tryd.prog Tryd.f5 false true false false) := by
  refine returnsInHanded_of_row (C := Tryd.checked) (s := OpenSpec.ofChange Rows.fnExactReadCertSpec) own started (by kernel_rfl) Tryd.func5
    (witness_row_at (enc := enc) (C := Tryd.checked) false ({ World.holding Tryd.prog os ⟨#[], #[], []⟩ with heap := (((World.holding Tryd.prog os ⟨#[], #[], []⟩).heap.modify 3 fun | .cells _ t frozen => .cells #[.int .u8 128, .int .u8 191, .int .u8 160, .int .u8 191, .int .u8 128, .int .u8 159, .int .u8 144, .int .u8 191, .int .u8 128, .int .u8 143, .int .u8 0, .int .u8 0, .int .u8 0, .int .u8 0, .int .u8 0, .int .u8 0, .int .u8 0, .int .u8 0, .int .u8 0, .int .u8 0, .int .u8 0, .int .u8 0, .int .u8 0, .int .u8 0, .int .u8 0, .int .u8 0, .int .u8 0, .int .u8 0, .int .u8 0, .int .u8 0, .int .u8 0, .int .u8 0] t frozen | o => o).modify 2 fun | .cells _ t frozen => .cells (Go.Pinned.utf8FirstZ.map fun (n : Nat) => Value.int .u8 n).toArray t frozen | o => o) } : World) #[.string ByteArray.empty] rfl (by kernel_rfl) (by kernel_rfl) (by kernel_rfl)
      (OpenSpec.preRow_of_cond 8 (x := ([.lit (.string [])], [], [])) (by kernel_rfl) (by kernel_rfl) (fun k hk => by cases hk) (by kernel_rfl) (laidMet_of_run' 8 (by kernel_rfl) (by kernel_rfl)))) ?_
  intro W base args ds gs before hval hW _ _ _ hL hSh _
  exact contract H enc W base args ds gs before hval hW hL hSh

theorem said : Rows.FnExactReadCertSaid :=
  OpenClaim.holds_of_cond 5 Tryd.f5 rfl rfl rfl rfl rfl rfl rfl ⟨rfl, rfl, rfl, rfl, rfl⟩ rfl rfl rfl rfl rfl (by kernel_rfl) Tryd.func5 (by kernel_rfl)
    (of_decide_eq_true (by kernel_rfl)) (by unfold Func.isWrapper; first | (rw [if_pos (by decide +kernel)]; kernel_rfl) | (rw [if_neg (by decide +kernel)]; exact ⟨rfl, rfl⟩))
    (fun os started H enc _ F => by rw [OpenClaim.pre_eq_preRow]; exact lifted os started H enc F)

theorem plain (f : FuncId) (fn : Func) (hf : Tryd.pinned.checked.prog.funcNamed "loop.example/g00123/laws.FnExactReadCert" = some f) (hfn : Tryd.pinned.checked.prog.funcs[f]? = some fn) :
    false = Tryd.pinned.checked.prog.looks [] ∧ ∀ (j : Nat) t, fn.params[j]? = some t → Tryd.pinned.checked.prog.wantsStandIn t = false := by
  obtain rfl : f = 5 := Option.some.inj ((show Tryd.prog.funcNamed "loop.example/g00123/laws.FnExactReadCert" = some 5 by kernel_rfl).symm.trans hf) |>.symm
  obtain rfl : fn = Tryd.f5 := (Option.some.inj (Tryd.func5.symm.trans hfn)).symm
  refine ⟨by kernel_rfl, fun j t ht => ?_⟩
  rw [Tryd.params5] at ht
  obtain rfl : t = 9 := by simpa using Array.mem_of_getElem? ht
  exact (show Tryd.prog.wantsStandIn 9 = false by kernel_rfl)

/-- the statement: the row's tied card -/
theorem proved : Rows.FnExactReadCertCardSaid :=
  Claim7.holds_tied_plain_at .later [] _ _ _ _ said (fun _ h => by cases h) (by kernel_rfl) (fun _ h => by cases h) fnExactReadCert_row_tie rfl ⟨rfl, rfl⟩ (by kernel_rfl) rfl plain (by kernel_rfl)
#print axioms proved
end Go.Proofs.YtjmjgjlldkpemaaDoor.fnExactReadCert
