/- Whatever the code draws, a mark is that of its text and key, as the model's; a key with a nought behind it has the same marks; a mark has thirty-two bytes, is found right, and comes back from its hexadecimal text (the law FnMark returns true); the program's tables lie as their text lays them (tied). -/
import Derived.Test.YtfmmdnikeoloeaaDoorCards
import Derived.Test.YtfmmdnikeoloeaaDoorTie
import Derived.OpenVars
import Derived.Test.YtfmmdnikeoloeaaDoorZw
import Derived.WalkKit
import Derived.ProofKit
import Derived.OpenShut
import Derived.ShutString
import Derived.ChangeOld
import Derived.Below
import Derived.Deep.DeepHandedRow
import Derived.Lib.LaidTab
import Derived.Lib.TrailingZeros
import Derived.Stop.LaidErr
import Derived.LaidHandle
import Derived.LaidSub
namespace Go.Proofs.YtfmmdnikeoloeaaDoor.fnMark
open Go.ChangeShapes Go.WideShapes Go.ChangeAt Go.RowKit
open Go.ChangeMaps (open_string shut_string)
set_option linter.unusedVariables false

theorem own : ownKnob Tryd.prog.godebug = none := by kernel_rfl
theorem laidOut : laidOutB Tryd.prog = true := by kernel_rfl

/-- what the walk is told of a slice of integers that came in -/
def IsRow (k : IntKind) (w : World) (a : Option Addr) (len cap : Nat) (zs : List Int) : Prop :=
  (a = none ∧ len = 0 ∧ cap = 0 ∧ zs = []) ∨
  ∃ x, a = some x ∧ len ≤ cap ∧ cap ≤ maxLen ∧ zs.length = cap ∧ (∀ i, i < zs.length → w.cell? (x.add i) = some (.int k (zs.getD i 0))) ∧ ∀ n ∈ zs, (Lit.int k n).wf = true

theorem laidOutV : laidOutB Tryd.prog = true := by kernel_rfl
theorem vars1 {H : Type} {enc : TypeId × Value → H} {P : Program} {w : World} {sp : Nat → Bool} {n : String} {gs : List (DataW H)} {ps : List MemPlace} (h : DataW.TrodVars enc P w sp [n] gs ps) : ∃ g, gs = [g] := by
  cases gs with
  | nil => exact h.elim
  | cons g t =>
    obtain ⟨_, _, _, _, _, _, _, _, _, _, hs, _⟩ := h
    cases t with
    | nil => exact ⟨g, rfl⟩
    | cons _ _ => exact hs.elim
theorem vars2 {H : Type} {enc : TypeId × Value → H} {P : Program} {w : World} {sp : Nat → Bool} {n m : String} {gs : List (DataW H)} {ps : List MemPlace} (h : DataW.TrodVars enc P w sp [n, m] gs ps) : ∃ g k, gs = [g, k] := by
  cases gs with
  | nil => exact h.elim
  | cons g t =>
    obtain ⟨_, _, _, _, _, _, _, _, _, _, hs, _⟩ := h
    obtain ⟨k, rfl⟩ := vars1 hs
    exact ⟨g, k, rfl⟩
theorem gK : Tryd.prog.globalNamed "loop.example/g00123/impl.sumConsts" = some 1 := by kernel_rfl
theorem tyK : (Tryd.prog.globals[1]?).map (·.type) = some 62 := by kernel_rfl
theorem cellsK : Tryd.prog.cellsOf 62 = 64 := by kernel_rfl
theorem dataK : (Rows.laid_loop_example_g00123_impl_sumConsts : DataW Unit) = Lib.tabData .u32 zk.kL := by kernel_rfl
theorem gS : Tryd.prog.globalNamed "loop.example/g00123/impl.sumStarts" = some 0 := by kernel_rfl
theorem tyS : (Tryd.prog.globals[0]?).map (·.type) = some 27 := by kernel_rfl
theorem cellsS : Tryd.prog.cellsOf 27 = 8 := by kernel_rfl
theorem dataS : (Rows.laid_loop_example_g00123_impl_sumStarts : DataW Unit) = Lib.tabData .u32 zk.sL := by kernel_rfl
theorem cellsW : Tryd.prog.cellsOf 26 = 1 := by kernel_rfl
theorem laid_tail {P : Program} {W : World} {x : String × DataW Unit} {rest : List (String × DataW Unit)} (h : laidMet P (x :: rest) W) : laidMet P rest W := by
  obtain ⟨ps, hv, hn, hc⟩ := h
  obtain ⟨n, d⟩ := x
  obtain ⟨g, t, cs, fuel, p, q, _, _, _, _, hr, rfl⟩ := hv
  exact ⟨q, hr, (List.nodup_append.1 hn).2.1, fun b off hm => hc b off (List.mem_append_right _ hm)⟩
/-- what the row's list gives: the tables as they lie -/
theorem table {W : World} (h : laidMetH Tryd.prog Rows.fnMarkRow.laid W) : zk.TabK W ∧ zk.TabS W := by
  have h1 : laidMet Tryd.prog Rows.fnMarkRow.laid W := h
  have h10 := h1
  have tK : zk.TabK W := by
    have hh : laidMet Tryd.prog (("loop.example/g00123/impl.sumConsts", Lib.tabData .u32 zk.kL) :: [("loop.example/g00123/impl.sumStarts", Rows.laid_loop_example_g00123_impl_sumStarts)]) W := by
      rw [← dataK]
      exact h10
    have t : Lib.TabIs Tryd.prog W "loop.example/g00123/impl.sumConsts" .u32 zk.kL :=
      Lib.tabIs_of_head gK tyK Tryd.underlying62 Tryd.underlying26 cellsW cellsK hh
    exact fun j hj => t.cell gK j hj
  have h20 := laid_tail h10
  have tS : zk.TabS W := by
    have hh : laidMet Tryd.prog (("loop.example/g00123/impl.sumStarts", Lib.tabData .u32 zk.sL) :: []) W := by
      rw [← dataS]
      exact h20
    have t : Lib.TabIs Tryd.prog W "loop.example/g00123/impl.sumStarts" .u32 zk.sL :=
      Lib.tabIs_of_head gS tyS Tryd.underlying27 Tryd.underlying26 cellsW cellsS hh
    exact fun j hj => t.cell gS j hj
  exact ⟨tK, tS⟩

/-! ### the walk -/
theorem walk (a0 : Option Addr) (len0 cap0 : Nat) (z0 : List Int) (w : World) (w0 : IsRow .u8 w a0 len0 cap0 z0) (hT : zk.TabK w ∧ zk.TabS w) :
    Calls Tryd.prog 4 #[.slice a0 len0 cap0] w fun e w' => e = .returned (.bool true) ∧ Below w.heap.size w w' := by
  have hB := draw.of_rowB w0
  have hm : len0 ≤ 9223372036854775807 := by
    rcases w0 with ⟨_, h, _, _⟩ | ⟨_, _, h1, h2, _⟩
    · omega
    · unfold maxLen at h2
      omega
  clear w0
  have C := sl.hide (draw.big a0 len0 cap0 w hm)
  by_cases hbig : 1048576 < len0
  · rw [decide_eq_true hbig] at C
    go_enter Tryd.func4, Tryd.ntmps4
    go_wp2_with fail
    refine (sl.unhide C).mono ?_; rintro e w' ⟨rfl, rfl⟩
    go_wp2_with fail
    go_ret
    exact ⟨rfl, Below.refl _ _⟩
  rw [decide_eq_false hbig] at C
  have HB := sl.hide hB
  have TT := sl.hide hT
  have TB : Hid (∀ w', w.grownBy w' none → zk.TabK w' ∧ zk.TabS w') := fun w' g => ⟨(sl.unhide TT).1.kept g, (sl.unhide TT).2.kept g⟩
  have hn : len0 ≤ 1048576 := by omega
  clear hB hT hm hbig
  go_enter Tryd.func4, Tryd.ntmps4
  go_wp2_with fail
  refine (sl.unhide C).mono ?_; rintro e w' ⟨rfl, rfl⟩
  go_wp2_with fail
  refine (zv.drawMac a0 len0 cap0 _ hn (sl.unhide HB)).mono ?_; rintro e w1 ⟨key, s, rfl, hk, hs, g1⟩
  have G1 := sl.hide g1
  clear g1 C
  have CI := sl.hide (fun w h1 h2 => zr.implMac key s w (by omega) (by omega) h1 h2)
  have CS := sl.hide (fun w => zr.specMac key s w (by omega) (by omega))
  have CK := sl.hide (fun m w h1 h2 => zr.implMacOk key s m w (by omega) (by omega) h1 h2)
  unfold dec.str at CI CS
  by_cases h64 : 64 < key.size
  · have i0 : (64 : Int) < (key.size : Int) := by omega
    rw [zw.mac_none key s h64] at CI CS
    have OK := sl.hide (zw.ok_none key s ⟨#[]⟩ h64)
    clear h64 TT
    go_wp2_with fail
    refine (sl.unhide CI _ (sl.unhide TB _ (sl.unhide G1)).1 (sl.unhide TB _ (sl.unhide G1)).2).mono ?_; rintro e w2 ⟨rfl, g2⟩
    have G2 := sl.hide (sl.grown_trans (r := none) (sl.unhide G1) g2)
    clear g2 CI G1
    go_wp2_with fail
    refine (sl.unhide CS _).mono ?_; rintro e w3 ⟨rfl, g3⟩
    have G3 := sl.hide (sl.grown_trans (r := none) (sl.unhide G2) g3)
    clear g3 CS G2
    have CK' := sl.hide (sl.unhide CK ⟨#[]⟩ w3 (sl.unhide TB _ (sl.unhide G3)).1 (sl.unhide TB _ (sl.unhide G3)).2)
    rw [sl.unhide OK] at CK'
    clear CK OK
    go_wp2_with fail
    refine (sl.unhide CK').mono ?_; rintro e w4 ⟨rfl, g4⟩
    have G4 := sl.hide (sl.grown_trans (r := none) (sl.unhide G3) g4)
    clear g4 CK' G3
    go_wp2_with fail
    go_ret
    exact ⟨rfl, sl.below_of (sl.unhide G4)⟩
  have i0 : ¬ (64 : Int) < (key.size : Int) := by omega
  have OK := sl.hide (zw.ok_own key s (by omega) (by omega))
  have ml := zw.mac_len key s (by omega) (by omega)
  have HX := zw.hex_back (zr.macT key s) (by omega)
  have CT := sl.hide (fun w => zf.implHexText ⟨(zr.macT key s).toArray⟩ w (by rw [zr.mk_size]; omega))
  have CB := sl.hide (fun w => zh.implHexBytes ⟨(ze.hexL (zr.macT key s)).toArray⟩ w (by rw [zr.mk_size, ze.hexL_length]; omega))
  rw [HX.1] at CT
  rw [HX.2.1, HX.2.2] at CB
  have MZ := sl.hide (fun h => zw.mac_zero key s h)
  have CZ := sl.hide (fun w h1 h2 => zr.implMac (key ++ zw.z1) s w (by rw [ByteArray.size_append]; have : zw.z1.size = 1 := rfl; omega) (by omega) h1 h2)
  unfold dec.str at CT CB CZ
  rw [show (ByteArray.mk (ze.hexL (zr.macT key s)).toArray) = ⟨(ze.hexL (zr.macT key s)).toArray⟩ from rfl] at CB
  generalize hXX : zr.macT key s = X at *
  have HXX := sl.hide hXX
  generalize ze.hexL X = Y at *
  clear HX h64 TT
  go_wp2_with fail
  refine (sl.unhide CI _ (sl.unhide TB _ (sl.unhide G1)).1 (sl.unhide TB _ (sl.unhide G1)).2).mono ?_; rintro e w2 ⟨rfl, g2⟩
  have G2 := sl.hide (sl.grown_trans (r := none) (sl.unhide G1) g2)
  clear g2 G1
  go_wp2_with fail
  refine (sl.unhide CS _).mono ?_; rintro e w3 ⟨rfl, g3⟩
  have G3 := sl.hide (sl.grown_trans (r := none) (sl.unhide G2) g3)
  clear g3 CS G2
  have CD := sl.hide (zv.drawMacOk a0 len0 cap0 w3 hn ((sl.unhide HB).below (sl.below_of (sl.unhide G3))))
  have ml32 := ml
  clear ml hXX HB
  go_wp2_with fail
  refine (sl.unhide CD).mono ?_; rintro e w4 ⟨k2, u2, m2, rfl, hk2, hu2, g4⟩
  have G4 := sl.hide (sl.grown_trans (r := none) (sl.unhide G3) g4)
  have C2I := sl.hide (fun w h1 h2 => zr.implMacOk k2 u2 m2 w (by omega) (by omega) h1 h2)
  have C2S := sl.hide (fun w => zr.specMacOk k2 u2 m2 w (by omega) (by omega))
  generalize zr.okM k2 u2 m2 = bb at *
  clear g4 CD G3 hk2 hu2
  by_cases hlt : key.size < 64
  · have i1 : (key.size : Int) < 64 := by omega
    have hz := sl.hide (sl.unhide MZ hlt)
    rw [sl.unhide hz] at CZ
    unfold zw.z1 at CZ
    have one := zw.one_zero w4
    have G4a := sl.hide (sl.grown_trans (r := none) (sl.unhide G4) (World.grownBy_alloc w4 (.cells #[.int .u8 0] 5) none))
    clear hlt MZ hz CI G4
    go_wp2_with fail
    refine (sl.unhide CT _).mono ?_; rintro e w5 ⟨rfl, g5⟩
    have G5 := sl.hide (sl.grown_trans (r := none) (sl.unhide G4a) g5)
    clear g5 CT G4a
    go_wp2_with fail
    refine (sl.unhide CB _).mono ?_; rintro e w6 ⟨rfl, g6⟩
    have G6 := sl.hide (sl.grown_trans (r := none) (sl.unhide G5) g6)
    have CK' := sl.hide (sl.unhide CK ⟨X.toArray⟩ w6 (sl.unhide TB _ (sl.unhide G6)).1 (sl.unhide TB _ (sl.unhide G6)).2)
    rw [sl.unhide OK] at CK'
    clear g6 CB G5 CK OK
    go_wp2_with fail
    refine (sl.unhide CK').mono ?_; rintro e w7 ⟨rfl, g7⟩
    have G7 := sl.hide (sl.grown_trans (r := none) (sl.unhide G6) g7)
    clear g7 CK' G6
    go_wp2_with fail
    refine (sl.unhide CZ _ (sl.unhide TB _ (sl.unhide G7)).1 (sl.unhide TB _ (sl.unhide G7)).2).mono ?_; rintro e w8 ⟨rfl, g8⟩
    have G8 := sl.hide (sl.grown_trans (r := none) (sl.unhide G7) g8)
    clear g8 CZ G7
    go_wp2_with fail
    refine (sl.unhide C2I _ (sl.unhide TB _ (sl.unhide G8)).1 (sl.unhide TB _ (sl.unhide G8)).2).mono ?_; rintro e w9 ⟨rfl, g9⟩
    have G9 := sl.hide (sl.grown_trans (r := none) (sl.unhide G8) g9)
    clear g9 C2I G8
    go_wp2_with fail
    refine (sl.unhide C2S _).mono ?_; rintro e w10 ⟨rfl, g10⟩
    have G10 := sl.hide (sl.grown_trans (r := none) (sl.unhide G9) g10)
    clear g10 C2S G9
    go_wp2_with fail
    go_ret
    exact ⟨rfl, sl.below_of (sl.unhide G10)⟩
  · have i1 : ¬ (key.size : Int) < 64 := by omega
    clear hlt MZ CZ
    go_wp2_with fail
    refine (sl.unhide CT _).mono ?_; rintro e w5 ⟨rfl, g5⟩
    have G5 := sl.hide (sl.grown_trans (r := none) (sl.unhide G4) g5)
    clear g5 CT G4
    go_wp2_with fail
    refine (sl.unhide CB _).mono ?_; rintro e w6 ⟨rfl, g6⟩
    have G6 := sl.hide (sl.grown_trans (r := none) (sl.unhide G5) g6)
    have CK' := sl.hide (sl.unhide CK ⟨X.toArray⟩ w6 (sl.unhide TB _ (sl.unhide G6)).1 (sl.unhide TB _ (sl.unhide G6)).2)
    rw [sl.unhide OK] at CK'
    clear g6 CB G5 CK OK
    go_wp2_with fail
    refine (sl.unhide CK').mono ?_; rintro e w7 ⟨rfl, g7⟩
    have G7 := sl.hide (sl.grown_trans (r := none) (sl.unhide G6) g7)
    clear g7 CK' G6
    go_wp2_with fail
    refine (sl.unhide CI _ (sl.unhide TB _ (sl.unhide G7)).1 (sl.unhide TB _ (sl.unhide G7)).2).mono ?_; rintro e w8 ⟨rfl, g8⟩
    have G8 := sl.hide (sl.grown_trans (r := none) (sl.unhide G7) g8)
    clear g8 CI G7
    go_wp2_with fail
    refine (sl.unhide C2I _ (sl.unhide TB _ (sl.unhide G8)).1 (sl.unhide TB _ (sl.unhide G8)).2).mono ?_; rintro e w9 ⟨rfl, g9⟩
    have G9 := sl.hide (sl.grown_trans (r := none) (sl.unhide G8) g9)
    clear g9 C2I G8
    go_wp2_with fail
    refine (sl.unhide C2S _).mono ?_; rintro e w10 ⟨rfl, g10⟩
    have G10 := sl.hide (sl.grown_trans (r := none) (sl.unhide G9) g10)
    clear g10 C2S G9
    go_wp2_with fail
    go_ret
    exact ⟨rfl, sl.below_of (sl.unhide G10)⟩

/-! ### the row's step (the guide's own frame) -/
set_option maxRecDepth 100000 in
theorem contract (H : Type) (enc : TypeId × Value → H) (W : World) (base : Nat) (args : Array Value) (ds gs : List (DataW H)) (before : List MemPlace)
    (hval : ∀ (j : Nat) t v, Tryd.f4.params[j]? = some t → args[j]? = some v → Value.okWide Tryd.prog W .any base t v)
    (hW : DataW.Whole enc Tryd.prog Tryd.f4.params.toList Rows.fnMarkSpec.vars false W args.toList ds gs before) (hL : laidMetH Tryd.prog Rows.fnMarkRow.laid W) :
    Calls Tryd.prog 4 args W fun e W' => ∃ v, e = .returned v ∧ Rows.fnMarkSpec.post enc Tryd.prog Tryd.f4 false true false false W args v W' := by
  have hW' := hW
  obtain ⟨p, q, hA0, hV, rfl, hfz, hnd⟩ := hW
  have hA : DataW.TrodAll enc Tryd.prog W 0 (fun _ => true) true Tryd.f4.params.toList args.toList ds p := hA0
  rw [Tryd.params4] at hA hval
  obtain ⟨v0, vs0, d0, ds0, p0, q0, hargs, rfl, rfl, h0, r0⟩ := trodAll_cons hA
  obtain ⟨rfl, rfl, rfl⟩ := trodAll_nil r0
  obtain rfl : args = #[v0] := by cases args; simp_all
  obtain ⟨g0, g1, rfl⟩ := vars2 hV
  obtain ⟨a0, len0, cap0, rfl⟩ := okWide_slice Tryd.underlying22 (hval 0 22 v0 rfl rfl)
  have k0 := h0
  have lt0 : ∀ x ∈ p0, x.block < W.heap.size := by obtain ⟨m, hm⟩ := k0; exact DataW.trod_lt m _ _ _ hm
  obtain ⟨z0, w0⟩ : ∃ zs, IsRow .u8 W a0 len0 cap0 zs := by
    obtain ⟨fuel, hf⟩ := h0
    rcases open_ints Tryd.underlying22 Tryd.underlying5 (by kernel_rfl) hf with ⟨hcs, _⟩ | ⟨x, l, c, zs, hcs, _, hl, hm, hz, _, hcell, hwz⟩
    · simp [Value.cells] at hcs
      obtain ⟨rfl, rfl, rfl⟩ := hcs
      exact ⟨[], .inl ⟨rfl, rfl, rfl, rfl⟩⟩
    · simp [Value.cells] at hcs
      obtain ⟨rfl, rfl, rfl⟩ := hcs
      exact ⟨zs, .inr ⟨_, rfl, hl, hm, by simpa using hz, hcell, hwz⟩⟩
  clear hA0
  refine (walk a0 len0 cap0 z0 W w0 (table hL)).mono fun e W' ⟨he, bel⟩ => ?_
  subst he
  exact ⟨_, rfl, _, _, _, [], _, _, hW', trodAll_mk1 (shut_bool Tryd.underlying4 _), (trodAll_cons_mk (Below.trod laidOut (by kernel_rfl) (of_decide_eq_true (by kernel_rfl)) k0 bel lt0) trodAll_mk0), Below.trodVars laidOutV bel (by kernel_rfl) hV, bel.frame _, fun h => by cases h⟩

set_option maxRecDepth 100000 in
theorem lifted (os : Os) (started : os.Started) (H : Type) (enc : TypeId × Value → H) (F : Stop.Interp) :
    ReturnsInHanded {} Tryd.checked os 4 .any ((OpenSpec.ofChange Rows.fnMarkSpec).preRow enc Tryd.prog Tryd.f4 Rows.fnMarkRow.domain false Rows.fnMarkRow.laid) (((OpenSpec.ofChange Rows.fnMarkSpec).at F).post enc Tryd.prog Tryd.f4 false true false false) := by
  refine returnsInHanded_of_row (C := Tryd.checked) (s := OpenSpec.ofChange Rows.fnMarkSpec) own started (by kernel_rfl) Tryd.func4
    (witness_row_at (enc := enc) (C := Tryd.checked) false ({ World.holding Tryd.prog os ⟨#[], #[], []⟩ with heap := (((World.holding Tryd.prog os ⟨#[], #[], []⟩).heap.modify 1 fun | .cells _ t frozen => .cells (zk.kL.map fun n => Value.int .u32 n).toArray t frozen | o => o).modify 0 fun | .cells _ t frozen => .cells (zk.sL.map fun n => Value.int .u32 n).toArray t frozen | o => o) } : World) #[.slice none 0 0] rfl (by kernel_rfl) (by kernel_rfl) (by kernel_rfl)
      (OpenSpec.preRow_of_cond 8 (x := ([.nil], [Rows.laid_loop_example_g00123_impl_sumStarts, Rows.laid_loop_example_g00123_impl_sumConsts], MemPlace.row ⟨0, 0, none⟩ 8 ++ MemPlace.row ⟨1, 0, none⟩ 64)) (by kernel_rfl) (by kernel_rfl) (fun k hk => by cases hk) (by kernel_rfl) (laidMet_of_run' 8 (by kernel_rfl) (by kernel_rfl)))) ?_
  intro W base args ds gs before hval hW _ _ _ hL _ _
  exact contract H enc W base args ds gs before hval hW hL

theorem said : Rows.FnMarkSaid :=
  OpenClaim.holds_of_cond 4 Tryd.f4 rfl rfl rfl rfl rfl rfl rfl ⟨rfl, rfl, rfl, rfl, rfl⟩ rfl rfl rfl rfl rfl (by kernel_rfl) Tryd.func4 (by kernel_rfl)
    (of_decide_eq_true (by kernel_rfl)) (by unfold Func.isWrapper; first | (rw [if_pos (by decide +kernel)]; kernel_rfl) | (rw [if_neg (by decide +kernel)]; exact ⟨rfl, rfl⟩))
    (fun os started H enc _ F => by rw [OpenClaim.pre_eq_preRow]; exact lifted os started H enc F)

theorem plain (f : FuncId) (fn : Func) (hf : Tryd.pinned.checked.prog.funcNamed "loop.example/g00123/laws.FnMark" = some f) (hfn : Tryd.pinned.checked.prog.funcs[f]? = some fn) :
    false = Tryd.pinned.checked.prog.looks [] ∧ ∀ (j : Nat) t, fn.params[j]? = some t → Tryd.pinned.checked.prog.wantsStandIn t = false := by
  obtain rfl : f = 4 := Option.some.inj ((show Tryd.prog.funcNamed "loop.example/g00123/laws.FnMark" = some 4 by kernel_rfl).symm.trans hf) |>.symm
  obtain rfl : fn = Tryd.f4 := (Option.some.inj (Tryd.func4.symm.trans hfn)).symm
  refine ⟨by kernel_rfl, fun j t ht => ?_⟩
  rw [Tryd.params4] at ht
  obtain rfl : t = 22 := by simpa using Array.mem_of_getElem? ht
  exact (show Tryd.prog.wantsStandIn 22 = false by kernel_rfl)

/-- the statement: the row's tied card -/
theorem proved : Rows.FnMarkCardSaid :=
  Claim7.holds_tied_plain_at .later [] _ _ _ _ said (fun _ h => by cases h) (by kernel_rfl) (fun _ h => by cases h) fnMark_row_tie rfl ⟨rfl, rfl⟩ (by kernel_rfl) rfl plain (by kernel_rfl)
#print axioms proved
end Go.Proofs.YtfmmdnikeoloeaaDoor.fnMark
