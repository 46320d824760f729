/- At every two lists of numbers and every number impl.Resolve answers as spec.Resolve, writes nothing into its arguments, and its answer owns its memory (the law FnExactResolve returns true); the library's table of places lies as its text lays it (tied). -/
import Derived.Test.YtmbmkbkghblcmaaDoorCards
import Derived.Test.YtmbmkbkghblcmaaDoorTie
import Derived.Test.YtmbmkbkghblcmaaDoorRes
import Derived.WalkKit
import Derived.ProofKit
import Derived.OpenShut
import Derived.ShutString
import Derived.ChangeOld
import Derived.Below
import Derived.Deep.DeepHandedRow
import Derived.Lib.LaidTab
import Derived.Lib.TrailingZeros
import Derived.Stop.LaidErr
namespace Go.Proofs.YtmbmkbkghblcmaaDoor.fnExactResolve
open Go.ChangeShapes Go.WideShapes Go.ChangeAt Go.RowKit
open Go.ChangeMaps (open_string shut_string)
set_option linter.unusedVariables false

theorem own : ownKnob Tryd.prog.godebug = none := by kernel_rfl
theorem laidOut : laidOutB Tryd.prog = true := by kernel_rfl

/-- what the walk is told of a slice of integers that came in -/
def IsRow (k : IntKind) (w : World) (a : Option Addr) (len cap : Nat) (zs : List Int) : Prop :=
  (a = none ∧ len = 0 ∧ cap = 0 ∧ zs = []) ∨
  ∃ x, a = some x ∧ len ≤ cap ∧ cap ≤ maxLen ∧ zs.length = cap ∧ (∀ i, i < zs.length → w.cell? (x.add i) = some (.int k (zs.getD i 0))) ∧ ∀ n ∈ zs, (Lit.int k n).wf = true

theorem gTab : Tryd.prog.globalNamed "math/bits.deBruijn64tab" = some 0 := by kernel_rfl
theorem gTabType : (Tryd.prog.globals[0]?).map (·.type) = some 102 := by kernel_rfl
theorem cellsTab : Tryd.prog.cellsOf 102 = 64 := by kernel_rfl
theorem cellsByte : Tryd.prog.cellsOf 5 = 1 := by kernel_rfl
/-- what the row's list gives: the table's cells hold its numbers -/
theorem table {W : World} (h : laidMetH Tryd.prog Rows.fnExactResolveRow.laid W) : srt.Tab W := by
  have t : Lib.TabIs Tryd.prog W "math/bits.deBruijn64tab" .u8 (Lib.deBruijn64tab.map fun (n : Nat) => (n : Int)) :=
    Lib.tabIs_of_head (rest := []) gTab gTabType Tryd.underlying102 Tryd.underlying5 cellsByte cellsTab h
  intro j hj
  have c := t.cell gTab j (by rw [List.length_map]; exact hj)
  rw [c]
  congr 2
  rw [List.getD, List.getD, List.getElem?_map]
  cases Lib.deBruijn64tab[j]? <;> rfl

/-! ### the walk -/
set_option maxRecDepth 100000 in
set_option maxHeartbeats 8000000 in
theorem walk (a0 : Option Addr) (len0 cap0 : Nat) (z0 : List Int) (a1 : Option Addr) (len1 cap1 : Nat) (z1 : List Int) (a2 : Int) (w : World) (w0 : IsRow .i64 w a0 len0 cap0 z0) (w1 : IsRow .i64 w a1 len1 cap1 z1) (w2 : (Lit.int .i64 a2).wf = true) (hT : srt.Tab w) :
    Calls Tryd.prog 6 #[.slice a0 len0 cap0, .slice a1 len1 cap1, .int .i64 a2] w fun e w' => e = .returned (.bool true) ∧ Below w.heap.size w w' := by
  obtain ⟨L, rfl, hS, _⟩ := sl.of_row w0
  obtain ⟨M, rfl, hU, _⟩ := sl.of_row w1
  by_cases hbig : 1048576 < L.length
  · have hi : (1048576 : Int) < (L.length : Int) := by omega
    go_enter Tryd.func6, Tryd.ntmps6
    go_wp2
    go_ret
    exact ⟨rfl, Below.refl _ _⟩
  · have hi : ¬ (1048576 : Int) < (L.length : Int) := by omega
    have hL : L.length ≤ 1048576 := by omega
    by_cases hbig' : 1048576 < M.length
    · have hj : (1048576 : Int) < (M.length : Int) := by omega
      go_enter Tryd.func6, Tryd.ntmps6
      go_wp2
      go_ret
      exact ⟨rfl, Below.refl _ _⟩
    · have hj : ¬ (1048576 : Int) < (M.length : Int) := by omega
      have hM : M.length ≤ 1048576 := by omega
      have hR : (res.resL L M a2).length ≤ 1048576 := Nat.le_trans (res.resL_len L M a2) (by decide)
      have TT := sl.hide hT
      have S := sl.hide hS
      have U := sl.hide hU
      clear hT hS hU
      generalize hBB : res.resB L M a2 = bb
      have HB := sl.hide hBB
      clear hBB
      go_enter Tryd.func6, Tryd.ntmps6
      go_wp2_with fail
      refine (sl.toIntS _ L _ hL (sl.unhide S)).mono ?_; rintro e v1 ⟨rfl, o1, g1⟩
      have s1 := g1.size
      have B1 := sl.hide (sl.below_of g1)
      have A1 := sl.hide (sl.Own.of o1)
      clear o1 g1 
      go_wp2_with fail
      refine (sl.toIntS _ M _ hM ((sl.unhide U).below (sl.unhide B1))).mono ?_; rintro e v2 ⟨rfl, o2, g2⟩
      have s2 := g2.size
      have B2 := sl.hide (sl.below_none (sl.unhide B1) g2)
      have A2 := sl.hide ((sl.unhide A1).kept g2)
      have C2 := sl.hide (sl.Own.of o2)
      clear o2 g2 B1 A1
      go_wp2_with fail
      refine (res.specResolve _ _ L M a2 _ hL hM (sl.unhide A2).sl (sl.unhide C2).sl).mono ?_; rintro e v3 ⟨u3, rfl, o3, g3⟩
      rw [sl.unhide HB]
      have s3 := g3.size
      have B3 := sl.hide (sl.below_none (sl.unhide B2) g3)
      have A3 := sl.hide ((sl.unhide A2).kept g3)
      have C3 := sl.hide ((sl.unhide C2).kept g3)
      have W3 := sl.hide (sl.Own.of o3)
      clear o3 g3 B2 A2 C2
      clear A3 C3
      go_wp2_with fail
      refine (sl.toIntS _ L _ hL ((sl.unhide S).below (sl.unhide B3))).mono ?_; rintro e v4 ⟨rfl, o4, g4⟩
      have s4 := g4.size
      have B4 := sl.hide (sl.below_none (sl.unhide B3) g4)
      have W4 := sl.hide ((sl.unhide W3).kept g4)
      have X4 := sl.hide (sl.Own.of o4)
      clear o4 g4 B3 W3
      go_wp2_with fail
      refine (sl.toIntS _ M _ hM ((sl.unhide U).below (sl.unhide B4))).mono ?_; rintro e v5 ⟨rfl, o5, g5⟩
      have s5 := g5.size
      have B5 := sl.hide (sl.below_none (sl.unhide B4) g5)
      have W5 := sl.hide ((sl.unhide W4).kept g5)
      have X5 := sl.hide ((sl.unhide X4).kept g5)
      have Y5 := sl.hide (sl.Own.of o5)
      clear o5 g5 B4 W4 X4
      go_wp2_with fail
      refine (res.implResolve _ _ L M a2 _ ((sl.unhide TT).below (sl.unhide B5)) hL hM (sl.unhide X5).sl (sl.unhide Y5).sl).mono ?_; rintro e v6 ⟨u6, rfl, o6, g6⟩
      rw [sl.unhide HB]
      have s6 := g6.size
      have B6 := sl.hide (sl.below_none (sl.unhide B5) g6)
      have W6 := sl.hide ((sl.unhide W5).kept g6)
      have X6 := sl.hide ((sl.unhide X5).kept g6)
      have Y6 := sl.hide ((sl.unhide Y5).kept g6)
      have V6 := sl.hide (sl.Own.of o6)
      clear o6 g6 B5 W5 X5 Y5
      go_wp2_with fail
      refine (sl.eqIntS _ _ _ _ hR (sl.unhide V6).sl (sl.unhide W6).sl).mono ?_; rintro e v7 ⟨rfl, g7⟩
      have s7 := g7.size
      have B7 := sl.hide (sl.below_none (sl.unhide B6) g7)
      have W7 := sl.hide ((sl.unhide W6).kept g7)
      have X7 := sl.hide ((sl.unhide X6).kept g7)
      have Y7 := sl.hide ((sl.unhide Y6).kept g7)
      have V7 := sl.hide ((sl.unhide V6).kept g7)
      clear g7 B6 W6 X6 Y6 V6
      go_wp2_with fail
      refine (sl.toIntS _ L _ hL ((sl.unhide S).below (sl.unhide B7))).mono ?_; rintro e v8 ⟨rfl, o8, g8⟩
      have s8 := g8.size
      have B8 := sl.hide (sl.below_none (sl.unhide B7) g8)
      have W8 := sl.hide ((sl.unhide W7).kept g8)
      have X8 := sl.hide ((sl.unhide X7).kept g8)
      have Y8 := sl.hide ((sl.unhide Y7).kept g8)
      have V8 := sl.hide ((sl.unhide V7).kept g8)
      have Z8 := sl.hide (sl.Own.of o8)
      clear o8 g8 B7 W7 X7 Y7 V7
      go_wp2_with fail
      refine (sl.eqIntS _ _ _ _ hL (sl.unhide X8).sl (sl.unhide Z8).sl).mono ?_; rintro e v9 ⟨rfl, g9⟩
      have s9 := g9.size
      have B9 := sl.hide (sl.below_none (sl.unhide B8) g9)
      have W9 := sl.hide ((sl.unhide W8).kept g9)
      have X9 := sl.hide ((sl.unhide X8).kept g9)
      have Y9 := sl.hide ((sl.unhide Y8).kept g9)
      have V9 := sl.hide ((sl.unhide V8).kept g9)
      have Z9 := sl.hide ((sl.unhide Z8).kept g9)
      clear g9 B8 W8 X8 Y8 V8 Z8
      clear Z9
      go_wp2_with fail
      refine (sl.toIntS _ M _ hM ((sl.unhide U).below (sl.unhide B9))).mono ?_; rintro e v10 ⟨rfl, o10, g10⟩
      have s10 := g10.size
      have B10 := sl.hide (sl.below_none (sl.unhide B9) g10)
      have W10 := sl.hide ((sl.unhide W9).kept g10)
      have X10 := sl.hide ((sl.unhide X9).kept g10)
      have Y10 := sl.hide ((sl.unhide Y9).kept g10)
      have V10 := sl.hide ((sl.unhide V9).kept g10)
      have Z10 := sl.hide (sl.Own.of o10)
      clear o10 g10 B9 W9 X9 Y9 V9
      go_wp2_with fail
      refine (sl.eqIntS _ _ _ _ hM (sl.unhide Y10).sl (sl.unhide Z10).sl).mono ?_; rintro e v11 ⟨rfl, g11⟩
      have s11 := g11.size
      have B11 := sl.hide (sl.below_none (sl.unhide B10) g11)
      have W11 := sl.hide ((sl.unhide W10).kept g11)
      have X11 := sl.hide ((sl.unhide X10).kept g11)
      have Y11 := sl.hide ((sl.unhide Y10).kept g11)
      have V11 := sl.hide ((sl.unhide V10).kept g11)
      have Z11 := sl.hide ((sl.unhide Z10).kept g11)
      clear g11 B10 W10 X10 Y10 V10 Z10
      clear Z11
      go_wp2_with fail
      refine (sl.markIntS _ L 1 _ _ hL (by omega) (by omega) (sl.unhide X11).1).mono ?_; rintro e v12 ⟨rfl, o12, g12⟩
      have s12 := g12.size
      have B12 := sl.hide (sl.below_by (sl.unhide B11) (sl.unhide X11) (by omega) g12)
      have W12 := sl.hide ((sl.unhide W11).kept_by (sl.unhide X11) (by omega) g12)
      have Y12 := sl.hide ((sl.unhide Y11).kept_by (sl.unhide X11) (by omega) g12)
      have V12 := sl.hide ((sl.unhide V11).kept_by (sl.unhide X11) (by omega) g12)
      clear o12 g12 X11 B11 W11 Y11 V11
      go_wp2_with fail
      refine (sl.markIntS _ M (1 + (L.length : Int)) _ _ hM (by omega) (by omega) (sl.unhide Y12).1).mono ?_; rintro e v13 ⟨rfl, o13, g13⟩
      have s13 := g13.size
      have B13 := sl.hide (sl.below_by (sl.unhide B12) (sl.unhide Y12) (by omega) g13)
      have W13 := sl.hide ((sl.unhide W12).kept_by (sl.unhide Y12) (by omega) g13)
      have V13 := sl.hide ((sl.unhide V12).kept_by (sl.unhide Y12) (by omega) g13)
      clear o13 g13 Y12 B12 W12 V12
      have hk : decide ((1 : Int) + (L.length : Int) + (M.length : Int) < 0) = false := decide_eq_false (by omega)
      go_wp2_with fail
      refine (sl.eqIntS _ _ _ _ hR (sl.unhide V13).sl (sl.unhide W13).sl).mono ?_; rintro e v14 ⟨rfl, g14⟩
      have s14 := g14.size
      have B14 := sl.hide (sl.below_none (sl.unhide B13) g14)
      have W14 := sl.hide ((sl.unhide W13).kept g14)
      have V14 := sl.hide ((sl.unhide V13).kept g14)
      clear g14 B13 W13 V13
      go_wp2_with fail
      refine (sl.markIntS _ (res.resL L M a2) 1 _ _ hR (by omega) (by omega) (sl.unhide V14).1).mono ?_; rintro e v15 ⟨rfl, o15, g15⟩
      have s15 := g15.size
      have B15 := sl.hide (sl.below_by (sl.unhide B14) (sl.unhide V14) (by omega) g15)
      have W15 := sl.hide ((sl.unhide W14).kept_by (sl.unhide V14) (by omega) g15)
      have V15 := sl.hide ((sl.unhide V14).marked o15)
      clear o15 g15 V14 B14 W14
      go_wp2_with fail
      refine (sl.heldIntS _ _ 1 _ hR (by decide) (by decide) (sl.unhide V15).sl).mono ?_; rintro e v' ⟨rfl, hw⟩; have hw' := hw.symm; clear hw; subst hw'
      have hq : ¬ (1 : Int) + ((res.resL L M a2).length : Int) < 0 := by omega
      go_wp2_with fail
      refine (sl.toIntS _ L _ hL ((sl.unhide S).below (sl.unhide B15))).mono ?_; rintro e v16 ⟨rfl, o16, g16⟩
      have s16 := g16.size
      have B16 := sl.hide (sl.below_none (sl.unhide B15) g16)
      have W16 := sl.hide ((sl.unhide W15).kept g16)
      have V16 := sl.hide ((sl.unhide V15).kept g16)
      have A16 := sl.hide (sl.Own.of o16)
      clear o16 g16 B15 W15 V15
      go_wp2_with fail
      refine (sl.toIntS _ M _ hM ((sl.unhide U).below (sl.unhide B16))).mono ?_; rintro e v17 ⟨rfl, o17, g17⟩
      have s17 := g17.size
      have B17 := sl.hide (sl.below_none (sl.unhide B16) g17)
      have W17 := sl.hide ((sl.unhide W16).kept g17)
      have V17 := sl.hide ((sl.unhide V16).kept g17)
      have A17 := sl.hide ((sl.unhide A16).kept g17)
      have C17 := sl.hide (sl.Own.of o17)
      clear o17 g17 B16 W16 V16 A16
      go_wp2_with fail
      refine (res.implResolve _ _ L M a2 _ ((sl.unhide TT).below (sl.unhide B17)) hL hM (sl.unhide A17).sl (sl.unhide C17).sl).mono ?_; rintro e v18 ⟨u18, rfl, o18, g18⟩
      rw [sl.unhide HB]
      have s18 := g18.size
      have B18 := sl.hide (sl.below_none (sl.unhide B17) g18)
      have W18 := sl.hide ((sl.unhide W17).kept g18)
      have V18 := sl.hide ((sl.unhide V17).kept g18)
      have A18 := sl.hide ((sl.unhide A17).kept g18)
      have C18 := sl.hide ((sl.unhide C17).kept g18)
      have H18 := sl.hide (sl.Own.of o18)
      clear o18 g18 B17 W17 V17 A17 C17
      clear A18 C18
      go_wp2_with fail
      refine (sl.eqIntS _ _ _ _ hR (sl.unhide H18).sl (sl.unhide W18).sl).mono ?_; rintro e v19 ⟨rfl, g19⟩
      have s19 := g19.size
      have B19 := sl.hide (sl.below_none (sl.unhide B18) g19)
      have W19 := sl.hide ((sl.unhide W18).kept g19)
      have V19 := sl.hide ((sl.unhide V18).kept g19)
      have H19 := sl.hide ((sl.unhide H18).kept g19)
      clear g19 B18 W18 V18 H18
      clear H19 W19
      go_wp2_with fail
      refine (sl.heldIntS _ _ 1 _ hR (by decide) (by decide) (sl.unhide V19).sl).mono ?_; rintro e v' ⟨rfl, hw⟩; have hw' := hw.symm; clear hw; subst hw'
      go_wp2_with fail
      go_ret
      exact ⟨rfl, sl.unhide B19⟩

/-! ### the row's step (the guide's own frame) -/
set_option maxRecDepth 100000 in
theorem contract (H : Type) (enc : TypeId × Value → H) (W : World) (base : Nat) (args : Array Value) (ds gs : List (DataW H)) (before : List MemPlace)
    (hval : ∀ (j : Nat) t v, Tryd.f6.params[j]? = some t → args[j]? = some v → Value.okWide Tryd.prog W .any base t v)
    (hW : DataW.Whole enc Tryd.prog Tryd.f6.params.toList Rows.fnExactResolveSpec.vars false W args.toList ds gs before) (hL : laidMetH Tryd.prog Rows.fnExactResolveRow.laid W) :
    Calls Tryd.prog 6 args W fun e W' => ∃ v, e = .returned v ∧ Rows.fnExactResolveSpec.post enc Tryd.prog Tryd.f6 false true false false W args v W' := by
  have hW' := hW
  obtain ⟨p, q, hA0, hV, rfl, hfz, hnd⟩ := hW
  have hA : DataW.TrodAll enc Tryd.prog W 0 (fun _ => true) true Tryd.f6.params.toList args.toList ds p := hA0
  rw [Tryd.params6] at hA hval
  obtain ⟨v0, vs0, d0, ds0, p0, q0, hargs, rfl, rfl, h0, r0⟩ := trodAll_cons hA
  obtain ⟨v1, vs1, d1, ds1, p1, q1, rfl, rfl, rfl, h1, r1⟩ := trodAll_cons r0
  obtain ⟨v2, vs2, d2, ds2, p2, q2, rfl, rfl, rfl, h2, r2⟩ := trodAll_cons r1
  obtain ⟨rfl, rfl, rfl⟩ := trodAll_nil r2
  obtain rfl : args = #[v0, v1, v2] := by cases args; simp_all
  obtain ⟨rfl, rfl⟩ := trodVars_none hV
  obtain ⟨a0, len0, cap0, rfl⟩ := okWide_slice Tryd.underlying24 (hval 0 24 v0 rfl rfl)
  have k0 := h0
  have lt0 : ∀ x ∈ p0, x.block < W.heap.size := by obtain ⟨m, hm⟩ := k0; exact DataW.trod_lt m _ _ _ hm
  obtain ⟨z0, w0⟩ : ∃ zs, IsRow .i64 W a0 len0 cap0 zs := by
    obtain ⟨fuel, hf⟩ := h0
    rcases open_ints Tryd.underlying24 Tryd.underlying3 (by kernel_rfl) hf with ⟨hcs, _⟩ | ⟨x, l, c, zs, hcs, _, hl, hm, hz, _, hcell, hwz⟩
    · simp [Value.cells] at hcs
      obtain ⟨rfl, rfl, rfl⟩ := hcs
      exact ⟨[], .inl ⟨rfl, rfl, rfl, rfl⟩⟩
    · simp [Value.cells] at hcs
      obtain ⟨rfl, rfl, rfl⟩ := hcs
      exact ⟨zs, .inr ⟨_, rfl, hl, hm, by simpa using hz, hcell, hwz⟩⟩
  obtain ⟨a1, len1, cap1, rfl⟩ := okWide_slice Tryd.underlying24 (hval 1 24 v1 rfl rfl)
  have k1 := h1
  have lt1 : ∀ x ∈ p1, x.block < W.heap.size := by obtain ⟨m, hm⟩ := k1; exact DataW.trod_lt m _ _ _ hm
  obtain ⟨z1, w1⟩ : ∃ zs, IsRow .i64 W a1 len1 cap1 zs := by
    obtain ⟨fuel, hf⟩ := h1
    rcases open_ints Tryd.underlying24 Tryd.underlying3 (by kernel_rfl) hf with ⟨hcs, _⟩ | ⟨x, l, c, zs, hcs, _, hl, hm, hz, _, hcell, hwz⟩
    · simp [Value.cells] at hcs
      obtain ⟨rfl, rfl, rfl⟩ := hcs
      exact ⟨[], .inl ⟨rfl, rfl, rfl, rfl⟩⟩
    · simp [Value.cells] at hcs
      obtain ⟨rfl, rfl, rfl⟩ := hcs
      exact ⟨zs, .inr ⟨_, rfl, hl, hm, by simpa using hz, hcell, hwz⟩⟩
  obtain ⟨a2, rfl, rfl, rfl, w2⟩ := open_int Tryd.underlying3 (hval 2 3 v2 rfl rfl) h2
  clear hA0
  refine (walk a0 len0 cap0 z0 a1 len1 cap1 z1 a2 W w0 w1 w2 (table hL)).mono fun e W' ⟨he, bel⟩ => ?_
  subst he
  exact ⟨_, rfl, _, _, _, [], _, [], hW', trodAll_mk1 (shut_bool Tryd.underlying4 _), (trodAll_cons_mk (Below.trod laidOut (by kernel_rfl) (of_decide_eq_true (by kernel_rfl)) k0 bel lt0) (trodAll_cons_mk (Below.trod laidOut (by kernel_rfl) (of_decide_eq_true (by kernel_rfl)) k1 bel lt1) (trodAll_cons_mk (shut_int Tryd.underlying3 w2) trodAll_mk0))), rfl, bel.frame _, fun h => by cases h⟩

set_option maxRecDepth 100000 in
theorem lifted (os : Os) (started : os.Started) (H : Type) (enc : TypeId × Value → H) (F : Stop.Interp) :
    ReturnsInHanded {} Tryd.checked os 6 .any ((OpenSpec.ofChange Rows.fnExactResolveSpec).preRow enc Tryd.prog Tryd.f6 Rows.fnExactResolveRow.domain false Rows.fnExactResolveRow.laid) (((OpenSpec.ofChange Rows.fnExactResolveSpec).at F).post enc Tryd.prog Tryd.f6 false true false false) := by
  refine returnsInHanded_of_row (C := Tryd.checked) (s := OpenSpec.ofChange Rows.fnExactResolveSpec) own started (by kernel_rfl) Tryd.func6
    (witness_row_at (enc := enc) (C := Tryd.checked) false ({ World.holding Tryd.prog os ⟨#[], #[], []⟩ with heap := (World.holding Tryd.prog os ⟨#[], #[], []⟩).heap.modify 0 fun | .cells _ t frozen => .cells (Lib.deBruijn64tab.map fun (n : Nat) => Value.int .u8 n).toArray t frozen | o => o } : World) #[.slice none 0 0, .slice none 0 0, .int .i64 0] rfl (by kernel_rfl) (by kernel_rfl) (by kernel_rfl)
      (OpenSpec.preRow_of_cond 8 (x := ([.nil, .nil, .lit (.int .i64 0)], [], [])) (by kernel_rfl) (by kernel_rfl) (fun k hk => by cases hk) (by kernel_rfl) (laidMet_of_run' 8 (by kernel_rfl) (by kernel_rfl)))) ?_
  intro W base args ds gs before hval hW _ _ _ hL _ _
  exact contract H enc W base args ds gs before hval hW hL

theorem said : Rows.FnExactResolveSaid :=
  OpenClaim.holds_of_cond 6 Tryd.f6 rfl rfl rfl rfl rfl rfl rfl ⟨rfl, rfl, rfl, rfl, rfl⟩ rfl rfl rfl rfl rfl (by kernel_rfl) Tryd.func6 (by kernel_rfl)
    (of_decide_eq_true (by kernel_rfl)) (by unfold Func.isWrapper; first | (rw [if_pos (by decide +kernel)]; kernel_rfl) | (rw [if_neg (by decide +kernel)]; exact ⟨rfl, rfl⟩))
    (fun os started H enc _ F => by rw [OpenClaim.pre_eq_preRow]; exact lifted os started H enc F)

theorem plain (f : FuncId) (fn : Func) (hf : Tryd.pinned.checked.prog.funcNamed "loop.example/g00123/laws.FnExactResolve" = some f) (hfn : Tryd.pinned.checked.prog.funcs[f]? = some fn) :
    false = Tryd.pinned.checked.prog.looks [] ∧ ∀ (j : Nat) t, fn.params[j]? = some t → Tryd.pinned.checked.prog.wantsStandIn t = false := by
  obtain rfl : f = 6 := Option.some.inj ((show Tryd.prog.funcNamed "loop.example/g00123/laws.FnExactResolve" = some 6 by kernel_rfl).symm.trans hf) |>.symm
  obtain rfl : fn = Tryd.f6 := (Option.some.inj (Tryd.func6.symm.trans hfn)).symm
  refine ⟨by kernel_rfl, fun j t ht => ?_⟩
  rw [Tryd.params6] at ht
  have hm := Array.mem_of_getElem? ht
  simp only [List.mem_toArray, List.mem_cons, List.not_mem_nil, or_false] at hm
  rcases hm with rfl | rfl | rfl
  · exact (show Tryd.prog.wantsStandIn 24 = false by kernel_rfl)
  · exact (show Tryd.prog.wantsStandIn 24 = false by kernel_rfl)
  · exact (show Tryd.prog.wantsStandIn 3 = false by kernel_rfl)

/-- the statement: the row's tied card -/
theorem proved : Rows.FnExactResolveCardSaid :=
  Claim7.holds_tied_plain_at .later [] _ _ _ _ said (fun _ h => by cases h) (by kernel_rfl) (fun _ h => by cases h) fnExactResolve_row_tie rfl ⟨rfl, rfl⟩ (by kernel_rfl) rfl plain (by kernel_rfl)
#print axioms proved
end Go.Proofs.YtmbmkbkghblcmaaDoor.fnExactResolve
