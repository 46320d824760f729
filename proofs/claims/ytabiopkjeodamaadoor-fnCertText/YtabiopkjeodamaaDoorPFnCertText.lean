/- At every code the law FnCertText returns true: a certificate that is drawn comes back from its text, and a text that is drawn is read just where it is the text of a certificate, which is the one that is read; no condition. -/
import Derived.Test.YtabiopkjeodamaaDoorCards
import Derived.Test.YtabiopkjeodamaaDoorTie
import Derived.Test.YtabiopkjeodamaaDoorJTd
import Derived.Test.YtabiopkjeodamaaDoorJTy
import Derived.WalkKit
import Derived.ProofKit
import Derived.OpenShut
import Derived.ShutString
import Derived.ChangeOld
import Derived.Below
import Derived.Deep.DeepHandedRow
import Derived.Lib.LaidTab
import Derived.Lib.TrailingZeros
import Derived.Stop.LaidErr
import Derived.Stop.LaidTwo
import Derived.LaidHandle
import Derived.LaidSub
namespace Go.Proofs.YtabiopkjeodamaaDoor.fnCertText
open Go.ChangeShapes Go.WideShapes Go.ChangeAt Go.RowKit
open Go.ChangeMaps (open_string shut_string)
set_option linter.unusedVariables false

theorem own : ownKnob Tryd.prog.godebug = none := by kernel_rfl
theorem laidOut : laidOutB Tryd.prog = true := by kernel_rfl

/-- what the walk is told of a slice of integers that came in -/
def IsRow (k : IntKind) (w : World) (a : Option Addr) (len cap : Nat) (zs : List Int) : Prop :=
  (a = none ∧ len = 0 ∧ cap = 0 ∧ zs = []) ∨
  ∃ x, a = some x ∧ len ≤ cap ∧ cap ≤ maxLen ∧ zs.length = cap ∧ (∀ i, i < zs.length → w.cell? (x.add i) = some (.int k (zs.getD i 0))) ∧ ∀ n ∈ zs, (Lit.int k n).wf = true

/-- what the world's shape gives -/
theorem table {W : World} (hSh : W.ShapedOpen Tryd.prog) : yd.Most W := Tryd.laysM145.s1_3 W hSh

/-! ### the walk -/
theorem walk (a0 : Option Addr) (len0 cap0 : Nat) (z0 : List Int) (w : World) (w0 : IsRow .u8 w a0 len0 cap0 z0) (hT : yd.Most w) :
    Calls Tryd.prog 3 #[.slice a0 len0 cap0] w fun e w' => e = .returned (.bool true) ∧ Below w.heap.size w w' := by
  have hB := draw.of_rowB w0
  have hm : len0 ≤ 9223372036854775807 := by
    rcases w0 with ⟨_, h, _, _⟩ | ⟨_, _, h1, h2, _⟩
    · omega
    · unfold maxLen at h2
      omega
  clear w0
  by_cases hbig : 1048576 < len0
  · have C := sl.hide (draw.big a0 len0 cap0 w hm)
    rw [decide_eq_true hbig] at C
    clear hT
    go_enter Tryd.func3, Tryd.ntmps3
    go_wp2_with fail
    refine (sl.unhide C).mono ?_; rintro e w' ⟨rfl, rfl⟩
    go_wp2_with fail
    go_ret
    exact ⟨rfl, Below.refl _ _⟩
  have C := sl.hide (draw.big a0 len0 cap0 w hm)
  rw [decide_eq_false hbig] at C
  have HB := sl.hide hB
  have TT := sl.hide hT
  have hlen : len0 ≤ 1048576 := by omega
  clear hB hT hbig
  go_enter Tryd.func3, Tryd.ntmps3
  go_wp2_with fail
  refine (sl.unhide C).mono ?_; rintro e w' ⟨rfl, hw⟩; have hw' := hw.symm; clear hw; subst hw'
  clear C hm
  go_wp2_with fail
  refine (de.drawCertText a0 len0 cap0 _ hlen (sl.unhide HB)).mono ?_; rintro e w1 ⟨d, sat, b, m, rfl, bd, bm, bb, g1⟩
  obtain ⟨W1, hW1⟩ : ∃ W1, W1 = w1.alloc (.cells #[.string d, .bool sat, .string b, .string m] 25) := ⟨_, rfl⟩
  have ga : w1.grownBy W1 none := by rw [hW1]; exact World.grownBy_alloc w1 _ none
  have G1 := sl.hide (sl.grown_trans (r := none) g1 ga)
  have K1 : Hid (yb.Box4 25 W1 w1.heap.size (.string d) (.bool sat) (.string b) (.string m)) := by rw [hW1]; exact yb.Box4.new 25 w1 _ _ _ _
  clear g1 ga
  go_upto_region 4 with fail
  rw [← hW1]
  clear hW1
  generalize w1.heap.size = q1 at *
  have CI := sl.hide (fun w2 => ya.implCertText d sat b m w2 (by omega) (by omega) (by omega))
  have CS := sl.hide (fun w2 => ya.specCertText d sat b m w2 (by omega) (by omega) (by omega))
  have hs := de.cert_size (d := d) (m := m) sat bb
  obtain ⟨O, hO, _, ri⟩ := yd.bothO (ya.certB d sat b m) (by omega)
  obtain rfl : O = some (d, sat, b, m) := hO.one (yc.rc_is sat b (by omega) (by omega))
  have RI := sl.hide (fun w2 (g : w.grownBy w2 none) => ri w2 ((sl.unhide TT).kept g))
  unfold yb.CertE at RI
  have RI' : Hid (∀ w2, w.grownBy w2 none → Calls Tryd.prog 11 #[.string (ya.certB d sat b m)] w2 fun e w' => e = .returned (.tuple #[.agg #[.string d, .bool sat, .string b, .string m], .bool true]) ∧ w2.grownBy w' none) := sl.unhide RI
  clear hO ri bd bm bb RI hs
  generalize ya.certB d sat b m = s at *
  have p0 := (sl.unhide K1).c0
  have p1 := (sl.unhide K1).c1
  have p2 := (sl.unhide K1).c2
  have p3 := (sl.unhide K1).c3
  go_wp2_with fail
  refine (sl.unhide CI _).mono ?_; rintro e w2 ⟨rfl, g2⟩
  have G2 := sl.hide (sl.grown_trans (r := none) (sl.unhide G1) g2)
  have K2 := sl.hide ((sl.unhide K1).kept g2)
  clear g2 G1 K1 CI p0 p1 p2 p3
  go_wp2_with fail
  refine (sl.unhide RI' _ (sl.unhide G2)).mono ?_; rintro e w3 ⟨rfl, g3⟩
  obtain ⟨W3, hW3⟩ : ∃ W3, W3 = w3.alloc (.cells #[.string d, .bool sat, .string b, .string m] 25) := ⟨_, rfl⟩
  have ga : w3.grownBy W3 none := by rw [hW3]; exact World.grownBy_alloc w3 _ none
  have G3 := sl.hide (sl.grown_trans (r := none) (sl.grown_trans (r := none) (sl.unhide G2) g3) ga)
  have K3 := sl.hide (((sl.unhide K2).kept g3).kept ga)
  have B3 : Hid (yb.Box4 25 W3 w3.heap.size (.string d) (.bool sat) (.string b) (.string m)) := by rw [hW3]; exact yb.Box4.new 25 w3 _ _ _ _
  clear g3 ga G2 K2 RI'
  go_upto_region 6 with fail
  rw [← hW3]
  clear hW3
  generalize w3.heap.size = q3 at *
  go_wp2_with fail
  refine (de.drawReadCert a0 len0 cap0 _ hlen ((sl.unhide HB).below (sl.below_of (sl.unhide G3)))).mono ?_; rintro e w4 ⟨u, rfl, hu, g4⟩
  have G4 := sl.hide (sl.grown_trans (r := none) (sl.unhide G3) g4)
  have K4 := sl.hide ((sl.unhide K3).kept g4)
  have B4 := sl.hide ((sl.unhide B3).kept g4)
  clear g4 G3 K3 B3 HB
  obtain ⟨Q, hQ, rs, ri⟩ := yd.bothO u hu
  obtain ⟨e2, t2, b2, m2, ec, key⟩ : ∃ (e2 : ByteArray) (t2 : Bool) (b2 m2 : ByteArray), yb.cellsC Q = #[.string e2, .bool t2, .string b2, .string m2] ∧ (Q.isSome = true → e2.size ≤ 1048576 ∧ b2.size ≤ 1048576 ∧ m2.size ≤ 1048576 ∧ ya.certB e2 t2 b2 m2 = u) := by
    cases Q with
    | none => exact ⟨_, _, _, _, rfl, fun h => by cases h⟩
    | some c =>
      refine ⟨_, _, _, _, rfl, fun _ => ⟨Nat.le_trans hQ.1.1 (by decide), ?_, Nat.le_trans hQ.1.2 (by decide), hQ.2⟩⟩
      have := congrArg ByteArray.size hQ.2
      unfold ya.certB at this
      simp only [ByteArray.size_append] at this
      omega
  have RI := sl.hide (fun w2 (g : w.grownBy w2 none) => ri w2 ((sl.unhide TT).kept g))
  have RS := sl.hide rs
  unfold yb.CertE at RI RS
  rw [ec] at RI RS
  have KEY := sl.hide key
  generalize Q.isSome = ok at *
  clear hQ rs ri ec key TT
  go_wp2_with fail
  refine (sl.unhide RI _ (sl.unhide G4)).mono ?_; rintro e w5 ⟨rfl, g5⟩
  obtain ⟨W5, hW5⟩ : ∃ W5, W5 = w5.alloc (.cells #[.string e2, .bool t2, .string b2, .string m2] 25) := ⟨_, rfl⟩
  have ga : w5.grownBy W5 none := by rw [hW5]; exact World.grownBy_alloc w5 _ none
  have G5 := sl.hide (sl.grown_trans (r := none) (sl.grown_trans (r := none) (sl.unhide G4) g5) ga)
  have K5 := sl.hide (((sl.unhide K4).kept g5).kept ga)
  have B5 := sl.hide (((sl.unhide B4).kept g5).kept ga)
  have D5 : Hid (yb.Box4 25 W5 w5.heap.size (.string e2) (.bool t2) (.string b2) (.string m2)) := by rw [hW5]; exact yb.Box4.new 25 w5 _ _ _ _
  clear g5 ga G4 K4 B4 RI
  go_upto_region 8 with fail
  rw [← hW5]
  clear hW5
  generalize w5.heap.size = q5 at *
  go_wp2_with fail
  refine (sl.unhide RS _).mono ?_; rintro e w6 ⟨rfl, g6⟩
  obtain ⟨W6, hW6⟩ : ∃ W6, W6 = w6.alloc (.cells #[.string e2, .bool t2, .string b2, .string m2] 25) := ⟨_, rfl⟩
  have ga : w6.grownBy W6 none := by rw [hW6]; exact World.grownBy_alloc w6 _ none
  have G6 := sl.hide (sl.grown_trans (r := none) (sl.grown_trans (r := none) (sl.unhide G5) g6) ga)
  have K6 := sl.hide (((sl.unhide K5).kept g6).kept ga)
  have B6 := sl.hide (((sl.unhide B5).kept g6).kept ga)
  have D6 := sl.hide (((sl.unhide D5).kept g6).kept ga)
  clear g6 ga G5 K5 B5 D5 RS
  go_upto_region 9 with fail
  rw [← hW6]
  clear hW6
  have p0 := (sl.unhide K6).c0
  have p1 := (sl.unhide K6).c1
  have p2 := (sl.unhide K6).c2
  have p3 := (sl.unhide K6).c3
  go_wp2_with fail
  refine (sl.unhide CS _).mono ?_; rintro e w7 ⟨rfl, g7⟩
  have G7 := sl.hide (sl.grown_trans (r := none) (sl.unhide G6) g7)
  have K7 := sl.hide ((sl.unhide K6).kept g7)
  have B7 := sl.hide ((sl.unhide B6).kept g7)
  have D7 := sl.hide ((sl.unhide D6).kept g7)
  clear g7 G6 K6 B6 D6 CS p0 p1 p2 p3
  have p0 := (sl.unhide K7).c0
  have p1 := (sl.unhide K7).c1
  have p2 := (sl.unhide K7).c2
  have p3 := (sl.unhide K7).c3
  have r0 := (sl.unhide B7).c0
  have r1 := (sl.unhide B7).c1
  have r2 := (sl.unhide B7).c2
  have r3 := (sl.unhide B7).c3
  have x0 := (sl.unhide D7).c0
  have x1 := (sl.unhide D7).c1
  have x2 := (sl.unhide D7).c2
  have x3 := (sl.unhide D7).c3
  have hst : Tryd.prog.stoodInHeld 25 = false := by kernel_rfl
  have heg : Tryd.prog.eqGuardType Tryd.prog.depth 25 = false := by kernel_rfl
  have ess : (s.toList == s.toList) = true := beq_self_eq_true _
  cases ok
  · go_wp2_with fail
    go_ret
    exact ⟨rfl, sl.below_of (sl.unhide G7)⟩
  · obtain ⟨z1, z2, z3, z4⟩ := sl.unhide KEY rfl
    have CP := sl.hide (fun w2 => ya.implCertText e2 t2 b2 m2 w2 z1 z2 z3)
    rw [z4] at CP
    have euu : (u.toList == u.toList) = true := beq_self_eq_true _
    clear z1 z2 z3 z4 KEY
    go_wp2_with fail
    refine (sl.unhide CP _).mono ?_; rintro e w8 ⟨rfl, g8⟩
    have G8 := sl.hide (sl.grown_trans (r := none) (sl.unhide G7) g8)
    clear g8 CP G7 x0 x1 x2 x3 r0 r1 r2 r3 p0 p1 p2 p3
    go_wp2_with fail
    go_ret
    exact ⟨rfl, sl.below_of (sl.unhide G8)⟩

/-! ### the row's step (the guide's own frame) -/
set_option maxRecDepth 100000 in
theorem contract (H : Type) (enc : TypeId × Value → H) (W : World) (base : Nat) (args : Array Value) (ds gs : List (DataW H)) (before : List MemPlace)
    (hval : ∀ (j : Nat) t v, Tryd.f3.params[j]? = some t → args[j]? = some v → Value.okWide Tryd.prog W .any base t v)
    (hW : DataW.Whole enc Tryd.prog Tryd.f3.params.toList Rows.fnCertTextSpec.vars false W args.toList ds gs before) (hL : laidMetH Tryd.prog Rows.fnCertTextRow.laid W) (hSh : W.ShapedOpen Tryd.prog) :
    Calls Tryd.prog 3 args W fun e W' => ∃ v, e = .returned v ∧ Rows.fnCertTextSpec.post enc Tryd.prog Tryd.f3 false true false false W args v W' := by
  have hW' := hW
  obtain ⟨p, q, hA0, hV, rfl, hfz, hnd⟩ := hW
  have hA : DataW.TrodAll enc Tryd.prog W 0 (fun _ => true) true Tryd.f3.params.toList args.toList ds p := hA0
  rw [Tryd.params3] at hA hval
  obtain ⟨v0, vs0, d0, ds0, p0, q0, hargs, rfl, rfl, h0, r0⟩ := trodAll_cons hA
  obtain ⟨rfl, rfl, rfl⟩ := trodAll_nil r0
  obtain rfl : args = #[v0] := by cases args; simp_all
  obtain ⟨rfl, rfl⟩ := trodVars_none hV
  obtain ⟨a0, len0, cap0, rfl⟩ := okWide_slice Tryd.underlying22 (hval 0 22 v0 rfl rfl)
  have k0 := h0
  have lt0 : ∀ x ∈ p0, x.block < W.heap.size := by obtain ⟨m, hm⟩ := k0; exact DataW.trod_lt m _ _ _ hm
  obtain ⟨z0, w0⟩ : ∃ zs, IsRow .u8 W a0 len0 cap0 zs := by
    obtain ⟨fuel, hf⟩ := h0
    rcases open_ints Tryd.underlying22 Tryd.underlying5 (by kernel_rfl) hf with ⟨hcs, _⟩ | ⟨x, l, c, zs, hcs, _, hl, hm, hz, _, hcell, hwz⟩
    · simp [Value.cells] at hcs
      obtain ⟨rfl, rfl, rfl⟩ := hcs
      exact ⟨[], .inl ⟨rfl, rfl, rfl, rfl⟩⟩
    · simp [Value.cells] at hcs
      obtain ⟨rfl, rfl, rfl⟩ := hcs
      exact ⟨zs, .inr ⟨_, rfl, hl, hm, by simpa using hz, hcell, hwz⟩⟩
  clear hA0
  refine (walk a0 len0 cap0 z0 W w0 (table hSh)).mono fun e W' ⟨he, bel⟩ => ?_
  subst he
  exact ⟨_, rfl, _, _, _, [], _, [], hW', trodAll_mk1 (shut_bool Tryd.underlying4 _), (trodAll_cons_mk (Below.trod laidOut (by kernel_rfl) (of_decide_eq_true (by kernel_rfl)) k0 bel lt0) trodAll_mk0), rfl, bel.frame _, fun h => by cases h⟩

set_option maxRecDepth 100000 in
theorem lifted (os : Os) (started : os.Started) (H : Type) (enc : TypeId × Value → H) (F : Stop.Interp) :
    ReturnsInHanded {} Tryd.checked os 3 .any ((OpenSpec.ofChange Rows.fnCertTextSpec).preRow enc Tryd.prog Tryd.f3 Rows.fnCertTextRow.domain false Rows.fnCertTextRow.laid) (((OpenSpec.ofChange Rows.fnCertTextSpec).at F).post enc Tryd.prog Tryd.f3 false true false false) := by
  refine returnsInHanded_of_row (C := Tryd.checked) (s := OpenSpec.ofChange Rows.fnCertTextSpec) own started (by kernel_rfl) Tryd.func3
    (witness_row_at (enc := enc) (C := Tryd.checked) false ({ World.holding Tryd.prog os ⟨#[], #[], []⟩ with heap := (((World.holding Tryd.prog os ⟨#[], #[], []⟩).heap.modify 4 fun | .cells _ t frozen => .cells #[.int .u8 128, .int .u8 191, .int .u8 160, .int .u8 191, .int .u8 128, .int .u8 159, .int .u8 144, .int .u8 191, .int .u8 128, .int .u8 143, .int .u8 0, .int .u8 0, .int .u8 0, .int .u8 0, .int .u8 0, .int .u8 0, .int .u8 0, .int .u8 0, .int .u8 0, .int .u8 0, .int .u8 0, .int .u8 0, .int .u8 0, .int .u8 0, .int .u8 0, .int .u8 0, .int .u8 0, .int .u8 0, .int .u8 0, .int .u8 0, .int .u8 0, .int .u8 0] t frozen | o => o).modify 3 fun | .cells _ t frozen => .cells (Go.Pinned.utf8FirstZ.map fun (n : Nat) => Value.int .u8 n).toArray t frozen | o => o) } : World) #[.slice none 0 0] rfl (by kernel_rfl) (by kernel_rfl) (by kernel_rfl)
      (OpenSpec.preRow_of_cond 8 (x := ([.nil], [], [])) (by kernel_rfl) (by kernel_rfl) (fun k hk => by cases hk) (by kernel_rfl) (laidMet_of_run' 8 (by kernel_rfl) (by kernel_rfl)))) ?_
  intro W base args ds gs before hval hW _ _ _ hL hSh _
  exact contract H enc W base args ds gs before hval hW hL hSh

theorem said : Rows.FnCertTextSaid :=
  OpenClaim.holds_of_cond 3 Tryd.f3 rfl rfl rfl rfl rfl rfl rfl ⟨rfl, rfl, rfl, rfl, rfl⟩ rfl rfl rfl rfl rfl (by kernel_rfl) Tryd.func3 (by kernel_rfl)
    (of_decide_eq_true (by kernel_rfl)) (by unfold Func.isWrapper; first | (rw [if_pos (by decide +kernel)]; kernel_rfl) | (rw [if_neg (by decide +kernel)]; exact ⟨rfl, rfl⟩))
    (fun os started H enc _ F => by rw [OpenClaim.pre_eq_preRow]; exact lifted os started H enc F)

theorem plain (f : FuncId) (fn : Func) (hf : Tryd.pinned.checked.prog.funcNamed "loop.example/g00123/laws.FnCertText" = some f) (hfn : Tryd.pinned.checked.prog.funcs[f]? = some fn) :
    false = Tryd.pinned.checked.prog.looks [] ∧ ∀ (j : Nat) t, fn.params[j]? = some t → Tryd.pinned.checked.prog.wantsStandIn t = false := by
  obtain rfl : f = 3 := Option.some.inj ((show Tryd.prog.funcNamed "loop.example/g00123/laws.FnCertText" = some 3 by kernel_rfl).symm.trans hf) |>.symm
  obtain rfl : fn = Tryd.f3 := (Option.some.inj (Tryd.func3.symm.trans hfn)).symm
  refine ⟨by kernel_rfl, fun j t ht => ?_⟩
  rw [Tryd.params3] at ht
  obtain rfl : t = 22 := by simpa using Array.mem_of_getElem? ht
  exact (show Tryd.prog.wantsStandIn 22 = false by kernel_rfl)

/-- the statement: the row's tied card -/
theorem proved : Rows.FnCertTextCardSaid :=
  Claim7.holds_tied_plain_at .later [] _ _ _ _ said (fun _ h => by cases h) (by kernel_rfl) (fun _ h => by cases h) fnCertText_row_tie rfl ⟨rfl, rfl⟩ (by kernel_rfl) rfl plain (by kernel_rfl)
#print axioms proved
end Go.Proofs.YtabiopkjeodamaaDoor.fnCertText
