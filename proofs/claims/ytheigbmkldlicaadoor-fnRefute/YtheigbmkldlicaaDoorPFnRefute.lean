/- At every code that was drawn a formula from, what impl.Refute answers is what spec.Refute answers; where it is a proof, the formula has no answer, the proof checks, no clause of it is bad and it has at most as many literals a clause as there are variables; where it is none it is empty (the law FnRefute returns true); the library's table of places lies as its text lays it (tied). -/
import Derived.Test.YtheigbmkldlicaaDoorCards
import Derived.Test.YtheigbmkldlicaaDoorTie
import Derived.Test.YtheigbmkldlicaaDoorJRc
import Derived.Test.YtheigbmkldlicaaDoorJRe
import Derived.Test.YtheigbmkldlicaaDoorJRd
import Derived.WalkKit
import Derived.ProofKit
import Derived.OpenShut
import Derived.ShutString
import Derived.ChangeOld
import Derived.Below
import Derived.Deep.DeepHandedRow
import Derived.Lib.LaidTab
import Derived.Lib.TrailingZeros
import Derived.Stop.LaidErr
import Derived.LaidHandle
import Derived.LaidSub
namespace Go.Proofs.YtheigbmkldlicaaDoor.fnRefute
open Go.ChangeShapes Go.WideShapes Go.ChangeAt Go.RowKit
open Go.ChangeMaps (open_string shut_string)
set_option linter.unusedVariables false

theorem own : ownKnob Tryd.prog.godebug = none := by kernel_rfl
theorem laidOut : laidOutB Tryd.prog = true := by kernel_rfl

/-- what the walk is told of a slice of integers that came in -/
def IsRow (k : IntKind) (w : World) (a : Option Addr) (len cap : Nat) (zs : List Int) : Prop :=
  (a = none ∧ len = 0 ∧ cap = 0 ∧ zs = []) ∨
  ∃ x, a = some x ∧ len ≤ cap ∧ cap ≤ maxLen ∧ zs.length = cap ∧ (∀ i, i < zs.length → w.cell? (x.add i) = some (.int k (zs.getD i 0))) ∧ ∀ n ∈ zs, (Lit.int k n).wf = true

theorem gTab : Tryd.prog.globalNamed "math/bits.deBruijn64tab" = some 1 := by kernel_rfl
theorem gTabType : (Tryd.prog.globals[1]?).map (·.type) = some 190 := by kernel_rfl
theorem cellsTab : Tryd.prog.cellsOf 190 = 64 := by kernel_rfl
theorem cellsByte : Tryd.prog.cellsOf 5 = 1 := by kernel_rfl
/-- what the row's list gives: the table's cells hold its numbers -/
theorem table {W : World} (h : laidMetH Tryd.prog Rows.fnRefuteRow.laid W) : srt.Tab W := by
  have t : Lib.TabIs Tryd.prog W "math/bits.deBruijn64tab" .u8 (Lib.deBruijn64tab.map fun (n : Nat) => (n : Int)) :=
    Lib.tabIs_of_head (rest := []) gTab gTabType Tryd.underlying190 Tryd.underlying5 cellsByte cellsTab h
  intro j hj
  have c := t.cell gTab j (by rw [List.length_map]; exact hj)
  rw [c]
  congr 2
  rw [List.getD, List.getD, List.getElem?_map]
  cases Lib.deBruijn64tab[j]? <;> rfl

/-! ### the walk -/
set_option maxRecDepth 100000 in
set_option maxHeartbeats 8000000 in
theorem walk (a0 : Option Addr) (len0 cap0 : Nat) (z0 : List Int) (w : World) (w0 : IsRow .u8 w a0 len0 cap0 z0) (hT : srt.Tab w) :
    Calls Tryd.prog 3 #[.slice a0 len0 cap0] w fun e w' => e = .returned (.bool true) ∧ Below w.heap.size w w' := by
  have hB := draw.of_rowB w0
  have hm : len0 ≤ 9223372036854775807 := by
    rcases w0 with ⟨_, h, _, _⟩ | ⟨_, _, h1, h2, _⟩
    · omega
    · unfold maxLen at h2
      omega
  clear w0
  by_cases hbig : 1048576 < len0
  · have C := sl.hide (draw.big a0 len0 cap0 w hm)
    rw [decide_eq_true hbig] at C
    clear hT
    go_enter Tryd.func3, Tryd.ntmps3
    go_wp2_with fail
    refine (sl.unhide C).mono ?_; rintro e w' ⟨rfl, rfl⟩
    go_wp2_with fail
    go_ret
    exact ⟨rfl, Below.refl _ _⟩
  have C := sl.hide (draw.big a0 len0 cap0 w hm)
  rw [decide_eq_false hbig] at C
  have HB := sl.hide hB
  have TT := sl.hide hT
  have hlen : len0 ≤ 1048576 := by omega
  clear hB hT hbig
  go_enter Tryd.func3, Tryd.ntmps3
  go_wp2_with fail
  refine (sl.unhide C).mono ?_; rintro e w' ⟨rfl, hw⟩; have hw' := hw.symm; clear hw; subst hw'
  clear C hm
  go_wp2_with fail
  refine (dr.drawRefute a0 len0 cap0 _ hlen (sl.unhide HB)).mono ?_; rintro e w1 ⟨n, v, LL, rfl, hn25, ht, o1, g1⟩
  obtain ⟨va, vc, rfl⟩ := o1.len
  have gA := World.grownBy_alloc w1 (.cells #[.int .i64 n, .slice va LL.length vc] 26) none
  have F1 := sl.hide (cf.Box.new 26 w1 (.int .i64 n) (.slice va LL.length vc))
  have G1 := sl.hide (sl.grown_trans (r := none) g1 gA)
  have O1 := sl.hide (o1.kept gA)
  obtain ⟨W1, hW1⟩ : ∃ W1, W1 = w1.alloc (.cells #[.int .i64 n, .slice va LL.length vc] 26) := ⟨_, rfl⟩
  rw [← hW1] at F1 G1 O1
  have T1 := sl.hide ((sl.unhide TT).kept (sl.unhide G1))
  clear g1 o1 gA TT HB
  have z0 := (sl.unhide F1).c0
  have z1 := (sl.unhide F1).c1
  have CI := xp.implRefute (.slice va LL.length vc) n LL W1 (sl.unhide T1) ht (sl.unhide O1).sls
  have CS := fun (w' : World) (g : W1.grownBy w' none) => xw.specRefute (.slice va LL.length vc) n LL w' ht ((sl.unhide O1).kept g).sls
  have CV := fun (w' : World) (g : W1.grownBy w' none) => lq.specSolve (.slice va LL.length vc) n LL w' ht ((sl.unhide O1).kept g).sls
  have htR := xp.wlk_tot n LL
  have FACT : Hid (((if ok.cnfB n LL then xw.wlk n LL 700 [] else ([], false)).2 = false → (if ok.cnfB n LL then xw.wlk n LL 700 [] else ([], false)).1 = []) ∧ ((if ok.cnfB n LL then xw.wlk n LL 700 [] else ([], false)).2 = true → (0 ≤ n ∧ n ≤ 24) ∧ xe.checkB n LL (if ok.cnfB n LL then xw.wlk n LL 700 [] else ([], false)).1 = true ∧ lq.solveL n LL [] = none ∧ css.sumLen (if ok.cnfB n LL then xw.wlk n LL 700 [] else ([], false)).1 ≤ n.toNat * (if ok.cnfB n LL then xw.wlk n LL 700 [] else ([], false)).1.length)) := by
    cases hb : ok.cnfB n LL
    · exact ⟨fun _ => rfl, fun h => by cases h⟩
    · have hf := fm.cnf_facts hb
      exact ⟨fun h => xs.refute_no h, fun h => ⟨⟨hf.1, hf.2.1⟩, xs.refute_all hb h⟩⟩
  unfold xw.WalkE at CI CS
  unfold lq.FromE at CV
  generalize (if ok.cnfB n LL then xw.wlk n LL 700 [] else ([], false)) = P at *
  obtain ⟨R, b⟩ := P
  have htR' : css.tot R ≤ 1048576 := Nat.le_trans htR (by decide)
  have hlR : R.length ≤ 1048576 := Nat.le_trans (css.tot_len R) htR'
  have hin : Hid (∀ i, (R.getD i []).length ≤ 1048576) := fun i => Nat.le_trans (css.tot_in R i) htR'
  have CK := sl.hide (fun (w' : World) (g : W1.grownBy w' none) u (h : css.Sls w' u R) => xe.implCheck (.slice va LL.length vc) u n LL R w' ((sl.unhide T1).kept g) ht htR' ((sl.unhide O1).kept g).sls h)
  have CB := sl.hide (fun (w' : World) (g : W1.grownBy w' none) u (h : css.Sls w' u R) => xe.implFirstBad (.slice va LL.length vc) u n LL R w' ((sl.unhide T1).kept g) ht htR' ((sl.unhide O1).kept g).sls h)
  have CP := sl.hide (fun (w' : World) u (h : css.Sls w' u R) => ps.implProofSize u R w' htR' h)
  have CI' := sl.hide CI
  have CS' := sl.hide CS
  have HR := sl.hide (And.intro htR' hlR)
  clear CI CS htR htR'
  cases b
  · have eR := (sl.unhide FACT).1 rfl
    have eR' : R = [] := eR
    subst eR'
    have CV' := sl.hide CV
    clear FACT CV eR CK CB CP
    generalize lq.solveL n LL [] = O at *
    go_wp2_with fail
    rw [← hW1]
    refine (sl.unhide CI').mono ?_; rintro e w2 ⟨u2, rfl, o2, g2⟩
    clear hW1 z0 z1 CI'
    obtain ⟨ra, rc, rfl⟩ := o2.len
    have K2 := sl.hide g2
    have R2 := sl.hide o2
    have F2 := sl.hide ((sl.unhide F1).kept g2)
    clear o2 g2
    have z0 := (sl.unhide F2).c0
    have z1 := (sl.unhide F2).c1
    have C3 := sl.hide (sl.unhide CS' w2 (sl.unhide K2))
    go_wp2_with fail
    refine (sl.unhide C3).mono ?_; rintro e w3 ⟨u3, rfl, o3, g3⟩
    obtain ⟨qa, qc, rfl⟩ := o3.len
    have K3 := sl.hide (sl.grown_trans (r := none) (sl.unhide K2) g3)
    have R3 := sl.hide ((sl.unhide R2).kept g3)
    have Q3 := sl.hide o3
    clear o3 g3 C3 K2 R2 F2 z0 z1 CS'
    go_wp2_with fail
    refine (df.sameList _ _ [] _ hlR (sl.unhide hin) (sl.unhide R3).sls (sl.unhide Q3).sls).mono ?_; rintro e w4 ⟨rfl, g4⟩
    have K4 := sl.hide (sl.grown_trans (r := none) (sl.unhide K3) g4)
    have F4 := sl.hide ((sl.unhide F1).kept (sl.unhide K4))
    have z0 := (sl.unhide F4).c0
    have z1 := (sl.unhide F4).c1
    have C5 := sl.hide (sl.unhide CV' w4 (sl.unhide K4))
    clear g4 K3 R3 Q3 CV'
    go_wp2_with fail
    refine (sl.unhide C5).mono ?_; rintro e w5 ⟨rv, rfl, m5⟩
    have K5 := sl.hide (sl.grown_trans (r := none) (sl.unhide K4) m5.2)
    obtain ⟨rva, rvc, rfl, _⟩ := sl.Sl.of_own m5.1
    clear m5 C5
    go_wp2_with fail
    go_ret
    exact ⟨rfl, sl.below_of (sl.grown_trans (r := none) (sl.unhide G1) (sl.unhide K5))⟩
  · obtain ⟨hn24, hck, hsn, hsz⟩ := (sl.unhide FACT).2 rfl
    have hck' : xe.checkB n LL R = true := hck
    have hbd : xe.badB n LL R = (R.length : Int) := by
      have := xt.check_facts hck'
      rw [xe.bad_yes this.1 this.2.1, this.2.2.1]
    have h7 : R.length ≤ 700 := (xt.check_facts hck').2.1
    rw [hsn] at CV
    rw [hck'] at CK
    rw [hbd] at CB
    have CV' := sl.hide CV
    obtain ⟨qq, hqq⟩ : ∃ qq : Int, qq = n * (R.length : Int) := ⟨_, rfl⟩
    have hqb : 0 ≤ qq ∧ qq ≤ 16800 := by
      rw [hqq]
      have h1 : n * (R.length : Int) ≤ 24 * (R.length : Int) := Int.mul_le_mul_of_nonneg_right hn24.2 (by omega)
      have h2 : 0 ≤ n * (R.length : Int) := Int.mul_nonneg hn24.1 (by omega)
      omega
    have hqw : IntKind.i64.wrap (n * (R.length : Int)) = qq := by rw [← hqq]; exact xw.wrap_in (by omega) (by omega)
    have hle : (css.sumLen R : Int) ≤ qq := by
      have h1 : ((css.sumLen R : Nat) : Int) ≤ ((n.toNat * R.length : Nat) : Int) := Int.ofNat_le.2 hsz
      rw [Int.natCast_mul, Int.toNat_of_nonneg hn24.1, ← hqq] at h1
      exact h1
    have HQ := sl.hide hqq
    clear FACT CV hck hck' hbd hsn hsz hqq
    go_wp2_with fail
    rw [← hW1]
    refine (sl.unhide CI').mono ?_; rintro e w2 ⟨u2, rfl, o2, g2⟩
    clear hW1 z0 z1 CI'
    obtain ⟨ra, rc, rfl⟩ := o2.len
    have K2 := sl.hide g2
    have R2 := sl.hide o2
    have F2 := sl.hide ((sl.unhide F1).kept g2)
    clear o2 g2
    have z0 := (sl.unhide F2).c0
    have z1 := (sl.unhide F2).c1
    have C3 := sl.hide (sl.unhide CS' w2 (sl.unhide K2))
    go_wp2_with fail
    refine (sl.unhide C3).mono ?_; rintro e w3 ⟨u3, rfl, o3, g3⟩
    obtain ⟨qa, qc, rfl⟩ := o3.len
    have K3 := sl.hide (sl.grown_trans (r := none) (sl.unhide K2) g3)
    have R3 := sl.hide ((sl.unhide R2).kept g3)
    have Q3 := sl.hide o3
    clear o3 g3 C3 K2 R2 F2 z0 z1 CS'
    go_wp2_with fail
    refine (df.sameList _ _ R _ hlR (sl.unhide hin) (sl.unhide R3).sls (sl.unhide Q3).sls).mono ?_; rintro e w4 ⟨rfl, g4⟩
    have K4 := sl.hide (sl.grown_trans (r := none) (sl.unhide K3) g4)
    have R4 := sl.hide ((sl.unhide R3).kept g4)
    have F4 := sl.hide ((sl.unhide F1).kept (sl.unhide K4))
    have z0 := (sl.unhide F4).c0
    have z1 := (sl.unhide F4).c1
    have C5 := sl.hide (sl.unhide CV' w4 (sl.unhide K4))
    clear g4 K3 R3 Q3 CV'
    go_wp2_with fail
    refine (sl.unhide C5).mono ?_; rintro e w5 ⟨rv, rfl, m5⟩
    have K5 := sl.hide (sl.grown_trans (r := none) (sl.unhide K4) m5.2)
    have R5 := sl.hide ((sl.unhide R4).kept m5.2)
    obtain ⟨rva, rvc, rfl, _⟩ := sl.Sl.of_own m5.1
    have F5 := sl.hide ((sl.unhide F4).kept m5.2)
    clear m5 C5 R4 F4 z0 z1 K4
    have GX := sl.hide (cf.grown_drew w5 none)
    have SK : Hid (∀ wz, w5.grownBy wz none → wz.cell? ⟨w1.heap.size, 0, none⟩ = some (.int .i64 n) ∧ wz.cell? ⟨w1.heap.size, 1, none⟩ = some (.slice va LL.length vc)) := fun wz g => ⟨((sl.unhide F5).kept g).c0, ((sl.unhide F5).kept g).c1⟩
    have DK := sl.hide (fun wz (g : w5.grownBy wz none) => sl.unhide CK wz (sl.grown_trans (r := none) (sl.unhide K5) g) _ ((sl.unhide R5).kept g).sls)
    have DB := sl.hide (fun wz (g : w5.grownBy wz none) => sl.unhide CB wz (sl.grown_trans (r := none) (sl.unhide K5) g) _ ((sl.unhide R5).kept g).sls)
    have DP := sl.hide (fun wz (g : w5.grownBy wz none) => sl.unhide CP wz _ ((sl.unhide R5).kept g).sls)
    have z0 := (sl.unhide F5).c0
    have z1 := (sl.unhide F5).c1
    clear CK CB CP R5 F5
    go_wp2_with fail
    go_region_held3 (fun w' => w'.cell? ⟨w1.heap.size, 0, none⟩ = some (.int .i64 n) ∧ w'.cell? ⟨w1.heap.size, 1, none⟩ = some (.slice va LL.length vc)) (first | exact sl.unhide SK _ (sl.unhide GX) | go_keep) (first
      | (go_at_call 18; refine (sl.unhide DK _ (sl.unhide GX)).mono ?_; rintro e w6 ⟨rfl, g6⟩; replace GX := sl.hide (sl.grown_trans (r := none) (sl.unhide GX) g6); clear g6)
      | (go_at_call 19; refine (sl.unhide DB _ (sl.unhide GX)).mono ?_; rintro e w7 ⟨rfl, g7⟩; replace GX := sl.hide (sl.grown_trans (r := none) (sl.unhide GX) g7); clear g7)
      | (go_at_call 20; refine (sl.unhide DP _ (sl.unhide GX)).mono ?_; rintro e w8 ⟨rfl, hw⟩; have hw' := hw.symm; clear hw; subst hw'))
    go_wp2_with fail
    go_ret
    exact ⟨rfl, sl.below_of (sl.grown_trans (r := none) (sl.grown_trans (r := none) (sl.unhide G1) (sl.unhide K5)) (sl.unhide GX))⟩

/-! ### the row's step (the guide's own frame) -/
set_option maxRecDepth 100000 in
theorem contract (H : Type) (enc : TypeId × Value → H) (W : World) (base : Nat) (args : Array Value) (ds gs : List (DataW H)) (before : List MemPlace)
    (hval : ∀ (j : Nat) t v, Tryd.f3.params[j]? = some t → args[j]? = some v → Value.okWide Tryd.prog W .any base t v)
    (hW : DataW.Whole enc Tryd.prog Tryd.f3.params.toList Rows.fnRefuteSpec.vars false W args.toList ds gs before) (hL : laidMetH Tryd.prog Rows.fnRefuteRow.laid W) :
    Calls Tryd.prog 3 args W fun e W' => ∃ v, e = .returned v ∧ Rows.fnRefuteSpec.post enc Tryd.prog Tryd.f3 false true false false W args v W' := by
  have hW' := hW
  obtain ⟨p, q, hA0, hV, rfl, hfz, hnd⟩ := hW
  have hA : DataW.TrodAll enc Tryd.prog W 0 (fun _ => true) true Tryd.f3.params.toList args.toList ds p := hA0
  rw [Tryd.params3] at hA hval
  obtain ⟨v0, vs0, d0, ds0, p0, q0, hargs, rfl, rfl, h0, r0⟩ := trodAll_cons hA
  obtain ⟨rfl, rfl, rfl⟩ := trodAll_nil r0
  obtain rfl : args = #[v0] := by cases args; simp_all
  obtain ⟨rfl, rfl⟩ := trodVars_none hV
  obtain ⟨a0, len0, cap0, rfl⟩ := okWide_slice Tryd.underlying22 (hval 0 22 v0 rfl rfl)
  have k0 := h0
  have lt0 : ∀ x ∈ p0, x.block < W.heap.size := by obtain ⟨m, hm⟩ := k0; exact DataW.trod_lt m _ _ _ hm
  obtain ⟨z0, w0⟩ : ∃ zs, IsRow .u8 W a0 len0 cap0 zs := by
    obtain ⟨fuel, hf⟩ := h0
    rcases open_ints Tryd.underlying22 Tryd.underlying5 (by kernel_rfl) hf with ⟨hcs, _⟩ | ⟨x, l, c, zs, hcs, _, hl, hm, hz, _, hcell, hwz⟩
    · simp [Value.cells] at hcs
      obtain ⟨rfl, rfl, rfl⟩ := hcs
      exact ⟨[], .inl ⟨rfl, rfl, rfl, rfl⟩⟩
    · simp [Value.cells] at hcs
      obtain ⟨rfl, rfl, rfl⟩ := hcs
      exact ⟨zs, .inr ⟨_, rfl, hl, hm, by simpa using hz, hcell, hwz⟩⟩
  clear hA0
  refine (walk a0 len0 cap0 z0 W w0 (table hL)).mono fun e W' ⟨he, bel⟩ => ?_
  subst he
  exact ⟨_, rfl, _, _, _, [], _, [], hW', trodAll_mk1 (shut_bool Tryd.underlying4 _), (trodAll_cons_mk (Below.trod laidOut (by kernel_rfl) (of_decide_eq_true (by kernel_rfl)) k0 bel lt0) trodAll_mk0), rfl, bel.frame _, fun h => by cases h⟩

set_option maxRecDepth 100000 in
theorem lifted (os : Os) (started : os.Started) (H : Type) (enc : TypeId × Value → H) (F : Stop.Interp) :
    ReturnsInHanded {} Tryd.checked os 3 .any ((OpenSpec.ofChange Rows.fnRefuteSpec).preRow enc Tryd.prog Tryd.f3 Rows.fnRefuteRow.domain false Rows.fnRefuteRow.laid) (((OpenSpec.ofChange Rows.fnRefuteSpec).at F).post enc Tryd.prog Tryd.f3 false true false false) := by
  refine returnsInHanded_of_row (C := Tryd.checked) (s := OpenSpec.ofChange Rows.fnRefuteSpec) own started (by kernel_rfl) Tryd.func3
    (witness_row_at (enc := enc) (C := Tryd.checked) false ({ World.holding Tryd.prog os ⟨#[], #[], []⟩ with heap := (World.holding Tryd.prog os ⟨#[], #[], []⟩).heap.modify 1 fun | .cells _ t frozen => .cells (Lib.deBruijn64tab.map fun (n : Nat) => Value.int .u8 n).toArray t frozen | o => o } : World) #[.slice none 0 0] rfl (by kernel_rfl) (by kernel_rfl) (by kernel_rfl)
      (OpenSpec.preRow_of_cond 8 (x := ([.nil], [], [])) (by kernel_rfl) (by kernel_rfl) (fun k hk => by cases hk) (by kernel_rfl) (laidMet_of_run' 8 (by kernel_rfl) (by kernel_rfl)))) ?_
  intro W base args ds gs before hval hW _ _ _ hL _ _
  exact contract H enc W base args ds gs before hval hW hL

theorem said : Rows.FnRefuteSaid :=
  OpenClaim.holds_of_cond 3 Tryd.f3 rfl rfl rfl rfl rfl rfl rfl ⟨rfl, rfl, rfl, rfl, rfl⟩ rfl rfl rfl rfl rfl (by kernel_rfl) Tryd.func3 (by kernel_rfl)
    (of_decide_eq_true (by kernel_rfl)) (by unfold Func.isWrapper; first | (rw [if_pos (by decide +kernel)]; kernel_rfl) | (rw [if_neg (by decide +kernel)]; exact ⟨rfl, rfl⟩))
    (fun os started H enc _ F => by rw [OpenClaim.pre_eq_preRow]; exact lifted os started H enc F)

theorem plain (f : FuncId) (fn : Func) (hf : Tryd.pinned.checked.prog.funcNamed "loop.example/g00123/laws.FnRefute" = some f) (hfn : Tryd.pinned.checked.prog.funcs[f]? = some fn) :
    false = Tryd.pinned.checked.prog.looks [] ∧ ∀ (j : Nat) t, fn.params[j]? = some t → Tryd.pinned.checked.prog.wantsStandIn t = false := by
  obtain rfl : f = 3 := Option.some.inj ((show Tryd.prog.funcNamed "loop.example/g00123/laws.FnRefute" = some 3 by kernel_rfl).symm.trans hf) |>.symm
  obtain rfl : fn = Tryd.f3 := (Option.some.inj (Tryd.func3.symm.trans hfn)).symm
  refine ⟨by kernel_rfl, fun j t ht => ?_⟩
  rw [Tryd.params3] at ht
  obtain rfl : t = 22 := by simpa using Array.mem_of_getElem? ht
  exact (show Tryd.prog.wantsStandIn 22 = false by kernel_rfl)

/-- the statement: the row's tied card -/
theorem proved : Rows.FnRefuteCardSaid :=
  Claim7.holds_tied_plain_at .later [] _ _ _ _ said (fun _ h => by cases h) (by kernel_rfl) (fun _ h => by cases h) fnRefute_row_tie rfl ⟨rfl, rfl⟩ (by kernel_rfl) rfl plain (by kernel_rfl)
#print axioms proved
end Go.Proofs.YtheigbmkldlicaaDoor.fnRefute
