/- At every byte list the law FnBackbone returns true (what is true at every answer is told, and of every other variable there are answers both ways); the library's table of places lies as its text lays it (tied). -/
import Derived.Test.YtapkckfgbimmcaaDoorCards
import Derived.Test.YtapkckfgbimmcaaDoorTie
import Derived.Test.YtapkckfgbimmcaaDoorJBack
import Derived.Test.YtapkckfgbimmcaaDoorDCl
import Derived.Test.YtapkckfgbimmcaaDoorDVa
import Derived.Test.YtapkckfgbimmcaaDoorDb
import Derived.Test.YtapkckfgbimmcaaDoorDf
import Derived.WalkKit
import Derived.ProofKit
import Derived.OpenShut
import Derived.ShutString
import Derived.ChangeOld
import Derived.Below
import Derived.Deep.DeepHandedRow
import Derived.Lib.LaidTab
import Derived.Lib.TrailingZeros
import Derived.Stop.LaidErr
import Derived.LaidHandle
import Derived.LaidSub
namespace Go.Proofs.YtapkckfgbimmcaaDoor.fnBackbone
open Go.ChangeShapes Go.WideShapes Go.ChangeAt Go.RowKit
open Go.ChangeMaps (open_string shut_string)
set_option linter.unusedVariables false

theorem own : ownKnob Tryd.prog.godebug = none := by kernel_rfl
theorem laidOut : laidOutB Tryd.prog = true := by kernel_rfl

/-- what the walk is told of a slice of integers that came in -/
def IsRow (k : IntKind) (w : World) (a : Option Addr) (len cap : Nat) (zs : List Int) : Prop :=
  (a = none ∧ len = 0 ∧ cap = 0 ∧ zs = []) ∨
  ∃ x, a = some x ∧ len ≤ cap ∧ cap ≤ maxLen ∧ zs.length = cap ∧ (∀ i, i < zs.length → w.cell? (x.add i) = some (.int k (zs.getD i 0))) ∧ ∀ n ∈ zs, (Lit.int k n).wf = true

theorem gTab : Tryd.prog.globalNamed "math/bits.deBruijn64tab" = some 0 := by kernel_rfl
theorem gTabType : (Tryd.prog.globals[0]?).map (·.type) = some 115 := by kernel_rfl
theorem cellsTab : Tryd.prog.cellsOf 115 = 64 := by kernel_rfl
theorem cellsByte : Tryd.prog.cellsOf 5 = 1 := by kernel_rfl
/-- what the row's list gives: the table's cells hold its numbers -/
theorem table {W : World} (h : laidMetH Tryd.prog Rows.fnBackboneRow.laid W) : srt.Tab W := by
  have t : Lib.TabIs Tryd.prog W "math/bits.deBruijn64tab" .u8 (Lib.deBruijn64tab.map fun (n : Nat) => (n : Int)) :=
    Lib.tabIs_of_head (rest := []) gTab gTabType Tryd.underlying115 Tryd.underlying5 cellsByte cellsTab h
  intro j hj
  have c := t.cell gTab j (by rw [List.length_map]; exact hj)
  rw [c]
  congr 2
  rw [List.getD, List.getD, List.getElem?_map]
  cases Lib.deBruijn64tab[j]? <;> rfl

/-! ### the walk -/
theorem walk (a0 : Option Addr) (len0 cap0 : Nat) (z0 : List Int) (w : World) (w0 : IsRow .u8 w a0 len0 cap0 z0) (hT : srt.Tab w) :
    Calls Tryd.prog 6 #[.slice a0 len0 cap0] w fun e w' => e = .returned (.bool true) ∧ Below w.heap.size w w' := by
  have hB := draw.of_rowB w0
  have hm : len0 ≤ 9223372036854775807 := by
    rcases w0 with ⟨_, h, _, _⟩ | ⟨_, _, h1, h2, _⟩
    · omega
    · unfold maxLen at h2
      omega
  clear w0
  by_cases hbig : 1048576 < len0
  · have C := sl.hide (draw.big a0 len0 cap0 w hm)
    rw [decide_eq_true hbig] at C
    clear hT
    go_enter Tryd.func6, Tryd.ntmps6
    go_wp2_with fail
    refine (sl.unhide C).mono ?_; rintro e w' ⟨rfl, rfl⟩
    go_wp2_with fail
    go_ret
    exact ⟨rfl, Below.refl _ _⟩
  have C := sl.hide (draw.big a0 len0 cap0 w hm)
  rw [decide_eq_false hbig] at C
  have HB := sl.hide hB
  have TT := sl.hide hT
  have hlen : len0 ≤ 1048576 := by omega
  clear hB hT hbig
  go_enter Tryd.func6, Tryd.ntmps6
  go_wp2_with fail
  refine (sl.unhide C).mono ?_; rintro e w' ⟨rfl, hw⟩; have hw' := hw.symm; clear hw; subst hw'
  clear C hm
  go_wp2_with fail
  refine (db.drawFormula a0 len0 cap0 _ hlen (sl.unhide HB)).mono ?_; rintro e w1 ⟨n, v, LL, rfl, ⟨⟨n1, n6⟩, hM, hgd⟩, o1, g1⟩
  obtain ⟨va, vc, rfl⟩ := o1.len
  have hcn := ks.good_cnf ⟨n1, n6⟩ hM hgd
  have HC := sl.hide hcn
  obtain ⟨m, rfl⟩ := Int.eq_ofNat_of_zero_le (show (0 : Int) ≤ n by omega)
  have ht : css.tot LL ≤ 1048576 := Nat.le_trans (df.tot_bd (dcn.bd_good ⟨n1, n6⟩ hM hgd) (by decide)) (by decide)
  have hLLl : LL.length ≤ 1048576 := Nat.le_trans (css.tot_len LL) ht
  have gA := World.grownBy_alloc w1 (.cells #[.int .i64 (m : Int), .slice va LL.length vc] 26) none
  have F1 := sl.hide (cf.Box.new 26 w1 (.int .i64 (m : Int)) (.slice va LL.length vc))
  have G1 := sl.hide (sl.grown_trans (r := none) g1 gA)
  have O1 := sl.hide (o1.kept gA)
  obtain ⟨W1, hW1⟩ : ∃ W1, W1 = w1.alloc (.cells #[.int .i64 (m : Int), .slice va LL.length vc] 26) := ⟨_, rfl⟩
  rw [← hW1] at F1 G1 O1
  have T1 := sl.hide ((sl.unhide TT).kept (sl.unhide G1))
  clear g1 o1 gA hM hgd TT HB hcn
  have z0 := (sl.unhide F1).c0
  have z1 := (sl.unhide F1).c1
  have hm6 : m ≤ 6 := by omega
  have CI := sl.hide (ks.implBackbone (.slice va LL.length vc) (m : Int) LL W1 (sl.unhide T1) ht (sl.unhide O1).sls)
  go_wp2_with fail
  rw [← hW1]
  refine (sl.unhide CI).mono ?_; rintro e w2 ⟨rv, rfl, mB⟩
  clear hW1 CI z0 z1
  generalize w1.heap.size = fb at *
  obtain ⟨ra, rc, rfl, _⟩ := sl.Sl.of_own mB.1
  have hBl := ks.back_len (m : Int) LL
  have F2 := sl.hide ((sl.unhide F1).kept mB.2)
  have K2 := sl.hide mB.2
  have O2 := sl.hide ((sl.unhide O1).kept mB.2)
  have R2 := sl.hide (sl.Own.of mB.1)
  have CS := sl.hide (ks.specBackbone (.slice va LL.length vc) (m : Int) LL w2 ht (sl.unhide O2).sls)
  have z0 := (sl.unhide F2).c0
  have z1 := (sl.unhide F2).c1
  clear mB
  go_wp2_with fail
  refine (sl.unhide CS).mono ?_; rintro e w3 ⟨qv, rfl, m3⟩
  have Q3 := sl.hide (sl.Own.of m3.1)
  have R3 := sl.hide ((sl.unhide R2).kept m3.2)
  have K3 := sl.hide (sl.grown_trans (r := none) (sl.unhide K2) m3.2)
  obtain ⟨qa, qc, rfl, _⟩ := sl.Sl.of_own m3.1
  clear m3 CS K2 R2 F2 O2 z0 z1
  go_wp2_with fail
  refine (dcls.sameC _ _ (ks.backL (m : Int) LL) _ (by omega) (sl.unhide R3).sl (sl.unhide Q3).sl).mono ?_; rintro e w4 ⟨rfl, g4⟩
  have K4 := sl.hide (sl.grown_trans (r := none) (sl.unhide K3) g4)
  have R4 := sl.hide ((sl.unhide R3).kept g4)
  have F4 := sl.hide ((sl.unhide F1).kept (sl.unhide K4))
  have O4 := sl.hide ((sl.unhide O1).kept (sl.unhide K4))
  have CC := sl.hide (ct.specCountTrue (.slice va LL.length vc) (m : Int) LL w4 ht (sl.unhide O4).sls)
  have z0 := (sl.unhide F4).c0
  have z1 := (sl.unhide F4).c1
  clear g4 K3 R3 Q3
  have cz := ks.count_zero (LL := LL) (show m ≤ 14 by omega) (sl.unhide HC)
  by_cases h0 : ct.countI (m : Int) LL = 0
  · have hb0 : ks.backL (m : Int) LL = [] := ks.back_no (cz.1 h0)
    rw [h0] at CC
    rw [hb0] at R4 ⊢
    clear cz h0 hb0 hBl
    go_wp2_with fail
    refine (sl.unhide CC).mono ?_; rintro e w5 ⟨rfl, g5⟩
    have G5 := sl.hide (sl.grown_trans (r := none) (sl.unhide G1) (sl.grown_trans (r := none) (sl.unhide K4) g5))
    clear g5
    go_wp2_with fail
    go_ret
    exact ⟨by simp, sl.below_of (sl.unhide G5)⟩
  · obtain ⟨l, hl⟩ : ∃ l, lq.solveL (m : Int) LL [] = some l := by
      cases q : lq.solveL (m : Int) LL [] with
      | none => exact absurd (cz.2 q) h0
      | some l => exact ⟨l, rfl⟩
    have HLS := sl.hide hl
    have hb0 : ks.backL (m : Int) LL = ks.bbs (m : Int) LL m := ks.back_yes hl
    rw [hb0] at R4 hBl ⊢
    have hne : ¬ ct.countI (m : Int) LL = 0 := h0
    have hz : (ct.countI (m : Int) LL == 0) = false := beq_eq_false_iff_ne.2 h0
    generalize ct.countI (m : Int) LL = cI at *
    clear cz h0 hb0 hl
    go_wp2_with fail
    refine (sl.unhide CC).mono ?_; rintro e w5 ⟨rfl, g5⟩
    have K5 := sl.hide (sl.grown_trans (r := none) (sl.unhide K4) g5)
    have R5 := sl.hide ((sl.unhide R4).kept g5)
    clear g5 CC z0 z1 F4 O4 R4 K4
    go_wp2_with fail
    go_loopw [5] (fun i wr => ∃ k : Nat, k ≤ m ∧ i = .int .i64 ((k : Int) + 1) ∧ Hid (w5.grownBy wr none)) (fun i _ => 30 - (intOf i).toNat)
    case atStart => exact ⟨0, Nat.zero_le _, rfl, sl.grown_refl _⟩
    case round =>
      obtain ⟨k, hk, rfl, hg⟩ := hrel
      have KR := sl.hide (sl.grown_trans (r := none) (sl.unhide K5) (sl.unhide hg))
      have FR := sl.hide ((sl.unhide F1).kept (sl.unhide KR))
      have x0 := (sl.unhide FR).c0
      have x1 := (sl.unhide FR).c1
      by_cases hlt : k < m
      · have hi' : (k : Int) + 1 ≤ (m : Int) := by omega
        have gA := World.grownBy_alloc wr (.cells #[.int .i64 ((k : Int) + 1)] 3) none
        have y0 := ((sl.unhide FR).kept gA).c0
        have y1 := ((sl.unhide FR).kept gA).c1
        have CA := ks.call1 (.slice va LL.length vc) (m : Int) LL ((k : Int) + 1) wr ((sl.unhide T1).kept (sl.unhide KR)) ht ((sl.unhide O1).kept (sl.unhide KR)).sls
        have CB := fun (w6 : World) (g : wr.grownBy w6 none) => ks.call1 (.slice va LL.length vc) (m : Int) LL (-((k : Int) + 1)) w6 ((sl.unhide T1).kept (sl.grown_trans (r := none) (sl.unhide KR) g)) ht ((sl.unhide O1).kept (sl.grown_trans (r := none) (sl.unhide KR) g)).sls
        have hp := ks.has_pos (LL := LL) hlt
        have hn := ks.has_neg (LL := LL) hlt
        have hpq := ks.can_one (show m ≤ 24 by omega) (sl.unhide HC) hlt (sl.unhide HLS)
        have CP := fun (w8 : World) (g : w5.grownBy w8 none) => cls.implClauseHas _ _ ((k : Int) + 1) w8 (by omega) ((sl.unhide R5).kept g).sl
        have CN := fun (w8 : World) (g : w5.grownBy w8 none) => cls.implClauseHas _ _ (-((k : Int) + 1)) w8 (by omega) ((sl.unhide R5).kept g).sl
        rw [hp] at CP
        rw [hn] at CN
        generalize ks.can1 (m : Int) LL (-((k : Int) + 1)) = q at *
        generalize ks.can1 (m : Int) LL ((k : Int) + 1) = p at *
        generalize (ks.bbs (m : Int) LL m).length = BL at *
        have CA' := sl.hide CA
        have CB' := sl.hide CB
        have CP' := sl.hide CP
        have CN' := sl.hide CN
        have HPQ := sl.hide hpq
        clear hp hn CA CB CP CN gA hpq
        go_wp2_with fail
        refine (sl.unhide CA').mono ?_; rintro e w6 ⟨r6, rfl, g6⟩
        have G6 := sl.hide g6
        have F6 := sl.hide ((sl.unhide FR).kept g6)
        have gB := World.grownBy_alloc w6 (.cells #[.int .i64 (-((k : Int) + 1))] 3) none
        have u0 := (sl.unhide F6).c0
        have u1 := (sl.unhide F6).c1
        have u2 := ((sl.unhide F6).kept gB).c0
        have u3 := ((sl.unhide F6).kept gB).c1
        have C6 := sl.hide (sl.unhide CB' w6 g6)
        clear g6 gB CA' CB' x0 x1 y0 y1
        go_wp2_with fail
        refine (sl.unhide C6).mono ?_; rintro e w7 ⟨r7, rfl, g7⟩
        have G7 := sl.hide (sl.grown_trans (r := none) (sl.unhide G6) g7)
        have GW := sl.hide (sl.grown_trans (r := none) (sl.unhide hg) (sl.unhide G7))
        clear g7 C6 u0 u1 u2 u3 F6 FR
        cases p <;> cases q
        case false.false => exact absurd (sl.unhide HPQ rfl) (by decide)
        all_goals
          have C1 := sl.hide (sl.unhide CP' w7 (sl.unhide GW))
          have C2 := sl.hide (sl.unhide CN' w7 (sl.unhide GW))
          clear CP' CN' HPQ
          go_wp2_with fail
          refine (sl.unhide C1).mono ?_; rintro e w8 ⟨rfl, hw⟩; have hw' := hw.symm; clear hw; subst hw'
          go_wp2_with fail
          refine (sl.unhide C2).mono ?_; rintro e w8 ⟨rfl, hw⟩; have hw' := hw.symm; clear hw; subst hw'
          go_wp2_with fail
          go_roundw
          case rel => exact ⟨k + 1, by omega, by go_num, sl.unhide GW⟩
          case measure => simp [intOf]; omega
      · have hi' : ¬ (k : Int) + 1 ≤ (m : Int) := by omega
        have GZ := sl.hide (sl.grown_trans (r := none) (sl.unhide G1) (sl.unhide KR))
        go_wp2_with fail
        go_ret
        exact ⟨rfl, sl.below_of (sl.unhide GZ)⟩

/-! ### the row's step (the guide's own frame) -/
set_option maxRecDepth 100000 in
theorem contract (H : Type) (enc : TypeId × Value → H) (W : World) (base : Nat) (args : Array Value) (ds gs : List (DataW H)) (before : List MemPlace)
    (hval : ∀ (j : Nat) t v, Tryd.f6.params[j]? = some t → args[j]? = some v → Value.okWide Tryd.prog W .any base t v)
    (hW : DataW.Whole enc Tryd.prog Tryd.f6.params.toList Rows.fnBackboneSpec.vars false W args.toList ds gs before) (hL : laidMetH Tryd.prog Rows.fnBackboneRow.laid W) :
    Calls Tryd.prog 6 args W fun e W' => ∃ v, e = .returned v ∧ Rows.fnBackboneSpec.post enc Tryd.prog Tryd.f6 false true false false W args v W' := by
  have hW' := hW
  obtain ⟨p, q, hA0, hV, rfl, hfz, hnd⟩ := hW
  have hA : DataW.TrodAll enc Tryd.prog W 0 (fun _ => true) true Tryd.f6.params.toList args.toList ds p := hA0
  rw [Tryd.params6] at hA hval
  obtain ⟨v0, vs0, d0, ds0, p0, q0, hargs, rfl, rfl, h0, r0⟩ := trodAll_cons hA
  obtain ⟨rfl, rfl, rfl⟩ := trodAll_nil r0
  obtain rfl : args = #[v0] := by cases args; simp_all
  obtain ⟨rfl, rfl⟩ := trodVars_none hV
  obtain ⟨a0, len0, cap0, rfl⟩ := okWide_slice Tryd.underlying22 (hval 0 22 v0 rfl rfl)
  have k0 := h0
  have lt0 : ∀ x ∈ p0, x.block < W.heap.size := by obtain ⟨m, hm⟩ := k0; exact DataW.trod_lt m _ _ _ hm
  obtain ⟨z0, w0⟩ : ∃ zs, IsRow .u8 W a0 len0 cap0 zs := by
    obtain ⟨fuel, hf⟩ := h0
    rcases open_ints Tryd.underlying22 Tryd.underlying5 (by kernel_rfl) hf with ⟨hcs, _⟩ | ⟨x, l, c, zs, hcs, _, hl, hm, hz, _, hcell, hwz⟩
    · simp [Value.cells] at hcs
      obtain ⟨rfl, rfl, rfl⟩ := hcs
      exact ⟨[], .inl ⟨rfl, rfl, rfl, rfl⟩⟩
    · simp [Value.cells] at hcs
      obtain ⟨rfl, rfl, rfl⟩ := hcs
      exact ⟨zs, .inr ⟨_, rfl, hl, hm, by simpa using hz, hcell, hwz⟩⟩
  clear hA0
  refine (walk a0 len0 cap0 z0 W w0 (table hL)).mono fun e W' ⟨he, bel⟩ => ?_
  subst he
  exact ⟨_, rfl, _, _, _, [], _, [], hW', trodAll_mk1 (shut_bool Tryd.underlying4 _), (trodAll_cons_mk (Below.trod laidOut (by kernel_rfl) (of_decide_eq_true (by kernel_rfl)) k0 bel lt0) trodAll_mk0), rfl, bel.frame _, fun h => by cases h⟩

set_option maxRecDepth 100000 in
theorem lifted (os : Os) (started : os.Started) (H : Type) (enc : TypeId × Value → H) (F : Stop.Interp) :
    ReturnsInHanded {} Tryd.checked os 6 .any ((OpenSpec.ofChange Rows.fnBackboneSpec).preRow enc Tryd.prog Tryd.f6 Rows.fnBackboneRow.domain false Rows.fnBackboneRow.laid) (((OpenSpec.ofChange Rows.fnBackboneSpec).at F).post enc Tryd.prog Tryd.f6 false true false false) := by
  refine returnsInHanded_of_row (C := Tryd.checked) (s := OpenSpec.ofChange Rows.fnBackboneSpec) own started (by kernel_rfl) Tryd.func6
    (witness_row_at (enc := enc) (C := Tryd.checked) false ({ World.holding Tryd.prog os ⟨#[], #[], []⟩ with heap := (World.holding Tryd.prog os ⟨#[], #[], []⟩).heap.modify 0 fun | .cells _ t frozen => .cells (Lib.deBruijn64tab.map fun (n : Nat) => Value.int .u8 n).toArray t frozen | o => o } : World) #[.slice none 0 0] rfl (by kernel_rfl) (by kernel_rfl) (by kernel_rfl)
      (OpenSpec.preRow_of_cond 8 (x := ([.nil], [], [])) (by kernel_rfl) (by kernel_rfl) (fun k hk => by cases hk) (by kernel_rfl) (laidMet_of_run' 8 (by kernel_rfl) (by kernel_rfl)))) ?_
  intro W base args ds gs before hval hW _ _ _ hL _ _
  exact contract H enc W base args ds gs before hval hW hL

theorem said : Rows.FnBackboneSaid :=
  OpenClaim.holds_of_cond 6 Tryd.f6 rfl rfl rfl rfl rfl rfl rfl ⟨rfl, rfl, rfl, rfl, rfl⟩ rfl rfl rfl rfl rfl (by kernel_rfl) Tryd.func6 (by kernel_rfl)
    (of_decide_eq_true (by kernel_rfl)) (by unfold Func.isWrapper; first | (rw [if_pos (by decide +kernel)]; kernel_rfl) | (rw [if_neg (by decide +kernel)]; exact ⟨rfl, rfl⟩))
    (fun os started H enc _ F => by rw [OpenClaim.pre_eq_preRow]; exact lifted os started H enc F)

theorem plain (f : FuncId) (fn : Func) (hf : Tryd.pinned.checked.prog.funcNamed "loop.example/g00123/laws.FnBackbone" = some f) (hfn : Tryd.pinned.checked.prog.funcs[f]? = some fn) :
    false = Tryd.pinned.checked.prog.looks [] ∧ ∀ (j : Nat) t, fn.params[j]? = some t → Tryd.pinned.checked.prog.wantsStandIn t = false := by
  obtain rfl : f = 6 := Option.some.inj ((show Tryd.prog.funcNamed "loop.example/g00123/laws.FnBackbone" = some 6 by kernel_rfl).symm.trans hf) |>.symm
  obtain rfl : fn = Tryd.f6 := (Option.some.inj (Tryd.func6.symm.trans hfn)).symm
  refine ⟨by kernel_rfl, fun j t ht => ?_⟩
  rw [Tryd.params6] at ht
  obtain rfl : t = 22 := by simpa using Array.mem_of_getElem? ht
  exact (show Tryd.prog.wantsStandIn 22 = false by kernel_rfl)

/-- the statement: the row's tied card -/
theorem proved : Rows.FnBackboneCardSaid :=
  Claim7.holds_tied_plain_at .later [] _ _ _ _ said (fun _ h => by cases h) (by kernel_rfl) (fun _ h => by cases h) fnBackbone_row_tie rfl ⟨rfl, rfl⟩ (by kernel_rfl) rfl plain (by kernel_rfl)
#print axioms proved
end Go.Proofs.YtapkckfgbimmcaaDoor.fnBackbone
