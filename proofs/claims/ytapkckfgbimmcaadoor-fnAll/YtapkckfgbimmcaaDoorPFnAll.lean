/- At every byte list the law FnAll returns true (the answers one behind the other are all that there are, each once, ascending); the library's table of places lies as its text lays it (tied). -/
import Derived.Test.YtapkckfgbimmcaaDoorCards
import Derived.Test.YtapkckfgbimmcaaDoorTie
import Derived.Test.YtapkckfgbimmcaaDoorJAll
import Derived.Test.YtapkckfgbimmcaaDoorDCl
import Derived.Test.YtapkckfgbimmcaaDoorDVa
import Derived.Test.YtapkckfgbimmcaaDoorDb
import Derived.Test.YtapkckfgbimmcaaDoorDf
import Derived.WalkKit
import Derived.ProofKit
import Derived.OpenShut
import Derived.ShutString
import Derived.ChangeOld
import Derived.Below
import Derived.Deep.DeepHandedRow
import Derived.Lib.LaidTab
import Derived.Lib.TrailingZeros
import Derived.Stop.LaidErr
import Derived.LaidHandle
import Derived.LaidSub
namespace Go.Proofs.YtapkckfgbimmcaaDoor.fnAll
open Go.ChangeShapes Go.WideShapes Go.ChangeAt Go.RowKit
open Go.ChangeMaps (open_string shut_string)
set_option linter.unusedVariables false

theorem own : ownKnob Tryd.prog.godebug = none := by kernel_rfl
theorem laidOut : laidOutB Tryd.prog = true := by kernel_rfl

/-- what the walk is told of a slice of integers that came in -/
def IsRow (k : IntKind) (w : World) (a : Option Addr) (len cap : Nat) (zs : List Int) : Prop :=
  (a = none ∧ len = 0 ∧ cap = 0 ∧ zs = []) ∨
  ∃ x, a = some x ∧ len ≤ cap ∧ cap ≤ maxLen ∧ zs.length = cap ∧ (∀ i, i < zs.length → w.cell? (x.add i) = some (.int k (zs.getD i 0))) ∧ ∀ n ∈ zs, (Lit.int k n).wf = true

theorem gTab : Tryd.prog.globalNamed "math/bits.deBruijn64tab" = some 0 := by kernel_rfl
theorem gTabType : (Tryd.prog.globals[0]?).map (·.type) = some 115 := by kernel_rfl
theorem cellsTab : Tryd.prog.cellsOf 115 = 64 := by kernel_rfl
theorem cellsByte : Tryd.prog.cellsOf 5 = 1 := by kernel_rfl
/-- what the row's list gives: the table's cells hold its numbers -/
theorem table {W : World} (h : laidMetH Tryd.prog Rows.fnAllRow.laid W) : srt.Tab W := by
  have t : Lib.TabIs Tryd.prog W "math/bits.deBruijn64tab" .u8 (Lib.deBruijn64tab.map fun (n : Nat) => (n : Int)) :=
    Lib.tabIs_of_head (rest := []) gTab gTabType Tryd.underlying115 Tryd.underlying5 cellsByte cellsTab h
  intro j hj
  have c := t.cell gTab j (by rw [List.length_map]; exact hj)
  rw [c]
  congr 2
  rw [List.getD, List.getD, List.getElem?_map]
  cases Lib.deBruijn64tab[j]? <;> rfl

/-! ### the walk -/
set_option maxRecDepth 100000 in
set_option maxHeartbeats 8000000 in
theorem walk (a0 : Option Addr) (len0 cap0 : Nat) (z0 : List Int) (w : World) (w0 : IsRow .u8 w a0 len0 cap0 z0) (hT : srt.Tab w) :
    Calls Tryd.prog 4 #[.slice a0 len0 cap0] w fun e w' => e = .returned (.bool true) ∧ Below w.heap.size w w' := by
  have hB := draw.of_rowB w0
  have hm : len0 ≤ 9223372036854775807 := by
    rcases w0 with ⟨_, h, _, _⟩ | ⟨_, _, h1, h2, _⟩
    · omega
    · unfold maxLen at h2
      omega
  clear w0
  by_cases hbig : 1048576 < len0
  · have C := sl.hide (draw.big a0 len0 cap0 w hm)
    rw [decide_eq_true hbig] at C
    clear hT
    go_enter Tryd.func4, Tryd.ntmps4
    go_wp2_with fail
    refine (sl.unhide C).mono ?_; rintro e w' ⟨rfl, rfl⟩
    go_wp2_with fail
    go_ret
    exact ⟨rfl, Below.refl _ _⟩
  have C := sl.hide (draw.big a0 len0 cap0 w hm)
  rw [decide_eq_false hbig] at C
  have HB := sl.hide hB
  have TT := sl.hide hT
  have hlen : len0 ≤ 1048576 := by omega
  clear hB hT hbig
  go_enter Tryd.func4, Tryd.ntmps4
  go_wp2_with fail
  refine (sl.unhide C).mono ?_; rintro e w' ⟨rfl, hw⟩; have hw' := hw.symm; clear hw; subst hw'
  clear C hm
  go_wp2_with fail
  refine (db.drawFormula a0 len0 cap0 _ hlen (sl.unhide HB)).mono ?_; rintro e w1 ⟨n, v, LL, rfl, ⟨⟨n1, n6⟩, hM, hgd⟩, o1, g1⟩
  obtain ⟨va, vc, rfl⟩ := o1.len
  have hcn := ks.good_cnf ⟨n1, n6⟩ hM hgd
  have HC := sl.hide hcn
  obtain ⟨m, rfl⟩ := Int.eq_ofNat_of_zero_le (show (0 : Int) ≤ n by omega)
  have ht : css.tot LL ≤ 1048576 := Nat.le_trans (df.tot_bd (dcn.bd_good ⟨n1, n6⟩ hM hgd) (by decide)) (by decide)
  have hLLl : LL.length ≤ 1048576 := Nat.le_trans (css.tot_len LL) ht
  have gA := World.grownBy_alloc w1 (.cells #[.int .i64 (m : Int), .slice va LL.length vc] 26) none
  have F1 := sl.hide (cf.Box.new 26 w1 (.int .i64 (m : Int)) (.slice va LL.length vc))
  have G1 := sl.hide (sl.grown_trans (r := none) g1 gA)
  have O1 := sl.hide (o1.kept gA)
  obtain ⟨W1, hW1⟩ : ∃ W1, W1 = w1.alloc (.cells #[.int .i64 (m : Int), .slice va LL.length vc] 26) := ⟨_, rfl⟩
  rw [← hW1] at F1 G1 O1
  have T1 := sl.hide ((sl.unhide TT).kept (sl.unhide G1))
  clear g1 o1 gA hM hgd TT HB hcn
  have z0 := (sl.unhide F1).c0
  have z1 := (sl.unhide F1).c1
  have hm6 : m ≤ 6 := by omega
  have CI := sl.hide (ks.implSolve (.slice va LL.length vc) (m : Int) LL W1 (sl.unhide T1) ht (sl.unhide O1).sls)
  have AS := sl.hide (ks.Ans.start (sl.unhide HC))
  have CZ : Hid (ct.countI (m : Int) LL = (cnt.C m (lq.holds LL []) : Int)) := ks.count_C (by omega) (sl.unhide HC)
  have hC64 : cnt.C m (lq.holds LL []) ≤ 64 := Nat.le_trans (ks.C_le m _) (Nat.le_trans (Nat.pow_le_pow_right (by decide) hm6) (by decide))
  have CNT := sl.hide (fun (w' : World) (g : W1.grownBy w' none) => ct.specCountTrue (.slice va LL.length vc) (m : Int) LL w' ht ((sl.unhide O1).kept g).sls)
  unfold lq.FromE at CI
  generalize hO0 : lq.solveL (m : Int) LL [] = O0 at *
  clear hO0
  go_wp2_with fail
  rw [← hW1]
  refine (sl.unhide CI).mono ?_; rintro e w2 ⟨rv, rfl, m2⟩
  clear hW1 CI z0 z1
  generalize w1.heap.size = fb at *
  have K2 := sl.hide m2.2
  have S2 := sl.hide (sl.Sl.of_own m2.1)
  clear m2
  go_wp2_with fail
  go_loopw [4, 5, 6] (fun uv bv iv wr => ∃ (O : Option (List Int)) (c : Nat), bv = .bool O.isSome ∧ iv = .int .i64 (c : Int) ∧ Hid (ks.Ans m LL O c) ∧ Hid (sl.Sl wr uv (O.getD [])) ∧ Hid (W1.grownBy wr none)) (fun _ _ iv _ => 70 - (intOf iv).toNat)
  case atStart => exact ⟨O0, 0, rfl, rfl, sl.unhide AS, sl.unhide S2, sl.unhide K2⟩
  case round =>
    obtain ⟨O, c, rfl, rfl, hans, hsl, hg⟩ := hrel
    clear AS S2 K2
    have FR := sl.hide ((sl.unhide F1).kept (sl.unhide hg))
    have x0 := (sl.unhide FR).c0
    have x1 := (sl.unhide FR).c1
    cases O with
    | none =>
      have CC := sl.unhide CNT wr (sl.unhide hg)
      rw [sl.unhide CZ] at CC
      have hcc : (c : Int) = (cnt.C m (lq.holds LL []) : Int) := by
        have := (sl.unhide hans).cnt
        have z : ks.todo LL none = 0 := rfl
        rw [z] at this
        omega
      rw [← hcc] at CC
      have CC' := sl.hide CC
      clear CC hcc
      go_wp2_with fail
      refine (sl.unhide CC').mono ?_; rintro e w3 ⟨rfl, g3⟩
      have G3 := sl.hide (sl.grown_trans (r := none) (sl.unhide G1) (sl.grown_trans (r := none) (sl.unhide hg) g3))
      clear g3
      go_wp2_with fail
      go_ret
      exact ⟨by simp, sl.below_of (sl.unhide G3)⟩
    | some l =>
      have hc63 : c ≤ 63 := by
        have := (sl.unhide hans).cnt
        have z : ks.todo LL (some l) = 1 + (ks.aft l).countP (lq.holds LL []) := rfl
        rw [z] at this
        omega
      have hc64 : (c : Int) ≤ 64 := by omega
      obtain ⟨hbt, hh⟩ := (sl.unhide hans).ok l rfl
      have hll : l.length = m := hbt.1
      have nx := ks.Ans.next (show m ≤ 24 by omega) (sl.unhide HC) (sl.unhide hans)
      have sl0 : sl.Sl wr _ l := sl.unhide hsl
      have ct_ := tr.implCnfTrue (.slice va LL.length vc) _ (m : Int) LL l wr ht (by omega) ((sl.unhide O1).kept (sl.unhide hg)).sls sl0
      have tb : tr.trueB (m : Int) LL l = true := by
        unfold tr.trueB tr.assignB
        rw [sl.unhide HC, decide_eq_true (by omega), Bool.true_and, Bool.true_and, ← ks.holds_nil, hh, Bool.and_true, List.all_eq_true]
        intro x hx
        have := hbt.2 x hx
        unfold tr.bitB
        rw [decide_eq_true_iff]
        omega
      rw [tb] at ct_
      have CT := sl.hide ct_
      have CN := sl.hide (fun (w' : World) (g : wr.grownBy w' none) => ks.implNext (.slice va LL.length vc) _ (m : Int) LL l w' ((sl.unhide T1).kept (sl.grown_trans (r := none) (sl.unhide hg) g)) ht (by omega) ((sl.unhide O1).kept (sl.grown_trans (r := none) (sl.unhide hg) g)).sls (sl0.kept g (.inl rfl)))
      unfold lq.FromE at CN
      have HBT := sl.hide hbt
      generalize hON : ks.nextO (m : Int) LL l = ON at *
      have NX := sl.hide nx
      have HLL := sl.hide hll
      have HSL := sl.hide sl0
      obtain ⟨la, lc, rfl, hlc⟩ := sl0
      have HLC := sl.hide hlc
      clear ct_ tb nx hON hbt hh hll hlc
      go_wp2_with fail
      refine (sl.unhide CT).mono ?_; rintro e w3 ⟨rfl, g3⟩
      have G3 := sl.hide g3
      have F3 := sl.hide ((sl.unhide FR).kept g3)
      have y0 := (sl.unhide F3).c0
      have y1 := (sl.unhide F3).c1
      have C3 := sl.hide (sl.unhide CN w3 g3)
      clear g3 CT x0 x1 CN
      go_wp2_with fail
      refine (sl.unhide C3).mono ?_; rintro e w4 ⟨r4, rfl, m4⟩
      have G4 := sl.hide (sl.grown_trans (r := none) (sl.unhide G3) m4.2)
      have GR := sl.hide (sl.grown_trans (r := none) (sl.unhide hg) (sl.unhide G4))
      have S4 := sl.hide (sl.Sl.of_own m4.1)
      clear m4 C3 y0 y1 F3 FR
      cases ON with
      | none =>
        have A4 := sl.hide (sl.unhide NX).1
        go_wp2_with fail
        go_roundw
        case rel => exact ⟨none, c + 1, rfl, by go_num, sl.unhide A4, sl.unhide S4, sl.unhide GR⟩
        case measure => simp [intOf]; omega
      | some b =>
        have A4 := sl.hide (sl.unhide NX).1
        obtain ⟨d, hd, heq, hl0, hb1⟩ := ks.aft_up (sl.unhide HBT).2 ((sl.unhide NX).2 b rfl)
        have hbl : b.length = l.length := by rw [((sl.unhide A4).ok b rfl).1.1, sl.unhide HLL]
        have S4' : sl.Sl w4 r4 b := sl.unhide S4
        obtain ⟨ba, bc, rfl, hbc⟩ := S4'
        have HEQ := sl.hide heq
        have HL0 := sl.hide hl0
        have HB1 := sl.hide hb1
        have HBL := sl.hide hbl
        rcases sl.unhide HLC with h | ⟨p, po, rfl, hpl, hpc⟩
        · rw [h] at hd
          simp at hd
        rcases hbc with h | ⟨q, qo, rfl, hql, hqc⟩
        · rw [h] at hbl
          simp at hbl
          omega
        have PC := sl.hide (fun (w' : World) (g : w4.grownBy w' none) j (hj : j < l.length) => (sl.grown_trans (r := none) (sl.unhide G4) g).cell (hpc j hj) (fun e => by cases e))
        have QC := sl.hide (fun (w' : World) (g : w4.grownBy w' none) j (hj : j < b.length) => g.cell (hqc j hj) (fun e => by cases e))
        clear heq hl0 hb1 hbl hpc hqc
        go_wp2_with fail
        go_loopw [9] (fun i w5 => ∃ k : Nat, k ≤ d ∧ i = .int .i64 (k : Int) ∧ Hid (w4.grownBy w5 none)) (fun i _ => d - (intOf i).toNat)
        case atStart => exact ⟨0, Nat.zero_le _, rfl, sl.grown_refl _⟩
        case round =>
          obtain ⟨k, hk, rfl, hg5⟩ := hrel
          have hkl : k < l.length := by omega
          have hl24 : l.length ≤ 24 := by rw [sl.unhide HLL]; omega
          have c1 := sl.unhide PC _ (sl.unhide hg5) k hkl
          have c2 := sl.unhide QC _ (sl.unhide hg5) k (by rw [sl.unhide HBL]; exact hkl)
          have hi1 : (k : Int) < (l.length : Int) := by omega
          have hi2 : (k : Int) < (b.length : Int) := by rw [sl.unhide HBL]; omega
          by_cases hlt : k < d
          · have e := sl.unhide HEQ k hlt
            rw [← e] at c2
            have GD := sl.hide (sl.grown_trans (r := none) (sl.unhide hg5) (cf.grown_drew _ none))
            clear e
            generalize l.getD k 0 = y at *
            go_wp2_with fail
            go_region_held3 (fun w' => w'.cell? ⟨p, po + k, none⟩ = some (.int .i64 y) ∧ w'.cell? ⟨q, qo + k, none⟩ = some (.int .i64 y)) (go_keep) (fail)
            all_goals
              go_wp2_with fail
              go_roundw
              case rel => exact ⟨k + 1, by omega, by go_num, sl.unhide GD⟩
              case measure => simp [intOf]; omega
          · obtain rfl : k = d := by omega
            rw [sl.unhide HL0] at c1
            rw [sl.unhide HB1] at c2
            have GD := sl.hide (sl.grown_trans (r := none) (sl.unhide hg5) (cf.grown_drew _ none))
            have hne : ¬ (k : Int) = (l.length : Int) := by omega
            have hne2 : ((k : Int) == (l.length : Int)) = false := beq_eq_false_iff_ne.2 hne
            go_wp2_with fail
            go_region_held3 (fun w' => w'.cell? ⟨p, po + k, none⟩ = some (.int .i64 0) ∧ w'.cell? ⟨q, qo + k, none⟩ = some (.int .i64 1)) (go_keep) (fail)
            all_goals
              have S9 := sl.hide ((sl.unhide S4).kept (sl.unhide GD) (.inl rfl))
              have G9 := sl.hide (sl.grown_trans (r := none) (sl.unhide GR) (sl.unhide GD))
              go_wp2_with fail
              go_roundw
              case rel => exact ⟨some b, c + 1, rfl, by go_num, sl.unhide A4, sl.unhide S9, sl.unhide G9⟩
              case measure => simp [intOf]; omega

/-! ### the row's step (the guide's own frame) -/
set_option maxRecDepth 100000 in
theorem contract (H : Type) (enc : TypeId × Value → H) (W : World) (base : Nat) (args : Array Value) (ds gs : List (DataW H)) (before : List MemPlace)
    (hval : ∀ (j : Nat) t v, Tryd.f4.params[j]? = some t → args[j]? = some v → Value.okWide Tryd.prog W .any base t v)
    (hW : DataW.Whole enc Tryd.prog Tryd.f4.params.toList Rows.fnAllSpec.vars false W args.toList ds gs before) (hL : laidMetH Tryd.prog Rows.fnAllRow.laid W) :
    Calls Tryd.prog 4 args W fun e W' => ∃ v, e = .returned v ∧ Rows.fnAllSpec.post enc Tryd.prog Tryd.f4 false true false false W args v W' := by
  have hW' := hW
  obtain ⟨p, q, hA0, hV, rfl, hfz, hnd⟩ := hW
  have hA : DataW.TrodAll enc Tryd.prog W 0 (fun _ => true) true Tryd.f4.params.toList args.toList ds p := hA0
  rw [Tryd.params4] at hA hval
  obtain ⟨v0, vs0, d0, ds0, p0, q0, hargs, rfl, rfl, h0, r0⟩ := trodAll_cons hA
  obtain ⟨rfl, rfl, rfl⟩ := trodAll_nil r0
  obtain rfl : args = #[v0] := by cases args; simp_all
  obtain ⟨rfl, rfl⟩ := trodVars_none hV
  obtain ⟨a0, len0, cap0, rfl⟩ := okWide_slice Tryd.underlying22 (hval 0 22 v0 rfl rfl)
  have k0 := h0
  have lt0 : ∀ x ∈ p0, x.block < W.heap.size := by obtain ⟨m, hm⟩ := k0; exact DataW.trod_lt m _ _ _ hm
  obtain ⟨z0, w0⟩ : ∃ zs, IsRow .u8 W a0 len0 cap0 zs := by
    obtain ⟨fuel, hf⟩ := h0
    rcases open_ints Tryd.underlying22 Tryd.underlying5 (by kernel_rfl) hf with ⟨hcs, _⟩ | ⟨x, l, c, zs, hcs, _, hl, hm, hz, _, hcell, hwz⟩
    · simp [Value.cells] at hcs
      obtain ⟨rfl, rfl, rfl⟩ := hcs
      exact ⟨[], .inl ⟨rfl, rfl, rfl, rfl⟩⟩
    · simp [Value.cells] at hcs
      obtain ⟨rfl, rfl, rfl⟩ := hcs
      exact ⟨zs, .inr ⟨_, rfl, hl, hm, by simpa using hz, hcell, hwz⟩⟩
  clear hA0
  refine (walk a0 len0 cap0 z0 W w0 (table hL)).mono fun e W' ⟨he, bel⟩ => ?_
  subst he
  exact ⟨_, rfl, _, _, _, [], _, [], hW', trodAll_mk1 (shut_bool Tryd.underlying4 _), (trodAll_cons_mk (Below.trod laidOut (by kernel_rfl) (of_decide_eq_true (by kernel_rfl)) k0 bel lt0) trodAll_mk0), rfl, bel.frame _, fun h => by cases h⟩

set_option maxRecDepth 100000 in
theorem lifted (os : Os) (started : os.Started) (H : Type) (enc : TypeId × Value → H) (F : Stop.Interp) :
    ReturnsInHanded {} Tryd.checked os 4 .any ((OpenSpec.ofChange Rows.fnAllSpec).preRow enc Tryd.prog Tryd.f4 Rows.fnAllRow.domain false Rows.fnAllRow.laid) (((OpenSpec.ofChange Rows.fnAllSpec).at F).post enc Tryd.prog Tryd.f4 false true false false) := by
  refine returnsInHanded_of_row (C := Tryd.checked) (s := OpenSpec.ofChange Rows.fnAllSpec) own started (by kernel_rfl) Tryd.func4
    (witness_row_at (enc := enc) (C := Tryd.checked) false ({ World.holding Tryd.prog os ⟨#[], #[], []⟩ with heap := (World.holding Tryd.prog os ⟨#[], #[], []⟩).heap.modify 0 fun | .cells _ t frozen => .cells (Lib.deBruijn64tab.map fun (n : Nat) => Value.int .u8 n).toArray t frozen | o => o } : World) #[.slice none 0 0] rfl (by kernel_rfl) (by kernel_rfl) (by kernel_rfl)
      (OpenSpec.preRow_of_cond 8 (x := ([.nil], [], [])) (by kernel_rfl) (by kernel_rfl) (fun k hk => by cases hk) (by kernel_rfl) (laidMet_of_run' 8 (by kernel_rfl) (by kernel_rfl)))) ?_
  intro W base args ds gs before hval hW _ _ _ hL _ _
  exact contract H enc W base args ds gs before hval hW hL

theorem said : Rows.FnAllSaid :=
  OpenClaim.holds_of_cond 4 Tryd.f4 rfl rfl rfl rfl rfl rfl rfl ⟨rfl, rfl, rfl, rfl, rfl⟩ rfl rfl rfl rfl rfl (by kernel_rfl) Tryd.func4 (by kernel_rfl)
    (of_decide_eq_true (by kernel_rfl)) (by unfold Func.isWrapper; first | (rw [if_pos (by decide +kernel)]; kernel_rfl) | (rw [if_neg (by decide +kernel)]; exact ⟨rfl, rfl⟩))
    (fun os started H enc _ F => by rw [OpenClaim.pre_eq_preRow]; exact lifted os started H enc F)

theorem plain (f : FuncId) (fn : Func) (hf : Tryd.pinned.checked.prog.funcNamed "loop.example/g00123/laws.FnAll" = some f) (hfn : Tryd.pinned.checked.prog.funcs[f]? = some fn) :
    false = Tryd.pinned.checked.prog.looks [] ∧ ∀ (j : Nat) t, fn.params[j]? = some t → Tryd.pinned.checked.prog.wantsStandIn t = false := by
  obtain rfl : f = 4 := Option.some.inj ((show Tryd.prog.funcNamed "loop.example/g00123/laws.FnAll" = some 4 by kernel_rfl).symm.trans hf) |>.symm
  obtain rfl : fn = Tryd.f4 := (Option.some.inj (Tryd.func4.symm.trans hfn)).symm
  refine ⟨by kernel_rfl, fun j t ht => ?_⟩
  rw [Tryd.params4] at ht
  obtain rfl : t = 22 := by simpa using Array.mem_of_getElem? ht
  exact (show Tryd.prog.wantsStandIn 22 = false by kernel_rfl)

/-- the statement: the row's tied card -/
theorem proved : Rows.FnAllCardSaid :=
  Claim7.holds_tied_plain_at .later [] _ _ _ _ said (fun _ h => by cases h) (by kernel_rfl) (fun _ h => by cases h) fnAll_row_tie rfl ⟨rfl, rfl⟩ (by kernel_rfl) rfl plain (by kernel_rfl)
#print axioms proved
end Go.Proofs.YtapkckfgbimmcaaDoor.fnAll
