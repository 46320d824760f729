/- At every code that was drawn a formula and a proof from, what impl.Check and impl.FirstBad answer is what spec.Check and spec.FirstBad answer; where it checks, the formula has no answer, and what impl.Trim leaves is what spec.Trim leaves, checks too and is no longer; where it does not, impl.Trim leaves nothing (the law FnCheck returns true); the library's table of places lies as its text lays it (tied). -/
import Derived.Test.YtjmjgjlldkpemaaDoorCards
import Derived.Test.YtjmjgjlldkpemaaDoorTie
import Derived.Test.YtjmjgjlldkpemaaDoorJCe
import Derived.Test.YtjmjgjlldkpemaaDoorJCd
import Derived.WalkKit
import Derived.ProofKit
import Derived.OpenShut
import Derived.ShutString
import Derived.ChangeOld
import Derived.Below
import Derived.Deep.DeepHandedRow
import Derived.Lib.LaidTab
import Derived.Lib.TrailingZeros
import Derived.Stop.LaidErr
import Derived.LaidHandle
import Derived.LaidSub
namespace Go.Proofs.YtjmjgjlldkpemaaDoor.fnCheck
open Go.ChangeShapes Go.WideShapes Go.ChangeAt Go.RowKit
open Go.ChangeMaps (open_string shut_string)
set_option linter.unusedVariables false

theorem own : ownKnob Tryd.prog.godebug = none := by kernel_rfl
theorem laidOut : laidOutB Tryd.prog = true := by kernel_rfl

/-- what the walk is told of a slice of integers that came in -/
def IsRow (k : IntKind) (w : World) (a : Option Addr) (len cap : Nat) (zs : List Int) : Prop :=
  (a = none ∧ len = 0 ∧ cap = 0 ∧ zs = []) ∨
  ∃ x, a = some x ∧ len ≤ cap ∧ cap ≤ maxLen ∧ zs.length = cap ∧ (∀ i, i < zs.length → w.cell? (x.add i) = some (.int k (zs.getD i 0))) ∧ ∀ n ∈ zs, (Lit.int k n).wf = true

theorem gTab : Tryd.prog.globalNamed "math/bits.deBruijn64tab" = some 1 := by kernel_rfl
theorem gTabType : (Tryd.prog.globals[1]?).map (·.type) = some 146 := by kernel_rfl
theorem cellsTab : Tryd.prog.cellsOf 146 = 64 := by kernel_rfl
theorem cellsByte : Tryd.prog.cellsOf 5 = 1 := by kernel_rfl
/-- what the row's list gives: the table's cells hold its numbers -/
theorem table {W : World} (h : laidMetH Tryd.prog Rows.fnCheckRow.laid W) : srt.Tab W := by
  have t : Lib.TabIs Tryd.prog W "math/bits.deBruijn64tab" .u8 (Lib.deBruijn64tab.map fun (n : Nat) => (n : Int)) :=
    Lib.tabIs_of_head (rest := []) gTab gTabType Tryd.underlying146 Tryd.underlying5 cellsByte cellsTab h
  intro j hj
  have c := t.cell gTab j (by rw [List.length_map]; exact hj)
  rw [c]
  congr 2
  rw [List.getD, List.getD, List.getElem?_map]
  cases Lib.deBruijn64tab[j]? <;> rfl

/-! ### the walk -/
set_option maxRecDepth 100000 in
set_option maxHeartbeats 8000000 in
theorem walk (a0 : Option Addr) (len0 cap0 : Nat) (z0 : List Int) (w : World) (w0 : IsRow .u8 w a0 len0 cap0 z0) (hT : srt.Tab w) :
    Calls Tryd.prog 3 #[.slice a0 len0 cap0] w fun e w' => e = .returned (.bool true) ∧ Below w.heap.size w w' := by
  have hB := draw.of_rowB w0
  have hm : len0 ≤ 9223372036854775807 := by
    rcases w0 with ⟨_, h, _, _⟩ | ⟨_, _, h1, h2, _⟩
    · omega
    · unfold maxLen at h2
      omega
  clear w0
  by_cases hbig : 1048576 < len0
  · have C := sl.hide (draw.big a0 len0 cap0 w hm)
    rw [decide_eq_true hbig] at C
    clear hT
    go_enter Tryd.func3, Tryd.ntmps3
    go_wp2_with fail
    refine (sl.unhide C).mono ?_; rintro e w' ⟨rfl, rfl⟩
    go_wp2_with fail
    go_ret
    exact ⟨rfl, Below.refl _ _⟩
  have C := sl.hide (draw.big a0 len0 cap0 w hm)
  rw [decide_eq_false hbig] at C
  have HB := sl.hide hB
  have TT := sl.hide hT
  have hlen : len0 ≤ 1048576 := by omega
  clear hB hT hbig
  go_enter Tryd.func3, Tryd.ntmps3
  go_wp2_with fail
  refine (sl.unhide C).mono ?_; rintro e w' ⟨rfl, hw⟩; have hw' := hw.symm; clear hw; subst hw'
  clear C hm
  go_wp2_with fail
  refine (dr.drawCheck a0 len0 cap0 _ hlen (sl.unhide HB)).mono ?_; rintro e w1 ⟨n, v, u, LL, PP, lo, rfl, hn25, ht, htP, o1, oP, g1⟩
  obtain ⟨va, vc, rfl⟩ := o1.len
  obtain ⟨pa, pc, rfl⟩ := oP.len
  have gA := World.grownBy_alloc w1 (.cells #[.int .i64 n, .slice va LL.length vc] 26) none
  have F1 := sl.hide (cf.Box.new 26 w1 (.int .i64 n) (.slice va LL.length vc))
  have G1 := sl.hide (sl.grown_trans (r := none) g1 gA)
  have O1 := sl.hide (o1.kept gA)
  have P1 := sl.hide (oP.kept gA)
  have HI := sl.hide gA.size
  obtain ⟨W1, hW1⟩ : ∃ W1, W1 = w1.alloc (.cells #[.int .i64 n, .slice va LL.length vc] 26) := ⟨_, rfl⟩
  rw [← hW1] at F1 G1 O1 P1 HI
  have T1 := sl.hide ((sl.unhide TT).kept (sl.unhide G1))
  clear g1 o1 oP gA TT HB
  have z0 := (sl.unhide F1).c0
  have z1 := (sl.unhide F1).c1
  have CI := sl.hide (fun (w' : World) (g : W1.grownBy w' none) => xe.implCheck (.slice va LL.length vc) (.slice pa PP.length pc) n LL PP w' ((sl.unhide T1).kept g) ht htP ((sl.unhide O1).kept g).sls ((sl.unhide P1).kept g).sls)
  have CS := sl.hide (fun (w' : World) (g : W1.grownBy w' none) => xe.specCheck (.slice va LL.length vc) (.slice pa PP.length pc) n LL PP _ _ _ _ w' ht htP ((sl.unhide O1).kept g) (Nat.le_trans (sl.unhide HI) g.size) ((sl.unhide P1).kept g))
  have BI := sl.hide (fun (w' : World) (g : W1.grownBy w' none) => xe.implFirstBad (.slice va LL.length vc) (.slice pa PP.length pc) n LL PP w' ((sl.unhide T1).kept g) ht htP ((sl.unhide O1).kept g).sls ((sl.unhide P1).kept g).sls)
  have BS := sl.hide (fun (w' : World) (g : W1.grownBy w' none) => xe.specFirstBad (.slice va LL.length vc) (.slice pa PP.length pc) n LL PP _ _ _ _ w' ht htP ((sl.unhide O1).kept g) (Nat.le_trans (sl.unhide HI) g.size) ((sl.unhide P1).kept g))
  have TI := fun (w' : World) (g : W1.grownBy w' none) => xt.implTrim (.slice va LL.length vc) (.slice pa PP.length pc) n LL PP _ _ w' ((sl.unhide T1).kept g) ht htP ((sl.unhide O1).kept g).sls ((sl.unhide P1).kept g)
  have TS := fun (w' : World) (g : W1.grownBy w' none) => xt.specTrim (.slice va LL.length vc) (.slice pa PP.length pc) n LL PP _ _ _ _ w' ht htP ((sl.unhide O1).kept g) (Nat.le_trans (sl.unhide HI) g.size) ((sl.unhide P1).kept g)
  have CV := fun (w' : World) (g : W1.grownBy w' none) => lq.specSolve (.slice va LL.length vc) n LL w' ht ((sl.unhide O1).kept g).sls
  have FN := fun h => xt.trim_no (n := n) (LL := LL) (PP := PP) h
  have FY := fun h => xt.trim_yes (n := n) (LL := LL) (PP := PP) h
  unfold lq.FromE at CV
  generalize xt.trimB n LL PP = R at *
  obtain ⟨R, b⟩ := R
  generalize xe.badB n LL PP = bb at BI BS
  cases hck : xe.checkB n LL PP
  · have e := FN hck
    obtain ⟨rfl, rfl⟩ : R = [] ∧ b = false := ⟨congrArg Prod.fst e, congrArg Prod.snd e⟩
    rw [hck] at CI CS
    have TI' := sl.hide TI
    clear FN FY e TI TS CV hck
    go_wp2_with fail
    rw [← hW1]
    refine (sl.unhide CI W1 (sl.grown_refl W1)).mono ?_; rintro e w2 ⟨rfl, g2⟩
    clear hW1 z0 z1
    have K2 := sl.hide g2
    have F2 := sl.hide ((sl.unhide F1).kept g2)
    clear g2
    have z0 := (sl.unhide F2).c0
    have z1 := (sl.unhide F2).c1
    have GX := sl.hide (cf.grown_drew w2 none)
    have SK : Hid (∀ wz, w2.grownBy wz none → wz.cell? ⟨w1.heap.size, 0, none⟩ = some (.int .i64 n) ∧ wz.cell? ⟨w1.heap.size, 1, none⟩ = some (.slice va LL.length vc)) := fun wz g => ⟨((sl.unhide F2).kept g).c0, ((sl.unhide F2).kept g).c1⟩
    have DS := sl.hide (fun wz (g : w2.grownBy wz none) => sl.unhide CS wz (sl.grown_trans (r := none) (sl.unhide K2) g))
    have DB := sl.hide (fun wz (g : w2.grownBy wz none) => sl.unhide BI wz (sl.grown_trans (r := none) (sl.unhide K2) g))
    have DX := sl.hide (fun wz (g : w2.grownBy wz none) => sl.unhide BS wz (sl.grown_trans (r := none) (sl.unhide K2) g))
    clear CS BI BS
    go_wp2_with fail
    go_region_held3 (fun w' => w'.cell? ⟨w1.heap.size, 0, none⟩ = some (.int .i64 n) ∧ w'.cell? ⟨w1.heap.size, 1, none⟩ = some (.slice va LL.length vc)) (first | exact sl.unhide SK _ (sl.unhide GX) | go_keep) (first
      | (go_at_call 9; refine (sl.unhide DS _ (sl.unhide GX)).mono ?_; rintro e w6 ⟨rfl, g6⟩; replace GX := sl.hide (sl.grown_trans (r := none) (sl.unhide GX) g6); clear g6)
      | (go_at_call 10; refine (sl.unhide DB _ (sl.unhide GX)).mono ?_; rintro e w7 ⟨rfl, g7⟩; replace GX := sl.hide (sl.grown_trans (r := none) (sl.unhide GX) g7); clear g7)
      | (go_at_call 11; refine (sl.unhide DX _ (sl.unhide GX)).mono ?_; rintro e w8 ⟨rfl, g8⟩; replace GX := sl.hide (sl.grown_trans (r := none) (sl.unhide GX) g8); clear g8))
    all_goals
      obtain ⟨y0, y1⟩ := sl.unhide SK _ (sl.unhide GX)
      have C9 := sl.hide (sl.unhide TI' _ (sl.grown_trans (r := none) (sl.unhide K2) (sl.unhide GX)))
      clear SK DS DB DX TI' F2 z0 z1
      go_wp2_with fail
      refine (sl.unhide C9).mono ?_; rintro e w9 ⟨u9, rfl, o9, g9⟩
      obtain ⟨ra, rc, rfl⟩ := o9.len
      have K9 := sl.hide (sl.grown_trans (r := none) (sl.grown_trans (r := none) (sl.unhide K2) (sl.unhide GX)) g9)
      clear o9 g9 C9 y0 y1
      go_wp2_with fail
      go_ret
      exact ⟨rfl, sl.below_of (sl.grown_trans (r := none) (sl.unhide G1) (sl.unhide K9))⟩
  · obtain ⟨eb, hcR, hlen2, htR, hsn⟩ := FY hck
    have eb' : b = true := eb
    subst eb'
    have hcR' : xe.checkB n LL R = true := hcR
    have hle : R.length ≤ PP.length := hlen2
    have htR' : css.tot R ≤ 1048576 := Nat.le_trans htR htP
    have hlR : R.length ≤ 1048576 := Nat.le_trans (css.tot_len R) htR'
    have hin : Hid (∀ i, (R.getD i []).length ≤ 1048576) := fun i => Nat.le_trans (css.tot_in R i) htR'
    have CK := sl.hide (fun (w' : World) (g : W1.grownBy w' none) u (h : css.Sls w' u R) => xe.implCheck (.slice va LL.length vc) u n LL R w' ((sl.unhide T1).kept g) ht htR' ((sl.unhide O1).kept g).sls h)
    have hlP : PP.length ≤ 1048576 := Nat.le_trans (css.tot_len PP) htP
    rw [hcR'] at CK
    rw [hck] at CI CS
    rw [hsn] at CV
    have TI' := sl.hide TI
    have TS' := sl.hide TS
    have CV' := sl.hide CV
    clear FN FY TI TS CV hck eb hcR hcR' hlen2 htR htR' hsn
    go_wp2_with fail
    rw [← hW1]
    refine (sl.unhide CI W1 (sl.grown_refl W1)).mono ?_; rintro e w2 ⟨rfl, g2⟩
    clear hW1 z0 z1
    have K2 := sl.hide g2
    have F2 := sl.hide ((sl.unhide F1).kept g2)
    clear g2
    have z0 := (sl.unhide F2).c0
    have z1 := (sl.unhide F2).c1
    have GX := sl.hide (cf.grown_drew w2 none)
    have SK : Hid (∀ wz, w2.grownBy wz none → wz.cell? ⟨w1.heap.size, 0, none⟩ = some (.int .i64 n) ∧ wz.cell? ⟨w1.heap.size, 1, none⟩ = some (.slice va LL.length vc)) := fun wz g => ⟨((sl.unhide F2).kept g).c0, ((sl.unhide F2).kept g).c1⟩
    have DS := sl.hide (fun wz (g : w2.grownBy wz none) => sl.unhide CS wz (sl.grown_trans (r := none) (sl.unhide K2) g))
    have DB := sl.hide (fun wz (g : w2.grownBy wz none) => sl.unhide BI wz (sl.grown_trans (r := none) (sl.unhide K2) g))
    have DX := sl.hide (fun wz (g : w2.grownBy wz none) => sl.unhide BS wz (sl.grown_trans (r := none) (sl.unhide K2) g))
    clear CS BI BS
    go_wp2_with fail
    go_region_held3 (fun w' => w'.cell? ⟨w1.heap.size, 0, none⟩ = some (.int .i64 n) ∧ w'.cell? ⟨w1.heap.size, 1, none⟩ = some (.slice va LL.length vc)) (first | exact sl.unhide SK _ (sl.unhide GX) | go_keep) (first
      | (go_at_call 9; refine (sl.unhide DS _ (sl.unhide GX)).mono ?_; rintro e w6 ⟨rfl, g6⟩; replace GX := sl.hide (sl.grown_trans (r := none) (sl.unhide GX) g6); clear g6)
      | (go_at_call 10; refine (sl.unhide DB _ (sl.unhide GX)).mono ?_; rintro e w7 ⟨rfl, g7⟩; replace GX := sl.hide (sl.grown_trans (r := none) (sl.unhide GX) g7); clear g7)
      | (go_at_call 11; refine (sl.unhide DX _ (sl.unhide GX)).mono ?_; rintro e w8 ⟨rfl, g8⟩; replace GX := sl.hide (sl.grown_trans (r := none) (sl.unhide GX) g8); clear g8))
    all_goals
      obtain ⟨y0, y1⟩ := sl.unhide SK _ (sl.unhide GX)
      have KX := sl.hide (sl.grown_trans (r := none) (sl.unhide K2) (sl.unhide GX))
      have C9 := sl.hide (sl.unhide TI' _ (sl.unhide KX))
      clear SK DS DB DX TI' F2 z0 z1
      go_wp2_with fail
      refine (sl.unhide C9).mono ?_; rintro e w9 ⟨u9, rfl, o9, g9⟩
      obtain ⟨ra, rc, rfl⟩ := o9.len
      have K9 := sl.hide (sl.grown_trans (r := none) (sl.unhide KX) g9)
      have R9 := sl.hide o9
      clear o9 g9 C9 y0 y1
      have F9 := sl.hide ((sl.unhide F1).kept (sl.unhide K9))
      have z0 := (sl.unhide F9).c0
      have z1 := (sl.unhide F9).c1
      have C10 := sl.hide (sl.unhide CV' w9 (sl.unhide K9))
      clear CV'
      go_wp2_with fail
      refine (sl.unhide C10).mono ?_; rintro e w10 ⟨rv, rfl, m10⟩
      have K10 := sl.hide (sl.grown_trans (r := none) (sl.unhide K9) m10.2)
      have R10 := sl.hide ((sl.unhide R9).kept m10.2)
      obtain ⟨rva, rvc, rfl, _⟩ := sl.Sl.of_own m10.1
      have F10 := sl.hide ((sl.unhide F9).kept m10.2)
      clear m10 C10 R9 F9 z0 z1 K9
      have z0 := (sl.unhide F10).c0
      have z1 := (sl.unhide F10).c1
      have C11 := sl.hide (sl.unhide TS' w10 (sl.unhide K10))
      clear TS'
      go_wp2_with fail
      refine (sl.unhide C11).mono ?_; rintro e w11 ⟨u11, rfl, o11, g11⟩
      obtain ⟨qa, qc, rfl⟩ := o11.len
      have K11 := sl.hide (sl.grown_trans (r := none) (sl.unhide K10) g11)
      have R11 := sl.hide ((sl.unhide R10).kept g11)
      have Q11 := sl.hide o11
      have F11 := sl.hide ((sl.unhide F10).kept g11)
      clear o11 g11 C11 R10 F10 z0 z1 K10
      have z0 := (sl.unhide F11).c0
      have z1 := (sl.unhide F11).c1
      have C12 := sl.hide (sl.unhide CK w11 (sl.unhide K11) _ (sl.unhide R11).sls)
      clear CK
      go_wp2_with fail
      refine (sl.unhide C12).mono ?_; rintro e w12 ⟨rfl, g12⟩
      have K12 := sl.hide (sl.grown_trans (r := none) (sl.unhide K11) g12)
      have R12 := sl.hide ((sl.unhide R11).kept g12)
      have Q12 := sl.hide ((sl.unhide Q11).kept g12)
      clear g12 C12 R11 Q11 F11 z0 z1 K11
      go_wp2_with fail
      refine (df.sameList _ _ R _ hlR (sl.unhide hin) (sl.unhide R12).sls (sl.unhide Q12).sls).mono ?_; rintro e w13 ⟨rfl, g13⟩
      have K13 := sl.hide (sl.grown_trans (r := none) (sl.unhide K12) g13)
      clear g13 R12 Q12 K12
      go_wp2_with fail
      go_ret
      exact ⟨rfl, sl.below_of (sl.grown_trans (r := none) (sl.unhide G1) (sl.unhide K13))⟩

/-! ### the row's step (the guide's own frame) -/
set_option maxRecDepth 100000 in
theorem contract (H : Type) (enc : TypeId × Value → H) (W : World) (base : Nat) (args : Array Value) (ds gs : List (DataW H)) (before : List MemPlace)
    (hval : ∀ (j : Nat) t v, Tryd.f3.params[j]? = some t → args[j]? = some v → Value.okWide Tryd.prog W .any base t v)
    (hW : DataW.Whole enc Tryd.prog Tryd.f3.params.toList Rows.fnCheckSpec.vars false W args.toList ds gs before) (hL : laidMetH Tryd.prog Rows.fnCheckRow.laid W) :
    Calls Tryd.prog 3 args W fun e W' => ∃ v, e = .returned v ∧ Rows.fnCheckSpec.post enc Tryd.prog Tryd.f3 false true false false W args v W' := by
  have hW' := hW
  obtain ⟨p, q, hA0, hV, rfl, hfz, hnd⟩ := hW
  have hA : DataW.TrodAll enc Tryd.prog W 0 (fun _ => true) true Tryd.f3.params.toList args.toList ds p := hA0
  rw [Tryd.params3] at hA hval
  obtain ⟨v0, vs0, d0, ds0, p0, q0, hargs, rfl, rfl, h0, r0⟩ := trodAll_cons hA
  obtain ⟨rfl, rfl, rfl⟩ := trodAll_nil r0
  obtain rfl : args = #[v0] := by cases args; simp_all
  obtain ⟨rfl, rfl⟩ := trodVars_none hV
  obtain ⟨a0, len0, cap0, rfl⟩ := okWide_slice Tryd.underlying22 (hval 0 22 v0 rfl rfl)
  have k0 := h0
  have lt0 : ∀ x ∈ p0, x.block < W.heap.size := by obtain ⟨m, hm⟩ := k0; exact DataW.trod_lt m _ _ _ hm
  obtain ⟨z0, w0⟩ : ∃ zs, IsRow .u8 W a0 len0 cap0 zs := by
    obtain ⟨fuel, hf⟩ := h0
    rcases open_ints Tryd.underlying22 Tryd.underlying5 (by kernel_rfl) hf with ⟨hcs, _⟩ | ⟨x, l, c, zs, hcs, _, hl, hm, hz, _, hcell, hwz⟩
    · simp [Value.cells] at hcs
      obtain ⟨rfl, rfl, rfl⟩ := hcs
      exact ⟨[], .inl ⟨rfl, rfl, rfl, rfl⟩⟩
    · simp [Value.cells] at hcs
      obtain ⟨rfl, rfl, rfl⟩ := hcs
      exact ⟨zs, .inr ⟨_, rfl, hl, hm, by simpa using hz, hcell, hwz⟩⟩
  clear hA0
  refine (walk a0 len0 cap0 z0 W w0 (table hL)).mono fun e W' ⟨he, bel⟩ => ?_
  subst he
  exact ⟨_, rfl, _, _, _, [], _, [], hW', trodAll_mk1 (shut_bool Tryd.underlying4 _), (trodAll_cons_mk (Below.trod laidOut (by kernel_rfl) (of_decide_eq_true (by kernel_rfl)) k0 bel lt0) trodAll_mk0), rfl, bel.frame _, fun h => by cases h⟩

set_option maxRecDepth 100000 in
theorem lifted (os : Os) (started : os.Started) (H : Type) (enc : TypeId × Value → H) (F : Stop.Interp) :
    ReturnsInHanded {} Tryd.checked os 3 .any ((OpenSpec.ofChange Rows.fnCheckSpec).preRow enc Tryd.prog Tryd.f3 Rows.fnCheckRow.domain false Rows.fnCheckRow.laid) (((OpenSpec.ofChange Rows.fnCheckSpec).at F).post enc Tryd.prog Tryd.f3 false true false false) := by
  refine returnsInHanded_of_row (C := Tryd.checked) (s := OpenSpec.ofChange Rows.fnCheckSpec) own started (by kernel_rfl) Tryd.func3
    (witness_row_at (enc := enc) (C := Tryd.checked) false ({ World.holding Tryd.prog os ⟨#[], #[], []⟩ with heap := (World.holding Tryd.prog os ⟨#[], #[], []⟩).heap.modify 1 fun | .cells _ t frozen => .cells (Lib.deBruijn64tab.map fun (n : Nat) => Value.int .u8 n).toArray t frozen | o => o } : World) #[.slice none 0 0] rfl (by kernel_rfl) (by kernel_rfl) (by kernel_rfl)
      (OpenSpec.preRow_of_cond 8 (x := ([.nil], [], [])) (by kernel_rfl) (by kernel_rfl) (fun k hk => by cases hk) (by kernel_rfl) (laidMet_of_run' 8 (by kernel_rfl) (by kernel_rfl)))) ?_
  intro W base args ds gs before hval hW _ _ _ hL _ _
  exact contract H enc W base args ds gs before hval hW hL

theorem said : Rows.FnCheckSaid :=
  OpenClaim.holds_of_cond 3 Tryd.f3 rfl rfl rfl rfl rfl rfl rfl ⟨rfl, rfl, rfl, rfl, rfl⟩ rfl rfl rfl rfl rfl (by kernel_rfl) Tryd.func3 (by kernel_rfl)
    (of_decide_eq_true (by kernel_rfl)) (by unfold Func.isWrapper; first | (rw [if_pos (by decide +kernel)]; kernel_rfl) | (rw [if_neg (by decide +kernel)]; exact ⟨rfl, rfl⟩))
    (fun os started H enc _ F => by rw [OpenClaim.pre_eq_preRow]; exact lifted os started H enc F)

theorem plain (f : FuncId) (fn : Func) (hf : Tryd.pinned.checked.prog.funcNamed "loop.example/g00123/laws.FnCheck" = some f) (hfn : Tryd.pinned.checked.prog.funcs[f]? = some fn) :
    false = Tryd.pinned.checked.prog.looks [] ∧ ∀ (j : Nat) t, fn.params[j]? = some t → Tryd.pinned.checked.prog.wantsStandIn t = false := by
  obtain rfl : f = 3 := Option.some.inj ((show Tryd.prog.funcNamed "loop.example/g00123/laws.FnCheck" = some 3 by kernel_rfl).symm.trans hf) |>.symm
  obtain rfl : fn = Tryd.f3 := (Option.some.inj (Tryd.func3.symm.trans hfn)).symm
  refine ⟨by kernel_rfl, fun j t ht => ?_⟩
  rw [Tryd.params3] at ht
  obtain rfl : t = 22 := by simpa using Array.mem_of_getElem? ht
  exact (show Tryd.prog.wantsStandIn 22 = false by kernel_rfl)

/-- the statement: the row's tied card -/
theorem proved : Rows.FnCheckCardSaid :=
  Claim7.holds_tied_plain_at .later [] _ _ _ _ said (fun _ h => by cases h) (by kernel_rfl) (fun _ h => by cases h) fnCheck_row_tie rfl ⟨rfl, rfl⟩ (by kernel_rfl) rfl plain (by kernel_rfl)
#print axioms proved
end Go.Proofs.YtjmjgjlldkpemaaDoor.fnCheck
