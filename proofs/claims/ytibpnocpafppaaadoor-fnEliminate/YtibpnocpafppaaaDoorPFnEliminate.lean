/- At every code that was drawn a formula and a small number from, impl.Eliminate and impl.Project answer as spec.Eliminate and spec.Project; where a variable is taken out it is in no clause, and what comes out is true at twice as many assignments as Project counts (the law FnEliminate returns true); the library's table of places lies as its text lays it (tied). -/
import Derived.Test.YtibpnocpafppaaaDoorCards
import Derived.Test.YtibpnocpafppaaaDoorTie
import Derived.Test.YtibpnocpafppaaaDoorJXEw
import Derived.Test.YtibpnocpafppaaaDoorJXEv
import Derived.Test.YtibpnocpafppaaaDoorJXDf
import Derived.Test.YtibpnocpafppaaaDoorJXDCl
import Derived.WalkKit
import Derived.ProofKit
import Derived.OpenShut
import Derived.ShutString
import Derived.ChangeOld
import Derived.Below
import Derived.Deep.DeepHandedRow
import Derived.Lib.LaidTab
import Derived.Lib.TrailingZeros
import Derived.Stop.LaidErr
import Derived.Stop.LaidTwo
import Derived.LaidHandle
import Derived.LaidSub
namespace Go.Proofs.YtibpnocpafppaaaDoor.fnEliminate
open Go.ChangeShapes Go.WideShapes Go.ChangeAt Go.RowKit
open Go.ChangeMaps (open_string shut_string)
set_option linter.unusedVariables false

theorem own : ownKnob Tryd.prog.godebug = none := by kernel_rfl
theorem laidOut : laidOutB Tryd.prog = true := by kernel_rfl

/-- what the walk is told of a slice of integers that came in -/
def IsRow (k : IntKind) (w : World) (a : Option Addr) (len cap : Nat) (zs : List Int) : Prop :=
  (a = none ∧ len = 0 ∧ cap = 0 ∧ zs = []) ∨
  ∃ x, a = some x ∧ len ≤ cap ∧ cap ≤ maxLen ∧ zs.length = cap ∧ (∀ i, i < zs.length → w.cell? (x.add i) = some (.int k (zs.getD i 0))) ∧ ∀ n ∈ zs, (Lit.int k n).wf = true

theorem gTab : Tryd.prog.globalNamed "math/bits.deBruijn64tab" = some 0 := by kernel_rfl
theorem gTabType : (Tryd.prog.globals[0]?).map (·.type) = some 132 := by kernel_rfl
theorem cellsTab : Tryd.prog.cellsOf 132 = 64 := by kernel_rfl
theorem cellsByte : Tryd.prog.cellsOf 5 = 1 := by kernel_rfl
/-- what the row's list gives: the table's cells hold its numbers -/
theorem table {W : World} (h : laidMetH Tryd.prog Rows.fnEliminateRow.laid W) : srt.Tab W := by
  have t : Lib.TabIs Tryd.prog W "math/bits.deBruijn64tab" .u8 (Lib.deBruijn64tab.map fun (n : Nat) => (n : Int)) :=
    Lib.tabIs_of_head (rest := []) gTab gTabType Tryd.underlying132 Tryd.underlying5 cellsByte cellsTab h
  intro j hj
  have c := t.cell gTab j (by rw [List.length_map]; exact hj)
  rw [c]
  congr 2
  rw [List.getD, List.getD, List.getElem?_map]
  cases Lib.deBruijn64tab[j]? <;> rfl

/-! ### the walk -/
set_option maxRecDepth 100000 in
set_option maxHeartbeats 8000000 in
theorem walk (a0 : Option Addr) (len0 cap0 : Nat) (z0 : List Int) (w : World) (w0 : IsRow .u8 w a0 len0 cap0 z0) (hT : srt.Tab w) :
    Calls Tryd.prog 4 #[.slice a0 len0 cap0] w fun e w' => e = .returned (.bool true) ∧ Below w.heap.size w w' := by
  have hB := draw.of_rowB w0
  have hm : len0 ≤ 9223372036854775807 := by
    rcases w0 with ⟨_, h, _, _⟩ | ⟨_, _, h1, h2, _⟩
    · omega
    · unfold maxLen at h2
      omega
  clear w0
  by_cases hbig : 1048576 < len0
  · have C := sl.hide (draw.big a0 len0 cap0 w hm)
    rw [decide_eq_true hbig] at C
    clear hT
    go_enter Tryd.func4, Tryd.ntmps4
    go_wp2_with fail
    refine (sl.unhide C).mono ?_; rintro e w' ⟨rfl, rfl⟩
    go_wp2_with fail
    go_ret
    exact ⟨rfl, Below.refl _ _⟩
  have C := sl.hide (draw.big a0 len0 cap0 w hm)
  rw [decide_eq_false hbig] at C
  have HB := sl.hide hB
  have TT := sl.hide hT; clear hT
  have hlen : len0 ≤ 1048576 := by omega
  clear hB hbig
  go_enter Tryd.func4, Tryd.ntmps4
  go_wp2_with fail
  refine (sl.unhide C).mono ?_; rintro e w' ⟨rfl, hw⟩; have hw' := hw.symm; clear hw; subst hw'
  clear C hm
  go_wp2_with fail
  refine (ev.drawEliminate a0 len0 cap0 _ hlen (sl.unhide HB)).mono ?_; rintro e w1 ⟨n, v, x, LL, rfl, hx, bd, o1, g1⟩
  obtain ⟨va, vc, rfl⟩ := o1.len
  have s1 := sl.hide (g1).size
  have B1 := sl.hide (sl.below_of (g1))
  have FA1 := sl.hide o1
  clear o1 g1
  have s2 := sl.hide (World.grownBy_alloc w1 (.cells #[(.int .i64 n), (.slice va LL.length vc)] 26) none).size
  have B2 := sl.hide (sl.below_none (sl.unhide B1) (World.grownBy_alloc w1 (.cells #[(.int .i64 n), (.slice va LL.length vc)] 26) none))
  have FA2 := sl.hide ((sl.unhide FA1).kept (World.grownBy_alloc w1 (.cells #[(.int .i64 n), (.slice va LL.length vc)] 26) none))
  have q2 : Hid ((w1.alloc (.cells #[(.int .i64 n), (.slice va LL.length vc)] 26)).heap.size = w1.heap.size + 1) := World.size_alloc ..
  have F2 := sl.hide (cf.Box.new 26 w1 (.int .i64 n) (.slice va LL.length vc))
  clear B1 FA1
  have hn1 : css.tot LL ≤ 1048576 := Nat.le_trans (df.tot_bd bd (Nat.le_refl _)) (by decide)
  obtain ⟨N, b, R, P, TO, FW⟩ := et.toldAll n x LL hn1
  have hl1 : R.length ≤ 1048576 := Nat.le_trans (css.tot_len R) TO.t
  have hi1 := sl.hide (fun i => Nat.le_trans (css.tot_in R i) TO.t)
  have TD := sl.hide TO
  have FH := sl.hide FW
  have HXB := sl.hide hx
  clear TO FW bd hn1 hx
  have zF0 := (sl.unhide F2).c0
  have zF1 := (sl.unhide F2).c1
  go_wp2_with fail
  refine ((sl.unhide TD).ci _ _ ((sl.unhide TT).below (sl.unhide B2)) (sl.unhide FA2).sls).mono ?_; rintro e w3 ⟨u3, rfl, o3, g3⟩
  clear zF0 zF1
  obtain ⟨a3_, c3_, rfl⟩ := o3.len
  have s3 := sl.hide (g3).size
  have B3 := sl.hide (sl.below_none (sl.unhide B2) (g3))
  have FA3 := sl.hide ((sl.unhide FA2).kept (g3))
  have F3 := sl.hide ((sl.unhide F2).kept (g3))
  have GA3 := sl.hide o3
  clear o3 g3 B2 FA2 F2
  have s4 := sl.hide (World.grownBy_alloc w3 (.cells #[(.int .i64 N), (.slice a3_ R.length c3_)] 26) none).size
  have B4 := sl.hide (sl.below_none (sl.unhide B3) (World.grownBy_alloc w3 (.cells #[(.int .i64 N), (.slice a3_ R.length c3_)] 26) none))
  have FA4 := sl.hide ((sl.unhide FA3).kept (World.grownBy_alloc w3 (.cells #[(.int .i64 N), (.slice a3_ R.length c3_)] 26) none))
  have GA4 := sl.hide ((sl.unhide GA3).kept (World.grownBy_alloc w3 (.cells #[(.int .i64 N), (.slice a3_ R.length c3_)] 26) none))
  have F4 := sl.hide ((sl.unhide F3).kept (World.grownBy_alloc w3 (.cells #[(.int .i64 N), (.slice a3_ R.length c3_)] 26) none))
  have q4 : Hid ((w3.alloc (.cells #[(.int .i64 N), (.slice a3_ R.length c3_)] 26)).heap.size = w3.heap.size + 1) := World.size_alloc ..
  have G4 := sl.hide (cf.Box.new 26 w3 (.int .i64 N) (.slice a3_ R.length c3_))
  clear B3 FA3 GA3 F3
  have zF0 := (sl.unhide F4).c0
  have zF1 := (sl.unhide F4).c1
  go_wp2_with fail
  refine ((sl.unhide TD).cs _ _ (sl.unhide FA4).sls).mono ?_; rintro e w5 ⟨u5, rfl, o5, g5⟩
  clear zF0 zF1
  obtain ⟨a5_, c5_, rfl⟩ := o5.len
  have s5 := sl.hide (g5).size
  have B5 := sl.hide (sl.below_none (sl.unhide B4) (g5))
  have FA5 := sl.hide ((sl.unhide FA4).kept (g5))
  have GA5 := sl.hide ((sl.unhide GA4).kept (g5))
  have F5 := sl.hide ((sl.unhide F4).kept (g5))
  have G5 := sl.hide ((sl.unhide G4).kept (g5))
  have QA5 := sl.hide o5
  clear o5 g5 B4 FA4 GA4 F4 G4
  have s6 := sl.hide (World.grownBy_alloc w5 (.cells #[(.int .i64 N), (.slice a5_ R.length c5_)] 26) none).size
  have B6 := sl.hide (sl.below_none (sl.unhide B5) (World.grownBy_alloc w5 (.cells #[(.int .i64 N), (.slice a5_ R.length c5_)] 26) none))
  have FA6 := sl.hide ((sl.unhide FA5).kept (World.grownBy_alloc w5 (.cells #[(.int .i64 N), (.slice a5_ R.length c5_)] 26) none))
  have GA6 := sl.hide ((sl.unhide GA5).kept (World.grownBy_alloc w5 (.cells #[(.int .i64 N), (.slice a5_ R.length c5_)] 26) none))
  have QA6 := sl.hide ((sl.unhide QA5).kept (World.grownBy_alloc w5 (.cells #[(.int .i64 N), (.slice a5_ R.length c5_)] 26) none))
  have F6 := sl.hide ((sl.unhide F5).kept (World.grownBy_alloc w5 (.cells #[(.int .i64 N), (.slice a5_ R.length c5_)] 26) none))
  have G6 := sl.hide ((sl.unhide G5).kept (World.grownBy_alloc w5 (.cells #[(.int .i64 N), (.slice a5_ R.length c5_)] 26) none))
  have q6 : Hid ((w5.alloc (.cells #[(.int .i64 N), (.slice a5_ R.length c5_)] 26)).heap.size = w5.heap.size + 1) := World.size_alloc ..
  have Q6 := sl.hide (cf.Box.new 26 w5 (.int .i64 N) (.slice a5_ R.length c5_))
  clear B5 FA5 GA5 QA5 F5 G5
  have SZ := sl.hide (show True from trivial)
  clear SZ
  obtain ⟨W, hW⟩ : ∃ W, W = (w5.alloc (.cells #[(.int .i64 N), (.slice a5_ R.length c5_)] 26)) := ⟨_, rfl⟩
  have BW : Hid (Below w.heap.size w W) := by show Below _ _ _; rw [hW]; exact sl.unhide B6
  have FW1 : Hid (css.Sls W (.slice va LL.length vc) LL) := by show css.Sls _ _ _; rw [hW]; exact (sl.unhide FA6).sls
  have GW1 : Hid (css.Sls W (.slice a3_ R.length c3_) R) := by show css.Sls _ _ _; rw [hW]; exact (sl.unhide GA6).sls
  have QW1 : Hid (css.Sls W (.slice a5_ R.length c5_) R) := by show css.Sls _ _ _; rw [hW]; exact (sl.unhide QA6).sls
  obtain ⟨fb, hfb⟩ : ∃ fb, fb = w1.heap.size := ⟨_, rfl⟩
  obtain ⟨gb, hgb⟩ : ∃ gb, gb = w3.heap.size := ⟨_, rfl⟩
  obtain ⟨qb, hqb⟩ : ∃ qb, qb = w5.heap.size := ⟨_, rfl⟩
  have FB : Hid (cf.Box 26 W fb (.int .i64 n) (.slice va LL.length vc)) := by show cf.Box _ _ _ _ _; rw [hW, hfb]; exact sl.unhide F6
  have GB : Hid (cf.Box 26 W gb (.int .i64 N) (.slice a3_ R.length c3_)) := by show cf.Box _ _ _ _ _; rw [hW, hgb]; exact sl.unhide G6
  have QB : Hid (cf.Box 26 W qb (.int .i64 N) (.slice a5_ R.length c5_)) := by show cf.Box _ _ _ _ _; rw [hW, hqb]; exact sl.unhide Q6
  clear FA6 GA6 QA6 F6 G6 Q6 B6
  have z0 := (sl.unhide FB).c0
  have z1 := (sl.unhide FB).c1
  have z2 := (sl.unhide GB).c0
  have z3 := (sl.unhide GB).c1
  have z4 := (sl.unhide QB).c1
  skip
  rw [hW, hfb] at z0 z1
  rw [hW, hgb] at z2 z3
  rw [hW, hqb] at z4
  go_wp2_with fail
  rw [← hW, ← hfb, ← hgb, ← hqb] at *
  clear hW hfb hgb hqb
  have CP := sl.hide (fun (w' : World) (g : W.grownBy w' none) => (sl.unhide TD).pi _ w' ((sl.unhide FW1).kept g))
  have CQ := sl.hide (fun (w' : World) (g : W.grownBy w' none) => (sl.unhide TD).ps _ w' ((sl.unhide FW1).kept g))
  have CE := sl.hide (fun (w' : World) (g : W.grownBy w' none) => df.sameList _ _ R w' hl1 (sl.unhide hi1) ((sl.unhide GW1).kept g) ((sl.unhide QW1).kept g))
  have SK : Hid (∀ wz, W.grownBy wz none → wz.cell? ⟨fb, 0, none⟩ = some (.int .i64 n) ∧ wz.cell? ⟨fb, 1, none⟩ = some (.slice va LL.length vc) ∧ wz.cell? ⟨gb, 1, none⟩ = some (.slice a3_ R.length c3_) ∧ wz.cell? ⟨qb, 1, none⟩ = some (.slice a5_ R.length c5_)) := fun wz g => ⟨((sl.unhide FB).kept g).c0, ((sl.unhide FB).kept g).c1, ((sl.unhide GB).kept g).c1, ((sl.unhide QB).kept g).c1⟩
  have hbb : (b != b) = false := by simp
  have hpp : (P != P) = false := by simp
  have GX := sl.hide (cf.grown_drew W none)
  clear z2
  go_region_held3 (fun w' => w'.cell? ⟨fb, 0, none⟩ = some (.int .i64 n) ∧ w'.cell? ⟨fb, 1, none⟩ = some (.slice va LL.length vc) ∧ w'.cell? ⟨gb, 1, none⟩ = some (.slice a3_ R.length c3_) ∧ w'.cell? ⟨qb, 1, none⟩ = some (.slice a5_ R.length c5_)) (first | exact sl.unhide SK _ (sl.unhide GX) | go_keep) (first
    | (go_at_call 17; refine (sl.unhide CE _ (sl.unhide GX)).mono ?_; rintro e w6 ⟨rfl, g6⟩; replace GX := sl.hide (sl.grown_trans (r := none) (sl.unhide GX) g6); clear g6)
    | (go_at_call 24; refine (sl.unhide CP _ (sl.unhide GX)).mono ?_; rintro e w7 ⟨rfl, g7⟩; replace GX := sl.hide (sl.grown_trans (r := none) (sl.unhide GX) g7); clear g7)
    | (go_at_call 25; refine (sl.unhide CQ _ (sl.unhide GX)).mono ?_; rintro e w8 ⟨rfl, g8⟩; replace GX := sl.hide (sl.grown_trans (r := none) (sl.unhide GX) g8); clear g8))
  clear z0 z1 z3 z4 CE CQ hbb hpp QB QW1
  obtain ⟨W8, hW8⟩ : ∃ W8, W8 = w8 := ⟨_, rfl⟩
  have y0 := ((sl.unhide FB).kept (sl.unhide GX)).c0
  have y1 := ((sl.unhide FB).kept (sl.unhide GX)).c1
  have y2 := ((sl.unhide GB).kept (sl.unhide GX)).c0
  have y3 := ((sl.unhide GB).kept (sl.unhide GX)).c1
  cases b
  · have hz := (sl.unhide TD).no rfl
    subst hz
    go_wp2_with fail
    go_ret
    exact ⟨rfl, sl.below_none (sl.unhide BW) (sl.unhide GX)⟩
  by_cases h10 : n ≤ 10
  · have FEW := sl.unhide FH (by first | rfl | trivial) h10
    have h10' : ¬ 10 < n := by omega
    have FE := sl.hide FEW
    obtain ⟨ra, rc, e, ha⟩ := (sl.unhide GW1).kept (sl.unhide GX)
    have HA := sl.hide ha
    simp only [Value.slice.injEq] at e
    obtain ⟨rfl, _, rfl⟩ := e
    have hx8 := (sl.unhide HXB)
    obtain ⟨hx0, hx7⟩ := hx8
    clear FEW ha
    go_wp2_with fail
    go_loop [9] (fun i => ∃ k : Nat, k ≤ R.length ∧ i = .int .i64 k) (fun i => R.length - (intOf i).toNat)
    case atStart => exact ⟨0, Nat.zero_le _, rfl⟩
    case round =>
      obtain ⟨k, hk, rfl⟩ := hrel
      by_cases hlt : k < R.length
      · have hi' : (k : Int) < (R.length : Int) := by omega
        rcases sl.unhide HA with h | ⟨bb, off, rfl, hb, hcb⟩
        · rw [h] at hlt
          simp at hlt
        · obtain ⟨u, c1, hs⟩ := hcb k hlt
          have hm : R.getD k [] ∈ R := by rw [show R.getD k [] = R[k] by simp [hlt]]; exact List.getElem_mem hlt
          have fr := (sl.unhide FE).fr _ hm
          have hL := sl.unhide hi1 k
          have q1 : cls.hasB (R.getD k []) x = false := decide_eq_false fr.1
          have q2 : cls.hasB (R.getD k []) (-x) = false := decide_eq_false fr.2
          have C1 := cls.implClauseHas u (R.getD k []) x W8 hL (by rw [hW8]; exact hs)
          have C2 := cls.implClauseHas u (R.getD k []) (-x) W8 hL (by rw [hW8]; exact hs)
          rw [q1] at C1
          rw [q2] at C2
          rw [hW8] at C1 C2
          generalize R.getD k [] = Lk at *
          obtain ⟨xa, xc, rfl, _⟩ := hs
          have C1H := sl.hide C1
          have C2H := sl.hide C2
          clear C1 C2 q1 q2 fr hm hcb HA hL
          go_wp2_with fail
          refine (sl.unhide C1H).mono ?_; rintro e w' ⟨rfl, hw⟩; have hw' := hw.symm; clear hw; subst hw'
          go_wp2_with fail
          refine (sl.unhide C2H).mono ?_; rintro e w' ⟨rfl, hw⟩; have hw' := hw.symm; clear hw; subst hw'
          go_wp2_with fail
          go_round
          case rel => exact ⟨k + 1, by omega, by go_num⟩
          case measure => simp [intOf]; omega
      · have hi' : ¬ (k : Int) < (R.length : Int) := by omega
        clear HA
        have GY := sl.hide (cf.grown_drew w8 none)
        have CN := sl.hide (fun (w' : World) (g : W.grownBy w' none) => (sl.unhide FE).cn _ w' ((sl.unhide GW1).kept g))
        have lo := (sl.unhide FE).lo
        have hi2 := (sl.unhide FE).hi
        have hqw : IntKind.i64.wrap (2 * P) = 2 * P := eo.wrap_in (by omega) (by omega)
        have hqq : ((2 * P : Int) == 2 * P) = true := by simp
        have SK2 : Hid (∀ wz, w8.grownBy wz none → wz.cell? ⟨fb, 0, none⟩ = some (.int .i64 n) ∧ wz.cell? ⟨fb, 1, none⟩ = some (.slice va LL.length vc) ∧ wz.cell? ⟨gb, 0, none⟩ = some (.int .i64 N) ∧ wz.cell? ⟨gb, 1, none⟩ = some (.slice a3_ R.length c3_)) := fun wz g => ⟨((sl.unhide FB).kept (sl.grown_trans (sl.unhide GX) g)).c0, ((sl.unhide FB).kept (sl.grown_trans (sl.unhide GX) g)).c1, ((sl.unhide GB).kept (sl.grown_trans (sl.unhide GX) g)).c0, ((sl.unhide GB).kept (sl.grown_trans (sl.unhide GX) g)).c1⟩
        go_wp2_with fail
        go_region_held3 (fun w' => w'.cell? ⟨fb, 0, none⟩ = some (.int .i64 n) ∧ w'.cell? ⟨fb, 1, none⟩ = some (.slice va LL.length vc) ∧ w'.cell? ⟨gb, 0, none⟩ = some (.int .i64 N) ∧ w'.cell? ⟨gb, 1, none⟩ = some (.slice a3_ R.length c3_)) (first | exact sl.unhide SK2 _ (sl.unhide GY) | go_keep) (first
          | (go_at_call 27; refine (sl.unhide CN _ (sl.grown_trans (r := none) (sl.unhide GX) (sl.unhide GY))).mono ?_; rintro e w9 ⟨rfl, g9⟩; replace GY := sl.hide (sl.grown_trans (r := none) (sl.unhide GY) g9); clear g9)
          | (go_at_call 24; refine (sl.unhide CP _ (sl.grown_trans (r := none) (sl.unhide GX) (sl.unhide GY))).mono ?_; rintro e w10 ⟨rfl, g10⟩; replace GY := sl.hide (sl.grown_trans (r := none) (sl.unhide GY) g10); clear g10))
        all_goals
          go_wp2_with fail
          go_ret
          refine ⟨?_, sl.below_none (sl.unhide BW) (sl.grown_trans (r := none) (sl.unhide GX) (sl.unhide GY))⟩
          simp
  · have h10' : 10 < n := by omega
    go_wp2_with fail
    go_ret
    exact ⟨rfl, sl.below_none (sl.unhide BW) (sl.unhide GX)⟩

/-! ### the row's step (the guide's own frame) -/
set_option maxRecDepth 100000 in
theorem contract (H : Type) (enc : TypeId × Value → H) (W : World) (base : Nat) (args : Array Value) (ds gs : List (DataW H)) (before : List MemPlace)
    (hval : ∀ (j : Nat) t v, Tryd.f4.params[j]? = some t → args[j]? = some v → Value.okWide Tryd.prog W .any base t v)
    (hW : DataW.Whole enc Tryd.prog Tryd.f4.params.toList Rows.fnEliminateSpec.vars false W args.toList ds gs before) (hL : laidMetH Tryd.prog Rows.fnEliminateRow.laid W) :
    Calls Tryd.prog 4 args W fun e W' => ∃ v, e = .returned v ∧ Rows.fnEliminateSpec.post enc Tryd.prog Tryd.f4 false true false false W args v W' := by
  have hW' := hW
  obtain ⟨p, q, hA0, hV, rfl, hfz, hnd⟩ := hW
  have hA : DataW.TrodAll enc Tryd.prog W 0 (fun _ => true) true Tryd.f4.params.toList args.toList ds p := hA0
  rw [Tryd.params4] at hA hval
  obtain ⟨v0, vs0, d0, ds0, p0, q0, hargs, rfl, rfl, h0, r0⟩ := trodAll_cons hA
  obtain ⟨rfl, rfl, rfl⟩ := trodAll_nil r0
  obtain rfl : args = #[v0] := by cases args; simp_all
  obtain ⟨rfl, rfl⟩ := trodVars_none hV
  obtain ⟨a0, len0, cap0, rfl⟩ := okWide_slice Tryd.underlying22 (hval 0 22 v0 rfl rfl)
  have k0 := h0
  have lt0 : ∀ x ∈ p0, x.block < W.heap.size := by obtain ⟨m, hm⟩ := k0; exact DataW.trod_lt m _ _ _ hm
  obtain ⟨z0, w0⟩ : ∃ zs, IsRow .u8 W a0 len0 cap0 zs := by
    obtain ⟨fuel, hf⟩ := h0
    rcases open_ints Tryd.underlying22 Tryd.underlying5 (by kernel_rfl) hf with ⟨hcs, _⟩ | ⟨x, l, c, zs, hcs, _, hl, hm, hz, _, hcell, hwz⟩
    · simp [Value.cells] at hcs
      obtain ⟨rfl, rfl, rfl⟩ := hcs
      exact ⟨[], .inl ⟨rfl, rfl, rfl, rfl⟩⟩
    · simp [Value.cells] at hcs
      obtain ⟨rfl, rfl, rfl⟩ := hcs
      exact ⟨zs, .inr ⟨_, rfl, hl, hm, by simpa using hz, hcell, hwz⟩⟩
  clear hA0
  refine (walk a0 len0 cap0 z0 W w0 (table hL)).mono fun e W' ⟨he, bel⟩ => ?_
  subst he
  exact ⟨_, rfl, _, _, _, [], _, [], hW', trodAll_mk1 (shut_bool Tryd.underlying4 _), (trodAll_cons_mk (Below.trod laidOut (by kernel_rfl) (of_decide_eq_true (by kernel_rfl)) k0 bel lt0) trodAll_mk0), rfl, bel.frame _, fun h => by cases h⟩

set_option maxRecDepth 100000 in
theorem lifted (os : Os) (started : os.Started) (H : Type) (enc : TypeId × Value → H) (F : Stop.Interp) :
    ReturnsInHanded {} Tryd.checked os 4 .any ((OpenSpec.ofChange Rows.fnEliminateSpec).preRow enc Tryd.prog Tryd.f4 Rows.fnEliminateRow.domain false Rows.fnEliminateRow.laid) (((OpenSpec.ofChange Rows.fnEliminateSpec).at F).post enc Tryd.prog Tryd.f4 false true false false) := by
  refine returnsInHanded_of_row (C := Tryd.checked) (s := OpenSpec.ofChange Rows.fnEliminateSpec) own started (by kernel_rfl) Tryd.func4
    (witness_row_at (enc := enc) (C := Tryd.checked) false ({ World.holding Tryd.prog os ⟨#[], #[], []⟩ with heap := (World.holding Tryd.prog os ⟨#[], #[], []⟩).heap.modify 0 fun | .cells _ t frozen => .cells (Lib.deBruijn64tab.map fun (n : Nat) => Value.int .u8 n).toArray t frozen | o => o } : World) #[.slice none 0 0] rfl (by kernel_rfl) (by kernel_rfl) (by kernel_rfl)
      (OpenSpec.preRow_of_cond 8 (x := ([.nil], [], [])) (by kernel_rfl) (by kernel_rfl) (fun k hk => by cases hk) (by kernel_rfl) (laidMet_of_run' 8 (by kernel_rfl) (by kernel_rfl)))) ?_
  intro W base args ds gs before hval hW _ _ _ hL _ _
  exact contract H enc W base args ds gs before hval hW hL

theorem said : Rows.FnEliminateSaid :=
  OpenClaim.holds_of_cond 4 Tryd.f4 rfl rfl rfl rfl rfl rfl rfl ⟨rfl, rfl, rfl, rfl, rfl⟩ rfl rfl rfl rfl rfl (by kernel_rfl) Tryd.func4 (by kernel_rfl)
    (of_decide_eq_true (by kernel_rfl)) (by unfold Func.isWrapper; first | (rw [if_pos (by decide +kernel)]; kernel_rfl) | (rw [if_neg (by decide +kernel)]; exact ⟨rfl, rfl⟩))
    (fun os started H enc _ F => by rw [OpenClaim.pre_eq_preRow]; exact lifted os started H enc F)

theorem plain (f : FuncId) (fn : Func) (hf : Tryd.pinned.checked.prog.funcNamed "loop.example/g00123/laws.FnEliminate" = some f) (hfn : Tryd.pinned.checked.prog.funcs[f]? = some fn) :
    false = Tryd.pinned.checked.prog.looks [] ∧ ∀ (j : Nat) t, fn.params[j]? = some t → Tryd.pinned.checked.prog.wantsStandIn t = false := by
  obtain rfl : f = 4 := Option.some.inj ((show Tryd.prog.funcNamed "loop.example/g00123/laws.FnEliminate" = some 4 by kernel_rfl).symm.trans hf) |>.symm
  obtain rfl : fn = Tryd.f4 := (Option.some.inj (Tryd.func4.symm.trans hfn)).symm
  refine ⟨by kernel_rfl, fun j t ht => ?_⟩
  rw [Tryd.params4] at ht
  obtain rfl : t = 22 := by simpa using Array.mem_of_getElem? ht
  exact (show Tryd.prog.wantsStandIn 22 = false by kernel_rfl)

/-- the statement: the row's tied card -/
theorem proved : Rows.FnEliminateCardSaid :=
  Claim7.holds_tied_plain_at .later [] _ _ _ _ said (fun _ h => by cases h) (by kernel_rfl) (fun _ h => by cases h) fnEliminate_row_tie rfl ⟨rfl, rfl⟩ (by kernel_rfl) rfl plain (by kernel_rfl)
#print axioms proved
end Go.Proofs.YtibpnocpafppaaaDoor.fnEliminate
