/- At every byte list the law FnSteps returns true (steps in two parts are steps at once; behind its end a machine does nothing more); the library's table of places lies as its text lays it (tied). -/
import Derived.Test.YtlpgnaedhijdpaaDoorCards
import Derived.Test.YtlpgnaedhijdpaaDoorTie
import Derived.Test.YtlpgnaedhijdpaaDoorJStp
import Derived.Test.YtlpgnaedhijdpaaDoorDCl
import Derived.Test.YtlpgnaedhijdpaaDoorDVa
import Derived.WalkKit
import Derived.ProofKit
import Derived.OpenShut
import Derived.ShutString
import Derived.ChangeOld
import Derived.Below
import Derived.Deep.DeepHandedRow
import Derived.Lib.LaidTab
import Derived.Lib.TrailingZeros
import Derived.Stop.LaidErr
import Derived.LaidHandle
import Derived.LaidSub
namespace Go.Proofs.YtlpgnaedhijdpaaDoor.fnSteps
open Go.ChangeShapes Go.WideShapes Go.ChangeAt Go.RowKit
open Go.ChangeMaps (open_string shut_string)
set_option linter.unusedVariables false

theorem own : ownKnob Tryd.prog.godebug = none := by kernel_rfl
theorem laidOut : laidOutB Tryd.prog = true := by kernel_rfl

/-- what the walk is told of a slice of integers that came in -/
def IsRow (k : IntKind) (w : World) (a : Option Addr) (len cap : Nat) (zs : List Int) : Prop :=
  (a = none ∧ len = 0 ∧ cap = 0 ∧ zs = []) ∨
  ∃ x, a = some x ∧ len ≤ cap ∧ cap ≤ maxLen ∧ zs.length = cap ∧ (∀ i, i < zs.length → w.cell? (x.add i) = some (.int k (zs.getD i 0))) ∧ ∀ n ∈ zs, (Lit.int k n).wf = true

theorem gTab : Tryd.prog.globalNamed "math/bits.deBruijn64tab" = some 3 := by kernel_rfl
theorem gTabType : (Tryd.prog.globals[3]?).map (·.type) = some 162 := by kernel_rfl
theorem cellsTab : Tryd.prog.cellsOf 162 = 64 := by kernel_rfl
theorem cellsByte : Tryd.prog.cellsOf 5 = 1 := by kernel_rfl
/-- what the row's list gives: the table's cells hold its numbers -/
theorem table {W : World} (h : laidMetH Tryd.prog Rows.fnStepsRow.laid W) : srt.Tab W := by
  have t : Lib.TabIs Tryd.prog W "math/bits.deBruijn64tab" .u8 (Lib.deBruijn64tab.map fun (n : Nat) => (n : Int)) :=
    Lib.tabIs_of_head (rest := []) gTab gTabType Tryd.underlying162 Tryd.underlying5 cellsByte cellsTab h
  intro j hj
  have c := t.cell gTab j (by rw [List.length_map]; exact hj)
  rw [c]
  congr 2
  rw [List.getD, List.getD, List.getElem?_map]
  cases Lib.deBruijn64tab[j]? <;> rfl

/-! ### the walk -/
set_option maxRecDepth 100000 in
set_option maxHeartbeats 8000000 in
theorem walk (a0 : Option Addr) (len0 cap0 : Nat) (z0 : List Int) (w : World) (w0 : IsRow .u8 w a0 len0 cap0 z0) (hT : srt.Tab w) :
    Calls Tryd.prog 5 #[.slice a0 len0 cap0] w fun e w' => e = .returned (.bool true) ∧ Below w.heap.size w w' := by
  have hB := draw.of_rowB w0
  have hm : len0 ≤ 9223372036854775807 := by
    rcases w0 with ⟨_, h, _, _⟩ | ⟨_, _, h1, h2, _⟩
    · omega
    · unfold maxLen at h2
      omega
  clear w0
  by_cases hbig : 1048576 < len0
  · have C := sl.hide (draw.big a0 len0 cap0 w hm)
    rw [decide_eq_true hbig] at C
    clear hT
    go_enter Tryd.func5, Tryd.ntmps5
    go_wp2_with fail
    refine (sl.unhide C).mono ?_; rintro e w' ⟨rfl, rfl⟩
    go_wp2_with fail
    go_ret
    exact ⟨rfl, Below.refl _ _⟩
  have C := sl.hide (draw.big a0 len0 cap0 w hm)
  rw [decide_eq_false hbig] at C
  have HB := sl.hide hB
  have TT := sl.hide hT
  have hlen : len0 ≤ 1048576 := by omega
  clear hB hT hbig
  go_enter Tryd.func5, Tryd.ntmps5
  go_wp2_with fail
  refine (sl.unhide C).mono ?_; rintro e w' ⟨rfl, hw⟩; have hw' := hw.symm; clear hw; subst hw'
  clear C hm
  go_wp2_with fail
  refine (du.drawRunning a0 len0 cap0 _ hlen (sl.unhide HB)).mono ?_; rintro e w1 ⟨N, u1, p1, LL, m, rfl, hN6, hcn, ⟨j0, hj0, hm⟩, o1, g1⟩
  obtain ⟨a1_, c1_, b1_, d1_, rfl, rfl⟩ := o1.len
  have s1 := sl.hide (g1).size
  have B1 := sl.hide (sl.below_of (g1))
  have MA1 := sl.hide o1
  clear o1 g1
  have hok : qm.OkM N m := by rw [hm]; exact qh.ok_run j0
  have ht : css.tot LL ≤ 1048576 := dr.tot48 hcn
  have hlm := qh.len_run hok hN6
  have HM := sl.hide hm
  clear hm
  have s2 := sl.hide (World.grownBy_alloc w1 (.cells #[.int .i64 (N : Int), .slice a1_ LL.length c1_, .slice b1_ (as_.tl 0 m.A).length d1_, .int .i64 m.st, .int .i64 m.k] 37) none).size
  have B2 := sl.hide (sl.below_none (sl.unhide B1) (World.grownBy_alloc w1 (.cells #[.int .i64 (N : Int), .slice a1_ LL.length c1_, .slice b1_ (as_.tl 0 m.A).length d1_, .int .i64 m.st, .int .i64 m.k] 37) none))
  have MA2 := sl.hide ((sl.unhide MA1).kept (World.grownBy_alloc w1 (.cells #[.int .i64 (N : Int), .slice a1_ LL.length c1_, .slice b1_ (as_.tl 0 m.A).length d1_, .int .i64 m.st, .int .i64 m.k] 37) none))
  have q2 : Hid ((w1.alloc (.cells #[.int .i64 (N : Int), .slice a1_ LL.length c1_, .slice b1_ (as_.tl 0 m.A).length d1_, .int .i64 m.st, .int .i64 m.k] 37)).heap.size = w1.heap.size + 1) := World.size_alloc ..
  have A2 := sl.hide (qa.Box5.new 37 w1 (.int .i64 (N : Int)) (.slice a1_ LL.length c1_) (.slice b1_ (as_.tl 0 m.A).length d1_) (.int .i64 m.st) (.int .i64 m.k))
  clear B1 MA1
  go_wp2_with fail
  refine (dva.at_ a0 len0 cap0 3 _ hlen (by decide) (by decide) ((sl.unhide HB).below (sl.unhide B2))).mono ?_; rintro e w' ⟨x, rfl, x0, x1, hw⟩; have hw' := hw.symm; clear hw; subst hw'
  obtain ⟨nn, hnn⟩ := Int.eq_ofNat_of_zero_le (show 0 ≤ x % 50 by omega)
  have hn49 : nn ≤ 49 := by omega
  go_wp2_with fail
  refine (dva.at_ a0 len0 cap0 4 _ hlen (by decide) (by decide) ((sl.unhide HB).below (sl.unhide B2))).mono ?_; rintro e w' ⟨y, rfl, y0, y1, hw⟩; have hw' := hw.symm; clear hw; subst hw'
  obtain ⟨kk, hkk⟩ := Int.eq_ofNat_of_zero_le (show 0 ≤ y % ((nn : Int) + 1) from Int.emod_nonneg _ (by omega))
  have hkn : kk ≤ nn := by have := Int.emod_lt_of_pos y (show 0 < (nn : Int) + 1 by omega); omega
  have hn1 : ¬ (nn : Int) + 1 = 0 := by omega
  have HOK := sl.hide hok
  have HCN := sl.hide hcn
  obtain ⟨M1, hM1⟩ : ∃ M1, M1 = qm.runM N LL nn m := ⟨_, rfl⟩
  obtain ⟨M2, hM2⟩ : ∃ M2, M2 = qm.runM N LL kk m := ⟨_, rfl⟩
  obtain ⟨M9, hM9⟩ : ∃ M9, M9 = qm.runM N LL 5000 M1 := ⟨_, rfl⟩
  have ok1 : qm.OkM N M1 := by rw [hM1]; exact hok.run nn
  have ok2 : qm.OkM N M2 := by rw [hM2]; exact hok.run kk
  have ok9 : qm.OkM N M9 := by rw [hM9]; exact ok1.run 5000
  have E1 : Hid (qh.res (N : Int) LL (as_.tl 0 m.A) m.st m.k (nn : Int) = (as_.tl 0 M1.A, M1.st, M1.k)) := by rw [hM1]; exact qh.res_run hcn hok (by omega)
  have E2 : Hid (qh.res (N : Int) LL (as_.tl 0 m.A) m.st m.k (kk : Int) = (as_.tl 0 M2.A, M2.st, M2.k)) := by rw [hM2]; exact qh.res_run hcn hok (by omega)
  have E3 : Hid (qh.res (N : Int) LL (as_.tl 0 M2.A) M2.st M2.k ((nn : Int) - (kk : Int)) = (as_.tl 0 M1.A, M1.st, M1.k)) := by
    show qh.res _ _ _ _ _ _ = _
    rw [show (nn : Int) - (kk : Int) = ((nn - kk : Nat) : Int) by omega, qh.res_run hcn ok2 (by omega), hM2, ← qm.run_add, show kk + (nn - kk) = nn by omega, ← hM1]
  have E9 : Hid (qh.res (N : Int) LL (as_.tl 0 M1.A) M1.st M1.k 5000 = (as_.tl 0 M9.A, M9.st, M9.k)) := by
    rw [hM9]
    exact qh.res_run hcn ok1 (c := 5000) (by decide)
  have st9 : M9.st ≠ 0 := by rw [hM9, hM1, sl.unhide HM, ← qm.run_add, ← qm.run_add]; exact qh.ends hN6 (by omega)
  have E10 : Hid (qh.res (N : Int) LL (as_.tl 0 M9.A) M9.st M9.k 1 = (as_.tl 0 M9.A, M9.st, M9.k)) := by
    have := qh.res_run hcn ok9 (c := 1) (by decide)
    rw [qm.run_stop (fun q => st9 q.1)] at this
    exact this
  have st9b : (M9.st != 0) = true := by simpa using st9
  have K1 := sl.hide (qm.ok_mach hcn ok1)
  have l1 := qh.len_run ok1 hN6
  have l2 := qh.len_run ok2 hN6
  have l9 := qh.len_run ok9 hN6
  clear hM1 hM2 hM9 ok1 ok2 ok9 st9 hok hcn HM HOK
  have CR3 := qh.implMachineRun _ _ (N : Int) m.st m.k (nn : Int) LL (as_.tl 0 m.A) _ _ (w1.alloc (.cells #[.int .i64 (N : Int), .slice a1_ LL.length c1_, .slice b1_ (as_.tl 0 m.A).length d1_, .int .i64 m.st, .int .i64 m.k] 37)) ((sl.unhide TT).below (sl.unhide B2)) ht hlm (sl.unhide MA2)
  rw [sl.unhide E1] at CR3
  have CT3 := sl.hide CR3
  clear CR3
  have zA0 := (sl.unhide A2).c0
  have zA1 := (sl.unhide A2).c1
  have zA2 := (sl.unhide A2).c2
  have zA3 := (sl.unhide A2).c3
  have zA4 := (sl.unhide A2).c4
  go_wp2_with fail
  refine (sl.unhide CT3).mono ?_; rintro e w3 ⟨u3, p3, rfl, o3, g3⟩
  clear zA0 zA1 zA2 zA3 zA4
  obtain ⟨a3_, c3_, b3_, d3_, rfl, rfl⟩ := o3.len
  have s3 := sl.hide (g3).size
  have B3 := sl.hide (sl.below_none (sl.unhide B2) (g3))
  have MA3 := sl.hide ((sl.unhide MA2).kept (g3))
  have A3 := sl.hide ((sl.unhide A2).kept (g3))
  have MB3 := sl.hide o3
  clear o3 g3 CT3 B2 MA2 A2
  dsimp only
  have pA0 := (sl.unhide A3).c0
  have pA1 := (sl.unhide A3).c1
  have pA2 := (sl.unhide A3).c2
  have pA3 := (sl.unhide A3).c3
  have pA4 := (sl.unhide A3).c4
  have pAl := (sl.unhide A3).lt
  have s4 := sl.hide (World.grownBy_alloc w3 (.cells #[.int .i64 (N : Int), .slice a3_ LL.length c3_, .slice b3_ (as_.tl 0 M1.A).length d3_, .int .i64 M1.st, .int .i64 M1.k] 37) none).size
  have B4 := sl.hide (sl.below_none (sl.unhide B3) (World.grownBy_alloc w3 (.cells #[.int .i64 (N : Int), .slice a3_ LL.length c3_, .slice b3_ (as_.tl 0 M1.A).length d3_, .int .i64 M1.st, .int .i64 M1.k] 37) none))
  have MA4 := sl.hide ((sl.unhide MA3).kept (World.grownBy_alloc w3 (.cells #[.int .i64 (N : Int), .slice a3_ LL.length c3_, .slice b3_ (as_.tl 0 M1.A).length d3_, .int .i64 M1.st, .int .i64 M1.k] 37) none))
  have MB4 := sl.hide ((sl.unhide MB3).kept (World.grownBy_alloc w3 (.cells #[.int .i64 (N : Int), .slice a3_ LL.length c3_, .slice b3_ (as_.tl 0 M1.A).length d3_, .int .i64 M1.st, .int .i64 M1.k] 37) none))
  have A4 := sl.hide ((sl.unhide A3).kept (World.grownBy_alloc w3 (.cells #[.int .i64 (N : Int), .slice a3_ LL.length c3_, .slice b3_ (as_.tl 0 M1.A).length d3_, .int .i64 M1.st, .int .i64 M1.k] 37) none))
  have q4 : Hid ((w3.alloc (.cells #[.int .i64 (N : Int), .slice a3_ LL.length c3_, .slice b3_ (as_.tl 0 M1.A).length d3_, .int .i64 M1.st, .int .i64 M1.k] 37)).heap.size = w3.heap.size + 1) := World.size_alloc ..
  have Z4 := sl.hide (qa.Box5.new 37 w3 (.int .i64 (N : Int)) (.slice a3_ LL.length c3_) (.slice b3_ (as_.tl 0 M1.A).length d3_) (.int .i64 M1.st) (.int .i64 M1.k))
  clear B3 MA3 MB3 A3
  have CR5 := qh.implMachineRun _ _ (N : Int) m.st m.k (kk : Int) LL (as_.tl 0 m.A) _ _ (w3.alloc (.cells #[.int .i64 (N : Int), .slice a3_ LL.length c3_, .slice b3_ (as_.tl 0 M1.A).length d3_, .int .i64 M1.st, .int .i64 M1.k] 37)) ((sl.unhide TT).below (sl.unhide B4)) ht hlm (sl.unhide MA4)
  rw [sl.unhide E2] at CR5
  have CT5 := sl.hide CR5
  clear CR5
  have zA0 := (sl.unhide A4).c0
  have zA1 := (sl.unhide A4).c1
  have zA2 := (sl.unhide A4).c2
  have zA3 := (sl.unhide A4).c3
  have zA4 := (sl.unhide A4).c4
  go_wp2_with fail
  refine (sl.unhide CT5).mono ?_; rintro e w5 ⟨u5, p5, rfl, o5, g5⟩
  clear pA0 pA1 pA2 pA3 pA4 pAl zA0 zA1 zA2 zA3 zA4
  obtain ⟨a5_, c5_, b5_, d5_, rfl, rfl⟩ := o5.len
  have s5 := sl.hide (g5).size
  have B5 := sl.hide (sl.below_none (sl.unhide B4) (g5))
  have MA5 := sl.hide ((sl.unhide MA4).kept (g5))
  have MB5 := sl.hide ((sl.unhide MB4).kept (g5))
  have A5 := sl.hide ((sl.unhide A4).kept (g5))
  have Z5 := sl.hide ((sl.unhide Z4).kept (g5))
  have MC5 := sl.hide o5
  clear o5 g5 CT5 B4 MA4 MB4 A4 Z4
  dsimp only
  have CR6 := qh.implMachineRun _ _ (N : Int) M2.st M2.k ((nn : Int) - (kk : Int)) LL (as_.tl 0 M2.A) _ _ w5 ((sl.unhide TT).below (sl.unhide B5)) ht l2 (sl.unhide MC5)
  rw [sl.unhide E3] at CR6
  have CT6 := sl.hide CR6
  clear CR6
  go_wp2_with fail
  refine (sl.unhide CT6).mono ?_; rintro e w6 ⟨u6, p6, rfl, o6, g6⟩
  obtain ⟨a6_, c6_, b6_, d6_, rfl, rfl⟩ := o6.len
  have s6 := sl.hide (g6).size
  have B6 := sl.hide (sl.below_none (sl.unhide B5) (g6))
  have MA6 := sl.hide ((sl.unhide MA5).kept (g6))
  have MB6 := sl.hide ((sl.unhide MB5).kept (g6))
  have MC6 := sl.hide ((sl.unhide MC5).kept (g6))
  have A6 := sl.hide ((sl.unhide A5).kept (g6))
  have Z6 := sl.hide ((sl.unhide Z5).kept (g6))
  have MD6 := sl.hide o6
  clear o6 g6 CT6 B5 MA5 MB5 MC5 A5 Z5
  dsimp only
  clear MC6
  have pA0 := (sl.unhide A6).c0
  have pA1 := (sl.unhide A6).c1
  have pA2 := (sl.unhide A6).c2
  have pA3 := (sl.unhide A6).c3
  have pA4 := (sl.unhide A6).c4
  have pAl := (sl.unhide A6).lt
  have s7 := sl.hide (World.grownBy_alloc w6 (.cells #[.int .i64 (N : Int), .slice a6_ LL.length c6_, .slice b6_ (as_.tl 0 M1.A).length d6_, .int .i64 M1.st, .int .i64 M1.k] 37) none).size
  have B7 := sl.hide (sl.below_none (sl.unhide B6) (World.grownBy_alloc w6 (.cells #[.int .i64 (N : Int), .slice a6_ LL.length c6_, .slice b6_ (as_.tl 0 M1.A).length d6_, .int .i64 M1.st, .int .i64 M1.k] 37) none))
  have MA7 := sl.hide ((sl.unhide MA6).kept (World.grownBy_alloc w6 (.cells #[.int .i64 (N : Int), .slice a6_ LL.length c6_, .slice b6_ (as_.tl 0 M1.A).length d6_, .int .i64 M1.st, .int .i64 M1.k] 37) none))
  have MB7 := sl.hide ((sl.unhide MB6).kept (World.grownBy_alloc w6 (.cells #[.int .i64 (N : Int), .slice a6_ LL.length c6_, .slice b6_ (as_.tl 0 M1.A).length d6_, .int .i64 M1.st, .int .i64 M1.k] 37) none))
  have MD7 := sl.hide ((sl.unhide MD6).kept (World.grownBy_alloc w6 (.cells #[.int .i64 (N : Int), .slice a6_ LL.length c6_, .slice b6_ (as_.tl 0 M1.A).length d6_, .int .i64 M1.st, .int .i64 M1.k] 37) none))
  have A7 := sl.hide ((sl.unhide A6).kept (World.grownBy_alloc w6 (.cells #[.int .i64 (N : Int), .slice a6_ LL.length c6_, .slice b6_ (as_.tl 0 M1.A).length d6_, .int .i64 M1.st, .int .i64 M1.k] 37) none))
  have Z7 := sl.hide ((sl.unhide Z6).kept (World.grownBy_alloc w6 (.cells #[.int .i64 (N : Int), .slice a6_ LL.length c6_, .slice b6_ (as_.tl 0 M1.A).length d6_, .int .i64 M1.st, .int .i64 M1.k] 37) none))
  have q7 : Hid ((w6.alloc (.cells #[.int .i64 (N : Int), .slice a6_ LL.length c6_, .slice b6_ (as_.tl 0 M1.A).length d6_, .int .i64 M1.st, .int .i64 M1.k] 37)).heap.size = w6.heap.size + 1) := World.size_alloc ..
  have D7 := sl.hide (qa.Box5.new 37 w6 (.int .i64 (N : Int)) (.slice a6_ LL.length c6_) (.slice b6_ (as_.tl 0 M1.A).length d6_) (.int .i64 M1.st) (.int .i64 M1.k))
  clear B6 MA6 MB6 MD6 A6 Z6
  have CR8 := qh.specMachineRun _ _ (N : Int) m.st m.k (nn : Int) LL (as_.tl 0 m.A) _ _ (w6.alloc (.cells #[.int .i64 (N : Int), .slice a6_ LL.length c6_, .slice b6_ (as_.tl 0 M1.A).length d6_, .int .i64 M1.st, .int .i64 M1.k] 37)) ht hlm (by have s1_ := sl.unhide s1; have s2_ := sl.unhide s2; have q2_ := sl.unhide q2; have s3_ := sl.unhide s3; have s4_ := sl.unhide s4; have q4_ := sl.unhide q4; have s5_ := sl.unhide s5; have s6_ := sl.unhide s6; have s7_ := sl.unhide s7; have q7_ := sl.unhide q7; omega) (sl.unhide MA7)
  rw [sl.unhide E1] at CR8
  have CT8 := sl.hide CR8
  clear CR8
  have zA0 := (sl.unhide A7).c0
  have zA1 := (sl.unhide A7).c1
  have zA2 := (sl.unhide A7).c2
  have zA3 := (sl.unhide A7).c3
  have zA4 := (sl.unhide A7).c4
  go_wp2_with fail
  refine (sl.unhide CT8).mono ?_; rintro e w8 ⟨u8, p8, rfl, o8, g8⟩
  clear pA0 pA1 pA2 pA3 pA4 pAl zA0 zA1 zA2 zA3 zA4
  obtain ⟨a8_, c8_, b8_, d8_, rfl, rfl⟩ := o8.len
  have s8 := sl.hide (g8).size
  have B8 := sl.hide (sl.below_none (sl.unhide B7) (g8))
  have MA8 := sl.hide ((sl.unhide MA7).kept (g8))
  have MB8 := sl.hide ((sl.unhide MB7).kept (g8))
  have MD8 := sl.hide ((sl.unhide MD7).kept (g8))
  have A8 := sl.hide ((sl.unhide A7).kept (g8))
  have Z8 := sl.hide ((sl.unhide Z7).kept (g8))
  have D8 := sl.hide ((sl.unhide D7).kept (g8))
  have ME8 := sl.hide o8
  clear o8 g8 CT8 B7 MA7 MB7 MD7 A7 Z7 D7
  dsimp only
  have pZ0 := (sl.unhide Z8).c0
  have pZ1 := (sl.unhide Z8).c1
  have pZ2 := (sl.unhide Z8).c2
  have pZ3 := (sl.unhide Z8).c3
  have pZ4 := (sl.unhide Z8).c4
  have pZl := (sl.unhide Z8).lt
  have s9 := sl.hide (World.grownBy_alloc w8 (.cells #[.int .i64 (N : Int), .slice a8_ LL.length c8_, .slice b8_ (as_.tl 0 M1.A).length d8_, .int .i64 M1.st, .int .i64 M1.k] 37) none).size
  have B9 := sl.hide (sl.below_none (sl.unhide B8) (World.grownBy_alloc w8 (.cells #[.int .i64 (N : Int), .slice a8_ LL.length c8_, .slice b8_ (as_.tl 0 M1.A).length d8_, .int .i64 M1.st, .int .i64 M1.k] 37) none))
  have MA9 := sl.hide ((sl.unhide MA8).kept (World.grownBy_alloc w8 (.cells #[.int .i64 (N : Int), .slice a8_ LL.length c8_, .slice b8_ (as_.tl 0 M1.A).length d8_, .int .i64 M1.st, .int .i64 M1.k] 37) none))
  have MB9 := sl.hide ((sl.unhide MB8).kept (World.grownBy_alloc w8 (.cells #[.int .i64 (N : Int), .slice a8_ LL.length c8_, .slice b8_ (as_.tl 0 M1.A).length d8_, .int .i64 M1.st, .int .i64 M1.k] 37) none))
  have MD9 := sl.hide ((sl.unhide MD8).kept (World.grownBy_alloc w8 (.cells #[.int .i64 (N : Int), .slice a8_ LL.length c8_, .slice b8_ (as_.tl 0 M1.A).length d8_, .int .i64 M1.st, .int .i64 M1.k] 37) none))
  have ME9 := sl.hide ((sl.unhide ME8).kept (World.grownBy_alloc w8 (.cells #[.int .i64 (N : Int), .slice a8_ LL.length c8_, .slice b8_ (as_.tl 0 M1.A).length d8_, .int .i64 M1.st, .int .i64 M1.k] 37) none))
  have A9 := sl.hide ((sl.unhide A8).kept (World.grownBy_alloc w8 (.cells #[.int .i64 (N : Int), .slice a8_ LL.length c8_, .slice b8_ (as_.tl 0 M1.A).length d8_, .int .i64 M1.st, .int .i64 M1.k] 37) none))
  have Z9 := sl.hide ((sl.unhide Z8).kept (World.grownBy_alloc w8 (.cells #[.int .i64 (N : Int), .slice a8_ LL.length c8_, .slice b8_ (as_.tl 0 M1.A).length d8_, .int .i64 M1.st, .int .i64 M1.k] 37) none))
  have D9 := sl.hide ((sl.unhide D8).kept (World.grownBy_alloc w8 (.cells #[.int .i64 (N : Int), .slice a8_ LL.length c8_, .slice b8_ (as_.tl 0 M1.A).length d8_, .int .i64 M1.st, .int .i64 M1.k] 37) none))
  have q9 : Hid ((w8.alloc (.cells #[.int .i64 (N : Int), .slice a8_ LL.length c8_, .slice b8_ (as_.tl 0 M1.A).length d8_, .int .i64 M1.st, .int .i64 M1.k] 37)).heap.size = w8.heap.size + 1) := World.size_alloc ..
  have Y9 := sl.hide (qa.Box5.new 37 w8 (.int .i64 (N : Int)) (.slice a8_ LL.length c8_) (.slice b8_ (as_.tl 0 M1.A).length d8_) (.int .i64 M1.st) (.int .i64 M1.k))
  clear B8 MA8 MB8 MD8 ME8 A8 Z8 D8
  have CR10 := qh.implMachineRun _ _ (N : Int) M1.st M1.k 5000 LL (as_.tl 0 M1.A) _ _ (w8.alloc (.cells #[.int .i64 (N : Int), .slice a8_ LL.length c8_, .slice b8_ (as_.tl 0 M1.A).length d8_, .int .i64 M1.st, .int .i64 M1.k] 37)) ((sl.unhide TT).below (sl.unhide B9)) ht l1 (sl.unhide MB9)
  rw [sl.unhide E9] at CR10
  have CT10 := sl.hide CR10
  clear CR10
  have zZ0 := (sl.unhide Z9).c0
  have zZ1 := (sl.unhide Z9).c1
  have zZ2 := (sl.unhide Z9).c2
  have zZ3 := (sl.unhide Z9).c3
  have zZ4 := (sl.unhide Z9).c4
  go_wp2_with fail
  refine (sl.unhide CT10).mono ?_; rintro e w10 ⟨u10, p10, rfl, o10, g10⟩
  clear pZ0 pZ1 pZ2 pZ3 pZ4 pZl zZ0 zZ1 zZ2 zZ3 zZ4
  obtain ⟨a10_, c10_, b10_, d10_, rfl, rfl⟩ := o10.len
  have s10 := sl.hide (g10).size
  have B10 := sl.hide (sl.below_none (sl.unhide B9) (g10))
  have MA10 := sl.hide ((sl.unhide MA9).kept (g10))
  have MB10 := sl.hide ((sl.unhide MB9).kept (g10))
  have MD10 := sl.hide ((sl.unhide MD9).kept (g10))
  have ME10 := sl.hide ((sl.unhide ME9).kept (g10))
  have A10 := sl.hide ((sl.unhide A9).kept (g10))
  have Z10 := sl.hide ((sl.unhide Z9).kept (g10))
  have D10 := sl.hide ((sl.unhide D9).kept (g10))
  have Y10 := sl.hide ((sl.unhide Y9).kept (g10))
  have MF10 := sl.hide o10
  clear o10 g10 CT10 B9 MA9 MB9 MD9 ME9 A9 Z9 D9 Y9
  dsimp only
  have s11 := sl.hide (World.grownBy_alloc w10 (.cells #[.int .i64 (N : Int), .slice a10_ LL.length c10_, .slice b10_ (as_.tl 0 M9.A).length d10_, .int .i64 M9.st, .int .i64 M9.k] 37) none).size
  have B11 := sl.hide (sl.below_none (sl.unhide B10) (World.grownBy_alloc w10 (.cells #[.int .i64 (N : Int), .slice a10_ LL.length c10_, .slice b10_ (as_.tl 0 M9.A).length d10_, .int .i64 M9.st, .int .i64 M9.k] 37) none))
  have MA11 := sl.hide ((sl.unhide MA10).kept (World.grownBy_alloc w10 (.cells #[.int .i64 (N : Int), .slice a10_ LL.length c10_, .slice b10_ (as_.tl 0 M9.A).length d10_, .int .i64 M9.st, .int .i64 M9.k] 37) none))
  have MB11 := sl.hide ((sl.unhide MB10).kept (World.grownBy_alloc w10 (.cells #[.int .i64 (N : Int), .slice a10_ LL.length c10_, .slice b10_ (as_.tl 0 M9.A).length d10_, .int .i64 M9.st, .int .i64 M9.k] 37) none))
  have MD11 := sl.hide ((sl.unhide MD10).kept (World.grownBy_alloc w10 (.cells #[.int .i64 (N : Int), .slice a10_ LL.length c10_, .slice b10_ (as_.tl 0 M9.A).length d10_, .int .i64 M9.st, .int .i64 M9.k] 37) none))
  have ME11 := sl.hide ((sl.unhide ME10).kept (World.grownBy_alloc w10 (.cells #[.int .i64 (N : Int), .slice a10_ LL.length c10_, .slice b10_ (as_.tl 0 M9.A).length d10_, .int .i64 M9.st, .int .i64 M9.k] 37) none))
  have MF11 := sl.hide ((sl.unhide MF10).kept (World.grownBy_alloc w10 (.cells #[.int .i64 (N : Int), .slice a10_ LL.length c10_, .slice b10_ (as_.tl 0 M9.A).length d10_, .int .i64 M9.st, .int .i64 M9.k] 37) none))
  have A11 := sl.hide ((sl.unhide A10).kept (World.grownBy_alloc w10 (.cells #[.int .i64 (N : Int), .slice a10_ LL.length c10_, .slice b10_ (as_.tl 0 M9.A).length d10_, .int .i64 M9.st, .int .i64 M9.k] 37) none))
  have Z11 := sl.hide ((sl.unhide Z10).kept (World.grownBy_alloc w10 (.cells #[.int .i64 (N : Int), .slice a10_ LL.length c10_, .slice b10_ (as_.tl 0 M9.A).length d10_, .int .i64 M9.st, .int .i64 M9.k] 37) none))
  have D11 := sl.hide ((sl.unhide D10).kept (World.grownBy_alloc w10 (.cells #[.int .i64 (N : Int), .slice a10_ LL.length c10_, .slice b10_ (as_.tl 0 M9.A).length d10_, .int .i64 M9.st, .int .i64 M9.k] 37) none))
  have Y11 := sl.hide ((sl.unhide Y10).kept (World.grownBy_alloc w10 (.cells #[.int .i64 (N : Int), .slice a10_ LL.length c10_, .slice b10_ (as_.tl 0 M9.A).length d10_, .int .i64 M9.st, .int .i64 M9.k] 37) none))
  have q11 : Hid ((w10.alloc (.cells #[.int .i64 (N : Int), .slice a10_ LL.length c10_, .slice b10_ (as_.tl 0 M9.A).length d10_, .int .i64 M9.st, .int .i64 M9.k] 37)).heap.size = w10.heap.size + 1) := World.size_alloc ..
  have F11 := sl.hide (qa.Box5.new 37 w10 (.int .i64 (N : Int)) (.slice a10_ LL.length c10_) (.slice b10_ (as_.tl 0 M9.A).length d10_) (.int .i64 M9.st) (.int .i64 M9.k))
  clear B10 MA10 MB10 MD10 ME10 MF10 A10 Z10 D10 Y10
  have CR12 := qh.implMachineStep _ _ (N : Int) M9.st M9.k LL (as_.tl 0 M9.A) _ _ (w10.alloc (.cells #[.int .i64 (N : Int), .slice a10_ LL.length c10_, .slice b10_ (as_.tl 0 M9.A).length d10_, .int .i64 M9.st, .int .i64 M9.k] 37)) ((sl.unhide TT).below (sl.unhide B11)) ht l9 (sl.unhide MF11)
  rw [sl.unhide E10] at CR12
  have CT12 := sl.hide CR12
  clear CR12
  have zF0 := (sl.unhide F11).c0
  have zF1 := (sl.unhide F11).c1
  have zF2 := (sl.unhide F11).c2
  have zF3 := (sl.unhide F11).c3
  have zF4 := (sl.unhide F11).c4
  go_wp2_with fail
  refine (sl.unhide CT12).mono ?_; rintro e w12 ⟨u12, p12, rfl, o12, g12⟩
  clear zF0 zF1 zF2 zF3 zF4
  obtain ⟨a12_, c12_, b12_, d12_, rfl, rfl⟩ := o12.len
  have s12 := sl.hide (g12).size
  have B12 := sl.hide (sl.below_none (sl.unhide B11) (g12))
  have MA12 := sl.hide ((sl.unhide MA11).kept (g12))
  have MB12 := sl.hide ((sl.unhide MB11).kept (g12))
  have MD12 := sl.hide ((sl.unhide MD11).kept (g12))
  have ME12 := sl.hide ((sl.unhide ME11).kept (g12))
  have MF12 := sl.hide ((sl.unhide MF11).kept (g12))
  have A12 := sl.hide ((sl.unhide A11).kept (g12))
  have Z12 := sl.hide ((sl.unhide Z11).kept (g12))
  have D12 := sl.hide ((sl.unhide D11).kept (g12))
  have Y12 := sl.hide ((sl.unhide Y11).kept (g12))
  have F12 := sl.hide ((sl.unhide F11).kept (g12))
  have MG12 := sl.hide o12
  clear o12 g12 CT12 B11 MA11 MB11 MD11 ME11 MF11 A11 Z11 D11 Y11 F11
  dsimp only
  have pZ0 := (sl.unhide Z12).c0
  have pZ1 := (sl.unhide Z12).c1
  have pZ2 := (sl.unhide Z12).c2
  have pZ3 := (sl.unhide Z12).c3
  have pZ4 := (sl.unhide Z12).c4
  have pZl := (sl.unhide Z12).lt
  have pD0 := (sl.unhide D12).c0
  have pD1 := (sl.unhide D12).c1
  have pD2 := (sl.unhide D12).c2
  have pD3 := (sl.unhide D12).c3
  have pD4 := (sl.unhide D12).c4
  have pDl := (sl.unhide D12).lt
  have s13 := sl.hide (World.grownBy_alloc w12 (.cells #[.int .i64 (N : Int), .slice a12_ LL.length c12_, .slice b12_ (as_.tl 0 M9.A).length d12_, .int .i64 M9.st, .int .i64 M9.k] 37) none).size
  have B13 := sl.hide (sl.below_none (sl.unhide B12) (World.grownBy_alloc w12 (.cells #[.int .i64 (N : Int), .slice a12_ LL.length c12_, .slice b12_ (as_.tl 0 M9.A).length d12_, .int .i64 M9.st, .int .i64 M9.k] 37) none))
  have MA13 := sl.hide ((sl.unhide MA12).kept (World.grownBy_alloc w12 (.cells #[.int .i64 (N : Int), .slice a12_ LL.length c12_, .slice b12_ (as_.tl 0 M9.A).length d12_, .int .i64 M9.st, .int .i64 M9.k] 37) none))
  have MB13 := sl.hide ((sl.unhide MB12).kept (World.grownBy_alloc w12 (.cells #[.int .i64 (N : Int), .slice a12_ LL.length c12_, .slice b12_ (as_.tl 0 M9.A).length d12_, .int .i64 M9.st, .int .i64 M9.k] 37) none))
  have MD13 := sl.hide ((sl.unhide MD12).kept (World.grownBy_alloc w12 (.cells #[.int .i64 (N : Int), .slice a12_ LL.length c12_, .slice b12_ (as_.tl 0 M9.A).length d12_, .int .i64 M9.st, .int .i64 M9.k] 37) none))
  have ME13 := sl.hide ((sl.unhide ME12).kept (World.grownBy_alloc w12 (.cells #[.int .i64 (N : Int), .slice a12_ LL.length c12_, .slice b12_ (as_.tl 0 M9.A).length d12_, .int .i64 M9.st, .int .i64 M9.k] 37) none))
  have MF13 := sl.hide ((sl.unhide MF12).kept (World.grownBy_alloc w12 (.cells #[.int .i64 (N : Int), .slice a12_ LL.length c12_, .slice b12_ (as_.tl 0 M9.A).length d12_, .int .i64 M9.st, .int .i64 M9.k] 37) none))
  have MG13 := sl.hide ((sl.unhide MG12).kept (World.grownBy_alloc w12 (.cells #[.int .i64 (N : Int), .slice a12_ LL.length c12_, .slice b12_ (as_.tl 0 M9.A).length d12_, .int .i64 M9.st, .int .i64 M9.k] 37) none))
  have A13 := sl.hide ((sl.unhide A12).kept (World.grownBy_alloc w12 (.cells #[.int .i64 (N : Int), .slice a12_ LL.length c12_, .slice b12_ (as_.tl 0 M9.A).length d12_, .int .i64 M9.st, .int .i64 M9.k] 37) none))
  have Z13 := sl.hide ((sl.unhide Z12).kept (World.grownBy_alloc w12 (.cells #[.int .i64 (N : Int), .slice a12_ LL.length c12_, .slice b12_ (as_.tl 0 M9.A).length d12_, .int .i64 M9.st, .int .i64 M9.k] 37) none))
  have D13 := sl.hide ((sl.unhide D12).kept (World.grownBy_alloc w12 (.cells #[.int .i64 (N : Int), .slice a12_ LL.length c12_, .slice b12_ (as_.tl 0 M9.A).length d12_, .int .i64 M9.st, .int .i64 M9.k] 37) none))
  have Y13 := sl.hide ((sl.unhide Y12).kept (World.grownBy_alloc w12 (.cells #[.int .i64 (N : Int), .slice a12_ LL.length c12_, .slice b12_ (as_.tl 0 M9.A).length d12_, .int .i64 M9.st, .int .i64 M9.k] 37) none))
  have F13 := sl.hide ((sl.unhide F12).kept (World.grownBy_alloc w12 (.cells #[.int .i64 (N : Int), .slice a12_ LL.length c12_, .slice b12_ (as_.tl 0 M9.A).length d12_, .int .i64 M9.st, .int .i64 M9.k] 37) none))
  have q13 : Hid ((w12.alloc (.cells #[.int .i64 (N : Int), .slice a12_ LL.length c12_, .slice b12_ (as_.tl 0 M9.A).length d12_, .int .i64 M9.st, .int .i64 M9.k] 37)).heap.size = w12.heap.size + 1) := World.size_alloc ..
  have G13 := sl.hide (qa.Box5.new 37 w12 (.int .i64 (N : Int)) (.slice a12_ LL.length c12_) (.slice b12_ (as_.tl 0 M9.A).length d12_) (.int .i64 M9.st) (.int .i64 M9.k))
  clear B12 MA12 MB12 MD12 ME12 MF12 MG12 A12 Z12 D12 Y12 F12
  have zZ0 := (sl.unhide Z13).c0
  have zZ1 := (sl.unhide Z13).c1
  have zZ2 := (sl.unhide Z13).c2
  have zZ3 := (sl.unhide Z13).c3
  have zZ4 := (sl.unhide Z13).c4
  have zD0 := (sl.unhide D13).c0
  have zD1 := (sl.unhide D13).c1
  have zD2 := (sl.unhide D13).c2
  have zD3 := (sl.unhide D13).c3
  have zD4 := (sl.unhide D13).c4
  go_wp2_with fail
  refine (dcls.sameC _ _ (as_.tl 0 M1.A) _ l1 (sl.unhide MB13).sl (sl.unhide MD13).sl).mono ?_; rintro e w14 ⟨rfl, g14⟩
  clear pZ0 pZ1 pZ2 pZ3 pZ4 pZl pD0 pD1 pD2 pD3 pD4 pDl zZ0 zZ1 zZ2 zZ3 zZ4 zD0 zD1 zD2 zD3 zD4
  have s14 := sl.hide (g14).size
  have B14 := sl.hide (sl.below_none (sl.unhide B13) (g14))
  have MA14 := sl.hide ((sl.unhide MA13).kept (g14))
  have MB14 := sl.hide ((sl.unhide MB13).kept (g14))
  have MD14 := sl.hide ((sl.unhide MD13).kept (g14))
  have ME14 := sl.hide ((sl.unhide ME13).kept (g14))
  have MF14 := sl.hide ((sl.unhide MF13).kept (g14))
  have MG14 := sl.hide ((sl.unhide MG13).kept (g14))
  have A14 := sl.hide ((sl.unhide A13).kept (g14))
  have Z14 := sl.hide ((sl.unhide Z13).kept (g14))
  have D14 := sl.hide ((sl.unhide D13).kept (g14))
  have Y14 := sl.hide ((sl.unhide Y13).kept (g14))
  have F14 := sl.hide ((sl.unhide F13).kept (g14))
  have G14 := sl.hide ((sl.unhide G13).kept (g14))
  clear g14 B13 MA13 MB13 MD13 ME13 MF13 MG13 A13 Z13 D13 Y13 F13 G13
  have zZ0 := (sl.unhide Z14).c0
  have zZ1 := (sl.unhide Z14).c1
  have zZ2 := (sl.unhide Z14).c2
  have zZ3 := (sl.unhide Z14).c3
  have zZ4 := (sl.unhide Z14).c4
  have zD0 := (sl.unhide D14).c0
  have zD1 := (sl.unhide D14).c1
  have zD2 := (sl.unhide D14).c2
  have zD3 := (sl.unhide D14).c3
  have zD4 := (sl.unhide D14).c4
  have zY0 := (sl.unhide Y14).c0
  have zY1 := (sl.unhide Y14).c1
  have zY2 := (sl.unhide Y14).c2
  have zY3 := (sl.unhide Y14).c3
  have zY4 := (sl.unhide Y14).c4
  go_wp2_with fail
  refine (dcls.sameC _ _ (as_.tl 0 M1.A) _ l1 (sl.unhide MB14).sl (sl.unhide ME14).sl).mono ?_; rintro e w15 ⟨rfl, g15⟩
  clear zZ0 zZ1 zZ2 zZ3 zZ4 zD0 zD1 zD2 zD3 zD4 zY0 zY1 zY2 zY3 zY4
  have s15 := sl.hide (g15).size
  have B15 := sl.hide (sl.below_none (sl.unhide B14) (g15))
  have MA15 := sl.hide ((sl.unhide MA14).kept (g15))
  have MB15 := sl.hide ((sl.unhide MB14).kept (g15))
  have MD15 := sl.hide ((sl.unhide MD14).kept (g15))
  have ME15 := sl.hide ((sl.unhide ME14).kept (g15))
  have MF15 := sl.hide ((sl.unhide MF14).kept (g15))
  have MG15 := sl.hide ((sl.unhide MG14).kept (g15))
  have A15 := sl.hide ((sl.unhide A14).kept (g15))
  have Z15 := sl.hide ((sl.unhide Z14).kept (g15))
  have D15 := sl.hide ((sl.unhide D14).kept (g15))
  have Y15 := sl.hide ((sl.unhide Y14).kept (g15))
  have F15 := sl.hide ((sl.unhide F14).kept (g15))
  have G15 := sl.hide ((sl.unhide G14).kept (g15))
  clear g15 B14 MA14 MB14 MD14 ME14 MF14 MG14 A14 Z14 D14 Y14 F14 G14
  have CO := qb.implMachineOk _ _ (N : Int) M1.st M1.k LL (as_.tl 0 M1.A) w15 ht l1 (sl.unhide MB15).sls (sl.unhide MB15).sl
  rw [sl.unhide K1] at CO
  have HCO := sl.hide CO
  clear CO
  have zZ0 := (sl.unhide Z15).c0
  have zZ1 := (sl.unhide Z15).c1
  have zZ2 := (sl.unhide Z15).c2
  have zZ3 := (sl.unhide Z15).c3
  have zZ4 := (sl.unhide Z15).c4
  have zY0 := (sl.unhide Y15).c0
  have zY1 := (sl.unhide Y15).c1
  have zY2 := (sl.unhide Y15).c2
  have zY3 := (sl.unhide Y15).c3
  have zY4 := (sl.unhide Y15).c4
  go_wp2_with fail
  refine (sl.unhide HCO).mono ?_; rintro e w16 ⟨rfl, g16⟩
  clear zZ0 zZ1 zZ2 zZ3 zZ4 zY0 zY1 zY2 zY3 zY4
  have s16 := sl.hide (g16).size
  have B16 := sl.hide (sl.below_none (sl.unhide B15) (g16))
  have MA16 := sl.hide ((sl.unhide MA15).kept (g16))
  have MB16 := sl.hide ((sl.unhide MB15).kept (g16))
  have MD16 := sl.hide ((sl.unhide MD15).kept (g16))
  have ME16 := sl.hide ((sl.unhide ME15).kept (g16))
  have MF16 := sl.hide ((sl.unhide MF15).kept (g16))
  have MG16 := sl.hide ((sl.unhide MG15).kept (g16))
  have A16 := sl.hide ((sl.unhide A15).kept (g16))
  have Z16 := sl.hide ((sl.unhide Z15).kept (g16))
  have D16 := sl.hide ((sl.unhide D15).kept (g16))
  have Y16 := sl.hide ((sl.unhide Y15).kept (g16))
  have F16 := sl.hide ((sl.unhide F15).kept (g16))
  have G16 := sl.hide ((sl.unhide G15).kept (g16))
  clear g16 B15 MA15 MB15 MD15 ME15 MF15 MG15 A15 Z15 D15 Y15 F15 G15
  have zF0 := (sl.unhide F16).c0
  have zF1 := (sl.unhide F16).c1
  have zF2 := (sl.unhide F16).c2
  have zF3 := (sl.unhide F16).c3
  have zF4 := (sl.unhide F16).c4
  have zG0 := (sl.unhide G16).c0
  have zG1 := (sl.unhide G16).c1
  have zG2 := (sl.unhide G16).c2
  have zG3 := (sl.unhide G16).c3
  have zG4 := (sl.unhide G16).c4
  go_wp2_with fail
  go_ret
  exact ⟨rfl, sl.unhide B16⟩

/-! ### the row's step (the guide's own frame) -/
set_option maxRecDepth 100000 in
theorem contract (H : Type) (enc : TypeId × Value → H) (W : World) (base : Nat) (args : Array Value) (ds gs : List (DataW H)) (before : List MemPlace)
    (hval : ∀ (j : Nat) t v, Tryd.f5.params[j]? = some t → args[j]? = some v → Value.okWide Tryd.prog W .any base t v)
    (hW : DataW.Whole enc Tryd.prog Tryd.f5.params.toList Rows.fnStepsSpec.vars false W args.toList ds gs before) (hL : laidMetH Tryd.prog Rows.fnStepsRow.laid W) :
    Calls Tryd.prog 5 args W fun e W' => ∃ v, e = .returned v ∧ Rows.fnStepsSpec.post enc Tryd.prog Tryd.f5 false true false false W args v W' := by
  have hW' := hW
  obtain ⟨p, q, hA0, hV, rfl, hfz, hnd⟩ := hW
  have hA : DataW.TrodAll enc Tryd.prog W 0 (fun _ => true) true Tryd.f5.params.toList args.toList ds p := hA0
  rw [Tryd.params5] at hA hval
  obtain ⟨v0, vs0, d0, ds0, p0, q0, hargs, rfl, rfl, h0, r0⟩ := trodAll_cons hA
  obtain ⟨rfl, rfl, rfl⟩ := trodAll_nil r0
  obtain rfl : args = #[v0] := by cases args; simp_all
  obtain ⟨rfl, rfl⟩ := trodVars_none hV
  obtain ⟨a0, len0, cap0, rfl⟩ := okWide_slice Tryd.underlying22 (hval 0 22 v0 rfl rfl)
  have k0 := h0
  have lt0 : ∀ x ∈ p0, x.block < W.heap.size := by obtain ⟨m, hm⟩ := k0; exact DataW.trod_lt m _ _ _ hm
  obtain ⟨z0, w0⟩ : ∃ zs, IsRow .u8 W a0 len0 cap0 zs := by
    obtain ⟨fuel, hf⟩ := h0
    rcases open_ints Tryd.underlying22 Tryd.underlying5 (by kernel_rfl) hf with ⟨hcs, _⟩ | ⟨x, l, c, zs, hcs, _, hl, hm, hz, _, hcell, hwz⟩
    · simp [Value.cells] at hcs
      obtain ⟨rfl, rfl, rfl⟩ := hcs
      exact ⟨[], .inl ⟨rfl, rfl, rfl, rfl⟩⟩
    · simp [Value.cells] at hcs
      obtain ⟨rfl, rfl, rfl⟩ := hcs
      exact ⟨zs, .inr ⟨_, rfl, hl, hm, by simpa using hz, hcell, hwz⟩⟩
  clear hA0
  refine (walk a0 len0 cap0 z0 W w0 (table hL)).mono fun e W' ⟨he, bel⟩ => ?_
  subst he
  exact ⟨_, rfl, _, _, _, [], _, [], hW', trodAll_mk1 (shut_bool Tryd.underlying4 _), (trodAll_cons_mk (Below.trod laidOut (by kernel_rfl) (of_decide_eq_true (by kernel_rfl)) k0 bel lt0) trodAll_mk0), rfl, bel.frame _, fun h => by cases h⟩

set_option maxRecDepth 100000 in
theorem lifted (os : Os) (started : os.Started) (H : Type) (enc : TypeId × Value → H) (F : Stop.Interp) :
    ReturnsInHanded {} Tryd.checked os 5 .any ((OpenSpec.ofChange Rows.fnStepsSpec).preRow enc Tryd.prog Tryd.f5 Rows.fnStepsRow.domain false Rows.fnStepsRow.laid) (((OpenSpec.ofChange Rows.fnStepsSpec).at F).post enc Tryd.prog Tryd.f5 false true false false) := by
  refine returnsInHanded_of_row (C := Tryd.checked) (s := OpenSpec.ofChange Rows.fnStepsSpec) own started (by kernel_rfl) Tryd.func5
    (witness_row_at (enc := enc) (C := Tryd.checked) false ({ World.holding Tryd.prog os ⟨#[], #[], []⟩ with heap := (World.holding Tryd.prog os ⟨#[], #[], []⟩).heap.modify 3 fun | .cells _ t frozen => .cells (Lib.deBruijn64tab.map fun (n : Nat) => Value.int .u8 n).toArray t frozen | o => o } : World) #[.slice none 0 0] rfl (by kernel_rfl) (by kernel_rfl) (by kernel_rfl)
      (OpenSpec.preRow_of_cond 8 (x := ([.nil], [], [])) (by kernel_rfl) (by kernel_rfl) (fun k hk => by cases hk) (by kernel_rfl) (laidMet_of_run' 8 (by kernel_rfl) (by kernel_rfl)))) ?_
  intro W base args ds gs before hval hW _ _ _ hL _ _
  exact contract H enc W base args ds gs before hval hW hL

theorem said : Rows.FnStepsSaid :=
  OpenClaim.holds_of_cond 5 Tryd.f5 rfl rfl rfl rfl rfl rfl rfl ⟨rfl, rfl, rfl, rfl, rfl⟩ rfl rfl rfl rfl rfl (by kernel_rfl) Tryd.func5 (by kernel_rfl)
    (of_decide_eq_true (by kernel_rfl)) (by unfold Func.isWrapper; first | (rw [if_pos (by decide +kernel)]; kernel_rfl) | (rw [if_neg (by decide +kernel)]; exact ⟨rfl, rfl⟩))
    (fun os started H enc _ F => by rw [OpenClaim.pre_eq_preRow]; exact lifted os started H enc F)

theorem plain (f : FuncId) (fn : Func) (hf : Tryd.pinned.checked.prog.funcNamed "loop.example/g00123/laws.FnSteps" = some f) (hfn : Tryd.pinned.checked.prog.funcs[f]? = some fn) :
    true = Tryd.pinned.checked.prog.looks [] ∧ ∀ (j : Nat) t, fn.params[j]? = some t → Tryd.pinned.checked.prog.wantsStandIn t = false := by
  obtain rfl : f = 5 := Option.some.inj ((show Tryd.prog.funcNamed "loop.example/g00123/laws.FnSteps" = some 5 by kernel_rfl).symm.trans hf) |>.symm
  obtain rfl : fn = Tryd.f5 := (Option.some.inj (Tryd.func5.symm.trans hfn)).symm
  refine ⟨by kernel_rfl, fun j t ht => ?_⟩
  rw [Tryd.params5] at ht
  obtain rfl : t = 22 := by simpa using Array.mem_of_getElem? ht
  exact (show Tryd.prog.wantsStandIn 22 = false by kernel_rfl)

/-- the statement: the row's tied card -/
theorem proved : Rows.FnStepsCardSaid :=
  Claim7.holds_tied_plain_at .later [] _ _ _ _ said (fun _ h => by cases h) (by kernel_rfl) (fun _ h => by cases h) fnSteps_row_tie rfl ⟨rfl, rfl⟩ (by kernel_rfl) rfl plain (by kernel_rfl)
#print axioms proved
end Go.Proofs.YtlpgnaedhijdpaaDoor.fnSteps
