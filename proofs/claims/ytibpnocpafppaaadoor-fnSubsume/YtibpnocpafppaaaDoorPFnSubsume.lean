/- At every code that was drawn a formula from, impl.Subsume, impl.Units and impl.Less answer as spec.Subsume, spec.Units and spec.Less; where the formula is right, what they answer is true at the drawn assignment just where the formula is, Subsume asked again changes nothing, and it has no more clauses than the formula in order (the law FnSubsume returns true); the library's table of places lies as its text lays it (tied). -/
import Derived.Test.YtibpnocpafppaaaDoorCards
import Derived.Test.YtibpnocpafppaaaDoorTie
import Derived.Test.YtibpnocpafppaaaDoorJXEr
import Derived.Test.YtibpnocpafppaaaDoorJXEq
import Derived.Test.YtibpnocpafppaaaDoorJXDCl
import Derived.Test.YtibpnocpafppaaaDoorJXDVa
import Derived.Test.YtibpnocpafppaaaDoorJXDf
import Derived.WalkKit
import Derived.ProofKit
import Derived.OpenShut
import Derived.ShutString
import Derived.ChangeOld
import Derived.Below
import Derived.Deep.DeepHandedRow
import Derived.Lib.LaidTab
import Derived.Lib.TrailingZeros
import Derived.Stop.LaidErr
import Derived.Stop.LaidTwo
import Derived.LaidHandle
import Derived.LaidSub
namespace Go.Proofs.YtibpnocpafppaaaDoor.fnSubsume
open Go.ChangeShapes Go.WideShapes Go.ChangeAt Go.RowKit
open Go.ChangeMaps (open_string shut_string)
set_option linter.unusedVariables false

theorem own : ownKnob Tryd.prog.godebug = none := by kernel_rfl
theorem laidOut : laidOutB Tryd.prog = true := by kernel_rfl

/-- what the walk is told of a slice of integers that came in -/
def IsRow (k : IntKind) (w : World) (a : Option Addr) (len cap : Nat) (zs : List Int) : Prop :=
  (a = none ∧ len = 0 ∧ cap = 0 ∧ zs = []) ∨
  ∃ x, a = some x ∧ len ≤ cap ∧ cap ≤ maxLen ∧ zs.length = cap ∧ (∀ i, i < zs.length → w.cell? (x.add i) = some (.int k (zs.getD i 0))) ∧ ∀ n ∈ zs, (Lit.int k n).wf = true

theorem gTab : Tryd.prog.globalNamed "math/bits.deBruijn64tab" = some 0 := by kernel_rfl
theorem gTabType : (Tryd.prog.globals[0]?).map (·.type) = some 132 := by kernel_rfl
theorem cellsTab : Tryd.prog.cellsOf 132 = 64 := by kernel_rfl
theorem cellsByte : Tryd.prog.cellsOf 5 = 1 := by kernel_rfl
/-- what the row's list gives: the table's cells hold its numbers -/
theorem table {W : World} (h : laidMetH Tryd.prog Rows.fnSubsumeRow.laid W) : srt.Tab W := by
  have t : Lib.TabIs Tryd.prog W "math/bits.deBruijn64tab" .u8 (Lib.deBruijn64tab.map fun (n : Nat) => (n : Int)) :=
    Lib.tabIs_of_head (rest := []) gTab gTabType Tryd.underlying132 Tryd.underlying5 cellsByte cellsTab h
  intro j hj
  have c := t.cell gTab j (by rw [List.length_map]; exact hj)
  rw [c]
  congr 2
  rw [List.getD, List.getD, List.getElem?_map]
  cases Lib.deBruijn64tab[j]? <;> rfl

/-! ### the walk -/
set_option maxRecDepth 100000 in
set_option maxHeartbeats 8000000 in
theorem walk (a0 : Option Addr) (len0 cap0 : Nat) (z0 : List Int) (w : World) (w0 : IsRow .u8 w a0 len0 cap0 z0) (hT : srt.Tab w) :
    Calls Tryd.prog 3 #[.slice a0 len0 cap0] w fun e w' => e = .returned (.bool true) ∧ Below w.heap.size w w' := by
  have hB := draw.of_rowB w0
  have hm : len0 ≤ 9223372036854775807 := by
    rcases w0 with ⟨_, h, _, _⟩ | ⟨_, _, h1, h2, _⟩
    · omega
    · unfold maxLen at h2
      omega
  clear w0
  by_cases hbig : 1048576 < len0
  · have C := sl.hide (draw.big a0 len0 cap0 w hm)
    rw [decide_eq_true hbig] at C
    clear hT
    go_enter Tryd.func3, Tryd.ntmps3
    go_wp2_with fail
    refine (sl.unhide C).mono ?_; rintro e w' ⟨rfl, rfl⟩
    go_wp2_with fail
    go_ret
    exact ⟨rfl, Below.refl _ _⟩
  have C := sl.hide (draw.big a0 len0 cap0 w hm)
  rw [decide_eq_false hbig] at C
  have HB := sl.hide hB
  have TT := sl.hide hT; clear hT
  have hlen : len0 ≤ 1048576 := by omega
  clear hB hbig
  go_enter Tryd.func3, Tryd.ntmps3
  go_wp2_with fail
  refine (sl.unhide C).mono ?_; rintro e w' ⟨rfl, hw⟩; have hw' := hw.symm; clear hw; subst hw'
  clear C hm
  go_wp2_with fail
  refine (eq_.drawSubsume a0 len0 cap0 _ hlen (sl.unhide HB)).mono ?_; rintro e w1 ⟨n, v, LL, rfl, hn25, ht, o1, g1⟩
  obtain ⟨va, vc, rfl⟩ := o1.len
  have s1 := sl.hide (g1).size
  have B1 := sl.hide (sl.below_of (g1))
  have FA1 := sl.hide o1
  clear o1 g1
  have s2 := sl.hide (World.grownBy_alloc w1 (.cells #[(.int .i64 n), (.slice va LL.length vc)] 26) none).size
  have B2 := sl.hide (sl.below_none (sl.unhide B1) (World.grownBy_alloc w1 (.cells #[(.int .i64 n), (.slice va LL.length vc)] 26) none))
  have FA2 := sl.hide ((sl.unhide FA1).kept (World.grownBy_alloc w1 (.cells #[(.int .i64 n), (.slice va LL.length vc)] 26) none))
  have q2 : Hid ((w1.alloc (.cells #[(.int .i64 n), (.slice va LL.length vc)] 26)).heap.size = w1.heap.size + 1) := World.size_alloc ..
  have F2 := sl.hide (cf.Box.new 26 w1 (.int .i64 n) (.slice va LL.length vc))
  clear B1 FA1
  have hn1 : css.tot LL ≤ 1048576 := by omega
  obtain ⟨N, b, R1, R2, R3, TO, RI⟩ := ep.toldAll n LL hn1
  have hl1 : R1.length ≤ 1048576 := Nat.le_trans (css.tot_len R1) TO.t1
  have hl2 : R2.length ≤ 1048576 := Nat.le_trans (css.tot_len R2) TO.t2
  have hi1 := sl.hide (fun i => Nat.le_trans (css.tot_in R1 i) TO.t1)
  have hi2 := sl.hide (fun i => Nat.le_trans (css.tot_in R2 i) TO.t2)
  have BK := sl.hide hn25
  have TD := sl.hide TO
  have RT := sl.hide RI
  clear TO RI ht hn25 hn1
  have zF0 := (sl.unhide F2).c0
  have zF1 := (sl.unhide F2).c1
  go_wp2_with fail
  refine ((sl.unhide TD).ci _ _ ((sl.unhide TT).below (sl.unhide B2)) (sl.unhide FA2).sls).mono ?_; rintro e w3 ⟨u3, rfl, o3, g3⟩
  clear zF0 zF1
  obtain ⟨a3_, c3_, rfl⟩ := o3.len
  have s3 := sl.hide (g3).size
  have B3 := sl.hide (sl.below_none (sl.unhide B2) (g3))
  have FA3 := sl.hide ((sl.unhide FA2).kept (g3))
  have F3 := sl.hide ((sl.unhide F2).kept (g3))
  have GA3 := sl.hide o3
  clear o3 g3 B2 FA2 F2
  have s4 := sl.hide (World.grownBy_alloc w3 (.cells #[(.int .i64 N), (.slice a3_ R1.length c3_)] 26) none).size
  have B4 := sl.hide (sl.below_none (sl.unhide B3) (World.grownBy_alloc w3 (.cells #[(.int .i64 N), (.slice a3_ R1.length c3_)] 26) none))
  have FA4 := sl.hide ((sl.unhide FA3).kept (World.grownBy_alloc w3 (.cells #[(.int .i64 N), (.slice a3_ R1.length c3_)] 26) none))
  have GA4 := sl.hide ((sl.unhide GA3).kept (World.grownBy_alloc w3 (.cells #[(.int .i64 N), (.slice a3_ R1.length c3_)] 26) none))
  have F4 := sl.hide ((sl.unhide F3).kept (World.grownBy_alloc w3 (.cells #[(.int .i64 N), (.slice a3_ R1.length c3_)] 26) none))
  have q4 : Hid ((w3.alloc (.cells #[(.int .i64 N), (.slice a3_ R1.length c3_)] 26)).heap.size = w3.heap.size + 1) := World.size_alloc ..
  have G4 := sl.hide (cf.Box.new 26 w3 (.int .i64 N) (.slice a3_ R1.length c3_))
  clear B3 FA3 GA3 F3
  have zF0 := (sl.unhide F4).c0
  have zF1 := (sl.unhide F4).c1
  go_wp2_with fail
  refine ((sl.unhide TD).cs _ _ (sl.unhide FA4).sls).mono ?_; rintro e w5 ⟨u5, rfl, o5, g5⟩
  clear zF0 zF1
  obtain ⟨a5_, c5_, rfl⟩ := o5.len
  have s5 := sl.hide (g5).size
  have B5 := sl.hide (sl.below_none (sl.unhide B4) (g5))
  have FA5 := sl.hide ((sl.unhide FA4).kept (g5))
  have GA5 := sl.hide ((sl.unhide GA4).kept (g5))
  have F5 := sl.hide ((sl.unhide F4).kept (g5))
  have G5 := sl.hide ((sl.unhide G4).kept (g5))
  have QA5 := sl.hide o5
  clear o5 g5 B4 FA4 GA4 F4 G4
  have s6 := sl.hide (World.grownBy_alloc w5 (.cells #[(.int .i64 N), (.slice a5_ R1.length c5_)] 26) none).size
  have B6 := sl.hide (sl.below_none (sl.unhide B5) (World.grownBy_alloc w5 (.cells #[(.int .i64 N), (.slice a5_ R1.length c5_)] 26) none))
  have FA6 := sl.hide ((sl.unhide FA5).kept (World.grownBy_alloc w5 (.cells #[(.int .i64 N), (.slice a5_ R1.length c5_)] 26) none))
  have GA6 := sl.hide ((sl.unhide GA5).kept (World.grownBy_alloc w5 (.cells #[(.int .i64 N), (.slice a5_ R1.length c5_)] 26) none))
  have QA6 := sl.hide ((sl.unhide QA5).kept (World.grownBy_alloc w5 (.cells #[(.int .i64 N), (.slice a5_ R1.length c5_)] 26) none))
  have F6 := sl.hide ((sl.unhide F5).kept (World.grownBy_alloc w5 (.cells #[(.int .i64 N), (.slice a5_ R1.length c5_)] 26) none))
  have G6 := sl.hide ((sl.unhide G5).kept (World.grownBy_alloc w5 (.cells #[(.int .i64 N), (.slice a5_ R1.length c5_)] 26) none))
  have q6 : Hid ((w5.alloc (.cells #[(.int .i64 N), (.slice a5_ R1.length c5_)] 26)).heap.size = w5.heap.size + 1) := World.size_alloc ..
  have Q6 := sl.hide (cf.Box.new 26 w5 (.int .i64 N) (.slice a5_ R1.length c5_))
  clear B5 FA5 GA5 QA5 F5 G5
  have zF0 := (sl.unhide F6).c0
  have zF1 := (sl.unhide F6).c1
  go_wp2_with fail
  refine ((sl.unhide TD).ui _ _ _ _ ((sl.unhide TT).below (sl.unhide B6)) (sl.unhide FA6)).mono ?_; rintro e w7 ⟨u7, rfl, o7, g7⟩
  clear zF0 zF1
  obtain ⟨a7_, c7_, rfl⟩ := o7.len
  have s7 := sl.hide (g7).size
  have B7 := sl.hide (sl.below_none (sl.unhide B6) (g7))
  have FA7 := sl.hide ((sl.unhide FA6).kept (g7))
  have GA7 := sl.hide ((sl.unhide GA6).kept (g7))
  have QA7 := sl.hide ((sl.unhide QA6).kept (g7))
  have F7 := sl.hide ((sl.unhide F6).kept (g7))
  have G7 := sl.hide ((sl.unhide G6).kept (g7))
  have Q7 := sl.hide ((sl.unhide Q6).kept (g7))
  have UA7 := sl.hide o7
  clear o7 g7 B6 FA6 GA6 QA6 F6 G6 Q6
  have s8 := sl.hide (World.grownBy_alloc w7 (.cells #[(.int .i64 N), (.slice a7_ R2.length c7_)] 26) none).size
  have B8 := sl.hide (sl.below_none (sl.unhide B7) (World.grownBy_alloc w7 (.cells #[(.int .i64 N), (.slice a7_ R2.length c7_)] 26) none))
  have FA8 := sl.hide ((sl.unhide FA7).kept (World.grownBy_alloc w7 (.cells #[(.int .i64 N), (.slice a7_ R2.length c7_)] 26) none))
  have GA8 := sl.hide ((sl.unhide GA7).kept (World.grownBy_alloc w7 (.cells #[(.int .i64 N), (.slice a7_ R2.length c7_)] 26) none))
  have QA8 := sl.hide ((sl.unhide QA7).kept (World.grownBy_alloc w7 (.cells #[(.int .i64 N), (.slice a7_ R2.length c7_)] 26) none))
  have UA8 := sl.hide ((sl.unhide UA7).kept (World.grownBy_alloc w7 (.cells #[(.int .i64 N), (.slice a7_ R2.length c7_)] 26) none))
  have F8 := sl.hide ((sl.unhide F7).kept (World.grownBy_alloc w7 (.cells #[(.int .i64 N), (.slice a7_ R2.length c7_)] 26) none))
  have G8 := sl.hide ((sl.unhide G7).kept (World.grownBy_alloc w7 (.cells #[(.int .i64 N), (.slice a7_ R2.length c7_)] 26) none))
  have Q8 := sl.hide ((sl.unhide Q7).kept (World.grownBy_alloc w7 (.cells #[(.int .i64 N), (.slice a7_ R2.length c7_)] 26) none))
  have q8 : Hid ((w7.alloc (.cells #[(.int .i64 N), (.slice a7_ R2.length c7_)] 26)).heap.size = w7.heap.size + 1) := World.size_alloc ..
  have U8 := sl.hide (cf.Box.new 26 w7 (.int .i64 N) (.slice a7_ R2.length c7_))
  clear B7 FA7 GA7 QA7 UA7 F7 G7 Q7
  have zF0 := (sl.unhide F8).c0
  have zF1 := (sl.unhide F8).c1
  go_wp2_with fail
  refine ((sl.unhide TD).us _ _ _ _ (sl.unhide FA8) (by have s1_ := sl.unhide s1; have s2_ := sl.unhide s2; have q2_ := sl.unhide q2; have s3_ := sl.unhide s3; have s4_ := sl.unhide s4; have q4_ := sl.unhide q4; have s5_ := sl.unhide s5; have s6_ := sl.unhide s6; have q6_ := sl.unhide q6; have s7_ := sl.unhide s7; have s8_ := sl.unhide s8; have q8_ := sl.unhide q8; omega)).mono ?_; rintro e w9 ⟨u9, rfl, o9, g9⟩
  clear zF0 zF1
  obtain ⟨a9_, c9_, rfl⟩ := o9.len
  have s9 := sl.hide (g9).size
  have B9 := sl.hide (sl.below_none (sl.unhide B8) (g9))
  have FA9 := sl.hide ((sl.unhide FA8).kept (g9))
  have GA9 := sl.hide ((sl.unhide GA8).kept (g9))
  have QA9 := sl.hide ((sl.unhide QA8).kept (g9))
  have UA9 := sl.hide ((sl.unhide UA8).kept (g9))
  have F9 := sl.hide ((sl.unhide F8).kept (g9))
  have G9 := sl.hide ((sl.unhide G8).kept (g9))
  have Q9 := sl.hide ((sl.unhide Q8).kept (g9))
  have U9 := sl.hide ((sl.unhide U8).kept (g9))
  have MA9 := sl.hide o9
  clear o9 g9 B8 FA8 GA8 QA8 UA8 F8 G8 Q8 U8
  have s10 := sl.hide (World.grownBy_alloc w9 (.cells #[(.int .i64 N), (.slice a9_ R2.length c9_)] 26) none).size
  have B10 := sl.hide (sl.below_none (sl.unhide B9) (World.grownBy_alloc w9 (.cells #[(.int .i64 N), (.slice a9_ R2.length c9_)] 26) none))
  have FA10 := sl.hide ((sl.unhide FA9).kept (World.grownBy_alloc w9 (.cells #[(.int .i64 N), (.slice a9_ R2.length c9_)] 26) none))
  have GA10 := sl.hide ((sl.unhide GA9).kept (World.grownBy_alloc w9 (.cells #[(.int .i64 N), (.slice a9_ R2.length c9_)] 26) none))
  have QA10 := sl.hide ((sl.unhide QA9).kept (World.grownBy_alloc w9 (.cells #[(.int .i64 N), (.slice a9_ R2.length c9_)] 26) none))
  have UA10 := sl.hide ((sl.unhide UA9).kept (World.grownBy_alloc w9 (.cells #[(.int .i64 N), (.slice a9_ R2.length c9_)] 26) none))
  have MA10 := sl.hide ((sl.unhide MA9).kept (World.grownBy_alloc w9 (.cells #[(.int .i64 N), (.slice a9_ R2.length c9_)] 26) none))
  have F10 := sl.hide ((sl.unhide F9).kept (World.grownBy_alloc w9 (.cells #[(.int .i64 N), (.slice a9_ R2.length c9_)] 26) none))
  have G10 := sl.hide ((sl.unhide G9).kept (World.grownBy_alloc w9 (.cells #[(.int .i64 N), (.slice a9_ R2.length c9_)] 26) none))
  have Q10 := sl.hide ((sl.unhide Q9).kept (World.grownBy_alloc w9 (.cells #[(.int .i64 N), (.slice a9_ R2.length c9_)] 26) none))
  have U10 := sl.hide ((sl.unhide U9).kept (World.grownBy_alloc w9 (.cells #[(.int .i64 N), (.slice a9_ R2.length c9_)] 26) none))
  have q10 : Hid ((w9.alloc (.cells #[(.int .i64 N), (.slice a9_ R2.length c9_)] 26)).heap.size = w9.heap.size + 1) := World.size_alloc ..
  have M10 := sl.hide (cf.Box.new 26 w9 (.int .i64 N) (.slice a9_ R2.length c9_))
  clear B9 FA9 GA9 QA9 UA9 MA9 F9 G9 Q9 U9
  have zF0 := (sl.unhide F10).c0
  have zF1 := (sl.unhide F10).c1
  go_wp2_with fail
  refine ((sl.unhide TD).li _ _ _ _ ((sl.unhide TT).below (sl.unhide B10)) (sl.unhide FA10)).mono ?_; rintro e w11 ⟨u11, rfl, o11, g11⟩
  clear zF0 zF1
  obtain ⟨a11_, c11_, rfl⟩ := o11.len
  have s11 := sl.hide (g11).size
  have B11 := sl.hide (sl.below_none (sl.unhide B10) (g11))
  have FA11 := sl.hide ((sl.unhide FA10).kept (g11))
  have GA11 := sl.hide ((sl.unhide GA10).kept (g11))
  have QA11 := sl.hide ((sl.unhide QA10).kept (g11))
  have UA11 := sl.hide ((sl.unhide UA10).kept (g11))
  have MA11 := sl.hide ((sl.unhide MA10).kept (g11))
  have F11 := sl.hide ((sl.unhide F10).kept (g11))
  have G11 := sl.hide ((sl.unhide G10).kept (g11))
  have Q11 := sl.hide ((sl.unhide Q10).kept (g11))
  have U11 := sl.hide ((sl.unhide U10).kept (g11))
  have M11 := sl.hide ((sl.unhide M10).kept (g11))
  have LA11 := sl.hide o11
  clear o11 g11 B10 FA10 GA10 QA10 UA10 MA10 F10 G10 Q10 U10 M10
  have s12 := sl.hide (World.grownBy_alloc w11 (.cells #[(.int .i64 N), (.slice a11_ R3.length c11_)] 26) none).size
  have B12 := sl.hide (sl.below_none (sl.unhide B11) (World.grownBy_alloc w11 (.cells #[(.int .i64 N), (.slice a11_ R3.length c11_)] 26) none))
  have FA12 := sl.hide ((sl.unhide FA11).kept (World.grownBy_alloc w11 (.cells #[(.int .i64 N), (.slice a11_ R3.length c11_)] 26) none))
  have GA12 := sl.hide ((sl.unhide GA11).kept (World.grownBy_alloc w11 (.cells #[(.int .i64 N), (.slice a11_ R3.length c11_)] 26) none))
  have QA12 := sl.hide ((sl.unhide QA11).kept (World.grownBy_alloc w11 (.cells #[(.int .i64 N), (.slice a11_ R3.length c11_)] 26) none))
  have UA12 := sl.hide ((sl.unhide UA11).kept (World.grownBy_alloc w11 (.cells #[(.int .i64 N), (.slice a11_ R3.length c11_)] 26) none))
  have MA12 := sl.hide ((sl.unhide MA11).kept (World.grownBy_alloc w11 (.cells #[(.int .i64 N), (.slice a11_ R3.length c11_)] 26) none))
  have LA12 := sl.hide ((sl.unhide LA11).kept (World.grownBy_alloc w11 (.cells #[(.int .i64 N), (.slice a11_ R3.length c11_)] 26) none))
  have F12 := sl.hide ((sl.unhide F11).kept (World.grownBy_alloc w11 (.cells #[(.int .i64 N), (.slice a11_ R3.length c11_)] 26) none))
  have G12 := sl.hide ((sl.unhide G11).kept (World.grownBy_alloc w11 (.cells #[(.int .i64 N), (.slice a11_ R3.length c11_)] 26) none))
  have Q12 := sl.hide ((sl.unhide Q11).kept (World.grownBy_alloc w11 (.cells #[(.int .i64 N), (.slice a11_ R3.length c11_)] 26) none))
  have U12 := sl.hide ((sl.unhide U11).kept (World.grownBy_alloc w11 (.cells #[(.int .i64 N), (.slice a11_ R3.length c11_)] 26) none))
  have M12 := sl.hide ((sl.unhide M11).kept (World.grownBy_alloc w11 (.cells #[(.int .i64 N), (.slice a11_ R3.length c11_)] 26) none))
  have q12 : Hid ((w11.alloc (.cells #[(.int .i64 N), (.slice a11_ R3.length c11_)] 26)).heap.size = w11.heap.size + 1) := World.size_alloc ..
  have L12 := sl.hide (cf.Box.new 26 w11 (.int .i64 N) (.slice a11_ R3.length c11_))
  clear B11 FA11 GA11 QA11 UA11 MA11 LA11 F11 G11 Q11 U11 M11
  have zF0 := (sl.unhide F12).c0
  have zF1 := (sl.unhide F12).c1
  go_wp2_with fail
  refine ((sl.unhide TD).ls _ _ _ _ (sl.unhide FA12) (by have s1_ := sl.unhide s1; have s2_ := sl.unhide s2; have q2_ := sl.unhide q2; have s3_ := sl.unhide s3; have s4_ := sl.unhide s4; have q4_ := sl.unhide q4; have s5_ := sl.unhide s5; have s6_ := sl.unhide s6; have q6_ := sl.unhide q6; have s7_ := sl.unhide s7; have s8_ := sl.unhide s8; have q8_ := sl.unhide q8; have s9_ := sl.unhide s9; have s10_ := sl.unhide s10; have q10_ := sl.unhide q10; have s11_ := sl.unhide s11; have s12_ := sl.unhide s12; have q12_ := sl.unhide q12; omega)).mono ?_; rintro e w13 ⟨u13, rfl, o13, g13⟩
  clear zF0 zF1
  obtain ⟨a13_, c13_, rfl⟩ := o13.len
  have s13 := sl.hide (g13).size
  have B13 := sl.hide (sl.below_none (sl.unhide B12) (g13))
  have FA13 := sl.hide ((sl.unhide FA12).kept (g13))
  have GA13 := sl.hide ((sl.unhide GA12).kept (g13))
  have QA13 := sl.hide ((sl.unhide QA12).kept (g13))
  have UA13 := sl.hide ((sl.unhide UA12).kept (g13))
  have MA13 := sl.hide ((sl.unhide MA12).kept (g13))
  have LA13 := sl.hide ((sl.unhide LA12).kept (g13))
  have F13 := sl.hide ((sl.unhide F12).kept (g13))
  have G13 := sl.hide ((sl.unhide G12).kept (g13))
  have Q13 := sl.hide ((sl.unhide Q12).kept (g13))
  have U13 := sl.hide ((sl.unhide U12).kept (g13))
  have M13 := sl.hide ((sl.unhide M12).kept (g13))
  have L13 := sl.hide ((sl.unhide L12).kept (g13))
  have SA13 := sl.hide o13
  clear o13 g13 B12 FA12 GA12 QA12 UA12 MA12 LA12 F12 G12 Q12 U12 M12 L12
  have s14 := sl.hide (World.grownBy_alloc w13 (.cells #[(.int .i64 N), (.slice a13_ R3.length c13_)] 26) none).size
  have B14 := sl.hide (sl.below_none (sl.unhide B13) (World.grownBy_alloc w13 (.cells #[(.int .i64 N), (.slice a13_ R3.length c13_)] 26) none))
  have FA14 := sl.hide ((sl.unhide FA13).kept (World.grownBy_alloc w13 (.cells #[(.int .i64 N), (.slice a13_ R3.length c13_)] 26) none))
  have GA14 := sl.hide ((sl.unhide GA13).kept (World.grownBy_alloc w13 (.cells #[(.int .i64 N), (.slice a13_ R3.length c13_)] 26) none))
  have QA14 := sl.hide ((sl.unhide QA13).kept (World.grownBy_alloc w13 (.cells #[(.int .i64 N), (.slice a13_ R3.length c13_)] 26) none))
  have UA14 := sl.hide ((sl.unhide UA13).kept (World.grownBy_alloc w13 (.cells #[(.int .i64 N), (.slice a13_ R3.length c13_)] 26) none))
  have MA14 := sl.hide ((sl.unhide MA13).kept (World.grownBy_alloc w13 (.cells #[(.int .i64 N), (.slice a13_ R3.length c13_)] 26) none))
  have LA14 := sl.hide ((sl.unhide LA13).kept (World.grownBy_alloc w13 (.cells #[(.int .i64 N), (.slice a13_ R3.length c13_)] 26) none))
  have SA14 := sl.hide ((sl.unhide SA13).kept (World.grownBy_alloc w13 (.cells #[(.int .i64 N), (.slice a13_ R3.length c13_)] 26) none))
  have F14 := sl.hide ((sl.unhide F13).kept (World.grownBy_alloc w13 (.cells #[(.int .i64 N), (.slice a13_ R3.length c13_)] 26) none))
  have G14 := sl.hide ((sl.unhide G13).kept (World.grownBy_alloc w13 (.cells #[(.int .i64 N), (.slice a13_ R3.length c13_)] 26) none))
  have Q14 := sl.hide ((sl.unhide Q13).kept (World.grownBy_alloc w13 (.cells #[(.int .i64 N), (.slice a13_ R3.length c13_)] 26) none))
  have U14 := sl.hide ((sl.unhide U13).kept (World.grownBy_alloc w13 (.cells #[(.int .i64 N), (.slice a13_ R3.length c13_)] 26) none))
  have M14 := sl.hide ((sl.unhide M13).kept (World.grownBy_alloc w13 (.cells #[(.int .i64 N), (.slice a13_ R3.length c13_)] 26) none))
  have L14 := sl.hide ((sl.unhide L13).kept (World.grownBy_alloc w13 (.cells #[(.int .i64 N), (.slice a13_ R3.length c13_)] 26) none))
  have q14 : Hid ((w13.alloc (.cells #[(.int .i64 N), (.slice a13_ R3.length c13_)] 26)).heap.size = w13.heap.size + 1) := World.size_alloc ..
  have S14 := sl.hide (cf.Box.new 26 w13 (.int .i64 N) (.slice a13_ R3.length c13_))
  clear B13 FA13 GA13 QA13 UA13 MA13 LA13 SA13 F13 G13 Q13 U13 M13 L13
  have zF0 := (sl.unhide F14).c0
  have zF1 := (sl.unhide F14).c1
  have zG0 := (sl.unhide G14).c0
  have zG1 := (sl.unhide G14).c1
  have zQ0 := (sl.unhide Q14).c0
  have zQ1 := (sl.unhide Q14).c1
  have zU0 := (sl.unhide U14).c0
  have zU1 := (sl.unhide U14).c1
  have zM0 := (sl.unhide M14).c0
  have zM1 := (sl.unhide M14).c1
  have zL0 := (sl.unhide L14).c0
  have zL1 := (sl.unhide L14).c1
  go_wp2_with fail
  refine (df.sameList _ _ R1 _ hl1 (sl.unhide hi1) (sl.unhide GA14).sls (sl.unhide QA14).sls).mono ?_; rintro e w15 ⟨rfl, g15⟩
  clear zF0 zF1 zG0 zG1 zQ0 zQ1 zU0 zU1 zM0 zM1 zL0 zL1
  have s15 := sl.hide (g15).size
  have B15 := sl.hide (sl.below_none (sl.unhide B14) (g15))
  have FA15 := sl.hide ((sl.unhide FA14).kept (g15))
  have GA15 := sl.hide ((sl.unhide GA14).kept (g15))
  have QA15 := sl.hide ((sl.unhide QA14).kept (g15))
  have UA15 := sl.hide ((sl.unhide UA14).kept (g15))
  have MA15 := sl.hide ((sl.unhide MA14).kept (g15))
  have LA15 := sl.hide ((sl.unhide LA14).kept (g15))
  have SA15 := sl.hide ((sl.unhide SA14).kept (g15))
  have F15 := sl.hide ((sl.unhide F14).kept (g15))
  have G15 := sl.hide ((sl.unhide G14).kept (g15))
  have Q15 := sl.hide ((sl.unhide Q14).kept (g15))
  have U15 := sl.hide ((sl.unhide U14).kept (g15))
  have M15 := sl.hide ((sl.unhide M14).kept (g15))
  have L15 := sl.hide ((sl.unhide L14).kept (g15))
  have S15 := sl.hide ((sl.unhide S14).kept (g15))
  clear g15 B14 FA14 GA14 QA14 UA14 MA14 LA14 SA14 F14 G14 Q14 U14 M14 L14 S14
  have zF0 := (sl.unhide F15).c0
  have zF1 := (sl.unhide F15).c1
  have zG0 := (sl.unhide G15).c0
  have zG1 := (sl.unhide G15).c1
  have zQ0 := (sl.unhide Q15).c0
  have zQ1 := (sl.unhide Q15).c1
  have zU0 := (sl.unhide U15).c0
  have zU1 := (sl.unhide U15).c1
  have zM0 := (sl.unhide M15).c0
  have zM1 := (sl.unhide M15).c1
  have zL0 := (sl.unhide L15).c0
  have zL1 := (sl.unhide L15).c1
  go_wp2_with fail
  refine (df.sameList _ _ R2 _ hl2 (sl.unhide hi2) (sl.unhide UA15).sls (sl.unhide MA15).sls).mono ?_; rintro e w16 ⟨rfl, g16⟩
  clear zF0 zF1 zG0 zG1 zQ0 zQ1 zU0 zU1 zM0 zM1 zL0 zL1
  have s16 := sl.hide (g16).size
  have B16 := sl.hide (sl.below_none (sl.unhide B15) (g16))
  have FA16 := sl.hide ((sl.unhide FA15).kept (g16))
  have GA16 := sl.hide ((sl.unhide GA15).kept (g16))
  have QA16 := sl.hide ((sl.unhide QA15).kept (g16))
  have UA16 := sl.hide ((sl.unhide UA15).kept (g16))
  have MA16 := sl.hide ((sl.unhide MA15).kept (g16))
  have LA16 := sl.hide ((sl.unhide LA15).kept (g16))
  have SA16 := sl.hide ((sl.unhide SA15).kept (g16))
  have F16 := sl.hide ((sl.unhide F15).kept (g16))
  have G16 := sl.hide ((sl.unhide G15).kept (g16))
  have Q16 := sl.hide ((sl.unhide Q15).kept (g16))
  have U16 := sl.hide ((sl.unhide U15).kept (g16))
  have M16 := sl.hide ((sl.unhide M15).kept (g16))
  have L16 := sl.hide ((sl.unhide L15).kept (g16))
  have S16 := sl.hide ((sl.unhide S15).kept (g16))
  clear g16 B15 FA15 GA15 QA15 UA15 MA15 LA15 SA15 F15 G15 Q15 U15 M15 L15 S15
  clear QA16 MA16 SA16
  have zF0 := (sl.unhide F16).c0
  have zF1 := (sl.unhide F16).c1
  cases b
  · go_wp2_with fail
    go_ret
    exact ⟨rfl, sl.unhide B16⟩
  clear zF0 zF1
  obtain ⟨m, S, RR⟩ := sl.unhide RT (by first | rfl | trivial)
  have hnm := RR.nm
  have hm24 := RR.m24
  have hle := RR.le
  have hlt := RR.lt
  subst hnm
  have RH := sl.hide RR
  clear RR RT TD hi2 hl2
  have zF0 := (sl.unhide F16).c0
  have zF1 := (sl.unhide F16).c1
  have zG0 := (sl.unhide G16).c0
  have zG1 := (sl.unhide G16).c1
  have zU0 := (sl.unhide U16).c0
  have zU1 := (sl.unhide U16).c1
  have zL0 := (sl.unhide L16).c0
  have zL1 := (sl.unhide L16).c1
  go_wp2_with fail
  refine (dva.values a0 len0 cap0 m _ hlen hm24 ((sl.unhide HB).below (sl.unhide B16))).mono ?_; rintro e w17 ⟨xv, X, rfl, hX, hbits, mx⟩
  clear zF0 zF1 zG0 zG1 zU0 zU1 zL0 zL1
  obtain ⟨xa, xc, rfl, _⟩ := (sl.Own.of mx.1).sl
  have g17 := mx.2
  have XA17 := sl.hide (sl.Own.of mx.1)
  have hX2 : X.length ≤ 1048576 := by omega
  clear hX
  have s17 := sl.hide (g17).size
  have B17 := sl.hide (sl.below_none (sl.unhide B16) (g17))
  have FA17 := sl.hide ((sl.unhide FA16).kept (g17))
  have GA17 := sl.hide ((sl.unhide GA16).kept (g17))
  have UA17 := sl.hide ((sl.unhide UA16).kept (g17))
  have LA17 := sl.hide ((sl.unhide LA16).kept (g17))
  have F17 := sl.hide ((sl.unhide F16).kept (g17))
  have G17 := sl.hide ((sl.unhide G16).kept (g17))
  have Q17 := sl.hide ((sl.unhide Q16).kept (g17))
  have U17 := sl.hide ((sl.unhide U16).kept (g17))
  have M17 := sl.hide ((sl.unhide M16).kept (g17))
  have L17 := sl.hide ((sl.unhide L16).kept (g17))
  have S17 := sl.hide ((sl.unhide S16).kept (g17))
  clear g17 mx hbits B16 FA16 GA16 UA16 LA16 F16 G16 Q16 U16 M16 L16 S16
  obtain ⟨t, q1, q2, q3, q4⟩ := (sl.unhide RH).tr X hX2
  have Q1 := sl.hide q1
  have Q2 := sl.hide q2
  have Q3 := sl.hide q3
  have Q4 := sl.hide q4
  clear q1 q2 q3 q4
  have zF0 := (sl.unhide F17).c0
  have zF1 := (sl.unhide F17).c1
  have zG0 := (sl.unhide G17).c0
  have zG1 := (sl.unhide G17).c1
  have zU0 := (sl.unhide U17).c0
  have zU1 := (sl.unhide U17).c1
  have zL0 := (sl.unhide L17).c0
  have zL1 := (sl.unhide L17).c1
  go_wp2_with fail
  refine ((sl.unhide RH).ag _ _ ((sl.unhide TT).below (sl.unhide B17)) (sl.unhide GA17).sls).mono ?_; rintro e w18 ⟨u18, rfl, o18, g18⟩
  clear zF0 zF1 zG0 zG1 zU0 zU1 zL0 zL1
  obtain ⟨a18_, c18_, rfl⟩ := o18.len
  have s18 := sl.hide (g18).size
  have B18 := sl.hide (sl.below_none (sl.unhide B17) (g18))
  have FA18 := sl.hide ((sl.unhide FA17).kept (g18))
  have GA18 := sl.hide ((sl.unhide GA17).kept (g18))
  have UA18 := sl.hide ((sl.unhide UA17).kept (g18))
  have LA18 := sl.hide ((sl.unhide LA17).kept (g18))
  have XA18 := sl.hide ((sl.unhide XA17).kept (g18))
  have F18 := sl.hide ((sl.unhide F17).kept (g18))
  have G18 := sl.hide ((sl.unhide G17).kept (g18))
  have Q18 := sl.hide ((sl.unhide Q17).kept (g18))
  have U18 := sl.hide ((sl.unhide U17).kept (g18))
  have M18 := sl.hide ((sl.unhide M17).kept (g18))
  have L18 := sl.hide ((sl.unhide L17).kept (g18))
  have S18 := sl.hide ((sl.unhide S17).kept (g18))
  have AA18 := sl.hide o18
  clear o18 g18 B17 FA17 GA17 UA17 LA17 XA17 F17 G17 Q17 U17 M17 L17 S17
  have s19 := sl.hide (World.grownBy_alloc w18 (.cells #[(.int .i64 N), (.slice a18_ R1.length c18_)] 26) none).size
  have B19 := sl.hide (sl.below_none (sl.unhide B18) (World.grownBy_alloc w18 (.cells #[(.int .i64 N), (.slice a18_ R1.length c18_)] 26) none))
  have FA19 := sl.hide ((sl.unhide FA18).kept (World.grownBy_alloc w18 (.cells #[(.int .i64 N), (.slice a18_ R1.length c18_)] 26) none))
  have GA19 := sl.hide ((sl.unhide GA18).kept (World.grownBy_alloc w18 (.cells #[(.int .i64 N), (.slice a18_ R1.length c18_)] 26) none))
  have UA19 := sl.hide ((sl.unhide UA18).kept (World.grownBy_alloc w18 (.cells #[(.int .i64 N), (.slice a18_ R1.length c18_)] 26) none))
  have LA19 := sl.hide ((sl.unhide LA18).kept (World.grownBy_alloc w18 (.cells #[(.int .i64 N), (.slice a18_ R1.length c18_)] 26) none))
  have XA19 := sl.hide ((sl.unhide XA18).kept (World.grownBy_alloc w18 (.cells #[(.int .i64 N), (.slice a18_ R1.length c18_)] 26) none))
  have AA19 := sl.hide ((sl.unhide AA18).kept (World.grownBy_alloc w18 (.cells #[(.int .i64 N), (.slice a18_ R1.length c18_)] 26) none))
  have F19 := sl.hide ((sl.unhide F18).kept (World.grownBy_alloc w18 (.cells #[(.int .i64 N), (.slice a18_ R1.length c18_)] 26) none))
  have G19 := sl.hide ((sl.unhide G18).kept (World.grownBy_alloc w18 (.cells #[(.int .i64 N), (.slice a18_ R1.length c18_)] 26) none))
  have Q19 := sl.hide ((sl.unhide Q18).kept (World.grownBy_alloc w18 (.cells #[(.int .i64 N), (.slice a18_ R1.length c18_)] 26) none))
  have U19 := sl.hide ((sl.unhide U18).kept (World.grownBy_alloc w18 (.cells #[(.int .i64 N), (.slice a18_ R1.length c18_)] 26) none))
  have M19 := sl.hide ((sl.unhide M18).kept (World.grownBy_alloc w18 (.cells #[(.int .i64 N), (.slice a18_ R1.length c18_)] 26) none))
  have L19 := sl.hide ((sl.unhide L18).kept (World.grownBy_alloc w18 (.cells #[(.int .i64 N), (.slice a18_ R1.length c18_)] 26) none))
  have S19 := sl.hide ((sl.unhide S18).kept (World.grownBy_alloc w18 (.cells #[(.int .i64 N), (.slice a18_ R1.length c18_)] 26) none))
  have q19 : Hid ((w18.alloc (.cells #[(.int .i64 N), (.slice a18_ R1.length c18_)] 26)).heap.size = w18.heap.size + 1) := World.size_alloc ..
  have A19 := sl.hide (cf.Box.new 26 w18 (.int .i64 N) (.slice a18_ R1.length c18_))
  clear B18 FA18 GA18 UA18 LA18 XA18 AA18 F18 G18 Q18 U18 M18 L18 S18
  have zF0 := (sl.unhide F19).c0
  have zF1 := (sl.unhide F19).c1
  have zG0 := (sl.unhide G19).c0
  have zG1 := (sl.unhide G19).c1
  have zU0 := (sl.unhide U19).c0
  have zU1 := (sl.unhide U19).c1
  have zL0 := (sl.unhide L19).c0
  have zL1 := (sl.unhide L19).c1
  go_wp2_with fail
  refine ((sl.unhide RH).so _ _ ((sl.unhide TT).below (sl.unhide B19)) (sl.unhide FA19).sls).mono ?_; rintro e w20 ⟨u20, rfl, o20, g20⟩
  clear zF0 zF1 zG0 zG1 zU0 zU1 zL0 zL1
  obtain ⟨a20_, c20_, rfl⟩ := o20.len
  have s20 := sl.hide (g20).size
  have B20 := sl.hide (sl.below_none (sl.unhide B19) (g20))
  have FA20 := sl.hide ((sl.unhide FA19).kept (g20))
  have GA20 := sl.hide ((sl.unhide GA19).kept (g20))
  have UA20 := sl.hide ((sl.unhide UA19).kept (g20))
  have LA20 := sl.hide ((sl.unhide LA19).kept (g20))
  have XA20 := sl.hide ((sl.unhide XA19).kept (g20))
  have AA20 := sl.hide ((sl.unhide AA19).kept (g20))
  have F20 := sl.hide ((sl.unhide F19).kept (g20))
  have G20 := sl.hide ((sl.unhide G19).kept (g20))
  have Q20 := sl.hide ((sl.unhide Q19).kept (g20))
  have U20 := sl.hide ((sl.unhide U19).kept (g20))
  have M20 := sl.hide ((sl.unhide M19).kept (g20))
  have L20 := sl.hide ((sl.unhide L19).kept (g20))
  have S20 := sl.hide ((sl.unhide S19).kept (g20))
  have A20 := sl.hide ((sl.unhide A19).kept (g20))
  have ZA20 := sl.hide o20
  clear o20 g20 B19 FA19 GA19 UA19 LA19 XA19 AA19 F19 G19 Q19 U19 M19 L19 S19 A19
  have s21 := sl.hide (World.grownBy_alloc w20 (.cells #[(.int .i64 (m : Int)), (.slice a20_ S.length c20_)] 26) none).size
  have B21 := sl.hide (sl.below_none (sl.unhide B20) (World.grownBy_alloc w20 (.cells #[(.int .i64 (m : Int)), (.slice a20_ S.length c20_)] 26) none))
  have FA21 := sl.hide ((sl.unhide FA20).kept (World.grownBy_alloc w20 (.cells #[(.int .i64 (m : Int)), (.slice a20_ S.length c20_)] 26) none))
  have GA21 := sl.hide ((sl.unhide GA20).kept (World.grownBy_alloc w20 (.cells #[(.int .i64 (m : Int)), (.slice a20_ S.length c20_)] 26) none))
  have UA21 := sl.hide ((sl.unhide UA20).kept (World.grownBy_alloc w20 (.cells #[(.int .i64 (m : Int)), (.slice a20_ S.length c20_)] 26) none))
  have LA21 := sl.hide ((sl.unhide LA20).kept (World.grownBy_alloc w20 (.cells #[(.int .i64 (m : Int)), (.slice a20_ S.length c20_)] 26) none))
  have XA21 := sl.hide ((sl.unhide XA20).kept (World.grownBy_alloc w20 (.cells #[(.int .i64 (m : Int)), (.slice a20_ S.length c20_)] 26) none))
  have AA21 := sl.hide ((sl.unhide AA20).kept (World.grownBy_alloc w20 (.cells #[(.int .i64 (m : Int)), (.slice a20_ S.length c20_)] 26) none))
  have ZA21 := sl.hide ((sl.unhide ZA20).kept (World.grownBy_alloc w20 (.cells #[(.int .i64 (m : Int)), (.slice a20_ S.length c20_)] 26) none))
  have F21 := sl.hide ((sl.unhide F20).kept (World.grownBy_alloc w20 (.cells #[(.int .i64 (m : Int)), (.slice a20_ S.length c20_)] 26) none))
  have G21 := sl.hide ((sl.unhide G20).kept (World.grownBy_alloc w20 (.cells #[(.int .i64 (m : Int)), (.slice a20_ S.length c20_)] 26) none))
  have Q21 := sl.hide ((sl.unhide Q20).kept (World.grownBy_alloc w20 (.cells #[(.int .i64 (m : Int)), (.slice a20_ S.length c20_)] 26) none))
  have U21 := sl.hide ((sl.unhide U20).kept (World.grownBy_alloc w20 (.cells #[(.int .i64 (m : Int)), (.slice a20_ S.length c20_)] 26) none))
  have M21 := sl.hide ((sl.unhide M20).kept (World.grownBy_alloc w20 (.cells #[(.int .i64 (m : Int)), (.slice a20_ S.length c20_)] 26) none))
  have L21 := sl.hide ((sl.unhide L20).kept (World.grownBy_alloc w20 (.cells #[(.int .i64 (m : Int)), (.slice a20_ S.length c20_)] 26) none))
  have S21 := sl.hide ((sl.unhide S20).kept (World.grownBy_alloc w20 (.cells #[(.int .i64 (m : Int)), (.slice a20_ S.length c20_)] 26) none))
  have A21 := sl.hide ((sl.unhide A20).kept (World.grownBy_alloc w20 (.cells #[(.int .i64 (m : Int)), (.slice a20_ S.length c20_)] 26) none))
  have q21 : Hid ((w20.alloc (.cells #[(.int .i64 (m : Int)), (.slice a20_ S.length c20_)] 26)).heap.size = w20.heap.size + 1) := World.size_alloc ..
  have Z21 := sl.hide (cf.Box.new 26 w20 (.int .i64 (m : Int)) (.slice a20_ S.length c20_))
  clear B20 FA20 GA20 UA20 LA20 XA20 AA20 ZA20 F20 G20 Q20 U20 M20 L20 S20 A20
  have zF0 := (sl.unhide F21).c0
  have zF1 := (sl.unhide F21).c1
  have zG0 := (sl.unhide G21).c0
  have zG1 := (sl.unhide G21).c1
  have zU0 := (sl.unhide U21).c0
  have zU1 := (sl.unhide U21).c1
  have zL0 := (sl.unhide L21).c0
  have zL1 := (sl.unhide L21).c1
  have zA0 := (sl.unhide A21).c0
  have zA1 := (sl.unhide A21).c1
  have zZ0 := (sl.unhide Z21).c0
  have zZ1 := (sl.unhide Z21).c1
  go_wp2_with fail
  refine (sl.unhide Q1 _ _ _ (sl.unhide FA21).sls (sl.unhide XA21).sl).mono ?_; rintro e w22 ⟨rfl, g22⟩
  clear zF0 zF1 zG0 zG1 zU0 zU1 zL0 zL1 zA0 zA1 zZ0 zZ1
  have s22 := sl.hide (g22).size
  have B22 := sl.hide (sl.below_none (sl.unhide B21) (g22))
  have FA22 := sl.hide ((sl.unhide FA21).kept (g22))
  have GA22 := sl.hide ((sl.unhide GA21).kept (g22))
  have UA22 := sl.hide ((sl.unhide UA21).kept (g22))
  have LA22 := sl.hide ((sl.unhide LA21).kept (g22))
  have XA22 := sl.hide ((sl.unhide XA21).kept (g22))
  have AA22 := sl.hide ((sl.unhide AA21).kept (g22))
  have ZA22 := sl.hide ((sl.unhide ZA21).kept (g22))
  have F22 := sl.hide ((sl.unhide F21).kept (g22))
  have G22 := sl.hide ((sl.unhide G21).kept (g22))
  have Q22 := sl.hide ((sl.unhide Q21).kept (g22))
  have U22 := sl.hide ((sl.unhide U21).kept (g22))
  have M22 := sl.hide ((sl.unhide M21).kept (g22))
  have L22 := sl.hide ((sl.unhide L21).kept (g22))
  have S22 := sl.hide ((sl.unhide S21).kept (g22))
  have A22 := sl.hide ((sl.unhide A21).kept (g22))
  have Z22 := sl.hide ((sl.unhide Z21).kept (g22))
  clear g22 B21 FA21 GA21 UA21 LA21 XA21 AA21 ZA21 F21 G21 Q21 U21 M21 L21 S21 A21 Z21
  have zF0 := (sl.unhide F22).c0
  have zF1 := (sl.unhide F22).c1
  have zG0 := (sl.unhide G22).c0
  have zG1 := (sl.unhide G22).c1
  have zU0 := (sl.unhide U22).c0
  have zU1 := (sl.unhide U22).c1
  have zL0 := (sl.unhide L22).c0
  have zL1 := (sl.unhide L22).c1
  have zA0 := (sl.unhide A22).c0
  have zA1 := (sl.unhide A22).c1
  have zZ0 := (sl.unhide Z22).c0
  have zZ1 := (sl.unhide Z22).c1
  go_wp2_with fail
  refine (sl.unhide Q2 _ _ _ (sl.unhide GA22).sls (sl.unhide XA22).sl).mono ?_; rintro e w23 ⟨rfl, g23⟩
  clear zF0 zF1 zG0 zG1 zU0 zU1 zL0 zL1 zA0 zA1 zZ0 zZ1
  have s23 := sl.hide (g23).size
  have B23 := sl.hide (sl.below_none (sl.unhide B22) (g23))
  have FA23 := sl.hide ((sl.unhide FA22).kept (g23))
  have GA23 := sl.hide ((sl.unhide GA22).kept (g23))
  have UA23 := sl.hide ((sl.unhide UA22).kept (g23))
  have LA23 := sl.hide ((sl.unhide LA22).kept (g23))
  have XA23 := sl.hide ((sl.unhide XA22).kept (g23))
  have AA23 := sl.hide ((sl.unhide AA22).kept (g23))
  have ZA23 := sl.hide ((sl.unhide ZA22).kept (g23))
  have F23 := sl.hide ((sl.unhide F22).kept (g23))
  have G23 := sl.hide ((sl.unhide G22).kept (g23))
  have Q23 := sl.hide ((sl.unhide Q22).kept (g23))
  have U23 := sl.hide ((sl.unhide U22).kept (g23))
  have M23 := sl.hide ((sl.unhide M22).kept (g23))
  have L23 := sl.hide ((sl.unhide L22).kept (g23))
  have S23 := sl.hide ((sl.unhide S22).kept (g23))
  have A23 := sl.hide ((sl.unhide A22).kept (g23))
  have Z23 := sl.hide ((sl.unhide Z22).kept (g23))
  clear g23 B22 FA22 GA22 UA22 LA22 XA22 AA22 ZA22 F22 G22 Q22 U22 M22 L22 S22 A22 Z22
  have zF0 := (sl.unhide F23).c0
  have zF1 := (sl.unhide F23).c1
  have zG0 := (sl.unhide G23).c0
  have zG1 := (sl.unhide G23).c1
  have zU0 := (sl.unhide U23).c0
  have zU1 := (sl.unhide U23).c1
  have zL0 := (sl.unhide L23).c0
  have zL1 := (sl.unhide L23).c1
  have zA0 := (sl.unhide A23).c0
  have zA1 := (sl.unhide A23).c1
  have zZ0 := (sl.unhide Z23).c0
  have zZ1 := (sl.unhide Z23).c1
  go_wp2_with fail
  refine (sl.unhide Q3 _ _ _ (sl.unhide UA23).sls (sl.unhide XA23).sl).mono ?_; rintro e w24 ⟨rfl, g24⟩
  clear zF0 zF1 zG0 zG1 zU0 zU1 zL0 zL1 zA0 zA1 zZ0 zZ1
  have s24 := sl.hide (g24).size
  have B24 := sl.hide (sl.below_none (sl.unhide B23) (g24))
  have FA24 := sl.hide ((sl.unhide FA23).kept (g24))
  have GA24 := sl.hide ((sl.unhide GA23).kept (g24))
  have UA24 := sl.hide ((sl.unhide UA23).kept (g24))
  have LA24 := sl.hide ((sl.unhide LA23).kept (g24))
  have XA24 := sl.hide ((sl.unhide XA23).kept (g24))
  have AA24 := sl.hide ((sl.unhide AA23).kept (g24))
  have ZA24 := sl.hide ((sl.unhide ZA23).kept (g24))
  have F24 := sl.hide ((sl.unhide F23).kept (g24))
  have G24 := sl.hide ((sl.unhide G23).kept (g24))
  have Q24 := sl.hide ((sl.unhide Q23).kept (g24))
  have U24 := sl.hide ((sl.unhide U23).kept (g24))
  have M24 := sl.hide ((sl.unhide M23).kept (g24))
  have L24 := sl.hide ((sl.unhide L23).kept (g24))
  have S24 := sl.hide ((sl.unhide S23).kept (g24))
  have A24 := sl.hide ((sl.unhide A23).kept (g24))
  have Z24 := sl.hide ((sl.unhide Z23).kept (g24))
  clear g24 B23 FA23 GA23 UA23 LA23 XA23 AA23 ZA23 F23 G23 Q23 U23 M23 L23 S23 A23 Z23
  have zF0 := (sl.unhide F24).c0
  have zF1 := (sl.unhide F24).c1
  have zG0 := (sl.unhide G24).c0
  have zG1 := (sl.unhide G24).c1
  have zU0 := (sl.unhide U24).c0
  have zU1 := (sl.unhide U24).c1
  have zL0 := (sl.unhide L24).c0
  have zL1 := (sl.unhide L24).c1
  have zA0 := (sl.unhide A24).c0
  have zA1 := (sl.unhide A24).c1
  have zZ0 := (sl.unhide Z24).c0
  have zZ1 := (sl.unhide Z24).c1
  go_wp2_with fail
  refine (sl.unhide Q4 _ _ _ (sl.unhide LA24).sls (sl.unhide XA24).sl).mono ?_; rintro e w25 ⟨rfl, g25⟩
  clear zF0 zF1 zG0 zG1 zU0 zU1 zL0 zL1 zA0 zA1 zZ0 zZ1
  have s25 := sl.hide (g25).size
  have B25 := sl.hide (sl.below_none (sl.unhide B24) (g25))
  have FA25 := sl.hide ((sl.unhide FA24).kept (g25))
  have GA25 := sl.hide ((sl.unhide GA24).kept (g25))
  have UA25 := sl.hide ((sl.unhide UA24).kept (g25))
  have LA25 := sl.hide ((sl.unhide LA24).kept (g25))
  have XA25 := sl.hide ((sl.unhide XA24).kept (g25))
  have AA25 := sl.hide ((sl.unhide AA24).kept (g25))
  have ZA25 := sl.hide ((sl.unhide ZA24).kept (g25))
  have F25 := sl.hide ((sl.unhide F24).kept (g25))
  have G25 := sl.hide ((sl.unhide G24).kept (g25))
  have Q25 := sl.hide ((sl.unhide Q24).kept (g25))
  have U25 := sl.hide ((sl.unhide U24).kept (g25))
  have M25 := sl.hide ((sl.unhide M24).kept (g25))
  have L25 := sl.hide ((sl.unhide L24).kept (g25))
  have S25 := sl.hide ((sl.unhide S24).kept (g25))
  have A25 := sl.hide ((sl.unhide A24).kept (g25))
  have Z25 := sl.hide ((sl.unhide Z24).kept (g25))
  clear g25 B24 FA24 GA24 UA24 LA24 XA24 AA24 ZA24 F24 G24 Q24 U24 M24 L24 S24 A24 Z24
  have zF0 := (sl.unhide F25).c0
  have zF1 := (sl.unhide F25).c1
  have zG0 := (sl.unhide G25).c0
  have zG1 := (sl.unhide G25).c1
  have zU0 := (sl.unhide U25).c0
  have zU1 := (sl.unhide U25).c1
  have zL0 := (sl.unhide L25).c0
  have zL1 := (sl.unhide L25).c1
  have zA0 := (sl.unhide A25).c0
  have zA1 := (sl.unhide A25).c1
  have zZ0 := (sl.unhide Z25).c0
  have zZ1 := (sl.unhide Z25).c1
  go_wp2_with fail
  refine (df.sameList _ _ R1 _ hl1 (sl.unhide hi1) (sl.unhide AA25).sls (sl.unhide GA25).sls).mono ?_; rintro e w26 ⟨rfl, g26⟩
  clear zF0 zF1 zG0 zG1 zU0 zU1 zL0 zL1 zA0 zA1 zZ0 zZ1
  have s26 := sl.hide (g26).size
  have B26 := sl.hide (sl.below_none (sl.unhide B25) (g26))
  have FA26 := sl.hide ((sl.unhide FA25).kept (g26))
  have GA26 := sl.hide ((sl.unhide GA25).kept (g26))
  have UA26 := sl.hide ((sl.unhide UA25).kept (g26))
  have LA26 := sl.hide ((sl.unhide LA25).kept (g26))
  have XA26 := sl.hide ((sl.unhide XA25).kept (g26))
  have AA26 := sl.hide ((sl.unhide AA25).kept (g26))
  have ZA26 := sl.hide ((sl.unhide ZA25).kept (g26))
  have F26 := sl.hide ((sl.unhide F25).kept (g26))
  have G26 := sl.hide ((sl.unhide G25).kept (g26))
  have Q26 := sl.hide ((sl.unhide Q25).kept (g26))
  have U26 := sl.hide ((sl.unhide U25).kept (g26))
  have M26 := sl.hide ((sl.unhide M25).kept (g26))
  have L26 := sl.hide ((sl.unhide L25).kept (g26))
  have S26 := sl.hide ((sl.unhide S25).kept (g26))
  have A26 := sl.hide ((sl.unhide A25).kept (g26))
  have Z26 := sl.hide ((sl.unhide Z25).kept (g26))
  clear g26 B25 FA25 GA25 UA25 LA25 XA25 AA25 ZA25 F25 G25 Q25 U25 M25 L25 S25 A25 Z25
  have hle2 : (R1.length : Int) ≤ (S.length : Int) := by omega
  have zF0 := (sl.unhide F26).c0
  have zF1 := (sl.unhide F26).c1
  have zG0 := (sl.unhide G26).c0
  have zG1 := (sl.unhide G26).c1
  have zU0 := (sl.unhide U26).c0
  have zU1 := (sl.unhide U26).c1
  have zL0 := (sl.unhide L26).c0
  have zL1 := (sl.unhide L26).c1
  have zA0 := (sl.unhide A26).c0
  have zA1 := (sl.unhide A26).c1
  have zZ0 := (sl.unhide Z26).c0
  have zZ1 := (sl.unhide Z26).c1
  go_wp2_with fail
  go_ret
  exact ⟨rfl, sl.unhide B26⟩

/-! ### the row's step (the guide's own frame) -/
set_option maxRecDepth 100000 in
theorem contract (H : Type) (enc : TypeId × Value → H) (W : World) (base : Nat) (args : Array Value) (ds gs : List (DataW H)) (before : List MemPlace)
    (hval : ∀ (j : Nat) t v, Tryd.f3.params[j]? = some t → args[j]? = some v → Value.okWide Tryd.prog W .any base t v)
    (hW : DataW.Whole enc Tryd.prog Tryd.f3.params.toList Rows.fnSubsumeSpec.vars false W args.toList ds gs before) (hL : laidMetH Tryd.prog Rows.fnSubsumeRow.laid W) :
    Calls Tryd.prog 3 args W fun e W' => ∃ v, e = .returned v ∧ Rows.fnSubsumeSpec.post enc Tryd.prog Tryd.f3 false true false false W args v W' := by
  have hW' := hW
  obtain ⟨p, q, hA0, hV, rfl, hfz, hnd⟩ := hW
  have hA : DataW.TrodAll enc Tryd.prog W 0 (fun _ => true) true Tryd.f3.params.toList args.toList ds p := hA0
  rw [Tryd.params3] at hA hval
  obtain ⟨v0, vs0, d0, ds0, p0, q0, hargs, rfl, rfl, h0, r0⟩ := trodAll_cons hA
  obtain ⟨rfl, rfl, rfl⟩ := trodAll_nil r0
  obtain rfl : args = #[v0] := by cases args; simp_all
  obtain ⟨rfl, rfl⟩ := trodVars_none hV
  obtain ⟨a0, len0, cap0, rfl⟩ := okWide_slice Tryd.underlying22 (hval 0 22 v0 rfl rfl)
  have k0 := h0
  have lt0 : ∀ x ∈ p0, x.block < W.heap.size := by obtain ⟨m, hm⟩ := k0; exact DataW.trod_lt m _ _ _ hm
  obtain ⟨z0, w0⟩ : ∃ zs, IsRow .u8 W a0 len0 cap0 zs := by
    obtain ⟨fuel, hf⟩ := h0
    rcases open_ints Tryd.underlying22 Tryd.underlying5 (by kernel_rfl) hf with ⟨hcs, _⟩ | ⟨x, l, c, zs, hcs, _, hl, hm, hz, _, hcell, hwz⟩
    · simp [Value.cells] at hcs
      obtain ⟨rfl, rfl, rfl⟩ := hcs
      exact ⟨[], .inl ⟨rfl, rfl, rfl, rfl⟩⟩
    · simp [Value.cells] at hcs
      obtain ⟨rfl, rfl, rfl⟩ := hcs
      exact ⟨zs, .inr ⟨_, rfl, hl, hm, by simpa using hz, hcell, hwz⟩⟩
  clear hA0
  refine (walk a0 len0 cap0 z0 W w0 (table hL)).mono fun e W' ⟨he, bel⟩ => ?_
  subst he
  exact ⟨_, rfl, _, _, _, [], _, [], hW', trodAll_mk1 (shut_bool Tryd.underlying4 _), (trodAll_cons_mk (Below.trod laidOut (by kernel_rfl) (of_decide_eq_true (by kernel_rfl)) k0 bel lt0) trodAll_mk0), rfl, bel.frame _, fun h => by cases h⟩

set_option maxRecDepth 100000 in
theorem lifted (os : Os) (started : os.Started) (H : Type) (enc : TypeId × Value → H) (F : Stop.Interp) :
    ReturnsInHanded {} Tryd.checked os 3 .any ((OpenSpec.ofChange Rows.fnSubsumeSpec).preRow enc Tryd.prog Tryd.f3 Rows.fnSubsumeRow.domain false Rows.fnSubsumeRow.laid) (((OpenSpec.ofChange Rows.fnSubsumeSpec).at F).post enc Tryd.prog Tryd.f3 false true false false) := by
  refine returnsInHanded_of_row (C := Tryd.checked) (s := OpenSpec.ofChange Rows.fnSubsumeSpec) own started (by kernel_rfl) Tryd.func3
    (witness_row_at (enc := enc) (C := Tryd.checked) false ({ World.holding Tryd.prog os ⟨#[], #[], []⟩ with heap := (World.holding Tryd.prog os ⟨#[], #[], []⟩).heap.modify 0 fun | .cells _ t frozen => .cells (Lib.deBruijn64tab.map fun (n : Nat) => Value.int .u8 n).toArray t frozen | o => o } : World) #[.slice none 0 0] rfl (by kernel_rfl) (by kernel_rfl) (by kernel_rfl)
      (OpenSpec.preRow_of_cond 8 (x := ([.nil], [], [])) (by kernel_rfl) (by kernel_rfl) (fun k hk => by cases hk) (by kernel_rfl) (laidMet_of_run' 8 (by kernel_rfl) (by kernel_rfl)))) ?_
  intro W base args ds gs before hval hW _ _ _ hL _ _
  exact contract H enc W base args ds gs before hval hW hL

theorem said : Rows.FnSubsumeSaid :=
  OpenClaim.holds_of_cond 3 Tryd.f3 rfl rfl rfl rfl rfl rfl rfl ⟨rfl, rfl, rfl, rfl, rfl⟩ rfl rfl rfl rfl rfl (by kernel_rfl) Tryd.func3 (by kernel_rfl)
    (of_decide_eq_true (by kernel_rfl)) (by unfold Func.isWrapper; first | (rw [if_pos (by decide +kernel)]; kernel_rfl) | (rw [if_neg (by decide +kernel)]; exact ⟨rfl, rfl⟩))
    (fun os started H enc _ F => by rw [OpenClaim.pre_eq_preRow]; exact lifted os started H enc F)

theorem plain (f : FuncId) (fn : Func) (hf : Tryd.pinned.checked.prog.funcNamed "loop.example/g00123/laws.FnSubsume" = some f) (hfn : Tryd.pinned.checked.prog.funcs[f]? = some fn) :
    false = Tryd.pinned.checked.prog.looks [] ∧ ∀ (j : Nat) t, fn.params[j]? = some t → Tryd.pinned.checked.prog.wantsStandIn t = false := by
  obtain rfl : f = 3 := Option.some.inj ((show Tryd.prog.funcNamed "loop.example/g00123/laws.FnSubsume" = some 3 by kernel_rfl).symm.trans hf) |>.symm
  obtain rfl : fn = Tryd.f3 := (Option.some.inj (Tryd.func3.symm.trans hfn)).symm
  refine ⟨by kernel_rfl, fun j t ht => ?_⟩
  rw [Tryd.params3] at ht
  obtain rfl : t = 22 := by simpa using Array.mem_of_getElem? ht
  exact (show Tryd.prog.wantsStandIn 22 = false by kernel_rfl)

/-- the statement: the row's tied card -/
theorem proved : Rows.FnSubsumeCardSaid :=
  Claim7.holds_tied_plain_at .later [] _ _ _ _ said (fun _ h => by cases h) (by kernel_rfl) (fun _ h => by cases h) fnSubsume_row_tie rfl ⟨rfl, rfl⟩ (by kernel_rfl) rfl plain (by kernel_rfl)
#print axioms proved
end Go.Proofs.YtibpnocpafppaaaDoor.fnSubsume
