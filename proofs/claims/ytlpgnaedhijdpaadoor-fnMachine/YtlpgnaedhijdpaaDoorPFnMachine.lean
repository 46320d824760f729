/- At every drawn formula the machine comes to its end within as many steps as the law allows, with the least answer, or none (the law FnMachine returns true); the library's table of places lies as its text lays it (tied). -/
import Derived.Test.YtlpgnaedhijdpaaDoorCards
import Derived.Test.YtlpgnaedhijdpaaDoorTie
import Derived.Test.YtlpgnaedhijdpaaDoorJMach
import Derived.Test.YtlpgnaedhijdpaaDoorDCl
import Derived.Test.YtlpgnaedhijdpaaDoorDVa
import Derived.Test.YtlpgnaedhijdpaaDoorDb
import Derived.Test.YtlpgnaedhijdpaaDoorDf
import Derived.WalkKit
import Derived.ProofKit
import Derived.OpenShut
import Derived.ShutString
import Derived.ChangeOld
import Derived.Below
import Derived.Deep.DeepHandedRow
import Derived.Lib.LaidTab
import Derived.Lib.TrailingZeros
import Derived.Stop.LaidErr
import Derived.LaidHandle
import Derived.LaidSub
namespace Go.Proofs.YtlpgnaedhijdpaaDoor.fnMachine
open Go.ChangeShapes Go.WideShapes Go.ChangeAt Go.RowKit
open Go.ChangeMaps (open_string shut_string)
set_option linter.unusedVariables false

theorem own : ownKnob Tryd.prog.godebug = none := by kernel_rfl
theorem laidOut : laidOutB Tryd.prog = true := by kernel_rfl

/-- what the walk is told of a slice of integers that came in -/
def IsRow (k : IntKind) (w : World) (a : Option Addr) (len cap : Nat) (zs : List Int) : Prop :=
  (a = none ∧ len = 0 ∧ cap = 0 ∧ zs = []) ∨
  ∃ x, a = some x ∧ len ≤ cap ∧ cap ≤ maxLen ∧ zs.length = cap ∧ (∀ i, i < zs.length → w.cell? (x.add i) = some (.int k (zs.getD i 0))) ∧ ∀ n ∈ zs, (Lit.int k n).wf = true

theorem gTab : Tryd.prog.globalNamed "math/bits.deBruijn64tab" = some 3 := by kernel_rfl
theorem gTabType : (Tryd.prog.globals[3]?).map (·.type) = some 162 := by kernel_rfl
theorem cellsTab : Tryd.prog.cellsOf 162 = 64 := by kernel_rfl
theorem cellsByte : Tryd.prog.cellsOf 5 = 1 := by kernel_rfl
/-- what the row's list gives: the table's cells hold its numbers -/
theorem table {W : World} (h : laidMetH Tryd.prog Rows.fnMachineRow.laid W) : srt.Tab W := by
  have t : Lib.TabIs Tryd.prog W "math/bits.deBruijn64tab" .u8 (Lib.deBruijn64tab.map fun (n : Nat) => (n : Int)) :=
    Lib.tabIs_of_head (rest := []) gTab gTabType Tryd.underlying162 Tryd.underlying5 cellsByte cellsTab h
  intro j hj
  have c := t.cell gTab j (by rw [List.length_map]; exact hj)
  rw [c]
  congr 2
  rw [List.getD, List.getD, List.getElem?_map]
  cases Lib.deBruijn64tab[j]? <;> rfl

/-! ### the walk -/
set_option maxRecDepth 100000 in
set_option maxHeartbeats 8000000 in
theorem walk (a0 : Option Addr) (len0 cap0 : Nat) (z0 : List Int) (w : World) (w0 : IsRow .u8 w a0 len0 cap0 z0) (hT : srt.Tab w) :
    Calls Tryd.prog 4 #[.slice a0 len0 cap0] w fun e w' => e = .returned (.bool true) ∧ Below w.heap.size w w' := by
  have hB := draw.of_rowB w0
  have hm : len0 ≤ 9223372036854775807 := by
    rcases w0 with ⟨_, h, _, _⟩ | ⟨_, _, h1, h2, _⟩
    · omega
    · unfold maxLen at h2
      omega
  clear w0
  by_cases hbig : 1048576 < len0
  · have C := sl.hide (draw.big a0 len0 cap0 w hm)
    rw [decide_eq_true hbig] at C
    clear hT
    go_enter Tryd.func4, Tryd.ntmps4
    go_wp2_with fail
    refine (sl.unhide C).mono ?_; rintro e w' ⟨rfl, rfl⟩
    go_wp2_with fail
    go_ret
    exact ⟨rfl, Below.refl _ _⟩
  have C := sl.hide (draw.big a0 len0 cap0 w hm)
  rw [decide_eq_false hbig] at C
  have HB := sl.hide hB
  have TT := sl.hide hT
  have hlen : len0 ≤ 1048576 := by omega
  clear hB hT hbig
  go_enter Tryd.func4, Tryd.ntmps4
  go_wp2_with fail
  refine (sl.unhide C).mono ?_; rintro e w' ⟨rfl, hw⟩; have hw' := hw.symm; clear hw; subst hw'
  clear C hm
  go_wp2_with fail
  refine (db.drawFormula a0 len0 cap0 _ hlen (sl.unhide HB)).mono ?_; rintro e w1 ⟨n, v, LL, rfl, ⟨⟨n1, n6⟩, hM, hgd⟩, o1, g1⟩
  obtain ⟨va, vc, rfl⟩ := o1.len
  have hcn := qh.good_cnf ⟨n1, n6⟩ hM hgd
  have HC := sl.hide hcn
  obtain ⟨m, rfl⟩ := Int.eq_ofNat_of_zero_le (show (0 : Int) ≤ n by omega)
  have ht : css.tot LL ≤ 1048576 := Nat.le_trans (df.tot_bd (dcn.bd_good ⟨n1, n6⟩ hM hgd) (by decide)) (by decide)
  have hLLl : LL.length ≤ 1048576 := Nat.le_trans (css.tot_len LL) ht
  have hm6 : m ≤ 6 := by omega
  have gA := World.grownBy_alloc w1 (.cells #[.int .i64 (m : Int), .slice va LL.length vc] 34) none
  have F1 := sl.hide (cf.Box.new 34 w1 (.int .i64 (m : Int)) (.slice va LL.length vc))
  have G1 := sl.hide (sl.grown_trans (r := none) g1 gA)
  have O1 := sl.hide (o1.kept gA)
  have S1 := sl.hide gA.size
  have HO1 := sl.hide (show w1.heap.size ≤ (w1.alloc (.cells #[.int .i64 (m : Int), .slice va LL.length vc] 34)).heap.size from gA.size)
  have T1 := sl.hide ((sl.unhide TT).kept (sl.grown_trans (r := none) g1 gA))
  have CS := sl.hide (qc.implMachineStart (.slice va LL.length vc) (m : Int) LL _ _ _ ht (o1.kept gA))
  have z0 := (sl.unhide F1).c0
  have z1 := (sl.unhide F1).c1
  clear g1 o1 gA hM hgd TT HB
  go_wp2_with fail
  generalize hW1 : w1.alloc (.cells #[.int .i64 (m : Int), .slice va LL.length vc] 34) = W1 at *
  clear hW1
  refine (sl.unhide CS).mono ?_; rintro e w2 ⟨u, p, rfl, o2, g2⟩
  have e1 : qc.stN (m : Int) LL = (m : Int) := by unfold qc.stN; rw [hcn]; rfl
  have e2 : qc.stR (m : Int) LL = LL := by unfold qc.stR; rw [hcn]; rfl
  rw [e2] at o2
  rw [e1, hcn]
  obtain ⟨ua, uc, pa, pc, rfl, rfl⟩ := o2.len
  have gM := World.grownBy_alloc w2 (.cells #[.int .i64 (m : Int), .slice ua LL.length uc, .slice pa ([] : List Int).length pc, .int .i64 0, .int .i64 0] 37) none
  have M3 := sl.hide (qa.Box5.new 37 w2 (.int .i64 (m : Int)) (.slice ua LL.length uc) (.slice pa ([] : List Int).length pc) (.int .i64 0) (.int .i64 0))
  have O3 := sl.hide (o2.kept gM)
  have K3 := sl.hide (sl.grown_trans (r := none) g2 gM)
  have HSZ := sl.hide g2.size
  have z0' := ((sl.unhide F1).kept (sl.unhide K3)).c0
  clear e1 e2 o2 g2 gM CS z0 z1 hcn
  go_wp2_with fail
  obtain ⟨W3, hW3⟩ : ∃ W3, W3 = w2.alloc (.cells #[.int .i64 (m : Int), .slice ua LL.length uc, .slice pa ([] : List Int).length pc, .int .i64 0, .int .i64 0] 37) := ⟨_, rfl⟩
  rw [← hW3] at M3 O3 K3 z0'
  have hW3' : w2.alloc (.cells #[.int .i64 (m : Int), .slice ua LL.length uc, .slice pa 0 pc, .int .i64 0, .int .i64 0] 37) = W3 := hW3.symm
  rw [hW3']
  clear hW3 hW3'
  go_loop [6, 7] (fun c i => ∃ j : Nat, j ≤ m ∧ i = .int .i64 (j : Int) ∧ ∃ q : Nat, c = .int .i64 (q : Int) ∧ Hid (q = 4 * 2 ^ j)) (fun _ i => m - (intOf i).toNat)
  case atStart => exact ⟨0, Nat.zero_le _, rfl, 4, rfl, rfl⟩
  case round =>
    obtain ⟨j, hj, rfl, q, rfl, hq⟩ := hrel
    by_cases hlt : j < m
    · have hjI : (j : Int) < (m : Int) := by omega
      obtain ⟨_, hb, _⟩ := qh.pow6 (N := j) (by omega)
      have hq' := sl.unhide hq
      have hqb : (q : Int) ≤ 256 := by omega
      have NX : Hid (2 * q = 4 * 2 ^ (j + 1)) := by
        show 2 * q = _
        rw [hq', Nat.pow_succ]
        omega
      clear hb hq' hq M3 O3 F1 G1 O1 S1 T1 K3 HSZ HC
      go_wp2_with fail
      go_round
      case rel => exact ⟨j + 1, by omega, by go_num, 2 * q, by go_num, NX⟩
      case measure => simp [intOf]; omega
    · have ej : j = m := by omega
      subst ej
      have hjI : ¬ (j : Int) < (j : Int) := by omega
      obtain ⟨A, s, k, out⟩ := qh.outcome hm6 (sl.unhide HC) (sl.unhide hq)
      have OUT := sl.hide out
      have hq256 : q ≤ 256 := by have := (qh.pow6 hm6).2.1; have := sl.unhide hq; omega
      have hW1s := (sl.unhide F1).lt
      have CR := (qh.implMachineRun (.slice ua LL.length uc) (.slice pa ([] : List Int).length pc) (j : Int) 0 0 (q : Int) LL [] _ _ W3 ((sl.unhide T1).kept (sl.unhide K3)) ht (Nat.zero_le _) (sl.unhide O3))
      rw [out.res] at CR
      have HCR := sl.hide CR
      clear CR out hq
      have m0 := (sl.unhide M3).c0
      have m1 := (sl.unhide M3).c1
      have m2 := (sl.unhide M3).c2
      have m3 := (sl.unhide M3).c3
      have m4 := (sl.unhide M3).c4
      go_wp2_with fail
      refine (sl.unhide HCR).mono ?_; rintro e w4 ⟨u4, p4, rfl, o4, g4⟩
      obtain ⟨ua4, uc4, pa4, pc4, rfl, rfl⟩ := o4.len
      have c4 := (sl.unhide M3).kept g4
      have hszz := sl.unhide HSZ
      have s5 := qh.set5 (a := .int .i64 (j : Int)) (b := .slice ua4 LL.length uc4) (p := .slice pa4 (as_.tl 0 A).length pc4) (x := .int .i64 s) (y := .int .i64 k) c4 (sl.grown_trans (r := none) (sl.unhide K3) g4) hszz o4 (by have := (sl.unhide M3).lt; omega)
      have hs1 := sl.unhide S1
      have nfb : w2.heap.size ≠ w1.heap.size := by omega
      have F5 := (((((((sl.unhide F1).kept (sl.grown_trans (r := none) (sl.unhide K3) g4)).setO (d := w2.heap.size) (i := 0) (u := .int .i64 (j : Int)) nfb).setO (d := w2.heap.size) (i := 1) (u := .slice ua4 LL.length uc4) nfb).setO (d := w2.heap.size) (i := 2) (u := .slice pa4 (as_.tl 0 A).length pc4) nfb).setO (d := w2.heap.size) (i := 3) (u := .int .i64 s) nfb).setO (d := w2.heap.size) (i := 4) (u := .int .i64 k) nfb)
      have O5 := cf.ownS_set (c := w2.heap.size) (i := 4) (u := .int .i64 k) (cf.ownS_set (c := w2.heap.size) (i := 3) (u := .int .i64 s) (cf.ownS_set (c := w2.heap.size) (i := 2) (u := .slice pa4 (as_.tl 0 A).length pc4) (cf.ownS_set (c := w2.heap.size) (i := 1) (u := .slice ua4 LL.length uc4) (cf.ownS_set (c := w2.heap.size) (i := 0) (u := .int .i64 (j : Int)) ((sl.unhide O1).kept (sl.grown_trans (r := none) (sl.unhide K3) g4)) (.inr (by omega))) (.inr (by omega))) (.inr (by omega))) (.inr (by omega))) (.inr (by omega))
      have ST := sl.hide (And.intro s5 (And.intro F5 O5))
      clear m0 m1 m2 m3 m4
      have m0 := c4.c0
      have m1 := c4.c1
      have m2 := c4.c2
      have m3 := c4.c3
      have m4 := c4.c4
      have f0 := c4.f 0
      have f1 := c4.f 1
      have f2 := c4.f 2
      have f3 := c4.f 3
      have f4 := c4.f 4
      clear c4 s5 F5 O5 hszz hW1s hs1 nfb S1 o4 g4 HCR M3 O3 HSZ z0'
      dsimp only
      go_upto_region 11 with fail
      generalize hW5 : ((((w4.setCell ⟨w2.heap.size, 0, none⟩ (.int .i64 (j : Int))).setCell ⟨w2.heap.size, 1, none⟩ (.slice ua4 LL.length uc4)).setCell ⟨w2.heap.size, 2, none⟩ (.slice pa4 (as_.tl 0 A).length pc4)).setCell ⟨w2.heap.size, 3, none⟩ (.int .i64 s)).setCell ⟨w2.heap.size, 4, none⟩ (.int .i64 k) = W5 at *
      clear hW5 m0 m1 m2 m3 m4 f0 f1 f2 f3 f4
      obtain ⟨⟨b5, g5, o5, _⟩, F5, O5⟩ := sl.unhide ST
      have out := sl.unhide OUT
      have hAl : (as_.tl 0 A).length ≤ 1048576 := by rw [as_.tl_len]; have := out.len; omega
      have TW := sl.hide ((sl.unhide T1).kept g5)
      have GW := sl.hide (sl.grown_trans (r := none) (sl.unhide G1) g5)
      have CA := qd.implMachineAnswer _ _ (j : Int) s k LL (as_.tl 0 A) W5 ht hAl o5.sls o5.sl
      have CV := (fun wz (g : W5.grownBy wz none) => lq.specSolve (.slice va LL.length vc) (j : Int) LL wz ht (O5.kept g).sls)
      have CO := (fun wz (g : W5.grownBy wz none) => qb.implMachineOk _ _ (j : Int) s k LL (as_.tl 0 A) wz ht hAl (o5.kept g).sls (o5.kept g).sl)
      have CI := (fun wz (g : W5.grownBy wz none) => qh.implMachineCost (.slice va LL.length vc) (j : Int) LL _ _ wz ht ((sl.unhide TW).kept g) (O5.kept g))
      have CP := (fun wz (g : W5.grownBy wz none) => qh.specMachineCost (.slice va LL.length vc) (j : Int) LL _ _ wz ht (Nat.le_trans (Nat.le_trans (sl.unhide HO1) g5.size) g.size) (O5.kept g))
      have CK := sl.hide (fun wz (g : W5.grownBy wz none) => And.intro (F5.kept g).c0 (And.intro (F5.kept g).c1 (And.intro (b5.kept g).c0 (And.intro (b5.kept g).c1 (And.intro (b5.kept g).c2 (And.intro (b5.kept g).c3 (b5.kept g).c4))))))
      rw [out.ok] at CO
      rw [out.cost] at CI CP
      have hklt := out.lt
      have hAn : qd.ansB (j : Int) LL (as_.tl 0 A) s k = decide (s = 1) := by unfold qd.ansB; rw [out.ok]; rfl
      have hst := out.st
      have hval := out.val
      have hlen := out.len
      have x0 := b5.c0
      have x1 := b5.c1
      have x2 := b5.c2
      have x3 := b5.c3
      have x4 := b5.c4
      clear out OUT ST b5 g5 o5 F5 O5 F1 G1 O1 T1 K3 TW HC HO1
      have HCO := sl.hide CO
      have HCI := sl.hide CI
      have HCP := sl.hide CP
      clear CO CI CP
      rcases hst with ⟨rfl, hsv⟩ | ⟨rfl, hsv⟩
      · rw [hsv] at CV
        have HCV := sl.hide CV
        have e1 : qd.ansL (j : Int) LL (as_.tl 0 A) 1 k = A := by rw [qd.ans_yes (by rw [hAn]; rfl), hval]
        rw [e1, hAn, decide_eq_true rfl] at CA
        have HCA := sl.hide CA
        clear CV CA e1 hAn hsv hval
        go_wp2_with fail
        refine (sl.unhide HCA).mono ?_; rintro e w6 ⟨av, rfl, m6⟩
        obtain ⟨aa, ac, ea, _⟩ := sl.Sl.of_own m6.1
        subst ea
        have OA := sl.hide (sl.Own.of m6.1)
        have G6 := sl.hide m6.2
        obtain ⟨y0, y1, y2, y3, y4, y5, y6⟩ := sl.unhide CK w6 m6.2
        clear m6 HCA x0 x1 x2 x3 x4
        go_wp2_with fail
        refine (sl.unhide HCV w6 (sl.unhide G6)).mono ?_; rintro e w7 ⟨bv, rfl, m7⟩
        have m7' : wo.Made w6 w7 bv A := m7
        obtain ⟨ba, bc, eb, _⟩ := sl.Sl.of_own m7'.1
        subst eb
        have OB := sl.hide (sl.Own.of m7'.1)
        have OA7 := sl.hide ((sl.unhide OA).kept m7'.2)
        have G7 := sl.hide (sl.grown_trans (r := none) (sl.unhide G6) m7'.2)
        obtain ⟨q0, q1, q2, q3, q4, q5, q6⟩ := sl.unhide CK w7 (sl.unhide G7)
        have CSM := sl.hide (fun wz (g : w7.grownBy wz none) => dcls.sameC _ _ A wz (by omega) ((sl.unhide OA7).kept g).sl ((sl.unhide OB).kept g).sl)
        clear m7 m7' OA OB OA7 G6 HCV y0 y1 y2 y3 y4 y5 y6
        have GX := sl.hide (cf.grown_drew w7 none)
        have CKX := sl.hide (fun wz (g : w7.grownBy wz none) => sl.unhide CK wz (sl.grown_trans (r := none) (sl.unhide G7) g))
        have HCO7 := sl.hide (fun wz (g : w7.grownBy wz none) => sl.unhide HCO wz (sl.grown_trans (r := none) (sl.unhide G7) g))
        have HCI7 := sl.hide (fun wz (g : w7.grownBy wz none) => sl.unhide HCI wz (sl.grown_trans (r := none) (sl.unhide G7) g))
        have HCP7 := sl.hide (fun wz (g : w7.grownBy wz none) => sl.unhide HCP wz (sl.grown_trans (r := none) (sl.unhide G7) g))
        have GEND := sl.hide (fun wz (g : w7.grownBy wz none) => sl.below_of (sl.grown_trans (r := none) (sl.unhide GW) (sl.grown_trans (r := none) (sl.unhide G7) g)))
        clear CK HCO HCI HCP G7 GW
        go_wp2_with fail
        go_region_held3 (fun w' => w'.cell? ⟨w1.heap.size, 0, none⟩ = some (.int .i64 (j : Int)) ∧ w'.cell? ⟨w1.heap.size, 1, none⟩ = some (.slice va LL.length vc) ∧ w'.cell? ⟨w2.heap.size, 0, none⟩ = some (.int .i64 (j : Int)) ∧ w'.cell? ⟨w2.heap.size, 1, none⟩ = some (.slice ua4 LL.length uc4) ∧ w'.cell? ⟨w2.heap.size, 2, none⟩ = some (.slice pa4 (as_.tl 0 A).length pc4) ∧ w'.cell? ⟨w2.heap.size, 3, none⟩ = some (.int .i64 1) ∧ w'.cell? ⟨w2.heap.size, 4, none⟩ = some (.int .i64 k)) (go_keep) (first
          | (go_at_call 24; refine (sl.unhide HCO7 _ (sl.unhide GX)).mono ?_; rintro e w8 ⟨rfl, g8⟩; replace GX := sl.hide (sl.grown_trans (r := none) (sl.unhide GX) g8); obtain ⟨t0, t1, t2, t3, t4, t5, t6⟩ := sl.unhide CKX _ (sl.unhide GX); clear g8)
          | (go_at_call 17; refine (sl.unhide CSM _ (sl.unhide GX)).mono ?_; rintro e w8 ⟨rfl, g8⟩; replace GX := sl.hide (sl.grown_trans (r := none) (sl.unhide GX) g8); obtain ⟨t0, t1, t2, t3, t4, t5, t6⟩ := sl.unhide CKX _ (sl.unhide GX); clear g8)
          | (go_at_call 25; refine (sl.unhide HCI7 _ (sl.unhide GX)).mono ?_; rintro e w8 ⟨rfl, g8⟩; replace GX := sl.hide (sl.grown_trans (r := none) (sl.unhide GX) g8); obtain ⟨t0, t1, t2, t3, t4, t5, t6⟩ := sl.unhide CKX _ (sl.unhide GX); clear g8)
          | (go_at_call 26; refine (sl.unhide HCP7 _ (sl.unhide GX)).mono ?_; rintro e w8 ⟨rfl, g8⟩; replace GX := sl.hide (sl.grown_trans (r := none) (sl.unhide GX) g8); obtain ⟨t0, t1, t2, t3, t4, t5, t6⟩ := sl.unhide CKX _ (sl.unhide GX); clear g8))
        all_goals
          go_wp2_with fail
          go_ret
          exact ⟨rfl, sl.unhide GEND _ (sl.unhide GX)⟩
      · rw [hsv] at CV
        have HCV := sl.hide CV
        have e1 : qd.ansL (j : Int) LL (as_.tl 0 A) 2 k = [] := qd.ans_no (by rw [hAn]; rfl)
        rw [e1, hAn, decide_eq_false (show ¬ (2 : Int) = 1 by decide)] at CA
        have HCA := sl.hide CA
        clear CV CA e1 hAn hsv hval
        go_wp2_with fail
        refine (sl.unhide HCA).mono ?_; rintro e w6 ⟨av, rfl, m6⟩
        obtain ⟨aa, ac, ea, _⟩ := sl.Sl.of_own m6.1
        subst ea
        have OA := sl.hide (sl.Own.of m6.1)
        have G6 := sl.hide m6.2
        obtain ⟨y0, y1, y2, y3, y4, y5, y6⟩ := sl.unhide CK w6 m6.2
        clear m6 HCA x0 x1 x2 x3 x4
        go_wp2_with fail
        refine (sl.unhide HCV w6 (sl.unhide G6)).mono ?_; rintro e w7 ⟨bv, rfl, m7⟩
        have m7' : wo.Made w6 w7 bv ([] : List Int) := m7
        obtain ⟨ba, bc, eb, _⟩ := sl.Sl.of_own m7'.1
        subst eb
        have OB := sl.hide (sl.Own.of m7'.1)
        have OA7 := sl.hide ((sl.unhide OA).kept m7'.2)
        have G7 := sl.hide (sl.grown_trans (r := none) (sl.unhide G6) m7'.2)
        obtain ⟨q0, q1, q2, q3, q4, q5, q6⟩ := sl.unhide CK w7 (sl.unhide G7)
        have CSM := sl.hide (fun wz (g : w7.grownBy wz none) => dcls.sameC _ _ ([] : List Int) wz (by simp) ((sl.unhide OA7).kept g).sl ((sl.unhide OB).kept g).sl)
        clear m7 m7' OA OB OA7 G6 HCV y0 y1 y2 y3 y4 y5 y6
        have GX := sl.hide (cf.grown_drew w7 none)
        have CKX := sl.hide (fun wz (g : w7.grownBy wz none) => sl.unhide CK wz (sl.grown_trans (r := none) (sl.unhide G7) g))
        have HCO7 := sl.hide (fun wz (g : w7.grownBy wz none) => sl.unhide HCO wz (sl.grown_trans (r := none) (sl.unhide G7) g))
        have HCI7 := sl.hide (fun wz (g : w7.grownBy wz none) => sl.unhide HCI wz (sl.grown_trans (r := none) (sl.unhide G7) g))
        have HCP7 := sl.hide (fun wz (g : w7.grownBy wz none) => sl.unhide HCP wz (sl.grown_trans (r := none) (sl.unhide G7) g))
        have GEND := sl.hide (fun wz (g : w7.grownBy wz none) => sl.below_of (sl.grown_trans (r := none) (sl.unhide GW) (sl.grown_trans (r := none) (sl.unhide G7) g)))
        clear CK HCO HCI HCP G7 GW
        go_wp2_with fail
        go_region_held3 (fun w' => w'.cell? ⟨w1.heap.size, 0, none⟩ = some (.int .i64 (j : Int)) ∧ w'.cell? ⟨w1.heap.size, 1, none⟩ = some (.slice va LL.length vc) ∧ w'.cell? ⟨w2.heap.size, 0, none⟩ = some (.int .i64 (j : Int)) ∧ w'.cell? ⟨w2.heap.size, 1, none⟩ = some (.slice ua4 LL.length uc4) ∧ w'.cell? ⟨w2.heap.size, 2, none⟩ = some (.slice pa4 (as_.tl 0 A).length pc4) ∧ w'.cell? ⟨w2.heap.size, 3, none⟩ = some (.int .i64 2) ∧ w'.cell? ⟨w2.heap.size, 4, none⟩ = some (.int .i64 k)) (go_keep) (first
          | (go_at_call 24; refine (sl.unhide HCO7 _ (sl.unhide GX)).mono ?_; rintro e w8 ⟨rfl, g8⟩; replace GX := sl.hide (sl.grown_trans (r := none) (sl.unhide GX) g8); obtain ⟨t0, t1, t2, t3, t4, t5, t6⟩ := sl.unhide CKX _ (sl.unhide GX); clear g8)
          | (go_at_call 17; refine (sl.unhide CSM _ (sl.unhide GX)).mono ?_; rintro e w8 ⟨rfl, g8⟩; replace GX := sl.hide (sl.grown_trans (r := none) (sl.unhide GX) g8); obtain ⟨t0, t1, t2, t3, t4, t5, t6⟩ := sl.unhide CKX _ (sl.unhide GX); clear g8)
          | (go_at_call 25; refine (sl.unhide HCI7 _ (sl.unhide GX)).mono ?_; rintro e w8 ⟨rfl, g8⟩; replace GX := sl.hide (sl.grown_trans (r := none) (sl.unhide GX) g8); obtain ⟨t0, t1, t2, t3, t4, t5, t6⟩ := sl.unhide CKX _ (sl.unhide GX); clear g8)
          | (go_at_call 26; refine (sl.unhide HCP7 _ (sl.unhide GX)).mono ?_; rintro e w8 ⟨rfl, g8⟩; replace GX := sl.hide (sl.grown_trans (r := none) (sl.unhide GX) g8); obtain ⟨t0, t1, t2, t3, t4, t5, t6⟩ := sl.unhide CKX _ (sl.unhide GX); clear g8))
        all_goals
          go_wp2_with fail
          go_ret
          exact ⟨rfl, sl.unhide GEND _ (sl.unhide GX)⟩

/-! ### the row's step (the guide's own frame) -/
set_option maxRecDepth 100000 in
theorem contract (H : Type) (enc : TypeId × Value → H) (W : World) (base : Nat) (args : Array Value) (ds gs : List (DataW H)) (before : List MemPlace)
    (hval : ∀ (j : Nat) t v, Tryd.f4.params[j]? = some t → args[j]? = some v → Value.okWide Tryd.prog W .any base t v)
    (hW : DataW.Whole enc Tryd.prog Tryd.f4.params.toList Rows.fnMachineSpec.vars false W args.toList ds gs before) (hL : laidMetH Tryd.prog Rows.fnMachineRow.laid W) :
    Calls Tryd.prog 4 args W fun e W' => ∃ v, e = .returned v ∧ Rows.fnMachineSpec.post enc Tryd.prog Tryd.f4 false true false false W args v W' := by
  have hW' := hW
  obtain ⟨p, q, hA0, hV, rfl, hfz, hnd⟩ := hW
  have hA : DataW.TrodAll enc Tryd.prog W 0 (fun _ => true) true Tryd.f4.params.toList args.toList ds p := hA0
  rw [Tryd.params4] at hA hval
  obtain ⟨v0, vs0, d0, ds0, p0, q0, hargs, rfl, rfl, h0, r0⟩ := trodAll_cons hA
  obtain ⟨rfl, rfl, rfl⟩ := trodAll_nil r0
  obtain rfl : args = #[v0] := by cases args; simp_all
  obtain ⟨rfl, rfl⟩ := trodVars_none hV
  obtain ⟨a0, len0, cap0, rfl⟩ := okWide_slice Tryd.underlying22 (hval 0 22 v0 rfl rfl)
  have k0 := h0
  have lt0 : ∀ x ∈ p0, x.block < W.heap.size := by obtain ⟨m, hm⟩ := k0; exact DataW.trod_lt m _ _ _ hm
  obtain ⟨z0, w0⟩ : ∃ zs, IsRow .u8 W a0 len0 cap0 zs := by
    obtain ⟨fuel, hf⟩ := h0
    rcases open_ints Tryd.underlying22 Tryd.underlying5 (by kernel_rfl) hf with ⟨hcs, _⟩ | ⟨x, l, c, zs, hcs, _, hl, hm, hz, _, hcell, hwz⟩
    · simp [Value.cells] at hcs
      obtain ⟨rfl, rfl, rfl⟩ := hcs
      exact ⟨[], .inl ⟨rfl, rfl, rfl, rfl⟩⟩
    · simp [Value.cells] at hcs
      obtain ⟨rfl, rfl, rfl⟩ := hcs
      exact ⟨zs, .inr ⟨_, rfl, hl, hm, by simpa using hz, hcell, hwz⟩⟩
  clear hA0
  refine (walk a0 len0 cap0 z0 W w0 (table hL)).mono fun e W' ⟨he, bel⟩ => ?_
  subst he
  exact ⟨_, rfl, _, _, _, [], _, [], hW', trodAll_mk1 (shut_bool Tryd.underlying4 _), (trodAll_cons_mk (Below.trod laidOut (by kernel_rfl) (of_decide_eq_true (by kernel_rfl)) k0 bel lt0) trodAll_mk0), rfl, bel.frame _, fun h => by cases h⟩

set_option maxRecDepth 100000 in
theorem lifted (os : Os) (started : os.Started) (H : Type) (enc : TypeId × Value → H) (F : Stop.Interp) :
    ReturnsInHanded {} Tryd.checked os 4 .any ((OpenSpec.ofChange Rows.fnMachineSpec).preRow enc Tryd.prog Tryd.f4 Rows.fnMachineRow.domain false Rows.fnMachineRow.laid) (((OpenSpec.ofChange Rows.fnMachineSpec).at F).post enc Tryd.prog Tryd.f4 false true false false) := by
  refine returnsInHanded_of_row (C := Tryd.checked) (s := OpenSpec.ofChange Rows.fnMachineSpec) own started (by kernel_rfl) Tryd.func4
    (witness_row_at (enc := enc) (C := Tryd.checked) false ({ World.holding Tryd.prog os ⟨#[], #[], []⟩ with heap := (World.holding Tryd.prog os ⟨#[], #[], []⟩).heap.modify 3 fun | .cells _ t frozen => .cells (Lib.deBruijn64tab.map fun (n : Nat) => Value.int .u8 n).toArray t frozen | o => o } : World) #[.slice none 0 0] rfl (by kernel_rfl) (by kernel_rfl) (by kernel_rfl)
      (OpenSpec.preRow_of_cond 8 (x := ([.nil], [], [])) (by kernel_rfl) (by kernel_rfl) (fun k hk => by cases hk) (by kernel_rfl) (laidMet_of_run' 8 (by kernel_rfl) (by kernel_rfl)))) ?_
  intro W base args ds gs before hval hW _ _ _ hL _ _
  exact contract H enc W base args ds gs before hval hW hL

theorem said : Rows.FnMachineSaid :=
  OpenClaim.holds_of_cond 4 Tryd.f4 rfl rfl rfl rfl rfl rfl rfl ⟨rfl, rfl, rfl, rfl, rfl⟩ rfl rfl rfl rfl rfl (by kernel_rfl) Tryd.func4 (by kernel_rfl)
    (of_decide_eq_true (by kernel_rfl)) (by unfold Func.isWrapper; first | (rw [if_pos (by decide +kernel)]; kernel_rfl) | (rw [if_neg (by decide +kernel)]; exact ⟨rfl, rfl⟩))
    (fun os started H enc _ F => by rw [OpenClaim.pre_eq_preRow]; exact lifted os started H enc F)

theorem plain (f : FuncId) (fn : Func) (hf : Tryd.pinned.checked.prog.funcNamed "loop.example/g00123/laws.FnMachine" = some f) (hfn : Tryd.pinned.checked.prog.funcs[f]? = some fn) :
    true = Tryd.pinned.checked.prog.looks [] ∧ ∀ (j : Nat) t, fn.params[j]? = some t → Tryd.pinned.checked.prog.wantsStandIn t = false := by
  obtain rfl : f = 4 := Option.some.inj ((show Tryd.prog.funcNamed "loop.example/g00123/laws.FnMachine" = some 4 by kernel_rfl).symm.trans hf) |>.symm
  obtain rfl : fn = Tryd.f4 := (Option.some.inj (Tryd.func4.symm.trans hfn)).symm
  refine ⟨by kernel_rfl, fun j t ht => ?_⟩
  rw [Tryd.params4] at ht
  obtain rfl : t = 22 := by simpa using Array.mem_of_getElem? ht
  exact (show Tryd.prog.wantsStandIn 22 = false by kernel_rfl)

/-- the statement: the row's tied card -/
theorem proved : Rows.FnMachineCardSaid :=
  Claim7.holds_tied_plain_at .later [] _ _ _ _ said (fun _ h => by cases h) (by kernel_rfl) (fun _ h => by cases h) fnMachine_row_tie rfl ⟨rfl, rfl⟩ (by kernel_rfl) rfl plain (by kernel_rfl)
#print axioms proved
end Go.Proofs.YtlpgnaedhijdpaaDoor.fnMachine
