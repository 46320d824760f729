/- For all bytes the law FnCnfSort returns true: impl.CnfSort answers as spec.CnfSort at what it draws; a formula in order is true where it was and stays as it is, and one with its clauses the other way round becomes the same; the library's table of places lies as its text lays it (tied). -/
import Derived.Test.YtbhphndlklmocaaDoorCards
import Derived.Test.YtbhphndlklmocaaDoorTie
import Derived.Test.YtbhphndlklmocaaDoorMs
import Derived.Test.YtbhphndlklmocaaDoorDs
import Derived.Test.YtbhphndlklmocaaDoorDf
import Derived.Test.YtbhphndlklmocaaDoorNi
import Derived.WalkKit
import Derived.ProofKit
import Derived.OpenShut
import Derived.ShutString
import Derived.ChangeOld
import Derived.Below
import Derived.Deep.DeepHandedRow
import Derived.Lib.LaidTab
import Derived.Lib.TrailingZeros
import Derived.Stop.LaidErr
namespace Go.Proofs.YtbhphndlklmocaaDoor.fnCnfSort
open Go.ChangeShapes Go.WideShapes Go.ChangeAt Go.RowKit
open Go.ChangeMaps (open_string shut_string)
set_option linter.unusedVariables false

theorem own : ownKnob Tryd.prog.godebug = none := by kernel_rfl
theorem laidOut : laidOutB Tryd.prog = true := by kernel_rfl

/-- what the walk is told of a slice of integers that came in -/
def IsRow (k : IntKind) (w : World) (a : Option Addr) (len cap : Nat) (zs : List Int) : Prop :=
  (a = none ∧ len = 0 ∧ cap = 0 ∧ zs = []) ∨
  ∃ x, a = some x ∧ len ≤ cap ∧ cap ≤ maxLen ∧ zs.length = cap ∧ (∀ i, i < zs.length → w.cell? (x.add i) = some (.int k (zs.getD i 0))) ∧ ∀ n ∈ zs, (Lit.int k n).wf = true

theorem gTab : Tryd.prog.globalNamed "math/bits.deBruijn64tab" = some 0 := by kernel_rfl
theorem gTabType : (Tryd.prog.globals[0]?).map (·.type) = some 126 := by kernel_rfl
theorem cellsTab : Tryd.prog.cellsOf 126 = 64 := by kernel_rfl
theorem cellsByte : Tryd.prog.cellsOf 5 = 1 := by kernel_rfl
/-- what the row's list gives: the table's cells hold its numbers -/
theorem table {W : World} (h : laidMetH Tryd.prog Rows.fnCnfSortRow.laid W) : srt.Tab W := by
  have t : Lib.TabIs Tryd.prog W "math/bits.deBruijn64tab" .u8 (Lib.deBruijn64tab.map fun (n : Nat) => (n : Int)) :=
    Lib.tabIs_of_head (rest := []) gTab gTabType Tryd.underlying126 Tryd.underlying5 cellsByte cellsTab h
  intro j hj
  have c := t.cell gTab j (by rw [List.length_map]; exact hj)
  rw [c]
  congr 2
  rw [List.getD, List.getD, List.getElem?_map]
  cases Lib.deBruijn64tab[j]? <;> rfl

/-! ### the walk -/
set_option maxRecDepth 100000 in
set_option maxHeartbeats 8000000 in
theorem walk (a0 : Option Addr) (len0 cap0 : Nat) (z0 : List Int) (w : World) (w0 : IsRow .u8 w a0 len0 cap0 z0) (hT : srt.Tab w) :
    Calls Tryd.prog 3 #[.slice a0 len0 cap0] w fun e w' => e = .returned (.bool true) ∧ Below w.heap.size w w' := by
  have hB := draw.of_rowB w0
  have hm : len0 ≤ 9223372036854775807 := by
    rcases w0 with ⟨_, h, _, _⟩ | ⟨_, _, h1, h2, _⟩
    · omega
    · unfold maxLen at h2
      omega
  clear w0
  by_cases hbig : 1048576 < len0
  · have C := sl.hide (draw.big a0 len0 cap0 w hm)
    rw [decide_eq_true hbig] at C
    clear hT
    go_enter Tryd.func3, Tryd.ntmps3
    go_wp2_with fail
    refine (sl.unhide C).mono ?_; rintro e w' ⟨rfl, rfl⟩
    go_wp2_with fail
    go_ret
    exact ⟨rfl, Below.refl _ _⟩
  have C := sl.hide (draw.big a0 len0 cap0 w hm)
  rw [decide_eq_false hbig] at C
  have HB := sl.hide hB
  have TT := sl.hide hT
  have hlen : len0 ≤ 1048576 := by omega
  clear hB hT hbig
  go_enter Tryd.func3, Tryd.ntmps3
  go_wp2_with fail
  refine (sl.unhide C).mono ?_; rintro e w' ⟨rfl, hw⟩; have hw' := hw.symm; clear hw; subst hw'
  clear C hm
  go_wp2_with fail
  refine (ds.drawCnfSort a0 len0 cap0 _ hlen (sl.unhide HB)).mono ?_; rintro e w1 ⟨n, v, LL, rfl, bd, o1, g1⟩
  obtain ⟨va, vc, rfl⟩ := o1.len
  have ht0 : css.tot LL ≤ 6050 := dl.tot_bd bd
  have ht : css.tot LL ≤ 1048576 := Nat.le_trans ht0 (by decide)
  have hLLl : LL.length ≤ 1048576 := Nat.le_trans (css.tot_len LL) ht
  have gA := World.grownBy_alloc w1 (.cells #[.int .i64 n, .slice va LL.length vc] 26) none
  have F1 := sl.hide (cf.Box.new 26 w1 (.int .i64 n) (.slice va LL.length vc))
  have GW1 := sl.hide (sl.grown_trans (r := none) g1 gA)
  have O1 := sl.hide (o1.kept gA)
  have TT1 := sl.hide ((sl.unhide TT).kept (sl.grown_trans (r := none) g1 gA))
  clear g1 o1 gA bd TT
  obtain ⟨W1, hW1⟩ : ∃ W1, W1 = w1.alloc (.cells #[.int .i64 n, .slice va LL.length vc] 26) := ⟨_, rfl⟩
  rw [← hW1] at F1 GW1 O1 TT1
  have hs1 : w1.heap.size < W1.heap.size := (sl.unhide F1).lt
  have ci := cso.implCnfSort (.slice va LL.length vc) n LL W1 (sl.unhide TT1) ht (sl.unhide O1).sls
  have cs := fun (w' : World) (g : W1.grownBy w' none) => cso.specCnfSort (.slice va LL.length vc) n LL w' ht ((sl.unhide O1).kept g).sls
  have hRt := cso.srt_tot n LL
  obtain ⟨N, hN⟩ : ∃ N, N = cso.srtN n LL := ⟨_, rfl⟩
  obtain ⟨R, hR⟩ : ∃ R, R = cso.srtR n LL := ⟨_, rfl⟩
  obtain ⟨bb, hbb⟩ : ∃ bb, bb = cso.srtB n LL := ⟨_, rfl⟩
  simp only [← hN, ← hR, ← hbb] at ci cs hRt
  have HN := sl.hide hN
  have HR := sl.hide hR
  have HBB := sl.hide hbb
  have hRt2 : css.tot R ≤ 1048576 := Nat.le_trans hRt (by decide)
  have hRl : R.length ≤ 1048576 := Nat.le_trans (css.tot_len _) hRt2
  have hRi : ∀ i, (R.getD i []).length ≤ 1048576 := fun i => Nat.le_trans (css.tot_in _ i) hRt2
  have HRI := sl.hide hRi
  have CI := sl.hide ci
  have CS := sl.hide cs
  clear ci cs hN hR hbb hRi
  have z0 := (sl.unhide F1).c0
  have z1 := (sl.unhide F1).c1
  go_wp2_with fail
  rw [← hW1]
  refine (sl.unhide CI).mono ?_; rintro e w2 ⟨u2, rfl, o2, g2⟩
  obtain ⟨ua, uc, rfl⟩ := o2.len
  clear z0 z1 CI hW1
  generalize w1.heap.size = fb at *
  have gA := World.grownBy_alloc w2 (.cells #[.int .i64 N, .slice ua R.length uc] 26) none
  have gB := sl.grown_trans (r := none) g2 gA
  have C2 := sl.hide (sl.unhide CS _ gB)
  have F2 := sl.hide ((sl.unhide F1).kept (gB))
  have GW2 := sl.hide (sl.grown_trans (r := none) (sl.unhide GW1) (gB))
  have O2 := sl.hide ((sl.unhide O1).kept (gB))
  have TT2 := sl.hide ((sl.unhide TT1).kept (gB))
  clear F1 GW1 O1 TT1
  have E2 := sl.hide (cf.Box.new 26 w2 (.int .i64 N) (.slice ua R.length uc))
  have P2 := sl.hide (o2.kept gA)
  clear g2 gA gB o2 CS
  have z0 := (sl.unhide F2).c0
  have z1 := (sl.unhide F2).c1
  go_wp2_with fail
  refine (sl.unhide C2).mono ?_; rintro e w3 ⟨u3, rfl, o3, g3⟩
  obtain ⟨ta, tc, rfl⟩ := o3.len
  clear z0 z1 C2
  have gA := World.grownBy_alloc w3 (.cells #[.int .i64 N, .slice ta R.length tc] 26) none
  have gB := sl.grown_trans (r := none) g3 gA
  have F3 := sl.hide ((sl.unhide F2).kept (gB))
  have GW3 := sl.hide (sl.grown_trans (r := none) (sl.unhide GW2) (gB))
  have O3 := sl.hide ((sl.unhide O2).kept (gB))
  have TT3 := sl.hide ((sl.unhide TT2).kept (gB))
  have E3 := sl.hide ((sl.unhide E2).kept (gB))
  have P3 := sl.hide ((sl.unhide P2).kept (gB))
  clear F2 GW2 O2 TT2 E2 P2
  have wt := cf.Box.new 26 w3 (.int .i64 N) (.slice ta R.length tc)
  have CQ := sl.hide (df.sameList _ _ R _ hRl (sl.unhide HRI) (sl.unhide P3).sls (o3.kept gA).sls)
  have z0 := (sl.unhide E3).c0
  have z1 := (sl.unhide E3).c1
  have y0 := wt.c0
  have y1 := wt.c1
  clear g3 gA gB o3 wt
  go_wp2_with fail
  refine (sl.unhide CQ).mono ?_; rintro e w4 ⟨rfl, g4⟩
  clear z0 z1 y0 y1 CQ
  have F4 := sl.hide ((sl.unhide F3).kept (g4))
  have GW4 := sl.hide (sl.grown_trans (r := none) (sl.unhide GW3) (g4))
  have O4 := sl.hide ((sl.unhide O3).kept (g4))
  have TT4 := sl.hide ((sl.unhide TT3).kept (g4))
  have E4 := sl.hide ((sl.unhide E3).kept (g4))
  have P4 := sl.hide ((sl.unhide P3).kept (g4))
  clear F3 GW3 O3 TT3 E3 P3
  clear g4
  cases bb
  · have hcb : ok.cnfB n LL = false := (sl.unhide HBB).symm
    have cc := ok.implCnfOk (.slice va LL.length vc) n LL w4 ht (sl.unhide O4).sls
    rw [hcb] at cc
    have CC := sl.hide cc
    clear cc hcb
    have z0 := (sl.unhide F4).c0
    have z1 := (sl.unhide F4).c1
    go_wp2_with fail
    refine (sl.unhide CC).mono ?_; rintro e w5 ⟨rfl, g5⟩
    have G5 := sl.hide (sl.grown_trans (r := none) (sl.unhide GW4) g5)
    clear g5 z0 z1 CC
    go_wp2_with fail
    go_ret
    exact ⟨rfl, sl.below_of (sl.unhide G5)⟩
  · have hcb : ok.cnfB n LL = true := (sl.unhide HBB).symm
    have hcf := fm.cnf_facts hcb
    have hn0 := hcf.1
    have hn24 := hcf.2.1
    have eN : N = n := (sl.unhide HN).trans (cso.srt_yes hcb).1
    have eR : R = cs.cnfS LL := (sl.unhide HR).trans (cso.srt_yes hcb).2.1
    subst eN
    obtain ⟨m, rfl⟩ := Int.eq_ofNat_of_zero_le hn0
    have hm24 : m ≤ 24 := by omega
    have hcR : ok.cnfB (m : Int) R = true := by rw [eR]; exact ms.cnfB_srt hcb
    have hRR : cs.cnfS R = R := by rw [eR]; exact ms.cnfS_idem LL
    have hTR : ∀ A, tr.trueB (m : Int) R A = tr.trueB (m : Int) LL A := fun A => by rw [eR]; exact ms.trueB_srt A hcb
    have hRV : cs.cnfS LL.reverse = R := by rw [eR]; exact ms.cnfS_rev LL
    have HCB := sl.hide hcb
    have HCR := sl.hide hcR
    have HRR := sl.hide hRR
    have HTR := sl.hide hTR
    have HRV := sl.hide hRV
    clear hcb hcf hn0 eR hcR hRR hTR hRV HN HR HBB hn24
    have z0 := (sl.unhide F4).c0
    go_wp2_with fail
    refine (dva.values a0 len0 cap0 m w4 hlen hm24 ((sl.unhide HB).below (sl.below_of (sl.unhide GW4)))).mono ?_; rintro e w5 ⟨va5, A, rfl, hAl, hA01, mA⟩
    obtain ⟨aa, ac, rfl⟩ : ∃ xa xc, va5 = .slice xa A.length xc := by
      obtain ⟨xa, xc, e, _⟩ := sl.Sl.of_own mA.1
      exact ⟨xa, xc, e⟩
    have HAS := sl.hide (ms.assign_yes (sl.unhide HCB) hAl hA01)
    have hA : A.length ≤ 1048576 := by omega
    have g5 := mA.2
    have AV5 := sl.hide (sl.Own.of mA.1)
    clear hAl hA01 mA z0
    have F5 := sl.hide ((sl.unhide F4).kept (g5))
    have GW5 := sl.hide (sl.grown_trans (r := none) (sl.unhide GW4) (g5))
    have O5 := sl.hide ((sl.unhide O4).kept (g5))
    have TT5 := sl.hide ((sl.unhide TT4).kept (g5))
    have E5 := sl.hide ((sl.unhide E4).kept (g5))
    have P5 := sl.hide ((sl.unhide P4).kept (g5))
    clear F4 GW4 O4 TT4 E4 P4
    clear g5
    have ci := cso.implCnfSort (.slice ua R.length uc) (m : Int) R w5 (sl.unhide TT5) hRt2 (sl.unhide P5).sls
    rw [(cso.srt_yes (sl.unhide HCR)).1, (cso.srt_yes (sl.unhide HCR)).2.1, (cso.srt_yes (sl.unhide HCR)).2.2, sl.unhide HRR] at ci
    have CI := sl.hide ci
    clear ci
    have z0 := (sl.unhide E5).c0
    have z1 := (sl.unhide E5).c1
    go_wp2_with fail
    refine (sl.unhide CI).mono ?_; rintro e w6 ⟨u6, rfl, o6, g6⟩
    obtain ⟨ha, hc, rfl⟩ := o6.len
    clear z0 z1 CI
    have gA := World.grownBy_alloc w6 (.cells #[.int .i64 (m : Int), .slice ha R.length hc] 26) none
    have gB := sl.grown_trans (r := none) g6 gA
    have F6 := sl.hide ((sl.unhide F5).kept (gB))
    have GW6 := sl.hide (sl.grown_trans (r := none) (sl.unhide GW5) (gB))
    have O6 := sl.hide ((sl.unhide O5).kept (gB))
    have TT6 := sl.hide ((sl.unhide TT5).kept (gB))
    have E6 := sl.hide ((sl.unhide E5).kept (gB))
    have P6 := sl.hide ((sl.unhide P5).kept (gB))
    have AV6 := sl.hide ((sl.unhide AV5).kept (gB))
    clear F5 GW5 O5 TT5 E5 P5 AV5
    have H6 := sl.hide (cf.Box.new 26 w6 (.int .i64 (m : Int)) (.slice ha R.length hc))
    have Q6 := sl.hide (o6.kept gA)
    clear g6 gA gB o6
    have z0 := (sl.unhide F6).c0
    have z1 := (sl.unhide F6).c1
    have z1' := ((sl.unhide F6).kept (World.grownBy_alloc (w6.alloc (.cells #[.int .i64 (m : Int), .slice ha R.length hc] 26)) (.cells #[.int .i64 (m : Int), .slice none 0 0] 26) none)).c1
    obtain ⟨W6, hW6⟩ : ∃ W6, W6 = (w6.alloc (.cells #[.int .i64 (m : Int), .slice ha R.length hc] 26)) := ⟨_, rfl⟩
    rw [← hW6] at F6 GW6 O6 TT6 E6 P6 AV6 H6 Q6
    have gM := World.grownBy_alloc W6 (.cells #[.int .i64 (m : Int), .slice none 0 0] 26) none
    have M6 : Hid (ni.MidL W6 (W6.alloc (.cells #[.int .i64 (m : Int), .slice none 0 0] 26)) W6.heap.size (m : Int) (LL.drop LL.length).reverse) := by
      rw [List.drop_length]
      exact ⟨Nat.le_refl _, gM, none, 0, cf.Box.new 26 W6 (.int .i64 (m : Int)) (.slice none 0 0), ⟨[], rfl, World.ownsRow_nil .., fun p hp => by cases hp⟩⟩
    clear gM
    rw [show W6.heap.size = w6.heap.size + 1 by rw [hW6, World.size_alloc]] at M6
    go_wp2_with fail
    rw [← hW6]
    clear z0 z1 z1' hW6
    generalize hbk : w6.heap.size + 1 = bk at *
    clear hbk
    generalize w6.heap.size = hb at *
    generalize w2.heap.size = eb at *
    skip
    go_loopw [12] (fun i wr => ∃ j : Nat, j ≤ LL.length ∧ i = .int .i64 ((j : Int) - 1) ∧ Hid (ni.MidL W6 wr bk (m : Int) (LL.drop j).reverse)) (fun i _ => (intOf i + 1).toNat)
    case atStart => exact ⟨LL.length, Nat.le_refl _, by go_num, M6⟩
    case round =>
      obtain ⟨j, hj, rfl, hm6⟩ := hrel
      clear M6
      have GQ := sl.hide (sl.unhide hm6).2.1
      by_cases hj0 : 0 < j
      · obtain ⟨q, rfl⟩ : ∃ q, j = q + 1 := ⟨j - 1, by omega⟩
        rw [show (((q + 1 : Nat) : Int) - 1) = (q : Int) by omega]
        have hql : q < LL.length := by omega
        have i1 : (q : Int) < (LL.length : Int) := by omega
        have i2 : (0 : Int) ≤ (q : Int) := by omega
        obtain ⟨gf, uq, hva, cq, owq⟩ := ms.ownS_at ((sl.unhide O6).kept (sl.unhide GQ)) q hql
        subst hva
        have zf := ((sl.unhide F6).kept (sl.unhide GQ)).c1
        have HST := sl.hide (ms.rev_step LL q hql)
        have hMl : (LL.drop (q + 1)).reverse.length ≤ 1048576 := by rw [List.length_reverse, List.length_drop]; omega
        generalize LL.getD q [] = L at *
        generalize (LL.drop (q + 1)).reverse = M at *
        obtain ⟨ua6, uc6, rfl⟩ : ∃ xa xc, uq = .slice xa L.length xc := by
          obtain ⟨xa, xc, e, _⟩ := sl.Sl.of_own owq
          exact ⟨xa, xc, e⟩
        obtain ⟨q0, q1, na, nc, nb, nl⟩ := sl.unhide hm6
        have NL := sl.hide nl
        have UI := sl.hide owq
        have HS := sl.hide (fun (g' cap' : Nat) (w1 : World) h1 g1 => ni.MidL.step (u := .slice ua6 L.length uc6) (L := L) (g := g') (cap' := cap') (w1 := w1) q0 q1 nb nl (sl.grown_refl wr) h1 g1)
        have HLO := sl.hide q1.size
        have n1 := nb.c1
        have nlt := nb.lt
        clear q0 q1 nb nl owq hm6
        go_upto_region 16 with fail
        go_region_law
          (first
            | (refine ni.stepLd (sl.unhide NL) (sl.unhide UI) (sl.unhide HLO) hMl (by rfl) _ _ (by rfl) (by rfl) (by rfl) ?_; intro g8 c8 w8 h8 g8'; have R8 := sl.hide (sl.unhide HS g8 c8 w8 h8 g8'); have r0 := (sl.unhide R8).1.1; have r1 := (sl.unhide R8).1.2; clear h8 g8')
            | (refine ni.stepL (sl.unhide NL) (sl.unhide UI) (sl.unhide HLO) hMl (by rfl) _ _ (by rfl) (by rfl) (by rfl) ?_; intro g8 c8 w8 h8 g8'; have R8 := sl.hide (sl.unhide HS g8 c8 w8 h8 g8'); have r0 := (sl.unhide R8).1.1; have r1 := (sl.unhide R8).1.2; clear h8 g8'))
        all_goals
          go_wp2_with fail
          go_roundw
          case rel => exact ⟨q, by omega, by go_num, by rw [sl.unhide HST]; exact (sl.unhide R8).2⟩
          case measure => first | (simp [intOf]; done) | (simp [intOf]; omega)
      · have ej : j = 0 := by omega
        subst ej
        rw [show (((0 : Nat) : Int) - 1) = -1 from rfl]
        rw [List.drop_zero] at hm6
        have htN : css.tot LL.reverse ≤ 1048576 := by rw [ms.tot_rev]; exact ht
        have hcN := ms.cnfB_rev (sl.unhide HCB)
        have hsN := cso.srt_yes hcN
        rw [sl.unhide HRV] at hsN
        generalize LL.reverse = NN at *
        obtain ⟨q0, q1, na, nc, nb, nl⟩ := sl.unhide hm6
        have F7 := sl.hide ((sl.unhide F6).kept ((sl.unhide GQ)))
        have GW7 := sl.hide (sl.grown_trans (r := none) (sl.unhide GW6) ((sl.unhide GQ)))
        have O7 := sl.hide ((sl.unhide O6).kept ((sl.unhide GQ)))
        have TT7 := sl.hide ((sl.unhide TT6).kept ((sl.unhide GQ)))
        have E7 := sl.hide ((sl.unhide E6).kept ((sl.unhide GQ)))
        have P7 := sl.hide ((sl.unhide P6).kept ((sl.unhide GQ)))
        have AV7 := sl.hide ((sl.unhide AV6).kept ((sl.unhide GQ)))
        have H7 := sl.hide ((sl.unhide H6).kept ((sl.unhide GQ)))
        have Q7 := sl.hide ((sl.unhide Q6).kept ((sl.unhide GQ)))
        clear F6 GW6 O6 TT6 E6 P6 AV6 H6 Q6
        have ci := cso.implCnfSort (.slice na NN.length nc) (m : Int) NN wr (sl.unhide TT7) htN nl.sls
        rw [hsN.1, hsN.2.1, hsN.2.2] at ci
        have CI := sl.hide ci
        have z0 := nb.c0
        have z1 := nb.c1
        clear ci hsN hcN htN q0 q1 nb nl hm6 GQ HRV HCR HRR
        go_wp2_with fail
        refine (sl.unhide CI).mono ?_; rintro e w7 ⟨u7, rfl, o7, g7⟩
        obtain ⟨ka, kc, rfl⟩ := o7.len
        clear z0 z1 CI
        have gA := World.grownBy_alloc w7 (.cells #[.int .i64 (m : Int), .slice ka R.length kc] 26) none
        have gB := sl.grown_trans (r := none) g7 gA
        have F8 := sl.hide ((sl.unhide F7).kept (gB))
        have GW8 := sl.hide (sl.grown_trans (r := none) (sl.unhide GW7) (gB))
        have O8 := sl.hide ((sl.unhide O7).kept (gB))
        have TT8 := sl.hide ((sl.unhide TT7).kept (gB))
        have E8 := sl.hide ((sl.unhide E7).kept (gB))
        have P8 := sl.hide ((sl.unhide P7).kept (gB))
        have AV8 := sl.hide ((sl.unhide AV7).kept (gB))
        have H8 := sl.hide ((sl.unhide H7).kept (gB))
        have Q8 := sl.hide ((sl.unhide Q7).kept (gB))
        clear F7 GW7 O7 TT7 E7 P7 AV7 H7 Q7
        have K7 := sl.hide (cf.Box.new 26 w7 (.int .i64 (m : Int)) (.slice ka R.length kc))
        have KQ7 := sl.hide (o7.kept gA)
        clear g7 gA gB o7
        have cTF := fun (w' : World) (g : (w7.alloc (.cells #[.int .i64 (m : Int), .slice ka R.length kc] 26)).grownBy w' none) => tr.implCnfTrue (.slice va LL.length vc) (.slice aa A.length ac) (m : Int) LL A w' ht hA ((sl.unhide O8).kept g).sls ((sl.unhide AV8).kept g).sl
        have cTG := fun (w' : World) (g : (w7.alloc (.cells #[.int .i64 (m : Int), .slice ka R.length kc] 26)).grownBy w' none) => tr.implCnfTrue (.slice ua R.length uc) (.slice aa A.length ac) (m : Int) R A w' hRt2 hA ((sl.unhide P8).kept g).sls ((sl.unhide AV8).kept g).sl
        have cTS := fun (w' : World) (g : (w7.alloc (.cells #[.int .i64 (m : Int), .slice ka R.length kc] 26)).grownBy w' none) => tr.specCnfTrue (.slice va LL.length vc) (.slice aa A.length ac) (m : Int) LL A w' ht hA ((sl.unhide O8).kept g).sls ((sl.unhide AV8).kept g).sl
        have cAS := fun (w' : World) (g : (w7.alloc (.cells #[.int .i64 (m : Int), .slice ka R.length kc] 26)).grownBy w' none) => tr.implAssignOk (.slice va LL.length vc) (.slice aa A.length ac) (m : Int) LL A w' ht hA ((sl.unhide O8).kept g).sls ((sl.unhide AV8).kept g).sl
        have cSH := fun (w' : World) (g : (w7.alloc (.cells #[.int .i64 (m : Int), .slice ka R.length kc] 26)).grownBy w' none) => df.sameList (.slice ha R.length hc) (.slice ua R.length uc) R w' hRl (sl.unhide HRI) ((sl.unhide Q8).kept g).sls ((sl.unhide P8).kept g).sls
        have cSK := fun (w' : World) (g : (w7.alloc (.cells #[.int .i64 (m : Int), .slice ka R.length kc] 26)).grownBy w' none) => df.sameList (.slice ka R.length kc) (.slice ua R.length uc) R w' hRl (sl.unhide HRI) ((sl.unhide KQ7).kept g).sls ((sl.unhide P8).kept g).sls
        simp only [sl.unhide HTR, sl.unhide HAS] at cTG cAS
        generalize tr.trueB (m : Int) LL A = tt at *
        have CTF := sl.hide cTF
        have CTG := sl.hide cTG
        have CTS := sl.hide cTS
        have CAS := sl.hide cAS
        have CSH := sl.hide cSH
        have CSK := sl.hide cSK
        have CK := sl.hide (fun (w' : World) (g : (w7.alloc (.cells #[.int .i64 (m : Int), .slice ka R.length kc] 26)).grownBy w' none) => And.intro ((sl.unhide F8).kept g).c0 (And.intro ((sl.unhide F8).kept g).c1 (And.intro ((sl.unhide E8).kept g).c0 (And.intro ((sl.unhide E8).kept g).c1 (And.intro ((sl.unhide H8).kept g).c1 ((sl.unhide K7).kept g).c1)))))
        have GX := sl.hide (cf.grown_drew (w7.alloc (.cells #[.int .i64 (m : Int), .slice ka R.length kc] 26)) none)
        have GZ := sl.hide (fun (w' : World) (g : (w7.alloc (.cells #[.int .i64 (m : Int), .slice ka R.length kc] 26)).grownBy w' none) => sl.below_of (sl.grown_trans (r := none) (sl.unhide GW8) g))
        obtain ⟨k1, k2, k3, k4, k5, k6⟩ := sl.unhide CK (w7.alloc (.cells #[.int .i64 (m : Int), .slice ka R.length kc] 26)) (sl.grown_refl _)
        clear cTF cTG cTS cAS cSH cSK HTR HAS HCB HRI K7 KQ7 F8 GW8 O8 TT8 E8 P8 AV8 H8 Q8
        generalize hkb : w7.heap.size = kb at *
        go_upto_region 18 with fail
        go_region_held3 (fun w' => w'.cell? ⟨fb, 0, none⟩ = some (.int .i64 (m : Int)) ∧ w'.cell? ⟨fb, 1, none⟩ = some (.slice va LL.length vc) ∧ w'.cell? ⟨eb, 0, none⟩ = some (.int .i64 (m : Int)) ∧ w'.cell? ⟨eb, 1, none⟩ = some (.slice ua R.length uc) ∧ w'.cell? ⟨hb, 1, none⟩ = some (.slice ha R.length hc) ∧ w'.cell? ⟨kb, 1, none⟩ = some (.slice ka R.length kc)) (go_keep) (first
          | (go_at_call_of 17 (Value.agg #[Value.int IntKind.i64 (m : Int), Value.slice va LL.length vc]); refine (sl.unhide CTF _ (sl.unhide GX)).mono ?_; rintro e w9 ⟨rfl, g9⟩; replace GX := sl.hide (sl.grown_trans (r := none) (sl.unhide GX) g9); obtain ⟨k1, k2, k3, k4, k5, k6⟩ := sl.unhide CK _ (sl.unhide GX); clear g9)
          | (go_at_call_of 17 (Value.agg #[Value.int IntKind.i64 (m : Int), Value.slice ua R.length uc]); refine (sl.unhide CTG _ (sl.unhide GX)).mono ?_; rintro e w9 ⟨rfl, g9⟩; replace GX := sl.hide (sl.grown_trans (r := none) (sl.unhide GX) g9); obtain ⟨k1, k2, k3, k4, k5, k6⟩ := sl.unhide CK _ (sl.unhide GX); clear g9)
          | (go_at_call_of 18 (Value.agg #[Value.int IntKind.i64 (m : Int), Value.slice va LL.length vc]); refine (sl.unhide CTS _ (sl.unhide GX)).mono ?_; rintro e w9 ⟨rfl, g9⟩; replace GX := sl.hide (sl.grown_trans (r := none) (sl.unhide GX) g9); obtain ⟨k1, k2, k3, k4, k5, k6⟩ := sl.unhide CK _ (sl.unhide GX); clear g9)
          | (go_at_call_of 19 (Value.agg #[Value.int IntKind.i64 (m : Int), Value.slice va LL.length vc]); refine (sl.unhide CAS _ (sl.unhide GX)).mono ?_; rintro e w9 ⟨rfl, g9⟩; replace GX := sl.hide (sl.grown_trans (r := none) (sl.unhide GX) g9); obtain ⟨k1, k2, k3, k4, k5, k6⟩ := sl.unhide CK _ (sl.unhide GX); clear g9)
          | (go_at_call_of 14 (Value.slice ha R.length hc); refine (sl.unhide CSH _ (sl.unhide GX)).mono ?_; rintro e w9 ⟨rfl, g9⟩; replace GX := sl.hide (sl.grown_trans (r := none) (sl.unhide GX) g9); obtain ⟨k1, k2, k3, k4, k5, k6⟩ := sl.unhide CK _ (sl.unhide GX); clear g9)
          | (go_at_call_of 14 (Value.slice ka R.length kc); refine (sl.unhide CSK _ (sl.unhide GX)).mono ?_; rintro e w9 ⟨rfl, g9⟩; replace GX := sl.hide (sl.grown_trans (r := none) (sl.unhide GX) g9); obtain ⟨k1, k2, k3, k4, k5, k6⟩ := sl.unhide CK _ (sl.unhide GX); clear g9))
        all_goals
          go_wp2_with fail
          go_ret
          exact ⟨by simp, sl.unhide GZ _ (sl.unhide GX)⟩

/-! ### the row's step (the guide's own frame) -/
set_option maxRecDepth 100000 in
theorem contract (H : Type) (enc : TypeId × Value → H) (W : World) (base : Nat) (args : Array Value) (ds gs : List (DataW H)) (before : List MemPlace)
    (hval : ∀ (j : Nat) t v, Tryd.f3.params[j]? = some t → args[j]? = some v → Value.okWide Tryd.prog W .any base t v)
    (hW : DataW.Whole enc Tryd.prog Tryd.f3.params.toList Rows.fnCnfSortSpec.vars false W args.toList ds gs before) (hL : laidMetH Tryd.prog Rows.fnCnfSortRow.laid W) :
    Calls Tryd.prog 3 args W fun e W' => ∃ v, e = .returned v ∧ Rows.fnCnfSortSpec.post enc Tryd.prog Tryd.f3 false true false false W args v W' := by
  have hW' := hW
  obtain ⟨p, q, hA0, hV, rfl, hfz, hnd⟩ := hW
  have hA : DataW.TrodAll enc Tryd.prog W 0 (fun _ => true) true Tryd.f3.params.toList args.toList ds p := hA0
  rw [Tryd.params3] at hA hval
  obtain ⟨v0, vs0, d0, ds0, p0, q0, hargs, rfl, rfl, h0, r0⟩ := trodAll_cons hA
  obtain ⟨rfl, rfl, rfl⟩ := trodAll_nil r0
  obtain rfl : args = #[v0] := by cases args; simp_all
  obtain ⟨rfl, rfl⟩ := trodVars_none hV
  obtain ⟨a0, len0, cap0, rfl⟩ := okWide_slice Tryd.underlying22 (hval 0 22 v0 rfl rfl)
  have k0 := h0
  have lt0 : ∀ x ∈ p0, x.block < W.heap.size := by obtain ⟨m, hm⟩ := k0; exact DataW.trod_lt m _ _ _ hm
  obtain ⟨z0, w0⟩ : ∃ zs, IsRow .u8 W a0 len0 cap0 zs := by
    obtain ⟨fuel, hf⟩ := h0
    rcases open_ints Tryd.underlying22 Tryd.underlying5 (by kernel_rfl) hf with ⟨hcs, _⟩ | ⟨x, l, c, zs, hcs, _, hl, hm, hz, _, hcell, hwz⟩
    · simp [Value.cells] at hcs
      obtain ⟨rfl, rfl, rfl⟩ := hcs
      exact ⟨[], .inl ⟨rfl, rfl, rfl, rfl⟩⟩
    · simp [Value.cells] at hcs
      obtain ⟨rfl, rfl, rfl⟩ := hcs
      exact ⟨zs, .inr ⟨_, rfl, hl, hm, by simpa using hz, hcell, hwz⟩⟩
  clear hA0
  refine (walk a0 len0 cap0 z0 W w0 (table hL)).mono fun e W' ⟨he, bel⟩ => ?_
  subst he
  exact ⟨_, rfl, _, _, _, [], _, [], hW', trodAll_mk1 (shut_bool Tryd.underlying4 _), (trodAll_cons_mk (Below.trod laidOut (by kernel_rfl) (of_decide_eq_true (by kernel_rfl)) k0 bel lt0) trodAll_mk0), rfl, bel.frame _, fun h => by cases h⟩

set_option maxRecDepth 100000 in
theorem lifted (os : Os) (started : os.Started) (H : Type) (enc : TypeId × Value → H) (F : Stop.Interp) :
    ReturnsInHanded {} Tryd.checked os 3 .any ((OpenSpec.ofChange Rows.fnCnfSortSpec).preRow enc Tryd.prog Tryd.f3 Rows.fnCnfSortRow.domain false Rows.fnCnfSortRow.laid) (((OpenSpec.ofChange Rows.fnCnfSortSpec).at F).post enc Tryd.prog Tryd.f3 false true false false) := by
  refine returnsInHanded_of_row (C := Tryd.checked) (s := OpenSpec.ofChange Rows.fnCnfSortSpec) own started (by kernel_rfl) Tryd.func3
    (witness_row_at (enc := enc) (C := Tryd.checked) false ({ World.holding Tryd.prog os ⟨#[], #[], []⟩ with heap := (World.holding Tryd.prog os ⟨#[], #[], []⟩).heap.modify 0 fun | .cells _ t frozen => .cells (Lib.deBruijn64tab.map fun (n : Nat) => Value.int .u8 n).toArray t frozen | o => o } : World) #[.slice none 0 0] rfl (by kernel_rfl) (by kernel_rfl) (by kernel_rfl)
      (OpenSpec.preRow_of_cond 8 (x := ([.nil], [], [])) (by kernel_rfl) (by kernel_rfl) (fun k hk => by cases hk) (by kernel_rfl) (laidMet_of_run' 8 (by kernel_rfl) (by kernel_rfl)))) ?_
  intro W base args ds gs before hval hW _ _ _ hL _ _
  exact contract H enc W base args ds gs before hval hW hL

theorem said : Rows.FnCnfSortSaid :=
  OpenClaim.holds_of_cond 3 Tryd.f3 rfl rfl rfl rfl rfl rfl rfl ⟨rfl, rfl, rfl, rfl, rfl⟩ rfl rfl rfl rfl rfl (by kernel_rfl) Tryd.func3 (by kernel_rfl)
    (of_decide_eq_true (by kernel_rfl)) (by unfold Func.isWrapper; first | (rw [if_pos (by decide +kernel)]; kernel_rfl) | (rw [if_neg (by decide +kernel)]; exact ⟨rfl, rfl⟩))
    (fun os started H enc _ F => by rw [OpenClaim.pre_eq_preRow]; exact lifted os started H enc F)

theorem plain (f : FuncId) (fn : Func) (hf : Tryd.pinned.checked.prog.funcNamed "loop.example/g00123/laws.FnCnfSort" = some f) (hfn : Tryd.pinned.checked.prog.funcs[f]? = some fn) :
    false = Tryd.pinned.checked.prog.looks [] ∧ ∀ (j : Nat) t, fn.params[j]? = some t → Tryd.pinned.checked.prog.wantsStandIn t = false := by
  obtain rfl : f = 3 := Option.some.inj ((show Tryd.prog.funcNamed "loop.example/g00123/laws.FnCnfSort" = some 3 by kernel_rfl).symm.trans hf) |>.symm
  obtain rfl : fn = Tryd.f3 := (Option.some.inj (Tryd.func3.symm.trans hfn)).symm
  refine ⟨by kernel_rfl, fun j t ht => ?_⟩
  rw [Tryd.params3] at ht
  obtain rfl : t = 22 := by simpa using Array.mem_of_getElem? ht
  exact (show Tryd.prog.wantsStandIn 22 = false by kernel_rfl)

/-- the statement: the row's tied card -/
theorem proved : Rows.FnCnfSortCardSaid :=
  Claim7.holds_tied_plain_at .later [] _ _ _ _ said (fun _ h => by cases h) (by kernel_rfl) (fun _ h => by cases h) fnCnfSort_row_tie rfl ⟨rfl, rfl⟩ (by kernel_rfl) rfl plain (by kernel_rfl)
#print axioms proved
end Go.Proofs.YtbhphndlklmocaaDoor.fnCnfSort
