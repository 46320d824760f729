/- For whatever code the groups of the formula that is drawn are as the model's, hold each variable once and each clause that is not empty once, and the formula can be true where its parts can (the law FnGroups returns true); no condition. -/
import Derived.Test.YtibpnocpafppaaaDoorCards
import Derived.Test.YtibpnocpafppaaaDoorTie
import Derived.Test.YtibpnocpafppaaaDoorJUb
import Derived.Test.YtibpnocpafppaaaDoorGl
import Derived.Test.YtibpnocpafppaaaDoorLs5
import Derived.Test.YtibpnocpafppaaaDoorDf
import Derived.Test.YtibpnocpafppaaaDoorDCl
import Derived.Test.YtibpnocpafppaaaDoorDVa
import Derived.WalkKit
import Derived.ProofKit
import Derived.OpenShut
import Derived.ShutString
import Derived.ChangeOld
import Derived.Below
import Derived.Deep.DeepHandedRow
import Derived.Lib.LaidTab
import Derived.Lib.TrailingZeros
import Derived.Stop.LaidErr
import Derived.Stop.LaidTwo
import Derived.LaidHandle
import Derived.LaidSub
namespace Go.Proofs.YtibpnocpafppaaaDoor.fnGroups
open Go.ChangeShapes Go.WideShapes Go.ChangeAt Go.RowKit
open Go.ChangeMaps (open_string shut_string)
set_option linter.unusedVariables false

theorem own : ownKnob Tryd.prog.godebug = none := by kernel_rfl
theorem laidOut : laidOutB Tryd.prog = true := by kernel_rfl

/-- what the walk is told of a slice of integers that came in -/
def IsRow (k : IntKind) (w : World) (a : Option Addr) (len cap : Nat) (zs : List Int) : Prop :=
  (a = none ∧ len = 0 ∧ cap = 0 ∧ zs = []) ∨
  ∃ x, a = some x ∧ len ≤ cap ∧ cap ≤ maxLen ∧ zs.length = cap ∧ (∀ i, i < zs.length → w.cell? (x.add i) = some (.int k (zs.getD i 0))) ∧ ∀ n ∈ zs, (Lit.int k n).wf = true

theorem gTab : Tryd.prog.globalNamed "math/bits.deBruijn64tab" = some 0 := by kernel_rfl
theorem gTabType : (Tryd.prog.globals[0]?).map (·.type) = some 132 := by kernel_rfl
theorem cellsTab : Tryd.prog.cellsOf 132 = 64 := by kernel_rfl
theorem cellsByte : Tryd.prog.cellsOf 5 = 1 := by kernel_rfl
/-- what the row's list gives: the table's cells hold its numbers -/
theorem table {W : World} (h : laidMetH Tryd.prog Rows.fnGroupsRow.laid W) : srt.Tab W := by
  have t : Lib.TabIs Tryd.prog W "math/bits.deBruijn64tab" .u8 (Lib.deBruijn64tab.map fun (n : Nat) => (n : Int)) :=
    Lib.tabIs_of_head (rest := []) gTab gTabType Tryd.underlying132 Tryd.underlying5 cellsByte cellsTab h
  intro j hj
  have c := t.cell gTab j (by rw [List.length_map]; exact hj)
  rw [c]
  congr 2
  rw [List.getD, List.getD, List.getElem?_map]
  cases Lib.deBruijn64tab[j]? <;> rfl

/-! ### the walk -/
set_option maxRecDepth 100000 in
set_option maxHeartbeats 8000000 in
theorem walk (a0 : Option Addr) (len0 cap0 : Nat) (z0 : List Int) (w : World) (w0 : IsRow .u8 w a0 len0 cap0 z0) (hT : srt.Tab w) :
    Calls Tryd.prog 5 #[.slice a0 len0 cap0] w fun e w' => e = .returned (.bool true) ∧ Below w.heap.size w w' := by
  have hB := draw.of_rowB w0
  have hm : len0 ≤ 9223372036854775807 := by
    rcases w0 with ⟨_, h, _, _⟩ | ⟨_, _, h1, h2, _⟩
    · omega
    · unfold maxLen at h2
      omega
  clear w0
  by_cases hbig : 1048576 < len0
  · have C := sl.hide (draw.big a0 len0 cap0 w hm)
    rw [decide_eq_true hbig] at C
    clear hT
    go_enter Tryd.func5, Tryd.ntmps5
    go_wp2_with fail
    refine (sl.unhide C).mono ?_; rintro e w' ⟨rfl, rfl⟩
    go_wp2_with fail
    go_ret
    exact ⟨rfl, Below.refl _ _⟩
  have C := sl.hide (draw.big a0 len0 cap0 w hm)
  rw [decide_eq_false hbig] at C
  have HB := sl.hide hB
  have TT := sl.hide hT; clear hT
  have hlen : len0 ≤ 1048576 := by omega
  clear hB hbig
  go_enter Tryd.func5, Tryd.ntmps5
  go_wp2_with fail
  refine (sl.unhide C).mono ?_; rintro e w' ⟨rfl, hw⟩; have hw' := hw.symm; clear hw; subst hw'
  clear C hm
  go_wp2_with fail
  refine (fr.drawGroups a0 len0 cap0 _ hlen (sl.unhide HB)).mono ?_; rintro e w1 ⟨n, v, LL, rfl, hn25, ht, o1, g1⟩
  obtain ⟨va, vc, rfl⟩ := o1.len
  have s1 := sl.hide (g1).size
  have B1 := sl.hide (sl.below_of (g1))
  have FA1 := sl.hide o1
  clear o1 g1
  have s2 := sl.hide (World.grownBy_alloc w1 (.cells #[(.int .i64 n), (.slice va LL.length vc)] 26) none).size
  have B2 := sl.hide (sl.below_none (sl.unhide B1) (World.grownBy_alloc w1 (.cells #[(.int .i64 n), (.slice va LL.length vc)] 26) none))
  have FA2 := sl.hide ((sl.unhide FA1).kept (World.grownBy_alloc w1 (.cells #[(.int .i64 n), (.slice va LL.length vc)] 26) none))
  have q2 : Hid ((w1.alloc (.cells #[(.int .i64 n), (.slice va LL.length vc)] 26)).heap.size = w1.heap.size + 1) := World.size_alloc ..
  have F2 := sl.hide (cf.Box.new 26 w1 (.int .i64 n) (.slice va LL.length vc))
  clear B1 FA1
  have hn1 : css.tot LL ≤ 1048576 := by omega
  obtain ⟨hr0, hi0⟩ := fw.grp_len n LL
  have hi1 := sl.hide (fun i => Nat.le_trans (hi0 i) (show 600 ≤ 1048576 by decide))
  have hl1 := Nat.le_trans hr0 (show 600 ≤ 1048576 by decide)
  have LI := sl.hide hi0
  clear hi0
  have CS := sl.hide (fun v w hv => fi.specGroups v n LL w hn1 hv)
  have CI := sl.hide (fun v w hT hv => fi.implGroups v n LL w hT hn1 hv)
  have NO := sl.hide (fun h => fw.grp_no (n := n) (LL := LL) h)
  have YE := sl.hide (fun h => fw.grp_yes (n := n) (LL := LL) h)
  generalize fg.grpL n LL = R at *
  have HTO := sl.hide ht
  clear ht
  have zF0 := (sl.unhide F2).c0
  have zF1 := (sl.unhide F2).c1
  go_wp2_with fail
  refine (sl.unhide CI _ _ ((sl.unhide TT).below (sl.unhide B2)) (sl.unhide FA2).sls).mono ?_; rintro e w3 ⟨u3, rfl, o3, g3⟩
  clear zF0 zF1
  simp only [World.size_alloc] at o3
  obtain ⟨a3_, c3_, rfl⟩ := o3.len
  have s3 := sl.hide (g3).size
  have B3 := sl.hide (sl.below_none (sl.unhide B2) (g3))
  have FA3 := sl.hide ((sl.unhide FA2).kept (g3))
  have F3 := sl.hide ((sl.unhide F2).kept (g3))
  have GA3 := sl.hide o3
  clear o3 g3 B2 FA2 F2
  have zF0 := (sl.unhide F3).c0
  have zF1 := (sl.unhide F3).c1
  go_wp2_with fail
  refine (sl.unhide CS _ _ (sl.unhide FA3).sls).mono ?_; rintro e w4 ⟨u4, rfl, o4, g4⟩
  clear zF0 zF1
  obtain ⟨a4_, c4_, rfl⟩ := o4.len
  have s4 := sl.hide (g4).size
  have B4 := sl.hide (sl.below_none (sl.unhide B3) (g4))
  have FA4 := sl.hide ((sl.unhide FA3).kept (g4))
  have GA4 := sl.hide ((sl.unhide GA3).kept (g4))
  have F4 := sl.hide ((sl.unhide F3).kept (g4))
  have QA4 := sl.hide o4
  clear o4 g4 B3 FA3 GA3 F3
  have zF0 := (sl.unhide F4).c0
  have zF1 := (sl.unhide F4).c1
  go_wp2_with fail
  refine (df.sameList _ _ R _ hl1 (sl.unhide hi1) (sl.unhide GA4).sls (sl.unhide QA4).sls).mono ?_; rintro e w5 ⟨rfl, g5⟩
  clear zF0 zF1
  have s5 := sl.hide (g5).size
  have B5 := sl.hide (sl.below_none (sl.unhide B4) (g5))
  have FA5 := sl.hide ((sl.unhide FA4).kept (g5))
  have GA5 := sl.hide ((sl.unhide GA4).kept (g5))
  have QA5 := sl.hide ((sl.unhide QA4).kept (g5))
  have F5 := sl.hide ((sl.unhide F4).kept (g5))
  clear g5 B4 FA4 GA4 QA4 F4
  clear QA5
  have zF0 := (sl.unhide F5).c0
  have zF1 := (sl.unhide F5).c1
  go_wp2_with fail
  refine (ok.specCnfOk _ n LL _ hn1 (sl.unhide FA5).sls).mono ?_; rintro e w6 ⟨rfl, g6⟩
  clear zF0 zF1
  have s6 := sl.hide (g6).size
  have B6 := sl.hide (sl.below_none (sl.unhide B5) (g6))
  have FA6 := sl.hide ((sl.unhide FA5).kept (g6))
  have GA6 := sl.hide ((sl.unhide GA5).kept (g6))
  have F6 := sl.hide ((sl.unhide F5).kept (g6))
  clear g6 B5 FA5 GA5 F5
  cases hB : ok.cnfB n LL
  · have e := sl.unhide NO hB
    subst e
    clear hB
    have z0 := (sl.unhide F6).c0
    go_wp2_with fail
    go_ret
    exact ⟨rfl, sl.unhide B6⟩
  obtain ⟨y1, y2, y3, y4⟩ := sl.unhide YE hB
  obtain ⟨W, hW⟩ : ∃ W, W = w6 := ⟨_, rfl⟩
  have BW : Hid (Below w.heap.size w W) := by show Below _ _ _; rw [hW]; exact sl.unhide B6
  obtain ⟨fb, hfb⟩ : ∃ fb, fb = w1.heap.size := ⟨_, rfl⟩
  have FB : Hid (cf.Box 26 W fb (.int .i64 n) (.slice va LL.length vc)) := by show cf.Box _ _ _ _ _; rw [hW, hfb]; exact sl.unhide F6
  have FW1 : Hid (∃ lo hi, lo ≤ W.heap.size ∧ hi ≤ W.heap.size ∧ css.OwnS lo hi W (.slice va LL.length vc) LL) := by
    refine ⟨_, _, ?_, ?_, by rw [hW]; exact (sl.unhide FA6)⟩
    · rw [hW]; exact (by have s1_ := sl.unhide s1; have s2_ := sl.unhide s2; have q2_ := sl.unhide q2; have s3_ := sl.unhide s3; have s4_ := sl.unhide s4; have s5_ := sl.unhide s5; have s6_ := sl.unhide s6; omega)
    · rw [hW]; exact (by have s1_ := sl.unhide s1; have s2_ := sl.unhide s2; have q2_ := sl.unhide q2; have s3_ := sl.unhide s3; have s4_ := sl.unhide s4; have s5_ := sl.unhide s5; have s6_ := sl.unhide s6; omega)
  have GW1 : Hid (css.Sls W (.slice a3_ R.length c3_) R) := by show css.Sls _ _ _; rw [hW]; exact (sl.unhide GA6).sls
  have HB1 := sl.hide hB
  clear hB NO YE CS CI hi1 FA6 GA6 F6 B6
  have z0 := (sl.unhide FB).c0
  have z1 := (sl.unhide FB).c1
  rw [hW, hfb] at z0 z1
  go_wp2_with fail
  skip
  rw [← hW]
  rw [← hfb]
  clear z0 z1 hW hfb
  have YY := sl.hide (show css.sumLen R = n.toNat ∧ 0 ≤ n ∧ fw.parts LL R = fw.full LL ∧ (fw.satR n LL R = fw.satB n LL ∨ (fw.hasE LL = true ∧ fw.satB n LL = false)) from ⟨y1, y2, y3, y4⟩)
  clear y1 y2 y3 y4
  go_loopw [5, 6, 7, 8] (fun s p q i wr => ∃ k : Nat, k ≤ R.length ∧ s = .int .i64 (css.sumLen (R.take k) : Int) ∧ p = .int .i64 (fw.parts LL (R.take k) : Int) ∧ q = .bool (fw.satR n LL (R.take k)) ∧ i = .int .i64 (k : Int) ∧ Hid (W.grownBy wr none)) (fun _ _ _ i _ => R.length - (intOf i).toNat)
  case atStart => exact ⟨0, Nat.zero_le _, rfl, rfl, rfl, rfl, sl.grown_refl _⟩
  case round =>
    obtain ⟨k, hk, rfl, rfl, rfl, rfl, hg⟩ := hrel
    have z0 := ((sl.unhide FB).kept (sl.unhide hg)).c0
    have z1 := ((sl.unhide FB).kept (sl.unhide hg)).c1
    by_cases hlt : k < R.length
    · have hi' : (k : Int) < (R.length : Int) := by omega
      obtain ⟨ga, gc, e, hga⟩ := sl.unhide GW1
      cases e
      rcases hga with h | ⟨b, off, rfl, hb, hcb⟩
      · rw [h] at hlt
        simp at hlt
      · obtain ⟨u, hu, hsl⟩ := hcb k hlt
        have c1 := (sl.unhide hg).cell hu (fun e => by cases e)
        have st1 := sl.hide (fw.sum_step R k hlt)
        have st2 := sl.hide (fw.parts_step LL R k hlt)
        have st3 := sl.hide (fw.sat_step n LL R k hlt)
        have hV0 := sl.unhide LI k
        obtain ⟨ua, uc, eu, _⟩ := id hsl
        subst eu
        have hV1 : (R.getD k []).length ≤ 1048576 := by omega
        have CP := sl.hide (fun w1 g hs => fw.partC (.slice va LL.length vc) n LL (R.getD k []) W hn1 (sl.unhide HB1) (sl.unhide FW1) hV1 (.slice ua (R.getD k []).length uc) w1 g hs)
        have HU := sl.hide (fun (w1 : World) (gx : W.grownBy w1 none) => gx.cell hu (fun e => by cases e))
        have HSL := sl.hide (fun (w1 : World) (g : W.grownBy w1 none) => hsl.kept g (.inl rfl))
        clear hcb hu hsl
        generalize R.getD k [] = V at *
        obtain ⟨s0, hs0⟩ : ∃ s0, s0 = css.sumLen (R.take k) := ⟨_, rfl⟩
        have sb : s0 ≤ 25 := by
          have h1 := css.sumLen_take R k
          have h2 := (sl.unhide YY).1
          omega
        rw [← hs0]
        have HS0 := sl.hide hs0
        clear hs0
        go_upto_region 16 with fail
        have CK := sl.hide (fun (w1 : World) (gx : W.grownBy w1 none) => And.intro ((sl.unhide FB).kept gx).c0 (And.intro ((sl.unhide FB).kept gx).c1 (sl.unhide HU w1 gx)))
        have e0 := World.new_ne wr _ z0
        have e1 := World.new_ne wr _ c1
        have GB := sl.hide (sl.grown_trans (r := none) (sl.unhide hg) (cf.grown_drew wr none))
        have GA := sl.hide (sl.grown_trans (r := none) (sl.unhide hg) (sl.grown_trans (r := none) (World.grownBy_alloc wr (.cells #[.int .i64 0, .slice none 0 0] 26) none) (cf.grown_drew (wr.alloc (.cells #[.int .i64 0, .slice none 0 0] 26)) none)))
        have BN := sl.hide ((cf.Box.new 26 wr (.int .i64 0) (.slice none 0 0)).kept (cf.grown_drew (wr.alloc (.cells #[.int .i64 0, .slice none 0 0] 26)) none))
        have SZ := sl.hide (sl.unhide hg).size
        generalize hP : LL.filter (gj.inB V) = P at *
        have HP := sl.hide hP
        clear hP
        go_region_held3 (fun w' => w'.cell? ⟨fb, 0, none⟩ = some (.int .i64 n) ∧ w'.cell? ⟨fb, 1, none⟩ = some (.slice va LL.length vc) ∧ w'.cell? ⟨b, off + k, none⟩ = some (.slice ua V.length uc)) (go_keep) (first
          | (go_at_call 32; (first | (refine (sl.unhide CP _ (sl.unhide GB) (sl.unhide HSL _ (sl.unhide GB))).mono ?_; rintro e w6 ⟨q6, rfl, o6, g6⟩; have G6 := sl.hide (sl.grown_trans (r := none) (sl.unhide GB) g6)) | (refine (sl.unhide CP _ (sl.unhide GA) (sl.unhide HSL _ (sl.unhide GA))).mono ?_; rintro e w6 ⟨q6, rfl, o6, g6⟩; have G6 := sl.hide (sl.grown_trans (r := none) (sl.unhide GA) g6); have BX6 := sl.hide ((sl.unhide BN).kept g6))); obtain ⟨qa, qc, rfl⟩ := o6.len; have O6 := sl.hide o6; (try (have q0 := (sl.unhide BX6).c0)); (try (have q1 := (sl.unhide BX6).c1)); (try (have f0 := (sl.unhide BX6).f 0)); (try (have f1 := (sl.unhide BX6).f 1)); obtain ⟨k1, k2, k3⟩ := sl.unhide CK _ (sl.unhide G6); have e6 := World.new_ne w6 _ k1; have e6' := World.new_ne w6 _ k3; clear g6 o6))
        · have PV := sl.hide (fw.finC (n := n) (sl.unhide O6) (sl.unhide G6))
          generalize w6.alloc (.cells #[.int .i64 n, .slice qa P.length qc] 26) = WP at *
          generalize w6.heap.size = c at *
          clear e0 e1 e6 e6' k1 k2 k3 O6 G6 z0 z1 c1 GA GB BN SZ
          obtain ⟨hp1, hp2⟩ := fw.part_tot (sl.unhide HP) (sl.unhide HTO)
          obtain ⟨pv1, pv2, pv3⟩ := sl.unhide PV
          have q2 := pv2.c0
          have q3 := pv2.c1
          have CSO := sl.hide (lq.specSolve _ n P WP hp1 pv3)
          have st3' := sl.unhide st3
          have st2' := sl.unhide st2
          have pb := fw.parts_bd (LL := LL) (R := R) k hr0 (sl.unhide HTO)
          have ST2 := sl.hide st2'
          have ST3 := sl.hide st3'
          clear pv1 pv2 pv3 st3' st2'
          generalize fw.parts LL (R.take k) = p0 at *
          go_wp2_with fail
          refine (sl.unhide CSO).mono ?_; rintro e w9 ⟨r9, rfl, m9⟩
          have PV9 := sl.hide ((sl.unhide PV).more m9.2)
          clear PV CSO m9 q2 q3
          have q2 := (sl.unhide PV9).2.1.c0
          have q3 := (sl.unhide PV9).2.1.c1
          cases hq : fw.satR n LL (R.take k)
          · rw [hq] at ST3
            clear hq
            go_wp2_with fail
            go_loop [6, 13] (fun p i => ∃ j : Nat, j ≤ P.length ∧ p = .int .i64 ((p0 + fw.full (P.take j) : Nat) : Int) ∧ i = .int .i64 (j : Int)) (fun _ i => P.length - (intOf i).toNat)
            case atStart => exact ⟨0, Nat.zero_le _, rfl, rfl⟩
            case round =>
              obtain ⟨j, hj, rfl, rfl⟩ := hrel
              by_cases hjl : j < P.length
              · have hj' : (j : Int) < (P.length : Int) := by omega
                obtain ⟨a5, c5, e5, ha5⟩ := (sl.unhide PV9).2.2
                cases e5
                rcases ha5 with h | ⟨b5, off5, rfl, hb5, hcb5⟩
                · rw [h] at hjl
                  simp at hjl
                · obtain ⟨u5, d5, hs5⟩ := hcb5 j hjl
                  obtain ⟨a6, c6, e6, _⟩ := hs5
                  subst e6
                  have fl := fw.full_le (P.take j)
                  have fl2 : (P.take j).length ≤ 6050 := by rw [List.length_take]; omega
                  have fy := fw.full_yes P j hjl
                  have fn := fw.full_no P j hjl
                  by_cases h0 : 0 < (P.getD j []).length
                  · have FY := sl.hide (fy h0)
                    have h0' : (0 : Int) < ((P.getD j []).length : Int) := by omega
                    clear fy fn hcb5
                    generalize (P.getD j []).length = l5 at *
                    generalize fw.full (P.take j) = f0 at *
                    go_wp2_with fail
                    go_round
                    case rel => exact ⟨j + 1, by omega, by rw [sl.unhide FY]; go_num, by go_num⟩
                    case measure => simp [intOf]; omega
                  · have FY := sl.hide (fn h0)
                    have h0' : ¬ (0 : Int) < ((P.getD j []).length : Int) := by omega
                    clear fy fn hcb5
                    generalize (P.getD j []).length = l5 at *
                    go_wp2_with fail
                    go_round
                    case rel => exact ⟨j + 1, by omega, by rw [sl.unhide FY], by go_num⟩
                    case measure => simp [intOf]; omega
              · have hj' : ¬ (j : Int) < (P.length : Int) := by omega
                have ej : P.take j = P := List.take_of_length_le (by omega)
                rw [ej]
                have G9 := sl.hide (sl.unhide PV9).1
                clear PV9
                go_wp2_with fail
                go_roundw
                case rel => exact ⟨k + 1, by omega, by rw [sl.unhide st1, ← sl.unhide HS0], by rw [sl.unhide ST2], by rw [sl.unhide ST3]; rfl, by go_num, G9⟩
                case measure => simp [intOf]; omega
          · rw [hq] at ST3
            clear hq
            go_wp2_with fail
            go_loop [6, 13] (fun p i => ∃ j : Nat, j ≤ P.length ∧ p = .int .i64 ((p0 + fw.full (P.take j) : Nat) : Int) ∧ i = .int .i64 (j : Int)) (fun _ i => P.length - (intOf i).toNat)
            case atStart => exact ⟨0, Nat.zero_le _, rfl, rfl⟩
            case round =>
              obtain ⟨j, hj, rfl, rfl⟩ := hrel
              by_cases hjl : j < P.length
              · have hj' : (j : Int) < (P.length : Int) := by omega
                obtain ⟨a5, c5, e5, ha5⟩ := (sl.unhide PV9).2.2
                cases e5
                rcases ha5 with h | ⟨b5, off5, rfl, hb5, hcb5⟩
                · rw [h] at hjl
                  simp at hjl
                · obtain ⟨u5, d5, hs5⟩ := hcb5 j hjl
                  obtain ⟨a6, c6, e6, _⟩ := hs5
                  subst e6
                  have fl := fw.full_le (P.take j)
                  have fl2 : (P.take j).length ≤ 6050 := by rw [List.length_take]; omega
                  have fy := fw.full_yes P j hjl
                  have fn := fw.full_no P j hjl
                  by_cases h0 : 0 < (P.getD j []).length
                  · have FY := sl.hide (fy h0)
                    have h0' : (0 : Int) < ((P.getD j []).length : Int) := by omega
                    clear fy fn hcb5
                    generalize (P.getD j []).length = l5 at *
                    generalize fw.full (P.take j) = f0 at *
                    go_wp2_with fail
                    go_round
                    case rel => exact ⟨j + 1, by omega, by rw [sl.unhide FY]; go_num, by go_num⟩
                    case measure => simp [intOf]; omega
                  · have FY := sl.hide (fn h0)
                    have h0' : ¬ (0 : Int) < ((P.getD j []).length : Int) := by omega
                    clear fy fn hcb5
                    generalize (P.getD j []).length = l5 at *
                    go_wp2_with fail
                    go_round
                    case rel => exact ⟨j + 1, by omega, by rw [sl.unhide FY], by go_num⟩
                    case measure => simp [intOf]; omega
              · have hj' : ¬ (j : Int) < (P.length : Int) := by omega
                have ej : P.take j = P := List.take_of_length_le (by omega)
                rw [ej]
                have G9 := sl.hide (sl.unhide PV9).1
                clear PV9
                go_wp2_with fail
                go_roundw
                case rel => exact ⟨k + 1, by omega, by rw [sl.unhide st1, ← sl.unhide HS0], by rw [sl.unhide ST2], by rw [sl.unhide ST3]; rfl, by go_num, G9⟩
                case measure => simp [intOf]; omega
        · have PV := sl.hide (fw.finA (n := n) (q := .slice qa P.length qc) (sl.unhide O6) (sl.unhide BX6) (sl.unhide G6) (sl.unhide SZ))
          generalize (w6.setCell ⟨wr.heap.size, 0, none⟩ (.int .i64 n)).setCell ⟨wr.heap.size, 1, none⟩ (.slice qa P.length qc) = WP at *
          clear SZ
          generalize wr.heap.size = c at *
          clear e0 e1 e6 e6' k1 k2 k3 O6 G6 z0 z1 c1 GA GB BN BX6 q0 q1 f0 f1
          obtain ⟨hp1, hp2⟩ := fw.part_tot (sl.unhide HP) (sl.unhide HTO)
          obtain ⟨pv1, pv2, pv3⟩ := sl.unhide PV
          have q2 := pv2.c0
          have q3 := pv2.c1
          have CSO := sl.hide (lq.specSolve _ n P WP hp1 pv3)
          have st3' := sl.unhide st3
          have st2' := sl.unhide st2
          have pb := fw.parts_bd (LL := LL) (R := R) k hr0 (sl.unhide HTO)
          have ST2 := sl.hide st2'
          have ST3 := sl.hide st3'
          clear pv1 pv2 pv3 st3' st2'
          generalize fw.parts LL (R.take k) = p0 at *
          go_wp2_with fail
          refine (sl.unhide CSO).mono ?_; rintro e w9 ⟨r9, rfl, m9⟩
          have PV9 := sl.hide ((sl.unhide PV).more m9.2)
          clear PV CSO m9 q2 q3
          have q2 := (sl.unhide PV9).2.1.c0
          have q3 := (sl.unhide PV9).2.1.c1
          cases hq : fw.satR n LL (R.take k)
          · rw [hq] at ST3
            clear hq
            go_wp2_with fail
            go_loop [6, 13] (fun p i => ∃ j : Nat, j ≤ P.length ∧ p = .int .i64 ((p0 + fw.full (P.take j) : Nat) : Int) ∧ i = .int .i64 (j : Int)) (fun _ i => P.length - (intOf i).toNat)
            case atStart => exact ⟨0, Nat.zero_le _, rfl, rfl⟩
            case round =>
              obtain ⟨j, hj, rfl, rfl⟩ := hrel
              by_cases hjl : j < P.length
              · have hj' : (j : Int) < (P.length : Int) := by omega
                obtain ⟨a5, c5, e5, ha5⟩ := (sl.unhide PV9).2.2
                cases e5
                rcases ha5 with h | ⟨b5, off5, rfl, hb5, hcb5⟩
                · rw [h] at hjl
                  simp at hjl
                · obtain ⟨u5, d5, hs5⟩ := hcb5 j hjl
                  obtain ⟨a6, c6, e6, _⟩ := hs5
                  subst e6
                  have fl := fw.full_le (P.take j)
                  have fl2 : (P.take j).length ≤ 6050 := by rw [List.length_take]; omega
                  have fy := fw.full_yes P j hjl
                  have fn := fw.full_no P j hjl
                  by_cases h0 : 0 < (P.getD j []).length
                  · have FY := sl.hide (fy h0)
                    have h0' : (0 : Int) < ((P.getD j []).length : Int) := by omega
                    clear fy fn hcb5
                    generalize (P.getD j []).length = l5 at *
                    generalize fw.full (P.take j) = f0 at *
                    go_wp2_with fail
                    go_round
                    case rel => exact ⟨j + 1, by omega, by rw [sl.unhide FY]; go_num, by go_num⟩
                    case measure => simp [intOf]; omega
                  · have FY := sl.hide (fn h0)
                    have h0' : ¬ (0 : Int) < ((P.getD j []).length : Int) := by omega
                    clear fy fn hcb5
                    generalize (P.getD j []).length = l5 at *
                    go_wp2_with fail
                    go_round
                    case rel => exact ⟨j + 1, by omega, by rw [sl.unhide FY], by go_num⟩
                    case measure => simp [intOf]; omega
              · have hj' : ¬ (j : Int) < (P.length : Int) := by omega
                have ej : P.take j = P := List.take_of_length_le (by omega)
                rw [ej]
                have G9 := sl.hide (sl.unhide PV9).1
                clear PV9
                go_wp2_with fail
                go_roundw
                case rel => exact ⟨k + 1, by omega, by rw [sl.unhide st1, ← sl.unhide HS0], by rw [sl.unhide ST2], by rw [sl.unhide ST3]; rfl, by go_num, G9⟩
                case measure => simp [intOf]; omega
          · rw [hq] at ST3
            clear hq
            go_wp2_with fail
            go_loop [6, 13] (fun p i => ∃ j : Nat, j ≤ P.length ∧ p = .int .i64 ((p0 + fw.full (P.take j) : Nat) : Int) ∧ i = .int .i64 (j : Int)) (fun _ i => P.length - (intOf i).toNat)
            case atStart => exact ⟨0, Nat.zero_le _, rfl, rfl⟩
            case round =>
              obtain ⟨j, hj, rfl, rfl⟩ := hrel
              by_cases hjl : j < P.length
              · have hj' : (j : Int) < (P.length : Int) := by omega
                obtain ⟨a5, c5, e5, ha5⟩ := (sl.unhide PV9).2.2
                cases e5
                rcases ha5 with h | ⟨b5, off5, rfl, hb5, hcb5⟩
                · rw [h] at hjl
                  simp at hjl
                · obtain ⟨u5, d5, hs5⟩ := hcb5 j hjl
                  obtain ⟨a6, c6, e6, _⟩ := hs5
                  subst e6
                  have fl := fw.full_le (P.take j)
                  have fl2 : (P.take j).length ≤ 6050 := by rw [List.length_take]; omega
                  have fy := fw.full_yes P j hjl
                  have fn := fw.full_no P j hjl
                  by_cases h0 : 0 < (P.getD j []).length
                  · have FY := sl.hide (fy h0)
                    have h0' : (0 : Int) < ((P.getD j []).length : Int) := by omega
                    clear fy fn hcb5
                    generalize (P.getD j []).length = l5 at *
                    generalize fw.full (P.take j) = f0 at *
                    go_wp2_with fail
                    go_round
                    case rel => exact ⟨j + 1, by omega, by rw [sl.unhide FY]; go_num, by go_num⟩
                    case measure => simp [intOf]; omega
                  · have FY := sl.hide (fn h0)
                    have h0' : ¬ (0 : Int) < ((P.getD j []).length : Int) := by omega
                    clear fy fn hcb5
                    generalize (P.getD j []).length = l5 at *
                    go_wp2_with fail
                    go_round
                    case rel => exact ⟨j + 1, by omega, by rw [sl.unhide FY], by go_num⟩
                    case measure => simp [intOf]; omega
              · have hj' : ¬ (j : Int) < (P.length : Int) := by omega
                have ej : P.take j = P := List.take_of_length_le (by omega)
                rw [ej]
                have G9 := sl.hide (sl.unhide PV9).1
                clear PV9
                go_wp2_with fail
                go_roundw
                case rel => exact ⟨k + 1, by omega, by rw [sl.unhide st1, ← sl.unhide HS0], by rw [sl.unhide ST2], by rw [sl.unhide ST3]; rfl, by go_num, G9⟩
                case measure => simp [intOf]; omega
    · have hi' : ¬ (k : Int) < (R.length : Int) := by omega
      have ek : R.take k = R := List.take_of_length_le (by omega)
      obtain ⟨y1, y2, y3, y4⟩ := sl.unhide YY
      have en : ((n.toNat : Nat) : Int) = n := Int.toNat_of_nonneg y2
      rw [ek, y1, y3, en]
      have Y4 := sl.hide y4
      have SL : Hid (css.Sls wr (.slice va LL.length vc) LL) := by
        obtain ⟨lo, hi, _, _, ow⟩ := sl.unhide FW1
        exact (ow.kept (sl.unhide hg)).sls
      have hL6 := Nat.le_trans (css.tot_len LL) (sl.unhide HTO)
      clear y1 y2 y3 y4 en ek YY GW1
      go_wp2_with fail
      go_loop [14, 15, 16] (fun f e i => ∃ j : Nat, j ≤ LL.length ∧ f = .int .i64 (fw.full (LL.take j) : Int) ∧ e = .bool (fw.hasE (LL.take j)) ∧ i = .int .i64 (j : Int)) (fun _ _ i => LL.length - (intOf i).toNat)
      case atStart => exact ⟨0, Nat.zero_le _, rfl, rfl, rfl⟩
      case round =>
        obtain ⟨j, hj, rfl, rfl, rfl⟩ := hrel
        by_cases hjl : j < LL.length
        · have hj' : (j : Int) < (LL.length : Int) := by omega
          obtain ⟨a5, c5, e5, ha5⟩ := sl.unhide SL
          cases e5
          rcases ha5 with h | ⟨b5, off5, rfl, hb5, hcb5⟩
          · rw [h] at hjl
            simp at hjl
          · obtain ⟨u5, d5, hs5⟩ := hcb5 j hjl
            obtain ⟨a6, c6, e6, _⟩ := hs5
            subst e6
            have fl := fw.full_le (LL.take j)
            have fl2 : (LL.take j).length ≤ 6050 := by rw [List.length_take]; omega
            have fy := fw.full_yes LL j hjl
            have fn := fw.full_no LL j hjl
            have ey := fw.hasE_no LL j hjl
            have ex := fw.hasE_yes LL j hjl
            by_cases h0 : 0 < (LL.getD j []).length
            · have FY := sl.hide (fy h0)
              have EY := sl.hide (ey h0)
              have h0' : (0 : Int) < ((LL.getD j []).length : Int) := by omega
              clear fy fn ey ex hcb5
              generalize (LL.getD j []).length = l5 at *
              generalize fw.full (LL.take j) = f0 at *
              go_wp2_with fail
              go_round
              case rel => exact ⟨j + 1, by omega, by rw [sl.unhide FY]; go_num, by rw [sl.unhide EY], by go_num⟩
              case measure => simp [intOf]; omega
            · have FY := sl.hide (fn h0)
              have EY := sl.hide (ex h0)
              have h0' : ¬ (0 : Int) < ((LL.getD j []).length : Int) := by omega
              clear fy fn ey ex hcb5
              generalize (LL.getD j []).length = l5 at *
              go_wp2_with fail
              go_round
              case rel => exact ⟨j + 1, by omega, by rw [sl.unhide FY], by rw [sl.unhide EY], by go_num⟩
              case measure => simp [intOf]; omega
        · have hj' : ¬ (j : Int) < (LL.length : Int) := by omega
          have ej : LL.take j = LL := List.take_of_length_le (by omega)
          rw [ej]
          have CSO := sl.hide (lq.specSolve _ n LL wr hn1 (sl.unhide SL))
          clear ej SL FW1
          go_wp2_with fail
          refine (sl.unhide CSO).mono ?_; rintro e w9 ⟨r9, rfl, m9⟩
          have G9 := sl.hide (sl.grown_trans (r := none) (sl.unhide hg) m9.2)
          clear CSO m9 z0 z1
          have z0 := ((sl.unhide FB).kept (sl.unhide G9)).c0
          rw [show (lq.solveL n LL []).isSome = fw.satB n LL from rfl]
          have F1 : (fw.full LL : Int) ≤ 6050 := by
            have := fw.full_le LL
            omega
          rcases sl.unhide Y4 with q | ⟨q1, q2⟩
          · rw [q]
            cases fw.satB n LL
            · go_wp2_with fail
              go_ret
              exact ⟨rfl, sl.below_none (sl.unhide BW) (sl.unhide G9)⟩
            · go_wp2_with fail
              go_ret
              exact ⟨rfl, sl.below_none (sl.unhide BW) (sl.unhide G9)⟩
          · rw [q1, q2]
            cases fw.satR n LL R
            · go_wp2_with fail
              go_ret
              exact ⟨rfl, sl.below_none (sl.unhide BW) (sl.unhide G9)⟩
            · go_wp2_with fail
              go_ret
              exact ⟨rfl, sl.below_none (sl.unhide BW) (sl.unhide G9)⟩

/-! ### the row's step (the guide's own frame) -/
set_option maxRecDepth 100000 in
theorem contract (H : Type) (enc : TypeId × Value → H) (W : World) (base : Nat) (args : Array Value) (ds gs : List (DataW H)) (before : List MemPlace)
    (hval : ∀ (j : Nat) t v, Tryd.f5.params[j]? = some t → args[j]? = some v → Value.okWide Tryd.prog W .any base t v)
    (hW : DataW.Whole enc Tryd.prog Tryd.f5.params.toList Rows.fnGroupsSpec.vars false W args.toList ds gs before) (hL : laidMetH Tryd.prog Rows.fnGroupsRow.laid W) :
    Calls Tryd.prog 5 args W fun e W' => ∃ v, e = .returned v ∧ Rows.fnGroupsSpec.post enc Tryd.prog Tryd.f5 false true false false W args v W' := by
  have hW' := hW
  obtain ⟨p, q, hA0, hV, rfl, hfz, hnd⟩ := hW
  have hA : DataW.TrodAll enc Tryd.prog W 0 (fun _ => true) true Tryd.f5.params.toList args.toList ds p := hA0
  rw [Tryd.params5] at hA hval
  obtain ⟨v0, vs0, d0, ds0, p0, q0, hargs, rfl, rfl, h0, r0⟩ := trodAll_cons hA
  obtain ⟨rfl, rfl, rfl⟩ := trodAll_nil r0
  obtain rfl : args = #[v0] := by cases args; simp_all
  obtain ⟨rfl, rfl⟩ := trodVars_none hV
  obtain ⟨a0, len0, cap0, rfl⟩ := okWide_slice Tryd.underlying22 (hval 0 22 v0 rfl rfl)
  have k0 := h0
  have lt0 : ∀ x ∈ p0, x.block < W.heap.size := by obtain ⟨m, hm⟩ := k0; exact DataW.trod_lt m _ _ _ hm
  obtain ⟨z0, w0⟩ : ∃ zs, IsRow .u8 W a0 len0 cap0 zs := by
    obtain ⟨fuel, hf⟩ := h0
    rcases open_ints Tryd.underlying22 Tryd.underlying5 (by kernel_rfl) hf with ⟨hcs, _⟩ | ⟨x, l, c, zs, hcs, _, hl, hm, hz, _, hcell, hwz⟩
    · simp [Value.cells] at hcs
      obtain ⟨rfl, rfl, rfl⟩ := hcs
      exact ⟨[], .inl ⟨rfl, rfl, rfl, rfl⟩⟩
    · simp [Value.cells] at hcs
      obtain ⟨rfl, rfl, rfl⟩ := hcs
      exact ⟨zs, .inr ⟨_, rfl, hl, hm, by simpa using hz, hcell, hwz⟩⟩
  clear hA0
  refine (walk a0 len0 cap0 z0 W w0 (table hL)).mono fun e W' ⟨he, bel⟩ => ?_
  subst he
  exact ⟨_, rfl, _, _, _, [], _, [], hW', trodAll_mk1 (shut_bool Tryd.underlying4 _), (trodAll_cons_mk (Below.trod laidOut (by kernel_rfl) (of_decide_eq_true (by kernel_rfl)) k0 bel lt0) trodAll_mk0), rfl, bel.frame _, fun h => by cases h⟩

set_option maxRecDepth 100000 in
theorem lifted (os : Os) (started : os.Started) (H : Type) (enc : TypeId × Value → H) (F : Stop.Interp) :
    ReturnsInHanded {} Tryd.checked os 5 .any ((OpenSpec.ofChange Rows.fnGroupsSpec).preRow enc Tryd.prog Tryd.f5 Rows.fnGroupsRow.domain false Rows.fnGroupsRow.laid) (((OpenSpec.ofChange Rows.fnGroupsSpec).at F).post enc Tryd.prog Tryd.f5 false true false false) := by
  refine returnsInHanded_of_row (C := Tryd.checked) (s := OpenSpec.ofChange Rows.fnGroupsSpec) own started (by kernel_rfl) Tryd.func5
    (witness_row_at (enc := enc) (C := Tryd.checked) false ({ World.holding Tryd.prog os ⟨#[], #[], []⟩ with heap := (World.holding Tryd.prog os ⟨#[], #[], []⟩).heap.modify 0 fun | .cells _ t frozen => .cells (Lib.deBruijn64tab.map fun (n : Nat) => Value.int .u8 n).toArray t frozen | o => o } : World) #[.slice none 0 0] rfl (by kernel_rfl) (by kernel_rfl) (by kernel_rfl)
      (OpenSpec.preRow_of_cond 8 (x := ([.nil], [], [])) (by kernel_rfl) (by kernel_rfl) (fun k hk => by cases hk) (by kernel_rfl) (laidMet_of_run' 8 (by kernel_rfl) (by kernel_rfl)))) ?_
  intro W base args ds gs before hval hW _ _ _ hL _ _
  exact contract H enc W base args ds gs before hval hW hL

theorem said : Rows.FnGroupsSaid :=
  OpenClaim.holds_of_cond 5 Tryd.f5 rfl rfl rfl rfl rfl rfl rfl ⟨rfl, rfl, rfl, rfl, rfl⟩ rfl rfl rfl rfl rfl (by kernel_rfl) Tryd.func5 (by kernel_rfl)
    (of_decide_eq_true (by kernel_rfl)) (by unfold Func.isWrapper; first | (rw [if_pos (by decide +kernel)]; kernel_rfl) | (rw [if_neg (by decide +kernel)]; exact ⟨rfl, rfl⟩))
    (fun os started H enc _ F => by rw [OpenClaim.pre_eq_preRow]; exact lifted os started H enc F)

theorem plain (f : FuncId) (fn : Func) (hf : Tryd.pinned.checked.prog.funcNamed "loop.example/g00123/laws.FnGroups" = some f) (hfn : Tryd.pinned.checked.prog.funcs[f]? = some fn) :
    false = Tryd.pinned.checked.prog.looks [] ∧ ∀ (j : Nat) t, fn.params[j]? = some t → Tryd.pinned.checked.prog.wantsStandIn t = false := by
  obtain rfl : f = 5 := Option.some.inj ((show Tryd.prog.funcNamed "loop.example/g00123/laws.FnGroups" = some 5 by kernel_rfl).symm.trans hf) |>.symm
  obtain rfl : fn = Tryd.f5 := (Option.some.inj (Tryd.func5.symm.trans hfn)).symm
  refine ⟨by kernel_rfl, fun j t ht => ?_⟩
  rw [Tryd.params5] at ht
  obtain rfl : t = 22 := by simpa using Array.mem_of_getElem? ht
  exact (show Tryd.prog.wantsStandIn 22 = false by kernel_rfl)

/-- the statement: the row's tied card -/
theorem proved : Rows.FnGroupsCardSaid :=
  Claim7.holds_tied_plain_at .later [] _ _ _ _ said (fun _ h => by cases h) (by kernel_rfl) (fun _ h => by cases h) fnGroups_row_tie rfl ⟨rfl, rfl⟩ (by kernel_rfl) rfl plain (by kernel_rfl)
#print axioms proved
end Go.Proofs.YtibpnocpafppaaaDoor.fnGroups
