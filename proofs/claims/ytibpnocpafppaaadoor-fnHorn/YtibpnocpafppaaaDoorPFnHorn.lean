/- At every code that was drawn a formula from, impl.Horn and impl.Width answer as spec.Horn and spec.Width, its literals occur no oftener than its width tells, and where its clauses have at most one positive literal each it can be true just when nothing is forced to be false, and then where just what is forced is true (the law FnHorn returns true); the library's table of places lies as its text lays it (tied). -/
import Derived.Test.YtibpnocpafppaaaDoorCards
import Derived.Test.YtibpnocpafppaaaDoorTie
import Derived.Test.YtibpnocpafppaaaDoorJXGd
import Derived.Test.YtibpnocpafppaaaDoorJXGa
import Derived.Test.YtibpnocpafppaaaDoorJXEn
import Derived.Test.YtibpnocpafppaaaDoorJXEo
import Derived.Test.YtibpnocpafppaaaDoorJHb
import Derived.Test.YtibpnocpafppaaaDoorJHs
import Derived.Test.YtibpnocpafppaaaDoorJXSl
import Derived.Test.YtibpnocpafppaaaDoorJXApp
import Derived.Deep.RegionHeld3
import Derived.Test.YtibpnocpafppaaaDoorJXLs5
import Derived.Test.YtibpnocpafppaaaDoorJXDCl
import Derived.WalkKit
import Derived.ProofKit
import Derived.OpenShut
import Derived.ShutString
import Derived.ChangeOld
import Derived.Below
import Derived.Deep.DeepHandedRow
import Derived.Lib.LaidTab
import Derived.Lib.TrailingZeros
import Derived.Stop.LaidErr
import Derived.Stop.LaidTwo
import Derived.LaidHandle
import Derived.LaidSub
namespace Go.Proofs.YtibpnocpafppaaaDoor.fnHorn
open Go.ChangeShapes Go.WideShapes Go.ChangeAt Go.RowKit
open Go.ChangeMaps (open_string shut_string)
set_option linter.unusedVariables false

theorem own : ownKnob Tryd.prog.godebug = none := by kernel_rfl
theorem laidOut : laidOutB Tryd.prog = true := by kernel_rfl

/-- what the walk is told of a slice of integers that came in -/
def IsRow (k : IntKind) (w : World) (a : Option Addr) (len cap : Nat) (zs : List Int) : Prop :=
  (a = none ∧ len = 0 ∧ cap = 0 ∧ zs = []) ∨
  ∃ x, a = some x ∧ len ≤ cap ∧ cap ≤ maxLen ∧ zs.length = cap ∧ (∀ i, i < zs.length → w.cell? (x.add i) = some (.int k (zs.getD i 0))) ∧ ∀ n ∈ zs, (Lit.int k n).wf = true

theorem gTab : Tryd.prog.globalNamed "math/bits.deBruijn64tab" = some 0 := by kernel_rfl
theorem gTabType : (Tryd.prog.globals[0]?).map (·.type) = some 132 := by kernel_rfl
theorem cellsTab : Tryd.prog.cellsOf 132 = 64 := by kernel_rfl
theorem cellsByte : Tryd.prog.cellsOf 5 = 1 := by kernel_rfl
/-- what the row's list gives: the table's cells hold its numbers -/
theorem table {W : World} (h : laidMetH Tryd.prog Rows.fnHornRow.laid W) : srt.Tab W := by
  have t : Lib.TabIs Tryd.prog W "math/bits.deBruijn64tab" .u8 (Lib.deBruijn64tab.map fun (n : Nat) => (n : Int)) :=
    Lib.tabIs_of_head (rest := []) gTab gTabType Tryd.underlying132 Tryd.underlying5 cellsByte cellsTab h
  intro j hj
  have c := t.cell gTab j (by rw [List.length_map]; exact hj)
  rw [c]
  congr 2
  rw [List.getD, List.getD, List.getElem?_map]
  cases Lib.deBruijn64tab[j]? <;> rfl

/-! ### the walk -/
set_option maxRecDepth 100000 in
set_option maxHeartbeats 8000000 in
theorem walk (a0 : Option Addr) (len0 cap0 : Nat) (z0 : List Int) (w : World) (w0 : IsRow .u8 w a0 len0 cap0 z0) (hT : srt.Tab w) :
    Calls Tryd.prog 6 #[.slice a0 len0 cap0] w fun e w' => e = .returned (.bool true) ∧ Below w.heap.size w w' := by
  have hB := draw.of_rowB w0
  have hm : len0 ≤ 9223372036854775807 := by
    rcases w0 with ⟨_, h, _, _⟩ | ⟨_, _, h1, h2, _⟩
    · omega
    · unfold maxLen at h2
      omega
  clear w0
  by_cases hbig : 1048576 < len0
  · have C := sl.hide (draw.big a0 len0 cap0 w hm)
    rw [decide_eq_true hbig] at C
    clear hT
    go_enter Tryd.func6, Tryd.ntmps6
    go_wp2_with fail
    refine (sl.unhide C).mono ?_; rintro e w' ⟨rfl, rfl⟩
    go_wp2_with fail
    go_ret
    exact ⟨rfl, Below.refl _ _⟩
  have C := sl.hide (draw.big a0 len0 cap0 w hm)
  rw [decide_eq_false hbig] at C
  have HB := sl.hide hB
  have TT := sl.hide hT
  have hlen : len0 ≤ 1048576 := by omega
  clear hB hT hbig
  go_enter Tryd.func6, Tryd.ntmps6
  go_wp2_with fail
  refine (sl.unhide C).mono ?_; rintro e w' ⟨rfl, hw⟩; have hw' := hw.symm; clear hw; subst hw'
  clear C hm
  go_wp2_with fail
  refine (en.drawHorn a0 len0 cap0 _ hlen (sl.unhide HB)).mono ?_; rintro e w1 ⟨n, v, LL, rfl, hn25, ht, o1, g1⟩
  obtain ⟨va, vc, rfl⟩ := o1.len
  have gA := World.grownBy_alloc w1 (.cells #[.int .i64 n, .slice va LL.length vc] 26) none
  have F1 := sl.hide (cf.Box.new 26 w1 (.int .i64 n) (.slice va LL.length vc))
  have G1 := sl.hide (sl.grown_trans (r := none) g1 gA)
  have O1 := sl.hide (o1.kept gA)
  obtain ⟨W1, hW1⟩ : ∃ W1, W1 = w1.alloc (.cells #[.int .i64 n, .slice va LL.length vc] 26) := ⟨_, rfl⟩
  obtain ⟨fb, hfb⟩ : ∃ fb, fb = w1.heap.size := ⟨_, rfl⟩
  rw [← hW1] at F1 G1 O1
  rw [← hfb] at F1
  have T1 := sl.hide ((sl.unhide TT).kept (sl.unhide G1))
  have hn1 : css.tot LL ≤ 1048576 := by omega
  have hn0 := sl.hide hn25.1
  have hnh := sl.hide hn25.2
  clear g1 o1 gA TT HB hn25
  have z0 := (sl.unhide F1).c0
  have z1 := (sl.unhide F1).c1
  have CH := sl.hide (fun (w' : World) (g : W1.grownBy w' none) => gc.implHorn (.slice va LL.length vc) n LL w' hn1 ((sl.unhide O1).kept g).sls)
  have CG := sl.hide (fun (w' : World) (g : W1.grownBy w' none) => gc.specHorn (.slice va LL.length vc) n LL w' hn1 ((sl.unhide O1).kept g).sls)
  have CW := sl.hide (fun (w' : World) (g : W1.grownBy w' none) => ga.implWidth (.slice va LL.length vc) n LL w' hn1 ((sl.unhide O1).kept g).sls)
  have CX := sl.hide (fun (w' : World) (g : W1.grownBy w' none) => ga.specWidth (.slice va LL.length vc) n LL w' hn1 ((sl.unhide O1).kept g).sls)
  have CO := sl.hide (fun (w' : World) (k : Nat) (g : W1.grownBy w' none) => eo.oc_eq n ((k : Int) - 24) LL ▸ gc.implOccurs (.slice va LL.length vc) n ((k : Int) - 24) LL w' hn1 ((sl.unhide O1).kept g).sls)
  have CK := sl.hide (fun (w' : World) (g : W1.grownBy w' none) => ok.specCnfOk (.slice va LL.length vc) n LL w' hn1 ((sl.unhide O1).kept g).sls)
  have CS := sl.hide (fun (w' : World) (g : W1.grownBy w' none) => cso.implCnfSort (.slice va LL.length vc) n LL w' ((sl.unhide T1).kept g) hn1 ((sl.unhide O1).kept g).sls)
  have CV := sl.hide (fun (w' : World) (g : W1.grownBy w' none) => lq.specSolve (.slice va LL.length vc) n LL w' hn1 ((sl.unhide O1).kept g).sls)
  have CT := sl.hide (fun (w' : World) (g : W1.grownBy w' none) (u : Value) (A : List Int) (hA : A.length ≤ 1048576) (hu : sl.Sl w' u A) => tr.implCnfTrue (.slice va LL.length vc) u n LL A w' hn1 hA ((sl.unhide O1).kept g).sls hu)
  have hneq : (gc.hornB n LL != gc.hornB n LL) = false := by simp
  have hweq : (ga.widI n LL != ga.widI n LL) = false := by simp
  have FF := sl.hide (show ok.cnfB n LL = false → gc.hornB n LL = false ∧ ga.widI n LL = -1 ∧ eo.sumO n LL 49 = 0 from fun h => ⟨by unfold gc.hornB; rw [h]; rfl, by unfold ga.widI; rw [h]; rfl, eo.sumO_no h 49⟩)
  have FT := sl.hide (show ok.cnfB n LL = true → (eo.sumO n LL 49 : Int) ≤ ga.widI n LL * (LL.length : Int) ∧ 0 ≤ ga.widI n LL * (LL.length : Int) ∧ ga.widI n LL * (LL.length : Int) ≤ 5760 from fun h => by
    have h1 := eo.occ_width h 49
    have h2 := eo.wid_le h
    have h3 := (fm.cnf_facts h).2.2.1
    have h4 := Nat.mul_le_mul h2 h3
    unfold ga.widI at *
    rw [h, if_pos rfl] at *
    rw [← Int.natCast_mul] at *
    exact ⟨h1, by omega, by omega⟩)
  have FH := sl.hide (show gc.hornB n LL = true → ∃ m : Nat, n = (m : Int) ∧ m ≤ 24 ∧ LL.all gc.oneB = true from fun h => by
    unfold gc.hornB at h
    rw [Bool.and_eq_true] at h
    have cf := fm.cnf_facts h.1
    exact ⟨n.toNat, by omega, by omega, h.2⟩)
  have SL := sl.hide (fun k => eo.sumO_le n LL k)
  generalize hH : gc.hornB n LL = H at *
  generalize hWd : ga.widI n LL = Wd at *
  have HH := sl.hide hH
  have HWD := sl.hide hWd
  clear hH hWd
  go_wp2_with fail
  rw [← hW1, ← hfb]
  clear hW1 hfb
  refine (sl.unhide CH W1 (sl.grown_refl _)).mono ?_; rintro e w2 ⟨rfl, g2⟩
  have K2 := sl.hide g2
  have SK : Hid (∀ wz, W1.grownBy wz none → wz.cell? ⟨fb, 0, none⟩ = some (.int .i64 n) ∧ wz.cell? ⟨fb, 1, none⟩ = some (.slice va LL.length vc)) := fun wz g => ⟨((sl.unhide F1).kept g).c0, ((sl.unhide F1).kept g).c1⟩
  clear z0 z1 g2 CH
  obtain ⟨z0, z1⟩ := sl.unhide SK w2 (sl.unhide K2)
  have GX := sl.hide (sl.grown_trans (r := none) (sl.unhide K2) (cf.grown_drew w2 none))
  go_wp2_with fail
  go_region_held3 (fun w' => w'.cell? ⟨fb, 0, none⟩ = some (.int .i64 n) ∧ w'.cell? ⟨fb, 1, none⟩ = some (.slice va LL.length vc)) (first | exact sl.unhide SK _ (sl.unhide GX) | go_keep) (first
    | (go_at_call 36; refine (sl.unhide CG _ (sl.unhide GX)).mono ?_; rintro e w6 ⟨rfl, g6⟩; replace GX := sl.hide (sl.grown_trans (r := none) (sl.unhide GX) g6); clear g6)
    | (go_at_call 37; refine (sl.unhide CW _ (sl.unhide GX)).mono ?_; rintro e w7 ⟨rfl, g7⟩; replace GX := sl.hide (sl.grown_trans (r := none) (sl.unhide GX) g7); clear g7)
    | (go_at_call 38; refine (sl.unhide CX _ (sl.unhide GX)).mono ?_; rintro e w8 ⟨rfl, g8⟩; replace GX := sl.hide (sl.grown_trans (r := none) (sl.unhide GX) g8); clear g8))
  clear CG CX z0 z1 hneq hweq SK
  have SK : Hid (∀ wz, W1.grownBy wz none → wz.cell? ⟨fb, 0, none⟩ = some (.int .i64 n) ∧ wz.cell? ⟨fb, 1, none⟩ = some (.slice va LL.length vc)) := fun wz g => ⟨((sl.unhide F1).kept g).c0, ((sl.unhide F1).kept g).c1⟩
  go_wp2_with fail
  go_loopw [5, 6] (fun q i wr => ∃ k : Nat, k ≤ 49 ∧ i = .int .i64 ((k : Int) - 24) ∧ q = .int .i64 (eo.sumO n LL k : Int) ∧ Hid (W1.grownBy wr none)) (fun _ i _ => (25 - intOf i).toNat)
  case atStart => exact ⟨0, Nat.zero_le _, rfl, rfl, GX⟩
  case round =>
    obtain ⟨k, hk, rfl, rfl, hg⟩ := hrel
    clear GX
    by_cases hlt : k < 49
    · have hi' : (k : Int) - 24 ≤ 24 := by omega
      obtain ⟨z0, z1⟩ := sl.unhide SK _ (sl.unhide hg)
      have CO1 := sl.hide (sl.unhide CO wr k (sl.unhide hg))
      have e1 : Hid ((eo.sumO n LL (k + 1) : Int) = (eo.sumO n LL k : Int) + (eo.ocN n ((k : Int) - 24) LL : Int)) := by
        show _ = _
        have : eo.sumO n LL (k + 1) = eo.sumO n LL k + eo.ocN n ((k : Int) - 24) LL := rfl
        omega
      have s1 := sl.unhide SL k
      have s2 := eo.oc_le n ((k : Int) - 24) LL
      generalize eo.sumO n LL k = sk at *
      generalize eo.ocN n ((k : Int) - 24) LL = ocv at *
      go_wp2_with fail
      refine (sl.unhide CO1).mono ?_; rintro e w5 ⟨rfl, g5⟩
      have K5 := sl.hide (sl.grown_trans (r := none) (sl.unhide hg) g5)
      clear g5 CO1 hg z0 z1
      go_wp2_with fail
      go_roundw
      case rel => exact ⟨k + 1, by omega, by go_num, by rw [sl.unhide e1], K5⟩
      case measure => simp [intOf]; omega
    · have hi' : ¬ (k : Int) - 24 ≤ 24 := by omega
      have e : k = 49 := by omega
      subst e
      obtain ⟨z0, z1⟩ := sl.unhide SK _ (sl.unhide hg)
      have CK1 := sl.hide (sl.unhide CK wr (sl.unhide hg))
      clear CO SL
      cases hc : ok.cnfB n LL
      · obtain ⟨f1, f2, f3⟩ := sl.unhide FF hc
        rw [hc] at CK1
        clear FF FT FH hc
        rw [f3]
        subst f1 f2
        clear f3
        go_wp2_with fail
        refine (sl.unhide CK1).mono ?_; rintro e w5 ⟨rfl, g5⟩
        have K5 := sl.hide (sl.grown_trans (r := none) (sl.unhide hg) g5)
        clear z0 z1
        obtain ⟨z0, z1⟩ := sl.unhide SK _ (sl.unhide K5)
        have CW1 := sl.hide (sl.unhide CW w5 (sl.unhide K5))
        clear g5 CK1 hg
        go_wp2_with fail
        refine (sl.unhide CW1).mono ?_; rintro e w6 ⟨rfl, g6⟩
        have K6 := sl.hide (sl.grown_trans (r := none) (sl.unhide K5) g6)
        clear g6 CW1 K5
        go_wp2_with fail
        go_ret
        exact ⟨rfl, sl.below_of (sl.grown_trans (r := none) (sl.unhide G1) (sl.unhide K6))⟩
      · rw [hc] at CK1
        obtain ⟨f1, f2, f3⟩ := sl.unhide FT hc
        have HC := sl.hide hc
        clear FF FT hc
        obtain ⟨qq, hqq⟩ : ∃ qq : Int, qq = Wd * (LL.length : Int) := ⟨_, rfl⟩
        have hqw : IntKind.i64.wrap (Wd * (LL.length : Int)) = qq := by rw [← hqq]; exact eo.wrap_in (by omega) (by omega)
        rw [← hqq] at f1 f2 f3
        have hle : ¬ qq < (eo.sumO n LL 49 : Int) := by omega
        have hqd : decide (qq < (eo.sumO n LL 49 : Int)) = false := decide_eq_false hle
        generalize eo.sumO n LL 49 = s49 at *
        clear hqq f1 f2 f3
        go_wp2_with fail
        refine (sl.unhide CK1).mono ?_; rintro e w5 ⟨rfl, g5⟩
        have K5 := sl.hide (sl.grown_trans (r := none) (sl.unhide hg) g5)
        clear z0 z1
        obtain ⟨z0, z1⟩ := sl.unhide SK _ (sl.unhide K5)
        have GX := sl.hide (sl.grown_trans (r := none) (sl.unhide K5) (cf.grown_drew w5 none))
        clear g5 CK1 hg
        go_wp2_with fail
        go_region_held3 (fun w' => w'.cell? ⟨fb, 0, none⟩ = some (.int .i64 n) ∧ w'.cell? ⟨fb, 1, none⟩ = some (.slice va LL.length vc)) (first | exact sl.unhide SK _ (sl.unhide GX) | go_keep) (first
          | (go_at_call 37; refine (sl.unhide CW _ (sl.unhide GX)).mono ?_; rintro e w7 ⟨rfl, g7⟩; replace GX := sl.hide (sl.grown_trans (r := none) (sl.unhide GX) g7); clear g7))
        clear CW hqw hqd hle
        cases H
        · go_wp2_with fail
          go_ret
          exact ⟨rfl, sl.below_of (sl.grown_trans (r := none) (sl.unhide G1) (sl.unhide GX))⟩
        · go_wp2_with fail
          obtain ⟨m, hnm, hm24, hone⟩ := sl.unhide FH (by first | trivial | rfl)
          subst hnm
          have HONE := sl.hide hone
          obtain ⟨s1, s2, s3⟩ := cso.srt_yes (sl.unhide HC)
          have CS1 := sl.unhide CS _ (sl.unhide GX)
          rw [s1, s2, s3] at CS1
          have CSH := sl.hide CS1
          have htS : css.tot (cs.cnfS LL) ≤ 1048576 := by
            have := cso.srt_tot (m : Int) LL
            rw [s2] at this
            exact Nat.le_trans this (by decide)
          have hs1 := eo.horn_sat (sl.unhide HC) hone
          have hs2 := fun (hf : (wm.forceB (m : Int) (cs.cnfS LL) []).2 = true) => eo.horn_true (sl.unhide HC) hone hf
          have hs3 := sp.forceB_len (m : Int) (cs.cnfS LL) []
          have CF := sl.hide (fun (w' : World) (g : W1.grownBy w' none) (v' : Value) (hv : css.Sls w' v' (cs.cnfS LL)) => wm.implForce v' (.slice none 0 0) (m : Int) (cs.cnfS LL) [] 0 0 w' ((sl.unhide T1).kept g) htS (by simp) hv (eo.own_none 0 0 w'))
          generalize wm.forceB (m : Int) (cs.cnfS LL) [] = PF at *
          obtain ⟨P, fine⟩ := PF
          simp only at hs1 hs2 hs3
          have S1 := sl.hide hs1
          have S2 := sl.hide hs2
          have hPl : P.length ≤ 1048576 := by simp only [List.length_nil] at hs3; omega
          generalize cs.cnfS LL = G at *
          clear CS CS1 s1 s2 s3 FH hone hs1 hs2 hs3 z0 z1
          obtain ⟨z0, z1⟩ := sl.unhide SK _ (sl.unhide GX)
          go_wp2_with fail
          refine (sl.unhide CSH).mono ?_; rintro e w9 ⟨u9, rfl, o9, g9⟩
          obtain ⟨ra, rc, rfl⟩ := o9.len
          have gB := World.grownBy_alloc w9 (.cells #[.int .i64 (m : Int), .slice ra G.length rc] 26) none
          have bG := cf.Box.new 26 w9 (.int .i64 (m : Int)) (.slice ra G.length rc)
          have K9 := sl.hide (sl.grown_trans (r := none) (sl.unhide GX) (sl.grown_trans (r := none) g9 gB))
          have CF1 := sl.hide (sl.unhide CF _ (sl.unhide K9) _ ((o9.kept gB).sls))
          have y0 := bG.c0
          have y1 := bG.c1
          clear z0 z1 o9 g9 gB bG CSH CF GX
          go_wp2_with fail
          refine (sl.unhide CF1).mono ?_; rintro e w10 ⟨u10, rfl, m10⟩
          have K10 := sl.hide (sl.grown_trans (r := none) (sl.unhide K9) m10.2)
          have P10 := sl.hide (sl.Own.of m10.1).sl
          obtain ⟨pa, pc, rfl, _⟩ := (sl.Own.of m10.1).sl
          have ST : Hid (wo.Made w10 (w10.alloc (.cells #[] 3)) (.slice (some ⟨w10.heap.size, 0, none⟩) 0 0) ((eo.asgP m P).take 0)) := app.made_nil w10
          have AL := sl.hide (eo.asgP_len m P)
          have AS := sl.hide (eo.asgP_step m P)
          clear y0 y1 CF1 m10 K9
          obtain ⟨z0, z1⟩ := sl.unhide SK _ (sl.unhide K10)
          have CH9 := sl.hide (fun (w' : World) (k : Nat) (g : w10.grownBy w' none) => cls.implClauseHas (.slice pa P.length pc) P ((k : Int) + 1) w' hPl ((sl.unhide P10).kept g (.inl rfl)))
          clear P10
          go_wp2_with fail
          go_loopw [11, 12] (fun u i wr => ∃ k : Nat, k ≤ m ∧ i = .int .i64 ((k : Int) + 1) ∧ Hid (wo.Made w10 wr u ((eo.asgP m P).take k))) (fun _ i _ => m + 1 - (intOf i).toNat)
          case atStart => exact ⟨0, Nat.zero_le _, rfl, ST⟩
          case round =>
            obtain ⟨k, hk, rfl, hmd⟩ := hrel
            clear ST z0 z1
            obtain ⟨z0, z1⟩ := sl.unhide SK _ (sl.grown_trans (r := none) (sl.unhide K10) (sl.unhide hmd).2)
            obtain ⟨ua, uc, rfl, _⟩ := (sl.Own.of (sl.unhide hmd).1).sl
            by_cases hlt : k < m
            · have hi' : (k : Int) + 1 ≤ (m : Int) := by omega
              have CH1 := sl.hide (sl.unhide CH9 _ k (sl.unhide hmd).2)
              have asx := sl.unhide AS k hlt
              obtain ⟨A2, hA2⟩ : ∃ A2, A2 = (eo.asgP m P).take (k + 1) := ⟨_, rfl⟩
              rw [← hA2] at asx
              have HA2 := sl.hide hA2
              have lw : ((eo.asgP m P).take k).length ≤ 4194304 := by rw [List.length_take]; omega
              generalize (eo.asgP m P).take k = A1 at *
              have hg := sl.hide (sl.unhide hmd).2
              have ho := sl.hide (sl.unhide hmd).1
              clear hA2 hmd
              cases hx : cls.hasB P ((k : Int) + 1)
              · rw [hx] at asx CH1
                have ASN := sl.hide asx
                clear asx hx
                go_wp2_with fail
                refine (sl.unhide CH1).mono ?_; rintro e w' ⟨rfl, hw⟩; have hw' := hw.symm; clear hw; subst hw'
                go_wp2_with (at_builtin; refine wo.append1 (sl.unhide hg) (sl.unhide ho) lw rfl _ _ rfl rfl rfl ?_)
                intro v' w2 R2
                have R3 : Hid (wo.Made w10 w2 v' A2) := by
                  rw [sl.unhide ASN]
                  exact R2
                clear R2 hg ho CH1
                go_wp2_with fail
                go_roundw
                case rel => exact ⟨k + 1, by omega, by go_num, by rw [← sl.unhide HA2]; exact R3⟩
                case measure => simp [intOf]; omega
              · rw [hx] at asx CH1
                have ASN := sl.hide asx
                clear asx hx
                go_wp2_with fail
                refine (sl.unhide CH1).mono ?_; rintro e w' ⟨rfl, hw⟩; have hw' := hw.symm; clear hw; subst hw'
                go_wp2_with (at_builtin; refine wo.append1 (sl.unhide hg) (sl.unhide ho) lw rfl _ _ rfl rfl rfl ?_)
                intro v' w2 R2
                have R3 : Hid (wo.Made w10 w2 v' A2) := by
                  rw [sl.unhide ASN]
                  exact R2
                clear R2 hg ho CH1
                go_wp2_with fail
                go_roundw
                case rel => exact ⟨k + 1, by omega, by go_num, by rw [← sl.unhide HA2]; exact R3⟩
                case measure => simp [intOf]; omega
            · have hi' : ¬ (k : Int) + 1 ≤ (m : Int) := by omega
              have e : (eo.asgP m P).take k = eo.asgP m P := List.take_of_length_le (by rw [sl.unhide AL]; omega)
              rw [e] at hmd ⊢
              have K11 := sl.hide (sl.grown_trans (r := none) (sl.unhide K10) (sl.unhide hmd).2)
              have AO := sl.hide (sl.Own.of (sl.unhide hmd).1).sl
              have CV1 := sl.unhide CV _ (sl.unhide K11)
              unfold lq.FromE at CV1
              rw [sl.unhide S1] at CV1
              have CVH := sl.hide CV1
              have hAl : (eo.asgP m P).length ≤ 1048576 := by rw [sl.unhide AL]; omega
              have TB := sl.hide (fun (hf : fine = true) => show tr.trueB (m : Int) LL (eo.asgP m P) = true by
                unfold tr.trueB
                rw [ms.assign_yes (sl.unhide HC) (sl.unhide AL) (eo.asgP_bits m P).2, sl.unhide S2 hf]
                rfl)
              have CT1 := sl.hide (fun (w' : World) (g : wr.grownBy w' none) => sl.unhide CT w' (sl.grown_trans (r := none) (sl.unhide K11) g) _ _ hAl ((sl.unhide AO).kept g (.inl rfl)))
              clear hmd e CV CV1 CT AL AS CH9 S1 S2
              generalize eo.asgP m P = AA at *
              go_wp2_with fail
              refine (sl.unhide CVH).mono ?_; rintro e w12 ⟨rv, rfl, m12⟩
              obtain ⟨rva, rvc, rfl, _⟩ := (sl.Own.of m12.1).sl
              have K12 := sl.hide (sl.grown_trans (r := none) (sl.unhide K11) m12.2)
              have CT2 := sl.hide (sl.unhide CT1 w12 m12.2)
              clear z0 z1 m12 CVH CT1
              obtain ⟨z0, z1⟩ := sl.unhide SK _ (sl.unhide K12)
              cases fine
              · clear CT2
                go_wp2_with fail
                go_ret
                exact ⟨rfl, sl.below_of (sl.grown_trans (r := none) (sl.unhide G1) (sl.unhide K12))⟩
              · have tbt := sl.unhide TB (by first | rfl | trivial)
                have CT3 := sl.unhide CT2
                rw [tbt] at CT3
                have CT4 := sl.hide CT3
                clear CT2 CT3 tbt TB
                go_wp2_with fail
                refine (sl.unhide CT4).mono ?_; rintro e w13 ⟨rfl, g13⟩
                have K13 := sl.hide (sl.grown_trans (r := none) (sl.unhide K12) g13)
                clear g13 CT4
                go_wp2_with fail
                go_ret
                exact ⟨rfl, sl.below_of (sl.grown_trans (r := none) (sl.unhide G1) (sl.unhide K13))⟩

/-! ### the row's step (the guide's own frame) -/
set_option maxRecDepth 100000 in
theorem contract (H : Type) (enc : TypeId × Value → H) (W : World) (base : Nat) (args : Array Value) (ds gs : List (DataW H)) (before : List MemPlace)
    (hval : ∀ (j : Nat) t v, Tryd.f6.params[j]? = some t → args[j]? = some v → Value.okWide Tryd.prog W .any base t v)
    (hW : DataW.Whole enc Tryd.prog Tryd.f6.params.toList Rows.fnHornSpec.vars false W args.toList ds gs before) (hL : laidMetH Tryd.prog Rows.fnHornRow.laid W) :
    Calls Tryd.prog 6 args W fun e W' => ∃ v, e = .returned v ∧ Rows.fnHornSpec.post enc Tryd.prog Tryd.f6 false true false false W args v W' := by
  have hW' := hW
  obtain ⟨p, q, hA0, hV, rfl, hfz, hnd⟩ := hW
  have hA : DataW.TrodAll enc Tryd.prog W 0 (fun _ => true) true Tryd.f6.params.toList args.toList ds p := hA0
  rw [Tryd.params6] at hA hval
  obtain ⟨v0, vs0, d0, ds0, p0, q0, hargs, rfl, rfl, h0, r0⟩ := trodAll_cons hA
  obtain ⟨rfl, rfl, rfl⟩ := trodAll_nil r0
  obtain rfl : args = #[v0] := by cases args; simp_all
  obtain ⟨rfl, rfl⟩ := trodVars_none hV
  obtain ⟨a0, len0, cap0, rfl⟩ := okWide_slice Tryd.underlying22 (hval 0 22 v0 rfl rfl)
  have k0 := h0
  have lt0 : ∀ x ∈ p0, x.block < W.heap.size := by obtain ⟨m, hm⟩ := k0; exact DataW.trod_lt m _ _ _ hm
  obtain ⟨z0, w0⟩ : ∃ zs, IsRow .u8 W a0 len0 cap0 zs := by
    obtain ⟨fuel, hf⟩ := h0
    rcases open_ints Tryd.underlying22 Tryd.underlying5 (by kernel_rfl) hf with ⟨hcs, _⟩ | ⟨x, l, c, zs, hcs, _, hl, hm, hz, _, hcell, hwz⟩
    · simp [Value.cells] at hcs
      obtain ⟨rfl, rfl, rfl⟩ := hcs
      exact ⟨[], .inl ⟨rfl, rfl, rfl, rfl⟩⟩
    · simp [Value.cells] at hcs
      obtain ⟨rfl, rfl, rfl⟩ := hcs
      exact ⟨zs, .inr ⟨_, rfl, hl, hm, by simpa using hz, hcell, hwz⟩⟩
  clear hA0
  refine (walk a0 len0 cap0 z0 W w0 (table hL)).mono fun e W' ⟨he, bel⟩ => ?_
  subst he
  exact ⟨_, rfl, _, _, _, [], _, [], hW', trodAll_mk1 (shut_bool Tryd.underlying4 _), (trodAll_cons_mk (Below.trod laidOut (by kernel_rfl) (of_decide_eq_true (by kernel_rfl)) k0 bel lt0) trodAll_mk0), rfl, bel.frame _, fun h => by cases h⟩

set_option maxRecDepth 100000 in
theorem lifted (os : Os) (started : os.Started) (H : Type) (enc : TypeId × Value → H) (F : Stop.Interp) :
    ReturnsInHanded {} Tryd.checked os 6 .any ((OpenSpec.ofChange Rows.fnHornSpec).preRow enc Tryd.prog Tryd.f6 Rows.fnHornRow.domain false Rows.fnHornRow.laid) (((OpenSpec.ofChange Rows.fnHornSpec).at F).post enc Tryd.prog Tryd.f6 false true false false) := by
  refine returnsInHanded_of_row (C := Tryd.checked) (s := OpenSpec.ofChange Rows.fnHornSpec) own started (by kernel_rfl) Tryd.func6
    (witness_row_at (enc := enc) (C := Tryd.checked) false ({ World.holding Tryd.prog os ⟨#[], #[], []⟩ with heap := (World.holding Tryd.prog os ⟨#[], #[], []⟩).heap.modify 0 fun | .cells _ t frozen => .cells (Lib.deBruijn64tab.map fun (n : Nat) => Value.int .u8 n).toArray t frozen | o => o } : World) #[.slice none 0 0] rfl (by kernel_rfl) (by kernel_rfl) (by kernel_rfl)
      (OpenSpec.preRow_of_cond 8 (x := ([.nil], [], [])) (by kernel_rfl) (by kernel_rfl) (fun k hk => by cases hk) (by kernel_rfl) (laidMet_of_run' 8 (by kernel_rfl) (by kernel_rfl)))) ?_
  intro W base args ds gs before hval hW _ _ _ hL _ _
  exact contract H enc W base args ds gs before hval hW hL

theorem said : Rows.FnHornSaid :=
  OpenClaim.holds_of_cond 6 Tryd.f6 rfl rfl rfl rfl rfl rfl rfl ⟨rfl, rfl, rfl, rfl, rfl⟩ rfl rfl rfl rfl rfl (by kernel_rfl) Tryd.func6 (by kernel_rfl)
    (of_decide_eq_true (by kernel_rfl)) (by unfold Func.isWrapper; first | (rw [if_pos (by decide +kernel)]; kernel_rfl) | (rw [if_neg (by decide +kernel)]; exact ⟨rfl, rfl⟩))
    (fun os started H enc _ F => by rw [OpenClaim.pre_eq_preRow]; exact lifted os started H enc F)

theorem plain (f : FuncId) (fn : Func) (hf : Tryd.pinned.checked.prog.funcNamed "loop.example/g00123/laws.FnHorn" = some f) (hfn : Tryd.pinned.checked.prog.funcs[f]? = some fn) :
    false = Tryd.pinned.checked.prog.looks [] ∧ ∀ (j : Nat) t, fn.params[j]? = some t → Tryd.pinned.checked.prog.wantsStandIn t = false := by
  obtain rfl : f = 6 := Option.some.inj ((show Tryd.prog.funcNamed "loop.example/g00123/laws.FnHorn" = some 6 by kernel_rfl).symm.trans hf) |>.symm
  obtain rfl : fn = Tryd.f6 := (Option.some.inj (Tryd.func6.symm.trans hfn)).symm
  refine ⟨by kernel_rfl, fun j t ht => ?_⟩
  rw [Tryd.params6] at ht
  obtain rfl : t = 22 := by simpa using Array.mem_of_getElem? ht
  exact (show Tryd.prog.wantsStandIn 22 = false by kernel_rfl)

/-- the statement: the row's tied card -/
theorem proved : Rows.FnHornCardSaid :=
  Claim7.holds_tied_plain_at .later [] _ _ _ _ said (fun _ h => by cases h) (by kernel_rfl) (fun _ h => by cases h) fnHorn_row_tie rfl ⟨rfl, rfl⟩ (by kernel_rfl) rfl plain (by kernel_rfl)
#print axioms proved
end Go.Proofs.YtibpnocpafppaaaDoor.fnHorn
