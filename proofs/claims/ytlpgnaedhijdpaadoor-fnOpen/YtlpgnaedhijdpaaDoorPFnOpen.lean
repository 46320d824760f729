/- At every byte list the law FnOpen returns true (the next machine is as the model has it, and no clause is empty ahead of its path's last literal); the library's table of places lies as its text lays it (tied). -/
import Derived.Test.YtlpgnaedhijdpaaDoorCards
import Derived.Test.YtlpgnaedhijdpaaDoorTie
import Derived.Test.YtlpgnaedhijdpaaDoorJOpn
import Derived.Test.YtlpgnaedhijdpaaDoorDCl
import Derived.Test.YtlpgnaedhijdpaaDoorDVa
import Derived.WalkKit
import Derived.ProofKit
import Derived.OpenShut
import Derived.ShutString
import Derived.ChangeOld
import Derived.Below
import Derived.Deep.DeepHandedRow
import Derived.Lib.LaidTab
import Derived.Lib.TrailingZeros
import Derived.Stop.LaidErr
import Derived.LaidHandle
import Derived.LaidSub
namespace Go.Proofs.YtlpgnaedhijdpaaDoor.fnOpen
open Go.ChangeShapes Go.WideShapes Go.ChangeAt Go.RowKit
open Go.ChangeMaps (open_string shut_string)
set_option linter.unusedVariables false

theorem own : ownKnob Tryd.prog.godebug = none := by kernel_rfl
theorem laidOut : laidOutB Tryd.prog = true := by kernel_rfl

/-- what the walk is told of a slice of integers that came in -/
def IsRow (k : IntKind) (w : World) (a : Option Addr) (len cap : Nat) (zs : List Int) : Prop :=
  (a = none ∧ len = 0 ∧ cap = 0 ∧ zs = []) ∨
  ∃ x, a = some x ∧ len ≤ cap ∧ cap ≤ maxLen ∧ zs.length = cap ∧ (∀ i, i < zs.length → w.cell? (x.add i) = some (.int k (zs.getD i 0))) ∧ ∀ n ∈ zs, (Lit.int k n).wf = true

theorem gTab : Tryd.prog.globalNamed "math/bits.deBruijn64tab" = some 3 := by kernel_rfl
theorem gTabType : (Tryd.prog.globals[3]?).map (·.type) = some 162 := by kernel_rfl
theorem cellsTab : Tryd.prog.cellsOf 162 = 64 := by kernel_rfl
theorem cellsByte : Tryd.prog.cellsOf 5 = 1 := by kernel_rfl
/-- what the row's list gives: the table's cells hold its numbers -/
theorem table {W : World} (h : laidMetH Tryd.prog Rows.fnOpenRow.laid W) : srt.Tab W := by
  have t : Lib.TabIs Tryd.prog W "math/bits.deBruijn64tab" .u8 (Lib.deBruijn64tab.map fun (n : Nat) => (n : Int)) :=
    Lib.tabIs_of_head (rest := []) gTab gTabType Tryd.underlying162 Tryd.underlying5 cellsByte cellsTab h
  intro j hj
  have c := t.cell gTab j (by rw [List.length_map]; exact hj)
  rw [c]
  congr 2
  rw [List.getD, List.getD, List.getElem?_map]
  cases Lib.deBruijn64tab[j]? <;> rfl

/-! ### the walk -/
set_option maxRecDepth 100000 in
set_option maxHeartbeats 8000000 in
theorem walk (a0 : Option Addr) (len0 cap0 : Nat) (z0 : List Int) (w : World) (w0 : IsRow .u8 w a0 len0 cap0 z0) (hT : srt.Tab w) :
    Calls Tryd.prog 6 #[.slice a0 len0 cap0] w fun e w' => e = .returned (.bool true) ∧ Below w.heap.size w w' := by
  have hB := draw.of_rowB w0
  have hm : len0 ≤ 9223372036854775807 := by
    rcases w0 with ⟨_, h, _, _⟩ | ⟨_, _, h1, h2, _⟩
    · omega
    · unfold maxLen at h2
      omega
  clear w0
  by_cases hbig : 1048576 < len0
  · have C := sl.hide (draw.big a0 len0 cap0 w hm)
    rw [decide_eq_true hbig] at C
    clear hT
    go_enter Tryd.func6, Tryd.ntmps6
    go_wp2_with fail
    refine (sl.unhide C).mono ?_; rintro e w' ⟨rfl, rfl⟩
    go_wp2_with fail
    go_ret
    exact ⟨rfl, Below.refl _ _⟩
  have C := sl.hide (draw.big a0 len0 cap0 w hm)
  rw [decide_eq_false hbig] at C
  have HB := sl.hide hB
  have TT := sl.hide hT
  have hlen : len0 ≤ 1048576 := by omega
  clear hB hT hbig
  go_enter Tryd.func6, Tryd.ntmps6
  go_wp2_with fail
  refine (sl.unhide C).mono ?_; rintro e w' ⟨rfl, hw⟩; have hw' := hw.symm; clear hw; subst hw'
  clear C hm
  go_wp2_with fail
  refine (du.drawRunning a0 len0 cap0 _ hlen (sl.unhide HB)).mono ?_; rintro e w1 ⟨N, u1, p1, LL, m, rfl, hN6, hcn, ⟨j0, hj0, hm⟩, o1, g1⟩
  obtain ⟨a1_, c1_, b1_, d1_, rfl, rfl⟩ := o1.len
  have s1 := sl.hide (g1).size
  have B1 := sl.hide (sl.below_of (g1))
  have MA1 := sl.hide o1
  clear o1 g1
  have hok : qm.OkM N m := by rw [hm]; exact qh.ok_run j0
  have ht : css.tot LL ≤ 1048576 := dr.tot48 hcn
  have hlm := qh.len_run hok hN6
  have HM := sl.hide hm
  clear hm
  have s2 := sl.hide (World.grownBy_alloc w1 (.cells #[.int .i64 (N : Int), .slice a1_ LL.length c1_, .slice b1_ (as_.tl 0 m.A).length d1_, .int .i64 m.st, .int .i64 m.k] 37) none).size
  have B2 := sl.hide (sl.below_none (sl.unhide B1) (World.grownBy_alloc w1 (.cells #[.int .i64 (N : Int), .slice a1_ LL.length c1_, .slice b1_ (as_.tl 0 m.A).length d1_, .int .i64 m.st, .int .i64 m.k] 37) none))
  have MA2 := sl.hide ((sl.unhide MA1).kept (World.grownBy_alloc w1 (.cells #[.int .i64 (N : Int), .slice a1_ LL.length c1_, .slice b1_ (as_.tl 0 m.A).length d1_, .int .i64 m.st, .int .i64 m.k] 37) none))
  have q2 : Hid ((w1.alloc (.cells #[.int .i64 (N : Int), .slice a1_ LL.length c1_, .slice b1_ (as_.tl 0 m.A).length d1_, .int .i64 m.st, .int .i64 m.k] 37)).heap.size = w1.heap.size + 1) := World.size_alloc ..
  have A2 := sl.hide (qa.Box5.new 37 w1 (.int .i64 (N : Int)) (.slice a1_ LL.length c1_) (.slice b1_ (as_.tl 0 m.A).length d1_) (.int .i64 m.st) (.int .i64 m.k))
  clear B1 MA1
  have HCN := sl.hide hcn
  obtain ⟨M1, hM1⟩ : ∃ M1, M1 = qm.runM N LL 1 m := ⟨_, rfl⟩
  have ok1 : qm.OkM N M1 := by rw [hM1]; exact hok.run 1
  have E1 : Hid (qh.res (N : Int) LL (as_.tl 0 m.A) m.st m.k 1 = (as_.tl 0 M1.A, M1.st, M1.k)) := by rw [hM1]; exact qh.res_run hcn hok (c := 1) (by decide)
  have K1 := sl.hide (qm.ok_mach hcn ok1)
  have l1 := qh.len_run ok1 hN6
  have CLR : Hid (qm.Clear LL M1.A) := by
    rw [hM1, sl.unhide HM, ← qm.run_add]
    exact (qu.clear_start LL).run (by omega) (qh.cnf_parts hcn).2 (j0 + 1) (qm.Far.start N).ok
  have OK1 := sl.hide ok1
  have H24 := sl.hide (show N ≤ 24 by omega)
  clear hM1 ok1 hok hcn HM
  have CR3 := qh.implMachineStep _ _ (N : Int) m.st m.k LL (as_.tl 0 m.A) _ _ (w1.alloc (.cells #[.int .i64 (N : Int), .slice a1_ LL.length c1_, .slice b1_ (as_.tl 0 m.A).length d1_, .int .i64 m.st, .int .i64 m.k] 37)) ((sl.unhide TT).below (sl.unhide B2)) ht hlm (sl.unhide MA2)
  rw [sl.unhide E1] at CR3
  have CT3 := sl.hide CR3
  clear CR3
  have zA0 := (sl.unhide A2).c0
  have zA1 := (sl.unhide A2).c1
  have zA2 := (sl.unhide A2).c2
  have zA3 := (sl.unhide A2).c3
  have zA4 := (sl.unhide A2).c4
  go_wp2_with fail
  refine (sl.unhide CT3).mono ?_; rintro e w3 ⟨u3, p3, rfl, o3, g3⟩
  clear zA0 zA1 zA2 zA3 zA4
  obtain ⟨a3_, c3_, b3_, d3_, rfl, rfl⟩ := o3.len
  have s3 := sl.hide (g3).size
  have B3 := sl.hide (sl.below_none (sl.unhide B2) (g3))
  have MA3 := sl.hide ((sl.unhide MA2).kept (g3))
  have A3 := sl.hide ((sl.unhide A2).kept (g3))
  have MB3 := sl.hide o3
  clear o3 g3 CT3 B2 MA2 A2
  dsimp only
  have pA0 := (sl.unhide A3).c0
  have pA1 := (sl.unhide A3).c1
  have pA2 := (sl.unhide A3).c2
  have pA3 := (sl.unhide A3).c3
  have pA4 := (sl.unhide A3).c4
  have pAl := (sl.unhide A3).lt
  have s4 := sl.hide (World.grownBy_alloc w3 (.cells #[.int .i64 (N : Int), .slice a3_ LL.length c3_, .slice b3_ (as_.tl 0 M1.A).length d3_, .int .i64 M1.st, .int .i64 M1.k] 37) none).size
  have B4 := sl.hide (sl.below_none (sl.unhide B3) (World.grownBy_alloc w3 (.cells #[.int .i64 (N : Int), .slice a3_ LL.length c3_, .slice b3_ (as_.tl 0 M1.A).length d3_, .int .i64 M1.st, .int .i64 M1.k] 37) none))
  have MA4 := sl.hide ((sl.unhide MA3).kept (World.grownBy_alloc w3 (.cells #[.int .i64 (N : Int), .slice a3_ LL.length c3_, .slice b3_ (as_.tl 0 M1.A).length d3_, .int .i64 M1.st, .int .i64 M1.k] 37) none))
  have MB4 := sl.hide ((sl.unhide MB3).kept (World.grownBy_alloc w3 (.cells #[.int .i64 (N : Int), .slice a3_ LL.length c3_, .slice b3_ (as_.tl 0 M1.A).length d3_, .int .i64 M1.st, .int .i64 M1.k] 37) none))
  have A4 := sl.hide ((sl.unhide A3).kept (World.grownBy_alloc w3 (.cells #[.int .i64 (N : Int), .slice a3_ LL.length c3_, .slice b3_ (as_.tl 0 M1.A).length d3_, .int .i64 M1.st, .int .i64 M1.k] 37) none))
  have q4 : Hid ((w3.alloc (.cells #[.int .i64 (N : Int), .slice a3_ LL.length c3_, .slice b3_ (as_.tl 0 M1.A).length d3_, .int .i64 M1.st, .int .i64 M1.k] 37)).heap.size = w3.heap.size + 1) := World.size_alloc ..
  have Z4 := sl.hide (qa.Box5.new 37 w3 (.int .i64 (N : Int)) (.slice a3_ LL.length c3_) (.slice b3_ (as_.tl 0 M1.A).length d3_) (.int .i64 M1.st) (.int .i64 M1.k))
  clear B3 MA3 MB3 A3
  have zA0 := (sl.unhide A4).c0
  have zA1 := (sl.unhide A4).c1
  have zA2 := (sl.unhide A4).c2
  have zA3 := (sl.unhide A4).c3
  have zA4 := (sl.unhide A4).c4
  go_upto_region 5 with fail
  clear pA0 pA1 pA2 pA3 pA4 pAl zA0 zA1 zA2 zA3 zA4
  generalize (w3.alloc (.cells #[.int .i64 (N : Int), .slice a3_ LL.length c3_, .slice b3_ (as_.tl 0 M1.A).length d3_, .int .i64 M1.st, .int .i64 M1.k] 37)) = W4 at *
  go_cut [31] (fun q wx => q = .bool false ∧ Hid (W4.grownBy wx none))
  case first =>
    have CSS : Hid (∀ wz, W4.grownBy wz none → Calls Tryd.prog 31 #[.agg #[.int .i64 (N : Int), .slice a1_ LL.length c1_, .slice b1_ (as_.tl 0 m.A).length d1_, .int .i64 m.st, .int .i64 m.k]] wz fun e w9 => qu.OpE wz (N : Int) LL (as_.tl 0 M1.A) M1.st M1.k e w9) := fun wz g => (qh.specMachineStep _ _ (N : Int) m.st m.k LL (as_.tl 0 m.A) _ _ wz ht hlm (Nat.le_trans (by have s1_ := sl.unhide s1; have s2_ := sl.unhide s2; have q2_ := sl.unhide q2; have s3_ := sl.unhide s3; have s4_ := sl.unhide s4; have q4_ := sl.unhide q4; omega) g.size) ((sl.unhide MA4).kept g)).mono fun e w9 h => qu.of_run h (sl.unhide E1)
    have HCO : Hid (∀ wz, W4.grownBy wz none → Calls Tryd.prog 24 #[.agg #[.int .i64 (N : Int), .slice a3_ LL.length c3_, .slice b3_ (as_.tl 0 M1.A).length d3_, .int .i64 M1.st, .int .i64 M1.k]] wz fun e w9 => e = .returned (.bool true) ∧ wz.grownBy w9 none) := fun wz g => by
      have CO := qb.implMachineOk _ _ (N : Int) M1.st M1.k LL (as_.tl 0 M1.A) wz ht l1 ((sl.unhide MB4).kept g).sls ((sl.unhide MB4).kept g).sl
      rw [sl.unhide K1] at CO
      exact CO
    have MBX := sl.hide (fun wz (g : W4.grownBy wz none) => ((sl.unhide MB4).kept g).sl)
    have CK : Hid (∀ wz : World, W4.grownBy wz none → wz.cell? ⟨w1.heap.size, 0, none⟩ = some (.int .i64 (N : Int)) ∧ wz.cell? ⟨w1.heap.size, 1, none⟩ = some (.slice a1_ LL.length c1_) ∧ wz.cell? ⟨w1.heap.size, 2, none⟩ = some (.slice b1_ (as_.tl 0 m.A).length d1_) ∧ wz.cell? ⟨w1.heap.size, 3, none⟩ = some (.int .i64 m.st) ∧ wz.cell? ⟨w1.heap.size, 4, none⟩ = some (.int .i64 m.k) ∧ wz.cell? ⟨w3.heap.size, 0, none⟩ = some (.int .i64 (N : Int)) ∧ wz.cell? ⟨w3.heap.size, 1, none⟩ = some (.slice a3_ LL.length c3_) ∧ wz.cell? ⟨w3.heap.size, 2, none⟩ = some (.slice b3_ (as_.tl 0 M1.A).length d3_) ∧ wz.cell? ⟨w3.heap.size, 3, none⟩ = some (.int .i64 M1.st) ∧ wz.cell? ⟨w3.heap.size, 4, none⟩ = some (.int .i64 M1.k)) := fun wz g => by
      have q := (sl.unhide A4).kept g
      have r := (sl.unhide Z4).kept g
      exact ⟨q.c0, q.c1, q.c2, q.c3, q.c4, r.c0, r.c1, r.c2, r.c3, r.c4⟩
    obtain ⟨t0, t1, t2, t3, t4, t5, t6, t7, t8, t9⟩ := sl.unhide CK W4 (sl.grown_refl _)
    have hkk : (M1.k != M1.k) = false := bne_self_eq_false _
    have GX := sl.hide (cf.grown_drew W4 none)
    have f8 := qu.fldK (N : Int) M1.st M1.k
    have f9 := qu.fldP (N : Int) M1.st M1.k
    clear A4 Z4 MA4 MB4 B4 E1 K1 TT HB OK1 CLR HCN
    go_region_held3 (fun w' => w'.cell? ⟨w1.heap.size, 0, none⟩ = some (.int .i64 (N : Int)) ∧ w'.cell? ⟨w1.heap.size, 1, none⟩ = some (.slice a1_ LL.length c1_) ∧ w'.cell? ⟨w1.heap.size, 2, none⟩ = some (.slice b1_ (as_.tl 0 m.A).length d1_) ∧ w'.cell? ⟨w1.heap.size, 3, none⟩ = some (.int .i64 m.st) ∧ w'.cell? ⟨w1.heap.size, 4, none⟩ = some (.int .i64 m.k) ∧ w'.cell? ⟨w3.heap.size, 0, none⟩ = some (.int .i64 (N : Int)) ∧ w'.cell? ⟨w3.heap.size, 1, none⟩ = some (.slice a3_ LL.length c3_) ∧ w'.cell? ⟨w3.heap.size, 2, none⟩ = some (.slice b3_ (as_.tl 0 M1.A).length d3_) ∧ w'.cell? ⟨w3.heap.size, 3, none⟩ = some (.int .i64 M1.st) ∧ w'.cell? ⟨w3.heap.size, 4, none⟩ = some (.int .i64 M1.k)) (go_keep) (first
      | (go_at_call 31; refine (sl.unhide CSS _ (sl.unhide GX)).mono ?_; rintro e w8 ⟨ua8, uc8, pa8, pc8, rfl, o8, g8⟩; replace GX := sl.hide (sl.grown_trans (r := none) (sl.unhide GX) g8); obtain ⟨t0, t1, t2, t3, t4, t5, t6, t7, t8, t9⟩ := sl.unhide CK _ (sl.unhide GX); have OX := sl.hide o8; clear o8 g8)
      | (go_at_call 17; refine (dcls.sameC _ _ (as_.tl 0 M1.A) _ l1 (sl.unhide MBX _ (sl.unhide GX)) (sl.unhide OX)).mono ?_; rintro e w8 ⟨rfl, g8⟩; replace GX := sl.hide (sl.grown_trans (r := none) (sl.unhide GX) g8); obtain ⟨t0, t1, t2, t3, t4, t5, t6, t7, t8, t9⟩ := sl.unhide CK _ (sl.unhide GX); clear OX g8)
      | (go_at_call 24; refine (sl.unhide HCO _ (sl.unhide GX)).mono ?_; rintro e w8 ⟨rfl, g8⟩; replace GX := sl.hide (sl.grown_trans (r := none) (sl.unhide GX) g8); obtain ⟨t0, t1, t2, t3, t4, t5, t6, t7, t8, t9⟩ := sl.unhide CK _ (sl.unhide GX); clear g8))
    all_goals (go_wp2_with fail; go_meet; exact ⟨rfl, GX⟩)
  case rest =>
    obtain ⟨rfl, hg⟩ := hcut
    have g9 := sl.unhide hg
    have A9 := sl.hide (fun wz (g : wc.grownBy wz none) => ((sl.unhide A4).kept g9).kept g)
    have Z9 := sl.hide (fun wz (g : wc.grownBy wz none) => ((sl.unhide Z4).kept g9).kept g)
    have MA9 := sl.hide (fun wz (g : wc.grownBy wz none) => ((sl.unhide MA4).kept g9).kept g)
    have MB9 := sl.hide ((sl.unhide MB4).kept g9)
    have B9 := sl.hide (fun wz (g : wc.grownBy wz none) => sl.below_none (sl.below_none (sl.unhide B4) g9) g)
    clear A4 Z4 MA4 MB4 B4 g9 hg E1 K1 TT HB
    by_cases h0 : M1.A = []
    · have hz : (as_.tl 0 M1.A).length = 0 := by rw [h0]; rfl
      have z2 := (sl.unhide Z9 wc (sl.grown_refl _)).c2
      rw [hz] at z2
      go_wp2_with fail
      go_ret
      exact ⟨rfl, sl.unhide B9 _ (sl.grown_refl _)⟩
    · obtain ⟨pg, pc, ep, hpc, PX⟩ := qu.path_cut (sl.unhide MB9) h0
      injection ep with ep1 _ ep3
      subst ep1 ep3
      have PX := sl.hide PX
      have hlen1 : (as_.tl 0 M1.A).length = M1.A.length := as_.tl_len ..
      have hp1 : 0 < M1.A.length := List.length_pos_iff.2 h0
      have hl6 : M1.A.length ≤ N := (sl.unhide OK1).len
      rw [hlen1] at Z9
      have H0 := sl.hide h0
      have CLC := sl.hide (fun wz (g : wc.grownBy wz none) k (hk : k < LL.length) => qu.cl_cell (sl.unhide MA9 wz g) hk)
      have hLL : LL.length ≤ 120 := (qh.cnf_parts (sl.unhide HCN)).1
      have z2 := (sl.unhide Z9 wc (sl.grown_refl _)).c2
      have hne : ¬ (M1.A.length : Int) = 0 := by omega
      clear MA9 MB9 h0
      go_wp2_with fail
      go_loopw [5] (fun i wr => ∃ k : Nat, k ≤ LL.length ∧ i = .int .i64 (k : Int) ∧ Hid (wc.grownBy wr none)) (fun i _ => LL.length - (intOf i).toNat)
      case atStart => exact ⟨0, Nat.zero_le _, rfl, sl.grown_refl _⟩
      case round =>
        obtain ⟨k, hk, rfl, hg⟩ := hrel
        have a1 := (sl.unhide A9 wr (sl.unhide hg)).c1
        have z2 := (sl.unhide Z9 wr (sl.unhide hg)).c2
        by_cases hlt : k < LL.length
        · have hi1 : (k : Int) < (LL.length : Int) := by omega
          obtain ⟨cb, coff, xa, xc, rfl, c1, hs⟩ := sl.unhide CLC wr (sl.unhide hg) k hlt
          have hlit := fun x hx => (qh.cnf_parts (sl.unhide HCN)).2 (LL.getD k []) (qu.getD_in hlt) x hx
          have hsn := sl.hide (qu.sub_no (sl.unhide H24) hl6 (sl.unhide OK1).bit (qh.cnf_parts (sl.unhide HCN)).2 (sl.unhide CLR) (sl.unhide H0) (qu.getD_in hlt))
          have hbd := sl.hide (qu.neg_bd (sl.unhide H24) hlit)
          have hcl : (LL.getD k []).length ≤ 1048576 := Nat.le_trans (css.tot_in LL k) ht
          have CTN := sl.hide (fun wz (g : wr.grownBy wz none) => qu.turned _ (LL.getD k []) wz hcl (hs.kept g (.inl rfl)) (sl.unhide hbd))
          have CK : Hid (∀ wz : World, wr.grownBy wz none → wz.cell? ⟨w1.heap.size, 1, none⟩ = some (.slice (some ⟨cb, coff, none⟩) LL.length c1_) ∧ wz.cell? ⟨w3.heap.size, 2, none⟩ = some (.slice (some ⟨pg, 0, none⟩) M1.A.length d3_) ∧ wz.cell? ⟨cb, coff + k, none⟩ = some (.slice xa (LL.getD k []).length xc)) := fun wz g => ⟨g.cell a1 (fun e => by cases e), g.cell z2 (fun e => by cases e), g.cell c1 (fun e => by cases e)⟩
          have PXX := sl.hide (fun wz (g : wr.grownBy wz none) => sl.unhide PX wz (sl.grown_trans (r := none) (sl.unhide hg) g))
          have GXX := sl.hide (fun wz (g : wr.grownBy wz none) => sl.grown_trans (r := none) (sl.unhide hg) g)
          have hsub : IntKind.i64.wrap ((M1.A.length : Int) - 1) = ((M1.A.length - 1 : Nat) : Int) := by rw [IntKind.wrap_i64]; omega
          have hcut : M1.A.length - 1 ≤ d3_ := by omega
          have hnl : (qu.negL (LL.getD k [])).length ≤ 1048576 := by rw [qu.neg_len]; exact hcl
          have htl : (as_.tl 0 (M1.A.take (M1.A.length - 1))).length ≤ 1048576 := by rw [as_.tl_len, List.length_take]; omega
          have GX := sl.hide (cf.grown_drew wr none)
          clear hs hlit hbd A9 Z9 CLC HCN CLR OK1 H24 H0 PX
          generalize M1.A.length - 1 = d at *
          have hd0 : (0 : Int) ≤ (d : Int) := by omega
          have hd1 : (d : Int) ≤ (d3_ : Int) := by omega
          have hk0 : (0 : Int) ≤ (k : Int) := by omega
          have CSB : Hid (∀ (wz : World) na nc, wr.grownBy wz none → sl.Sl wz (.slice na (qu.negL (LL.getD k [])).length nc) (qu.negL (LL.getD k [])) → Calls Tryd.prog 32 #[.slice na (qu.negL (LL.getD k [])).length nc, .slice (some ⟨pg, 0, none⟩) d d3_] wz fun e w9 => e = .returned (.bool false) ∧ w9 = wz) := fun wz na nc g hu => by
            have C := bset.specClauseSub _ _ (qu.negL (LL.getD k [])) (as_.tl 0 (M1.A.take d)) wz hnl htl hu (sl.unhide PXX _ g)
            rw [sl.unhide hsn] at C
            exact C
          clear PXX hsn hcl htl hnl hpc hp1 hl6
          generalize LL.getD k [] = cc at *
          go_wp2_with fail
          go_region_held3 (fun w' => w'.cell? ⟨w1.heap.size, 1, none⟩ = some (.slice (some ⟨cb, coff, none⟩) LL.length c1_) ∧ w'.cell? ⟨w3.heap.size, 2, none⟩ = some (.slice (some ⟨pg, 0, none⟩) M1.A.length d3_) ∧ w'.cell? ⟨cb, coff + k, none⟩ = some (.slice xa cc.length xc)) (go_keep) (first
            | (go_at_call 33; refine (sl.unhide CTN _ (sl.unhide GX)).mono ?_; rintro e w8 ⟨u8, rfl, m8⟩; obtain ⟨na, nc, rfl⟩ := ks.row_form m8.1; have OX := sl.hide (sl.Sl.of_own m8.1); replace GX := sl.hide (sl.grown_trans (r := none) (sl.unhide GX) m8.2); obtain ⟨t0, t1, t2⟩ := sl.unhide CK _ (sl.unhide GX); clear m8)
            | (go_at_call 32; refine (sl.unhide CSB _ _ _ (sl.unhide GX) (sl.unhide OX)).mono ?_; rintro e w9 ⟨rfl, hw9⟩; have hw8 := hw9.symm; clear hw9; subst hw8))
          all_goals
            go_wp2_with fail
            go_roundw
            case rel => exact ⟨k + 1, by omega, by go_num, sl.unhide GXX _ (sl.unhide GX)⟩
            case measure => simp [intOf]; omega
        · have hi1 : ¬ (k : Int) < (LL.length : Int) := by omega
          have BB := sl.hide (sl.unhide B9 wr (sl.unhide hg))
          clear hg
          go_wp2_with fail
          go_ret
          exact ⟨rfl, sl.unhide BB⟩

/-! ### the row's step (the guide's own frame) -/
set_option maxRecDepth 100000 in
theorem contract (H : Type) (enc : TypeId × Value → H) (W : World) (base : Nat) (args : Array Value) (ds gs : List (DataW H)) (before : List MemPlace)
    (hval : ∀ (j : Nat) t v, Tryd.f6.params[j]? = some t → args[j]? = some v → Value.okWide Tryd.prog W .any base t v)
    (hW : DataW.Whole enc Tryd.prog Tryd.f6.params.toList Rows.fnOpenSpec.vars false W args.toList ds gs before) (hL : laidMetH Tryd.prog Rows.fnOpenRow.laid W) :
    Calls Tryd.prog 6 args W fun e W' => ∃ v, e = .returned v ∧ Rows.fnOpenSpec.post enc Tryd.prog Tryd.f6 false true false false W args v W' := by
  have hW' := hW
  obtain ⟨p, q, hA0, hV, rfl, hfz, hnd⟩ := hW
  have hA : DataW.TrodAll enc Tryd.prog W 0 (fun _ => true) true Tryd.f6.params.toList args.toList ds p := hA0
  rw [Tryd.params6] at hA hval
  obtain ⟨v0, vs0, d0, ds0, p0, q0, hargs, rfl, rfl, h0, r0⟩ := trodAll_cons hA
  obtain ⟨rfl, rfl, rfl⟩ := trodAll_nil r0
  obtain rfl : args = #[v0] := by cases args; simp_all
  obtain ⟨rfl, rfl⟩ := trodVars_none hV
  obtain ⟨a0, len0, cap0, rfl⟩ := okWide_slice Tryd.underlying22 (hval 0 22 v0 rfl rfl)
  have k0 := h0
  have lt0 : ∀ x ∈ p0, x.block < W.heap.size := by obtain ⟨m, hm⟩ := k0; exact DataW.trod_lt m _ _ _ hm
  obtain ⟨z0, w0⟩ : ∃ zs, IsRow .u8 W a0 len0 cap0 zs := by
    obtain ⟨fuel, hf⟩ := h0
    rcases open_ints Tryd.underlying22 Tryd.underlying5 (by kernel_rfl) hf with ⟨hcs, _⟩ | ⟨x, l, c, zs, hcs, _, hl, hm, hz, _, hcell, hwz⟩
    · simp [Value.cells] at hcs
      obtain ⟨rfl, rfl, rfl⟩ := hcs
      exact ⟨[], .inl ⟨rfl, rfl, rfl, rfl⟩⟩
    · simp [Value.cells] at hcs
      obtain ⟨rfl, rfl, rfl⟩ := hcs
      exact ⟨zs, .inr ⟨_, rfl, hl, hm, by simpa using hz, hcell, hwz⟩⟩
  clear hA0
  refine (walk a0 len0 cap0 z0 W w0 (table hL)).mono fun e W' ⟨he, bel⟩ => ?_
  subst he
  exact ⟨_, rfl, _, _, _, [], _, [], hW', trodAll_mk1 (shut_bool Tryd.underlying4 _), (trodAll_cons_mk (Below.trod laidOut (by kernel_rfl) (of_decide_eq_true (by kernel_rfl)) k0 bel lt0) trodAll_mk0), rfl, bel.frame _, fun h => by cases h⟩

set_option maxRecDepth 100000 in
theorem lifted (os : Os) (started : os.Started) (H : Type) (enc : TypeId × Value → H) (F : Stop.Interp) :
    ReturnsInHanded {} Tryd.checked os 6 .any ((OpenSpec.ofChange Rows.fnOpenSpec).preRow enc Tryd.prog Tryd.f6 Rows.fnOpenRow.domain false Rows.fnOpenRow.laid) (((OpenSpec.ofChange Rows.fnOpenSpec).at F).post enc Tryd.prog Tryd.f6 false true false false) := by
  refine returnsInHanded_of_row (C := Tryd.checked) (s := OpenSpec.ofChange Rows.fnOpenSpec) own started (by kernel_rfl) Tryd.func6
    (witness_row_at (enc := enc) (C := Tryd.checked) false ({ World.holding Tryd.prog os ⟨#[], #[], []⟩ with heap := (World.holding Tryd.prog os ⟨#[], #[], []⟩).heap.modify 3 fun | .cells _ t frozen => .cells (Lib.deBruijn64tab.map fun (n : Nat) => Value.int .u8 n).toArray t frozen | o => o } : World) #[.slice none 0 0] rfl (by kernel_rfl) (by kernel_rfl) (by kernel_rfl)
      (OpenSpec.preRow_of_cond 8 (x := ([.nil], [], [])) (by kernel_rfl) (by kernel_rfl) (fun k hk => by cases hk) (by kernel_rfl) (laidMet_of_run' 8 (by kernel_rfl) (by kernel_rfl)))) ?_
  intro W base args ds gs before hval hW _ _ _ hL _ _
  exact contract H enc W base args ds gs before hval hW hL

theorem said : Rows.FnOpenSaid :=
  OpenClaim.holds_of_cond 6 Tryd.f6 rfl rfl rfl rfl rfl rfl rfl ⟨rfl, rfl, rfl, rfl, rfl⟩ rfl rfl rfl rfl rfl (by kernel_rfl) Tryd.func6 (by kernel_rfl)
    (of_decide_eq_true (by kernel_rfl)) (by unfold Func.isWrapper; first | (rw [if_pos (by decide +kernel)]; kernel_rfl) | (rw [if_neg (by decide +kernel)]; exact ⟨rfl, rfl⟩))
    (fun os started H enc _ F => by rw [OpenClaim.pre_eq_preRow]; exact lifted os started H enc F)

theorem plain (f : FuncId) (fn : Func) (hf : Tryd.pinned.checked.prog.funcNamed "loop.example/g00123/laws.FnOpen" = some f) (hfn : Tryd.pinned.checked.prog.funcs[f]? = some fn) :
    true = Tryd.pinned.checked.prog.looks [] ∧ ∀ (j : Nat) t, fn.params[j]? = some t → Tryd.pinned.checked.prog.wantsStandIn t = false := by
  obtain rfl : f = 6 := Option.some.inj ((show Tryd.prog.funcNamed "loop.example/g00123/laws.FnOpen" = some 6 by kernel_rfl).symm.trans hf) |>.symm
  obtain rfl : fn = Tryd.f6 := (Option.some.inj (Tryd.func6.symm.trans hfn)).symm
  refine ⟨by kernel_rfl, fun j t ht => ?_⟩
  rw [Tryd.params6] at ht
  obtain rfl : t = 22 := by simpa using Array.mem_of_getElem? ht
  exact (show Tryd.prog.wantsStandIn 22 = false by kernel_rfl)

/-- the statement: the row's tied card -/
theorem proved : Rows.FnOpenCardSaid :=
  Claim7.holds_tied_plain_at .later [] _ _ _ _ said (fun _ h => by cases h) (by kernel_rfl) (fun _ h => by cases h) fnOpen_row_tie rfl ⟨rfl, rfl⟩ (by kernel_rfl) rfl plain (by kernel_rfl)
#print axioms proved
end Go.Proofs.YtlpgnaedhijdpaaDoor.fnOpen
