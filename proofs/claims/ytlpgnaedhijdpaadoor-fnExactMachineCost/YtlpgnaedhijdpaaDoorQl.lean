/- What MachineCost (of the program and of its model) answers at every formula of the call's own that holds at most 2^20 values. -/
import Derived.Test.YtlpgnaedhijdpaaDoorQk
import Derived.Test.YtlpgnaedhijdpaaDoorQs
namespace Go.Proofs.YtlpgnaedhijdpaaDoor.qh
open Go.ChangeShapes Go.WideShapes Go.ChangeAt Go.RowKit
open Go.Proofs.YtlpgnaedhijdpaaDoor.qa (Box5 OwnM)
open Go.Proofs.YtlpgnaedhijdpaaDoor.cf (Box)
open Go.Proofs.YtlpgnaedhijdpaaDoor.qm (machB vals MS stepM runM OkM run_stop)
open Go.Proofs.YtlpgnaedhijdpaaDoor.qi (l07Step l07Run row_ne)
open Go.Proofs.YtlpgnaedhijdpaaDoor.srt (Tab)
open Go.Proofs.YtlpgnaedhijdpaaDoor.as_ (tl tl_len)
open Go.Proofs.YtlpgnaedhijdpaaDoor.ok (cnfB)
open Go.Proofs.YtlpgnaedhijdpaaDoor.css (Sls OwnS tot)
open Go.Proofs.YtlpgnaedhijdpaaDoor.sl (Sl Own ints hide unhide ret_int ret_bool grown_refl grown_trans)
set_option linter.unusedVariables false
/-- how many steps the search takes -/
def costI (n : Int) (LL : List (List Int)) : Int := if cnfB n LL then (if (runM n.toNat LL 1000000 ⟨[], 0, 0⟩).st = 0 then -1 else (runM n.toNat LL 1000000 ⟨[], 0, 0⟩).k) else -1
theorem cost_no {n : Int} {LL : List (List Int)} (h : cnfB n LL = false) : costI n LL = -1 := by unfold costI; rw [h]; exact if_neg (by decide)
theorem cost_yes {n : Int} {LL : List (List Int)} (h : cnfB n LL = true) : ∃ N : Nat, n = (N : Int) ∧ N ≤ 24 ∧ cnfB (N : Int) LL = true ∧ costI n LL = (if (runM N LL 1000000 ⟨[], 0, 0⟩).st = 0 then -1 else (runM N LL 1000000 ⟨[], 0, 0⟩).k) := by
  have h24 := qb.cnf24 h
  obtain ⟨N, rfl⟩ := Int.eq_ofNat_of_zero_le h24.1
  refine ⟨N, rfl, by omega, h, ?_⟩
  unfold costI
  rw [h, Int.toNat_natCast]
  exact if_pos rfl
/-- a machine at its start is one -/
theorem start_res {N : Nat} {LL : List (List Int)} (h : cnfB (N : Int) LL = true) : res (N : Int) LL [] 0 0 1000000 = (tl 0 (runM N LL 1000000 ⟨[], 0, 0⟩).A, (runM N LL 1000000 ⟨[], 0, 0⟩).st, (runM N LL 1000000 ⟨[], 0, 0⟩).k) := by
  have hm : machB (N : Int) LL [] 0 0 = true := qm.ok_mach (m := ⟨[], 0, 0⟩) h (qm.Far.start N).ok
  have e1 : (1000000 : Int).toNat = 1000000 := rfl
  have e2 : vals [] = [] := rfl
  rw [res_yes (by rw [hm]; decide), Int.toNat_natCast, e1, e2]
set_option maxRecDepth 100000 in
set_option maxHeartbeats 8000000 in
theorem implMachineCost (v : Value) (n : Int) (LL : List (List Int)) (lo hi : Nat) (w : World) (hn : tot LL ≤ 1048576) (hT : Tab w) (hv : OwnS lo hi w v LL) :
    Calls Tryd.prog 25 #[.agg #[.int .i64 n, v]] w fun e w' => e = .returned (.int .i64 (costI n LL)) ∧ w.grownBy w' none := by
  have g0 := World.grownBy_alloc w (.cells #[.int .i64 n, v] 34) none
  have b0 := Box.new 34 w (.int .i64 n) v
  have C := hide (fun w1 (g : w.grownBy w1 none) => qc.implMachineStart v n LL lo hi w1 hn (hv.kept g))
  have HN := hide hn
  have HT := hide (fun w1 (g : w.grownBy w1 none) => hT.below (sl.below_of g))
  have x0 := b0.c0
  have x1 := b0.c1
  have G0 := hide g0
  clear g0 b0 hv hT
  go_enter Tryd.func25, Tryd.ntmps25
  go_wp2_with fail
  generalize w.alloc (.cells #[.int .i64 n, v] 34) = W0 at *
  refine (unhide C _ (unhide G0)).mono ?_; rintro e w1 ⟨u, p, rfl, o1, g1⟩
  obtain ⟨ua, uc, pa, pc, rfl, rfl⟩ := o1.len
  have G1 := hide (grown_trans (r := none) (unhide G0) g1)
  cases hb : cnfB n LL
  · have E := hide (cost_no hb)
    have gA := hide (grown_trans (r := none) (unhide G1) (World.grownBy_alloc w1 (.cells #[.int .i64 (qc.stN n LL), .slice ua (qc.stR n LL).length uc, .slice pa ([] : List Int).length pc, .int .i64 0, .int .i64 0] 37) none))
    clear hb o1 g1 C G0
    go_wp2_with fail
    go_ret
    exact ⟨ret_int (unhide E).symm, unhide gA⟩
  · have e1 : qc.stN n LL = n := by unfold qc.stN; rw [hb]; rfl
    have e2 : qc.stR n LL = LL := by unfold qc.stR; rw [hb]; rfl
    rw [e2] at o1
    have gA := World.grownBy_alloc w1 (.cells #[.int .i64 n, .slice ua LL.length uc, .slice pa 0 pc, .int .i64 0, .int .i64 0] 37) none
    have bM := Box5.new 37 w1 (.int .i64 n) (.slice ua LL.length uc) (.slice pa 0 pc) (.int .i64 0) (.int .i64 0)
    have oM := o1.kept gA
    have GM := hide (grown_trans (r := none) (unhide G1) gA)
    obtain ⟨N, eN, h24, hcf, hrun⟩ := cost_yes hb
    subst eN
    have ct := implMachineRun (.slice ua LL.length uc) (.slice pa 0 pc) (N : Int) 0 0 1000000 LL [] _ _ _ (unhide HT _ (unhide GM)) (unhide HN) (Nat.zero_le _) oM
    rw [start_res hcf] at ct
    have CT := hide ct
    have ER := hide hrun
    have BM := hide bM
    have m0 := bM.c0
    have m1 := bM.c1
    have m2 := bM.c2
    have m3 := bM.c3
    have m4 := bM.c4
    rw [e1, e2]
    have FW : Hid (∀ w3 : World, (w1.alloc (.cells #[.int .i64 (N : Int), .slice ua LL.length uc, .slice pa 0 pc, .int .i64 0, .int .i64 0] 37)).grownBy w3 none → Box5 37 w3 w1.heap.size (.int .i64 (N : Int)) (.slice ua LL.length uc) (.slice pa 0 pc) (.int .i64 0) (.int .i64 0) ∧ w.grownBy w3 none ∧ w.heap.size ≤ w1.heap.size) := fun w3 g3 => ⟨(unhide BM).kept g3, grown_trans (unhide GM) g3, (unhide G1).size⟩
    clear e1 e2 o1 g1 C G0 G1 gA oM bM hrun hb hcf ct
    generalize runM N LL 1000000 ⟨[], 0, 0⟩ = M1 at *
    obtain ⟨A1, s1, k1⟩ := M1
    dsimp only at *
    go_wp2_with fail
    refine (unhide CT).mono ?_; rintro e w3 ⟨u3, p3, rfl, o3, g3⟩
    obtain ⟨a3, c3, b3, d3, rfl, rfl⟩ := o3.len
    obtain ⟨bb, gg, hsz⟩ := unhide FW w3 g3
    have FG : Hid (w.grownBy (((((w3.setCell ⟨w1.heap.size, 0, none⟩ (.int .i64 (N : Int))).setCell ⟨w1.heap.size, 1, none⟩ (.slice a3 LL.length c3)).setCell ⟨w1.heap.size, 2, none⟩ (.slice b3 (tl 0 A1).length d3)).setCell ⟨w1.heap.size, 3, none⟩ (.int .i64 s1)).setCell ⟨w1.heap.size, 4, none⟩ (.int .i64 k1)) none) := cf.grown_set (cf.grown_set (cf.grown_set (cf.grown_set (cf.grown_set gg hsz) hsz) hsz) hsz) hsz
    clear m0 m1 m2 m3 m4
    have m0 := bb.c0
    have m1 := bb.c1
    have m2 := bb.c2
    have m3 := bb.c3
    have m4 := bb.c4
    have f0 := bb.f 0
    have f1 := bb.f 1
    have f2 := bb.f 2
    have f3 := bb.f 3
    have f4 := bb.f 4
    clear bb gg hsz o3 g3 FW CT BM GM
    by_cases hs : s1 = 0
    · subst hs
      go_wp2_with fail
      go_ret
      exact ⟨ret_int (by rw [unhide ER]; rfl), unhide FG⟩
    · have hs' : (s1 == 0) = false := by simpa using hs
      go_wp2_with fail
      go_ret
      exact ⟨ret_int (by rw [unhide ER, if_neg hs]), unhide FG⟩
set_option maxRecDepth 100000 in
set_option maxHeartbeats 8000000 in
theorem specMachineCost (v : Value) (n : Int) (LL : List (List Int)) (lo hi : Nat) (w : World) (hn : tot LL ≤ 1048576) (hh : hi ≤ w.heap.size) (hv : OwnS lo hi w v LL) :
    Calls Tryd.prog 26 #[.agg #[.int .i64 n, v]] w fun e w' => e = .returned (.int .i64 (costI n LL)) ∧ w.grownBy w' none := by
  have g0 := World.grownBy_alloc w (.cells #[.int .i64 n, v] 34) none
  have b0 := Box.new 34 w (.int .i64 n) v
  have C := hide (fun w1 (g : w.grownBy w1 none) => qc.specMachineStart v n LL lo hi w1 hn (hv.kept g) (Nat.le_trans hh g.size))
  have HN := hide hn
  skip
  have x0 := b0.c0
  have x1 := b0.c1
  have G0 := hide g0
  clear g0 b0 hv
  go_enter Tryd.func26, Tryd.ntmps26
  go_wp2_with fail
  generalize w.alloc (.cells #[.int .i64 n, v] 34) = W0 at *
  refine (unhide C _ (unhide G0)).mono ?_; rintro e w1 ⟨u, p, rfl, o1, g1⟩
  obtain ⟨ua, uc, pa, pc, rfl, rfl⟩ := o1.len
  have G1 := hide (grown_trans (r := none) (unhide G0) g1)
  cases hb : cnfB n LL
  · have E := hide (cost_no hb)
    have gA := hide (grown_trans (r := none) (unhide G1) (World.grownBy_alloc w1 (.cells #[.int .i64 (qc.stN n LL), .slice ua (qc.stR n LL).length uc, .slice pa ([] : List Int).length pc, .int .i64 0, .int .i64 0] 37) none))
    clear hb o1 g1 C G0
    go_wp2_with fail
    go_ret
    exact ⟨ret_int (unhide E).symm, unhide gA⟩
  · have e1 : qc.stN n LL = n := by unfold qc.stN; rw [hb]; rfl
    have e2 : qc.stR n LL = LL := by unfold qc.stR; rw [hb]; rfl
    rw [e2] at o1
    have gA := World.grownBy_alloc w1 (.cells #[.int .i64 n, .slice ua LL.length uc, .slice pa 0 pc, .int .i64 0, .int .i64 0] 37) none
    have bM := Box5.new 37 w1 (.int .i64 n) (.slice ua LL.length uc) (.slice pa 0 pc) (.int .i64 0) (.int .i64 0)
    have oM := o1.kept gA
    have GM := hide (grown_trans (r := none) (unhide G1) gA)
    obtain ⟨N, eN, h24, hcf, hrun⟩ := cost_yes hb
    obtain ⟨mid, q1, q2, q3, q4⟩ := oM
    subst eN
    have hok0 : OkM N ⟨[], 0, 0⟩ := (qm.Far.start N).ok
    have CT := hide (l07Run (.slice ua LL.length uc) (.slice pa 0 pc) N 1000000 LL _ mid ⟨[], 0, 0⟩ _ h24 (Nat.le_refl _) (unhide HN) (fun c hc x hx => (lq.litIn_parts ((cnf_parts hcf).2 c hc x hx)).1) hok0 q3 q4.1 (by have h1 := g1.size; rw [World.size_alloc]; omega))
    have ER := hide hrun
    have BM := hide bM
    have m0 := bM.c0
    have m1 := bM.c1
    have m2 := bM.c2
    have m3 := bM.c3
    have m4 := bM.c4
    rw [e1, e2]
    have FW : Hid (∀ w3 : World, (w1.alloc (.cells #[.int .i64 (N : Int), .slice ua LL.length uc, .slice pa 0 pc, .int .i64 0, .int .i64 0] 37)).grownBy w3 (Value.slice pa 0 pc).ownBlock → Box5 37 w3 w1.heap.size (.int .i64 (N : Int)) (.slice ua LL.length uc) (.slice pa 0 pc) (.int .i64 0) (.int .i64 0) ∧ w.grownBy w3 none ∧ w.heap.size ≤ w1.heap.size) := fun w3 g3 => by
      have hgs := (unhide GM).size
      have hg0 := (unhide G0).size
      refine ⟨(unhide BM).by g3 (row_ne q4.1 (unhide BM) (by decide)), ⟨g3.os.trans (unhide GM).os, g3.tape.trans (unhide GM).tape, g3.output.trans (unhide GM).output, Nat.le_trans (unhide GM).size g3.size, fun i hi _ => (g3.block i (by omega) (fun e => by have := (q4.1.lt i e.symm).1; omega)).trans ((unhide GM).block i hi (fun e => by cases e))⟩, (unhide G1).size⟩
    clear e1 e2 o1 g1 C G0 G1 gA bM hrun hb hcf q1 q2 q3 q4 hok0
    generalize runM N LL 1000000 ⟨[], 0, 0⟩ = M1 at *
    obtain ⟨A1, s1, k1⟩ := M1
    dsimp only at *
    go_wp2_with fail
    refine (unhide CT).mono ?_; rintro e w3 ⟨p3, rfl, o3, f3, g3, _⟩
    obtain ⟨b3, d3, hpe⟩ := ks.row_form o3
    subst hpe
    obtain ⟨bb, gg, hsz⟩ := unhide FW w3 g3
    have FG : Hid (w.grownBy (((((w3.setCell ⟨w1.heap.size, 0, none⟩ (.int .i64 (N : Int))).setCell ⟨w1.heap.size, 1, none⟩ (.slice ua LL.length uc)).setCell ⟨w1.heap.size, 2, none⟩ (.slice b3 A1.length d3)).setCell ⟨w1.heap.size, 3, none⟩ (.int .i64 s1)).setCell ⟨w1.heap.size, 4, none⟩ (.int .i64 k1)) none) := cf.grown_set (cf.grown_set (cf.grown_set (cf.grown_set (cf.grown_set gg hsz) hsz) hsz) hsz) hsz
    clear m0 m1 m2 m3 m4
    have m0 := bb.c0
    have m1 := bb.c1
    have m2 := bb.c2
    have m3 := bb.c3
    have m4 := bb.c4
    have f0 := bb.f 0
    have f1 := bb.f 1
    have f2 := bb.f 2
    have ff3 := bb.f 3
    have f4 := bb.f 4
    clear bb gg hsz o3 f3 g3 FW CT BM GM
    by_cases hs : s1 = 0
    · subst hs
      go_wp2_with fail
      go_ret
      exact ⟨ret_int (by rw [unhide ER]; rfl), unhide FG⟩
    · have hs' : (s1 == 0) = false := by simpa using hs
      go_wp2_with fail
      go_ret
      exact ⟨ret_int (by rw [unhide ER, if_neg hs]), unhide FG⟩
theorem bothC (n : Int) (LL : List (List Int)) (hn : tot LL ≤ 1048576) : ∃ X : Int,
    (∀ v lo hi w, OwnS lo hi w v LL → hi ≤ w.heap.size → Calls Tryd.prog 26 #[.agg #[.int .i64 n, v]] w fun e w' => e = .returned (.int .i64 X) ∧ w.grownBy w' none) ∧
    ∀ v lo hi w, Tab w → OwnS lo hi w v LL → Calls Tryd.prog 25 #[.agg #[.int .i64 n, v]] w fun e w' => e = .returned (.int .i64 X) ∧ w.grownBy w' none :=
  ⟨costI n LL, fun v lo hi w hv hh => specMachineCost v n LL lo hi w hn hh hv, fun v lo hi w hT hv => implMachineCost v n LL lo hi w hn hT hv⟩
end Go.Proofs.YtlpgnaedhijdpaaDoor.qh
