/- Less: what the program and its model answer at every formula of the call's own that holds at most 2^20 values. -/
import Derived.Test.YtibpnocpafppaaaDoorJXHe
import Derived.Test.YtibpnocpafppaaaDoorJSg
namespace Go.Proofs.YtibpnocpafppaaaDoor.hb
open Go.ChangeShapes Go.WideShapes Go.ChangeAt Go.RowKit
open sl (Sl Own ints hide unhide ret_int ret_bool grown_refl grown_trans grown_drewN below_of of_below)
open css (Sls OwnS Outs tot own_mono)
open cf (Box)
open srt (Tab)
open wm (frc)
open ok (cnfB clB litIn)
open bset (setOf)
open cs (cnfS)
open gm (sumL)
open ge (outN outR OutE ini_all out_no OwnD)
open gj (out_end)
set_option linter.unusedVariables false
theorem unL_ok {n : Int} {LL : List (List Int)} (h : cnfB n LL = true) : cnfB n (unL LL) = true := by
 cases hq : frc (LL.map setOf) 49 (setOf []) [] with
 | mk P ob =>
  cases ob
  ·rw [un_no hq]
   rw [cnf_parts]
   refine ⟨(cnf_parts.1 h).1, by decide, fun C hC => ?_⟩
   rw [List.mem_singleton] at hC
   subst hC
   rfl
  ·have iv := frc_inv h 49 (setOf []) [] (inv_zero n LL) (by rw [hq])
   rw [hq] at iv
   obtain ⟨T, iv⟩ := iv
   rw [un_yes hq]
   exact un_ok h iv
set_option maxRecDepth 10000 in
set_option maxHeartbeats 4000000 in
theorem implLess (v : Value) (n : Int) (LL : List (List Int)) (lo hi : Nat) (w : World) (hT : Tab w) (hn : tot LL ≤ 1048576) (hv : OwnS lo hi w v LL) :
  Calls Tryd.prog 15 #[.agg #[.int .i64 n, v]] w fun e w' => OutE (cnfB n LL) n (sumL (cnfS (unL LL))) w e w' := by
 obtain ⟨va, vc, rfl⟩ := hv.len
 obtain ⟨g0, b0, b1⟩ := ini_all w (.int .i64 n) (.slice va LL.length vc)
 have C := hide (implUnits (.slice va LL.length vc) n LL lo hi _ (hT.kept g0) hn (hv.kept g0))
 have CS := hide (fun (u : Value) (w1 : World) (g : w.grownBy w1 none) (hs : Sls w1 u (unL LL)) (ht : tot (unL LL) ≤ 1048576) => gm.implSubsume u n (unL LL) w1 (hT.kept g) ht hs)
 have G0 := hide g0
 have B1 := hide b1
 clear hv g0 b0 b1
 go_enter Tryd.func15, Tryd.ntmps15
 go_wp2_with fail
 refine (unhide C).mono ?_; rintro e w1 ⟨q, rfl, o1, g1⟩
 obtain ⟨qa, qc, rfl⟩ := o1.len
 have G1 := hide (grown_trans (r := none) (unhide G0) g1)
 have bx1 := (unhide B1).kept g1
 cases hb : cnfB n LL
 ·have E := hide hb
  rw [hb] at o1
  generalize hR : outR false (unL LL) = R at *
  have gA := World.grownBy_alloc w1 (.cells #[.int .i64 (outN false n), .slice qa R.length qc] 26) none
  have X1 := hide (bx1.kept gA)
  have GA := hide (grown_trans (r := none) (unhide G1) gA)
  have y0 := (bx1.kept gA).c0
  have y1 := (bx1.kept gA).c1
  have y2 := (bx1.kept gA).f 0
  have y3 := (bx1.kept gA).f 1
  clear hb C g1 bx1 B1 G0 o1 gA G1 CS
  go_wp2_with fail
  (try simp only [Exit.inBlock, Exit.then])
  exact out_no (unhide E) (unhide X1) (unhide GA) rfl rfl rfl rfl
 ·have E := hide hb
  rw [hb] at o1
  have o1' : OwnS _ w1.heap.size w1 (.slice qa (unL LL).length qc) (unL LL) := o1
  have uo := unL_ok hb
  have ht : tot (unL LL) ≤ 1048576 := Nat.le_trans (cnf_tot uo) (by decide)
  have gA := World.grownBy_alloc w1 (.cells #[.int .i64 n, .slice qa (unL LL).length qc] 26) none
  have bg := Box.new 26 w1 (.int .i64 n) (.slice qa (unL LL).length qc)
  have z0 := bg.c0
  have z1 := bg.c1
  have GA := hide (grown_trans (r := none) (unhide G1) gA)
  have X1 := hide (bx1.kept gA)
  have CL := unhide CS (.slice qa (unL LL).length qc) _ (unhide GA) (o1'.kept gA).sls ht
  rw [uo] at CL
  have CL' := hide CL
  clear hb C g1 bx1 B1 G0 o1 o1' gA bg G1 CS CL uo ht
  show _
  go_wp2_with fail
  refine (unhide CL').mono ?_; rintro e w3 ⟨p, rfl, o3, g3⟩
  obtain ⟨pa, pc, rfl⟩ := o3.len
  have b3 := (unhide X1).kept g3
  have y0 := b3.c0
  have y1 := b3.c1
  have y2 := b3.f 0
  have y3 := b3.f 1
  have B3 := hide b3
  have G3 := hide (grown_trans (r := none) (unhide GA) g3)
  have O3 := hide (o3.sub (unhide GA).size (Nat.le_refl _))
  clear o3 g3 b3 CL' X1 GA z0 z1
  go_wp2_with fail
  (try simp only [Exit.inBlock, Exit.then])
  exact out_end (unhide E) (unhide B3) (unhide G3) (unhide O3) rfl rfl rfl rfl
set_option maxRecDepth 10000 in
set_option maxHeartbeats 4000000 in
theorem specLess (v : Value) (n : Int) (LL : List (List Int)) (lo hi : Nat) (w : World) (hhi : hi ≤ w.heap.size) (hn : tot LL ≤ 1048576) (hv : OwnS lo hi w v LL) :
  Calls Tryd.prog 16 #[.agg #[.int .i64 n, v]] w fun e w' => OutE (cnfB n LL) n (sumL (cnfS (unL LL))) w e w' := by
 obtain ⟨va, vc, rfl⟩ := hv.len
 obtain ⟨g0, b0, b1⟩ := ini_all w (.int .i64 n) (.slice va LL.length vc)
 have C := hide (specUnits (.slice va LL.length vc) n LL lo hi _ hn (Nat.le_trans hhi g0.size) (hv.kept g0))
 have CS := hide (fun (u : Value) (w1 : World) (g : w.grownBy w1 none) (hs : Sls w1 u (unL LL)) (ht : tot (unL LL) ≤ 1048576) => gm.specSubsume u n (unL LL) w1 ht hs)
 have G0 := hide g0
 have B1 := hide b1
 clear hv g0 b0 b1
 go_enter Tryd.func16, Tryd.ntmps16
 go_wp2_with fail
 refine (unhide C).mono ?_; rintro e w1 ⟨q, rfl, o1, g1⟩
 obtain ⟨qa, qc, rfl⟩ := o1.len
 have G1 := hide (grown_trans (r := none) (unhide G0) g1)
 have bx1 := (unhide B1).kept g1
 cases hb : cnfB n LL
 ·have E := hide hb
  rw [hb] at o1
  generalize hR : outR false (unL LL) = R at *
  have gA := World.grownBy_alloc w1 (.cells #[.int .i64 (outN false n), .slice qa R.length qc] 26) none
  have X1 := hide (bx1.kept gA)
  have GA := hide (grown_trans (r := none) (unhide G1) gA)
  have y0 := (bx1.kept gA).c0
  have y1 := (bx1.kept gA).c1
  have y2 := (bx1.kept gA).f 0
  have y3 := (bx1.kept gA).f 1
  clear hb C g1 bx1 B1 G0 o1 gA G1 CS
  go_wp2_with fail
  (try simp only [Exit.inBlock, Exit.then])
  exact out_no (unhide E) (unhide X1) (unhide GA) rfl rfl rfl rfl
 ·have E := hide hb
  rw [hb] at o1
  have o1' : OwnS _ w1.heap.size w1 (.slice qa (unL LL).length qc) (unL LL) := o1
  have uo := unL_ok hb
  have ht : tot (unL LL) ≤ 1048576 := Nat.le_trans (cnf_tot uo) (by decide)
  have gA := World.grownBy_alloc w1 (.cells #[.int .i64 n, .slice qa (unL LL).length qc] 26) none
  have bg := Box.new 26 w1 (.int .i64 n) (.slice qa (unL LL).length qc)
  have z0 := bg.c0
  have z1 := bg.c1
  have GA := hide (grown_trans (r := none) (unhide G1) gA)
  have X1 := hide (bx1.kept gA)
  have CL := unhide CS (.slice qa (unL LL).length qc) _ (unhide GA) (o1'.kept gA).sls ht
  rw [uo] at CL
  have CL' := hide CL
  clear hb C g1 bx1 B1 G0 o1 o1' gA bg G1 CS CL uo ht
  show _
  go_wp2_with fail
  refine (unhide CL').mono ?_; rintro e w3 ⟨p, rfl, o3, g3⟩
  obtain ⟨pa, pc, rfl⟩ := o3.len
  have b3 := (unhide X1).kept g3
  have y0 := b3.c0
  have y1 := b3.c1
  have y2 := b3.f 0
  have y3 := b3.f 1
  have B3 := hide b3
  have G3 := hide (grown_trans (r := none) (unhide GA) g3)
  have O3 := hide (o3.sub (unhide GA).size (Nat.le_refl _))
  clear o3 g3 b3 CL' X1 GA z0 z1
  go_wp2_with fail
  (try simp only [Exit.inBlock, Exit.then])
  exact out_end (unhide E) (unhide B3) (unhide G3) (unhide O3) rfl rfl rfl rfl
theorem less_tot (n : Int) (LL : List (List Int)) : tot (outR (cnfB n LL) (sumL (cnfS (unL LL)))) ≤ 1048576 := by
 cases h : cnfB n LL
 ·show tot [] ≤ _
  decide
 ·have := gm.srt_tot2 (unL LL) n
  rw [unL_ok h] at this
  exact this
end Go.Proofs.YtibpnocpafppaaaDoor.hb
