/- What FnSubsume draws: any formula, whatever the bytes. -/
import Derived.Test.YtibpnocpafppaaaDoorJXDf
namespace Go.Proofs.YtibpnocpafppaaaDoor.eq_
open Go.ChangeShapes Go.WideShapes Go.ChangeAt Go.RowKit
open sl (Sl Own ints hide unhide grown_refl grown_trans grown_trans' below_of of_below grown_drewN)
open css (Sls OwnS tot)
open cf (Box)
open draw (Cur Bs I64 newCur grown_new)
set_option linter.unusedVariables false
def GotA (w : World) (e : Ending) (w' : World) : Prop := ∃ (k : Int) (v : Value) (M : List (List Int)), e = .returned (.agg #[.int .i64 k, v]) ∧ (-1 ≤ k ∧ k ≤ 25) ∧ tot M ≤ 6050 ∧ OwnS w.heap.size w'.heap.size w' v M ∧ w.grownBy w' none
set_option maxRecDepth 10000 in
set_option maxHeartbeats 4000000 in
theorem drawSubsume (a : Option Addr) (n cap : Nat) (w : World) (hn : n ≤ 1048576) (hB : Bs w a n) :
  Calls Tryd.prog 10 #[.slice a n cap] w fun e w' => GotA w e w' := by
 have nc := newCur a n cap (w.alloc (.cells #[.int .i64 0, .slice none 0 0] 26)) hn (hB.below (below_of (World.grownBy_alloc w (.cells #[.int .i64 0, .slice none 0 0] 26) none)))
 simp only [World.size_alloc] at nc
 have NC := hide nc
 have R0 := hide (Box.new 26 w (.int .i64 0) (.slice none 0 0))
 clear hB nc
 go_enter Tryd.func10, Tryd.ntmps10
 go_wp2_with fail
 refine (unhide NC).mono ?_; rintro e w1 ⟨rfl, hc1, g1⟩
 have C1 := hide hc1
 have G1 := hide g1
 have R1 := hide ((unhide R0).kept g1)
 clear hc1 g1 NC R0
 go_wp2_with fail
 refine (dcn.any _ _ (unhide C1)).mono ?_; rintro e w2 ⟨k, v, M, rfl, bd, od, gd, cd⟩
 obtain ⟨va, vc, rfl⟩ := od.len
 have GA := hide (grown_trans (r := none) (World.grownBy_alloc w (.cells #[.int .i64 0, .slice none 0 0] 26) none) (unhide G1))
 have r2 := (unhide R1).by gd (fun e => by simp at e)
 have GW := hide (grown_new (unhide GA) gd (Nat.le_succ _))
 have y0 := r2.c0
 have y1 := r2.c1
 have y2 := r2.f 0
 have y3 := r2.f 1
 have TM := hide (df.tot_bd bd (Nat.le_refl _))
 have BK := hide bd.1
 have R2 := hide r2
 have OD := hide (od.sub (unhide GA).size (Nat.le_refl _))
 clear od gd cd bd r2
 go_wp2_with fail
 (try simp only [Exit.inBlock, Exit.then])
 have os := gr.ownS_set (i := 1) (u := .slice va M.length vc) (gr.ownS_set (i := 0) (u := .int .i64 k) (unhide OD) (unhide R2)) ((unhide R2).set0 (.int .i64 k))
 refine bodyPost_ret (cf.ret_box rfl rfl (((unhide R2).set0 (.int .i64 k)).set1 (.slice va M.length vc))) rfl ⟨k, _, M, rfl, unhide BK, unhide TM, ?_, ?_⟩
 ·rw [cf.size_set, cf.size_set]
  exact os
 ·exact cf.grown_set (cf.grown_set (unhide GW) (Nat.le_refl _)) (Nat.le_refl _)
end Go.Proofs.YtibpnocpafppaaaDoor.eq_
