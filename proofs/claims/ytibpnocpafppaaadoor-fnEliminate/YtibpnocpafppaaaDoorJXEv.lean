/- What FnEliminate draws: any formula and a small number, whatever the bytes. -/
import Derived.Test.YtibpnocpafppaaaDoorJXDf
namespace Go.Proofs.YtibpnocpafppaaaDoor.ev
open Go.ChangeShapes Go.WideShapes Go.ChangeAt Go.RowKit
open sl (Sl Own ints hide unhide grown_refl grown_trans grown_trans' below_of of_below grown_drewN)
open css (Sls OwnS tot)
open cf (Box)
open draw (Cur Bs I64 newCur grown_new)
open df (Got)
set_option linter.unusedVariables false
set_option maxHeartbeats 1600000 in
theorem two (a : Option Addr) (n cap : Nat) (w : World) (hn : n ≤ 1048576) (hB : Bs w a n) :
  Calls Tryd.prog 70 #[.slice a n cap] w fun e w' => ∃ (k : Int) (v : Value) (x : Int) (M : List (List Int)), e = .returned (.tuple #[.agg #[.int .i64 k, v], .int .i64 x]) ∧ (0 ≤ x ∧ x < 8) ∧ Got w w' k v M := by
 have nc := newCur a n cap (w.alloc (.cells #[.int .i64 0, .slice none 0 0] 26)) hn (hB.below (below_of (World.grownBy_alloc w (.cells #[.int .i64 0, .slice none 0 0] 26) none)))
 simp only [World.size_alloc] at nc
 have NC := hide nc
 have R0 := hide (Box.new 26 w (.int .i64 0) (.slice none 0 0))
 clear hB nc
 go_enter Tryd.func70, Tryd.ntmps70
 go_wp2_with fail
 refine (unhide NC).mono ?_; rintro e w1 ⟨rfl, hc1, g1⟩
 have C1 := hide hc1
 have G1 := hide g1
 have R1 := hide ((unhide R0).kept g1)
 clear hc1 g1 NC R0
 go_wp2_with fail
 refine (dcn.any _ _ (unhide C1)).mono ?_; rintro e w2 ⟨k, v, M, rfl, bd, od, gd, cd⟩
 obtain ⟨va, vc, rfl⟩ := od.len
 have b5 := Box.new 26 w2 (.int .i64 k) (.slice va M.length vc)
 have gA := World.grownBy_alloc w2 (.cells #[.int .i64 k, .slice va M.length vc] 26)
 have CL := hide (draw.below (w.heap.size + 1) 8 (w2.alloc (.cells #[.int .i64 k, .slice va M.length vc] 26)).drew ((cd.kept (gA none) (fun r e => by cases e)).kept (cf.grown_drew _ none) (fun r e => by cases e)) (by decide) (by decide))
 have r2 := ((unhide R1).by gd (fun e => by simp at e)).kept (gA none)
 have R2 := hide r2
 have B5 := hide b5
 have OD := hide ((od.kept (gA none)))
 have GD := hide (grown_trans' (r := some (w.heap.size + 1)) gd (gA _))
 have BD := hide bd
 have hws : w.heap.size + 1 < w2.heap.size := cd.lt
 have rc0 := r2.c0
 have rc1 := r2.c1
 have rf0 := r2.f 0
 have rf1 := r2.f 1
 have y0 := b5.c0
 have y1 := b5.c1
 have TB := hide (fun (w4 : World) (g4 : (w2.alloc (.cells #[.int .i64 k, .slice va M.length vc] 26)).drew.grownBy w4 (some (w.heap.size + 1))) => And.intro (b5.by (grown_trans' (cf.grown_drew _ (some (w.heap.size + 1))) g4) (fun e => by simp at e; omega)) (And.intro (r2.by (grown_trans' (cf.grown_drew _ (some (w.heap.size + 1))) g4) (fun e => by simp at e)) (dcn.ownS_turn ((od.kept (gA none)).sub (lo' := w1.heap.size) (Nat.le_refl _) (Nat.le_refl _)) (unhide C1).lt (grown_trans' (cf.grown_drew _ (some (w.heap.size + 1))) g4))))
 have GA := hide (grown_trans (r := none) (World.grownBy_alloc w (.cells #[.int .i64 0, .slice none 0 0] 26) none) (unhide G1))
 clear r2 b5 od gd cd gA bd
 go_wp2_with fail
 go_region_with (go_at_call 108; refine (unhide CL).mono ?_; rintro e w4 ⟨x, rfl, hx0, hx1, hc4, g4⟩; obtain ⟨t5, t2, tq⟩ := unhide TB w4 g4; have z0 := t5.c0; have z1 := t5.c1; have q0 := t2.c0; have q1 := t2.c1; have q2 := t2.f 0; have q3 := t2.f 1; have T2 := hide t2; have TO := hide tq; have G4 := hide g4; have HX := hide (And.intro hx0 hx1); clear t5 t2 tq g4 hc4 hx0 hx1)
 all_goals
  go_wp2_with fail
  (try simp only [Exit.inBlock, Exit.then])
  have gw := grown_new (unhide GA) (grown_trans' (unhide GD) (grown_trans' (cf.grown_drew _ (some (w.heap.size + 1))) (unhide G4))) (Nat.le_succ _)
  have os := gr.ownS_set (i := 1) (u := .slice va M.length vc) (gr.ownS_set (i := 0) (u := .int .i64 k) (unhide TO) (unhide T2)) ((unhide T2).set0 (.int .i64 k))
  have hz := (unhide G4).size
  rw [show (w2.alloc (.cells #[.int .i64 k, .slice va M.length vc] 26)).drew.heap.size = w2.heap.size + 1 from World.size_alloc ..] at hz
  refine bodyPost_ret (cf.ret_box2 rfl rfl (((unhide T2).set0 (.int .i64 k)).set1 (.slice va M.length vc))) rfl ⟨k, _, x, M, rfl, unhide HX, unhide BD, ?_, ?_⟩
  ·refine os.sub (unhide GA).size ?_
   rw [cf.size_set, cf.size_set]
   omega
  ·exact cf.grown_set (cf.grown_set gw (Nat.le_refl _)) (Nat.le_refl _)
set_option maxHeartbeats 1600000 in
theorem drawEliminate (a : Option Addr) (n cap : Nat) (w : World) (hn : n ≤ 1048576) (hB : Bs w a n) :
  Calls Tryd.prog 21 #[.slice a n cap] w fun e w' => ∃ (k : Int) (v : Value) (x : Int) (M : List (List Int)), e = .returned (.tuple #[.agg #[.int .i64 k, v], .int .i64 x]) ∧ (0 ≤ x ∧ x < 8) ∧ Got w w' k v M := by
 have gA := World.grownBy_alloc w (.cells #[.int .i64 0, .slice none 0 0] 26) none
 have T := hide (two a n cap _ hn (hB.below (below_of gA)))
 have R0 := hide (Box.new 26 w (.int .i64 0) (.slice none 0 0))
 have GA := hide gA
 clear hB gA
 go_enter Tryd.func21, Tryd.ntmps21
 go_wp2_with fail
 refine (unhide T).mono ?_; rintro e w1 ⟨k, v, x, M, rfl, hx, bd, od, gd⟩
 obtain ⟨va, vc, rfl⟩ := od.len
 have r1 := (unhide R0).kept gd
 have y0 := r1.c0
 have y1 := r1.c1
 have y2 := r1.f 0
 have y3 := r1.f 1
 have R1 := hide r1
 have OD := hide (od.sub (unhide GA).size (Nat.le_refl _))
 have GD := hide (grown_trans (r := none) (unhide GA) gd)
 have HX := hide hx
 have BD := hide bd
 clear r1 od gd hx bd T
 go_wp2_with fail
 (try simp only [Exit.inBlock, Exit.then])
 refine bodyPost_ret (cf.ret_box2 rfl rfl (((unhide R1).set0 (.int .i64 k)).set1 (.slice va M.length vc))) rfl ⟨k, _, x, M, rfl, unhide HX, unhide BD, ?_, ?_⟩
 ·rw [cf.size_set, cf.size_set]
  exact gr.ownS_set (gr.ownS_set (unhide OD) (unhide R1)) ((unhide R1).set0 _)
 ·exact cf.grown_set (cf.grown_set (unhide GD) (Nat.le_refl _)) (Nat.le_refl _)
end Go.Proofs.YtibpnocpafppaaaDoor.ev
