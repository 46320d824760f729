/- What FnImplies draws: a formula and a list of numbers, in memory of the call's own; whatever the bytes. -/
import Derived.Test.YtmbmkbkghblcmaaDf
namespace Go.Proofs.Ytmbmkbkghblcmaa.df
open Go.ChangeShapes Go.WideShapes Go.ChangeAt Go.RowKit
open Go.Proofs.Ytmbmkbkghblcmaa.sl (Sl Own ints hide unhide grown_refl grown_trans grown_trans' of_below below_of grown_drewN)
open Go.Proofs.Ytmbmkbkghblcmaa.css (Sls OwnS tot)
open Go.Proofs.Ytmbmkbkghblcmaa.cf (Box)
open Go.Proofs.Ytmbmkbkghblcmaa.draw (Cur Bs I64 newCur grown_new)
open Go.Proofs.Ytmbmkbkghblcmaa.dcn (Came Bd Drawn)
set_option linter.unusedVariables false

set_option maxHeartbeats 1600000 in
theorem drawImplies (a : Option Addr) (n cap : Nat) (w : World) (hn : n ≤ 1048576) (hB : Bs w a n) :
    Calls Try.prog 17 #[.slice a n cap] w fun e w' => ∃ (k : Int) (v u : Value) (L : List Int) (M : List (List Int)), e = .returned (.tuple #[.agg #[.int .i64 k, v], u]) ∧ L.length ≤ 49 ∧ (∃ mid, Own mid w'.heap.size w' u L ∧ OwnS w.heap.size mid w' v M ∧ w.heap.size ≤ mid) ∧ Bd k M 121 ∧ w.grownBy w' none := by
  have nc := newCur a n cap (w.alloc (.cells #[.int .i64 0, .slice none 0 0] 26)) hn (hB.below (below_of (World.grownBy_alloc w (.cells #[.int .i64 0, .slice none 0 0] 26) none)))
  simp only [World.size_alloc] at nc
  have NC := hide nc
  have R0 := hide (Box.new 26 w (.int .i64 0) (.slice none 0 0))
  clear hB nc
  go_enter Try.func17, Try.ntmps17
  go_wp2_with fail
  refine (unhide NC).mono ?_; rintro e w1 ⟨rfl, hc1, g1⟩
  have C1 := hide hc1
  have G1 := hide g1
  have R1 := hide ((unhide R0).kept g1)
  clear hc1 g1 NC R0
  go_wp2_with fail
  refine (dcn.any _ _ (unhide C1)).mono ?_; rintro e w2 ⟨k, v, M, rfl, bd, od, gd, cd⟩
  obtain ⟨va, vc, rfl⟩ := od.len
  have b5 := Box.new 26 w2 (.int .i64 k) (.slice va M.length vc)
  have gA := World.grownBy_alloc w2 (.cells #[.int .i64 k, .slice va M.length vc] 26)
  have CL := hide (dcls.clause (w.heap.size + 1) 6 3 (w2.alloc (.cells #[.int .i64 k, .slice va M.length vc] 26)).drew ((cd.kept (gA none) (fun r e => by cases e)).kept (cf.grown_drew _ none) (fun r e => by cases e)) (by decide) (by decide) (by decide) (by decide))
  have r2 := ((unhide R1).by gd (fun e => by simp at e)).kept (gA none)
  have R2 := hide r2
  have B5 := hide b5
  have OD := hide ((od.kept (gA none)))
  have GD := hide (grown_trans' (r := some (w.heap.size + 1)) gd (gA _))
  have BD := hide bd
  have hws : w.heap.size + 1 < w2.heap.size := cd.lt
  have rc0 := r2.c0
  have rc1 := r2.c1
  have rf0 := r2.f 0
  have rf1 := r2.f 1
  have y0 := b5.c0
  have y1 := b5.c1
  have TB := hide (fun (w4 : World) (g4 : (w2.alloc (.cells #[.int .i64 k, .slice va M.length vc] 26)).drew.grownBy w4 (some (w.heap.size + 1))) => And.intro (b5.by (grown_trans' (cf.grown_drew _ (some (w.heap.size + 1))) g4) (fun e => by simp at e; omega)) (And.intro (r2.by (grown_trans' (cf.grown_drew _ (some (w.heap.size + 1))) g4) (fun e => by simp at e)) (dcn.ownS_turn ((od.kept (gA none)).sub (lo' := w1.heap.size) (Nat.le_refl _) (Nat.le_refl _)) (unhide C1).lt (grown_trans' (cf.grown_drew _ (some (w.heap.size + 1))) g4))))
  have GA := hide (grown_trans (r := none) (World.grownBy_alloc w (.cells #[.int .i64 0, .slice none 0 0] 26) none) (unhide G1))
  clear r2 b5 od gd cd gA bd
  go_wp2_with fail
  go_region_with (go_at_call 50; refine (unhide CL).mono ?_; rintro e w4 ⟨u4, L, rfl, hL, m4⟩; obtain ⟨ua, uc, rfl⟩ := m4.form; obtain ⟨t5, t2, tq⟩ := unhide TB w4 m4.2.1; have z0 := t5.c0; have z1 := t5.c1; have q0 := t2.c0; have q1 := t2.c1; have q2 := t2.f 0; have q3 := t2.f 1; have T2 := hide t2; have TO := hide tq; have G4 := hide m4.2.1; have OU := hide m4.1; have HL := hide hL; clear t5 t2 tq m4 hL)
  all_goals
    go_wp2_with fail
    (try simp only [Exit.inBlock, Exit.then])
    have gw := grown_new (unhide GA) (grown_trans' (unhide GD) (grown_trans' (cf.grown_drew _ (some (w.heap.size + 1))) (unhide G4))) (Nat.le_succ _)
    have os := gr.ownS_set (i := 1) (u := .slice va M.length vc) (gr.ownS_set (i := 0) (u := .int .i64 k) (unhide TO) (unhide T2)) ((unhide T2).set0 (.int .i64 k))
    have ou := gr.own_set (i := 1) (u := .slice va M.length vc) (gr.own_set (i := 0) (u := .int .i64 k) (unhide OU) gr.ty2 (unhide T2)) gr.ty2 ((unhide T2).set0 (.int .i64 k))
    have hz := (unhide G4).size
    rw [show (w2.alloc (.cells #[.int .i64 k, .slice va M.length vc] 26)).drew.heap.size = w2.heap.size + 1 from World.size_alloc ..] at hz ou
    refine bodyPost_ret (cf.ret_box2 rfl rfl (((unhide T2).set0 (.int .i64 k)).set1 (.slice va M.length vc))) rfl ⟨k, _, _, L, M, rfl, unhide HL, ⟨w2.heap.size + 1, sl.Own.of ou, ?_, ?_⟩, unhide BD, ?_⟩
    · exact os.sub (unhide GA).size (Nat.le_succ _)
    · omega
    · exact cf.grown_set (cf.grown_set gw (Nat.le_refl _)) (Nat.le_refl _)
end Go.Proofs.Ytmbmkbkghblcmaa.df
