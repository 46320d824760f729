/- What FnForce, FnLeaves and FnPure draw, by their own names: a formula and a list of numbers, in memory of the call's own; whatever the bytes. -/
import Derived.Test.YtloenjaonkdlaaaDoorDl
namespace Go.Proofs.YtloenjaonkdlaaaDoor.dl
open Go.ChangeShapes Go.WideShapes Go.ChangeAt Go.RowKit
open Go.Proofs.YtloenjaonkdlaaaDoor.sl (Sl Own ints hide unhide grown_refl grown_trans grown_trans' of_below below_of grown_drewN)
open Go.Proofs.YtloenjaonkdlaaaDoor.css (Sls OwnS tot)
open Go.Proofs.YtloenjaonkdlaaaDoor.cf (Box)
open Go.Proofs.YtloenjaonkdlaaaDoor.draw (Cur Bs I64 newCur grown_new)
open Go.Proofs.YtloenjaonkdlaaaDoor.dcls (MadeC MadeC.start appendC)
open Go.Proofs.YtloenjaonkdlaaaDoor.dcn (Came Bd Drawn)
set_option linter.unusedVariables false

set_option maxHeartbeats 1600000 in
theorem drawLeaves (a : Option Addr) (n cap : Nat) (w : World) (hn : n ≤ 1048576) (hB : Bs w a n) :
    Calls Tryd.prog 31 #[.slice a n cap] w fun e w' => ∃ (k : Int) (v u : Value) (L : List Int) (M : List (List Int)), e = .returned (.tuple #[.agg #[.int .i64 k, v], u]) ∧ L.length ≤ 49 ∧ (∃ mid, Own mid w'.heap.size w' u L ∧ OwnS w.heap.size mid w' v M ∧ w.heap.size ≤ mid) ∧ Bd k M 121 ∧ w.grownBy w' none := by
  have g0 := World.grownBy_alloc w (.cells #[.int .i64 0, .slice none 0 0] 34) none
  have NC := hide (pair a n cap (w.alloc (.cells #[.int .i64 0, .slice none 0 0] 34)) hn (hB.below (below_of g0)))
  have R0 := hide (Box.new 34 w (.int .i64 0) (.slice none 0 0))
  have G0 := hide g0
  clear hB g0
  go_enter Tryd.func31, Tryd.ntmps31
  go_wp2_with fail
  refine (unhide NC).mono ?_; rintro e w1 ⟨k, v, u, L, M, rfl, hL, ⟨mid, ou, os, hmid⟩, bd, g1⟩
  have r1 := (unhide R0).kept g1
  have GW := hide (grown_trans (r := none) (unhide G0) g1)
  obtain ⟨va, vc, rfl⟩ := os.len
  obtain ⟨ua, uc, eu, _⟩ := ou.sl
  subst eu
  have q0 := r1.c0
  have q1 := r1.c1
  have q2 := r1.f 0
  have q3 := r1.f 1
  have T2 := hide r1
  have OS := hide os
  have OU := hide ou
  have HM := hide hmid
  have BD := hide bd
  have HL := hide hL
  clear r1 os ou hmid bd hL g1 NC
  go_wp2_with fail
  (try simp only [Exit.inBlock, Exit.then])
  have os := gr.ownS_set (i := 1) (u := .slice va M.length vc) (gr.ownS_set (i := 0) (u := .int .i64 k) (unhide OS) (unhide T2)) ((unhide T2).set0 (.int .i64 k))
  have ou := gr.own_set (i := 1) (u := .slice va M.length vc) (gr.own_set (i := 0) (u := .int .i64 k) (unhide OU).1 gr.ty2 (unhide T2)) gr.ty2 ((unhide T2).set0 (.int .i64 k))
  have hm := unhide HM
  rw [World.size_alloc] at hm
  refine bodyPost_ret (cf.ret_box2 rfl rfl (((unhide T2).set0 (.int .i64 k)).set1 (.slice va M.length vc))) rfl ⟨k, _, _, L, M, rfl, unhide HL, ⟨mid, sl.Own.of ou, ?_, ?_⟩, unhide BD, ?_⟩
  · exact os.sub (by rw [World.size_alloc]; exact Nat.le_succ _) (Nat.le_refl _)
  · omega
  · exact cf.grown_set (cf.grown_set (unhide GW) (Nat.le_refl _)) (Nat.le_refl _)

set_option maxHeartbeats 1600000 in
theorem drawForce (a : Option Addr) (n cap : Nat) (w : World) (hn : n ≤ 1048576) (hB : Bs w a n) :
    Calls Tryd.prog 24 #[.slice a n cap] w fun e w' => ∃ (k : Int) (v u : Value) (L : List Int) (M : List (List Int)), e = .returned (.tuple #[.agg #[.int .i64 k, v], u]) ∧ L.length ≤ 49 ∧ (∃ mid, Own mid w'.heap.size w' u L ∧ OwnS w.heap.size mid w' v M ∧ w.heap.size ≤ mid) ∧ Bd k M 121 ∧ w.grownBy w' none := by
  have g0 := World.grownBy_alloc w (.cells #[.int .i64 0, .slice none 0 0] 34) none
  have NC := hide (pair a n cap (w.alloc (.cells #[.int .i64 0, .slice none 0 0] 34)) hn (hB.below (below_of g0)))
  have R0 := hide (Box.new 34 w (.int .i64 0) (.slice none 0 0))
  have G0 := hide g0
  clear hB g0
  go_enter Tryd.func24, Tryd.ntmps24
  go_wp2_with fail
  refine (unhide NC).mono ?_; rintro e w1 ⟨k, v, u, L, M, rfl, hL, ⟨mid, ou, os, hmid⟩, bd, g1⟩
  have r1 := (unhide R0).kept g1
  have GW := hide (grown_trans (r := none) (unhide G0) g1)
  obtain ⟨va, vc, rfl⟩ := os.len
  obtain ⟨ua, uc, eu, _⟩ := ou.sl
  subst eu
  have q0 := r1.c0
  have q1 := r1.c1
  have q2 := r1.f 0
  have q3 := r1.f 1
  have T2 := hide r1
  have OS := hide os
  have OU := hide ou
  have HM := hide hmid
  have BD := hide bd
  have HL := hide hL
  clear r1 os ou hmid bd hL g1 NC
  go_wp2_with fail
  (try simp only [Exit.inBlock, Exit.then])
  have os := gr.ownS_set (i := 1) (u := .slice va M.length vc) (gr.ownS_set (i := 0) (u := .int .i64 k) (unhide OS) (unhide T2)) ((unhide T2).set0 (.int .i64 k))
  have ou := gr.own_set (i := 1) (u := .slice va M.length vc) (gr.own_set (i := 0) (u := .int .i64 k) (unhide OU).1 gr.ty2 (unhide T2)) gr.ty2 ((unhide T2).set0 (.int .i64 k))
  have hm := unhide HM
  rw [World.size_alloc] at hm
  refine bodyPost_ret (cf.ret_box2 rfl rfl (((unhide T2).set0 (.int .i64 k)).set1 (.slice va M.length vc))) rfl ⟨k, _, _, L, M, rfl, unhide HL, ⟨mid, sl.Own.of ou, ?_, ?_⟩, unhide BD, ?_⟩
  · exact os.sub (by rw [World.size_alloc]; exact Nat.le_succ _) (Nat.le_refl _)
  · omega
  · exact cf.grown_set (cf.grown_set (unhide GW) (Nat.le_refl _)) (Nat.le_refl _)

theorem tot_bd {k : Int} {M : List (List Int)} (h : Bd k M 121) : tot M ≤ 6050 := by
  obtain ⟨_, h1, h2⟩ := h
  unfold css.tot
  have : ∀ M : List (List Int), (∀ L ∈ M, L.length ≤ 49) → (M.map List.length).sum ≤ 49 * M.length := by
    intro M
    induction M with
    | nil => intro _; exact Nat.le_refl _
    | cons L l ih =>
      intro h
      have a := h L (by simp)
      have b := ih (fun K hK => h K (by simp [hK]))
      rw [List.map_cons, List.sum_cons, List.length_cons]
      omega
  have := this M h2
  omega
end Go.Proofs.YtloenjaonkdlaaaDoor.dl
