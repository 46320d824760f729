/- What spec.DrawSolve and spec.DrawCore draw: any formula, and a list of numbers beside it, in memory of their own. -/
import Derived.Test.YtapkckfgbimmcaaDoorDAn
import Derived.Test.YtapkckfgbimmcaaDoorDl
import Derived.Test.YtapkckfgbimmcaaDoorTl
namespace Go.Proofs.YtapkckfgbimmcaaDoor.dl
open Go.ChangeShapes Go.WideShapes Go.ChangeAt Go.RowKit
open Go.Proofs.YtapkckfgbimmcaaDoor.sl (Sl Own ints hide unhide grown_refl grown_trans grown_trans' grown_drewN below_of of_below)
open Go.Proofs.YtapkckfgbimmcaaDoor.css (Sls OwnS tot)
open Go.Proofs.YtapkckfgbimmcaaDoor.cf (Box)
open Go.Proofs.YtapkckfgbimmcaaDoor.draw (Bs Cur newCur)
open Go.Proofs.YtapkckfgbimmcaaDoor.dcn (Bd Came Drawn)
open Go.Proofs.YtapkckfgbimmcaaDoor.wo (Made)
open Go.Proofs.YtapkckfgbimmcaaDoor.as_ (tl tl_step tl_len litAt)
set_option linter.unusedVariables false

set_option maxHeartbeats 1600000 in
theorem drawSolve (a : Option Addr) (n cap : Nat) (w : World) (hn : n ≤ 1048576) (hB : Bs w a n) :
    Calls Tryd.prog 13 #[.slice a n cap] w fun e w' => ∃ (k : Int) (v : Value) (M : List (List Int)), e = .returned (.agg #[.int .i64 k, v]) ∧ Bd k M 121 ∧ OwnS w.heap.size w'.heap.size w' v M ∧ w.grownBy w' none := by
  have nc := newCur a n cap (w.alloc (.cells #[.int .i64 0, .slice none 0 0] 26)) hn (hB.below (below_of (World.grownBy_alloc w (.cells #[.int .i64 0, .slice none 0 0] 26) none)))
  simp only [World.size_alloc] at nc
  have NC := hide nc
  have R0 := hide (Box.new 26 w (.int .i64 0) (.slice none 0 0))
  clear hB nc
  go_enter Tryd.func13, Tryd.ntmps13
  go_wp2_with fail
  refine (unhide NC).mono ?_; rintro e w1 ⟨rfl, hc1, g1⟩
  have C1 := hide hc1
  have G1 := hide g1
  have R1 := hide ((unhide R0).kept g1)
  clear hc1 g1 NC R0
  go_wp2_with fail
  refine (dcn.any _ _ (unhide C1)).mono ?_; rintro e w2 ⟨k, v, M, rfl, bd, od, gd, cd⟩
  obtain ⟨va, vc, rfl⟩ := od.len
  have r2 := (unhide R1).by gd (fun e => by simp at e)
  have R2 := hide r2
  have OD := hide od
  have GD := hide gd
  have BD := hide bd
  have rc0 := r2.c0
  have rc1 := r2.c1
  have rf0 := r2.f 0
  have rf1 := r2.f 1
  have GA := hide (grown_trans (r := none) (World.grownBy_alloc w (.cells #[.int .i64 0, .slice none 0 0] 26) none) (unhide G1))
  clear r2 od gd cd bd
  go_wp2_with fail
  (try simp only [Exit.inBlock, Exit.then])
  have gw := draw.grown_new (unhide GA) (unhide GD) (Nat.le_succ _)
  have os := gr.ownS_set (i := 1) (u := .slice va M.length vc) (gr.ownS_set (i := 0) (u := .int .i64 k) (unhide OD) (unhide R2)) ((unhide R2).set0 (.int .i64 k))
  refine bodyPost_ret (cf.ret_box rfl rfl (((unhide R2).set0 (.int .i64 k)).set1 (.slice va M.length vc))) rfl ⟨k, _, M, rfl, unhide BD, ?_, ?_⟩
  · refine os.sub (unhide GA).size ?_
    rw [cf.size_set, cf.size_set]
    exact Nat.le_refl _
  · exact cf.grown_set (cf.grown_set gw (Nat.le_refl _)) (Nat.le_refl _)
set_option maxHeartbeats 1600000 in
theorem drawCore (a : Option Addr) (n cap : Nat) (w : World) (hn : n ≤ 1048576) (hB : Bs w a n) :
    Calls Tryd.prog 25 #[.slice a n cap] w fun e w' => ∃ (k : Int) (v u : Value) (L : List Int) (M : List (List Int)), e = .returned (.tuple #[.agg #[.int .i64 k, v], u]) ∧ L.length ≤ 49 ∧ (∃ mid, Own mid w'.heap.size w' u L ∧ OwnS w.heap.size mid w' v M ∧ w.heap.size ≤ mid) ∧ Bd k M 121 ∧ w.grownBy w' none := by
  have g0 := World.grownBy_alloc w (.cells #[.int .i64 0, .slice none 0 0] 26) none
  have NC := hide (pair a n cap (w.alloc (.cells #[.int .i64 0, .slice none 0 0] 26)) hn (hB.below (below_of g0)))
  have R0 := hide (Box.new 26 w (.int .i64 0) (.slice none 0 0))
  have G0 := hide g0
  clear hB g0
  go_enter Tryd.func25, Tryd.ntmps25
  go_wp2_with fail
  refine (unhide NC).mono ?_; rintro e w1 ⟨k, v, u, L, M, rfl, hL, ⟨mid, ou, os, hmid⟩, bd, g1⟩
  have r1 := (unhide R0).kept g1
  have GW := hide (grown_trans (r := none) (unhide G0) g1)
  obtain ⟨va, vc, rfl⟩ := os.len
  obtain ⟨ua, uc, eu, _⟩ := ou.sl
  subst eu
  have q0 := r1.c0
  have q1 := r1.c1
  have q2 := r1.f 0
  have q3 := r1.f 1
  have T2 := hide r1
  have OS := hide os
  have OU := hide ou
  have HM := hide hmid
  have BD := hide bd
  have HL := hide hL
  clear r1 os ou hmid bd hL g1 NC
  go_wp2_with fail
  (try simp only [Exit.inBlock, Exit.then])
  have os := gr.ownS_set (i := 1) (u := .slice va M.length vc) (gr.ownS_set (i := 0) (u := .int .i64 k) (unhide OS) (unhide T2)) ((unhide T2).set0 (.int .i64 k))
  have ou := gr.own_set (i := 1) (u := .slice va M.length vc) (gr.own_set (i := 0) (u := .int .i64 k) (unhide OU).1 gr.ty2 (unhide T2)) gr.ty2 ((unhide T2).set0 (.int .i64 k))
  have hm := unhide HM
  rw [World.size_alloc] at hm
  refine bodyPost_ret (cf.ret_box2 rfl rfl (((unhide T2).set0 (.int .i64 k)).set1 (.slice va M.length vc))) rfl ⟨k, _, _, L, M, rfl, unhide HL, ⟨mid, sl.Own.of ou, ?_, ?_⟩, unhide BD, ?_⟩
  · exact os.sub (by rw [World.size_alloc]; exact Nat.le_succ _) (Nat.le_refl _)
  · omega
  · exact cf.grown_set (cf.grown_set (unhide GW) (Nat.le_refl _)) (Nat.le_refl _)

set_option maxHeartbeats 800000 in
theorem lawsLits (v : Value) (A : List Int) (w : World) (hL : A.length ≤ 1048576) (hv : Sl w v A) :
    Calls Tryd.prog 21 #[v] w fun e w' => ∃ u, e = .returned u ∧ Made w w' u (tl 0 A) := by
  obtain ⟨a, cap, rfl, ha⟩ := hv
  have HA := hide ha
  have st := hide (app.made_nil w)
  clear ha
  go_enter Tryd.func21, Tryd.ntmps21
  go_wp2
  go_loopw [3, 4] (fun u i wr => ∃ k : Nat, k ≤ A.length ∧ i = .int .i64 k ∧ Hid (Made w wr u (tl 0 (A.take k)))) (fun _ i _ => A.length - (intOf i).toNat)
  case atStart => exact ⟨0, Nat.zero_le _, rfl, st⟩
  case round =>
    obtain ⟨k, hk, rfl, hm⟩ := hrel
    clear st
    by_cases hlt : k < A.length
    · rcases unhide HA with h | ⟨b, off, rfl, hb, hcb⟩
      · rw [h] at hlt
        simp at hlt
      · have c1 : wr.cell? ⟨b, off + k, none⟩ = some (.int .i64 (A.getD k 0)) := (unhide hm).2.cell (hcb k hlt) (fun e => by cases e)
        have hi' : (k : Int) < (A.length : Int) := by omega
        have hs := tl_step A k hlt
        have hM : (tl 0 (A.take k)).length ≤ 4194304 := by rw [tl_len, List.length_take]; omega
        generalize A.getD k 0 = x at *
        generalize tl 0 (A.take k) = M at *
        clear hcb HA
        by_cases hx : x = 1
        · subst hx
          have HS := hide (show tl 0 (A.take (k + 1)) = M ++ [(k : Int) + 1] from hs)
          clear hs
          go_wp2_with (at_builtin; refine wo.append1 (unhide hm).2 (unhide hm).1 hM rfl _ _ rfl rfl rfl ?_)
          intro v' w3 R
          have R3 := hide R
          clear R hm
          go_wp2
          go_roundw
          case rel => exact ⟨k + 1, by omega, by go_num, by rw [unhide HS]; exact R3⟩
          case measure => simp [intOf]; omega
        · have hx' : (x == 1) = false := beq_eq_false_iff_ne.2 hx
          have HS := hide (show tl 0 (A.take (k + 1)) = M ++ [-(k : Int) - 1] by rw [hs]; unfold litAt; rw [if_neg hx])
          clear hs hx
          go_wp2_with (at_builtin; refine wo.append1 (unhide hm).2 (unhide hm).1 hM rfl _ _ rfl rfl rfl ?_)
          intro v' w3 R
          have R3 := hide R
          clear R hm
          go_wp2
          go_roundw
          case rel => exact ⟨k + 1, by omega, by go_num, by rw [unhide HS]; exact R3⟩
          case measure => simp [intOf]; omega
    · have hi' : ¬ (k : Int) < (A.length : Int) := by omega
      have e : A.take k = A := List.take_of_length_le (by omega)
      rw [e] at hm
      clear HA e
      go_wp2
      go_ret
      exact ⟨_, rfl, unhide hm⟩

end Go.Proofs.YtapkckfgbimmcaaDoor.dl
