/- What FnForce, FnLeaves and FnPure draw: a formula and a list of numbers, in memory of the call's own; whatever the bytes. -/
import Derived.Test.YtloenjaonkdlaaaDoorDAn
import Derived.Shelf.RegionOpen
namespace Go.Proofs.YtloenjaonkdlaaaDoor.dl
open Go.ChangeShapes Go.WideShapes Go.ChangeAt Go.RowKit
open Go.Proofs.YtloenjaonkdlaaaDoor.sl (Sl Own ints hide unhide grown_refl grown_trans grown_trans' of_below below_of grown_drewN)
open Go.Proofs.YtloenjaonkdlaaaDoor.css (Sls OwnS tot)
open Go.Proofs.YtloenjaonkdlaaaDoor.cf (Box)
open Go.Proofs.YtloenjaonkdlaaaDoor.draw (Cur Bs I64 newCur grown_new)
open Go.Proofs.YtloenjaonkdlaaaDoor.dcls (MadeC MadeC.start appendC)
open Go.Proofs.YtloenjaonkdlaaaDoor.dcn (Came Bd Drawn)
set_option linter.unusedVariables false

theorem lowC {c : Nat} {w w1 w2 : World} {v : Value} {M : List Int} (g : w.grownBy w1 none) (h : MadeC c w1 w2 v M) : MadeC c w w2 v M :=
  ⟨css.own_mono h.1 g.size, grown_trans' ⟨g.os, g.tape, g.output, g.size, fun k hk _ => g.block k hk (fun e => by cases e)⟩ h.2.1, h.2.2⟩

set_option maxRecDepth 100000 in
set_option maxHeartbeats 2000000 in
theorem taken (c : Nat) (n : Int) (v : Value) (w : World) (hc : Cur w c) (hn : -1 ≤ n ∧ n ≤ 25) :
    Calls Tryd.prog 122 #[.pointer (some ⟨c, 0, none⟩), .agg #[.int .i64 n, v]] w fun e w' => ∃ u L, e = .returned u ∧ L.length ≤ 9 ∧ MadeC c w w' u L := by
  have hlt := hc.lt
  have g0 := World.grownBy_alloc w (.cells #[.int .i64 n, v] 34) none
  have F0 := hide (Box.new 34 w (.int .i64 n) v)
  have G0 := hide g0
  have st := hide (MadeC.start c (w.alloc (.cells #[.int .i64 n, v] 34)) (hc.kept g0 (fun r e => by cases e)))
  have hlt' : c < (w.alloc (.cells #[.int .i64 n, v] 34)).heap.size := Nat.lt_of_lt_of_le hlt g0.size
  have HLT := hide hlt'
  obtain ⟨n0, n1⟩ := hn
  simp only [World.size_alloc] at st
  clear hc g0 hlt'
  go_enter Tryd.func122, Tryd.ntmps122
  go_wp2
  go_loopw [5, 6] (fun u i wr => ∃ (k : Nat) (M : List Int), k ≤ 8 ∧ i = .int .i64 ((k : Int) + 1) ∧ M.length ≤ k ∧ Hid (MadeC c (w.alloc (.cells #[.int .i64 n, v] 34)) wr u M)) (fun _ i _ => 20 - (intOf i).toNat)
  case atStart => exact ⟨0, [], Nat.zero_le _, rfl, Nat.le_refl _, st⟩
  case round =>
    obtain ⟨k, M, hk, rfl, hM, hm⟩ := hrel
    clear st
    have F1 := hide ((unhide F0).by (unhide hm).2.1 (fun e => by cases e; omega))
    have y0 := (unhide F1).c0
    have y1 := (unhide F1).c1
    by_cases h1 : (k : Int) + 1 ≤ n
    · by_cases h2 : k < 8
      · have h2' : (k : Int) + 1 < 9 := by omega
        have CB := hide (draw.below c 5 _ (unhide hm).2.2 (by decide) (by decide))
        go_wp2_with fail
        refine (unhide CB).mono ?_; rintro e w2 ⟨x, rfl, x0, x1, hc2, g2⟩
        have M2 := hide ((unhide hm).turn (unhide HLT) g2 hc2)
        clear CB hm hc2 g2 y0 y1 F1
        by_cases hx0 : x = 0
        · subst hx0
          go_wp2_with (at_builtin; refine appendC (unhide M2) (unhide HLT) (by omega) rfl _ _ rfl rfl rfl ?_)
          intro v' w3 m3
          have M3 := hide m3
          clear m3 M2
          go_wp2
          go_roundw
          case rel => exact ⟨k + 1, M ++ [(k : Int) + 1], by omega, by go_num, by simp; omega, M3⟩
          case measure => simp [intOf]; omega
        · have hx0' : (x == 0) = false := by simpa using hx0
          by_cases hx1 : x = 1
          · subst hx1
            go_wp2_with (at_builtin; refine appendC (unhide M2) (unhide HLT) (by omega) rfl _ _ rfl rfl rfl ?_)
            intro v' w3 m3
            have M3 := hide m3
            clear m3 M2
            go_wp2
            go_roundw
            case rel => exact ⟨k + 1, M ++ [-((k : Int) + 1)], by omega, by go_num, by simp; omega, M3⟩
            case measure => simp [intOf]; omega
          · have hx1' : (x == 1) = false := by simpa using hx1
            go_wp2
            go_roundw
            case rel => exact ⟨k + 1, M, by omega, by go_num, by omega, M2⟩
            case measure => simp [intOf]; omega
      · have h2' : decide ((k : Int) + 1 < 9) = false := decide_eq_false (by omega)
        have CO := hide (draw.once c 16 _ (unhide hm).2.2 (by decide) (by decide))
        go_wp2_with fail
        refine (unhide CO).mono ?_; rintro e w2 ⟨b, rfl, hc2, g2⟩
        have M2 := hide ((unhide hm).turn (unhide HLT) g2 hc2)
        clear CO hm hc2 g2 y0 y1 F1
        cases b
        · go_wp2
          go_ret
          exact ⟨_, M, rfl, by omega, lowC (unhide G0) (unhide M2)⟩
        · have CL := hide (draw.lit c 7 _ (unhide M2).2.2 (by decide) (by decide))
          go_wp2_with fail
          refine (unhide CL).mono ?_; rintro e w3 ⟨x, rfl, x0, hc3, g3⟩
          have M3 := hide ((unhide M2).turn (unhide HLT) g3 hc3)
          clear CL M2 hc3 g3
          go_wp2_with (at_builtin; refine appendC (unhide M3) (unhide HLT) (by omega) rfl _ _ rfl rfl rfl ?_)
          intro v' w4 m4
          have M4 := hide (lowC (unhide G0) m4)
          clear m4 M3
          go_wp2
          go_ret
          exact ⟨_, M ++ [x], rfl, by simp; omega, unhide M4⟩
    · have h1' : decide ((k : Int) + 1 ≤ n) = false := decide_eq_false h1
      have CO := hide (draw.once c 16 _ (unhide hm).2.2 (by decide) (by decide))
      go_wp2_with fail
      refine (unhide CO).mono ?_; rintro e w2 ⟨b, rfl, hc2, g2⟩
      have M2 := hide ((unhide hm).turn (unhide HLT) g2 hc2)
      clear CO hm hc2 g2 y0 y1 F1
      cases b
      · go_wp2
        go_ret
        exact ⟨_, M, rfl, by omega, lowC (unhide G0) (unhide M2)⟩
      · have CL := hide (draw.lit c 7 _ (unhide M2).2.2 (by decide) (by decide))
        go_wp2_with fail
        refine (unhide CL).mono ?_; rintro e w3 ⟨x, rfl, x0, hc3, g3⟩
        have M3 := hide ((unhide M2).turn (unhide HLT) g3 hc3)
        clear CL M2 hc3 g3
        go_wp2_with (at_builtin; refine appendC (unhide M3) (unhide HLT) (by omega) rfl _ _ rfl rfl rfl ?_)
        intro v' w4 m4
        have M4 := hide (lowC (unhide G0) m4)
        clear m4 M3
        go_wp2
        go_ret
        exact ⟨_, M ++ [x], rfl, by simp; omega, unhide M4⟩

set_option maxHeartbeats 1600000 in
theorem pair (a : Option Addr) (n cap : Nat) (w : World) (hn : n ≤ 1048576) (hB : Bs w a n) :
    Calls Tryd.prog 76 #[.slice a n cap] w fun e w' => ∃ (k : Int) (v u : Value) (L : List Int) (M : List (List Int)), e = .returned (.tuple #[.agg #[.int .i64 k, v], u]) ∧ L.length ≤ 49 ∧ (∃ mid, Own mid w'.heap.size w' u L ∧ OwnS w.heap.size mid w' v M ∧ w.heap.size ≤ mid) ∧ Bd k M 121 ∧ w.grownBy w' none := by
  have nc := newCur a n cap (w.alloc (.cells #[.int .i64 0, .slice none 0 0] 34)) hn (hB.below (below_of (World.grownBy_alloc w (.cells #[.int .i64 0, .slice none 0 0] 34) none)))
  simp only [World.size_alloc] at nc
  have NC := hide nc
  have R0 := hide (Box.new 34 w (.int .i64 0) (.slice none 0 0))
  clear hB nc
  go_enter Tryd.func76, Tryd.ntmps76
  go_wp2_with fail
  refine (unhide NC).mono ?_; rintro e w1 ⟨rfl, hc1, g1⟩
  have C1 := hide hc1
  have G1 := hide g1
  have R1 := hide ((unhide R0).kept g1)
  clear hc1 g1 NC R0
  go_wp2_with fail
  refine (dcn.any _ _ (unhide C1)).mono ?_; rintro e w2 ⟨k, v, M, rfl, bd, od, gd, cd⟩
  obtain ⟨va, vc, rfl⟩ := od.len
  have b5 := Box.new 34 w2 (.int .i64 k) (.slice va M.length vc)
  have gA := World.grownBy_alloc w2 (.cells #[.int .i64 k, .slice va M.length vc] 34)
  have CL := hide (taken (w.heap.size + 1) k (.slice va M.length vc) (w2.alloc (.cells #[.int .i64 k, .slice va M.length vc] 34)).drew ((cd.kept (gA none) (fun r e => by cases e)).kept (cf.grown_drew _ none) (fun r e => by cases e)) bd.1)
  have r2 := ((unhide R1).by gd (fun e => by simp at e)).kept (gA none)
  have R2 := hide r2
  have B5 := hide b5
  have OD := hide ((od.kept (gA none)))
  have GD := hide (grown_trans' (r := some (w.heap.size + 1)) gd (gA _))
  have BD := hide bd
  have hws : w.heap.size + 1 < w2.heap.size := cd.lt
  have rc0 := r2.c0
  have rc1 := r2.c1
  have rf0 := r2.f 0
  have rf1 := r2.f 1
  have y0 := b5.c0
  have y1 := b5.c1
  have TB := hide (fun (w4 : World) (g4 : (w2.alloc (.cells #[.int .i64 k, .slice va M.length vc] 34)).drew.grownBy w4 (some (w.heap.size + 1))) => And.intro (b5.by (grown_trans' (cf.grown_drew _ (some (w.heap.size + 1))) g4) (fun e => by simp at e; omega)) (And.intro (r2.by (grown_trans' (cf.grown_drew _ (some (w.heap.size + 1))) g4) (fun e => by simp at e)) (dcn.ownS_turn ((od.kept (gA none)).sub (lo' := w1.heap.size) (Nat.le_refl _) (Nat.le_refl _)) (unhide C1).lt (grown_trans' (cf.grown_drew _ (some (w.heap.size + 1))) g4))))
  have GA := hide (grown_trans (r := none) (World.grownBy_alloc w (.cells #[.int .i64 0, .slice none 0 0] 34) none) (unhide G1))
  clear r2 b5 od gd cd gA bd
  go_wp2_with fail
  go_region_with (go_at_call 122; refine (unhide CL).mono ?_; rintro e w4 ⟨u4, L, rfl, hL, m4⟩; obtain ⟨ua, uc, rfl⟩ := m4.form; obtain ⟨t5, t2, tq⟩ := unhide TB w4 m4.2.1; have z0 := t5.c0; have z1 := t5.c1; have q0 := t2.c0; have q1 := t2.c1; have q2 := t2.f 0; have q3 := t2.f 1; have T2 := hide t2; have TO := hide tq; have G4 := hide m4.2.1; have OU := hide m4.1; have HL := hide hL; clear t5 t2 tq m4 hL)
  all_goals
    go_wp2_with fail
    (try simp only [Exit.inBlock, Exit.then])
    have gw := grown_new (unhide GA) (grown_trans' (unhide GD) (grown_trans' (cf.grown_drew _ (some (w.heap.size + 1))) (unhide G4))) (Nat.le_succ _)
    have os := gr.ownS_set (i := 1) (u := .slice va M.length vc) (gr.ownS_set (i := 0) (u := .int .i64 k) (unhide TO) (unhide T2)) ((unhide T2).set0 (.int .i64 k))
    have ou := gr.own_set (i := 1) (u := .slice va M.length vc) (gr.own_set (i := 0) (u := .int .i64 k) (unhide OU) gr.ty2 (unhide T2)) gr.ty2 ((unhide T2).set0 (.int .i64 k))
    have hz := (unhide G4).size
    rw [show (w2.alloc (.cells #[.int .i64 k, .slice va M.length vc] 34)).drew.heap.size = w2.heap.size + 1 from World.size_alloc ..] at hz ou
    refine bodyPost_ret (cf.ret_box2 rfl rfl (((unhide T2).set0 (.int .i64 k)).set1 (.slice va M.length vc))) rfl ⟨k, _, _, L, M, rfl, Nat.le_trans (unhide HL) (by decide), ⟨w2.heap.size + 1, sl.Own.of ou, ?_, ?_⟩, unhide BD, ?_⟩
    · exact os.sub (unhide GA).size (Nat.le_succ _)
    · omega
    · exact cf.grown_set (cf.grown_set gw (Nat.le_refl _)) (Nat.le_refl _)
end Go.Proofs.YtloenjaonkdlaaaDoor.dl
