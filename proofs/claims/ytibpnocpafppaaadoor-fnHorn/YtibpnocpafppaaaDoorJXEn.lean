/- What FnHorn draws: a formula of few clauses, whatever the bytes. -/
import Derived.Test.YtibpnocpafppaaaDoorJXDf
import Derived.Test.YtibpnocpafppaaaDoorJXGf
namespace Go.Proofs.YtibpnocpafppaaaDoor.en
open Go.ChangeShapes Go.WideShapes Go.ChangeAt Go.RowKit
open sl (Sl Own ints hide unhide grown_refl grown_trans grown_trans' below_of grown_drewN)
open css (Sls OwnS tot)
open cf (Box)
open draw (Cur Bs I64 newCur grown_new)
open dcn (Bd)
open ge (Ex OwnD)
set_option linter.unusedVariables false
def Shp (M MM : List (List Int)) : Prop := MM.length = M.length ∧ ∀ i, (MM.getD i []).length = (M.getD i []).length
theorem Shp.refl (M : List (List Int)) : Shp M M := ⟨rfl, fun _ => rfl⟩
theorem Shp.set {M MM : List (List Int)} (h : Shp M MM) (k j : Nat) (y : Int) : Shp M (MM.set k ((MM.getD k []).set j y)) := by
 refine ⟨by rw [List.length_set]; exact h.1, fun i => ?_⟩
 rw [← h.2 i]
 simp only [List.getD, List.getElem?_set]
 by_cases e : k = i
 ·subst e
  by_cases hl : k < MM.length
  ·simp [hl]
  ·simp [hl]
 ·simp [e]
theorem Shp.tot {M MM : List (List Int)} (h : Shp M MM) : tot MM = tot M := by
 have e : MM.map List.length = M.map List.length := by
  apply List.ext_getElem?
  intro i
  rw [List.getElem?_map, List.getElem?_map]
  have h2 := h.2 i
  by_cases hi : i < M.length
  ·have hi2 : i < MM.length := by rw [h.1]; exact hi
   rw [List.getElem?_eq_getElem hi, List.getElem?_eq_getElem hi2]
   simp only [List.getD, List.getElem?_eq_getElem hi, List.getElem?_eq_getElem hi2, Option.getD_some] at h2
   simp [h2]
  ·have a : M[i]? = none := List.getElem?_eq_none (by omega)
   have b : MM[i]? = none := List.getElem?_eq_none (by rw [h.1]; omega)
   rw [a, b]
 unfold css.tot
 rw [e, h.1]
theorem Ex.kept {W wr w1 : World} {c r : Nat} {n : Int} {v : Value} {U : List Value} {MM : List (List Int)} (h : Ex W wr c r n v U MM) (g : wr.grownBy w1 none) : Ex W w1 c r n v U MM := by
 obtain ⟨D, e1, e2, h1, h2, h3, h4⟩ := h.o
 refine ⟨grown_trans h.g g, h.lc, h.lr, h.ne, h.b.kept g, h.br.kept g, D, e1, e2, ?_, fun k e => Nat.lt_of_lt_of_le (h2 k e) g.size, fun p hp => ⟨?_, fun k e => Nat.lt_of_lt_of_le ((h3 p hp).2 k e) g.size⟩, h4⟩
 ·exact h1.kept g (by
   cases v.ownBlock with
   | none => exact .inl rfl
   | some k => exact .inr (fun e => by cases e))
 ·exact (h3 p hp).1.kept g (by
   cases p.1.ownBlock with
   | none => exact .inl rfl
   | some k => exact .inr (fun e => by cases e))
def GotH (w : World) (e : Ending) (w' : World) : Prop := ∃ (k : Int) (v : Value) (M : List (List Int)), e = .returned (.agg #[.int .i64 k, v]) ∧ (-1 ≤ k ∧ k ≤ 25) ∧ tot M ≤ 6050 ∧ OwnS w.heap.size w'.heap.size w' v M ∧ w.grownBy w' none
def ExH (w wr : World) (c : Nat) (k : Int) (v : Value) (U : List Value) (M : List (List Int)) : Prop := ∃ MM, Ex w wr c w.heap.size k v U MM ∧ Shp M MM
set_option maxRecDepth 10000 in
set_option maxHeartbeats 4000000 in
theorem drawHorn (a : Option Addr) (n cap : Nat) (w : World) (hn : n ≤ 1048576) (hB : Bs w a n) :
  Calls Tryd.prog 34 #[.slice a n cap] w fun e w' => GotH w e w' := by
 have nc := newCur a n cap (w.alloc (.cells #[.int .i64 0, .slice none 0 0] 26)) hn (hB.below (below_of (World.grownBy_alloc w (.cells #[.int .i64 0, .slice none 0 0] 26) none)))
 simp only [World.size_alloc] at nc
 have NC := hide nc
 have R0 := hide (Box.new 26 w (.int .i64 0) (.slice none 0 0))
 clear hB nc
 go_enter Tryd.func34, Tryd.ntmps34
 go_wp2_with fail
 refine (unhide NC).mono ?_; rintro e w1 ⟨rfl, hc1, g1⟩
 have C1 := hide hc1
 have G1 := hide g1
 have R1 := hide ((unhide R0).kept g1)
 clear hc1 g1 NC R0
 go_wp2_with fail
 refine (dcn.any _ _ (unhide C1)).mono ?_; rintro e w2 ⟨k, v, M, rfl, bd, od, gd, cd⟩
 obtain ⟨va, vc, rfl⟩ := od.len
 have b5 := Box.new 26 w2 (.int .i64 k) (.slice va M.length vc)
 have gA := World.grownBy_alloc w2 (.cells #[.int .i64 k, .slice va M.length vc] 26)
 have hws : w.heap.size + 1 < w2.heap.size := cd.lt
 have ON := hide (draw.once (w.heap.size + 1) 2 (w2.alloc (.cells #[.int .i64 k, .slice va M.length vc] 26)) (cd.kept (gA none) (fun r e => by cases e)) (by decide) (by decide))
 have GA := hide (grown_trans (r := none) (World.grownBy_alloc w (.cells #[.int .i64 0, .slice none 0 0] 26) none) (unhide G1))
 have r2 := ((unhide R1).by gd (fun e => by simp at e)).kept (gA none)
 have TB := hide (fun (w4 : World) (g4 : (w2.alloc (.cells #[.int .i64 k, .slice va M.length vc] 26)).grownBy w4 (some (w.heap.size + 1))) => show ∃ U, Ex w w4 w2.heap.size w.heap.size k (.slice va M.length vc) U M by
  obtain ⟨D, e, hD⟩ := OwnD.of ((dcn.ownS_turn ((od.kept (gA none)).sub (lo' := w1.heap.size) (Nat.le_refl _) (Nat.le_refl _)) (unhide C1).lt g4).sub (unhide GA).size (hi' := w4.heap.size) (by have := g4.size; rw [World.size_alloc] at this; omega))
  have gg := grown_new (unhide GA) (grown_trans' (grown_trans' gd (gA _)) g4) (Nat.le_succ _)
  exact ⟨D.map (·.1), gg, by omega, Nat.le_refl _, by omega, b5.by g4 (fun e => by simp at e; omega), r2.by g4 (fun e => by simp at e), D, rfl, e, hD⟩)
 have TM := hide (df.tot_bd bd (Nat.le_refl _))
 have BK := hide bd.1
 have hM : M.length ≤ 121 := bd.2.1
 have hML := hide bd.2.2.1
 have x0 := b5.c0
 have x1 := b5.c1
 generalize hc : w2.heap.size = c at *
 clear b5 od gd cd gA bd r2 hws
 go_wp2_with fail
 refine (unhide ON).mono ?_; rintro e w4 ⟨b, rfl, c4, g4⟩
 obtain ⟨U, hE⟩ := unhide TB w4 g4
 clear x0 x1 hc c4 g4 TB ON
 cases b
 ·have z0 := hE.b.c0
  have z1 := hE.b.c1
  have y0 := hE.br.c0
  have y1 := hE.br.c1
  have y2 := hE.br.f 0
  have y3 := hE.br.f 1
  have H9 := hide hE.fin
  have nn := hE.ne
  clear hE
  go_wp2_with fail
  (try simp only [Exit.inBlock, Exit.then])
  obtain ⟨f1, f2, f3⟩ := unhide H9
  exact bodyPost_ret (cf.ret_box rfl rfl f1) rfl ⟨k, _, M, rfl, unhide BK, unhide TM, f3, f2⟩
 ·have ST : Hid (ExH w w4 c k (.slice va M.length vc) U M) := ⟨M, hE, Shp.refl M⟩
  clear hE
  have SP := hide (fun (MM : List (List Int)) (h : Shp M MM) => And.intro h.1 (fun i => (show (MM.getD i []).length = (M.getD i []).length from h.2 i)))
  go_wp2_with fail
  go_loopw [5] (fun i wr => ∃ t : Nat, t ≤ M.length ∧ i = .int .i64 t ∧ Hid (ExH w wr c k (.slice va M.length vc) U M)) (fun i _ => M.length - (intOf i).toNat)
  case atStart => exact ⟨0, Nat.zero_le _, rfl, ST⟩
  case round =>
   obtain ⟨t, ht, rfl, hm⟩ := hrel
   clear ST
   obtain ⟨MM, hE, hS⟩ := unhide hm
   have z0 := hE.b.c0
   have z1 := hE.b.c1
   by_cases hlt : t < M.length
   ·have hi' : (t : Int) < (M.length : Int) := by omega
    obtain ⟨ua, ur, hU⟩ : ∃ ua ur, U[t]? = some (.slice ua (M.getD t []).length ur) := by
     obtain ⟨b, cp, u, _, _, hU, ua, ur, rfl⟩ := hE.row t (by rw [hS.1]; exact hlt)
     rw [hS.2 t] at hU
     exact ⟨ua, ur, hU⟩
    have HU := hide hU
    have hL : (M.getD t []).length ≤ 49 := by
     rw [show M.getD t [] = M[t] by simp [hlt]]
     exact unhide hML _ (List.getElem_mem hlt)
    generalize hC : (M.getD t []).length = C at *
    have HC := hide hC
    clear hE hS hU hC
    go_wp2_with fail
    go_loopw [6] (fun i wx => ∃ j : Nat, (1 ≤ j ∧ j ≤ 50) ∧ i = .int .i64 j ∧ Hid (ExH w wx c k (.slice va M.length vc) U M)) (fun i _ => 50 - (intOf i).toNat)
    case atStart => exact ⟨1, by decide, rfl, hm⟩
    case round =>
     obtain ⟨j, hj, rfl, hm⟩ := hrel
     clear z0 z1
     obtain ⟨MM, hE, hS⟩ := unhide hm
     have z0 := hE.b.c0
     have z1 := hE.b.c1
     obtain ⟨b, cp, u, ev, c1, hU, _⟩ := hE.row t (by rw [hS.1]; exact hlt)
     rw [hS.1] at ev
     simp only [Value.slice.injEq] at ev
     obtain ⟨rfl, _, rfl⟩ := ev
     rw [unhide HU] at hU
     cases hU
     by_cases hjl : j < C
     ·have hj' : (j : Int) < (C : Int) := by omega
      obtain ⟨g, ca, e3, c2, f2, _⟩ := hE.put t j (by rw [hS.1]; exact hlt) (by rw [hS.2 t, unhide HC]; exact hjl) _ (unhide HU)
      rw [hS.2 t, unhide HC] at e3
      simp only [Value.slice.injEq] at e3
      obtain ⟨rfl, _, rfl⟩ := e3
      have NX := hide (fun (q : Nat) (y : Int) => show ExH w ((wr.drewN q).setCell ⟨g, j, none⟩ (.int .i64 y)) c k (.slice (some ⟨b, 0, none⟩) M.length vc) U M by
       have hE2 := Ex.kept hE (grown_drewN wr q)
       obtain ⟨g', ca', e4, _, _, nx⟩ := hE2.put t j (by rw [hS.1]; exact hlt) (by rw [hS.2 t, unhide HC]; exact hjl) _ (unhide HU)
       simp only [Value.slice.injEq, Option.some.injEq, Addr.mk.injEq] at e4
       obtain ⟨⟨rfl, _⟩, _⟩ := e4
       exact ⟨_, nx y, hS.set t j y⟩)
      generalize (MM.getD t []).getD j 0 = x at *
      clear hE hS
      by_cases hx : 0 < x
      ·go_wp2_with fail
       go_region
       all_goals
        go_wp2_with fail
        go_roundw
        case rel => exact ⟨j + 1, by omega, by go_num, unhide NX 1 _⟩
        case measure => simp [intOf]; omega
      ·go_wp2_with fail
       go_roundw
       case rel => exact ⟨j + 1, by omega, by go_num, hm⟩
       case measure => simp [intOf]; omega
     ·have hj' : ¬ (j : Int) < (C : Int) := by omega
      clear hE hS
      go_wp2_with fail
      go_roundw
      case rel => exact ⟨t + 1, by omega, by go_num, hm⟩
      case measure => simp [intOf]; omega
   ·have hi' : ¬ (t : Int) < (M.length : Int) := by omega
    have y0 := hE.br.c0
    have y1 := hE.br.c1
    have y2 := hE.br.f 0
    have y3 := hE.br.f 1
    have H9 := hide hE.fin
    have TM2 := hide (show tot MM ≤ 6050 by rw [hS.tot]; exact unhide TM)
    have nn := hE.ne
    clear hE hm hS
    go_wp2_with fail
    (try simp only [Exit.inBlock, Exit.then])
    obtain ⟨f1, f2, f3⟩ := unhide H9
    exact bodyPost_ret (cf.ret_box rfl rfl f1) rfl ⟨k, _, MM, rfl, unhide BK, unhide TM2, f3, f2⟩
end Go.Proofs.YtibpnocpafppaaaDoor.en
