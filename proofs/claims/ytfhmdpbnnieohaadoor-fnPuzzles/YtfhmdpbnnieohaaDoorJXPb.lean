/- What the law of puzzles draws: a number of points, edges in memory of the call's own, a number of colours; whatever the bytes. -/
import Derived.Test.YtfhmdpbnnieohaaDoorJXDraw
import Derived.Test.YtfhmdpbnnieohaaDoorJPn
import Derived.Test.YtfhmdpbnnieohaaDoorJPv
namespace Go.Proofs.YtfhmdpbnnieohaaDoor.pd
open Go.ChangeShapes Go.WideShapes Go.ChangeAt Go.RowKit
open sl (Sl ints hide unhide grown_refl grown_trans grown_trans' of_below below_of grown_drewN)
open draw (Cur Bs newCur grown_new)
open ed (Eds OwnE cellsE cellsE_same infoE)
set_option linter.unusedVariables false
def more (f : Nat → Int) (n : Nat) (x y : Int) (i : Nat) : Int := if i = n * 2 then x else if i = n * 2 + 1 then y else f i
theorem cells_more (f : Nat → Int) (n : Nat) (x y : Int) : cellsE (more f n x y) (n + 1) = cellsE f n ++ [.int .i64 x, .int .i64 y] := by
 have e : cellsE (more f n x y) n = cellsE f n := cellsE_same fun m hm => by
  unfold more
  rw [if_neg (by omega), if_neg (by omega)]
 rw [← e]
 unfold ed.cellsE
 rw [show (n + 1) * 2 = n * 2 + 1 + 1 by omega, List.range_succ, List.range_succ, List.map_append, List.map_append, List.append_assoc]
 congr 1
 show [Value.int .i64 (more f n x y (n * 2)), Value.int .i64 (more f n x y (n * 2 + 1))] = _
 unfold more
 rw [if_pos rfl, if_neg (by omega), if_pos rfl]
def MadeP (c : Nat) (w w1 : World) (v : Value) (n : Nat) (f : Nat → Int) : Prop := w1.ownsRow w.heap.size 41 2 v n (cellsE f n) ∧ w.grownBy w1 (some c) ∧ Cur w1 c
theorem MadeP.form {c : Nat} {w w1 : World} {v : Value} {n : Nat} {f : Nat → Int} (h : MadeP c w w1 v n f) : ∃ a cap, v = .slice a n cap := by
 have q : OwnE w.heap.size w1.heap.size w1 v n f := ⟨h.1, fun k e => (h.1.lt k e).2⟩
 exact q.len
theorem MadeP.turn {c : Nat} {w wr w1 : World} {v : Value} {n : Nat} {f : Nat → Int} (h : MadeP c w wr v n f) (hc : c < w.heap.size) (g : wr.grownBy w1 (some c)) (hcur : Cur w1 c) : MadeP c w w1 v n f := by
 refine ⟨h.1.kept g (.inr (fun e => ?_)), grown_trans' h.2.1 g, hcur⟩
 have := (h.1.lt c e).1
 omega
theorem MadeP.start (c : Nat) (w : World) (h : Cur w c) : MadeP c w (w.alloc (.cells #[] 41)) (.slice (some ⟨w.heap.size, 0, none⟩) 0 0) 0 (fun _ => 0) := by
 refine ⟨⟨rfl, .inr ⟨w.heap.size, 0, #[], rfl, Nat.le_refl _, Go.heap_alloc_new w _, ?_⟩⟩, World.grownBy_alloc _ _ _, h.kept (World.grownBy_alloc w _ none) (fun r e => by cases e)⟩
 simp [ed.cellsE]
theorem MadeP.grow {c : Nat} {w wr w1 : World} {v v' : Value} {n : Nat} {f : Nat → Int} {x y : Int} {o : Obj} (h : MadeP c w wr v n f) (hc : c < w.heap.size)
  (hown' : w1.ownsRow w.heap.size 41 2 v' (n + 1) (cellsE f n ++ [.int .i64 x, .int .i64 y])) (hgrow : (wr.alloc o).grownBy w1 v.ownBlock) : MadeP c w w1 v' (n + 1) (more f n x y) := by
 obtain ⟨hown, hg, hcur⟩ := h
 refine ⟨?_, ⟨hgrow.os.trans hg.os, hgrow.tape.trans hg.tape, hgrow.output.trans hg.output, ?_, fun k hk hne => ?_⟩, ?_⟩
 ·rw [cells_more]
  exact hown'
 ·have h1 := hgrow.size
  have h2 := hg.size
  simp at h1
  omega
 ·have h2 := hg.size
  rw [hgrow.block k (by simp; omega) ?_, Below.heap_alloc _ _ _ (by omega)]
  ·exact hg.block k hk hne
  ·intro e
   have := (hown.lt k e.symm).1
   omega
 ·refine (hcur.kept (World.grownBy_alloc wr o none) (fun r e => by cases e)).kept hgrow (fun r e => ?_)
  have := (hown.lt r e).1
  omega
theorem appendP {ops : Array Oper} {rest : List Oper} {o : Oper} {a : Act} {Q : Exit → Act → World → Prop} {c : Nat} {w wr : World} {v : Value} {n : Nat} {f : Nat → Int} {x y : Int}
  (hm : MadeP c w wr v n f) (hc : c < w.heap.size) (hM : n ≤ 1048576) (hgd : o.guard = none) (s p : Operand)
  (ho : o.op = .call { callee := .builtin .append, args := #[s, p], argTypes := #[36, 36] }) (hs : a.eval s = v) (hx : a.eval p = .slice (some ⟨wr.heap.size, 0, none⟩) 1 1)
  (h : ∀ v' w1, MadeP c w w1 v' (n + 1) (more f n x y) → wpList Tryd.prog ops Q rest (a.put o.dst v') w1) :
  wpList Tryd.prog ops Q (o :: rest) a (wr.alloc (.cells #[.int .i64 x, .int .i64 y] 41)) := by
 obtain ⟨i0, hi, hz0, hz1, hz2⟩ := info_parts infoE
 have hown := hm.1
 have hsz := hm.2.1.size
 refine wpList_append_own _ hgd s p 36 ho w.heap.size 41 i0 (.agg #[.int .i64 0, .int .i64 0]) 2 16 Tryd.underlying36 hi hz0 hz1 hz2 rfl (by decide) v n (cellsE f n) hs (hown.alloc _) ⟨wr.heap.size, 0, none⟩ 1 1 [.int .i64 x, .int .i64 y] hx rfl ?_ ?_ ?_ ?_ ?_ ?_
 ·intro j u hj
  match j, hj with
  | 0, hj => simp at hj; subst hj; simp [Addr.add]
  | 1, hj => simp at hj; subst hj; simp [Addr.add]
 ·intro u hu
  simp only [List.mem_cons, List.not_mem_nil, or_false] at hu
  rcases hu with rfl | rfl <;> rfl
 ·unfold maxLen
  omega
 ·omega
 ·simp
  omega
 ·intro v' w1 hown' hgrow _
  exact h v' w1 (hm.grow hc hown' hgrow)
def DrawE (w : World) (e : Ending) (w' : World) : Prop := ∃ (m k : Int) (v : Value) (E : Nat) (f : Nat → Int), e = .returned (.tuple #[.int .i64 m, v, .int .i64 k]) ∧ E ≤ 9 ∧ (0 ≤ m ∧ m ≤ 13) ∧ (0 ≤ k ∧ k ≤ 7) ∧ Eds w' v E f ∧ w.grownBy w' none
theorem drawE_of {w wc w' : World} {v : Value} {m k : Int} {E : Nat} {f : Nat → Int} (g : w.grownBy wc none) (h : MadeP w.heap.size wc w' v E f) (hE : E ≤ 9) (hm : 0 ≤ m ∧ m ≤ 13) (hk : 0 ≤ k ∧ k ≤ 7) : DrawE w (.returned (.tuple #[.int .i64 m, v, .int .i64 k])) w' := by
 have q : OwnE wc.heap.size w'.heap.size w' v E f := ⟨h.1, fun k e => (h.1.lt k e).2⟩
 exact ⟨m, k, v, E, f, rfl, hE, hm, hk, q.eds, grown_new g h.2.1 (Nat.le_refl _)⟩
theorem pick_own (w : World) (L : List Int) (hL : L.length ≤ 1048576) : Sl (w.alloc (.cells (ints L).toArray 3)) (.slice (some ⟨w.heap.size, 0, none⟩) L.length L.length) L := sl.Sl.of_own (draw.own_alloc w L (by unfold maxLen; omega))
set_option maxRecDepth 10000 in
set_option maxHeartbeats 8000000 in
theorem drawColor (a : Option Addr) (n cap : Nat) (w : World) (hn : n ≤ 1048576) (hB : Bs w a n) :
  Calls Tryd.prog 10 #[.slice a n cap] w fun e w' => DrawE w e w' := by
 have NC := hide (newCur a n cap w hn hB)
 clear hB
 go_enter Tryd.func10, Tryd.ntmps10
 go_wp2_with fail
 refine (unhide NC).mono ?_; rintro e w1 ⟨rfl, hc1, g1⟩
 have hlt1 : w.heap.size < w1.heap.size := hc1.lt
 have G1 := hide g1
 have HC1 := hide hc1
 clear NC g1 hc1 hn
 go_wp2_with fail
 refine (draw.below _ 5 w1 (unhide HC1) (by decide) (by decide)).mono ?_; rintro e w2 ⟨y2, rfl, y20, y21, hc2, g2⟩
 have G2 := hide (grown_new (unhide G1) g2 (Nat.le_refl _))
 have HC2 := hide hc2
 have hlt2 : w.heap.size < w2.heap.size := hc2.lt
 clear hc2 g2 HC1 G1 hlt1
 go_wp2_with fail
 refine (draw.below _ 3 w2 (unhide HC2) (by decide) (by decide)).mono ?_; rintro e w3 ⟨y3, rfl, y30, y31, hc3, g3⟩
 have G3 := hide (grown_new (unhide G2) g3 (Nat.le_refl _))
 have hlt : w.heap.size < w3.heap.size := hc3.lt
 have M3 := hide (MadeP.start _ w3 hc3)
 clear hc3 g3 HC2 G2 hlt2
 have hk : 0 ≤ 1 + y3 ∧ 1 + y3 ≤ 7 := by omega
 have hm : 1 ≤ 1 + y2 ∧ 1 + y2 ≤ 5 := by omega
 go_wp2_with fail
 generalize 1 + y3 = k at *
 generalize 1 + y2 = m at *
 clear y20 y21 y30 y31
 refine (draw.below _ 8 _ (unhide M3).2.2 (by decide) (by decide)).mono ?_; rintro e w4 ⟨q, rfl, q0, q1, hc4, g4⟩
 have M4 := hide ((unhide M3).turn hlt g4 hc4)
 clear hc4 g4 M3
 obtain ⟨Q, rfl⟩ := Int.eq_ofNat_of_zero_le q0
 obtain ⟨hm0, hm1⟩ := hm
 go_wp2_with fail
 go_loopw [8, 10] (fun u i wr => ∃ (j E : Nat) (f : Nat → Int), j ≤ Q ∧ E ≤ j ∧ i = .int .i64 (j : Int) ∧ Hid (MadeP w.heap.size w3 wr u E f)) (fun _ i _ => Q - (intOf i).toNat)
 case atStart => exact ⟨0, 0, _, Nat.zero_le _, Nat.le_refl _, rfl, M4⟩
 case round =>
  obtain ⟨j, E, f, hj, hE, rfl, HM⟩ := hrel
  clear M4
  obtain ⟨ua, uc, rfl⟩ := (unhide HM).form
  by_cases hlt' : j < Q
  ·have hi : (j : Int) < (Q : Int) := by omega
   go_wp2_with fail
   refine (draw.below _ m _ (unhide HM).2.2 (by omega) (by omega)).mono ?_; rintro e w5 ⟨y5, rfl, y50, y51, hc5, g5⟩
   have HM5 := hide ((unhide HM).turn hlt g5 hc5)
   clear hc5 g5 HM
   go_wp2_with fail
   refine (draw.below _ m _ (unhide HM5).2.2 (by omega) (by omega)).mono ?_; rintro e w6 ⟨y6, rfl, y60, y61, hc6, g6⟩
   have HM6 := hide ((unhide HM5).turn hlt g6 hc6)
   clear hc6 g6 HM5
   by_cases hne : y5 = y6
   ·subst hne
    have hx : ((1 + y5 : Int) != 1 + y5) = false := by simp
    go_wp2_with fail
    refine (draw.once _ _ _ (unhide HM6).2.2 (by decide) (by decide)).mono ?_; rintro e w7 ⟨b7, rfl, hc7, g7⟩
    have HM7 := hide ((unhide HM6).turn hlt g7 hc7)
    clear hc7 g7 HM6
    cases b7
    ·go_wp2_with fail
     go_roundw
     case rel => exact ⟨j + 1, E, f, by omega, by omega, by go_num, HM7⟩
     case measure => simp [intOf]; omega
    ·go_wp2_with (at_builtin; refine appendP (unhide HM7) hlt (by omega) rfl _ _ rfl rfl rfl ?_)
     intro v' w8 R
     have R8 := hide R
     clear HM7 R
     go_wp2
     go_roundw
     case rel => exact ⟨j + 1, E + 1, _, by omega, by omega, by go_num, R8⟩
     case measure => simp [intOf]; omega
   ·have hx : ((1 + y5 : Int) != 1 + y6) = true := by simp; omega
    go_wp2_with (at_builtin; refine appendP (unhide HM6) hlt (by omega) rfl _ _ rfl rfl rfl ?_)
    intro v' w8 R
    have R8 := hide R
    clear HM6 R
    go_wp2
    go_roundw
    case rel => exact ⟨j + 1, E + 1, _, by omega, by omega, by go_num, R8⟩
    case measure => simp [intOf]; omega
  ·have hi : ¬ (j : Int) < (Q : Int) := by omega
   have hE8 : E ≤ 8 := by omega
   clear hlt' hj hE q0 q1
   go_wp2_with fail
   refine (draw.below _ 14 _ (unhide HM).2.2 (by decide) (by decide)).mono ?_; rintro e w5 ⟨x, rfl, x0, x1, hc5, g5⟩
   have HM5 := hide ((unhide HM).turn hlt g5 hc5)
   clear hc5 g5 HM hi
   have G5 := hide (unhide G3)
   have HK := hide hk
   have HMM := hide (show 0 ≤ m ∧ m ≤ 13 by omega)
   by_cases e0 : x = 0
   ·subst e0
    clear x0 x1
    go_wp2_with fail
    refine (draw.pickInt _ _ [0, 13, 12, 8] _ ((unhide HM5).2.2.kept (World.grownBy_alloc _ _ none) (fun r e => by cases e)) (by decide) (by decide) (pick_own w5 [0, 13, 12, 8] (by decide)) (fun k e => ?_)).mono ?_
    ·cases e
     exact (unhide HM5).2.2.lt
    rintro e w6 ⟨m2, rfl, hm2, hc6, g6⟩
    have HM6 := hide (((unhide HM5).turn hlt (World.grownBy_alloc w5 _ _) ((unhide HM5).2.2.kept (World.grownBy_alloc _ _ none) (fun r e => by cases e))).turn hlt g6 hc6)
    have HM2 : Hid (0 ≤ m2 ∧ m2 ≤ 13) := by simp at hm2; show _ ∧ _; omega
    clear hc6 g6 hm2 HM5
    go_wp2_with fail
    refine bodyPost_ret (results_tmp3 rfl _ _ _) rfl ?_
    exact drawE_of (unhide G5) (unhide HM6) (by omega) (unhide HM2) (unhide HK)
   ·by_cases e1 : x = 1
    ·subst e1
     clear x0 x1 e0
     go_wp2_with fail
     refine (draw.pickInt _ _ [0, 7, 6] _ ((unhide HM5).2.2.kept (World.grownBy_alloc _ _ none) (fun r e => by cases e)) (by decide) (by decide) (pick_own w5 [0, 7, 6] (by decide)) (fun k e => ?_)).mono ?_
     ·cases e
      exact (unhide HM5).2.2.lt
     rintro e w6 ⟨m2, rfl, hm2, hc6, g6⟩
     have HM6 := hide (((unhide HM5).turn hlt (World.grownBy_alloc w5 _ _) ((unhide HM5).2.2.kept (World.grownBy_alloc _ _ none) (fun r e => by cases e))).turn hlt g6 hc6)
     have HM2 : Hid (0 ≤ m2 ∧ m2 ≤ 7) := by simp at hm2; show _ ∧ _; omega
     clear hc6 g6 hm2 HM5
     go_wp2_with fail
     refine bodyPost_ret (results_tmp3 rfl _ _ _) rfl ?_
     exact drawE_of (unhide G5) (unhide HM6) (by omega) (unhide HMM) (unhide HM2)
    ·by_cases e2 : x = 2
     ·subst e2
      clear x0 x1 e0 e1
      go_wp2_with (at_builtin; refine appendP (unhide HM5) hlt (by omega) rfl _ _ rfl rfl rfl ?_)
      intro v' w6 R
      obtain ⟨va, vc, rfl⟩ := R.form
      have R6 := hide R
      clear HM5 R
      go_wp2_with fail
      refine bodyPost_ret (results_tmp3 rfl _ _ _) rfl ?_
      exact drawE_of (unhide G5) (unhide R6) (by omega) (unhide HMM) (unhide HK)
     ·go_wp2_with fail
      refine bodyPost_ret (results_tmp3 rfl _ _ _) rfl ?_
      exact drawE_of (unhide G5) (unhide HM5) (by omega) (unhide HMM) (unhide HK)
end Go.Proofs.YtfhmdpbnnieohaaDoor.pd
