/- Groups of the program: what it answers at every formula that holds at most 2^20 values. -/
import Derived.Test.YtibpnocpafppaaaDoorFj
import Derived.Test.YtibpnocpafppaaaDoorGb
import Derived.Test.YtibpnocpafppaaaDoorGr
namespace Go.Proofs.YtibpnocpafppaaaDoor.fi
open Go.ChangeShapes Go.WideShapes Go.ChangeAt Go.RowKit
open Go.Proofs.YtibpnocpafppaaaDoor.lits (okB varI)
open Go.Proofs.YtibpnocpafppaaaDoor.sl (Sl Own ints hide unhide grown_refl grown_trans below_of of_below)
open Go.Proofs.YtibpnocpafppaaaDoor.css (Sls OwnS tot own_mono)
open Go.Proofs.YtibpnocpafppaaaDoor.cf (Box)
open Go.Proofs.YtibpnocpafppaaaDoor.ok (cnfB)
open Go.Proofs.YtibpnocpafppaaaDoor.bset (withN)
open Go.Proofs.YtibpnocpafppaaaDoor.srt (srt fstI Tab)
open Go.Proofs.YtibpnocpafppaaaDoor.fg
open Go.Proofs.YtibpnocpafppaaaDoor.fh
set_option linter.unusedVariables false
/-- a list of lists of the call's own -/
def GrpE (RR : List (List Int)) (w : World) (e : Ending) (w' : World) : Prop := ∃ u, e = .returned u ∧ OwnS w.heap.size w'.heap.size w' u RR ∧ w.grownBy w' none
theorem own_up {W wr w3 w4 : World} {v : Value} {M : List (List Int)} {o : Obj} (g0 : W.grownBy wr none) (h : OwnS W.heap.size wr.heap.size wr v M) (g3 : wr.grownBy w3 none) (g4 : (w3.alloc o).grownBy w4 v.ownBlock) : W.grownBy w4 none := by
  obtain ⟨D, _, ho, _⟩ := h
  have gA := grown_trans (r := none) (grown_trans (r := none) g0 g3) (World.grownBy_alloc w3 o none)
  exact ⟨g4.os.trans gA.os, g4.tape.trans gA.tape, g4.output.trans gA.output, Nat.le_trans gA.size g4.size, fun j hj _ => by
    rw [g4.block j (Nat.lt_of_lt_of_le hj gA.size) (fun e => by have := (ho.lt j e.symm).1; omega)]
    exact gA.block j hj (fun e => by cases e)⟩
theorem lab_ok {n : Nat} {LL : List (List Int)} (h : cnfB n LL = true) : ∀ i, i ≤ LL.length → Lab (lab LL i)
  | 0, _ => lab_id
  | i + 1, hi => by
    obtain ⟨_, _, H⟩ := in_bd h
    exact oT_lab (lab_ok h i (by omega)) (fun k hk => ((H i (by omega)).2 k hk).2.2.1) _ (Nat.le_refl _)
theorem lit_none (w : World) : OwnS w.heap.size (w.heap.size + 1) (w.alloc (.cells #[] 31)) (.slice (some ⟨w.heap.size, 0, none⟩) 0 0) [] :=
  ⟨[], rfl, World.ownsRow_lit w #[] 0 (Nat.le_refl _) (Nat.zero_le _) rfl, fun k e => by simp [Value.ownBlock] at e; omega, fun p hp => (List.not_mem_nil hp).elim, List.Pairwise.nil⟩
theorem mkS (n : Nat) (hn : n ≤ 1048576) (w : World) : (Instr.makeSlice 24 (.int .i64 0) (.int .i64 (n : Int))).run Tryd.prog w = .ok (.slice (some ⟨w.heap.size, 0, none⟩) 0 n) (w.alloc (.cells (madeCells #[.slice none 0 0] n) 31)) := by
  obtain ⟨i0, hi, hz0, hz1, hz2⟩ := info_parts css.infoSl
  have hr := run_make (P := Tryd.prog) w 24 31 i0 (.slice none 0 0) Tryd.underlying24 hi hz0 .i64 .i64 0 n (by decide) (by omega) (by rw [hz2]; omega) (by omega)
  rw [hz1, Nat.mul_one] at hr
  exact hr
theorem madeS (w : World) (n : Nat) (hn : n ≤ 1048576) : OwnS w.heap.size (w.heap.size + 1) (w.alloc (.cells (madeCells #[.slice none 0 0] n) 31)) (.slice (some ⟨w.heap.size, 0, none⟩) 0 n) [] :=
  ⟨[], rfl, World.ownsRow_made w _ n (Nat.le_refl _) (by unfold maxLen; omega) (by rw [size_madeCells, Nat.mul_one]), fun k e => by simp [Value.ownBlock] at e; omega, fun p hp => (List.not_mem_nil hp).elim, List.Pairwise.nil⟩
set_option maxRecDepth 10000 in
set_option maxHeartbeats 16000000 in
theorem implGroups (v : Value) (n : Int) (LL : List (List Int)) (w : World) (hT : Tab w) (hn : tot LL ≤ 1048576) (hv : Sls w v LL) :
    Calls Tryd.prog 29 #[.agg #[.int .i64 n, v]] w fun e w' => GrpE (grpL n LL) w e w' := by
  obtain ⟨W1, hW1⟩ : ∃ W1, W1 = w.alloc (.cells #[.int .i64 n, v] 26) := ⟨_, rfl⟩
  have g1 : w.grownBy W1 none := by rw [hW1]; exact World.grownBy_alloc _ _ _
  have B1 : Box 26 W1 w.heap.size (.int .i64 n) v := by rw [hW1]; exact Box.new _ _ _ _
  have CO := hide (ok.implCnfOk v n LL W1 hn (hv.kept g1))
  have GO0 := fun (N : Nat) (w2 : World) (g : W1.grownBy w2 none) (hB : cnfB (N : Int) LL = true) => groupsOf v N LL w2 ((hT.kept g1).kept g) hn hB ((hv.kept g1).kept g)
  have GO := hide GO0
  have HT := hide (hT.kept g1)
  have HB1 := hide B1
  have G1 := hide g1
  have x0 := B1.c0
  have x1 := B1.c1
  have HW1 := hide hW1
  obtain ⟨a, cap, rfl, _⟩ := hv
  clear g1 B1 hT GO0 hW1
  go_enter Tryd.func29, Tryd.ntmps29
  go_wp2_with fail
  rw [← unhide HW1]
  refine (unhide CO).mono ?_; rintro e w2 ⟨rfl, g2⟩
  have b2 := (unhide HB1).kept g2
  have y0 := b2.c0
  have y1 := b2.c1
  have HG2 := hide g2
  have HB2 := hide b2
  clear x0 x1 HW1 CO g2 b2
  cases hB : cnfB n LL
  · have E := hide (show grpL n LL = [] by unfold grpL; rw [hB]; rfl)
    clear hB
    go_wp2_with fail
    go_ret
    refine ⟨_, rfl, ?_, ?_⟩
    · rw [unhide E]
      exact (lit_none w2).sub (by have := (unhide G1).size; have := (unhide HG2).size; omega) (by rw [World.size_alloc]; exact Nat.le_refl _)
    · exact grown_trans (grown_trans (unhide G1) (unhide HG2)) (World.grownBy_alloc _ _ _)
  · have hN : 0 ≤ n ∧ n ≤ 24 := by
      unfold ok.cnfB at hB
      rw [Bool.and_eq_true, Bool.and_eq_true, decide_eq_true_eq] at hB
      exact hB.1.1
    obtain ⟨N, rfl⟩ := Int.eq_ofNat_of_zero_le hN.1
    have n24 : N ≤ 24 := by omega
    have LB := lab_ok hB LL.length (Nat.le_refl _)
    have E := hide (show grpL (N : Int) LL = outs (lab LL LL.length) N N by unfold grpL; rw [hB, Int.toNat_natCast]; rfl)
    have GO2 := hide (unhide GO N w2 (unhide HG2) hB)
    have HLB := hide LB
    clear hB hN LB GO
    generalize lab LL LL.length = o at *
    go_wp2_with fail
    refine (unhide GO2).mono ?_; rintro e w3 ⟨rfl, m, s3⟩
    have HS3 := hide s3
    have b3 := (unhide HB2).kept s3.g
    have z0 := b3.c0
    have HB3 := hide b3
    have MP := hide s3.mp
    have hlo : w2.heap.size + 1 < w3.heap.size := s3.mp.lt
    have mk := mkS N (by omega)
    have ga := World.grownBy_alloc w3 (.cells (madeCells #[.slice none 0 0] N) 31) none
    have o4 := (madeS w3 N (by omega)).sub (Nat.le_refl _) (show w3.heap.size + 1 ≤ (w3.alloc (.cells (madeCells #[.slice none 0 0] N) 31)).heap.size by rw [World.size_alloc]; exact Nat.le_refl _)
    have O4 := hide o4
    have GA := hide ga
    have HLO := hide hlo
    clear s3 b3 ga o4 hlo y0 y1 GO2
    go_wp2_with fail
    generalize hW4 : w3.alloc (.cells (madeCells #[.slice none 0 0] N) 31) = W4 at *
    clear hW4 mk z0
    have Z0 := hide (fun (wr : World) (g : w3.grownBy wr none) => ((unhide HB3).kept g).c0)
    go_loopw [4, 5] (fun u i wr => ∃ q : Nat, q ≤ N ∧ i = .int .i64 ((q : Int) + 1) ∧ Hid (w3.grownBy wr none) ∧ Hid (OwnS w3.heap.size wr.heap.size wr u (outs o N q))) (fun _ i _ => N + 1 - (intOf i).toNat)
    case atStart => exact ⟨0, by omega, rfl, GA, O4⟩
    case round =>
      obtain ⟨q, hq, rfl, hg, ho⟩ := hrel
      clear O4 GA
      have z0 := unhide Z0 _ (unhide hg)
      obtain ⟨ua, uc, eu⟩ := (unhide ho).len
      subst eu
      by_cases hlt : q < N
      · have hi' : (q : Int) + 1 ≤ (N : Int) := by omega
        have ml : allF o N ((q : Int) + 1) = wdo o N (q + 1) := by
          rw [show (q : Int) + 1 = ((q + 1 : Nat) : Int) from by omega]
          exact all_at (by omega) (by omega)
        have ws : 0 < wdo o N (q + 1) ∧ fstI (wdo o N (q + 1)) = (o (q + 1) : Int) := wd_first (unhide HLB) n24 (by omega) (by omega)
        have wl : wdo o N (q + 1) < 2 ^ 48 := wd_lt _ n24
        have el : srt (wdo o N (q + 1)) 48 = cl (fun u => decide (o u = o (q + 1))) N := wd_list _ n24
        have TK := ((unhide HT).kept (unhide HG2)).kept (grown_trans (r := none) (unhide HS3).g (unhide hg))
        have FC := srt.first (wdo o N (q + 1)) _ TK ws.1 wl
        have LC := srt.list (wdo o N (q + 1)) _ TK wl
        rw [ws.2, ← ml] at FC
        rw [el, ← ml] at LC
        have wr8 : IntKind.i8.wrap ((q : Int) + 1) = (q : Int) + 1 := by
          have key : ∀ y : Fin 25, IntKind.i8.wrap (y.val : Int) = (y.val : Int) := by decide
          have := key ⟨q + 1, by omega⟩
          rw [show ((q : Int) + 1) = ((q + 1 : Nat) : Int) from by omega]
          exact this
        have MQ := hide ((unhide MP).kept (unhide hg) (by simp))
        have ol := outs_len o N q
        clear ws wl el TK ml
        by_cases e : o (q + 1) = q + 1
        · have oy : outs o N (q + 1) = outs o N q ++ [cl (fun u => decide (o u = q + 1)) N] := by
            show outs o N q ++ (if o (q + 1) = q + 1 then [cl (fun u => decide (o u = q + 1)) N] else []) = _
            rw [if_pos e]
          rw [e, show ((q + 1 : Nat) : Int) = (q : Int) + 1 from by omega] at FC
          rw [e] at LC
          have FH := hide FC
          have LH := hide LC
          have OY := hide oy
          clear FC LC oy e
          generalize cl (fun u => decide (o u = q + 1)) N = L at *
          generalize outs o N q = M at *
          go_wp2_with (first | (at_lookup; refine look_law _ rfl _ _ rfl (w2.heap.size + 1) m (allF o N) ((q : Int) + 1) ⟨by omega, by omega⟩ rfl (unhide MQ) rfl ?_) | fail)
          refine (unhide FH).mono ?_; rintro e w5 ⟨rfl, hw⟩; have hw' := hw.symm; clear hw; subst hw'
          go_wp2_with (first | (at_lookup; refine look_law _ rfl _ _ rfl (w2.heap.size + 1) m (allF o N) ((q : Int) + 1) ⟨by omega, by omega⟩ rfl (unhide MQ) rfl ?_) | fail)
          refine (unhide LH).mono ?_; rintro e w5 ⟨r, rfl, o5, g5⟩
          obtain ⟨ra, rc, er, _⟩ := Sl.of_own o5
          subst er
          have HO := hide ((unhide ho).kept g5)
          have HR := hide (Own.of o5)
          have l1 : w3.heap.size ≤ _ := (unhide hg).size
          have l2 := g5.size
          have HG5 := hide g5
          clear o5 g5 FH LH z0
          go_wp2_with (first | (at_builtin; refine gr.appendR (unhide HO) (unhide HR) l1 l2 (by omega) rfl _ _ rfl rfl rfl ?_) | fail)
          intro g cap w6 o6 g6
          have HU : Hid (w3.grownBy w6 none) := own_up (unhide hg) (unhide ho) (unhide HG5) g6
          have HN : Hid (OwnS w3.heap.size w6.heap.size w6 (.slice (some ⟨g, 0, none⟩) (M.length + 1) cap) (outs o N (q + 1))) := by
            rw [unhide OY]
            exact o6
          have z1 := unhide Z0 _ (unhide HU)
          clear o6 g6 HO HR l1 l2 HG5 MQ ho hg
          go_wp2_with fail
          go_roundw
          case rel => exact ⟨q + 1, by omega, by go_num, HU, HN⟩
          case measure => simp [intOf]; omega
        · have on : outs o N (q + 1) = outs o N q := by
            show outs o N q ++ (if o (q + 1) = q + 1 then [cl (fun u => decide (o u = q + 1)) N] else []) = _
            rw [if_neg e, List.append_nil]
          have ne : ((o (q + 1) : Int) == (q : Int) + 1) = false := by
            rw [beq_eq_false_iff_ne]
            omega
          have FH := hide FC
          have HN : Hid (OwnS w3.heap.size wr.heap.size wr (.slice ua (outs o N q).length uc) (outs o N (q + 1))) := by
            rw [on]
            exact unhide ho
          clear FC LC on e
          generalize (o (q + 1) : Int) = z at *
          go_wp2_with (first | (at_lookup; refine look_law _ rfl _ _ rfl (w2.heap.size + 1) m (allF o N) ((q : Int) + 1) ⟨by omega, by omega⟩ rfl (unhide MQ) rfl ?_) | fail)
          refine (unhide FH).mono ?_; rintro e w5 ⟨rfl, hw⟩; have hw' := hw.symm; clear hw; subst hw'
          go_wp2_with fail
          go_roundw
          case rel => exact ⟨q + 1, by omega, by go_num, hg, HN⟩
          case measure => simp [intOf]; omega
      · have hi' : ¬ (q : Int) + 1 ≤ (N : Int) := by omega
        have eq : q = N := by omega
        subst eq
        clear MP HT Z0 HB1 HB2
        go_wp2_with fail
        go_ret
        refine ⟨_, rfl, ?_, ?_⟩
        · rw [unhide E]
          exact (unhide ho).sub (by have := (unhide G1).size; have := (unhide HG2).size; have := unhide HLO; omega) (Nat.le_refl _)
        · exact grown_trans (grown_trans (grown_trans (unhide G1) (unhide HG2)) (unhide HS3).g) (unhide hg)
end Go.Proofs.YtibpnocpafppaaaDoor.fi
