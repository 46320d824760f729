/- What the program's Project answers at every formula that holds at most 2^20 values, and any number; no other condition. -/
import Derived.Test.YtibpnocpafppaaaDoorJXJd
import Derived.Test.YtibpnocpafppaaaDoorJXCu
import Derived.Test.YtibpnocpafppaaaDoorJXGh
import Derived.Test.YtibpnocpafppaaaDoorJXJr
import Derived.Sort.BigQuietIn
import Derived.Stop.RegionWithIn
namespace Go.Proofs.YtibpnocpafppaaaDoor.je
open Go.ChangeShapes Go.WideShapes Go.ChangeAt Go.RowKit Go.Shelf
open sl (Sl Own ints hide unhide ret_int ret_bool grown_refl grown_trans grown_drewN below_of of_below)
open css (Sls tot)
open cf (Box)
open ok (cnfB clB)
open tr (cnfT clT)
open cnt (cntR le ev sp)
open at_ (at_)
open bset (setOf placeN withN)
open su (MadeU words meets)
open cu (form grow0 grow1 grow2 cntL cntL_snoc cntL_le)
open ge (hvB)
open jd (projI projN gP fP)
set_option linter.unusedVariables false
attribute [local go_sem] Oper.semAt_some
attribute [local go_sem] Go.undef
theorem grown_dn (w : World) (k : Nat) (r : Option Nat) : w.grownBy (w.drewN k) r := ⟨rfl, rfl, rfl, Nat.le_refl _, fun _ _ _ => rfl⟩
theorem wide_fn (f : FuncId) : Fence.wide.fn f = True := rfl
attribute [local simp] wide_fn
theorem wrap8 {y : Int} (h1 : -24 ≤ y) (h2 : y ≤ 24) : IntKind.i8.wrap y = y := by
 have key : ∀ j : Fin 49, IntKind.i8.wrap ((j.val : Int) - 24) = (j.val : Int) - 24 := by decide
 have := key ⟨(y + 24).toNat, by omega⟩
 simp only at this
 rw [show (((y + 24).toNat : Nat) : Int) - 24 = y by omega] at this
 exact this
theorem projectX (v : Value) (n x : Int) (LL : List (List Int)) (w : World) (hn : tot LL ≤ 1048576) (hv : Sls w v LL) (h : hvB n x LL = false ∨ ¬ n ≤ 14) :
  Calls Tryd.prog 24 #[.agg #[.int .i64 n, v], .int .i64 x] w fun e w' => e = .returned (.int .i64 (projI n x LL)) ∧ w.grownBy w' none := by
 rw [jd.proj_no h]
 have hv0 := hv
 obtain ⟨a, cap, rfl, _⟩ := hv
 have g0 := World.grownBy_alloc w (.cells #[.int .i64 n, .slice a LL.length cap] 26) none
 have C := hide (ge.hasVariable _ n x LL _ hn (hv0.kept g0))
 have G0 := hide g0
 have bx := hide (cf.Box.new 26 w (.int .i64 n) (.slice a LL.length cap))
 clear g0 hv0
 refine (callsIn_wide (n := 3)).1 ?_
 refine callsIn_of_wp_marks Tryd.func24 rfl trivial ?_ rfl
 simp only [Tryd.ntmps24, List.size_toArray, List.length_cons, List.length_nil, Nat.reduceAdd, Nat.reduceSub, Array.replicate_succ, Array.replicate_zero, List.push_toArray, List.append_toArray, List.nil_append, List.cons_append]
 cases hb : hvB n x LL
 ·rw [hb] at C
  clear hb h
  gi_wp2_with (gi_at_call 71; refine (callsIn_wide.2 (unhide C)).mono ?_; rintro e w2 ⟨rfl, g2⟩; have G2 := hide (grown_trans (r := none) (unhide G0) g2); have x0 := ((unhide bx).kept g2).c0; clear g2)
  refine ⟨_, results_tmp rfl _ _ _, ?_⟩
  exact ⟨rfl, unhide G2⟩
 ·rw [hb] at C
  have h14 : (14 : Int) < n := by
   rcases h with h | h
   ·rw [h] at hb; cases hb
   ·omega
  clear hb h
  gi_wp2_with (gi_at_call 71; refine (callsIn_wide.2 (unhide C)).mono ?_; rintro e w2 ⟨rfl, g2⟩; have G2 := hide (grown_trans (r := none) (unhide G0) g2); have x0 := ((unhide bx).kept g2).c0; clear g2)
  refine ⟨_, results_tmp rfl _ _ _, ?_⟩
  exact ⟨rfl, unhide G2⟩
set_option maxRecDepth 100000 in
set_option maxHeartbeats 8000000 in
theorem project (v : Value) (m vv : Nat) (LL : List (List Int)) (w : World) (hn : tot LL ≤ 1048576) (hv : Sls w v LL) (hh : hvB (m : Int) (vv : Int) LL = true) (hm : m ≤ 14) :
  Calls Tryd.prog 24 #[.agg #[.int .i64 (m : Int), v], .int .i64 (vv : Int)] w fun e w' => e = .returned (.int .i64 (projI (m : Int) (vv : Int) LL)) ∧ w.grownBy w' none := by
 have g0 := World.grownBy_alloc w (.cells #[.int .i64 (m : Int), v] 26) none
 have cc := ge.hasVariable v m vv LL _ hn (hv.kept g0)
 have F0 := hide (Box.new 26 w (.int .i64 (m : Int)) v)
 have G0 := hide g0
 have HV := hide hv
 rw [hh] at cc
 have CC := hide cc
 obtain ⟨k1, k2, k3, k4⟩ := ge.hv_yes hh
 have hv1 : 1 ≤ vv := by omega
 have hvm : vv ≤ m := by omega
 have hokv : lits.okB (vv : Int) = true := lits.okB_iff.2 ⟨by omega, by omega, by omega⟩
 have hoknv : lits.okB (-(vv : Int)) = true := lits.okB_iff.2 ⟨by omega, by omega, by omega⟩
 have hall : LL.all (clB (m : Int)) = true := by
  unfold ok.cnfB at k1
  simp only [Bool.and_eq_true] at k1
  exact k1.2
 have E := hide (jd.proj_yes hh hm)
 have LK := hide (fun j => jd.looks (j := j) hv1 hvm (show m ≤ 24 by omega) hall)
 have PR := hide (jd.proj_range (LL := LL) hv1 hvm)
 have h14' : ¬ (14 : Int) < (m : Int) := by omega
 have hi8 : IntKind.i8.wrap (vv : Int) = (vv : Int) := wrap8 (by omega) (by omega)
 have hi8n : IntKind.i8.wrap (-(vv : Int)) = -(vv : Int) := wrap8 (by omega) (by omega)
 have hp := ct.pow_bd hm
 clear cc hv g0 k1 k2 k3 k4 hall hh
 refine (callsIn_wide (n := 3)).1 ?_
 refine callsIn_of_wp_marks Tryd.func24 rfl trivial ?_ rfl
 simp only [Tryd.ntmps24, List.size_toArray, List.length_cons, List.length_nil, Nat.reduceAdd, Nat.reduceSub, Array.replicate_succ, Array.replicate_zero, List.push_toArray, List.append_toArray, List.nil_append, List.cons_append]
 gi_wp2_with (gi_at_call 71; refine (callsIn_wide.2 (unhide CC)).mono ?_; rintro e w2 ⟨rfl, g2⟩; have G2 := hide (grown_trans (r := none) (unhide G0) g2); have F2 := hide ((unhide F0).kept g2); have x0 := (unhide F2).c0; have x1 := (unhide F2).c1; clear g2 CC F0 G0)
 gi_wp2_with (gi_at_call 78; refine (callsIn_wide.2 (su.setsOf _ LL _ hn ((unhide HV).kept (unhide G2)))).mono ?_; rintro e w3 ⟨u3, rfl, m3⟩; obtain ⟨a3, c3, rfl⟩ := form m3; have M3 := hide m3; have F3 := hide (((unhide F2).kept m3.2).kept (grown_trans (r := none) (grown_trans (r := none) (World.grownBy_alloc w3 (.cells #[.slice a3 (LL.map setOf).length c3] 77) none) (World.grownBy_alloc _ (.cells #[.int .i8 (vv : Int)] 67) none)) (World.grownBy_alloc _ (.cells #[.int .i64 0] 3) none))); rw [List.length_map] at F3; have y0 := (unhide F3).c0; clear m3 x0 x1)
 have hlen : (LL.map setOf).length = LL.length := List.length_map ..
 have TS := hide (ts.trueSets m (((w3.alloc (.cells #[.slice a3 LL.length c3] 77)).alloc (.cells #[.int .i8 (vv : Int)] 67)).alloc (.cells #[.int .i64 0] 3)) hm)
 gi_wp2_with (gi_at_call 79; refine (callsIn_wide.2 (unhide TS)).mono ?_; rintro e w5 ⟨rfl, h5⟩; have H5 := hide h5; clear h5)
 try simp only [World.size_alloc]
 have h5 := unhide H5
 rw [hlen] at M3
 have b1 : Boxed w5 w3.heap.size 77 (.slice a3 LL.length c3) := by
  rw [h5]
  exact (((Boxed.new w3 _ _).alloc _).alloc _).alloc _
 have bx : Boxed w5 (w3.heap.size + 1) 67 (.int .i8 (vv : Int)) := by
  rw [h5]
  have := Boxed.new (w3.alloc (.cells #[.slice a3 LL.length c3] 77)) 67 (.int .i8 (vv : Int))
  rw [World.size_alloc] at this
  exact (this.alloc _).alloc _
 have b2 : Boxed w5 (w3.heap.size + 1 + 1) 3 (.int .i64 0) := by
  rw [h5]
  have := Boxed.new ((w3.alloc (.cells #[.slice a3 LL.length c3] 77)).alloc (.cells #[.int .i8 (vv : Int)] 67)) 3 (.int .i64 0)
  rw [World.size_alloc, World.size_alloc] at this
  exact this.alloc _
 have b3 : Boxed w5 (w3.heap.size + 1 + 1 + 1) 83 (.int .u64 (ev m : Int)) := by
  rw [h5]
  have := Boxed.new (((w3.alloc (.cells #[.slice a3 LL.length c3] 77)).alloc (.cells #[.int .i8 (vv : Int)] 67)).alloc (.cells #[.int .i64 0] 3)) 83 (.int .u64 (ev m : Int))
  rw [World.size_alloc, World.size_alloc, World.size_alloc] at this
  exact this
 have g5 : w3.grownBy w5 none := by
  rw [h5]
  exact grown_trans (grown_trans (r := none) (grown_trans (r := none) (World.grownBy_alloc _ _ _) (World.grownBy_alloc _ _ _)) (World.grownBy_alloc _ _ _)) (World.grownBy_alloc _ _ _)
 have G5 := hide (grown_trans (r := none) (grown_trans (r := none) (unhide G2) (unhide M3).2) g5)
 have ro : w5.ownsRow w2.heap.size 83 1 (.slice a3 LL.length c3) (LL.map setOf).length (words (LL.map setOf)) := (unhide M3).1.kept g5 (by
  cases (Value.slice a3 LL.length c3).ownBlock with
  | none => exact .inl rfl
  | some k => exact .inr (fun e => by cases e))
 have RO := hide ro
 have hs5 : w5.heap.size = w3.heap.size + 1 + 1 + 1 + 1 := by
  rw [h5]
  simp
 have hw3 : w.heap.size ≤ w3.heap.size := (grown_trans (r := none) (unhide G2) (unhide M3).2).size
 clear h5 H5 g5 M3 F3 TS ro G2 F2 HV
 refine wpIn_rangeFunc_ownF rfl (by omega) (gf := 130) (lb := #[.pointer (some ⟨w3.heap.size + 1 + 1 + 1, 0, none⟩)]) rfl trivial (enters_of Tryd.func130 (by kernel_rfl) rfl)
  (it.seq Fence.wide _ trivial rfl (by omega) (w3.heap.size + 1 + 1 + 1) m hm w5 b3.lt b3.cell) it.kp_t (it.kp_b b3.lt) (Below.refl _ _) (fun _ => rfl)
  (fun pre W => Boxed W (w3.heap.size + 1 + 1) 3 (.int .i64 (cntL (gP m vv LL) pre : Int)) ∧ w5.grownBy W (some (w3.heap.size + 1 + 1)))
  (fun _ _ _ => False)
  (fun s A B row hs hg hr => ⟨hs.1.kept hg (fun e => by have := (hr _ e.symm).1; omega), grow2 hs.2 hg (fun r e => .inl (hr r e).1)⟩)
  (fun _ _ _ _ _ hs _ _ => hs)
  ⟨b2, grow0 _ _⟩
  (fun x => { tmps := #[.agg #[.int .i64 (m : Int), v], .int .i64 (vv : Int), .pointer (some ⟨w.heap.size, 0, none⟩), undef, .int .i64 0, .pointer (some ⟨w3.heap.size, 0, none⟩), .pointer (some ⟨w3.heap.size + 1, 0, none⟩), .pointer (some ⟨w3.heap.size + 1 + 1, 0, none⟩), .int .u64 (at_ m x : Int), .agg #[.int .i64 (m : Int), v], .int .i64 (vv : Int), .bool true, .bool false, .bool false, .pointer (some ⟨w.heap.size, 0, none⟩), .int .i64 (m : Int), .bool (decide ((14 : Int) < (m : Int))), .bool (decide ((14 : Int) < (m : Int))), .pointer (some ⟨w.heap.size, 1, none⟩), v, .slice a3 LL.length c3, .int .i64 (vv : Int), .int .i8 (vv : Int), .pointer (some ⟨w.heap.size, 0, none⟩), .int .i64 (m : Int), .func (.func 130) #[] #[.pointer (some ⟨w3.heap.size + 1 + 1 + 1, 0, none⟩)], .int .u64 (at_ m x : Int), undef, undef, undef, undef, undef, undef, undef, undef, undef, undef, undef, undef, undef, undef, undef, undef, undef, undef, undef, undef, undef], defers := [] }) ?assign ?body ?done ?stop
 case assign =>
  intro l x W K hK
  gi_wp2
  exact hK
 case body =>
  rintro l pre x W ⟨hb2, hg⟩ hlt
  have c1 : W.cell? ⟨w3.heap.size, 0, none⟩ = some (.slice a3 LL.length c3) := (b1.kept hg (fun e => by simp at e; omega)).cell
  have cx : W.cell? ⟨w3.heap.size + 1, 0, none⟩ = some (.int .i8 (vv : Int)) := (bx.kept hg (fun e => by simp at e)).cell
  have c2 := hb2.cell
  have f2 := hb2.frozen
  have hw48 := at_.at_lt m x (show m ≤ 24 by omega)
  have ml := fun (t : Nat) (ht : t < 2 ^ 48) (k : Nat) => su.meetsAll (.slice a3 LL.length c3) (LL.map setOf) t w2.heap.size (W.drewN k) (by rw [hlen]; exact Nat.le_trans (css.tot_len LL) hn) (by
    intro s hs
    obtain ⟨L, _, rfl⟩ := List.mem_map.1 hs
    exact bset.setOf_lt L) ht ((unhide RO).kept (sl.grown_trans' hg (grown_dn W k _)) (.inr (b2.not_row (by decide) (unhide RO)).symm))
  have ch := fun k => bset.hasC (at_ m x) (vv : Int) (W.drewN k) hw48 hokv
  have cm := ml (at_ m x) hw48
  have cw1 := fun k => srt.without (at_ m x) (vv : Int) (W.drewN k) hw48 hokv
  have cw2 := fun k => bset.withC (srt.woN (at_ m x) (vv : Int)) (-(vv : Int)) (W.drewN k) (srt.woN_lt hw48) hoknv
  have cm2 := ml (withN (srt.woN (at_ m x) (vv : Int)) (-(vv : Int))) (bset.withN_lt (srt.woN_lt hw48) hoknv)
  obtain ⟨l1, l2, l3⟩ := unhide LK x
  rw [l1] at ch
  rw [l2] at cm
  have hle := cntL_le (gP m vv LL) pre
  have hsn := cntL_snoc (gP m vv LL) pre x
  have hg0 : gP m vv LL x = (decide ((le m x).getD (vv - 1) 0 = 1) && (cnfT (le m x) LL || cnfT ((le m x).set (vv - 1) 0) LL)) := rfl
  rw [hg0] at hsn
  generalize hq : cntL (gP m vv LL) pre = q at *
  have kk : ∀ k u, it.Kp (w3.heap.size + 1 + 1 + 1) W ((W.drewN k).setCell ⟨w3.heap.size + 1 + 1, 0, none⟩ u) := fun k u => World.cell?_of_block (a := ⟨w3.heap.size + 1 + 1 + 1, 0, none⟩) ((sl.grown_setCell (W.drewN k) (w3.heap.size + 1 + 1) 0 u).block _ (Nat.lt_of_lt_of_le b3.lt hg.size) (fun e => by simp at e))
  have H2 := hide hb2
  have HG := hide hg
  have KK := hide kk
  clear ml kk hb2 hg hg0 l1 l2
  cases hz : decide ((le m x).getD (vv - 1) 0 = 1)
  ·rw [hz] at ch hsn
   have CH := hide ch
   have HS : Hid (cntL (gP m vv LL) (pre ++ [x]) = q) := by show _ = _; rw [hsn]; simp
   clear hsn hq hz ch cm cw1 cw2 cm2 l3
   gi_wp2_with fail
   refine jr.region (by kernel_rfl) (by kernel_rfl) (by kernel_rfl) ?_
   repeat (gi_big_quiet_step (first
        | (gi_at_call 80; refine CallsIn.quiet_of_same (CallsIn.inRound l (callsIn_wide.2 (unhide CH _))))))
   refine wpQuietIn_nil ?_
   intro _ hw'
   obtain ⟨nq, hw''⟩ := hw'
   subst hw''
   gi_wp2
   exact ⟨KeepsOthers.of_grownBy (grown_dn W nq none) (fun _ _ e => by cases e), rfl, by rw [unhide HS]; exact unhide H2, sl.grown_trans' (unhide HG) (grown_dn W nq _)⟩
  ·rw [hz] at ch hsn
   have l4 := l3 (of_decide_eq_true hz)
   rw [l4] at cm2
   clear l3 l4
   generalize withN (srt.woN (at_ m x) (vv : Int)) (-(vv : Int)) = t2 at cm2 cw2
   generalize srt.woN (at_ m x) (vv : Int) = t1 at cw1 cw2
   have CH := hide ch
   cases hy : cnfT (le m x) LL
   ·rw [hy] at cm hsn
    have CM := hide cm
    have CW1 := hide cw1
    have CW2 := hide cw2
    cases hx : cnfT ((le m x).set (vv - 1) 0) LL
    ·rw [hx] at cm2 hsn
     have CM2 := hide cm2
     have HS : Hid (cntL (gP m vv LL) (pre ++ [x]) = q) := by show _ = _; rw [hsn]; simp
     clear hsn hq hz hy hx ch cm cw1 cw2 cm2
     gi_wp2_with fail
     refine jr.region (by kernel_rfl) (by kernel_rfl) (by kernel_rfl) ?_
     iterate 7 (gi_big_quiet_step (first
      | (gi_at_call 80; refine CallsIn.quiet_of_same (CallsIn.inRound l (callsIn_wide.2 (unhide CH _))))
      | (gi_at_call 81; refine CallsIn.quiet_of_same (CallsIn.inRound l (callsIn_wide.2 (unhide CM _))))))
     repeat (gi_big_quiet_step (first
      | (gi_at_call 82; refine CallsIn.quiet_of_same (CallsIn.inRound l (callsIn_wide.2 (unhide CW1 _))))
      | (gi_at_call 83; refine CallsIn.quiet_of_same (CallsIn.inRound l (callsIn_wide.2 (unhide CW2 _))))
      | (gi_at_call 81; refine CallsIn.quiet_of_same (CallsIn.inRound l (callsIn_wide.2 (unhide CM2 _))))))
     refine wpQuietIn_nil ?_
     intro _ hw'
     obtain ⟨nq, hw''⟩ := hw'
     subst hw''
     gi_wp2
     exact ⟨KeepsOthers.of_grownBy (grown_dn W nq none) (fun _ _ e => by cases e), rfl, by rw [unhide HS]; exact unhide H2, sl.grown_trans' (unhide HG) (grown_dn W nq _)⟩
    ·rw [hx] at cm2 hsn
     have CM2 := hide cm2
     have HS : Hid ((cntL (gP m vv LL) (pre ++ [x]) : Int) = (q : Int) + 1) := by show _ = _; rw [hsn]; simp
     clear hsn hq hz hy hx ch cm cw1 cw2 cm2
     gi_wp2_with fail
     refine jr.region (by kernel_rfl) (by kernel_rfl) (by kernel_rfl) ?_
     iterate 7 (gi_big_quiet_step (first
      | (gi_at_call 80; refine CallsIn.quiet_of_same (CallsIn.inRound l (callsIn_wide.2 (unhide CH _))))
      | (gi_at_call 81; refine CallsIn.quiet_of_same (CallsIn.inRound l (callsIn_wide.2 (unhide CM _))))))
     repeat (gi_big_quiet_step (first
      | (gi_at_call 82; refine CallsIn.quiet_of_same (CallsIn.inRound l (callsIn_wide.2 (unhide CW1 _))))
      | (gi_at_call 83; refine CallsIn.quiet_of_same (CallsIn.inRound l (callsIn_wide.2 (unhide CW2 _))))
      | (gi_at_call 81; refine CallsIn.quiet_of_same (CallsIn.inRound l (callsIn_wide.2 (unhide CM2 _))))))
     refine wpQuietIn_nil ?_
     intro _ hw'
     obtain ⟨nq, hw''⟩ := hw'
     subst hw''
     gi_wp2
     exact ⟨KeepsOthers.trans (KeepsOthers.of_grownBy (grown_dn W nq none) (fun _ _ e => by cases e)) (KeepsOthers.setCell _ _ _), unhide KK _ _, by rw [unhide HS]; exact Boxed.set _ (show Boxed (W.drewN nq) _ _ _ from unhide H2), grow2 (sl.grown_trans' (unhide HG) (grown_dn W nq _)) (sl.grown_setCell _ _ _ _) (fun r e => .inr (by cases e; rfl))⟩
   ·rw [hy] at cm hsn
    have CM := hide cm
    have HS : Hid ((cntL (gP m vv LL) (pre ++ [x]) : Int) = (q : Int) + 1) := by show _ = _; rw [hsn]; simp
    clear hsn hq hz hy ch cm cw1 cw2 cm2
    gi_wp2_with fail
    refine jr.region (by kernel_rfl) (by kernel_rfl) (by kernel_rfl) ?_
    repeat (gi_big_quiet_step (first
         | (gi_at_call 80; refine CallsIn.quiet_of_same (CallsIn.inRound l (callsIn_wide.2 (unhide CH _))))
         | (gi_at_call 81; refine CallsIn.quiet_of_same (CallsIn.inRound l (callsIn_wide.2 (unhide CM _))))))
    refine wpQuietIn_nil ?_
    intro _ hw'
    obtain ⟨nq, hw''⟩ := hw'
    subst hw''
    gi_wp2
    exact ⟨KeepsOthers.trans (KeepsOthers.of_grownBy (grown_dn W nq none) (fun _ _ e => by cases e)) (KeepsOthers.setCell _ _ _), unhide KK _ _, by rw [unhide HS]; exact Boxed.set _ (show Boxed (W.drewN nq) _ _ _ from unhide H2), grow2 (sl.grown_trans' (unhide HG) (grown_dn W nq _)) (sl.grown_setCell _ _ _ _) (fun r e => .inr (by cases e; rfl))⟩
 case done =>
  rintro D ys W hD rfl ⟨hb2, hg⟩ hK
  have c2 := hb2.cell
  have e2 : (cntL (gP m vv LL) (List.range (2 ^ m)) : Int) = projI (m : Int) (vv : Int) LL := by
   rw [unhide E]
   unfold cu.cntL
   rw [unhide PR]
  have E2 := hide e2
  clear e2
  gi_wp2
  refine ⟨by simp, .inl ⟨_, _, rfl, run_takeDeferred hK, ?_⟩⟩
  refine ⟨_, results_tmp rfl _ _ _, ?_⟩
  exact ⟨ret_int (unhide E2), grow1 (unhide G5) (grow2 hg (grownBy_putObj' W D _) (fun r e => .inl (by cases e; exact hD))) (by omega)⟩
 case stop =>
  rintro D c pre W _ _ h _
  exact h.elim
theorem implProject (v : Value) (n x : Int) (LL : List (List Int)) (w : World) (hn : tot LL ≤ 1048576) (hv : Sls w v LL) :
  Calls Tryd.prog 24 #[.agg #[.int .i64 n, v], .int .i64 x] w fun e w' => e = .returned (.int .i64 (projI n x LL)) ∧ w.grownBy w' none := by
 cases hb : hvB n x LL
 ·exact projectX v n x LL w hn hv (.inl hb)
 ·by_cases h14 : n ≤ 14
  ·obtain ⟨_, h1, h2, _⟩ := ge.hv_yes hb
   obtain ⟨m, rfl⟩ := Int.eq_ofNat_of_zero_le (show 0 ≤ n by omega)
   obtain ⟨u, rfl⟩ := Int.eq_ofNat_of_zero_le (show 0 ≤ x by omega)
   exact project v m u LL w hn hv hb (by omega)
  ·exact projectX v n x LL w hn hv (.inr h14)
end Go.Proofs.YtibpnocpafppaaaDoor.je
