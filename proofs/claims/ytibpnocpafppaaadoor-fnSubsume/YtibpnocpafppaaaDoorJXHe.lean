/- Units of the model: what it answers at every formula of the call's own that holds at most 2^20 values; both sides together. -/
import Derived.Test.YtibpnocpafppaaaDoorJXHc
import Derived.Deep.RegionLaw
namespace Go.Proofs.YtibpnocpafppaaaDoor.hb
open Go.ChangeShapes Go.WideShapes Go.ChangeAt Go.RowKit
open sl (Sl Own ints hide unhide ret_int ret_bool grown_refl grown_trans grown_drewN below_of of_below)
open css (Sls OwnS Outs tot own_mono)
open cf (Box)
open gr (MidF)
open srt (Tab)
open wm (forceB okU frc)
open ok (cnfB clB litIn)
open fx (fixL)
open bset (setOf)
open lits (okB okB_iff)
open ge (outN outR OutE ini_all out_no OwnD)
open gj (out_end)
set_option linter.unusedVariables false
theorem stepRd {ops : Array Oper} {o : Oper} {a : Act} {K : Act → World → Prop} {Q : Exit → Act → World → Prop} {E : Prop} {lo mid : Nat} {wr : World} {v u : Value} {M : List (List Int)} {L : List Int}
  (h : OwnS lo mid wr v M) (hu : Own mid wr.heap.size wr u L) (hlo : lo ≤ mid) (hmid : mid ≤ wr.heap.size) (hM : M.length ≤ 1048576) (hgd : o.guard = none) (s x : Operand)
  (ho : o.op = .call { callee := .builtin .append, args := #[s, x], argTypes := #[24, 24] }) (hs : a.eval s = v) (hx : a.eval x = .slice (some ⟨wr.heap.size, 0, none⟩) 1 1)
  (hK : ∀ g cap w1, OwnS lo w1.heap.size w1 (.slice (some ⟨g, 0, none⟩) (M.length + 1) cap) (M ++ [L]) → (wr.alloc (.cells #[u] 31)).grownBy w1 v.ownBlock → K (a.put o.dst (.slice (some ⟨g, 0, none⟩) (M.length + 1) cap)) w1) :
  if Region.wanted o (yielded ops a.tmps) = true then Oper.wp Tryd.prog o a (wr.alloc (.cells #[u] 31)).drew K Q else E := by
 have gd := cf.grown_drew wr none
 have r := gr.stepR (ops := ops) (o := o) (a := a) (K := K) (Q := Q) (E := E) (wr := wr.drew) (h.kept gd) (hu.kept gd) hlo hmid hM hgd s x ho hs hx (fun g cap w1 h1 g1 => hK g cap w1 h1 (sl.grown_trans' (cf.grown_drew (wr.alloc (.cells #[u] 31)) v.ownBlock) g1))
 exact r
theorem cnf_tot {n : Int} {F : List (List Int)} (h : cnfB n F = true) : tot F ≤ 5880 := by
 have h1 := cnf_parts.1 h
 have h2 : ∀ G : List (List Int), (∀ C ∈ G, clB n C = true) → (G.map List.length).sum ≤ 48 * G.length := by
  intro G
  induction G with
  | nil => intro _; exact Nat.le_refl _
  | cons C G ih =>
   intro hG
   have h3 := hG C (List.mem_cons_self ..)
   have h4 := ih (fun D hD => hG D (List.mem_cons_of_mem _ hD))
   unfold ok.clB at h3
   rw [Bool.and_eq_true, decide_eq_true_iff] at h3
   simp only [List.map_cons, List.sum_cons, List.length_cons]
   omega
 have h5 := h2 F h1.2.2
 unfold css.tot
 omega
set_option maxRecDepth 10000 in
set_option maxHeartbeats 4000000 in
theorem specUnits (v : Value) (n : Int) (LL : List (List Int)) (lo hi : Nat) (w : World) (hn : tot LL ≤ 1048576) (hhi : hi ≤ w.heap.size) (hv : OwnS lo hi w v LL) :
  Calls Tryd.prog 14 #[.agg #[.int .i64 n, v]] w fun e w' => OutE (cnfB n LL) n (unL LL) w e w' := by
 obtain ⟨va, vc, rfl⟩ := hv.len
 obtain ⟨g0, b0, b1⟩ := ini_all w (.int .i64 n) (.slice va LL.length vc)
 have C := hide (ok.specCnfOk _ n LL _ hn (hv.kept g0).sls)
 have CF := hide (fun (w1 : World) (g : w.grownBy w1 none) (hc : ∀ c ∈ LL, ∀ x ∈ c, okB x = true) => sp.l04Force (.slice va LL.length vc) _ n LL [] _ _ _ hn (by simp) hc ((hv.kept g).kept (app.made_nil w1).2).sls (Own.of (app.made_nil w1).1))
 have CC := hide (fun (w1 : World) (g : w.grownBy w1 none) => jn.l02Copy (.slice va LL.length vc) n LL lo hi w1 hn (hv.kept g) (Nat.le_trans hhi g.size))
 have G0 := hide g0
 have B0 := hide b0
 have B1 := hide b1
 clear hv g0 b0 b1
 go_enter Tryd.func14, Tryd.ntmps14
 go_wp2_with fail
 refine (unhide C).mono ?_; rintro e w1 ⟨rfl, g1⟩
 have G1 := hide (grown_trans (r := none) (unhide G0) g1)
 have bx0 := (unhide B0).kept g1
 have bx1 := (unhide B1).kept g1
 have x0 := bx0.c0
 have x1 := bx0.c1
 have y0 := bx1.c0
 have y1 := bx1.c1
 have y2 := bx1.f 0
 have y3 := bx1.f 1
 have X0 := hide bx0
 have X1 := hide bx1
 clear C g1 bx0 bx1 B0 B1 G0
 cases hb : cnfB n LL
 ·have E := hide hb
  clear hb
  go_wp2_with fail
  (try simp only [Exit.inBlock, Exit.then])
  exact out_no (unhide E) (unhide X1) (unhide G1) rfl rfl rfl rfl
 ·have E := hide hb
  have CF1 := unhide CF w1 (unhide G1) (fun c hc x hx => lit_ok (cnf_lit hb hc hx))
  have IV := hide (fun h => frc_inv hb 49 (setOf []) [] (inv_zero n LL) h)
  clear hb CF
  generalize hq : frc (LL.map setOf) 49 (setOf []) [] = q at *
  obtain ⟨P, ob⟩ := q
  simp only at CF1 IV
  have HQ := hide hq
  have CF2 := hide CF1
  clear hq CF1
  go_wp2_with fail
  refine (unhide CF2).mono ?_; rintro e w2 ⟨rv, rfl, m2'⟩
  have m2 := wm.made_low (app.made_nil w1).2 m2'
  clear m2'
  obtain ⟨ra, rc, erv, _⟩ := Sl.of_own m2.1
  subst erv
  have G2 := hide (grown_trans (r := none) (unhide G1) m2.2)
  have bx0 := (unhide X0).kept m2.2
  have bx1 := (unhide X1).kept m2.2
  clear x0 x1 y0 y1 y2 y3
  have x0 := bx0.c0
  have x1 := bx0.c1
  have y0 := bx1.c0
  have y1 := bx1.c1
  have y2 := bx1.f 0
  have y3 := bx1.f 1
  have Y1 := hide bx1
  have R2 := hide (own_mono m2.1 (unhide G1).size)
  clear bx0 bx1 m2 CF2 X0 X1
  cases ob
  ·have OE := hide (own_e w2 w.heap.size (unhide G2).size)
   have gA := grown_trans (r := none) (World.grownBy_alloc w2 (.cells #[] 3) none) (World.grownBy_alloc (w2.alloc (.cells #[] 3)) (.cells #[.slice (some ⟨w2.heap.size, 0, none⟩) 0 0] 31) none)
   have bA := (unhide Y1).kept gA
   have a0 := bA.c0
   have a1 := bA.c1
   have a2 := bA.f 0
   have a3 := bA.f 1
   have BA := hide bA
   have GA := hide (grown_trans (r := none) (unhide G2) gA)
   clear gA bA CC R2
   go_wp2_with fail
   (try simp only [Exit.inBlock, Exit.then])
   have oe := unhide OE
   refine out_end (unhide E) (unhide BA) (unhide GA) ?_ rfl rfl rfl rfl
   rw [World.size_alloc, World.size_alloc, un_no (unhide HQ)]
   exact oe
  ·obtain ⟨T9, iv⟩ := unhide IV rfl
   have hP1 : P.length ≤ 120 := by
    have h1 := iv.c
    have h2 := (cnf_parts.1 (unhide E)).2.1
    omega
   have C2 := hide (unhide CC w2 (unhide G2))
   have LI := hide iv.l
   have UO := hide (un_ok (unhide E) iv)
   clear CC IV iv
   go_wp2_with fail
   refine (unhide C2).mono ?_; rintro e w3 ⟨u, rfl, o3, g3⟩
   obtain ⟨ua, uc, rfl⟩ := o3.len
   have b3 := (unhide Y1).kept g3
   have gB := World.grownBy_alloc w3 (.cells #[.int .i64 n, .slice ua LL.length uc] 26) none
   have l3 := b3.lt
   have U0 := hide (show Un w (w3.alloc (.cells #[.int .i64 n, .slice ua LL.length uc] 26)) w3.heap.size n (fixA LL (P.take 0)) (.slice ra P.length rc) P from
    ⟨⟨(grown_trans (r := none) (unhide G2) g3).size, grown_trans (grown_trans (r := none) (unhide G2) g3) gB, fun b hb' => (by
     rw [List.mem_singleton] at hb'
     subst hb'
     exact ⟨by show w.heap.size + 1 ≠ w3.heap.size; omega, b3.kept gB⟩), ua, uc, Box.new _ _ _ _, ((o3.kept gB).sub (unhide G2).size gB.size)⟩, row_kept (row_kept (unhide R2) g3) gB⟩)
   clear o3 g3 b3 gB l3 C2 R2 x0 x1 y0 y1 y2 y3 Y1 G1 G2
   go_wp2_with fail
   generalize w3.heap.size = c at *
   generalize hW3 : w3.alloc (.cells #[.int .i64 n, .slice ua LL.length uc] 26) = W3 at *
   clear hW3
   go_loopw [7] (fun i wr => ∃ k : Nat, k ≤ P.length ∧ i = .int .i64 k ∧ Hid (Un w wr c n (fixA LL (P.take k)) (.slice ra P.length rc) P)) (fun i _ => P.length - (intOf i).toNat)
   case atStart => exact ⟨0, Nat.zero_le _, rfl, U0⟩
   case round =>
    obtain ⟨k, hk, rfl, hu⟩ := hrel
    clear U0
    by_cases hlt : k < P.length
    ·have hi' : (k : Int) < (P.length : Int) := by omega
     obtain ⟨a', cap', e', hcl⟩ := Sl.of_own (unhide hu).2
     cases e'
     rcases hcl with h | ⟨b, off, rfl, hb, hcb⟩
     ·rw [h] at hlt
      simp at hlt
     ·have c1 := hcb k hlt
      have st := un_step LL P k hlt
      have li : litIn n (P.getD k 0) = true := unhide LI _ (by rw [show P.getD k 0 = P[k] by simp [hlt]]; exact List.getElem_mem hlt)
      have fo := fixA_ok (unhide E) (P.take k)
      have ft := Nat.le_trans (tot_fix LL (P.take k)) hn
      have mf := (unhide hu).1
      generalize P.getD k 0 = x at *
      generalize fixA LL (P.take k) = F at *
      obtain ⟨q0, q1, q2, oa, ocap, q3, q4⟩ := mf
      have FX' := hide (fx.l02Fix (.slice oa F.length ocap) n x F wr.drew ft ((lits.okB_iff).1 (lit_ok li)) (q4.kept (cf.grown_drew wr none)).sls)
      have z0 := q3.c0
      have z1 := q3.c1
      have HT := hide st
      clear hcb q0 q1 q2 q3 q4 st li fo ft
      go_wp2_with fail
      go_region_with (first
       | (go_at_call 61; refine (unhide FX').mono ?_; rintro e w4 ⟨u4, rfl, o4, g4⟩; obtain ⟨pa, pc, rfl⟩ := o4.len; obtain ⟨xa, xc, bx4, un4⟩ := (unhide hu).put (grown_trans (r := none) (cf.grown_drew wr none) g4) o4; have s0 := bx4.c0; have s1 := bx4.c1; have s2 := bx4.f 0; have s3 := bx4.f 1; have UN := hide un4; clear o4 g4 bx4 un4))
      all_goals
       go_wp2_with fail
       go_roundw
       case rel => exact ⟨k + 1, by omega, by go_num, by rw [unhide HT]; exact UN⟩
       case measure => simp [intOf]; omega
    ·have hi' : ¬ (k : Int) < (P.length : Int) := by omega
     have e : P.take k = P := List.take_of_length_le (by omega)
     rw [e] at hu
     have U2 := hide (show Un w wr c n (fixA LL P ++ (P.take 0).map (fun x => [x])) (.slice ra P.length rc) P by rw [List.take_zero, List.map_nil, List.append_nil]; exact unhide hu)
     clear e hu
     go_wp2_with fail
     go_loopw [8] (fun i wr => ∃ k : Nat, k ≤ P.length ∧ i = .int .i64 k ∧ Hid (Un w wr c n (fixA LL P ++ (P.take k).map (fun x => [x])) (.slice ra P.length rc) P)) (fun i _ => P.length - (intOf i).toNat)
     case atStart => exact ⟨0, Nat.zero_le _, rfl, U2⟩
     case round =>
      obtain ⟨k, hk, rfl, hu⟩ := hrel
      clear U2
      by_cases hlt : k < P.length
      ·have hi' : (k : Int) < (P.length : Int) := by omega
       obtain ⟨a', cap', e', hcl⟩ := Sl.of_own (unhide hu).2
       cases e'
       rcases hcl with h | ⟨b, off, rfl, hb, hcb⟩
       ·rw [h] at hlt
        simp at hlt
       ·have c1 := hcb k hlt
        have st := un_more LL P k hlt
        have fl : (fixA LL P ++ (P.take k).map (fun x => [x])).length ≤ 1048576 := by
         have h1 := (cnf_parts.1 (fixA_ok (unhide E) P)).2.1
         rw [List.length_append, List.length_map, List.length_take]
         omega
        generalize P.getD k 0 = x at *
        have hun := unhide hu
        generalize fixA LL P ++ (P.take k).map (fun x => [x]) = F at *
        obtain ⟨⟨q0, q1, q2, oa, ocap, q3, q4⟩, q5⟩ := hun
        have z0 := q3.c0
        have z1 := q3.c1
        have gA := World.grownBy_alloc wr (.cells #[.int .i64 x] 3) none
        have z2 := ((q3.kept gA).kept (World.grownBy_alloc (wr.alloc (.cells #[.int .i64 x] 3)) (.cells #[.slice (some ⟨wr.heap.size, 0, none⟩) 1 1] 31) none)).c1
        have z3 := (q3.kept gA).c1
        have OA := hide (q4.kept gA)
        have OL := hide (show Own wr.heap.size (wr.alloc (.cells #[.int .i64 x] 3)).heap.size (wr.alloc (.cells #[.int .i64 x] 3)) (.slice (some ⟨wr.heap.size, 0, none⟩) 1 1) [x] by rw [World.size_alloc]; exact own_lit1 wr x)
        have Q0 := hide q0
        have Q1 := hide q1
        have Q2 := hide q2
        have Q3 := hide q3
        have Q4 := hide q4
        have Q5 := hide q5
        have SA := hide gA.size
        have HT := hide st
        clear hcb q0 q1 q2 q3 q4 q5 gA st hu
        go_wp2_with fail
        go_region_law
         (first
          | (refine stepRd (unhide OA) (unhide OL) (unhide Q1).size (unhide SA) fl (by rfl) _ _ (by rfl) (by rfl) (by first | (rw [World.size_alloc]; rfl) | rfl) ?_; intro g5 cap5 w5 h5 g5'; have R5 := hide (Un.more (unhide Q0) (unhide Q1) (unhide Q2) (unhide Q3) (unhide Q4) (unhide Q5) h5 g5'); have k3 := (unhide R5).1.1; have k4 := (unhide R5).1.2; clear h5 g5'))
        all_goals
         go_wp2_with fail
         go_roundw
         case rel => exact ⟨k + 1, by omega, by go_num, by rw [unhide HT]; exact (unhide R5).2⟩
         case measure => simp [intOf]; omega
      ·have hi' : ¬ (k : Int) < (P.length : Int) := by omega
       have e : P.take k = P := List.take_of_length_le (by omega)
       rw [e] at hu
       have hun := unhide hu
       have eu := un_yes (unhide HQ)
       unfold unR at eu
       have EU := hide eu
       generalize hF : fixA LL P ++ P.map (fun x => [x]) = F at *
       have uo := unhide UO
       unfold unR at uo
       rw [hF] at uo
       have br := hun.1.box (w.heap.size + 1) (.int .i64 0) (.slice none 0 0) (by simp)
       obtain ⟨⟨q0, q1, q2, oa, ocap, q3, q4⟩, q5⟩ := hun
       have ft : tot F ≤ 1048576 := Nat.le_trans (cnf_tot uo) (by decide)
       have CO := ok.specCnfOk (.slice oa F.length ocap) n F wr ft q4.sls
       rw [uo] at CO
       have CO' := hide CO
       have o0 := q3.c0
       have o1 := q3.c1
       have BR := hide br
       have Q1 := hide q1
       have Q3 := hide q3
       have Q4 := hide q4
       clear hu e eu q0 q1 q2 q3 q4 q5 br uo CO hF
       go_wp2_with fail
       refine (unhide CO').mono ?_; rintro e w6 ⟨rfl, g6⟩
       have b6 := (unhide BR).kept g6
       have r0 := b6.c0
       have r1 := b6.c1
       have rf0 := b6.f 0
       have rf1 := b6.f 1
       have p6 := (unhide Q3).kept g6
       clear o0 o1
       have o0 := p6.c0
       have o1 := p6.c1
       have B6 := hide b6
       have G6 := hide (grown_trans (r := none) (unhide Q1) g6)
       have O6 := hide (((unhide Q4).kept g6).sub (Nat.le_refl _) g6.size)
       clear b6 g6 p6 CO' BR Q1 Q3 Q4
       go_wp2_with fail
       (try simp only [Exit.inBlock, Exit.then])
       refine out_end (unhide E) (unhide B6) (unhide G6) ?_ rfl rfl rfl rfl
       rw [unhide EU]
       exact unhide O6
theorem un_tot (n : Int) (LL : List (List Int)) : tot (outR (cnfB n LL) (unL LL)) ≤ 1048576 := by
 cases h : cnfB n LL
 ·show tot [] ≤ _
  decide
 ·show tot (unL LL) ≤ _
  cases hq : frc (LL.map setOf) 49 (setOf []) [] with
  | mk P ob =>
   cases ob
   ·rw [un_no hq]
    decide
   ·have iv := frc_inv h 49 (setOf []) [] (inv_zero n LL) (by rw [hq])
    rw [hq] at iv
    obtain ⟨T, iv⟩ := iv
    rw [un_yes hq]
    exact Nat.le_trans (cnf_tot (un_ok h iv)) (by decide)
end Go.Proofs.YtibpnocpafppaaaDoor.hb
