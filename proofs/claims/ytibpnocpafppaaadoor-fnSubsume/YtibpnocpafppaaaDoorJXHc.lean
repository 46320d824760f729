/- Units of the program: what it answers at every formula of the call's own that holds at most 2^20 values. -/
import Derived.Test.YtibpnocpafppaaaDoorJXHb
import Derived.Test.YtibpnocpafppaaaDoorJSb
import Derived.Test.YtibpnocpafppaaaDoorJSs
import Derived.Test.YtibpnocpafppaaaDoorJXSl
import Derived.Test.YtibpnocpafppaaaDoorJXApp
import Derived.Deep.RegionHeld3
import Derived.Test.YtibpnocpafppaaaDoorJXGj
namespace Go.Proofs.YtibpnocpafppaaaDoor.hb
open Go.ChangeShapes Go.WideShapes Go.ChangeAt Go.RowKit
open sl (Sl Own ints hide unhide ret_int ret_bool grown_refl grown_trans grown_drewN below_of of_below)
open css (Sls OwnS Outs tot own_mono)
open cf (Box)
open gr (MidF)
open srt (Tab)
open wm (forceB okU frc)
open ok (cnfB clB litIn)
open fx (fixL)
open bset (setOf)
open lits (okB okB_iff)
open ge (outN outR OutE ini_all out_no OwnD)
open gj (out_end)
set_option linter.unusedVariables false
theorem own_none (lo hi : Nat) (w : World) : Own lo hi w (.slice none 0 0) [] := ⟨⟨rfl, .inl ⟨rfl, rfl⟩⟩, fun k e => by cases e⟩
theorem force_nil {n : Int} {LL : List (List Int)} (h : cnfB n LL = true) : forceB n LL [] = frc (LL.map setOf) 49 (setOf []) [] := by
 unfold wm.forceB wm.okU
 rw [h]
 rfl
theorem own_e (w : World) (lo : Nat) (h : lo ≤ w.heap.size) : OwnS lo (w.heap.size + 2) ((w.alloc (.cells #[] 3)).alloc (.cells #[.slice (some ⟨w.heap.size, 0, none⟩) 0 0] 31)) (.slice (some ⟨w.heap.size + 1, 0, none⟩) 1 1) [[]] := by
 have h1 := World.ownsRow_lit (e := 31) (size := 1) (w.alloc (.cells #[] 3)) #[.slice (some ⟨w.heap.size, 0, none⟩) 0 0] 1 (Nat.le_refl _) (by unfold maxLen; omega) rfl
 rw [World.size_alloc] at h1
 have h2 := World.ownsRow_lit (e := 3) (size := 1) w #[] 0 (Nat.le_refl _) (by unfold maxLen; omega) rfl
 refine ⟨[(.slice (some ⟨w.heap.size, 0, none⟩) 0 0, [])], rfl, own_mono h1 (by omega), (fun k e => by cases e; show w.heap.size + 1 < w.heap.size + 2; omega), ?_, List.pairwise_singleton _ _⟩
 intro p hp
 rw [List.mem_singleton] at hp
 subst hp
 exact ⟨own_mono (h2.alloc _) h, fun k e => by cases e; show w.heap.size < w.heap.size + 2; omega⟩
theorem row_kept {w w' : World} {lo n : Nat} {t : TypeId} {v : Value} {xs : List Value} (h : w.ownsRow lo t 1 v n xs) (g : w.grownBy w' none) : w'.ownsRow lo t 1 v n xs := h.kept g (by
 cases v.ownBlock with
 | none => exact .inl rfl
 | some k => exact .inr (fun e => by cases e))
def Un (w wr : World) (c : Nat) (n : Int) (F : List (List Int)) (rv : Value) (P : List Int) : Prop :=
 MidF w wr c n F [(w.heap.size + 1, .int .i64 0, .slice none 0 0)] ∧ wr.ownsRow w.heap.size 3 1 rv P.length (ints P)
theorem Un.kept {w wr w1 : World} {c : Nat} {n : Int} {F : List (List Int)} {rv : Value} {P : List Int} (h : Un w wr c n F rv P) (g : wr.grownBy w1 none) : Un w w1 c n F rv P := ⟨h.1.kept g, row_kept h.2 g⟩
theorem Un.put {w wr w1 : World} {c : Nat} {n : Int} {F G : List (List Int)} {rv : Value} {P : List Int} {qa : Option Addr} {qc : Nat} (h : Un w wr c n F rv P) (g : wr.grownBy w1 none) (o : OwnS wr.heap.size w1.heap.size w1 (.slice qa G.length qc) G) :
  ∃ a cap, Box 26 w1 c (.int .i64 n) (.slice a F.length cap) ∧ Un w ((w1.setCell ⟨c, 0, none⟩ (.int .i64 n)).setCell ⟨c, 1, none⟩ (.slice qa G.length qc)) c n G rv P := by
 obtain ⟨⟨hc, hg, hB, a, cap, hb, ho⟩, hr⟩ := h.kept g
 have g0 := h.1.grown.size
 refine ⟨a, cap, hb, ⟨hc, cf.grown_set (cf.grown_set hg hc) hc, fun b hb' => ⟨(hB b hb').1, ?_⟩, qa, qc, (hb.set0 _).set1 _, ?_⟩, ?_⟩
 ·exact ((hB b hb').2.setO (fun e => (hB b hb').1 e.symm)).setO (fun e => (hB b hb').1 e.symm)
 ·rw [cf.size_set, cf.size_set]
  exact (gr.ownS_set (gr.ownS_set o hb) (hb.set0 _)).sub g0 (Nat.le_refl _)
 ·exact gr.own_set (gr.own_set hr gr.ty2 hb) gr.ty2 (hb.set0 _)
theorem tot_fix (LL : List (List Int)) (P : List Int) : tot (fixA LL P) ≤ tot LL := by
 refine cs.snoc_ind (p := fun P => tot (fixA LL P) ≤ tot LL) (Nat.le_refl _) ?_ P
 intro P x ih
 rw [fixA_snoc]
 exact Nat.le_trans (fx.fixL_tot x _) ih
theorem un_step (LL : List (List Int)) (P : List Int) (k : Nat) (h : k < P.length) : fixA LL (P.take (k + 1)) = fixL (P.getD k 0) (fixA LL (P.take k)) := by
 rw [List.take_succ_eq_append_getElem h, fixA_snoc, show P.getD k 0 = P[k] by simp [h]]
theorem un_more (LL : List (List Int)) (P : List Int) (k : Nat) (h : k < P.length) : fixA LL P ++ (P.take (k + 1)).map (fun x => [x]) = (fixA LL P ++ (P.take k).map (fun x => [x])) ++ [[P.getD k 0]] := by
 rw [List.take_succ_eq_append_getElem h, List.map_append, show P.getD k 0 = P[k] by simp [h]]
 simp
theorem own_lit1 (w : World) (x : Int) : Own w.heap.size (w.heap.size + 1) (w.alloc (.cells #[.int .i64 x] 3)) (.slice (some ⟨w.heap.size, 0, none⟩) 1 1) [x] :=
 ⟨World.ownsRow_lit w #[.int .i64 x] 1 (Nat.le_refl _) (by unfold maxLen; omega) rfl, fun k e => by cases e; exact Nat.lt_succ_self _⟩
theorem Un.more {w wr w1 : World} {c g cap' : Nat} {n x : Int} {F : List (List Int)} {rv : Value} {P : List Int} {a : Option Addr} {cap : Nat} (hc : w.heap.size ≤ c) (hg : w.grownBy wr none) (hB : ∀ b ∈ [(w.heap.size + 1, Value.int .i64 0, Value.slice none 0 0)], b.1 ≠ c ∧ Box 26 wr b.1 b.2.1 b.2.2) (hb : Box 26 wr c (.int .i64 n) (.slice a F.length cap)) (ho : OwnS w.heap.size wr.heap.size wr (.slice a F.length cap) F) (hr : wr.ownsRow w.heap.size 3 1 rv P.length (ints P))
  (h1 : OwnS w.heap.size w1.heap.size w1 (.slice (some ⟨g, 0, none⟩) (F.length + 1) cap') (F ++ [[x]])) (g1 : ((wr.alloc (.cells #[.int .i64 x] 3)).alloc (.cells #[.slice (some ⟨wr.heap.size, 0, none⟩) 1 1] 31)).grownBy w1 (Value.slice a F.length cap).ownBlock) :
  (w1.cell? ⟨c, 1, none⟩ = some (.slice a F.length cap) ∧ w1.frozen? ⟨c, 1, none⟩ = false) ∧ Un w (w1.setCell ⟨c, 1, none⟩ (.slice (some ⟨g, 0, none⟩) (F.length + 1) cap')) c n (F ++ [[x]]) rv P := by
 have gA := World.grownBy_alloc wr (.cells #[.int .i64 x] 3) none
 have st := gr.MidF.step hc hg hB hb ho gA h1 g1
 have gB := grown_trans (r := none) gA (World.grownBy_alloc (wr.alloc (.cells #[.int .i64 x] 3)) (.cells #[.slice (some ⟨wr.heap.size, 0, none⟩) 1 1] 31) none)
 obtain ⟨D, _, hw, _⟩ := ho.kept gB
 have hr1 := (row_kept hr gB).kept g1 (css.own_ne' hw (row_kept hr gB))
 obtain ⟨_, _, hw2, _⟩ := st.2
 have hb1 : Box 26 w1 c (.int .i64 n) (.slice a F.length cap) := (hb.kept gB).by g1 (gr.box_ne hw gr.ty1 (hb.kept gB))
 exact ⟨⟨st.1.1, st.1.2.1⟩, st.2, gr.own_set hr1 gr.ty2 hb1⟩
def unL (LL : List (List Int)) : List (List Int) := if (frc (LL.map setOf) 49 (setOf []) []).2 then unR LL (frc (LL.map setOf) 49 (setOf []) []).1 else [[]]
theorem un_no {LL : List (List Int)} {P : List Int} (h : frc (LL.map setOf) 49 (setOf []) [] = (P, false)) : unL LL = [[]] := by
 unfold unL
 rw [h]
 rfl
theorem un_yes {LL : List (List Int)} {P : List Int} (h : frc (LL.map setOf) 49 (setOf []) [] = (P, true)) : unL LL = unR LL P := by
 unfold unL
 rw [h]
 rfl
set_option maxRecDepth 10000 in
set_option maxHeartbeats 4000000 in
theorem implUnits (v : Value) (n : Int) (LL : List (List Int)) (lo hi : Nat) (w : World) (hT : Tab w) (hn : tot LL ≤ 1048576) (hv : OwnS lo hi w v LL) :
  Calls Tryd.prog 13 #[.agg #[.int .i64 n, v]] w fun e w' => OutE (cnfB n LL) n (unL LL) w e w' := by
 obtain ⟨va, vc, rfl⟩ := hv.len
 obtain ⟨g0, b0, b1⟩ := ini_all w (.int .i64 n) (.slice va LL.length vc)
 have C := hide (ok.implCnfOk _ n LL _ hn (hv.kept g0).sls)
 have CF := hide (fun (w1 : World) (g : w.grownBy w1 none) => wm.implForce (.slice va LL.length vc) (.slice none 0 0) n LL [] 0 0 w1 (hT.kept g) hn (by simp) (hv.kept g).sls (own_none 0 0 w1))
 have CC := hide (fun (w1 : World) (g : w.grownBy w1 none) => ge.copyCnf (.slice va LL.length vc) n LL lo hi w1 hn (hv.kept g))
 have G0 := hide g0
 have B0 := hide b0
 have B1 := hide b1
 have TT := hide hT
 clear hv g0 b0 b1 hT
 go_enter Tryd.func13, Tryd.ntmps13
 go_wp2_with fail
 refine (unhide C).mono ?_; rintro e w1 ⟨rfl, g1⟩
 have G1 := hide (grown_trans (r := none) (unhide G0) g1)
 have bx0 := (unhide B0).kept g1
 have bx1 := (unhide B1).kept g1
 have x0 := bx0.c0
 have x1 := bx0.c1
 have y0 := bx1.c0
 have y1 := bx1.c1
 have y2 := bx1.f 0
 have y3 := bx1.f 1
 have X0 := hide bx0
 have X1 := hide bx1
 clear C g1 bx0 bx1 B0 B1 G0
 cases hb : cnfB n LL
 ·have E := hide hb
  clear hb
  go_wp2_with fail
  (try simp only [Exit.inBlock, Exit.then])
  exact out_no (unhide E) (unhide X1) (unhide G1) rfl rfl rfl rfl
 ·have E := hide hb
  have CF1 := unhide CF w1 (unhide G1)
  rw [force_nil hb] at CF1
  have IV := hide (fun h => frc_inv hb 49 (setOf []) [] (inv_zero n LL) h)
  clear hb CF
  generalize hq : frc (LL.map setOf) 49 (setOf []) [] = q at *
  obtain ⟨P, ob⟩ := q
  simp only at CF1 IV
  have HQ := hide hq
  have CF2 := hide CF1
  clear hq CF1
  go_wp2_with fail
  refine (unhide CF2).mono ?_; rintro e w2 ⟨rv, rfl, m2⟩
  obtain ⟨ra, rc, erv, _⟩ := Sl.of_own m2.1
  subst erv
  have G2 := hide (grown_trans (r := none) (unhide G1) m2.2)
  have bx0 := (unhide X0).kept m2.2
  have bx1 := (unhide X1).kept m2.2
  clear x0 x1 y0 y1 y2 y3
  have x0 := bx0.c0
  have x1 := bx0.c1
  have y0 := bx1.c0
  have y1 := bx1.c1
  have y2 := bx1.f 0
  have y3 := bx1.f 1
  have Y1 := hide bx1
  have R2 := hide (own_mono m2.1 (unhide G1).size)
  clear bx0 bx1 m2 CF2 X0 X1
  cases ob
  ·have OE := hide (own_e w2 w.heap.size (unhide G2).size)
   have gA := grown_trans (r := none) (World.grownBy_alloc w2 (.cells #[] 3) none) (World.grownBy_alloc (w2.alloc (.cells #[] 3)) (.cells #[.slice (some ⟨w2.heap.size, 0, none⟩) 0 0] 31) none)
   have bA := (unhide Y1).kept gA
   have a0 := bA.c0
   have a1 := bA.c1
   have a2 := bA.f 0
   have a3 := bA.f 1
   have BA := hide bA
   have GA := hide (grown_trans (r := none) (unhide G2) gA)
   clear gA bA CC R2
   go_wp2_with fail
   (try simp only [Exit.inBlock, Exit.then])
   have oe := unhide OE
   refine out_end (unhide E) (unhide BA) (unhide GA) ?_ rfl rfl rfl rfl
   rw [World.size_alloc, World.size_alloc, un_no (unhide HQ)]
   exact oe
  ·obtain ⟨T9, iv⟩ := unhide IV rfl
   have hP1 : P.length ≤ 120 := by
    have h1 := iv.c
    have h2 := (cnf_parts.1 (unhide E)).2.1
    omega
   have C2 := hide (unhide CC w2 (unhide G2))
   have LI := hide iv.l
   clear CC IV iv
   go_wp2_with fail
   refine (unhide C2).mono ?_; rintro e w3 ⟨u, rfl, o3, g3⟩
   obtain ⟨ua, uc, rfl⟩ := o3.len
   have b3 := (unhide Y1).kept g3
   have gB := World.grownBy_alloc w3 (.cells #[.int .i64 n, .slice ua LL.length uc] 26) none
   have l3 := b3.lt
   have U0 := hide (show Un w (w3.alloc (.cells #[.int .i64 n, .slice ua LL.length uc] 26)) w3.heap.size n (fixA LL (P.take 0)) (.slice ra P.length rc) P from
    ⟨⟨(grown_trans (r := none) (unhide G2) g3).size, grown_trans (grown_trans (r := none) (unhide G2) g3) gB, fun b hb' => (by
     rw [List.mem_singleton] at hb'
     subst hb'
     exact ⟨by show w.heap.size + 1 ≠ w3.heap.size; omega, b3.kept gB⟩), ua, uc, Box.new _ _ _ _, ((o3.kept gB).sub (unhide G2).size gB.size)⟩, row_kept (row_kept (unhide R2) g3) gB⟩)
   clear o3 g3 b3 gB l3 C2 R2 x0 x1 y0 y1 y2 y3 Y1 G1 G2
   go_wp2_with fail
   generalize w3.heap.size = c at *
   generalize hW3 : w3.alloc (.cells #[.int .i64 n, .slice ua LL.length uc] 26) = W3 at *
   clear hW3
   go_loopw [31] (fun i wr => ∃ k : Nat, k ≤ P.length ∧ i = .int .i64 k ∧ Hid (Un w wr c n (fixA LL (P.take k)) (.slice ra P.length rc) P)) (fun i _ => P.length - (intOf i).toNat)
   case atStart => exact ⟨0, Nat.zero_le _, rfl, U0⟩
   case round =>
    obtain ⟨k, hk, rfl, hu⟩ := hrel
    clear U0
    by_cases hlt : k < P.length
    ·have hi' : (k : Int) < (P.length : Int) := by omega
     obtain ⟨a', cap', e', hcl⟩ := Sl.of_own (unhide hu).2
     cases e'
     rcases hcl with h | ⟨b, off, rfl, hb, hcb⟩
     ·rw [h] at hlt
      simp at hlt
     ·have c1 := hcb k hlt
      have st := un_step LL P k hlt
      have li : litIn n (P.getD k 0) = true := unhide LI _ (by rw [show P.getD k 0 = P[k] by simp [hlt]]; exact List.getElem_mem hlt)
      have fo := fixA_ok (unhide E) (P.take k)
      have ft := Nat.le_trans (tot_fix LL (P.take k)) hn
      have mf := (unhide hu).1
      generalize P.getD k 0 = x at *
      generalize fixA LL (P.take k) = F at *
      obtain ⟨q0, q1, q2, oa, ocap, q3, q4⟩ := mf
      have fb : fx.fixB n F x = true := by unfold fx.fixB; rw [fo, li]; rfl
      obtain ⟨fn, fr⟩ := fx.fix_yes fb
      have FX := fx.implFix (.slice oa F.length ocap) n x F wr ft q4.sls
      rw [fn, fr, fb] at FX
      have FX' := hide FX
      have z0 := q3.c0
      have z1 := q3.c1
      have HT := hide st
      clear hcb q0 q1 q2 q3 q4 fb fn fr FX st li fo ft
      go_wp2_with fail
      refine (unhide FX').mono ?_; rintro e w4 ⟨u4, rfl, o4, g4⟩
      obtain ⟨pa, pc, rfl⟩ := o4.len
      obtain ⟨xa, xc, bx4, un4⟩ := (unhide hu).put g4 o4
      have s0 := bx4.c0
      have s1 := bx4.c1
      have s2 := bx4.f 0
      have s3 := bx4.f 1
      have UN := hide un4
      clear o4 g4 bx4 un4 FX' z0 z1 hu
      go_wp2_with fail
      go_roundw
      case rel => exact ⟨k + 1, by omega, by go_num, by rw [unhide HT]; exact UN⟩
      case measure => simp [intOf]; omega
    ·have hi' : ¬ (k : Int) < (P.length : Int) := by omega
     have e : P.take k = P := List.take_of_length_le (by omega)
     rw [e] at hu
     have U2 := hide (show Un w wr c n (fixA LL P ++ (P.take 0).map (fun x => [x])) (.slice ra P.length rc) P by rw [List.take_zero, List.map_nil, List.append_nil]; exact unhide hu)
     clear e hu
     go_wp2_with fail
     go_loopw [44] (fun i wr => ∃ k : Nat, k ≤ P.length ∧ i = .int .i64 k ∧ Hid (Un w wr c n (fixA LL P ++ (P.take k).map (fun x => [x])) (.slice ra P.length rc) P)) (fun i _ => P.length - (intOf i).toNat)
     case atStart => exact ⟨0, Nat.zero_le _, rfl, U2⟩
     case round =>
      obtain ⟨k, hk, rfl, hu⟩ := hrel
      clear U2
      by_cases hlt : k < P.length
      ·have hi' : (k : Int) < (P.length : Int) := by omega
       obtain ⟨a', cap', e', hcl⟩ := Sl.of_own (unhide hu).2
       cases e'
       rcases hcl with h | ⟨b, off, rfl, hb, hcb⟩
       ·rw [h] at hlt
        simp at hlt
       ·have c1 := hcb k hlt
        have st := un_more LL P k hlt
        have fl : (fixA LL P ++ (P.take k).map (fun x => [x])).length ≤ 1048576 := by
         have h1 := (cnf_parts.1 (fixA_ok (unhide E) P)).2.1
         rw [List.length_append, List.length_map, List.length_take]
         omega
        generalize P.getD k 0 = x at *
        have hun := unhide hu
        generalize fixA LL P ++ (P.take k).map (fun x => [x]) = F at *
        obtain ⟨⟨q0, q1, q2, oa, ocap, q3, q4⟩, q5⟩ := hun
        have z0 := q3.c0
        have z1 := q3.c1
        have gA := World.grownBy_alloc wr (.cells #[.int .i64 x] 3) none
        have z2 := ((q3.kept gA).kept (World.grownBy_alloc (wr.alloc (.cells #[.int .i64 x] 3)) (.cells #[.slice (some ⟨wr.heap.size, 0, none⟩) 1 1] 31) none)).c1
        have OA := hide (q4.kept gA)
        have OL := hide (show Own wr.heap.size (wr.alloc (.cells #[.int .i64 x] 3)).heap.size (wr.alloc (.cells #[.int .i64 x] 3)) (.slice (some ⟨wr.heap.size, 0, none⟩) 1 1) [x] by rw [World.size_alloc]; exact own_lit1 wr x)
        have Q0 := hide q0
        have Q1 := hide q1
        have Q2 := hide q2
        have Q3 := hide q3
        have Q4 := hide q4
        have Q5 := hide q5
        have SA := hide gA.size
        have HT := hide st
        clear hcb q0 q1 q2 q3 q4 q5 gA st hu
        go_wp2_with (at_builtin; refine gr.appendR (unhide OA) (unhide OL) (unhide Q1).size (unhide SA) fl rfl _ _ rfl rfl (by rw [World.size_alloc]; rfl) ?_)
        intro g5 cap5 w5 h5 g5'
        have R5 := hide (Un.more (unhide Q0) (unhide Q1) (unhide Q2) (unhide Q3) (unhide Q4) (unhide Q5) h5 g5')
        have k3 := (unhide R5).1.1
        have k4 := (unhide R5).1.2
        clear h5 g5'
        go_wp2_with fail
        go_roundw
        case rel => exact ⟨k + 1, by omega, by go_num, by rw [unhide HT]; exact (unhide R5).2⟩
        case measure => simp [intOf]; omega
      ·have hi' : ¬ (k : Int) < (P.length : Int) := by omega
       have e : P.take k = P := List.take_of_length_le (by omega)
       rw [e] at hu
       have hun := unhide hu
       have eu := un_yes (unhide HQ)
       unfold unR at eu
       have EU := hide eu
       generalize fixA LL P ++ P.map (fun x => [x]) = F at *
       have br := hun.1.box (w.heap.size + 1) (.int .i64 0) (.slice none 0 0) (by simp)
       obtain ⟨⟨q0, q1, q2, oa, ocap, q3, q4⟩, q5⟩ := hun
       have r0 := br.c0
       have r1 := br.c1
       have rf0 := br.f 0
       have rf1 := br.f 1
       have o0 := q3.c0
       have o1 := q3.c1
       have BR := hide br
       have Q1 := hide q1
       have Q4 := hide q4
       clear hu e eu q0 q1 q2 q3 q4 q5 br
       go_wp2_with fail
       (try simp only [Exit.inBlock, Exit.then])
       refine out_end (unhide E) (unhide BR) (unhide Q1) ?_ rfl rfl rfl rfl
       rw [unhide EU]
       exact unhide Q4
end Go.Proofs.YtibpnocpafppaaaDoor.hb
