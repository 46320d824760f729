/- What impl.Fix answers at every formula that holds at most 2^20 values and every number, with the clauses in memory of their own; no other condition. -/
import Derived.Test.YtibpnocpafppaaaDoorJXFy
namespace Go.Proofs.YtibpnocpafppaaaDoor.fx
open Go.ChangeShapes Go.WideShapes Go.ChangeAt Go.RowKit
open lits (okB varI)
open cls (hasB)
open wo (woL)
open sl (Sl Own ints hide unhide ret_int ret_bool grown_refl grown_trans grown_drewN below_of of_below)
open css (Sls OwnS Outs tot)
open cf (Box)
open gr (MidF)
open ok (cnfB litIn)
set_option linter.unusedVariables false
attribute [local go_sem ↓] Go.wp_at_zero Go.wp_at_succ
theorem midA {w w2 : World} {n : Int} {len : Nat} {Bs : List (Nat × Value × Value)} (g : w.grownBy w2 none) (hl : len ≤ 1048576) (hB : ∀ b ∈ Bs, Box 26 w2 b.1 b.2.1 b.2.2) :
  MidF w ((w2.alloc (.cells (madeCells #[.slice none 0 0] len) 31)).alloc (.cells #[.int .i64 n, .slice (some ⟨w2.heap.size, 0, none⟩) 0 len] 26)).drew (w2.heap.size + 1) n [] Bs := by
 have gs := g.size
 have g1 := World.grownBy_alloc w2 (.cells (madeCells #[.slice none 0 0] len) 31) none
 have g2 := World.grownBy_alloc (w2.alloc (.cells (madeCells #[.slice none 0 0] len) 31)) (.cells #[.int .i64 n, .slice (some ⟨w2.heap.size, 0, none⟩) 0 len] 26) none
 have gd := cf.grown_drew ((w2.alloc (.cells (madeCells #[.slice none 0 0] len) 31)).alloc (.cells #[.int .i64 n, .slice (some ⟨w2.heap.size, 0, none⟩) 0 len] 26)) none
 have gg := grown_trans (r := none) (grown_trans (r := none) g1 g2) gd
 refine ⟨by omega, grown_trans g gg, fun b hb => ⟨?_, (hB b hb).kept gg⟩, some ⟨w2.heap.size, 0, none⟩, len, ?_, ?_⟩
 ·have := (hB b hb).lt
  omega
 ·have := (Box.new 26 (w2.alloc (.cells (madeCells #[.slice none 0 0] len) 31)) (.int .i64 n) (.slice (some ⟨w2.heap.size, 0, none⟩) 0 len)).kept gd
  rw [World.size_alloc] at this
  exact this
 ·exact (((gr.ownS_made w2 len w.heap.size gs hl).kept g2).kept gd).sub (Nat.le_refl _) (by show _ ≤ (World.alloc _ _).heap.size; rw [World.size_alloc, World.size_alloc]; omega)
theorem midB {w w2 : World} {n : Int} {len : Nat} {Bs : List (Nat × Value × Value)} (g : w.grownBy w2 none) (hl : len ≤ 1048576) (hB : ∀ b ∈ Bs, Box 26 w2 b.1 b.2.1 b.2.2) :
  MidF w ((w2.alloc (.cells #[.int .i64 n, .slice (some ⟨w2.heap.size + 1, 0, none⟩) 0 len] 26)).alloc (.cells (madeCells #[.slice none 0 0] len) 31)).drew w2.heap.size n [] Bs := by
 have gs := g.size
 have g1 := World.grownBy_alloc w2 (.cells #[.int .i64 n, .slice (some ⟨w2.heap.size + 1, 0, none⟩) 0 len] 26) none
 have g2 := World.grownBy_alloc (w2.alloc (.cells #[.int .i64 n, .slice (some ⟨w2.heap.size + 1, 0, none⟩) 0 len] 26)) (.cells (madeCells #[.slice none 0 0] len) 31) none
 have gd := cf.grown_drew ((w2.alloc (.cells #[.int .i64 n, .slice (some ⟨w2.heap.size + 1, 0, none⟩) 0 len] 26)).alloc (.cells (madeCells #[.slice none 0 0] len) 31)) none
 have gg := grown_trans (r := none) (grown_trans (r := none) g1 g2) gd
 refine ⟨by omega, grown_trans g gg, fun b hb => ⟨?_, (hB b hb).kept gg⟩, some ⟨w2.heap.size + 1, 0, none⟩, len, ?_, ?_⟩
 ·have := (hB b hb).lt
  omega
 ·exact ((Box.new 26 w2 (.int .i64 n) (.slice (some ⟨w2.heap.size + 1, 0, none⟩) 0 len)).kept g2).kept gd
 ·have := gr.ownS_made (w2.alloc (.cells #[.int .i64 n, .slice (some ⟨w2.heap.size + 1, 0, none⟩) 0 len] 26)) len w.heap.size (by rw [World.size_alloc]; omega) hl
  rw [World.size_alloc] at this
  exact (this.kept gd).sub (Nat.le_refl _) (by show _ ≤ (World.alloc _ _).heap.size; rw [World.size_alloc, World.size_alloc]; omega)
set_option maxHeartbeats 4000000 in
theorem implFix (v : Value) (n x : Int) (LL : List (List Int)) (w : World) (hn : tot LL ≤ 1048576) (hv : Sls w v LL) :
  Calls Tryd.prog 58 #[.agg #[.int .i64 n, v], .int .i64 x] w fun e w' => ∃ u, e = .returned (.tuple #[.agg #[.int .i64 (fixN n LL x), u], .bool (fixB n LL x)]) ∧ OwnS w.heap.size w'.heap.size w' u (fixR n LL x) ∧ w.grownBy w' none := by
 have hl := Nat.le_trans (css.tot_len LL) hn
 have cc := ok.implCnfOk v n LL (ini w n v) hn (hv.kept (ini_grown w n v))
 have cx := ok.literalOf x n
 have I0 := hide (ini_grown w n v)
 have I1 := hide (ini_box0 w n v)
 have I2 := hide (ini_box1 w n v)
 unfold ini at cc I0 I1 I2
 cases hb : cnfB n LL
 ·rw [hb] at cc
  have CC := hide cc
  have E := hide (show fixB n LL x = false by unfold fixB; rw [hb]; rfl)
  clear cc cx hb hv
  go_enter Tryd.func58, Tryd.ntmps58
  go_wp2_with fail
  refine (unhide CC).mono ?_; rintro e w2 ⟨rfl, g2⟩
  have b2 := (unhide I2).kept g2
  have r0 := b2.c0
  have r1 := b2.c1
  have f0 := b2.f 0
  have f1 := b2.f 1
  have B2 := hide b2
  have G2 := hide (grown_trans (r := none) (unhide I0) g2)
  clear b2 g2
  go_wp2_with fail
  (try simp only [Exit.inBlock, Exit.then])
  exact ret_no' (unhide B2) (unhide G2) (unhide E) rfl (by rfl) (by rfl) (by rfl)
 ·rw [hb] at cc
  have CC := hide cc
  cases hx : litIn n x
  ·rw [hx] at cx
   have CX := hide cx
   have E := hide (show fixB n LL x = false by unfold fixB; rw [hx]; simp)
   clear cc cx hb hx hv
   go_enter Tryd.func58, Tryd.ntmps58
   go_wp2_with fail
   refine (unhide CC).mono ?_; rintro e w2 ⟨rfl, g2⟩
   have b2 := (unhide I2).kept g2
   have r0 := b2.c0
   have r1 := b2.c1
   have f0 := b2.f 0
   have f1 := b2.f 1
   have k0 := ((unhide I1).kept g2).c0
   have B2 := hide b2
   have G2 := hide (grown_trans (r := none) (unhide I0) g2)
   clear b2 g2
   go_wp2_with (go_at_call 116; refine (unhide CX _).mono ?_; rintro e w3 ⟨rfl, rfl⟩)
   (try simp only [Exit.inBlock, Exit.then])
   exact ret_no' (unhide B2) (unhide G2) (unhide E) rfl (by rfl) (by rfl) (by rfl)
  ·rw [hx] at cx
   have CX := hide cx
   have HX := hide (litIn_bd hx)
   have E := hide (show fixB n LL x = true by unfold fixB; rw [hb, hx]; rfl)
   obtain ⟨a, cap, rfl, ha⟩ := hv
   have HA := hide ha
   clear cc cx hb hx ha
   go_enter Tryd.func58, Tryd.ntmps58
   go_wp2_with fail
   refine (unhide CC).mono ?_; rintro e w2 ⟨rfl, g2⟩
   have b1 := (unhide I1).kept g2
   have b2 := (unhide I2).kept g2
   have k0 := b1.c0
   have k1 := b1.c1
   have BB : Hid (∀ b ∈ [(w.heap.size, Value.int .i64 n, Value.slice a LL.length cap), (w.heap.size + 1, Value.int .i64 0, Value.slice none 0 0)], Box 26 w2 b.1 b.2.1 b.2.2) := by
    intro b hb
    simp only [List.mem_cons, List.not_mem_nil, or_false] at hb
    rcases hb with rfl | rfl
    ·exact b1
    ·exact b2
   have G2 := hide (grown_trans (r := none) (unhide I0) g2)
   clear b2 b1 g2 CC I0 I1 I2
   go_upto_region 3 with (go_at_call 116; refine (unhide CX _).mono ?_; rintro e w3 ⟨rfl, hw⟩; have hw' := hw.symm; clear hw; subst hw')
   go_cut [6] (fun p wx => ∃ c, p = .pointer (some ⟨c, 0, none⟩) ∧ Hid (MidF w wx c n [] [(w.heap.size, Value.int .i64 n, Value.slice a LL.length cap), (w.heap.size + 1, Value.int .i64 0, Value.slice none 0 0)]))
   case first =>
    have hmk := gr.mk0 LL.length hl
    have hp : (0 : Int) ≤ (LL.length : Int) := Int.natCast_nonneg _
    have MA := hide (midA (n := n) (unhide G2) hl (unhide BB))
    have MB := hide (midB (n := n) (unhide G2) hl (unhide BB))
    clear BB G2 HA HX E CX
    have ne0 := World.new_ne w2 _ k0
    have ne1 := World.new_ne w2 _ k1
    go_region_held3 (fun w' => w'.cell? ⟨w.heap.size, 0, none⟩ = some (.int .i64 n) ∧ w'.cell? ⟨w.heap.size, 1, none⟩ = some (.slice a LL.length cap)) (go_keep) (fail)
    all_goals go_wp2_with fail
    ·go_meet
     exact ⟨_, rfl, MA⟩
    ·go_meet
     exact ⟨_, rfl, MB⟩
   case rest =>
    obtain ⟨c, rfl, hm0⟩ := hcut
    have bf0 := (unhide hm0).box w.heap.size (.int .i64 n) (.slice a LL.length cap) (by simp)
    have z0 := bf0.c0
    have z1 := bf0.c1
    clear bf0 BB G2 CX k0 k1
    go_wp2_with fail
    go_loopw [30] (fun i wr => ∃ k : Nat, k ≤ LL.length ∧ i = .int .i64 k ∧ Hid (MidF w wr c n (fixL x (LL.take k)) [(w.heap.size, Value.int .i64 n, Value.slice a LL.length cap), (w.heap.size + 1, Value.int .i64 0, Value.slice none 0 0)])) (fun i _ => LL.length - (intOf i).toNat)
    case atStart => exact ⟨0, Nat.zero_le _, rfl, hm0⟩
    case round =>
     obtain ⟨k, hk, rfl, hm⟩ := hrel
     clear hm0 z0 z1
     by_cases hlt : k < LL.length
     ·rcases unhide HA with h | ⟨b, off, rfl, hb, hcb⟩
      ·rw [h] at hlt
       simp at hlt
      ·obtain ⟨u, hu, hs⟩ := hcb k hlt
       have hg := (unhide hm).grown
       have c1 : wr.cell? ⟨b, off + k, none⟩ = some u := hg.cell hu (fun e => by cases e)
       have hs1 := hs.kept hg (.inl rfl)
       have hi' : (k : Int) < (LL.length : Int) := by omega
       have h1 := fixL_keep x LL k hlt
       have h2 := fixL_drop x LL k hlt
       have hL := Nat.le_trans (css.tot_in LL k) hn
       have hM : (fixL x (LL.take k)).length ≤ 1048576 := Nat.le_trans (fixL_len _ _) (by rw [List.length_take]; omega)
       generalize LL.getD k [] = L at *
       have cx := cls.implClauseHas u L x wr hL hs1
       cases hb' : hasB L x
       ·rw [hb'] at cx
        have CX := hide cx
        have H := hide (h1 hb')
        have C2 := hide (implWo u L x _ wr.drew (wrap_neg (unhide HX).2) hL (hs1.kept (cf.grown_drew wr none) (.inl rfl)))
        clear cx h1 h2 hb' hcb HA hs hs1 hu hg
        obtain ⟨q0, q1, q2, oa, ocap, q3, q4⟩ := unhide hm
        have o1 := q3.c1
        have of1 := q3.f 1
        generalize fixL x (LL.take k) = M at *
        have Q0 := hide q0
        have Q1 := hide q1
        have Q2 := hide q2
        have Q3 := hide q3
        have Q4 := hide q4
        clear hm q0 q1 q2 q3 q4
        go_wp2_with fail
        refine (unhide CX).mono ?_; rintro e w1 ⟨rfl, hw⟩
        have hw' := hw.symm
        clear hw
        subst hw'
        go_wp2_with fail
        clear CX
        go_region_law
         (first
          | (go_simp; go_at_call 117; refine (unhide C2).mono ?_; rintro e w2 ⟨u2, rfl, o2, g2⟩; obtain ⟨ua, uc, rfl, _⟩ := (sl.Own.of o2).sl; have G2 := hide (grown_trans (r := none) (cf.grown_drew wr none) g2); have U2 := hide (sl.Own.of o2); have k1 := ((unhide Q3).kept (unhide G2)).c1; have k2 := ((unhide Q3).kept (unhide G2)).f 1; have k9 := (((unhide Q3).kept (unhide G2)).kept (World.grownBy_alloc w2 (.cells #[.slice ua (woL L (-x)).length uc] 31) none)).c1; clear o2 g2)
          | (refine gr.stepR ((unhide Q4).kept (unhide G2)) (unhide U2) (unhide Q1).size (unhide G2).size hM (by rfl) _ _ (by rfl) (by rfl) (by rfl) ?_; intro g3 cap3 w3 h3 g3'; have R3 := hide (gr.MidF.step (unhide Q0) (unhide Q1) (unhide Q2) (unhide Q3) (unhide Q4) (unhide G2) h3 g3'); have k3 := (unhide R3).1.1; have k4 := (unhide R3).1.2.1; clear h3 g3'))
        all_goals
         go_wp2_with fail
         go_roundw
         case rel => exact ⟨k + 1, by omega, by go_num, by rw [unhide H]; exact (unhide R3).2⟩
         case measure => simp [intOf]; omega
       ·rw [hb'] at cx
        have CX := hide cx
        have H := hide (h2 hb')
        clear cx h1 h2 hb' hcb HA hs hs1 hu hg
        go_wp2_with fail
        refine (unhide CX).mono ?_; rintro e w1 ⟨rfl, hw⟩
        have hw' := hw.symm
        clear hw
        subst hw'
        go_wp2_with fail
        go_roundw
        case rel => exact ⟨k + 1, by omega, by go_num, by rw [unhide H]; exact hm⟩
        case measure => simp [intOf]; omega
     ·have hi' : ¬ (k : Int) < (LL.length : Int) := by omega
      have e : LL.take k = LL := List.take_of_length_le (by omega)
      rw [e] at hm
      have br := (unhide hm).box (w.heap.size + 1) (.int .i64 0) (.slice none 0 0) (by simp)
      obtain ⟨q0, q1, q2, oa, ocap, q3, q4⟩ := unhide hm
      have r0 := br.c0
      have r1 := br.c1
      have rf0 := br.f 0
      have rf1 := br.f 1
      have o0 := q3.c0
      have o1 := q3.c1
      have BR := hide br
      have Q1 := hide q1
      have Q4 := hide q4
      clear HA hm e q0 q1 q2 q3 q4 br
      go_wp2
      (try simp only [Exit.inBlock, Exit.then])
      refine bodyPost_ret (cf.ret_box2 rfl rfl (((unhide BR).set0 (.int .i64 n)).set1 (.slice oa (fixL x LL).length ocap))) rfl ⟨.slice oa (fixL x LL).length ocap, ?_, ?_, ?_⟩
      ·rw [(fix_yes (unhide E)).1, unhide E]
       rfl
      ·rw [(fix_yes (unhide E)).2, cf.size_set, cf.size_set]
       exact gr.ownS_set (gr.ownS_set (unhide Q4) (unhide BR)) ((unhide BR).set0 (.int .i64 n))
      ·exact cf.grown_set (cf.grown_set (unhide Q1) (by omega)) (by omega)
theorem tot_cons (L : List Int) (l : List (List Int)) : tot (L :: l) = tot l + L.length + 1 := by
 unfold css.tot
 simp
 omega
theorem fixL_tot (x : Int) (LL : List (List Int)) : tot (fixL x LL) ≤ tot LL := by
 induction LL with
 | nil => exact Nat.le_refl _
 | cons L l ih =>
  have e : fixL x (L :: l) = if hasB L x then fixL x l else woL L (-x) :: fixL x l := by
   unfold fixL
   rw [List.filter_cons]
   cases hasB L x <;> simp
  rw [e, tot_cons]
  have hl := wo.woL_le L (-x)
  split
  ·omega
  ·rw [tot_cons]
   omega
end Go.Proofs.YtibpnocpafppaaaDoor.fx
