/- AtMost, AtLeast and Exactly of the model, at any number and any list of at most 2^20 numbers. -/
import Derived.Test.YtfhmdpbnnieohaaDoorJXTg
import Derived.Test.YtfhmdpbnnieohaaDoorJPu
import Derived.Test.YtfhmdpbnnieohaaDoorJPt
import Derived.Test.YtfhmdpbnnieohaaDoorJXNs
namespace Go.Proofs.YtfhmdpbnnieohaaDoor.t2
open Go.ChangeShapes Go.WideShapes Go.ChangeAt Go.RowKit
open lits (okB okB_iff)
open sl (Sl Own ints hide unhide ret_int ret_bool grown_refl grown_trans grown_drewN)
open css (Sls OwnS tot Apart own_ne own_ne' own_kind own_mono)
open cf (Box)
open wo (Made)
open sp (negL)
set_option linter.unusedVariables false
theorem told_whole (L : List Int) (m : Nat) : told [] L m 0 = subs L m := by
 unfold told
 simp
theorem most_end {L : List Int} {k : Int} (h : (L.length : Int) ≤ k) : mostC L k = [] := by
 unfold mostC
 exact subs_none _ _ (by unfold negL; rw [List.length_map]; omega)
theorem least_low {L : List Int} {k : Int} (h : k < 1) : leastC L k = [] := by
 unfold leastC
 exact subs_none _ _ (by omega)
theorem least_top {L : List Int} {k : Int} (h : (L.length : Int) < k) : leastC L k = [[]] := by
 unfold leastC
 rw [show L.length + 1 - (max 0 (min k ((L.length : Int) + 1))).toNat = 0 by omega]
 exact subs_zero L
theorem oneS {w w1 : World} {u : Value} {L : List Int} (h : Made w w1 u L) : OwnS w.heap.size (w1.alloc (.cells #[u] 30)).heap.size (w1.alloc (.cells #[u] 30)) (.slice (some ⟨w1.heap.size, 0, none⟩) 1 1) [L] ∧ w.grownBy (w1.alloc (.cells #[u] 30)) none := by
 have g := World.grownBy_alloc w1 (.cells #[u] 30) none
 refine ⟨⟨[(u, L)], rfl, ?_, ?_, ?_, List.pairwise_singleton _ _⟩, grown_trans h.2 g⟩
 ·exact own_mono (World.ownsRow_lit w1 #[u] 1 (Nat.le_refl _) (by decide) rfl) h.2.size
 ·intro k e
  cases e
  rw [World.size_alloc]
  exact Nat.lt_succ_self _
 ·intro p hp
  rw [List.mem_singleton] at hp
  subst hp
  have hu := (Own.of h.1).kept g
  exact ⟨hu.1, fun k e => by rw [World.size_alloc]; exact Nat.lt_succ_of_lt (hu.2 k e)⟩
theorem gather (w1 : World) (u : Value) (L : List Int) (m : Nat) (hL : L.length ≤ 1048575) (hm : m ≤ 1048576) (hu : Sl w1 u L) (y : Int) (hy : y = (m : Int)) :
  Calls Tryd.prog 76 #[u, .int .i64 y, .int .i64 0, .slice (some ⟨w1.heap.size, 0, none⟩) 0 0, .slice (some ⟨w1.heap.size + 1, 0, none⟩) 0 0] ((w1.alloc (.cells #[] 3)).alloc (.cells #[] 30)) fun e w' =>
   ∃ a n c, e = .returned (.tuple #[.slice a n c, .bool (decide ((subs L m).length ≤ 120))]) ∧ w1.grownBy w' none ∧ ((subs L m).length ≤ 120 → OwnS w1.heap.size w'.heap.size w' (.slice a n c) (subs L m)) := by
 subst hy
 have m1 := app.made_nil w1
 have g2 := World.grownBy_alloc (w1.alloc (.cells #[] 3)) (.cells #[] 30) none
 have o2 := rq.nilS (w1.alloc (.cells #[] 3))
 rw [World.size_alloc (w := w1)] at o2
 have P := (Own.of m1.1).kept g2
 have C := subsets u L (by omega) w1 (fun w' g => hu.kept g (.inl rfl)) m _ 0 _ _ [] [] _ _ hm (Nat.zero_le _) (by simpa using hm) (by simp) P (grown_trans m1.2 g2) (o2.sub (Nat.le_succ _) (Nat.le_refl _))
 rw [told_whole] at C
 refine C.mono ?_
 rintro e w' ⟨a, n, c, b, rfl, hb, g, h⟩
 rw [List.length_nil, Nat.zero_add] at hb
 refine ⟨a, n, c, by rw [hb], g, fun hl => ?_⟩
 exact (h (hb.trans (decide_eq_true hl))).1
theorem ans_lit {W0 w : World} {CC : List (List Int)} (g : W0.grownBy w none) (h : CC = []) : AnsE W0 true CC (.returned (.tuple #[.slice (some ⟨w.heap.size, 0, none⟩) 0 0, .bool true])) (w.alloc (.cells #[] 30)) := by
 subst h
 exact ⟨_, rfl, ⟨[], rfl, own_mono (World.ownsRow_lit w #[] 0 (Nat.le_refl _) (Nat.zero_le _) rfl) g.size, (fun k e => by cases e; rw [World.size_alloc]; exact Nat.lt_succ_self _), (fun p hp => by cases hp), .nil⟩, grown_trans g (World.grownBy_alloc _ _ _)⟩
theorem ans_gat {W0 w1 w2 : World} {CC : List (List Int)} {a : Option Addr} {n c : Nat} (g : W0.grownBy w1 none) (g2 : w1.grownBy w2 none) (o : OwnS w1.heap.size w2.heap.size w2 (.slice a n c) CC) : AnsE W0 true CC (.returned (.tuple #[.slice a n c, .bool true])) w2 :=
 ⟨_, rfl, o.sub g.size (Nat.le_refl _), grown_trans g g2⟩
theorem mostB_at {L : List Int} {k : Int} (hl : listB L = true) (hk : 0 ≤ k) : mostB L k = decide ((mostC L k).length ≤ 120) := by
 unfold mostB
 rw [hl, decide_eq_true hk]
 rfl
theorem leastB_at {L : List Int} {k : Int} (hl : listB L = true) : leastB L k = decide ((leastC L k).length ≤ 120) := by
 unfold leastB
 rw [hl]
 rfl
set_option maxRecDepth 10000 in
set_option maxHeartbeats 4000000 in
theorem specAtMost (k : Int) (u : Value) (L : List Int) (w : World) (hL : L.length ≤ 1048576) (hu : Sl w u L) :
  Calls Tryd.prog 55 #[u, .int .i64 k] w fun e w' => AnsE w (mostB L k) (mostC L k) e w' := by
 have cl := l13List u L w hL hu
 have U := hide hu
 obtain ⟨ua, uc, rfl, _⟩ := hu
 cases hl : listB L
 ·have E : mostB L k = false := by unfold mostB; rw [hl]; rfl
  rw [hl] at cl
  rw [E]
  have CL := hide cl
  clear cl hl E
  go_enter Tryd.func55, Tryd.ntmps55
  go_wp2_with fail
  refine (unhide CL).mono ?_; rintro e w' ⟨rfl, hw⟩; have hw' := hw.symm; clear hw; subst hw'
  go_wp2_with fail
  go_ret2
  exact ans_no (grown_refl _)
 ·rw [hl] at cl
  have CL := hide cl
  have lo_ := list_ok hl
  by_cases hk : k < 0
  ·have E : mostB L k = false := by unfold mostB; rw [decide_eq_false (show ¬ 0 ≤ k by omega)]; simp
   rw [E]
   clear cl hl E
   go_enter Tryd.func55, Tryd.ntmps55
   go_wp2_with fail
   refine (unhide CL).mono ?_; rintro e w' ⟨rfl, hw⟩; have hw' := hw.symm; clear hw; subst hw'
   go_wp2_with fail
   go_ret2
   exact ans_no (grown_refl _)
  ·by_cases hq : (L.length : Int) ≤ k
   ·have E : mostB L k = true := by rw [mostB_at hl (by omega), most_end hq]; rfl
    have E2 := hide (most_end hq)
    rw [E]
    clear cl hl E
    go_enter Tryd.func55, Tryd.ntmps55
    go_wp2_with fail
    refine (unhide CL).mono ?_; rintro e w' ⟨rfl, hw⟩; have hw' := hw.symm; clear hw; subst hw'
    go_wp2_with fail
    go_ret2
    exact ans_lit (grown_refl _) (unhide E2)
   ·have OP := hide (sp.l04Opposite _ L w hL lo_.2 (unhide U))
    have GA0 := fun (w1 : World) (q : Value) (o : Made w w1 q (negL L)) => gather w1 q (negL L) ((min k (L.length : Int)).toNat + 1) (by unfold negL; rw [List.length_map]; omega) (by omega) (Own.of o.1).sl (k + 1) (by omega)
    rw [mostB_at (k := k) hl (by omega)]
    have M : subs (negL L) ((min k (L.length : Int)).toNat + 1) = mostC L k := rfl
    rw [M] at GA0
    by_cases hb : (mostC L k).length ≤ 120
    ·rw [decide_eq_true hb] at GA0
     rw [decide_eq_true hb]
     have HB := hide hb
     have GA := hide GA0
     clear cl hl lo_ GA0 M hb
     go_enter Tryd.func55, Tryd.ntmps55
     go_wp2_with fail
     refine (unhide CL).mono ?_; rintro e w' ⟨rfl, hw⟩; have hw' := hw.symm; clear hw; subst hw'
     clear CL
     go_wp2_with fail
     refine (unhide OP).mono ?_; rintro e w1 ⟨q, rfl, m1⟩
     have G1 := hide (unhide GA w1 q m1)
     have H1 := hide m1.2
     obtain ⟨qa, qc, rfl, _⟩ := (Own.of m1.1).sl
     clear m1 OP GA
     go_wp2_with fail
     refine (unhide G1).mono ?_; rintro e w2 ⟨a2, n2, c2, rfl, g2, o2⟩
     have R := hide (ans_gat (unhide H1) g2 (o2 (unhide HB)))
     clear g2 o2 G1 H1
     go_wp2_with fail
     go_ret2
     exact unhide R
    ·rw [decide_eq_false hb] at GA0
     rw [decide_eq_false hb]
     have GA := hide GA0
     clear cl hl lo_ GA0 M hb
     go_enter Tryd.func55, Tryd.ntmps55
     go_wp2_with fail
     refine (unhide CL).mono ?_; rintro e w' ⟨rfl, hw⟩; have hw' := hw.symm; clear hw; subst hw'
     clear CL
     go_wp2_with fail
     refine (unhide OP).mono ?_; rintro e w1 ⟨q, rfl, m1⟩
     have G1 := hide (unhide GA w1 q m1)
     have H1 := hide m1.2
     obtain ⟨qa, qc, rfl, _⟩ := (Own.of m1.1).sl
     clear m1 OP GA
     go_wp2_with fail
     refine (unhide G1).mono ?_; rintro e w2 ⟨a2, n2, c2, rfl, g2, o2⟩
     have R := hide (grown_trans (r := none) (unhide H1) g2)
     clear g2 o2 G1 H1
     go_wp2_with fail
     go_ret2
     exact ans_no (unhide R)
set_option maxRecDepth 10000 in
set_option maxHeartbeats 4000000 in
theorem specAtLeast (k : Int) (u : Value) (L : List Int) (w : World) (hL : L.length ≤ 1048576) (hu : Sl w u L) :
  Calls Tryd.prog 54 #[u, .int .i64 k] w fun e w' => AnsE w (leastB L k) (leastC L k) e w' := by
 have cl := l13List u L w hL hu
 have U := hide hu
 obtain ⟨ua, uc, rfl, _⟩ := hu
 cases hl : listB L
 ·have E : leastB L k = false := by unfold leastB; rw [hl]; rfl
  rw [hl] at cl
  rw [E]
  have CL := hide cl
  clear cl hl E
  go_enter Tryd.func54, Tryd.ntmps54
  go_wp2_with fail
  refine (unhide CL).mono ?_; rintro e w' ⟨rfl, hw⟩; have hw' := hw.symm; clear hw; subst hw'
  go_wp2_with fail
  go_ret2
  exact ans_no (grown_refl _)
 ·rw [hl] at cl
  have CL := hide cl
  have lo_ := list_ok hl
  by_cases hk : k < 1
  ·have E2 := hide (least_low (L := L) hk)
   have E : leastB L k = true := by rw [leastB_at hl, unhide E2]; rfl
   rw [E]
   clear cl hl E
   go_enter Tryd.func54, Tryd.ntmps54
   go_wp2_with fail
   refine (unhide CL).mono ?_; rintro e w' ⟨rfl, hw⟩; have hw' := hw.symm; clear hw; subst hw'
   go_wp2_with fail
   go_ret2
   exact ans_lit (grown_refl _) (unhide E2)
  ·by_cases hq : (L.length : Int) < k
   ·have E2 := hide (least_top hq)
    have E : leastB L k = true := by rw [leastB_at hl, unhide E2]; rfl
    rw [E]
    have R : Hid (AnsE w true (leastC L k) (.returned (.tuple #[.slice (some ⟨w.heap.size + 1, 0, none⟩) 1 1, .bool true])) ((w.alloc (.cells #[] 3)).alloc (.cells #[.slice (some ⟨w.heap.size, 0, none⟩) 0 0] 30))) := by
     rw [unhide E2]
     have m1 := app.made_nil w
     have o1 := oneS m1
     rw [World.size_alloc (w := w)] at o1
     exact ⟨_, rfl, o1.1, o1.2⟩
    clear cl hl E
    go_enter Tryd.func54, Tryd.ntmps54
    go_wp2_with fail
    refine (unhide CL).mono ?_; rintro e w' ⟨rfl, hw⟩; have hw' := hw.symm; clear hw; subst hw'
    go_wp2_with fail
    go_ret2
    exact unhide R
   ·have GA0 := gather w _ L (L.length + 1 - (max 0 (min k ((L.length : Int) + 1))).toNat) (by omega) (by omega) (unhide U) ((L.length : Int) - k + 1) (by omega)
    rw [leastB_at (k := k) hl]
    have M : subs L (L.length + 1 - (max 0 (min k ((L.length : Int) + 1))).toNat) = leastC L k := rfl
    rw [M] at GA0
    by_cases hb : (leastC L k).length ≤ 120
    ·rw [decide_eq_true hb] at GA0
     rw [decide_eq_true hb]
     have HB := hide hb
     have GA := hide GA0
     clear cl hl lo_ GA0 M hb
     go_enter Tryd.func54, Tryd.ntmps54
     go_wp2_with fail
     refine (unhide CL).mono ?_; rintro e w' ⟨rfl, hw⟩; have hw' := hw.symm; clear hw; subst hw'
     clear CL
     go_wp2_with fail
     refine (unhide GA).mono ?_; rintro e w2 ⟨a2, n2, c2, rfl, g2, o2⟩
     have R := hide (ans_gat (grown_refl w) g2 (o2 (unhide HB)))
     clear g2 o2 GA
     go_wp2_with fail
     go_ret2
     exact unhide R
    ·rw [decide_eq_false hb] at GA0
     rw [decide_eq_false hb]
     have GA := hide GA0
     clear cl hl lo_ GA0 M hb
     go_enter Tryd.func54, Tryd.ntmps54
     go_wp2_with fail
     refine (unhide CL).mono ?_; rintro e w' ⟨rfl, hw⟩; have hw' := hw.symm; clear hw; subst hw'
     clear CL
     go_wp2_with fail
     refine (unhide GA).mono ?_; rintro e w2 ⟨a2, n2, c2, rfl, g2, o2⟩
     have R := hide g2
     clear g2 o2 GA
     go_wp2_with fail
     go_ret2
     exact ans_no (unhide R)
end Go.Proofs.YtfhmdpbnnieohaaDoor.t2
