/- Plain mathematics of FnSubsume: a formula without what is subsumed, with its forced literals put in, is true where it was. No condition. -/
import Derived.Test.YtibpnocpafppaaaDoorJXEo
import Derived.Test.YtibpnocpafppaaaDoorJSg
import Derived.Test.YtibpnocpafppaaaDoorJXHf
namespace Go.Proofs.YtibpnocpafppaaaDoor.ep
open Go.RowKit
open lits (okB okB_iff)
open bset (placeN placeN_le setOf setOf_lt setOf_has setOf_bit withN subB)
open cls (hasB)
open wo (woL)
open fx (fixL)
open ok (cnfB clB litIn)
open tr (litT clT cnfT trueB assignB)
open wm (frc forceB okU)
open cs (cnfS good cnfS_mem cnfS_up same less_ord good_ok)
open gm (subsB sumL)
open hb (fixA remn unL unR fixA_snoc fixL_mem remn_mem remn_snoc wo_mem fixA_mem)
open eo (trueL true_bit lit_opp lit_okB force_fine set_bits fair_true)
set_option linter.unusedVariables false
theorem sub_mem {D C : List Int} : subB D C = true ↔ ∀ x ∈ D, x ∈ C := by
 unfold bset.subB cls.hasB
 rw [List.all_eq_true]
 exact ⟨fun h x hx => of_decide_eq_true (h x hx), fun h x hx => decide_eq_true (h x hx)⟩
theorem sub_true {A D C : List Int} (h : subB D C = true) (ht : clT A D = true) : clT A C = true := by
 unfold tr.clT at *
 rw [List.any_eq_true] at *
 obtain ⟨x, hx, e⟩ := ht
 exact ⟨x, sub_mem.1 h x hx, e⟩
theorem sub_min (G : List (List Int)) : ∀ (k : Nat) (C : List Int), C.length ≤ k → C ∈ G → ∃ D ∈ sumL G, subB D C = true := by
 intro k
 induction k with
 | zero =>
  intro C hk hC
  refine ⟨C, List.mem_filter.2 ⟨hC, ?_⟩, sub_mem.2 fun x hx => hx⟩
  cases hs : subsB G C
  ·rfl
  ·unfold gm.subsB at hs
   rw [List.any_eq_true] at hs
   obtain ⟨D, _, h⟩ := hs
   rw [Bool.and_eq_true, decide_eq_true_iff] at h
   omega
 | succ k ih =>
  intro C hk hC
  cases hs : subsB G C
  ·exact ⟨C, List.mem_filter.2 ⟨hC, by rw [hs]; rfl⟩, sub_mem.2 fun x hx => hx⟩
  ·unfold gm.subsB at hs
   rw [List.any_eq_true] at hs
   obtain ⟨D, hD, h⟩ := hs
   rw [Bool.and_eq_true, decide_eq_true_iff] at h
   obtain ⟨E, hE, h2⟩ := ih D (by omega) hD
   exact ⟨E, hE, sub_mem.2 fun x hx => sub_mem.1 h.2 x (sub_mem.1 h2 x hx)⟩
theorem sum_sub {G : List (List Int)} {C : List Int} (h : C ∈ sumL G) : C ∈ G := (List.mem_filter.1 h).1
theorem sum_true (A : List Int) (G : List (List Int)) : cnfT A (sumL G) = cnfT A G := by
 unfold tr.cnfT
 rw [Bool.eq_iff_iff, List.all_eq_true, List.all_eq_true]
 constructor
 ·intro h C hC
  obtain ⟨D, hD, hs⟩ := sub_min G C.length C (Nat.le_refl _) hC
  exact sub_true hs (h D hD)
 ·exact fun h C hC => h C (sum_sub hC)
theorem sum_sum (G : List (List Int)) : sumL (sumL G) = sumL G := by
 unfold gm.sumL
 rw [List.filter_eq_self]
 intro C hC
 have h1 := (List.mem_filter.1 hC).2
 cases hs : subsB (G.filter fun C => !subsB G C) C
 ·rfl
 ·exfalso
  unfold gm.subsB at hs
  rw [List.any_eq_true] at hs
  obtain ⟨D, hD, h⟩ := hs
  have : subsB G C = true := by
   unfold gm.subsB
   rw [List.any_eq_true]
   exact ⟨D, (List.mem_filter.1 hD).1, h⟩
  rw [this] at h1
  cases h1
theorem sum_sort (LL : List (List Int)) : cnfS (sumL (cnfS LL)) = sumL (cnfS LL) := by
 have hup : cs.Up le.lessL (sumL (cnfS LL)) := (cnfS_up LL).sublist List.filter_sublist
 refine same less_ord _ _ (cnfS_up _) hup (fun x hx => good_ok (cnfS_mem.1 hx)) (fun x hx => good_ok (cnfS_mem.1 (sum_sub hx))) (fun x => ?_)
 rw [cnfS_mem, ms.good_mem]
 constructor
 ·rintro ⟨c, hc, ho, e⟩
  obtain ⟨d, hd, hod, rfl⟩ := ms.good_mem.1 (cnfS_mem.1 (sum_sub hc))
  rw [ms.setOf_srt (setOf_lt d)] at e
  rw [← e]
  exact hc
 ·intro hx
  refine ⟨x, hx, ?_⟩
  obtain ⟨d, hd, hod, rfl⟩ := ms.good_mem.1 (cnfS_mem.1 (sum_sub hx))
  rw [ms.setOf_srt (setOf_lt d)]
  exact ⟨hod, rfl⟩
theorem sum_len (G : List (List Int)) : (sumL G).length ≤ G.length := List.length_filter_le _ _
theorem sum_ok {n : Int} {G : List (List Int)} (h : cnfB n G = true) : cnfB n (sumL G) = true := by
 have h1 := hb.cnf_parts.1 h
 exact hb.cnf_parts.2 ⟨h1.1, Nat.le_trans (sum_len G) h1.2.1, fun C hC => h1.2.2 C (sum_sub hC)⟩
theorem fixA_rem {LL : List (List Int)} (P : List Int) : ∀ {D : List Int}, D ∈ fixA LL P → ∃ C ∈ LL, D = remn C P := by
 refine cs.snoc_ind (p := fun P => ∀ {D : List Int}, D ∈ fixA LL P → ∃ C ∈ LL, D = remn C P) (fun {D} h => ⟨D, h, rfl⟩) ?_ P
 intro P x ih D hD
 rw [fixA_snoc, fixL_mem] at hD
 obtain ⟨E, hE, _, rfl⟩ := hD
 obtain ⟨C, hC, rfl⟩ := ih hE
 exact ⟨C, hC, by rw [remn_snoc]⟩
theorem units_true {A : List Int} {LL : List (List Int)} {P : List Int} (hP : ∀ p ∈ P, okB p = true) (himp : cnfT A LL = true → ∀ p ∈ P, litT A p = true) : cnfT A (unR LL P) = cnfT A LL := by
 rw [Bool.eq_iff_iff]
 unfold tr.cnfT hb.unR at *
 rw [List.all_eq_true, List.all_eq_true] at *
 constructor
 ·intro h C hC
  by_cases hp : ∀ p ∈ P, p ∉ C
  ·have h1 := h _ (List.mem_append_left _ (fixA_mem hC P hp))
   exact sub_true (sub_mem.2 fun x hx => ((remn_mem P).1 hx).1) h1
  ·have : ∃ p ∈ P, p ∈ C := Classical.byContradiction fun hn => hp fun p hpP hpC => hn ⟨p, hpP, hpC⟩
   obtain ⟨p, hpP, hpC⟩ := this
   have h1 := h [p] (List.mem_append_right _ (List.mem_map.2 ⟨p, hpP, rfl⟩))
   unfold tr.clT at *
   rw [List.any_cons, List.any_nil, Bool.or_false] at h1
   rw [List.any_eq_true]
   exact ⟨p, hpC, h1⟩
 ·intro h C hC
  have hp := himp h
  rw [List.mem_append, List.mem_map] at hC
  rcases hC with hC | ⟨p, hpP, rfl⟩
  ·obtain ⟨E, hE, rfl⟩ := fixA_rem P hC
   have h1 := h E hE
   unfold tr.clT at *
   rw [List.any_eq_true] at *
   obtain ⟨x, hx, e⟩ := h1
   refine ⟨x, (remn_mem P).2 ⟨hx, fun p hpP e2 => ?_⟩, e⟩
   rw [e2, lit_opp (hP p hpP), hp p hpP] at e
   cases e
  ·unfold tr.clT
   rw [List.any_cons, hp p hpP]
   rfl
theorem un_true {m : Nat} {A : List Int} {LL : List (List Int)} (hc : cnfB (m : Int) LL = true) : cnfT A (unL LL) = cnfT A LL := by
 have cf := fm.cnf_facts hc
 have hF := hb.force_nil hc
 cases hq : frc (LL.map setOf) 49 (setOf []) [] with
 | mk P fine =>
  cases fine
  ·rw [hb.un_no hq]
   cases ht : cnfT A LL
   ·rfl
   ·have := force_fine hc ht
    rw [hF, hq] at this
    cases this
  ·rw [hb.un_yes hq]
   have iv := hb.frc_inv hc 49 (setOf []) [] (hb.inv_zero (m : Int) LL) (by rw [hq])
   rw [hq] at iv
   obtain ⟨T, iv⟩ := iv
   refine units_true (fun p hp => lit_okB (iv.l p hp)) (fun ht p hp => ?_)
   have hm : ∀ S ∈ LL.map setOf, S &&& setOf (trueL m A) ≠ 0 := by
    intro S hS h0
    rw [List.mem_map] at hS
    obtain ⟨c, hc', rfl⟩ := hS
    unfold tr.cnfT at ht
    rw [List.all_eq_true] at ht
    have h1 := ht c hc'
    unfold tr.clT at h1
    rw [List.any_eq_true] at h1
    obtain ⟨x, hx, htx⟩ := h1
    have hl := (cf.2.2.2 c hc').2 x hx
    have b1 : (setOf c).testBit (placeN x) = true := by rw [setOf_has c x (lit_okB hl)]; exact decide_eq_true hx
    have b2 := true_bit (A := A) hl
    rw [htx] at b2
    have := congrArg (fun q => q.testBit (placeN x)) h0
    simp [Nat.testBit_and, b1, b2] at this
   have h3 := mq.frc_true (m := m) (W := setOf (trueL m A)) (wm.set_bd LL) (set_bits hc) (fair_true m A (by omega)) hm 49 (setOf []) [] (fun b hb => by simp [bset.setOf] at hb) (fun x hx => by cases hx)
   rw [hq] at h3
   have h4 := h3 p hp
   rw [true_bit (iv.l p hp)] at h4
   exact h4
theorem told {m : Nat} {A : List Int} {LL : List (List Int)} (hc : cnfB (m : Int) LL = true) :
  trueB (m : Int) (sumL (cnfS LL)) A = trueB (m : Int) LL A ∧ trueB (m : Int) (unL LL) A = trueB (m : Int) LL A ∧ trueB (m : Int) (sumL (cnfS (unL LL))) A = trueB (m : Int) LL A ∧
  cnfB (m : Int) (sumL (cnfS LL)) = true ∧ sumL (cnfS (sumL (cnfS LL))) = sumL (cnfS LL) ∧ (sumL (cnfS LL)).length ≤ (cnfS LL).length := by
 have hu := hb.unL_ok hc
 have hs := ms.cnfB_srt hc
 have hsu := ms.cnfB_srt hu
 refine ⟨?_, ?_, ?_, sum_ok hs, by rw [sum_sort, sum_sum], sum_len _⟩
 ·unfold tr.trueB tr.assignB
  rw [sum_ok hs, hc, sum_true, ms.cnfT_srt A hc]
 ·unfold tr.trueB tr.assignB
  rw [hu, hc, un_true hc]
 ·unfold tr.trueB tr.assignB
  rw [sum_ok hsu, hc, sum_true, ms.cnfT_srt A hu, un_true hc]
end Go.Proofs.YtibpnocpafppaaaDoor.ep
