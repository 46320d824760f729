/- Plain mathematics of FnHorn: how often literals occur; what is forced is true wherever a formula is; a formula of clauses with at most one positive literal is true where just what is forced is. No condition. -/
import Derived.Test.YtibpnocpafppaaaDoorJXGb
import Derived.Test.YtibpnocpafppaaaDoorJXOk
import Derived.Test.YtibpnocpafppaaaDoorJSc
import Derived.Deep.RegionHeld3
import Derived.Test.YtibpnocpafppaaaDoorJXMq
import Derived.Test.YtibpnocpafppaaaDoorJSg
import Derived.Test.YtibpnocpafppaaaDoorJXTr
import Derived.Test.YtibpnocpafppaaaDoorJSs
import Derived.Test.YtibpnocpafppaaaDoorJXCf
import Derived.Deep.QuietTactic
import Derived.BigQuiet
import Derived.Test.YtibpnocpafppaaaDoorJXTl
namespace Go.Proofs.YtibpnocpafppaaaDoor.eo
open Go.RowKit
open lits (okB okB_iff)
open bset (placeN placeN_le setOf setOf_lt setOf_has setOf_bit withN)
open srt (swp litI fstI woN)
open cls (hasB)
open ok (cnfB clB litIn)
open tr (litT clT cnfT)
open wm (frc pc swp_place opp_ok unitN clauseN clsd opn forceB okU firstN)
open cs (cnfS good)
set_option linter.unusedVariables false
def trueL (m : Nat) (A : List Int) : List Int := ((List.range m).flatMap fun (j : Nat) => [(j : Int) + 1, -((j : Int) + 1)]).filter (litT A)
theorem lit_mem {m : Nat} {x : Int} (h : litIn (m : Int) x = true) : x ∈ (List.range m).flatMap fun (j : Nat) => [(j : Int) + 1, -((j : Int) + 1)] := by
 unfold ok.litIn at h
 rw [Bool.and_eq_true, decide_eq_true_iff] at h
 have hk := okB_iff.1 h.1
 have hv := h.2
 unfold lits.varI at hv
 rw [h.1, if_pos rfl] at hv
 rw [List.mem_flatMap]
 by_cases hx : 0 < x
 ·refine ⟨(x - 1).toNat, ?_, ?_⟩
  ·rw [List.mem_range]
   split at hv <;> omega
  ·have e : (((x - 1).toNat : Nat) : Int) + 1 = x := by omega
   rw [e]
   exact List.mem_cons_self ..
 ·refine ⟨(-x - 1).toNat, ?_, ?_⟩
  ·rw [List.mem_range]
   split at hv <;> omega
  ·have e : -((((-x - 1).toNat : Nat) : Int) + 1) = x := by omega
   rw [e]
   simp
theorem lit_okB {n x : Int} (h : litIn n x = true) : okB x = true := by
 unfold ok.litIn at h
 rw [Bool.and_eq_true] at h
 exact h.1
theorem true_bit {m : Nat} {A : List Int} {x : Int} (h : litIn (m : Int) x = true) : (setOf (trueL m A)).testBit (placeN x) = litT A x := by
 have hx := lit_okB h
 rw [setOf_has _ x hx]
 unfold cls.hasB trueL
 rw [Bool.eq_iff_iff, decide_eq_true_iff, List.mem_filter]
 exact ⟨fun q => q.2, fun q => ⟨lit_mem h, q⟩⟩
theorem var_neg {x : Int} (h : okB x = true) : lits.varI (-x) = lits.varI x := by
 unfold lits.varI
 rw [opp_ok h, h]
 have := okB_iff.1 h
 simp only [if_true]
 split <;> split <;> omega
theorem neg_lit {m : Nat} {x : Int} (h : litIn (m : Int) x = true) : litIn (m : Int) (-x) = true := by
 unfold ok.litIn at h ⊢
 rw [Bool.and_eq_true, decide_eq_true_iff] at h
 rw [opp_ok h.1, var_neg h.1, decide_eq_true h.2]
 rfl
theorem lit_opp {A : List Int} {x : Int} (h : okB x = true) : litT A (-x) = !litT A x := by
 have hk := okB_iff.1 h
 have h0 : lits.varI x ≠ 0 := by
  unfold lits.varI
  rw [h]
  simp only [if_true]
  split <;> omega
 unfold tr.litT
 rw [var_neg h, if_neg h0, if_neg h0]
 have e : decide (0 < -x) = !decide (0 < x) := by
  by_cases q : 0 < x
  ·rw [decide_eq_true q, decide_eq_false (by omega)]
   rfl
  ·rw [decide_eq_false q, decide_eq_true (by omega)]
   rfl
 rw [e]
 cases (decide (lits.varI x ≤ (A.length : Int)) && decide (A.getD (lits.varI x - 1).toNat 0 = 1)) <;> cases decide (0 < x) <;> rfl
theorem set_bits {m : Nat} {LL : List (List Int)} (hc : cnfB (m : Int) LL = true) : ∀ S ∈ LL.map setOf, ∀ b, S.testBit b = true → b < 2 * m := by
 intro S hS b hb
 rw [List.mem_map] at hS
 obtain ⟨c, hc', rfl⟩ := hS
 rw [setOf_bit, List.any_eq_true] at hb
 obtain ⟨x, hx, e⟩ := hb
 rw [Bool.and_eq_true, decide_eq_true_iff] at e
 rw [← e.2]
 exact ml.lit_place (((fm.cnf_facts hc).2.2.2 c hc').2 x hx)
theorem fair_true (m : Nat) (A : List Int) (hm : m ≤ 24) : ml.Fair m (setOf (trueL m A)) := by
 intro b hb
 have hp := ms.place_lit b (by omega)
 have ho := (wm.litI_spec (t := b) (by omega)).1
 have hl : litIn (m : Int) (litI b) = true := mq.place_lit ho (by rw [hp]; exact hb)
 have e : swp b = placeN (-(litI b)) := by rw [← swp_place ho, hp]
 rw [e, true_bit (neg_lit hl), lit_opp ho]
 have e2 := true_bit (A := A) hl
 rw [hp] at e2
 rw [e2]
theorem force_fine {m : Nat} {G : List (List Int)} (hc : cnfB (m : Int) G = true) {A : List Int} (hA : cnfT A G = true) : (forceB (m : Int) G []).2 = true := by
 have hu : okU (m : Int) G [] = true := by unfold wm.okU; rw [hc]; rfl
 unfold wm.forceB
 rw [if_pos hu]
 have cf := fm.cnf_facts hc
 refine ml.force_true (m := m) (W := setOf (trueL m A)) (wm.set_bd G) (set_bits hc) (fair_true m A (by omega)) ?_ 49 (setOf []) [] ?_
 ·intro S hS h0
  rw [List.mem_map] at hS
  obtain ⟨c, hc', rfl⟩ := hS
  unfold tr.cnfT at hA
  rw [List.all_eq_true] at hA
  have h1 := hA c hc'
  unfold tr.clT at h1
  rw [List.any_eq_true] at h1
  obtain ⟨x, hx, ht⟩ := h1
  have hl := (cf.2.2.2 c hc').2 x hx
  have b1 : (setOf c).testBit (placeN x) = true := by rw [setOf_has c x (lit_okB hl)]; exact decide_eq_true hx
  have b2 := true_bit (A := A) hl
  rw [ht] at b2
  have := congrArg (fun q => q.testBit (placeN x)) h0
  simp [Nat.testBit_and, b1, b2] at this
 ·intro b hb
  simp [bset.setOf] at hb
end Go.Proofs.YtibpnocpafppaaaDoor.eo
