/- Plain mathematics of FnRefute: what checks has no answer; no clause of a walk has more literals than there are variables. No condition. -/
import Derived.Test.YtfhmdpbnnieohaaDoorJXXs
import Derived.Test.YtfhmdpbnnieohaaDoorJXLq
namespace Go.Proofs.YtfhmdpbnnieohaaDoor.xs
open Go.RowKit
open lits (okB okB_iff)
open bset (placeN placeN_le setOf setOf_lt setOf_has)
open srt (swp litI)
open cls (hasB)
open ok (cnfB clB litIn)
open fm (freeL)
open tr (litT clT cnfT)
open lq (solveL holds lst lst_some Bits)
open wm (frc pc sumR swp_place opp_ok)
open sp (negL)
open xw (full full_stop full_end full_more)
set_option linter.unusedVariables false
def trueL (m : Nat) (A : List Int) : List Int := ((List.range m).flatMap fun (j : Nat) => [(j : Int) + 1, -((j : Int) + 1)]).filter (litT A)
theorem lit_mem {m : Nat} {x : Int} (h : litIn (m : Int) x = true) : x ∈ (List.range m).flatMap fun (j : Nat) => [(j : Int) + 1, -((j : Int) + 1)] := by
 unfold ok.litIn at h
 rw [Bool.and_eq_true, decide_eq_true_iff] at h
 have hk := okB_iff.1 h.1
 have hv := h.2
 unfold lits.varI at hv
 rw [h.1, if_pos rfl] at hv
 rw [List.mem_flatMap]
 by_cases hx : 0 < x
 ·refine ⟨(x - 1).toNat, ?_, ?_⟩
  ·rw [List.mem_range]
   split at hv <;> omega
  ·have e : (((x - 1).toNat : Nat) : Int) + 1 = x := by omega
   rw [e]
   exact List.mem_cons_self ..
 ·refine ⟨(-x - 1).toNat, ?_, ?_⟩
  ·rw [List.mem_range]
   split at hv <;> omega
  ·have e : -((((-x - 1).toNat : Nat) : Int) + 1) = x := by omega
   rw [e]
   simp
theorem true_bit {m : Nat} {A : List Int} {x : Int} (h : litIn (m : Int) x = true) : (setOf (trueL m A)).testBit (placeN x) = litT A x := by
 have hx : okB x = true := by
  unfold ok.litIn at h
  rw [Bool.and_eq_true] at h
  exact h.1
 rw [setOf_has _ x hx]
 unfold cls.hasB trueL
 rw [Bool.eq_iff_iff, decide_eq_true_iff, List.mem_filter]
 exact ⟨fun q => q.2, fun q => ⟨lit_mem h, q⟩⟩
theorem neg_lit {m : Nat} {x : Int} (h : litIn (m : Int) x = true) : litIn (m : Int) (-x) = true := by
 unfold ok.litIn at h ⊢
 rw [Bool.and_eq_true, decide_eq_true_iff] at h
 have hv : lits.varI (-x) = lits.varI x := by
  unfold lits.varI
  rw [opp_ok h.1, h.1]
  have := okB_iff.1 h.1
  simp only [if_true]
  split <;> split <;> omega
 rw [opp_ok h.1, hv, decide_eq_true h.2]
 rfl
theorem lit_opp {A : List Int} {x : Int} (h : okB x = true) : litT A (-x) = !litT A x := by
 have hk := okB_iff.1 h
 have hv : lits.varI (-x) = lits.varI x := by
  unfold lits.varI
  rw [opp_ok h, h]
  simp only [if_true]
  split <;> split <;> omega
 have h0 : lits.varI x ≠ 0 := by
  unfold lits.varI
  rw [h]
  simp only [if_true]
  split <;> omega
 unfold tr.litT
 rw [hv, if_neg h0, if_neg h0]
 have e : decide (0 < -x) = !decide (0 < x) := by
  by_cases q : 0 < x
  ·rw [decide_eq_true q, decide_eq_false (by omega)]
   rfl
  ·rw [decide_eq_false q, decide_eq_true (by omega)]
   rfl
 rw [e]
 cases (decide (lits.varI x ≤ (A.length : Int)) && decide (A.getD (lits.varI x - 1).toNat 0 = 1)) <;> cases decide (0 < x) <;> rfl
theorem true_fair (m : Nat) (A : List Int) (hm : m ≤ 24) : ml.Fair m (setOf (trueL m A)) := by
 intro b hb
 have k := wm.litI_spec (t := b) (by omega)
 have hl : litIn (m : Int) (litI b) = true := mq.place_lit k.1 (by rw [k.2]; exact hb)
 have h1 := true_bit (A := A) hl
 have h2 := true_bit (A := A) (neg_lit hl)
 rw [k.2] at h1
 rw [← swp_place k.1, k.2, lit_opp k.1] at h2
 rw [h1, h2]
theorem check_unsat {n : Int} {LL C : List (List Int)} (h : xe.checkB n LL C = true) : solveL n LL [] = none := by
 have hc := (xt.check_facts h).1
 have hf := fm.cnf_facts hc
 obtain ⟨m, rfl⟩ := Int.eq_ofNat_of_zero_le hf.1
 cases hs : solveL (m : Int) LL [] with
 | none => rfl
 | some A =>
  exfalso
  unfold lq.solveL at hs
  rw [hc] at hs
  have hl := (lst_some (m := m) (p := holds LL []) (l := A) (by simpa using hs)).2
  unfold lq.holds at hl
  rw [Bool.and_eq_true] at hl
  obtain ⟨S, hS, hz⟩ := check_sound h (true_fair m A (by omega))
  rw [List.mem_map] at hS
  obtain ⟨L, hL, rfl⟩ := hS
  have hcl := List.all_eq_true.1 hl.1 L hL
  unfold tr.clT at hcl
  rw [List.any_eq_true] at hcl
  obtain ⟨x, hx, ht⟩ := hcl
  have hin := (hf.2.2.2 L hL).2 x hx
  have hok : okB x = true := by
   unfold ok.litIn at hin
   rw [Bool.and_eq_true] at hin
   exact hin.1
  have b1 := true_bit (A := A) hin
  rw [ht] at b1
  have b2 : (setOf L).testBit (placeN x) = true := by rw [setOf_has L x hok]; exact decide_eq_true hx
  have := congrArg (fun z => z.testBit (placeN x)) hz
  simp [Nat.testBit_and, b1, b2] at this
theorem sumR_two (f : Nat → Nat) (h : ∀ i, f (2 * i) + f (2 * i + 1) ≤ 1) : ∀ m, sumR (2 * m) f ≤ m := by
 intro m
 induction m with
 | zero => exact Nat.le_refl _
 | succ m ih =>
  have e : sumR (2 * (m + 1)) f = sumR (2 * m) f + f (2 * m) + f (2 * m + 1) := rfl
  have := h m
  omega
theorem sumR_end (f : Nat → Nat) (a : Nat) (h : ∀ i, a ≤ i → f i = 0) : ∀ b, sumR (a + b) f = sumR a f := by
 intro b
 induction b with
 | zero => rfl
 | succ b ih =>
  show sumR (a + b) f + f (a + b) = _
  rw [ih, h (a + b) (Nat.le_add_right _ _)]
  rfl
theorem pc_cons {T m : Nat} (h : Cons T) (hm : m ≤ 24) (hb : ∀ b, T.testBit b = true → b < 2 * m) : pc T ≤ m := by
 unfold wm.pc
 have e := sumR_end (fun b => if T.testBit b then 1 else 0) (2 * m) (fun i hi => by
  cases hq : T.testBit i
  ·rfl
  ·have := hb i hq
   omega) (48 - 2 * m)
 rw [show 2 * m + (48 - 2 * m) = 48 by omega] at e
 rw [e]
 refine sumR_two _ (fun i => ?_) m
 cases h1 : T.testBit (2 * i)
 ·cases h2 : T.testBit (2 * i + 1)
  ·exact Nat.zero_le _
  ·exact Nat.le_refl _
 ·have := h _ h1
  have es : swp (2 * i) = 2 * i + 1 := by unfold srt.swp; split <;> omega
  rw [es] at this
  rw [this]
  exact Nat.le_refl _
theorem dec_len {m : Nat} {d : List Int} (h : Dec_ (m : Int) d) (hm : m ≤ 24) : d.length ≤ m :=
 Nat.le_trans h.len (pc_cons h.cons hm fun b hb => by
  rcases Nat.lt_or_ge b (2 * m) with z | z
  ·exact z
  ·rw [fm.set_hi h.lit b z] at hb
   cases hb)
theorem full_short {m : Nat} {LL : List (List Int)} (hm : m ≤ 24) : ∀ (k : Nat) (d : List Int) (C : List (List Int)), Dec_ (m : Int) d → full (m : Int) LL k d = some C → ∀ L ∈ C, L.length ≤ m := by
 intro k
 induction k with
 | zero => intro d C _ h; cases h
 | succ k ih =>
  intro d C hd h L hL
  have hneg : (negL d).length ≤ m := by unfold sp.negL; rw [List.length_map]; exact dec_len hd hm
  cases hf : (frc (LL.map setOf) 49 (setOf d) d).2
  ·rw [full_stop hf] at h
   cases h
   rw [List.mem_singleton] at hL
   rw [hL]
   exact hneg
  ·cases h0 : freeL (m : Int) LL (frc (LL.map setOf) 49 (setOf d) d).1 with
   | nil => rw [full_end hf h0] at h; cases h
   | cons x r =>
    have dm := hd.more h0
    rw [full_more hf h0] at h
    cases ha : full (m : Int) LL k (d ++ [-x]) with
    | none => rw [ha] at h; cases h
    | some A =>
     cases hb : full (m : Int) LL k (d ++ [x]) with
     | none => rw [ha, hb] at h; cases h
     | some B =>
      rw [ha, hb] at h
      cases h
      rcases List.mem_append.1 hL with q | q
      ·rcases List.mem_append.1 q with q | q
       ·exact ih _ A dm.1 ha L q
       ·exact ih _ B dm.2 hb L q
      ·rw [List.mem_singleton] at q
       rw [q]
       exact hneg
theorem sum_short {m : Nat} : ∀ {C : List (List Int)}, (∀ L ∈ C, L.length ≤ m) → (C.map List.length).sum ≤ m * C.length := by
 intro C
 induction C with
 | nil => intro _; exact Nat.zero_le _
 | cons L C ih =>
  intro h
  have h1 := h L (List.mem_cons_self ..)
  have h2 := ih (fun M hM => h M (List.mem_cons_of_mem _ hM))
  rw [List.map_cons, List.sum_cons, List.length_cons, Nat.mul_succ]
  omega
theorem refute_all {n : Int} {LL : List (List Int)} (hc : cnfB n LL = true) (h : (xw.wlk n LL 700 []).2 = true) : xe.checkB n LL (xw.wlk n LL 700 []).1 = true ∧ solveL n LL [] = none ∧ ((xw.wlk n LL 700 []).1.map List.length).sum ≤ n.toNat * (xw.wlk n LL 700 []).1.length := by
 have hf := fm.cnf_facts hc
 obtain ⟨m, rfl⟩ := Int.eq_ofNat_of_zero_le hf.1
 rw [xw.wlk_full (m : Int) LL 49 700 [] (Nat.le_add_right _ _)] at h ⊢
 cases hq : full (m : Int) LL 49 [] with
 | none => rw [hq] at h; cases h
 | some C =>
  have e : xw.cnt (some C) 700 = if C.length ≤ 700 then (C, true) else ([], false) := rfl
  rw [hq, e] at h
  by_cases h7 : C.length ≤ 700
  ·rw [e, if_pos h7]
   have ck := refute_check hc hq h7
   exact ⟨ck, check_unsat ck, sum_short (full_short (by omega) 49 [] C (Dec_.nil _) hq)⟩
  ·rw [if_neg h7] at h
   cases h
end Go.Proofs.YtfhmdpbnnieohaaDoor.xs
