/- Plain mathematics of FnCert and FnOrder: where a formula has no answer its walk ends, in as many clauses as the variables that its clauses name allow. Conditions: those variables are the first w of the formula. -/
import Derived.Test.YtfhmdpbnnieohaaDoorJXXr
namespace Go.Proofs.YtfhmdpbnnieohaaDoor.yw
open lits (okB okB_iff)
open bset (placeN setOf setOf_lt setOf_has setOf_snoc)
open srt (swp litI fstI)
open ok (cnfB litIn)
open fm (freeL freeN)
open tr (litT clT cnfT trueB)
open lq (solveL)
open wm (frc clauseN opn opn_bit set_bd)
open sp (negL)
open xs (Cons Dec_ dec_len quiet_one unit_quiet frc_cons neg_lit cons_with)
open xw (full full_stop full_more free_ok free_new free_pc)
set_option linter.unusedVariables false
theorem true_solve {n : Int} {LL : List (List Int)} {A : List Int} (h : trueB n LL A = true) : (solveL n LL []).isSome = true := by
 unfold tr.trueB tr.assignB at h
 simp only [Bool.and_eq_true, decide_eq_true_iff] at h
 obtain ⟨⟨⟨hc, hl⟩, hb⟩, ht⟩ := h
 unfold lq.solveL
 rw [hc]
 simp only [List.all_nil, Bool.and_self, if_true]
 cases e : lq.lst n.toNat (lq.holds LL []) with
 | some l => rfl
 | none =>
  have := lq.lst_none.1 e A ⟨by omega, fun x hx => by
   have := List.all_eq_true.1 hb x hx
   unfold tr.bitB at this
   have := of_decide_eq_true this
   omega⟩
  unfold lq.holds at this
  rw [ht] at this
  cases this
def asg (m T : Nat) : List Int := (List.range m).map fun j => if T.testBit (2 * j) then 1 else 0
theorem asg_at {m T k : Nat} (h : k < m) : (asg m T).getD k 0 = if T.testBit (2 * k) then 1 else 0 := by
 unfold asg
 rw [List.getD_eq_getElem?_getD, List.getElem?_map, List.getElem?_range h]
 rfl
theorem asg_len (m T : Nat) : (asg m T).length = m := by unfold asg; rw [List.length_map, List.length_range]
theorem lit_pos {m T k : Nat} (h : k < m) (hm : m ≤ 24) : litT (asg m T) ((k : Int) + 1) = T.testBit (2 * k) := by
 unfold tr.litT
 have hv : lits.varI ((k : Int) + 1) = (k : Int) + 1 := by rw [lits.varI_yes (by omega), if_neg (by omega)]
 rw [hv, if_neg (by omega), asg_len, decide_eq_true (show (k : Int) + 1 ≤ (m : Int) by omega), show ((k : Int) + 1 - 1).toNat = k by omega, asg_at h, decide_eq_true (show (0 : Int) < (k : Int) + 1 by omega)]
 cases T.testBit (2 * k) <;> rfl
theorem lit_neg {m T k : Nat} (h : k < m) (hm : m ≤ 24) : litT (asg m T) (-((k : Int) + 1)) = !T.testBit (2 * k) := by
 rw [xs.lit_opp (okB_iff.2 (by omega)), lit_pos h hm]
theorem lit_even (k : Nat) : litI (2 * k) = (k : Int) + 1 := by
 unfold srt.litI
 rw [if_neg (by omega), show 2 * k / 2 = k by omega]
theorem lit_odd (k : Nat) : litI (2 * k + 1) = -((k : Int) + 1) := by
 unfold srt.litI
 rw [if_pos (by omega), show (2 * k + 1) / 2 = k by omega]
theorem cl_true {m T : Nat} {L : List Int} (hm : m ≤ 24) (hT : Cons T) (hL : ∀ x ∈ L, litIn (m : Int) x = true) {b : Nat} (hb : (setOf L).testBit b = true) (ht : T.testBit b = true) : clT (asg m T) L = true := by
 have hb2 : b < 2 * m := by
  rcases Nat.lt_or_ge b (2 * m) with z | z
  ·exact z
  ·rw [fm.set_hi hL b z] at hb
   cases hb
 have k := wm.litI_spec (t := b) (by omega)
 have hmem : litI b ∈ L := by
  have := setOf_has L (litI b) k.1
  rw [k.2, hb] at this
  exact of_decide_eq_true this.symm
 unfold tr.clT
 rw [List.any_eq_true]
 refine ⟨litI b, hmem, ?_⟩
 obtain ⟨j, rfl | rfl⟩ : ∃ j, b = 2 * j ∨ b = 2 * j + 1 := ⟨b / 2, by omega⟩
 ·rw [lit_even, lit_pos (by omega) hm, ht]
 ·have := hT _ ht
  rw [show swp (2 * j + 1) = 2 * j by unfold srt.swp; split <;> omega] at this
  rw [lit_odd, lit_neg (by omega) hm, this]
  rfl
theorem some_free {m w : Nat} {LL : List (List Int)} {d : List Int} (hc : cnfB (m : Int) LL = true) (hw : ∀ L ∈ LL, ∀ x ∈ L, litIn (w : Int) x = true) (hwm : w ≤ m) (hs : solveL (m : Int) LL [] = none) (hd : Cons (setOf d)) (hf : (frc (LL.map setOf) 49 (setOf d) d).2 = true) :
  ∃ k, k < w ∧ (freeN m (frc (LL.map setOf) 49 (setOf d) d).1).testBit (2 * k) = true := by
 have ff := fm.cnf_facts hc
 have hT := frc_cons (set_bd LL) 49 d hd
 have hq := unit_quiet (Ss := LL.map setOf) (T := setOf (frc (LL.map setOf) 49 (setOf d) d).1) (by rw [mq.frc_unit (set_bd LL) 49 d (Nat.le_add_right _ _), hf]) (set_bd LL)
 generalize hF : (frc (LL.map setOf) 49 (setOf d) d).1 = F at hT hq ⊢
 apply Classical.byContradiction
 intro hn
 have dec : ∀ b, b < 2 * w → (setOf F).testBit b = true ∨ (setOf F).testBit (swp b) = true := by
  intro b hb
  apply Classical.byContradiction
  intro hk
  refine hn ⟨b / 2, by omega, ?_⟩
  rw [fm.freeN_bit _ _ _ (by omega), decide_eq_true (show 2 * (b / 2) < 2 * m by omega), decide_eq_true (show 2 * (b / 2) % 2 = 0 by omega)]
  have h1 : (setOf F).testBit b = false := by cases e : (setOf F).testBit b; rfl; exact absurd (.inl e) hk
  have h2 : (setOf F).testBit (swp b) = false := by cases e : (setOf F).testBit (swp b); rfl; exact absurd (.inr e) hk
  obtain ⟨j, rfl | rfl⟩ : ∃ j, b = 2 * j ∨ b = 2 * j + 1 := ⟨b / 2, by omega⟩
  ·rw [show 2 * (2 * j / 2) = 2 * j by omega, h1, h2]
   rfl
  ·have e1 : swp (2 * j + 1) = 2 * j := by unfold srt.swp; split <;> omega
   have e2 : swp (2 * j) = 2 * j + 1 := by unfold srt.swp; split <;> omega
   rw [show 2 * ((2 * j + 1) / 2) = 2 * j by omega, e2, h1]
   rw [e1] at h2
   rw [h2]
   rfl
 have all : cnfT (asg m (setOf F)) LL = true := by
  unfold tr.cnfT
  rw [List.all_eq_true]
  intro L hL
  have h0 := hq (setOf L) (List.mem_map.2 ⟨L, hL, rfl⟩)
  have ex : ∃ b, (setOf L).testBit b = true ∧ (setOf F).testBit b = true := by
   apply Classical.byContradiction
   intro hno
   refine hno (quiet_one (y := 0) (setOf_lt L) h0 fun b hb => ?_)
   exfalso
   rw [opn_bit _ _ _ (setOf_lt L), Bool.and_eq_true] at hb
   have hbw : b < 2 * w := by
    rcases Nat.lt_or_ge b (2 * w) with z | z
    ·exact z
    ·rw [fm.set_hi (hw L hL) b z] at hb
     cases hb.1
   rcases dec b hbw with q | q
   ·exact hno ⟨b, hb.1, q⟩
   ·have := hb.2
    rw [q] at this
    cases this
  obtain ⟨b, hb, ht⟩ := ex
  exact cl_true (by omega) hT (ff.2.2.2 L hL).2 hb ht
 have tr : trueB (m : Int) LL (asg m (setOf F)) = true := by
  unfold tr.trueB tr.assignB
  rw [hc, asg_len, decide_eq_true rfl, all]
  have : (asg m (setOf F)).all tr.bitB = true := by
   rw [List.all_eq_true]
   intro x hx
   unfold asg at hx
   rw [List.mem_map] at hx
   obtain ⟨j, _, rfl⟩ := hx
   cases (setOf F).testBit (2 * j) <;> rfl
  rw [this]
  rfl
 have := true_solve tr
 rw [hs] at this
 cases this
theorem first_low {S b : Nat} (h : S < 2 ^ 48) (hb : S.testBit b = true) : placeN (fstI S) ≤ b := by
 have h0 : 0 < S := by
  rcases Nat.eq_zero_or_pos S with e | e
  ·rw [e, Nat.zero_testBit] at hb
   cases hb
  ·exact e
 obtain ⟨t, m, et, ht, es⟩ := srt.low h0 h
 have e : fstI S = litI t := by unfold srt.fstI; rw [← et]
 rw [e, (wm.litI_spec ht).2]
 rcases Nat.lt_or_ge b t with q | q
 ·rw [es, srt.low_bit, if_pos (by omega), decide_eq_false (by omega)] at hb
  cases hb
 ·exact q
theorem free_first {m w : Nat} {LL : List (List Int)} {F : List Int} {k : Nat} (hc : cnfB (m : Int) LL = true) (hk : k < w) (h : (freeN m F).testBit (2 * k) = true) : ∃ x r, freeL (m : Int) LL F = x :: r ∧ litIn (w : Int) x = true := by
 have ff := fm.cnf_facts hc
 have hlt := fm.freeN_lt F (show m ≤ 24 by omega)
 have h0 : freeN m F ≠ 0 := fun e => by
  rw [e, Nat.zero_testBit] at h
  cases h
 obtain ⟨r, e⟩ := (xw.free_fst (L := F) hc).2 h0
 refine ⟨_, r, e, mq.place_lit (free_ok e).1 ?_⟩
 have := first_low hlt h
 omega
theorem dec_more {m w : Nat} {LL : List (List Int)} {Ss : List Nat} {d r : List Int} {x : Int} (h : Dec_ (w : Int) d) (hx : litIn (w : Int) x = true) (h0 : freeL (m : Int) LL (frc Ss 49 (setOf d) d).1 = x :: r) : Dec_ (w : Int) (d ++ [-x]) ∧ Dec_ (w : Int) (d ++ [x]) := by
 have ok := free_ok h0
 have nw := free_new h0
 have hp := free_pc h0
 have mem : ∀ y, litIn (w : Int) y = true → ∀ z ∈ d ++ [y], litIn (w : Int) z = true := by
  intro y hy z hz
  rcases List.mem_append.1 hz with q | q
  ·exact h.lit z q
  ·rw [List.mem_singleton] at q
   rw [q]
   exact hy
 have hl := h.len
 refine ⟨⟨mem _ (neg_lit hx), ?_, by rw [List.length_append, List.length_singleton]; omega⟩, ⟨mem _ hx, ?_, by rw [List.length_append, List.length_singleton]; omega⟩⟩
 ·rw [setOf_snoc, if_pos ok.2]
  exact cons_with h.cons ok.2 (by rw [Int.neg_neg]; exact nw.1)
 ·rw [setOf_snoc, if_pos ok.1]
  exact cons_with h.cons ok.1 nw.2
theorem full_all {m w : Nat} {LL : List (List Int)} (hc : cnfB (m : Int) LL = true) (hw : ∀ L ∈ LL, ∀ x ∈ L, litIn (w : Int) x = true) (hwm : w ≤ m) (hs : solveL (m : Int) LL [] = none) :
  ∀ (k : Nat) (d : List Int), Dec_ (w : Int) d → w < k + d.length → ∃ C, full (m : Int) LL k d = some C ∧ C.length + 1 ≤ 2 ^ (w + 1 - d.length) ∧ ∀ L ∈ C, L.length ≤ w := by
 have ff := fm.cnf_facts hc
 intro k
 induction k with
 | zero =>
  intro d hd h
  have := dec_len hd (by omega)
  omega
 | succ k ih =>
  intro d hd h
  have hl := dec_len hd (by omega)
  have hneg : (negL d).length ≤ w := by unfold sp.negL; rw [List.length_map]; exact hl
  cases hf : (frc (LL.map setOf) 49 (setOf d) d).2
  ·refine ⟨_, full_stop hf, ?_, fun L hL => ?_⟩
   ·have : 2 ^ 1 ≤ 2 ^ (w + 1 - d.length) := Nat.pow_le_pow_right (by decide) (by omega)
    exact this
   ·rw [List.mem_singleton] at hL
    rw [hL]
    exact hneg
  ·obtain ⟨j, hj, hb⟩ := some_free hc hw hwm hs hd.cons hf
   obtain ⟨x, r, h0, hx⟩ := free_first hc hj hb
   have dm := dec_more hd hx h0
   have hl2 := dec_len dm.2 (by omega)
   rw [List.length_append, List.length_singleton] at hl2
   obtain ⟨A, hA, lA, sA⟩ := ih _ dm.1 (by rw [List.length_append, List.length_singleton]; omega)
   obtain ⟨B, hB, lB, sB⟩ := ih _ dm.2 (by rw [List.length_append, List.length_singleton]; omega)
   refine ⟨A ++ B ++ [negL d], ?_, ?_, fun L hL => ?_⟩
   ·rw [full_more hf h0, hA, hB]
    rfl
   ·rw [List.length_append, List.length_singleton] at lA lB
    have e : w + 1 - d.length = (w + 1 - (d.length + 1)) + 1 := by omega
    rw [e, Nat.pow_succ, List.length_append, List.length_append, List.length_singleton]
    omega
   ·rcases List.mem_append.1 hL with q | q
    ·rcases List.mem_append.1 q with q | q
     ·exact sA L q
     ·exact sB L q
    ·rw [List.mem_singleton] at q
     rw [q]
     exact hneg
theorem refutes {n : Int} {LL : List (List Int)} {w : Nat} (hc : cnfB n LL = true) (hw : ∀ L ∈ LL, ∀ x ∈ L, litIn (w : Int) x = true) (hwn : (w : Int) ≤ n) (h8 : w ≤ 8) (hs : solveL n LL [] = none) :
  (xw.wlk n LL 700 []).2 = true ∧ (xw.wlk n LL 700 []).1.length + 1 ≤ 2 ^ (w + 1) ∧ ∀ L ∈ (xw.wlk n LL 700 []).1, L.length ≤ w := by
 have hf := fm.cnf_facts hc
 obtain ⟨m, rfl⟩ := Int.eq_ofNat_of_zero_le hf.1
 obtain ⟨C, e, l, s⟩ := full_all hc hw (by omega) hs 49 [] (Dec_.nil _) (by rw [List.length_nil]; omega)
 rw [List.length_nil, Nat.sub_zero] at l
 have h9 : 2 ^ (w + 1) ≤ 2 ^ 9 := Nat.pow_le_pow_right (by decide) (by omega)
 have e9 : (2 : Nat) ^ 9 = 512 := rfl
 have e1 : xw.wlk (m : Int) LL 700 [] = (C, true) := by
  rw [xw.wlk_full (m : Int) LL 49 700 [] (Nat.le_add_right _ _), e]
  show (if C.length ≤ 700 then (C, true) else ([], false)) = _
  rw [if_pos (by omega)]
 rw [e1]
 exact ⟨rfl, l, s⟩
end Go.Proofs.YtfhmdpbnnieohaaDoor.yw
