/- Pigeons can't be placed; the clauses of a colouring are a formula; what is told of both: mathematics, and both sides of Color. -/
import Derived.Test.YtfhmdpbnnieohaaDoorJXPa
import Derived.Test.YtfhmdpbnnieohaaDoorJPv
import Derived.Test.YtfhmdpbnnieohaaDoorJXYw
import Derived.Test.YtfhmdpbnnieohaaDoorJPn
namespace Go.Proofs.YtfhmdpbnnieohaaDoor.pz
open Go.RowKit
open lits (okB varI okB_iff)
open tr (litT clT cnfT)
open ok (cnfB clB litIn)
open cnt (C cntR cntR_succ)
open t1 (cntL)
open css (Sls OwnS tot)
open ed (Eds)
open lq (Bits lst lst_none lst_some solveL)
open Go.Proofs.YtfhmdpbnnieohaaDoor.t2
set_option linter.unusedVariables false
theorem C_pos : ∀ {n : Nat} {f : List Int → Bool}, 0 < C n f ↔ ∃ A, Bits n A ∧ f A = true
 | 0, f => by
  show 0 < (if f [] then 1 else 0) ↔ _
  constructor
  ·intro h
   refine ⟨[], ⟨rfl, fun x hx => by cases hx⟩, ?_⟩
   cases e : f []
   ·rw [e] at h
    exact absurd h (by decide)
   ·rfl
  ·rintro ⟨A, hA, h⟩
   rw [lq.bits_nil hA] at h
   rw [h]
   decide
 | n + 1, f => by
  show 0 < C n (fun l => f (0 :: l)) + C n (fun l => f (1 :: l)) ↔ _
  have h0 := C_pos (n := n) (f := fun l => f (0 :: l))
  have h1 := C_pos (n := n) (f := fun l => f (1 :: l))
  constructor
  ·intro h
   by_cases k : 0 < C n (fun l => f (0 :: l))
   ·obtain ⟨A, hA, q⟩ := h0.1 k
    exact ⟨0 :: A, lq.bits_cons (.inl rfl) hA, q⟩
   ·obtain ⟨A, hA, q⟩ := h1.1 (by omega)
    exact ⟨1 :: A, lq.bits_cons (.inr rfl) hA, q⟩
  ·rintro ⟨A, hA, q⟩
   obtain ⟨x, r, rfl, hx, hr⟩ := lq.bits_split hA
   rcases hx with rfl | rfl
   ·have := h0.2 ⟨r, hr, q⟩
    omega
   ·have := h1.2 ⟨r, hr, q⟩
    omega
theorem sat_cnt {m : Nat} {LL : List (List Int)} (hc : cnfB (m : Int) LL = true) : (solveL (m : Int) LL []).isSome = decide (0 < C m (fun A => cnfT A LL)) := by
 have hs : solveL (m : Int) LL [] = lst m (lq.holds LL []) := by
  unfold lq.solveL
  rw [hc]
  simp
 have hh : ∀ A, lq.holds LL [] A = cnfT A LL := fun A => by unfold lq.holds; simp
 rw [hs]
 cases hl : lst m (lq.holds LL []) with
 | none =>
  rw [decide_eq_false]
  ·rfl
  ·intro h
   obtain ⟨A, hA, q⟩ := C_pos.1 h
   have h1 := lst_none.1 hl A hA
   rw [hh, q] at h1
   cases h1
 | some l =>
  have h1 := lst_some hl
  rw [hh] at h1
  rw [decide_eq_true (C_pos.2 ⟨l, h1.1, h1.2⟩)]
  rfl
theorem count_cnt {m : Nat} {LL : List (List Int)} (hm : m ≤ 14) (hc : cnfB (m : Int) LL = true) : ct.countI (m : Int) LL = (C m (fun A => cnfT A LL) : Int) := by
 unfold ct.countI ct.countN
 rw [hc, decide_eq_true (show (m : Int) ≤ 14 by omega), Int.toNat_natCast, cnt.cnt_asg m (fun l => cnfT l LL)]
 rfl
def bx (A : List Int) (x : Int) : Nat := if litT A x = true then 1 else 0
theorem cnt_cons (A : List Int) (x : Int) (L : List Int) : cntL A (x :: L) = bx A x + cntL A L := by
 unfold t1.cntL bx
 rw [List.countP_cons, Nat.add_comm]
theorem cnt_nil (A : List Int) : cntL A [] = 0 := rfl
theorem any_cnt {A L : List Int} (h : clT A L = true) : 1 ≤ cntL A L := by
 unfold tr.clT at h
 rw [List.any_eq_true] at h
 exact List.countP_pos_iff.2 h
theorem pig_no {n : Nat} (hn : n = 1 ∨ n = 2 ∨ n = 3) (A : List Int) : cnfT A (pigC n) = false := by
 cases e : cnfT A (pigC n)
 ·rfl
 ·exfalso
  unfold t2.pigC at e
  rw [cnf_app, Bool.and_eq_true] at e
  have r : ∀ i, i < n + 1 → 1 ≤ cntL A (rowL i n) := fun i hi => any_cnt (List.all_eq_true.1 e.1 _ (List.mem_map.2 ⟨i, List.mem_range.2 hi, rfl⟩))
  have c : ∀ j, j < n → cntL A (colL (j + 1) n) ≤ 1 := fun j hj => by
   have q : cnfT A (mostC (colL (j + 1) n) 1) = true := by
    unfold tr.cnfT
    rw [List.all_eq_true]
    intro L hL
    exact List.all_eq_true.1 e.2 L (List.mem_flatMap.2 ⟨j, List.mem_range.2 hj, hL⟩)
   rw [most_true (colL_ok (j + 1) n (by omega) (by omega) (by omega)) (by decide), decide_eq_true_eq] at q
   omega
  rcases hn with rfl | rfl | rfl
  ·have r0 := r 0 (by decide)
   have r1 := r 1 (by decide)
   have c0 := c 0 (by decide)
   rw [show rowL 0 1 = [1] from rfl] at r0
   rw [show rowL 1 1 = [2] from rfl] at r1
   rw [show colL (0 + 1) 1 = [1, 2] from rfl] at c0
   simp only [cnt_cons, cnt_nil] at r0 r1 c0
   omega
  ·have r0 := r 0 (by decide)
   have r1 := r 1 (by decide)
   have r2 := r 2 (by decide)
   have c0 := c 0 (by decide)
   have c1 := c 1 (by decide)
   rw [show rowL 0 2 = [1, 2] from rfl] at r0
   rw [show rowL 1 2 = [3, 4] from rfl] at r1
   rw [show rowL 2 2 = [5, 6] from rfl] at r2
   rw [show colL (0 + 1) 2 = [1, 3, 5] from rfl] at c0
   rw [show colL (1 + 1) 2 = [2, 4, 6] from rfl] at c1
   simp only [cnt_cons, cnt_nil] at r0 r1 r2 c0 c1
   omega
  ·have r0 := r 0 (by decide)
   have r1 := r 1 (by decide)
   have r2 := r 2 (by decide)
   have r3 := r 3 (by decide)
   have c0 := c 0 (by decide)
   have c1 := c 1 (by decide)
   have c2 := c 2 (by decide)
   rw [show rowL 0 3 = [1, 2, 3] from rfl] at r0
   rw [show rowL 1 3 = [4, 5, 6] from rfl] at r1
   rw [show rowL 2 3 = [7, 8, 9] from rfl] at r2
   rw [show rowL 3 3 = [10, 11, 12] from rfl] at r3
   rw [show colL (0 + 1) 3 = [1, 4, 7, 10] from rfl] at c0
   rw [show colL (1 + 1) 3 = [2, 5, 8, 11] from rfl] at c1
   rw [show colL (2 + 1) 3 = [3, 6, 9, 12] from rfl] at c2
   simp only [cnt_cons, cnt_nil] at r0 r1 r2 r3 c0 c1 c2
   omega
theorem pig_ok {n : Nat} (hn : n = 1 ∨ n = 2 ∨ n = 3) : cnfB (((n + 1) * n : Nat) : Int) (pigC n) = true := by
 rcases hn with rfl | rfl | rfl <;> decide +kernel
theorem pig_none {n : Nat} (hn : n = 1 ∨ n = 2 ∨ n = 3) : solveL (((n + 1) * n : Nat) : Int) (pigC n) [] = none := by
 have h := sat_cnt (pig_ok hn)
 rw [decide_eq_false] at h
 ·cases e : solveL (((n + 1) * n : Nat) : Int) (pigC n) []
  ·rfl
  ·rw [e] at h
   cases h
 ·intro hp
  obtain ⟨A, _, q⟩ := C_pos.1 hp
  rw [pig_no hn A] at q
  cases q
theorem pig_ref {n : Nat} (hn : n = 1 ∨ n = 2) : (xw.wlk (((n + 1) * n : Nat) : Int) (pigC n) 700 []).2 = true ∧ xe.checkB (((n + 1) * n : Nat) : Int) (pigC n) (xw.wlk (((n + 1) * n : Nat) : Int) (pigC n) 700 []).1 = true := by
 have h3 : n = 1 ∨ n = 2 ∨ n = 3 := by omega
 have h6 : (n + 1) * n ≤ 8 := by rcases hn with rfl | rfl <;> decide
 have hr := yw.refutes (pig_ok h3) (fun L hL => ((fm.cnf_facts (pig_ok h3)).2.2.2 L hL).2) (Int.le_refl _) h6 (pig_none h3)
 exact ⟨hr.1, (xs.refute_all (pig_ok h3) hr.1).1⟩
theorem subs_mem : ∀ (L : List Int) (m : Nat), ∀ X ∈ subs L m, ∀ x ∈ X, x ∈ L
 | L, 0, X, hX, x, hx => by
  rw [subs_zero, List.mem_singleton] at hX
  subst hX
  cases hx
 | [], _ + 1, X, hX, x, hx => by cases hX
 | y :: L, m + 1, X, hX, x, hx => by
  rw [subs, List.mem_append, List.mem_map] at hX
  rcases hX with ⟨Y, hY, rfl⟩ | hX
  ·rcases List.mem_cons.1 hx with rfl | hx
   ·exact List.mem_cons_self ..
   ·exact List.mem_cons_of_mem _ (subs_mem L m Y hY x hx)
  ·exact List.mem_cons_of_mem _ (subs_mem L (m + 1) X hX x hx)
theorem in_pos {N p : Nat} (h0 : 0 < p) (h1 : p ≤ N) (h24 : N ≤ 24) : litIn (N : Int) (p : Int) = true ∧ litIn (N : Int) (-(p : Int)) = true := by
 unfold ok.litIn
 have a : okB (p : Int) = true := okB_iff.2 ⟨by omega, by omega, by omega⟩
 have b : okB (-(p : Int)) = true := okB_iff.2 ⟨by omega, by omega, by omega⟩
 have va : varI (p : Int) = (p : Int) := by
  rw [lits.varI_yes ⟨by omega, by omega, by omega⟩]
  split <;> omega
 have vb : varI (-(p : Int)) = (p : Int) := by
  rw [lits.varI_yes ⟨by omega, by omega, by omega⟩]
  split <;> omega
 rw [a, b, va, vb, decide_eq_true (by omega)]
 exact ⟨rfl, rfl⟩
theorem col_in {m k E : Nat} {f : Nat → Int} (h24 : m * k ≤ 24) (hk0 : 1 ≤ k) (hk : k ≤ 6) (he : edsB m f E = true) : ∀ L ∈ colC m k E f, L.length ≤ 48 ∧ ∀ x ∈ L, litIn ((m * k : Nat) : Int) x = true := by
 intro L hL
 have row : ∀ i, i < m → ∀ x ∈ rowL i k, litIn ((m * k : Nat) : Int) x = true ∧ litIn ((m * k : Nat) : Int) (-x) = true := by
  intro i hi x hx
  unfold t2.rowL at hx
  rw [List.mem_map] at hx
  obtain ⟨j, hj, rfl⟩ := hx
  rw [List.mem_range] at hj
  have hr := row_in (k := k) hi
  exact in_pos (by omega) (by omega) h24
 unfold t2.colC at hL
 rw [List.mem_append] at hL
 rcases hL with hL | hL
 ·unfold t2.vertsT at hL
  rw [List.mem_flatMap] at hL
  obtain ⟨i, hi, hL⟩ := hL
  rw [List.mem_range] at hi
  unfold t2.vertC t2.leastC t2.mostC at hL
  rw [List.mem_append] at hL
  rcases hL with hL | hL
  ·refine ⟨?_, fun x hx => (row i hi x (subs_mem _ _ L hL x hx)).1⟩
   rw [subs_len _ _ L hL, rowL_len]
   omega
  ·refine ⟨?_, fun x hx => ?_⟩
   ·rw [subs_len _ _ L hL, rowL_len]
    omega
   ·have := subs_mem _ _ L hL x hx
    unfold sp.negL at this
    rw [List.mem_map] at this
    obtain ⟨y, hy, rfl⟩ := this
    exact (row i hi y hy).2
 ·unfold t2.edgesT at hL
  rw [List.mem_flatMap] at hL
  obtain ⟨i, hi, hL⟩ := hL
  rw [List.mem_range] at hi
  have hb := edsB_at hi he
  unfold t2.edB at hb
  obtain ⟨a0, a1, b0, b1, _⟩ := of_decide_eq_true hb
  unfold t2.edgeC at hL
  rw [List.mem_map] at hL
  obtain ⟨j, hj, rfl⟩ := hL
  rw [List.mem_range] at hj
  generalize f (i * 2) = a at *
  generalize f (i * 2 + 1) = b at *
  obtain ⟨p, hp⟩ := Int.eq_ofNat_of_zero_le (show 0 ≤ a - 1 by omega)
  obtain ⟨q, hq⟩ := Int.eq_ofNat_of_zero_le (show 0 ≤ b - 1 by omega)
  have rp := row_in (m := m) (k := k) (i := p) (by omega)
  have rq := row_in (m := m) (k := k) (i := q) (by omega)
  rw [hp, hq, show (p : Int) * (k : Int) + ((j : Int) + 1) = ((p * k + j + 1 : Nat) : Int) by rw [← Int.natCast_mul]; omega, show (q : Int) * (k : Int) + ((j : Int) + 1) = ((q * k + j + 1 : Nat) : Int) by rw [← Int.natCast_mul]; omega]
  refine ⟨by simp, fun x hx => ?_⟩
  simp only [List.mem_cons, List.not_mem_nil, or_false] at hx
  rcases hx with rfl | rfl
  ·exact (in_pos (by omega) (by omega) h24).2
  ·exact (in_pos (by omega) (by omega) h24).2
theorem col_ok {m k E : Nat} {f : Nat → Int} (h24 : m * k ≤ 24) (hk0 : 1 ≤ k) (hk : k ≤ 6) (he : edsB m f E = true) (hl : (colC m k E f).length ≤ 120) : cnfB ((m * k : Nat) : Int) (colC m k E f) = true := by
 unfold ok.cnfB
 rw [decide_eq_true (by omega), decide_eq_true hl, Bool.true_and, Bool.true_and, List.all_eq_true]
 intro L hL
 have h := col_in h24 hk0 hk he L hL
 unfold ok.clB
 rw [decide_eq_true h.1, Bool.and_true, List.all_eq_true]
 exact h.2
def ColT (n k : Int) (E : Nat) (f : Nat → Int) (N : Int) (R : List (List Int)) : Prop :=
 ∃ m j : Nat, n = (m : Int) ∧ k = (j : Int) ∧ 1 ≤ m ∧ 1 ≤ j ∧ N = ((m * j : Nat) : Int) ∧ m * j ≤ 24 ∧ edsB m f E = true ∧ R = colC m j E f ∧ cnfB N R = true
theorem bothColorT (n k : Int) (E : Nat) (f : Nat → Int) (hE : E ≤ 9223372036854775807) : ∃ (N : Int) (b : Bool) (R : List (List Int)), tot R ≤ 1048576 ∧ (b = true → ColT n k E f N R) ∧
  (∀ w v, Eds w v E f → Calls Tryd.prog 12 #[.int .i64 n, v, .int .i64 k] w fun e w' => ∃ u, e = .returned (.tuple #[.agg #[.int .i64 N, u], .bool b]) ∧ OwnS w.heap.size w'.heap.size w' u R ∧ w.grownBy w' none)
  ∧ ∀ w v, Eds w v E f → Calls Tryd.prog 11 #[.int .i64 n, v, .int .i64 k] w fun e w' => ∃ u, e = .returned (.tuple #[.agg #[.int .i64 N, u], .bool b]) ∧ OwnS w.heap.size w'.heap.size w' u R ∧ w.grownBy w' none := by
 by_cases h : colX n k = true
 ·exact ⟨_, false, _, by simp [css.tot], (fun hb => by cases hb), fun w v hv => (specColorX n k E f v w [] (.inl h) hE hv).mono fun e w' h => cnfE_of h, fun w v hv => (implColorX n k E f v w [] h hv).mono fun e w' h => cnfE_of h⟩
 ·have h' : ¬ (n < 1 ∨ 12 < n ∨ k < 1 ∨ 6 < k ∨ 24 < n * k) := fun hh => h (decide_eq_true hh)
  obtain ⟨m, rfl⟩ := Int.eq_ofNat_of_zero_le (show 0 ≤ n by omega)
  obtain ⟨j, rfl⟩ := Int.eq_ofNat_of_zero_le (show 0 ≤ k by omega)
  have e : (m : Int) * (j : Int) = ((m * j : Nat) : Int) := by rw [Int.natCast_mul]
  have hmj : m * j ≤ 24 := by omega
  by_cases h120 : E ≤ 120
  ·refine ⟨_, edsB m f E && decide ((colC m j E f).length ≤ 120), _, col_tot (n := m) (k := j) (E := E) (f := f) (by omega) (b := edsB m f E && decide ((colC m j E f).length ≤ 120)) (fun hh => ?_), fun hb => ?_, fun w v hv => (specColor m j E f v w (by omega) (by omega) (by omega) (by omega) hmj h120 hv).mono fun e w' h => cnfE_of h, fun w v hv => ?_⟩
   ·rw [Bool.and_eq_true, decide_eq_true_eq] at hh
    exact hh.2
   ·rw [hb, if_pos rfl, if_pos rfl]
    rw [Bool.and_eq_true, decide_eq_true_eq] at hb
    exact ⟨m, j, rfl, rfl, by omega, by omega, e, hmj, hb.1, rfl, by rw [e]; exact col_ok hmj (by omega) (by omega) hb.1 hb.2⟩
   ·cases he : edsB m f E
    ·exact (implColorN m j E f v w (by omega) (by omega) (by omega) (by omega) hmj hE hv _ _ (by rw [he, Bool.and_false])).mono fun e w' h => cnfE_of h
    ·have q := implColor m j E f v w (by omega) (by omega) (by omega) (by omega) hmj h120 hv he
     rw [Bool.true_and]
     exact q.mono fun e w' h => cnfE_of h
  ·exact ⟨_, false, _, by simp [css.tot], (fun hb => by cases hb), fun w v hv => (specColorX m j E f v w [] (.inr (by omega)) hE hv).mono fun e w' h => cnfE_of h, fun w v hv => (implColorN m j E f v w (by omega) (by omega) (by omega) (by omega) hmj hE hv _ _ (by rw [decide_eq_false h120, Bool.false_and])).mono fun e w' h => cnfE_of h⟩
def goods (m k E : Nat) (f : Nat → Int) (c : Nat) : Nat := cntR c (fun c => goodB f E (dg k m c))
theorem goods_step (m k E : Nat) (f : Nat → Int) (c : Nat) : goods m k E f (c + 1) = goods m k E f c + (if goodB f E (dg k m c) then 1 else 0) := cntR_succ ..
theorem goods_le (m k E : Nat) (f : Nat → Int) : ∀ c, goods m k E f c ≤ c
 | 0 => Nat.le_refl _
 | c + 1 => by
  rw [goods_step]
  have := goods_le m k E f c
  split <;> omega
theorem col_told {m k E : Nat} {f : Nat → Int} (hk : k = 1 ∨ k = 2 ∨ k = 3) (h24 : m * k ≤ 24) (he : edsB m f E = true) (hc : cnfB ((m * k : Nat) : Int) (colC m k E f) = true) :
  (solveL ((m * k : Nat) : Int) (colC m k E f) []).isSome = decide (0 < goods m k E f (k ^ m)) ∧ (m * k ≤ 12 → ct.countI ((m * k : Nat) : Int) (colC m k E f) = (goods m k E f (k ^ m) : Int)) := by
 rw [sat_cnt hc, count_col hk h24 he]
 refine ⟨rfl, fun h => ?_⟩
 rw [count_cnt (by omega) hc, count_col hk h24 he]
 rfl
theorem pow_bd {m k : Nat} (hk : k = 1 ∨ k = 2 ∨ k = 3) (hm : m ≤ 5) : k ^ m ≤ 243 := by
 have : m = 0 ∨ m = 1 ∨ m = 2 ∨ m = 3 ∨ m = 4 ∨ m = 5 := by omega
 rcases hk with rfl | rfl | rfl <;> rcases this with rfl | rfl | rfl | rfl | rfl | rfl <;> decide
end Go.Proofs.YtfhmdpbnnieohaaDoor.pz
