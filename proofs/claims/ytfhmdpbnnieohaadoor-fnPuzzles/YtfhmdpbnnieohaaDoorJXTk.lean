/- Exactly of the model; AtMost, AtLeast, Exactly of both, at any number and any list of at most 2^20 numbers. -/
import Derived.Test.YtfhmdpbnnieohaaDoorJXTi
import Derived.Test.YtfhmdpbnnieohaaDoorJPn
namespace Go.Proofs.YtfhmdpbnnieohaaDoor.t2
open Go.ChangeShapes Go.WideShapes Go.ChangeAt Go.RowKit
open lits (okB okB_iff)
open sl (Sl Own ints hide unhide ret_int ret_bool grown_refl grown_trans grown_drewN)
open css (Sls OwnS tot Apart own_ne own_ne' own_kind own_mono)
open cf (Box)
open sp (negL)
set_option linter.unusedVariables false
theorem appendJ {ops : Array Oper} {rest : List Oper} {o : Oper} {a : Act} {Q : Exit → Act → World → Prop} {wr : World} {va vb : Value} {A B : List (List Int)} {lo mid mid' hi : Nat}
  (hA : OwnS lo mid wr va A) (hB : OwnS mid' hi wr vb B) (hm : mid ≤ mid') (hlo : lo ≤ mid') (hh : hi ≤ wr.heap.size) (hls : lo ≤ wr.heap.size) (hl : A.length + B.length ≤ 1048576) (hgd : o.guard = none) (s x : Operand)
  (ho : o.op = .call { callee := .builtin .append, args := #[s, x], argTypes := #[25, 25] }) (hs : a.eval s = va) (hx : a.eval x = vb)
  (h : ∀ v' w1, OwnS lo w1.heap.size w1 v' (A ++ B) → wr.grownBy w1 va.ownBlock → wpList Tryd.prog ops Q rest (a.put o.dst v') w1) : wpList Tryd.prog ops Q (o :: rest) a wr :=
 wpList_plain hgd fun K hK => app.wpJ hA hB hm hlo hh hls hl s x ho hs hx fun v' w1 o g => hK _ _ (h v' w1 o g)
theorem justB_no1 {L : List Int} {k : Int} (h : leastB L k = false) : justB L k = false := by
 unfold justB leastB at *
 cases hl : listB L
 ·simp
 ·rw [hl, Bool.true_and, decide_eq_false_iff_not] at h
  rw [List.length_append, decide_eq_false (show ¬ (leastC L k).length + (mostC L k).length ≤ 120 by omega), Bool.and_false]
theorem justB_no2 {L : List Int} {k : Int} (h : mostB L k = false) : justB L k = false := by
 unfold justB mostB at *
 cases hl : listB L
 ·simp
 ·by_cases hk : 0 ≤ k
  ·rw [hl, decide_eq_true hk, Bool.true_and, Bool.true_and, decide_eq_false_iff_not] at h
   rw [List.length_append, decide_eq_false (show ¬ (leastC L k).length + (mostC L k).length ≤ 120 by omega), Bool.and_false]
  ·rw [decide_eq_false hk]
   simp
theorem justB_at {L : List Int} {k : Int} (h1 : leastB L k = true) (h2 : mostB L k = true) : justB L k = decide ((leastC L k).length + (mostC L k).length ≤ 120) := by
 unfold justB
 unfold mostB at h2
 simp only [Bool.and_eq_true] at h2
 rw [h2.1.1, h2.1.2, List.length_append]
 rfl
set_option maxRecDepth 10000 in
set_option maxHeartbeats 4000000 in
theorem specExactly (k : Int) (u : Value) (L : List Int) (w : World) (hL : L.length ≤ 1048576) (hu : Sl w u L) :
  Calls Tryd.prog 33 #[u, .int .i64 k] w fun e w' => AnsE w (justB L k) (leastC L k ++ mostC L k) e w' := by
 have c1 := specAtLeast k u L w hL hu
 have c2 := fun (w1 : World) (g : w.grownBy w1 none) => specAtMost k u L w1 hL (hu.kept g (.inl rfl))
 obtain ⟨ua, uc, rfl, _⟩ := hu
 have j1 := @justB_no1 L k
 have j2 := @justB_no2 L k
 have j3 := @justB_at L k
 have q1 : leastB L k = true → (leastC L k).length ≤ 120 := fun h => by
  simp only [leastB, Bool.and_eq_true, decide_eq_true_eq] at h
  exact h.2
 have q2 : mostB L k = true → (mostC L k).length ≤ 120 := fun h => by
  simp only [mostB, Bool.and_eq_true, decide_eq_true_eq] at h
  exact h.2
 generalize leastC L k = A at *
 generalize mostC L k = B at *
 generalize leastB L k = a0 at *
 generalize mostB L k = b0 at *
 generalize justB L k = jb at *
 have C1 := hide c1
 have C2 := hide c2
 clear c1 c2
 cases a0
 ·rw [j1 rfl]
  clear j1 j2 j3 q1 q2
  go_enter Tryd.func33, Tryd.ntmps33
  go_wp2_with fail
  refine (unhide C1).mono ?_; rintro e w1 ⟨q, rfl, o1, g1⟩
  have C2' := hide (unhide C2 w1 g1)
  have G1 := hide g1
  obtain ⟨a1, k1, rfl⟩ := o1.len
  clear o1 g1 C2
  go_wp2_with fail
  refine (unhide C2').mono ?_; rintro e w2 ⟨q2, rfl, o2, g2⟩
  have G2 := hide (grown_trans (r := none) (unhide G1) g2)
  obtain ⟨a2, k2, rfl⟩ := o2.len
  clear o2 g2 C2'
  go_wp2_with fail
  all_goals
   go_ret2
   exact ans_no (unhide G2)
 ·cases b0
  ·rw [j2 rfl]
   clear j1 j2 j3 q1 q2
   go_enter Tryd.func33, Tryd.ntmps33
   go_wp2_with fail
   refine (unhide C1).mono ?_; rintro e w1 ⟨q, rfl, o1, g1⟩
   have C2' := hide (unhide C2 w1 g1)
   have G1 := hide g1
   obtain ⟨a1, k1, rfl⟩ := o1.len
   clear o1 g1 C2
   go_wp2_with fail
   refine (unhide C2').mono ?_; rintro e w2 ⟨q2, rfl, o2, g2⟩
   have G2 := hide (grown_trans (r := none) (unhide G1) g2)
   obtain ⟨a2, k2, rfl⟩ := o2.len
   clear o2 g2 C2'
   go_wp2_with fail
   go_ret2
   exact ans_no (unhide G2)
  ·have hA := q1 rfl
   have hB := q2 rfl
   rw [j3 rfl rfl]
   clear j1 j2 j3 q1 q2
   by_cases hs : A.length + B.length ≤ 120
   ·have hs' : ¬ (120 : Int) < (A.length : Int) + (B.length : Int) := by omega
    rw [decide_eq_true hs]
    have hl : A.length + B.length ≤ 1048576 := by omega
    clear hs
    go_enter Tryd.func33, Tryd.ntmps33
    go_wp2_with fail
    refine (unhide C1).mono ?_; rintro e w1 ⟨q, rfl, o1, g1⟩
    have o1' : OwnS w.heap.size w1.heap.size w1 q A := o1
    have C2' := hide (unhide C2 w1 g1)
    have G1 := hide g1
    obtain ⟨a1, k1, rfl⟩ := o1'.len
    have O1 := hide o1'
    clear o1 o1' g1 C2
    go_wp2_with fail
    refine (unhide C2').mono ?_; rintro e w2 ⟨q2, rfl, o2, g2⟩
    have o2' : OwnS w1.heap.size w2.heap.size w2 q2 B := o2
    have G2 := hide (grown_trans (r := none) (unhide G1) g2)
    have O1' := hide ((unhide O1).kept g2)
    have S1 := hide (unhide G1).size
    have S2 := hide (unhide G2).size
    obtain ⟨a2, k2, rfl⟩ := o2'.len
    have O2 := hide o2'
    clear o2 o2' g2 C2' O1
    go_wp2_with (at_builtin; refine appendJ (unhide O1') (unhide O2) (Nat.le_refl _) (unhide S1) (Nat.le_refl _) (unhide S2) hl rfl _ _ rfl rfl rfl ?_)
    intro v' w3 o3 g3
    have R := hide (And.intro o3 (app.grown_joinS (unhide G2) (unhide O1') g3))
    obtain ⟨a3, k3, e3⟩ := o3.len
    subst e3
    clear o3 g3 O1' O2 S1 S2 G2
    go_wp2_with fail
    go_ret2
    exact ⟨_, rfl, (unhide R).1, (unhide R).2⟩
   ·have hs' : (120 : Int) < (A.length : Int) + (B.length : Int) := by omega
    rw [decide_eq_false hs]
    clear hs
    go_enter Tryd.func33, Tryd.ntmps33
    go_wp2_with fail
    refine (unhide C1).mono ?_; rintro e w1 ⟨q, rfl, o1, g1⟩
    have o1' : OwnS w.heap.size w1.heap.size w1 q A := o1
    have C2' := hide (unhide C2 w1 g1)
    have G1 := hide g1
    obtain ⟨a1, k1, rfl⟩ := o1'.len
    clear o1 o1' g1 C2
    go_wp2_with fail
    refine (unhide C2').mono ?_; rintro e w2 ⟨q2, rfl, o2, g2⟩
    have o2' : OwnS w1.heap.size w2.heap.size w2 q2 B := o2
    have G2 := hide (grown_trans (r := none) (unhide G1) g2)
    obtain ⟨a2, k2, rfl⟩ := o2'.len
    clear o2 o2' g2 C2'
    go_wp2_with fail
    go_ret2
    exact ans_no (unhide G2)
theorem tot_le {K : Nat} : ∀ {LL : List (List Int)}, (∀ C ∈ LL, C.length ≤ K) → tot LL ≤ LL.length * (K + 1)
 | [], _ => by simp [tot]
 | C :: LL, h => by
  have ih := tot_le (K := K) (LL := LL) (fun D hD => h D (List.mem_cons_of_mem _ hD))
  have hC := h C (List.mem_cons_self ..)
  unfold tot at *
  rw [List.length_cons, List.map_cons, List.sum_cons, Nat.succ_mul]
  omega
theorem tot_few {CC : List (List Int)} (h1 : CC.length ≤ 120) (h2 : ∀ C ∈ CC, C.length ≤ 25) : tot CC ≤ 1048576 := by
 have := tot_le h2
 omega
theorem most_len {L : List Int} {k : Int} (hL : L.length ≤ 24) : ∀ C ∈ mostC L k, C.length ≤ 25 := by
 intro C h
 have := subs_len _ _ C h
 omega
theorem least_len {L : List Int} {k : Int} (hL : L.length ≤ 24) : ∀ C ∈ leastC L k, C.length ≤ 25 := by
 intro C h
 have := subs_len _ _ C h
 omega
end Go.Proofs.YtfhmdpbnnieohaaDoor.t2
