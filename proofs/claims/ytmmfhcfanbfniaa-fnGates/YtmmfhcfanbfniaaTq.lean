/- What the laws of stage 13 call of AtMost, AtLeast and Exactly, told with what their clauses say; whether all clauses of a list are true. -/
import Derived.Test.YtmmfhcfanbfniaaTk
import Derived.Test.YtmmfhcfanbfniaaTo
import Derived.Test.YtmmfhcfanbfniaaTp
namespace Go.Proofs.Ytmmfhcfanbfniaa.t2
open Go.ChangeShapes Go.WideShapes Go.ChangeAt Go.RowKit
open Go.Proofs.Ytmmfhcfanbfniaa.lits (okB okB_iff)
open Go.Proofs.Ytmmfhcfanbfniaa.sl (Sl Own ints hide unhide ret_int ret_bool grown_refl grown_trans grown_drewN)
open Go.Proofs.Ytmmfhcfanbfniaa.css (Sls OwnS tot)
open Go.Proofs.Ytmmfhcfanbfniaa.tr (litT clT cnfT implClauseTrue)
open Go.Proofs.Ytmmfhcfanbfniaa.ok (all_hit all_step all_end)
open Go.Proofs.Ytmmfhcfanbfniaa.t1 (cntL)
set_option linter.unusedVariables false

theorem allTrue (v u : Value) (LL : List (List Int)) (A : List Int) (w : World) (hn : LL.length ≤ 1048576) (hin : ∀ i, (LL.getD i []).length ≤ 1048576) (hA : A.length ≤ 1048576) (hv : Sls w v LL) (hu : Sl w u A) :
    Calls Try.prog 24 #[v, u] w fun e w' => e = .returned (.bool (cnfT A LL)) ∧ w' = w := by
  have HV1 := hide hv
  have HU1 := hide hu
  have HI := hide hin
  obtain ⟨a, cap, rfl, _⟩ := hv
  clear hu hin
  go_enter Try.func24, Try.ntmps24
  go_wp2_with fail
  go_loop [5] (fun i => ∃ k : Nat, k ≤ LL.length ∧ i = .int .i64 k ∧ Hid ((LL.take k).all (clT A) = true)) (fun i => LL.length - (intOf i).toNat)
  case atStart => exact ⟨0, Nat.zero_le _, rfl, by show _ = _; simp⟩
  case round =>
    obtain ⟨k, hk, rfl, hall⟩ := hrel
    by_cases hlt : k < LL.length
    · obtain ⟨a', cap', e, ha⟩ := unhide HV1
      simp only [Value.slice.injEq] at e
      obtain ⟨rfl, _, rfl⟩ := e
      rcases ha with h | ⟨b, off, rfl, hb, hcb⟩
      · rw [h] at hlt
        simp at hlt
      · obtain ⟨x, c1, hs⟩ := hcb k hlt
        have hi' : (k : Int) < (LL.length : Int) := by omega
        have h1 := all_hit (clT A) LL k [] hlt
        have h2 := all_step (clT A) LL k [] hlt (unhide hall)
        have hL := unhide HI k
        generalize LL.getD k [] = L at *
        have cx := implClauseTrue x u L A _ hL hA hs (unhide HU1)
        clear hcb hall hs HU1 HV1
        cases hx : clT A L
        · rw [hx] at cx
          have CX := hide cx
          have H := hide (h1 hx)
          clear h1 h2 hx cx
          go_wp2_with fail
          refine (unhide CX).mono ?_; rintro e w2 ⟨rfl, hw⟩; have hw' := hw.symm; clear hw; subst hw'
          go_wp2_with fail
          go_ret
          exact ⟨ret_bool (by rw [show cnfT A LL = false from unhide H]), rfl⟩
        · rw [hx] at cx
          have CX := hide cx
          have H := hide (h2 hx)
          clear h1 h2 hx cx
          go_wp2_with fail
          refine (unhide CX).mono ?_; rintro e w2 ⟨rfl, hw⟩; have hw' := hw.symm; clear hw; subst hw'
          go_wp2_with fail
          go_round
          case rel => exact ⟨k + 1, by omega, by go_num, H⟩
          case measure => simp [intOf]; omega
    · have hi' : ¬ (k : Int) < (LL.length : Int) := by omega
      have HR := hide (all_end (clT A) LL k hlt (unhide hall))
      clear HV1 HU1 hall
      go_wp2
      go_ret
      exact ⟨ret_bool (by rw [show cnfT A LL = true from unhide HR]), rfl⟩

/-- what both sides answer: lists R and a flag, and what the lists say of an assignment -/
def Told (fi fs : FuncId) (args : Value → Array Value) (L : List Int) (R : List (List Int)) (x : Bool) : Prop :=
  (R.length ≤ 1048576 ∧ ∀ i, (R.getD i []).length ≤ 1048576) ∧ (∀ w u, Sl w u L → Calls Try.prog fs (args u) w fun e w' => ∃ a c, e = .returned (.tuple #[.slice a R.length c, .bool x]) ∧ OwnS w.heap.size w'.heap.size w' (.slice a R.length c) R ∧ w.grownBy w' none)
    ∧ ∀ w u lo hi, Own lo hi w u L → hi ≤ w.heap.size → Calls Try.prog fi (args u) w fun e w' => ∃ a c, e = .returned (.tuple #[.slice a R.length c, .bool x]) ∧ OwnS w.heap.size w'.heap.size w' (.slice a R.length c) R ∧ w.grownBy w' none
theorem ans_form {w : World} {x : Bool} {CC : List (List Int)} {e : Ending} {w' : World} (h : AnsE w x CC e w') : ∃ a c, e = .returned (.tuple #[.slice a (if x then CC else []).length c, .bool x]) ∧ OwnS w.heap.size w'.heap.size w' (.slice a (if x then CC else []).length c) (if x then CC else []) ∧ w.grownBy w' none := by
  obtain ⟨q, rfl, o, g⟩ := h
  obtain ⟨a, c, rfl⟩ := o.len
  exact ⟨a, c, rfl, o, g⟩
theorem small {R : List (List Int)} (h : tot R ≤ 1048576) : R.length ≤ 1048576 ∧ ∀ i, (R.getD i []).length ≤ 1048576 := ⟨Nat.le_trans (css.tot_len R) h, fun i => Nat.le_trans (css.tot_in R i) h⟩
theorem mostW (X L : List Int) (hL : L.length ≤ 1048576) (k : Int) : ∃ (x : Bool) (R : List (List Int)), Told 16 19 (fun u => #[u, .int .i64 k]) L R x ∧ (x = true → cnfT X R = decide ((cntL X L : Int) ≤ k)) := by
  refine ⟨mostB L k, if mostB L k then mostC L k else [], ⟨small (ans_tot fun h => ?_), fun w u h => (specAtMost k u L w hL h).mono fun e w' h => ans_form h, fun w u lo hi h hh => (implAtMost k u L lo hi w hL h hh).mono fun e w' h => ans_form h⟩, fun h => ?_⟩
  · simp only [mostB, Bool.and_eq_true, decide_eq_true_eq] at h
    exact tot_few h.2 (most_len (list_ok h.1.1).1)
  · rw [h]
    simp only [mostB, Bool.and_eq_true, decide_eq_true_eq] at h
    exact most_true (list_ok h.1.1).2 h.1.2
theorem leastW (X L : List Int) (hL : L.length ≤ 1048576) (k : Int) (hk : -9223372036854775808 ≤ k ∧ k ≤ 9223372036854775807) : ∃ (x : Bool) (R : List (List Int)), Told 17 20 (fun u => #[u, .int .i64 k]) L R x ∧ (x = true → cnfT X R = decide (k ≤ (cntL X L : Int))) := by
  refine ⟨leastB L k, if leastB L k then leastC L k else [], ⟨small (ans_tot fun h => ?_), fun w u h => (specAtLeast k u L w hL h).mono fun e w' h => ans_form h, fun w u lo hi h hh => (implAtLeast k u L lo hi w hL hk.1 hk.2 h hh).mono fun e w' h => ans_form h⟩, fun h => ?_⟩
  · simp only [leastB, Bool.and_eq_true, decide_eq_true_eq] at h
    exact tot_few h.2 (least_len (list_ok h.1).1)
  · rw [h]
    exact least_true
theorem justW (X L : List Int) (hL : L.length ≤ 1048576) (k : Int) (hk : -9223372036854775808 ≤ k ∧ k ≤ 9223372036854775807) : ∃ (x : Bool) (R : List (List Int)), Told 18 21 (fun u => #[u, .int .i64 k]) L R x ∧ (x = true → cnfT X R = ((cntL X L : Int) == k)) := by
  refine ⟨justB L k, if justB L k then leastC L k ++ mostC L k else [], ⟨small (ans_tot fun h => ?_), fun w u h => (specExactly k u L w hL h).mono fun e w' h => ans_form h, fun w u lo hi h hh => (implExactly k u L lo hi w hL hk.1 hk.2 h hh).mono fun e w' h => ans_form h⟩, fun h => ?_⟩
  · simp only [justB, Bool.and_eq_true, decide_eq_true_eq] at h
    refine tot_few h.2 fun C hC => ?_
    rw [List.mem_append] at hC
    rcases hC with hC | hC
    · exact least_len (list_ok h.1.1).1 C hC
    · exact most_len (list_ok h.1.1).1 C hC
  · rw [h]
    simp only [justB, Bool.and_eq_true, decide_eq_true_eq] at h
    show cnfT X (leastC L k ++ mostC L k) = _
    rw [just_true (list_ok h.1.1).2 h.1.2, Bool.eq_iff_iff]
    simp
theorem parW (L : List Int) (hL : L.length ≤ 1048576) : ∃ (x : Bool) (P : Bool → List (List Int)), (∀ odd, Told 26 27 (fun u => #[u, .bool odd]) L (P odd) x) ∧ (x = true → (∀ X odd, cnfT X (P odd) = (decide (cntL X L % 2 = 1) == odd)) ∧ ∀ odd, decide ((P odd).length = (P (!odd)).length) = decide (0 < L.length)) := by
  refine ⟨parB L, fun odd => if parB L then parC L odd else [], fun odd => ⟨small (ans_tot fun h => ?_), fun w u h => (specParity odd u L w hL h).mono fun e w' h => ans_form h, fun w u lo hi h hh => (implParity odd u L lo hi w hL h hh).mono fun e w' h => ans_form h⟩, fun h => ?_⟩
  · simp only [parB, Bool.and_eq_true, decide_eq_true_eq] at h
    have hle := par_le (L := L) odd h.2
    refine tot_few (by omega) fun C hC => ?_
    unfold parC at hC
    rw [List.mem_map] at hC
    obtain ⟨k, _, rfl⟩ := hC
    exact Nat.le_trans way_le (by omega)
  · simp only [h, if_true]
    simp only [parB, Bool.and_eq_true, decide_eq_true_eq] at h
    exact ⟨fun X odd => par_true (list_ok h.1).2, fun odd => par_lens L odd⟩
/-- the same, told of the two lists that the law draws -/
theorem parV (L : List Int) (hL : L.length ≤ 1048576) (odd : Bool) : ∃ (x : Bool) (R1 R2 : List (List Int)), Told 26 27 (fun u => #[u, .bool odd]) L R1 x ∧ Told 26 27 (fun u => #[u, .bool (!odd)]) L R2 x ∧ (x = true → (∀ X, cnfT X R1 = (((cntL X L : Int) % 2 == 1) == odd) ∧ cnfT X R2 = (((cntL X L : Int) % 2 == 1) == !odd)) ∧ ((0 < L.length ∧ ((R1.length : Int) == (R2.length : Int)) = true) ∨ (¬ 0 < L.length ∧ ((R1.length : Int) == (R2.length : Int)) = false))) := by
  obtain ⟨x, P, h1, h2⟩ := parW L hL
  refine ⟨x, P odd, P (!odd), h1 odd, h1 (!odd), fun h => ?_⟩
  obtain ⟨h3, h4⟩ := h2 h
  have e : ∀ X, decide (cntL X L % 2 = 1) = ((cntL X L : Int) % 2 == 1) := fun X => by
    rw [Bool.eq_iff_iff]
    simp
    omega
  refine ⟨fun X => ⟨by rw [h3, e], by rw [h3, e]⟩, ?_⟩
  have h5 := h4 odd
  by_cases h0 : 0 < L.length
  · rw [decide_eq_true h0] at h5
    exact .inl ⟨h0, by rw [of_decide_eq_true h5]; simp⟩
  · rw [decide_eq_false h0] at h5
    refine .inr ⟨h0, ?_⟩
    have := of_decide_eq_false h5
    simp
    omega
end Go.Proofs.Ytmmfhcfanbfniaa.t2
