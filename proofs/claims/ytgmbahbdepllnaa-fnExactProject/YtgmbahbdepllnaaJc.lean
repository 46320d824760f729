/- The calls of the law on turned variables, told with what they mean; conditions: a formula that holds at most 2^20 values. -/
import Derived.Test.YtgmbahbdepllnaaJa
import Derived.Test.YtgmbahbdepllnaaJb
namespace Go.Proofs.Ytgmbahbdepllnaa.jb
open Go.ChangeShapes Go.WideShapes Go.ChangeAt Go.RowKit
open Go.Proofs.Ytgmbahbdepllnaa.sl (Sl Own ints hide unhide grown_refl grown_trans)
open Go.Proofs.Ytgmbahbdepllnaa.css (Sls OwnS tot)
open Go.Proofs.Ytgmbahbdepllnaa.ok (cnfB)
open Go.Proofs.Ytgmbahbdepllnaa.tr (litT clT cnfT trueB)
open Go.Proofs.Ytgmbahbdepllnaa.ge (exZ flR swR hvB)
set_option linter.unusedVariables false

/-- a call over a formula that answers a formula of its own and a flag -/
def Turns (F : FuncId) (args : Value → Array Value) (L : List (List Int)) (N : Int) (R : List (List Int)) (b : Bool) : Prop :=
  ∀ w v lo hi, OwnS lo hi w v L → hi ≤ w.heap.size → Calls Try.prog F (args v) w fun e w' => ∃ a c, e = .returned (.tuple #[.agg #[.int .i64 N, .slice a R.length c], .bool b]) ∧ OwnS w.heap.size w'.heap.size w' (.slice a R.length c) R ∧ w.grownBy w' none
theorem out_form {b : Bool} {n : Int} {R : List (List Int)} {w : World} {e : Ending} {w' : World} (h : ge.OutE b n R w e w') : ∃ a c, e = .returned (.tuple #[.agg #[.int .i64 (ge.outN b n), .slice a (ge.outR b R).length c], .bool b]) ∧ OwnS w.heap.size w'.heap.size w' (.slice a (ge.outR b R).length c) (ge.outR b R) ∧ w.grownBy w' none := by
  obtain ⟨q, rfl, o, g⟩ := h
  obtain ⟨a, c, rfl⟩ := o.len
  exact ⟨a, c, rfl, o, g⟩
/-- what holds of the answer where it is one -/
def Means (n : Int) (LL R : List (List Int)) (N : Int) (F : FuncId) (args : Value → Array Value) (Y : List Int → List Int) : Prop :=
  N = n ∧ Turns F args R n LL true ∧ ∀ X : List Int, (X.length : Int) = n → (∀ z ∈ X, z = 0 ∨ z = 1) → trueB n R X = trueB n LL (Y X)
theorem set_bits {X : List Int} {i : Nat} {z : Int} (h : ∀ y ∈ X, y = 0 ∨ y = 1) (hz : z = 0 ∨ z = 1) : ∀ y ∈ X.set i z, y = 0 ∨ y = 1 := by
  intro y hy
  rcases List.mem_or_eq_of_mem_set hy with e | e
  · exact h y e
  · rw [e]; exact hz
theorem get_bits {X : List Int} {i : Nat} (h : ∀ y ∈ X, y = 0 ∨ y = 1) : X.getD i 0 = 0 ∨ X.getD i 0 = 1 := by
  by_cases hi : i < X.length
  · rw [show X.getD i 0 = X[i] by simp [hi]]
    exact h _ (List.getElem_mem hi)
  · rw [List.getD_eq_getElem?_getD, List.getElem?_eq_none (by omega)]
    exact .inl rfl
theorem flipAll (n x : Int) (LL : List (List Int)) (ht : tot LL ≤ 1048576) : ∃ (b : Bool) (N : Int) (R : List (List Int)), tot R ≤ 1048576 ∧ Turns 13 (fun v => #[.agg #[.int .i64 n, v], .int .i64 x]) LL N R b ∧ Turns 15 (fun v => #[.agg #[.int .i64 n, v], .int .i64 x]) LL N R b
    ∧ (b = true → (1 ≤ x ∧ x ≤ n ∧ n ≤ 24) ∧ Means n LL R N 13 (fun v => #[.agg #[.int .i64 n, v], .int .i64 x]) fun X => X.set (x - 1).toNat (1 - X.getD (x - 1).toNat 0)) := by
  have hR : tot (flR x LL) ≤ 1048576 := by unfold ge.flR; rw [ge.tot_map]; exact ht
  refine ⟨hvB n x LL, ge.outN (hvB n x LL) n, ge.outR (hvB n x LL) (flR x LL), ge.tot_out _ hR, fun w v lo hi h hh => (ge.implFlip v n x LL lo hi w ht h).mono fun e w' h => out_form h, fun w v lo hi h hh => (ge.specFlip v n x LL lo hi w ht hh h).mono fun e w' h => out_form h, fun h => ?_⟩
  obtain ⟨k1, k2⟩ := ja.flip_ok h
  have hv := ge.hv_yes h
  have h2 : hvB n x (flR x LL) = true := by
    unfold ge.hvB
    rw [k1, decide_eq_true ⟨hv.2.1, hv.2.2.1⟩]
    rfl
  rw [h]
  refine ⟨hv.2, rfl, fun w v lo hi ho hh => ?_, fun X hl hb => ?_⟩
  · have C := (ge.implFlip v n x (flR x LL) lo hi w hR ho).mono fun e w' h => out_form h
    rw [h2, k2] at C
    exact C
  · show trueB n (flR x LL) X = _
    rw [mf.trueB_of k1 hl hb, mf.trueB_of hv.1 (by rw [List.length_set]; exact hl) (set_bits hb (by rcases get_bits (i := (x - 1).toNat) hb with e | e <;> rw [e] <;> simp))]
    exact ja.flip_true h hl (get_bits hb)
theorem swapAll (n x y : Int) (LL : List (List Int)) (ht : tot LL ≤ 1048576) : ∃ (b : Bool) (N : Int) (R : List (List Int)), tot R ≤ 1048576 ∧ Turns 14 (fun v => #[.agg #[.int .i64 n, v], .int .i64 x, .int .i64 y]) LL N R b ∧ Turns 16 (fun v => #[.agg #[.int .i64 n, v], .int .i64 x, .int .i64 y]) LL N R b
    ∧ (b = true → ((1 ≤ x ∧ x ≤ n ∧ n ≤ 24) ∧ 1 ≤ y ∧ y ≤ n) ∧ Means n LL R N 14 (fun v => #[.agg #[.int .i64 n, v], .int .i64 x, .int .i64 y]) fun X => (X.set (x - 1).toNat (X.getD (y - 1).toNat 0)).set (y - 1).toNat (X.getD (x - 1).toNat 0)) := by
  have hR : tot (swR x y LL) ≤ 1048576 := by unfold ge.swR; rw [ge.tot_map]; exact ht
  refine ⟨hvB n x LL && hvB n y LL, ge.outN (hvB n x LL && hvB n y LL) n, ge.outR (hvB n x LL && hvB n y LL) (swR x y LL), ge.tot_out _ hR, fun w v lo hi h hh => (ge.implSwap v n x y LL lo hi w ht h).mono fun e w' h => out_form h, fun w v lo hi h hh => (ge.specSwap v n x y LL lo hi w ht hh h).mono fun e w' h => out_form h, fun h => ?_⟩
  have h' := h
  rw [Bool.and_eq_true] at h'
  obtain ⟨k1, k2⟩ := ja.swap_ok h'.1 h'.2
  have hv := ge.hv_yes h'.1
  have hw := ge.hv_yes h'.2
  have h2 : hvB n x (swR x y LL) = true ∧ hvB n y (swR x y LL) = true := by
    unfold ge.hvB
    rw [k1, decide_eq_true ⟨hv.2.1, hv.2.2.1⟩, decide_eq_true ⟨hw.2.1, hw.2.2.1⟩]
    exact ⟨rfl, rfl⟩
  rw [h]
  refine ⟨⟨hv.2, hw.2.1, hw.2.2.1⟩, rfl, fun w v lo hi ho hh => ?_, fun X hl hb => ?_⟩
  · have C := (ge.implSwap v n x y (swR x y LL) lo hi w hR ho).mono fun e w' h => out_form h
    rw [h2.1, h2.2, k2] at C
    exact C
  · show trueB n (swR x y LL) X = _
    rw [mf.trueB_of k1 hl hb, mf.trueB_of hv.1 (by rw [List.length_set, List.length_set]; exact hl) (set_bits (set_bits hb (get_bits hb)) (get_bits hb))]
    exact ja.swap_true h'.1 h'.2 hl
theorem now {lo hi : Nat} {w : World} {v : Value} {L : List (List Int)} (h : OwnS lo hi w v L) : OwnS lo w.heap.size w v L := by
  obtain ⟨D, e, ho, _, hin, hp⟩ := h
  exact ⟨D, e, ho, fun k e => (ho.lt k e).2, fun p hp => ⟨(hin p hp).1, fun k e => ((hin p hp).1.lt k e).2⟩, hp⟩
theorem own_now {lo hi : Nat} {w : World} {v : Value} {L : List Int} (h : Own lo hi w v L) : Own lo w.heap.size w v L := ⟨h.1, fun k e => (h.1.lt k e).2⟩
theorem own_cell {lo hi g cap i : Nat} {w : World} {X : List Int} (h : Own lo hi w (.slice (some ⟨g, 0, none⟩) X.length cap) X) (hi' : i < X.length) : w.cell? ⟨g, i, none⟩ = some (.int .i64 (X.getD i 0)) := by
  rw [h.1.cellAt i (by omega)]
  simp [sl.ints, hi']
theorem own_some {lo hi : Nat} {w : World} {v : Value} {X : List Int} (h : Own lo hi w v X) (hX : 0 < X.length) : ∃ g cap, v = .slice (some ⟨g, 0, none⟩) X.length cap ∧ g < w.heap.size := by
  have hl := h.1
  obtain ⟨_, h2⟩ := h.1
  rcases h2 with ⟨rfl, h0⟩ | ⟨g, cap, cur, rfl, _⟩
  · omega
  · exact ⟨g, cap, rfl, (hl.lt g rfl).2⟩
theorem made_new {w w6 : World} {X : List Int} {g cap : Nat} (h : wo.Made w w6 (.slice (some ⟨g, 0, none⟩) X.length cap) X) : w.heap.size ≤ g := (h.1.lt g rfl).1
theorem own_set {lo hi c i : Nat} {w : World} {u v : Value} {X : List Int} (h : Own lo hi w v X) (hc : v.ownBlock ≠ some c) : Own lo hi (w.setCell ⟨c, i, none⟩ u) v X :=
  ⟨h.1.kept (sl.grown_setCell w c i u) (.inr hc), h.2⟩
end Go.Proofs.Ytgmbahbdepllnaa.jb
