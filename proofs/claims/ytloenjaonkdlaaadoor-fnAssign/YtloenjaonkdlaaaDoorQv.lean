/- The values at which a path is true: what valuesOf answers at every list of at most 2^20 numbers. -/
import Derived.Test.YtloenjaonkdlaaaDoorQm
import Derived.Test.YtloenjaonkdlaaaDoorApp
namespace Go.Proofs.YtloenjaonkdlaaaDoor.qm
open Go.ChangeShapes Go.WideShapes Go.ChangeAt Go.RowKit
open Go.Proofs.YtloenjaonkdlaaaDoor.wo (Made)
open Go.Proofs.YtloenjaonkdlaaaDoor.sl (Sl Own ints hide unhide grown_refl grown_trans own_stored ints_length)
set_option linter.unusedVariables false
theorem part_skip (L : List Int) (k : Nat) (h : k < L.length) (h0 : L.getD k 0 = 0) : sl.part L (k + 1) = sl.part L k := by
  have e : L[k] = 0 := by rw [List.getD_eq_getElem?_getD, List.getElem?_eq_getElem h] at h0; exact h0
  unfold sl.part
  rw [List.take_succ_eq_append_getElem h, e, show L.length - k = (L.length - (k + 1)) + 1 by omega, List.replicate_succ, List.append_assoc]
  rfl
set_option maxRecDepth 100000 in
set_option maxHeartbeats 4000000 in
theorem valuesOf (v : Value) (P : List Int) (w : World) (hP : P.length ≤ 1048576) (hv : Sl w v P) :
    Calls Tryd.prog 73 #[v] w fun e w' => ∃ u, e = .returned u ∧ Made w w' u (vals P) := by
  obtain ⟨i0, hi, hz0, hz1, hz2⟩ := info_parts sl.info3
  obtain ⟨a, cap, rfl, ha⟩ := hv
  have HA : Hid (∀ wr, w.grownBy wr none → ∀ k, k < P.length → ∃ b off, a = some ⟨b, off, none⟩ ∧ wr.cell? ⟨b, off + k, none⟩ = some (.int .i64 (P.getD k 0))) := by
    intro wr g k hk
    rcases ha with h | ⟨b, off, rfl, hb, hc⟩
    · rw [h] at hk
      exact absurd hk (Nat.not_lt_zero _)
    · exact ⟨b, off, rfl, g.cell (hc k hk) (fun e => by cases e)⟩
  have hvl := vals_len P
  have Z : Hid (∀ w' : World, w'.ownsRow w.heap.size 3 1 (.slice (some ⟨w.heap.size, 0, none⟩) P.length P.length) P.length (madeCells #[Value.int .i64 0] P.length).toList → w'.ownsRow w.heap.size 3 1 (.slice (some ⟨w.heap.size, 0, none⟩) P.length P.length) P.length (ints (sl.part (vals P) 0))) := by
    intro w' h
    have e : (madeCells #[Value.int .i64 0] P.length).toList = ints (sl.part (vals P) 0) := by
      rw [sl.part_zero, toList_madeCells_one, vals_len]
      simp [ints]
    rw [e] at h
    exact h
  have VL := hide hvl
  have VA := hide (fun k (h : k < P.length) => vals_at h)
  clear ha hvl
  go_enter Tryd.func73, Tryd.ntmps73
  go_wp2_with (first | (at_make; refine wpList_make_full _ rfl _ _ 24 rfl w.heap.size 3 i0 (.int .i64 0) 1 Tryd.underlying24 hi hz0 hz1 _ _ _ _ P.length rfl rfl (by rfl) (by rfl) ?b1 ?b2 ?b3 ?_))
  case b1 => rw [hz2]; omega
  case b2 => unfold maxLen; omega
  case b3 => exact Nat.le_refl _
  intro w2 hown hgrow
  have O := hide (unhide Z w2 hown)
  have G := hide hgrow
  clear hown hgrow Z
  go_wp2_with fail
  go_loopw [11] (fun i wr => ∃ k : Nat, k ≤ P.length ∧ i = .int .i64 k ∧ wr.ownsRow w.heap.size 3 1 (.slice (some ⟨w.heap.size, 0, none⟩) P.length P.length) P.length (ints (sl.part (vals P) k)) ∧ w.grownBy wr none) (fun i _ => P.length - (intOf i).toNat)
  case atStart => exact ⟨0, Nat.zero_le _, rfl, unhide O, unhide G⟩
  case round =>
    obtain ⟨k, hk, rfl, hown, hg⟩ := hrel
    by_cases hlt : k < P.length
    · have hl := unhide VL
      obtain ⟨b, off, rfl, c1⟩ := unhide HA wr hg k hlt
      have c2 : wr.cell? ⟨w.heap.size, k, none⟩ = (ints (sl.part (vals P) k))[k]? := hown.cellAt k (by omega)
      obtain ⟨x, hx⟩ : ∃ x, (ints (sl.part (vals P) k))[k]? = some x := ⟨_, List.getElem?_eq_getElem (by rw [ints_length, sl.part_length _ _ (by omega)]; omega)⟩
      rw [hx] at c2
      have c3 : wr.frozen? ⟨w.heap.size, k, none⟩ = false := hown.frozenAt k
      have hi' : (k : Int) < (P.length : Int) := by omega
      have hva := unhide VA k hlt
      generalize P.getD k 0 = y at *
      by_cases hy : y > 0
      · rw [if_pos hy] at hva
        have O' := hide (own_stored P.length (show (sl.part (vals P) k).length = P.length by rw [sl.part_length _ _ (by omega)]; exact hl) (show (sl.part (vals P) (k + 1)).length = P.length by rw [sl.part_length _ _ (by omega)]; exact hl) hown k 1 (by rw [← hva]; exact sl.part_set (vals P) k (by omega)))
        have G' : Hid (w.grownBy (wr.setCell ⟨w.heap.size, k, none⟩ (.int .i64 1)) none) := ⟨hg.os, hg.tape, hg.output, by simpa [World.setCell] using hg.size, fun j hj _ => (Below.heap_setCell _ _ _ _ (by show j ≠ w.heap.size; omega)).trans (hg.block j hj (fun e => by cases e))⟩
        clear hown hg hx O G hva HA VA VL hl
        go_wp2_with fail
        go_roundw
        case rel => exact ⟨k + 1, by omega, by go_num, unhide O', unhide G'⟩
        case measure => simp [intOf]; omega
      · rw [if_neg hy] at hva
        rw [← part_skip (vals P) k (by omega) hva] at hown
        have O' := hide hown
        have G' := hide hg
        clear hown hg hx O G hva HA VA VL hl
        go_wp2_with fail
        go_roundw
        case rel => exact ⟨k + 1, by omega, by go_num, unhide O', unhide G'⟩
        case measure => simp [intOf]; omega
    · have hk' : k = P.length := by omega
      subst hk'
      have O' := hide hown
      have G' := hide hg
      clear hown hg O G HA VA
      go_wp2_with fail
      go_ret
      refine ⟨_, rfl, ?_, unhide G'⟩
      have h := unhide O'
      have e : sl.part (vals P) P.length = vals P := by
        have := sl.part_all (vals P)
        rw [unhide VL] at this
        exact this
      rw [e] at h
      rw [unhide VL]
      exact h
end Go.Proofs.YtloenjaonkdlaaaDoor.qm
