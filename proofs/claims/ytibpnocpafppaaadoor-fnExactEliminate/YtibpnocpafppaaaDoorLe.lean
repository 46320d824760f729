/- What l02Same and l02Less of the model answer, at every two lists of at most 2^20 numbers. -/
import Derived.Test.YtibpnocpafppaaaDoorCss
import Derived.Test.YtibpnocpafppaaaDoorLits

namespace Go.Proofs.YtibpnocpafppaaaDoor.le
open Go.ChangeShapes Go.WideShapes Go.ChangeAt Go.RowKit
open Go.Proofs.YtibpnocpafppaaaDoor.sl (Sl hide unhide ret_bool grown_refl grown_trans grown_drewN below_of of_below)
open Go.Proofs.YtibpnocpafppaaaDoor.lits (befB)
set_option linter.unusedVariables false

theorem same_hit {L M : List Int} {k : Nat} (h : k < L.length) (h' : k < M.length) (hx : ¬ L.getD k 0 = M.getD k 0) : decide (L = M) = false := by
  rw [decide_eq_false_iff_not]
  intro e
  rw [e] at hx
  exact hx rfl
theorem same_step {L M : List Int} {k : Nat} (h : k < L.length) (h' : k < M.length) (hx : L.getD k 0 = M.getD k 0) (ht : L.take k = M.take k) : L.take (k + 1) = M.take (k + 1) := by
  rw [List.take_succ_eq_append_getElem h, List.take_succ_eq_append_getElem h', ht]
  congr 2
  simpa [h, h'] using hx

set_option maxHeartbeats 800000 in
theorem l02Same (v u : Value) (L M : List Int) (w : World) (hL : L.length ≤ 1048576) (hM : M.length ≤ 1048576) (hv : Sl w v L) (hu : Sl w u M) :
    Calls Tryd.prog 114 #[v, u] w fun e w' => e = .returned (.bool (decide (L = M))) ∧ w.grownBy w' none := by
  obtain ⟨a, cap, rfl, ha⟩ := hv
  obtain ⟨c, cap', rfl, hc⟩ := hu
  have HA := hide ha
  have HC := hide hc
  clear ha hc
  by_cases hll : L.length = M.length
  · have hle : ((L.length : Int) != (M.length : Int)) = false := by simp [hll]
    have HLL := hide hll
    clear hll
    go_enter Tryd.func114, Tryd.ntmps114
    go_wp2
    go_loopw [5] (fun i wr => ∃ k : Nat, k ≤ L.length ∧ i = .int .i64 k ∧ Hid (L.take k = M.take k) ∧ ∃ m, Hid (wr = w.drewN m)) (fun i _ => L.length - (intOf i).toNat)
    case atStart => exact ⟨0, Nat.zero_le _, rfl, (by show _ = _; simp), 0, rfl⟩
    case round =>
      obtain ⟨k, hk, rfl, ht, m, hg⟩ := hrel
      have hg' := unhide hg
      clear hg
      subst hg'
      have hml := unhide HLL
      by_cases hlt : k < L.length
      · rcases unhide HA with h | ⟨b, off, rfl, hb, hcb⟩
        · rw [h] at hlt
          simp at hlt
        rcases unhide HC with h | ⟨d, off', rfl, hd, hcd⟩
        · rw [hml, h] at hlt
          simp at hlt
        have c1 := hcb k hlt
        have c2 := hcd k (by omega)
        have hi : (k : Int) < (L.length : Int) := by omega
        have hj : (k : Int) < (M.length : Int) := by omega
        have h1 := fun h => same_hit (L := L) (M := M) hlt (by omega) h
        have h2 := fun h => same_step (L := L) (M := M) hlt (by omega) h (unhide ht)
        clear hml hcb hcd HA HC ht hle
        generalize L.getD k 0 = x at *
        generalize M.getD k 0 = y at *
        by_cases he : x = y
        · have HS := hide (h2 he)
          subst he
          clear h1 h2
          go_wp2
          go_quiet (fail)
          go_wp2
          go_roundw
          case rel => exact ⟨k + 1, by omega, by go_num, HS, _, rfl⟩
          case measure => simp [intOf]; omega
        · have HS := hide (h1 he)
          have he' : (x != y) = true := by simp [he]
          clear h1 h2 he
          go_wp2
          go_quiet (fail)
          go_wp2
          go_ret
          exact ⟨ret_bool (unhide HS).symm, grown_trans (grown_drewN w m) (grown_drewN _ _)⟩
      · have hi : ¬ (k : Int) < (L.length : Int) := by omega
        have HS := hide (show decide (L = M) = true by
          have e := unhide ht
          rw [List.take_of_length_le (by omega), List.take_of_length_le (by omega)] at e
          exact decide_eq_true e)
        clear hml HA HC ht hle
        go_wp2
        go_ret
        exact ⟨ret_bool (unhide HS).symm, grown_drewN w m⟩
  · have hle : ((L.length : Int) != (M.length : Int)) = true := by simp; omega
    have HS := hide (show decide (L = M) = false by rw [decide_eq_false_iff_not]; intro e; exact hll (by rw [e]))
    clear hll HA HC
    go_enter Tryd.func114, Tryd.ntmps114
    go_wp2
    go_ret
    exact ⟨ret_bool (unhide HS).symm, grown_refl w⟩

/-- l02Less -/
def lessL : List Int → List Int → Bool
  | x :: a, y :: b => if x = y then lessL a b else befB x y
  | [], b => decide (0 < b.length)
  | _ :: _, [] => false
theorem less_step (L M : List Int) (k : Nat) (h : k < L.length) (h' : k < M.length) : lessL (L.drop k) (M.drop k) = if L.getD k 0 = M.getD k 0 then lessL (L.drop (k + 1)) (M.drop (k + 1)) else befB (L.getD k 0) (M.getD k 0) := by
  rw [List.drop_eq_getElem_cons h, List.drop_eq_getElem_cons h', lessL, show L.getD k 0 = L[k] by simp [h], show M.getD k 0 = M[k] by simp [h']]
theorem less_end (L M : List Int) (k : Nat) (h : k ≤ L.length) (h' : k ≤ M.length) (he : ¬ (k < L.length ∧ k < M.length)) : lessL (L.drop k) (M.drop k) = decide (L.length < M.length) := by
  by_cases hk : k < L.length
  · rw [List.drop_eq_getElem_cons hk, List.drop_eq_nil_of_le (show M.length ≤ k by omega), lessL]
    exact (decide_eq_false (by omega)).symm
  · rw [List.drop_eq_nil_of_le (show L.length ≤ k by omega), lessL, List.length_drop]
    have e : (0 < M.length - k) = (L.length < M.length) := propext ⟨fun _ => by omega, fun _ => by omega⟩
    simp only [e]

set_option maxHeartbeats 800000 in
theorem l02Less (v u : Value) (L M : List Int) (w : World) (hL : L.length ≤ 1048576) (hM : M.length ≤ 1048576) (hv : Sl w v L) (hu : Sl w u M) :
    Calls Tryd.prog 113 #[v, u] w fun e w' => e = .returned (.bool (lessL L M)) ∧ w.grownBy w' none := by
  obtain ⟨a, cap, rfl, ha⟩ := hv
  obtain ⟨c, cap', rfl, hc⟩ := hu
  have HA := hide ha
  have HC := hide hc
  clear ha hc
  go_enter Tryd.func113, Tryd.ntmps113
  go_wp2
  go_loopw [5] (fun i wr => ∃ k : Nat, k ≤ L.length ∧ k ≤ M.length ∧ i = .int .i64 k ∧ Hid (lessL L M = lessL (L.drop k) (M.drop k)) ∧ ∃ m, Hid (wr = w.drewN m)) (fun i _ => L.length - (intOf i).toNat)
  case atStart => exact ⟨0, Nat.zero_le _, Nat.zero_le _, rfl, rfl, 0, rfl⟩
  case round =>
    obtain ⟨k, hk, hk', rfl, ht, m, hg⟩ := hrel
    have hg' := unhide hg
    clear hg
    subst hg'
    by_cases hlt : k < L.length
    · have hi : (k : Int) < (L.length : Int) := by omega
      by_cases hlt' : k < M.length
      · rcases unhide HA with h | ⟨b, off, rfl, hb, hcb⟩
        · rw [h] at hlt
          simp at hlt
        rcases unhide HC with h | ⟨d, off', rfl, hd, hcd⟩
        · rw [h] at hlt'
          simp at hlt'
        have c1 := hcb k hlt
        have c2 := hcd k hlt'
        have hj : (k : Int) < (M.length : Int) := by omega
        have hst := (unhide ht).trans (less_step L M k hlt hlt')
        clear hcb hcd HA HC ht
        generalize L.getD k 0 = x at *
        generalize M.getD k 0 = y at *
        by_cases he : x = y
        · have HS := hide (hst.trans (if_pos he))
          subst he
          clear hst
          go_wp2
          go_quiet (fail)
          go_wp2
          go_roundw
          case rel => exact ⟨k + 1, by omega, by omega, by go_num, HS, _, rfl⟩
          case measure => simp [intOf]; omega
        · have HS := hide (hst.trans (if_neg he))
          have he' : (x != y) = true := by simp [he]
          have CB := hide (fun w' => lits.specLitBefore x y w')
          clear hst he
          go_wp2
          go_quiet (fail)
          go_wp2
          go_quiet (first | (go_at_call 153; exact (unhide CB _).mono (fun _ _ h => ⟨h.1, _, h.2⟩)))
          go_wp2
          go_ret
          exact ⟨ret_bool (unhide HS).symm, grown_trans (grown_trans (r := none) (grown_drewN w m) (grown_drewN _ _)) (grown_drewN _ _)⟩
      · have hj : ¬ (k : Int) < (M.length : Int) := by omega
        have HS := hide ((unhide ht).trans (less_end L M k hk hk' (by omega)))
        clear HA HC ht
        go_wp2
        go_ret
        exact ⟨ret_bool (by rw [unhide HS]), grown_drewN w m⟩
    · have hi : ¬ (k : Int) < (L.length : Int) := by omega
      have HS := hide ((unhide ht).trans (less_end L M k hk hk' (by omega)))
      clear HA HC ht
      go_wp2
      go_ret
      exact ⟨ret_bool (by rw [unhide HS]), grown_drewN w m⟩
end Go.Proofs.YtibpnocpafppaaaDoor.le
