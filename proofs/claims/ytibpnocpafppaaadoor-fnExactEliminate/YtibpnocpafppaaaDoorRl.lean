/- Rows and lists: a row's literals are its list, and the order of rows is the order of lists. -/
import Derived.Test.YtibpnocpafppaaaDoorRp
import Derived.Test.YtibpnocpafppaaaDoorLe
namespace Go.Proofs.YtibpnocpafppaaaDoor.ro
open Go.Proofs.YtibpnocpafppaaaDoor.lits (okB okB_iff placeI befB placeI_bd)
open Go.Proofs.YtibpnocpafppaaaDoor.le (lessL)
open Go.Proofs.YtibpnocpafppaaaDoor.srt (srt litI)
set_option linter.unusedVariables false

theorem lits8_pad (L : List Int) (h : ∀ x ∈ L, x ≠ 0) : lits8 (pad L) = L := by
  unfold lits8 pad
  rw [List.filter_append]
  have a : L.filter (fun x => x != 0) = L := List.filter_eq_self.2 (fun x hx => by simp [h x hx])
  have b : (List.replicate (24 - L.length) (0 : Int)).filter (fun x => x != 0) = [] := List.filter_eq_nil_iff.2 (fun x hx => by simp [(List.mem_replicate.1 hx).2])
  rw [a, b, List.append_nil]
theorem ahead_zero (n : Nat) : aheadL (List.replicate n 0) (List.replicate n 0) = false := by
  induction n with
  | zero => rfl
  | succ n ih => rw [List.replicate_succ, aheadL, if_pos rfl, ih]
theorem ahead_less (A : List Int) : ∀ (B : List Int) (n m : Nat), (∀ x ∈ A, okB x = true) → (∀ x ∈ B, okB x = true) → A.length + n = B.length + m → aheadL (A ++ List.replicate n 0) (B ++ List.replicate m 0) = lessL A B := by
  induction A with
  | nil =>
    intro B n m _ hB hl
    cases B with
    | nil =>
      have e : n = m := by simpa using hl
      subst e
      exact ahead_zero n
    | cons y B =>
      have hy := okB_iff.1 (hB y (by simp))
      obtain ⟨n', rfl⟩ : ∃ n', n = n' + 1 := ⟨n - 1, by simp only [List.length_nil, List.length_cons] at hl; omega⟩
      have hp := placeI_bd y hy.1 hy.2.1 hy.2.2
      rw [List.nil_append, List.replicate_succ, List.cons_append, aheadL, if_neg (fun e => hy.1 e.symm), lessL]
      have h0 : placeI 0 = -2 := rfl
      rw [h0, decide_eq_true (by omega), decide_eq_true (by simp)]
  | cons x A ih =>
    intro B n m hA hB hl
    have hx := okB_iff.1 (hA x (by simp))
    have hpx := placeI_bd x hx.1 hx.2.1 hx.2.2
    cases B with
    | nil =>
      obtain ⟨m', rfl⟩ : ∃ m', m = m' + 1 := ⟨m - 1, by simp only [List.length_nil, List.length_cons] at hl; omega⟩
      rw [List.nil_append, List.replicate_succ, List.cons_append, aheadL, if_neg hx.1, lessL]
      have h0 : placeI 0 = -2 := rfl
      rw [h0]
      exact decide_eq_false (by omega)
    | cons y B =>
      rw [List.cons_append, List.cons_append, aheadL, lessL]
      by_cases e : x = y
      · rw [if_pos e, if_pos e]
        exact ih B n m (fun z hz => hA z (by simp [hz])) (fun z hz => hB z (by simp [hz])) (by simp only [List.length_cons] at hl; omega)
      · rw [if_neg e, if_neg e]
        have ax := hA x (by simp)
        have ay := hB y (by simp)
        simp [befB, ax, ay]
end Go.Proofs.YtibpnocpafppaaaDoor.ro
