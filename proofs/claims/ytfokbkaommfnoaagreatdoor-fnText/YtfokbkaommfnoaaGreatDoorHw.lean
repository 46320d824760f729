/- Plain mathematics of texts cut at a newline and split at blanks, as the library's functions do it; no condition. -/
import Derived.Test.YtfokbkaommfnoaaGreatDoorWordsW
import Derived.Lib.Split
namespace Go.Proofs.YtfokbkaommfnoaaGreatDoor.rd
set_option linter.unusedVariables false
theorem scan_len (B : Nat) (l : List UInt8) (st : List (List UInt8) × List UInt8) (h1 : ∀ x ∈ st.1, x.length ≤ B) (h2 : st.2.length + l.length ≤ B) : (∀ x ∈ (scan st l).1, x.length ≤ B) ∧ (scan st l).2.length ≤ B := by
  induction l generalizing st with
  | nil => exact ⟨h1, by show st.2.length ≤ B; simpa using h2⟩
  | cons c l ih =>
    have e : scan st (c :: l) = scan (if c = 32 then (st.1 ++ [st.2], []) else (st.1, st.2 ++ [c])) l := rfl
    rw [e]
    rw [List.length_cons] at h2
    split
    · refine ih _ ?_ (by simp; omega)
      intro x hx
      rcases List.mem_append.1 hx with hx | hx
      · exact h1 x hx
      · rw [List.mem_singleton] at hx
        rw [hx]
        omega
    · exact ih _ h1 (by simp; omega)
theorem words_len (l : List UInt8) : ∀ x ∈ words l, x.length ≤ l.length := by
  have h := scan_len l.length l ([], []) (by simp) (by simp)
  intro x hx
  unfold words at hx
  rcases List.mem_append.1 hx with hx | hx
  · exact h.1 x hx
  · rw [List.mem_singleton] at hx
    rw [hx]
    exact h.2
theorem words_pos (l : List UInt8) : 1 ≤ (words l).length := by unfold words; simp
end Go.Proofs.YtfokbkaommfnoaaGreatDoor.rd
namespace Go.Proofs.YtfokbkaommfnoaaGreatDoor.ln
open Go.Proofs.YtfokbkaommfnoaaGreatDoor.rd (words scan)
set_option linter.unusedVariables false
theorem scan_front (d : List (List UInt8)) (p l : List UInt8) : scan (d, p) l = (d ++ (scan ([], p) l).1, (scan ([], p) l).2) := by
  induction l generalizing d p with
  | nil => simp [scan]
  | cons c l ih =>
    by_cases h : c = 32
    · have e : ∀ d, scan (d, p) (c :: l) = scan (d ++ [p], []) l := fun d => by
        show scan (if c = 32 then _ else _) l = _
        rw [if_pos h]
      rw [e, e, ih, List.nil_append, ih [p]]
      simp
    · have e : ∀ d, scan (d, p) (c :: l) = scan (d, p ++ [c]) l := fun d => by
        show scan (if c = 32 then _ else _) l = _
        rw [if_neg h]
      rw [e, e, ih]
theorem words_plain {s : List UInt8} (h : (32 : UInt8) ∉ s) : words s = [s] := by
  unfold words
  rw [rd.scan_plain _ _ h]
  rfl
theorem words_cons {a : List UInt8} (r : List UInt8) (h : (32 : UInt8) ∉ a) : words (a ++ 32 :: r) = a :: words r := by
  unfold words
  rw [rd.scan_word _ _ _ h, scan_front]
  simp
theorem split_words (s : List UInt8) : Lib.splitK [32] 0 (Lib.count s [32]) s = words s := by
  generalize hn : s.length = n
  induction n using Nat.strongRecOn generalizing s with
  | _ n ih =>
    rcases rd.cut_spec s with ⟨a, r, e, ha, hi⟩ | ⟨h, hi⟩
    · have hd1 : s.drop (a.length + 1) = r := by rw [e]; simp
      have ht : s.take (a.length + 0) = a := by rw [e]; simp
      rw [Lib.count_hit (by decide) hi]
      show Lib.splitK [32] 0 (1 + Lib.count (s.drop (a.length + 1)) [32]) s = _
      rw [hd1, Nat.add_comm, Lib.splitK, hi, if_neg (by rw [beq_iff_eq]; omega)]
      show s.take (a.length + 0) :: Lib.splitK [32] 0 _ (s.drop (a.length + 1)) = _
      rw [hd1, ht, ih r.length (by rw [← hn, e]; simp; omega) r rfl, e, words_cons r ha]
    · rw [Lib.count_miss hi, words_plain h]
      rfl
/-- the pieces of a text, as the library lays them -/
def pieces (s : ByteArray) : List ByteArray := Lib.splitB ⟨#[32]⟩ 0 (Lib.countB s ⟨#[32]⟩) s
theorem pieces_words (s : ByteArray) : (pieces s).map rd.bytes = words (rd.bytes s) := (Lib.splitB_data ⟨#[32]⟩ 0 _ s).trans (split_words _)
/-! ### cutting at the first newline -/
def cutL (s : List UInt8) : List UInt8 × List UInt8 × Bool := Lib.cut s [10]
theorem index_cons (b : UInt8) (l : List UInt8) : Lib.index (b :: l) [10] = if b = 10 then 0 else if Lib.index l [10] = -1 then -1 else Lib.index l [10] + 1 := by
  conv => lhs; unfold Lib.index
  by_cases h : b = 10
  · rw [if_pos (by simp [h]), if_pos h]
  · rw [if_neg (by simp; exact fun e => h e.symm), if_neg h]
    simp [beq_iff_eq]
theorem cut_spec (s : List UInt8) : (∃ a r, s = a ++ 10 :: r ∧ (10 : UInt8) ∉ a ∧ Lib.index s [10] = (a.length : Int)) ∨ ((10 : UInt8) ∉ s ∧ Lib.index s [10] = -1) := by
  induction s with
  | nil => exact .inr ⟨by simp, by simp [Lib.index]⟩
  | cons b l ih =>
    rw [index_cons]
    by_cases h : b = 10
    · exact .inl ⟨[], l, by simp [h], by simp, by simp [h]⟩
    · rw [if_neg h]
      rcases ih with ⟨a, r, e, ha, hi⟩ | ⟨ha, hi⟩
      · refine .inl ⟨b :: a, r, by simp [e], ?_, ?_⟩
        · rw [List.mem_cons, not_or]
          exact ⟨fun e => h e.symm, ha⟩
        · rw [hi, if_neg (by omega)]
          simp
      · refine .inr ⟨?_, by rw [hi]; rfl⟩
        rw [List.mem_cons, not_or]
        exact ⟨fun e => h e.symm, ha⟩
end Go.Proofs.YtfokbkaommfnoaaGreatDoor.ln
