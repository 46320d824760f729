/- Plain mathematics of the lines of a text: the scan at a newline, cutting at the first one, passed lines, the head line, and the machine that both readers run. -/
import Derived.Test.YtfokbkaommfnoaaGreatDoorWordsW
import Derived.Test.YtfokbkaommfnoaaGreatDoorHw
import Derived.Test.YtfokbkaommfnoaaGreatDoorCx
namespace Go.Proofs.YtfokbkaommfnoaaGreatDoor.ln
open Go.Proofs.YtfokbkaommfnoaaGreatDoor.rd (bytes_len bytes_take bytes_extract words scan num)
open Go.Proofs.YtfokbkaommfnoaaGreatDoor.cx (hd)
set_option linter.unusedVariables false

/-! ### lines -/
def lscan (st : List (List UInt8) × List UInt8) (l : List UInt8) : List (List UInt8) × List UInt8 :=
  l.foldl (fun st c => if c = 10 then (st.1 ++ [st.2], []) else (st.1, st.2 ++ [c])) st
/-- the lines that a newline ends -/
def linesOf (l : List UInt8) : List (List UInt8) := (lscan ([], []) l).1
theorem lscan_append (st : List (List UInt8) × List UInt8) (a b : List UInt8) : lscan st (a ++ b) = lscan (lscan st a) b := by simp [lscan]
theorem lscan_plain (st : List (List UInt8) × List UInt8) (a : List UInt8) (h : (10 : UInt8) ∉ a) : lscan st a = (st.1, st.2 ++ a) := by
  induction a generalizing st with
  | nil => simp [lscan]
  | cons c a ih =>
    rw [List.mem_cons, not_or] at h
    have e : lscan st (c :: a) = lscan (st.1, st.2 ++ [c]) a := by
      show lscan (if c = 10 then _ else _) a = _
      rw [if_neg (fun e => h.1 e.symm)]
    rw [e, ih _ h.2]
    simp
theorem lscan_front (d : List (List UInt8)) (p l : List UInt8) : lscan (d, p) l = (d ++ (lscan ([], p) l).1, (lscan ([], p) l).2) := by
  induction l generalizing d p with
  | nil => simp [lscan]
  | cons c l ih =>
    by_cases h : c = 10
    · have e : ∀ d, lscan (d, p) (c :: l) = lscan (d ++ [p], []) l := fun d => by
        show lscan (if c = 10 then _ else _) l = _
        rw [if_pos h]
      rw [e, e, ih, List.nil_append, ih [p]]
      simp
    · have e : ∀ d, lscan (d, p) (c :: l) = lscan (d, p ++ [c]) l := fun d => by
        show lscan (if c = 10 then _ else _) l = _
        rw [if_neg h]
      rw [e, e, ih]
theorem lines_nil : linesOf [] = [] := rfl
theorem lines_cons {a : List UInt8} (r : List UInt8) (h : (10 : UInt8) ∉ a) : linesOf (a ++ 10 :: r) = a :: linesOf r := by
  unfold linesOf
  rw [lscan_append, lscan_plain _ _ h]
  show (lscan ([] ++ [[] ++ a], []) r).1 = _
  rw [lscan_front]
  simp
/-- a text of whole lines -/
def Ends (l : List UInt8) : Prop := l = [] ∨ l.getLast? = some 10
theorem ends_tail {a r : List UInt8} (h : Ends (a ++ 10 :: r)) : Ends r := by
  rcases h with h | h
  · simp at h
  · cases r with
    | nil => exact .inl rfl
    | cons c r =>
      refine .inr ?_
      rw [List.getLast?_append, List.getLast?_cons_cons] at h
      cases e : (c :: r).getLast? with
      | none => simp at e
      | some x => rw [e] at h; exact h

/-- a text of whole lines that is not empty: its first line, and the rest -/
theorem cut_line {s : List UInt8} (hs : Ends s) (h0 : s ≠ []) : ∃ a r, cutL s = (a, r, true) ∧ s = a ++ 10 :: r ∧ (10 : UInt8) ∉ a ∧ Ends r ∧ linesOf s = a :: linesOf r ∧ r.length < s.length ∧ a.length < s.length := by
  rcases cut_spec s with ⟨a, r, e, ha, hi⟩ | ⟨h, _⟩
  · refine ⟨a, r, ?_, e, ha, ends_tail (e ▸ hs), e ▸ lines_cons r ha, by rw [e]; simp; omega, by rw [e]; simp⟩
    unfold cutL Lib.cut
    rw [hi, if_pos (by omega), e]
    simp
  · rcases hs with hs | hs
    · exact absurd hs h0
    · exact absurd (List.mem_of_getLast? hs) h

/-! ### the scan in the middle -/
def MidL (s : ByteArray) (k f : Nat) (D : List ByteArray) : Prop := D.map rd.bytes = (lscan ([], []) ((rd.bytes s).take k)).1 ∧ ((rd.bytes s).take k).drop f = (lscan ([], []) ((rd.bytes s).take k)).2 ∧ f ≤ k ∧ D.length ≤ k
theorem midL_line {s : ByteArray} {k f : Nat} {D : List ByteArray} (h : MidL s k f D) (hk : k < s.size) (hb : s[k] = 10) : MidL s (k + 1) (k + 1) (D ++ [s.extract f k]) := by
  obtain ⟨h1, h2, h3, h4⟩ := h
  have e : lscan ([], []) ((rd.bytes s).take (k + 1)) = ((lscan ([], []) ((rd.bytes s).take k)).1 ++ [(lscan ([], []) ((rd.bytes s).take k)).2], []) := by
    rw [bytes_take s k hk, lscan_append, hb]
    rfl
  refine ⟨?_, ?_, Nat.le_refl _, by simp; omega⟩
  · rw [e, List.map_append, h1, List.map_cons, List.map_nil, bytes_extract, h2]
  · rw [e]
    exact List.drop_eq_nil_of_le (by rw [List.length_take]; omega)
theorem midL_other {s : ByteArray} {k f : Nat} {D : List ByteArray} (h : MidL s k f D) (hk : k < s.size) (hb : ¬ s[k] = 10) : MidL s (k + 1) f D := by
  obtain ⟨h1, h2, h3, h4⟩ := h
  have e : lscan ([], []) ((rd.bytes s).take (k + 1)) = ((lscan ([], []) ((rd.bytes s).take k)).1, (lscan ([], []) ((rd.bytes s).take k)).2 ++ [s[k]]) := by
    rw [bytes_take s k hk, lscan_append]
    show (if s[k] = 10 then _ else _) = _
    rw [if_neg hb]
  refine ⟨by rw [e]; exact h1, ?_, by omega, by omega⟩
  rw [e, bytes_take s k hk, List.drop_append_of_le_length (by rw [List.length_take, bytes_len]; omega), h2]
theorem midL_end {s : ByteArray} {k f : Nat} {D : List ByteArray} (h : MidL s k f D) (hk : ¬ k < s.size) : D.map rd.bytes = linesOf (rd.bytes s) := by
  obtain ⟨h1, _⟩ := h
  rw [List.take_of_length_le (by rw [bytes_len]; omega)] at h1
  exact h1

/-! ### passed lines -/
def passed : List UInt8 → Bool
  | [] => true
  | [c] => decide (c = 99)
  | c :: d :: _ => decide (c = 99) && decide (d = 32)

/-! ### the head line -/
/-- the numbers of a head line -/
def headOf (l : List UInt8) : Option (Int × Int) := match words l with
  | [p, q, a, b] => if p = [112] ∧ q = [99, 110, 102] ∧ (num a).2 = true ∧ (num b).2 = true ∧ (0 ≤ (num a).1 ∧ (num a).1 ≤ 24) ∧ (0 ≤ (num b).1 ∧ (num b).1 ≤ 120) then some ((num a).1, (num b).1) else none
  | _ => none
def joinW : List (List UInt8) → List UInt8
  | [] => []
  | [a] => a
  | a :: b :: r => a ++ 32 :: joinW (b :: r)
theorem joinW_snoc (d : List (List UInt8)) (p : List UInt8) : joinW (d ++ [p]) = d.flatMap (· ++ [32]) ++ p := by
  induction d with
  | nil => simp [joinW]
  | cons a d ih =>
    cases d with
    | nil => simp [joinW]
    | cons b d =>
      rw [List.cons_append, List.cons_append, joinW, ← List.cons_append, ih]
      simp
theorem scan_join (d : List (List UInt8)) (p l : List UInt8) : (scan (d, p) l).1.flatMap (· ++ [32]) ++ (scan (d, p) l).2 = d.flatMap (· ++ [32]) ++ p ++ l := by
  induction l generalizing d p with
  | nil => simp [scan]
  | cons c l ih =>
    by_cases h : c = 32
    · have e : scan (d, p) (c :: l) = scan (d ++ [p], []) l := by
        show scan (if c = 32 then _ else _) l = _
        rw [if_pos h]
      rw [e, ih, h]
      simp
    · have e : scan (d, p) (c :: l) = scan (d, p ++ [c]) l := by
        show scan (if c = 32 then _ else _) l = _
        rw [if_neg h]
      rw [e, ih]
      simp
theorem join_words (l : List UInt8) : joinW (words l) = l := by
  unfold words
  rw [joinW_snoc, scan_join]
  simp
theorem num_sound {s : List UInt8} (h : (num s).2 = true) : Lib.itoa (num s).1 = s := by
  unfold num at h ⊢
  split at h
  · rw [if_pos ‹_›]
    exact of_decide_eq_true h
  · cases h
theorem words_hd (n c : Int) : words (hd n c) = [[112], [99, 110, 102], Lib.itoa n, Lib.itoa c] := by
  have e : hd n c = [112] ++ 32 :: ([99, 110, 102] ++ 32 :: (Lib.itoa n ++ 32 :: Lib.itoa c)) := by simp [hd]
  unfold words
  rw [e, rd.scan_word _ _ _ (by decide), rd.scan_word _ _ _ (by decide), rd.scan_word _ _ _ (rd.itoa_blank n), rd.scan_plain _ _ (rd.itoa_blank c)]
  simp
/-- a head line is one that headText writes -/
theorem head_iff (l : List UInt8) (n c : Int) : headOf l = some (n, c) ↔ l = hd n c ∧ (0 ≤ n ∧ n ≤ 24) ∧ (0 ≤ c ∧ c ≤ 120) := by
  constructor
  · intro h
    unfold headOf at h
    split at h
    · rename_i p q a b hw
      split at h
      · rename_i hc
        obtain ⟨rfl, rfl, ha, hb, hra, hrb⟩ := hc
        have h := Option.some.inj h
        have hn : (num a).1 = n := congrArg Prod.fst h
        have hm : (num b).1 = c := congrArg Prod.snd h
        have ja := num_sound ha
        have jb := num_sound hb
        rw [hn] at ja hra
        rw [hm] at jb hrb
        refine ⟨?_, hra, hrb⟩
        rw [← join_words l, hw, ← ja, ← jb]
        simp [joinW, hd]
      · cases h
    · cases h
  · rintro ⟨rfl, hn, hc⟩
    unfold headOf
    rw [words_hd]
    simp only []
    rw [rd.num_itoa (by omega) (by omega), rd.num_itoa (by omega) (by omega)]
    rw [if_pos ⟨trivial, trivial, rfl, rfl, hn, hc⟩]

/-! ### the machine that both readers run -/
/-- what a text of a formula says: the formula, the code, the line -/
structure Ans where
  n : Int
  cs : List (List Int)
  code : Int
  line : Int
/-- a refusal -/
def no (c : Int) (i : Nat) : Ans := ⟨0, [], c, (i : Int) + 1⟩
/-- is it a line of a clause over n variables -/
def fine (n : Int) (l : List UInt8) : Bool := rd.readB l && (rd.readL l).all (ok.litIn n)
/-- the lines behind the head -/
def body (n m : Int) : List (List UInt8) → Nat → List (List Int) → Ans
  | [], i, cs => if (cs.length : Int) < m then no 5 i else ⟨n, cs, 0, 0⟩
  | l :: r, i, cs => if passed l then body n m r (i + 1) cs else if fine n l then (if (cs.length : Int) = m then no 4 i else body n m r (i + 1) (cs ++ [rd.readL l])) else no 3 i
/-- the lines up to the head, and then those behind it -/
def front : List (List UInt8) → Nat → Ans
  | [], i => no 2 i
  | l :: r, i => if passed l then front r (i + 1) else match headOf l with
    | none => no 2 i
    | some (n, m) => body n m r (i + 1) []
/-- a text's answer -/
def readC (s : List UInt8) : Ans := if 12000 < s.length ∨ (s ≠ [] ∧ s.getLast? ≠ some 10) then ⟨0, [], 1, 0⟩ else front (linesOf s) 0
theorem readC_long {s : List UInt8} (h : 12000 < s.length ∨ (s ≠ [] ∧ s.getLast? ≠ some 10)) : readC s = ⟨0, [], 1, 0⟩ := if_pos h
theorem readC_fit {s : List UInt8} (h : ¬ (12000 < s.length ∨ (s ≠ [] ∧ s.getLast? ≠ some 10))) : readC s = front (linesOf s) 0 ∧ Ends s ∧ s.length ≤ 12000 := by
  refine ⟨if_neg h, ?_, by omega⟩
  by_cases h0 : s = []
  · exact .inl h0
  · exact .inr (Classical.byContradiction fun e => h (.inr ⟨h0, e⟩))
end Go.Proofs.YtfokbkaommfnoaaGreatDoor.ln
