/- Plain mathematics: a formula comes back from its text, with comments around it too; what a text of a formula says has a text, and comes back from it. -/
import Derived.Test.YtfokbkaommfnoaaGreatDoorRf
namespace Go.Proofs.YtfokbkaommfnoaaGreatDoor.ln
open Go.Proofs.YtfokbkaommfnoaaGreatDoor.cx (hd lines whole cnfT)
open Go.Proofs.YtfokbkaommfnoaaGreatDoor.txt (text)
open Go.Proofs.YtfokbkaommfnoaaGreatDoor.cls (okAll)
set_option linter.unusedVariables false
theorem itoa_mem (x : Int) : ∀ c ∈ Lib.itoa x, c ≠ 10 ∧ c ≠ 99 := by
  intro c h
  unfold Lib.itoa at h
  have key : ∀ u, c ∈ Lib.decDigits u → c ≠ 10 ∧ c ≠ 99 := fun u h => by
    have := rd.dec_mem _ _ h
    constructor
    · intro e
      subst e
      simp at this
    · intro e
      subst e
      simp at this
  split at h
  · rcases List.mem_cons.1 h with h | h
    · subst h
      exact ⟨by decide, by decide⟩
    · exact key _ h
  · exact key _ h
theorem text_mem (L : List Int) : ∀ c ∈ text L, c ≠ 10 ∧ c ≠ 99 := by
  intro c h
  unfold txt.text at h
  split at h
  · rcases List.mem_append.1 h with h | h
    · unfold txt.body at h
      obtain ⟨x, _, hx⟩ := List.mem_flatMap.1 h
      rcases List.mem_append.1 hx with hx | hx
      · exact itoa_mem x c hx
      · rw [List.mem_singleton] at hx
        subst hx
        exact ⟨by decide, by decide⟩
    · rw [List.mem_singleton] at h
      subst h
      exact ⟨by decide, by decide⟩
  · cases h
theorem text_pos {L : List Int} (h : okAll L = true) : text L ≠ [] := by
  rw [txt.text_yes h]
  simp
theorem passed_no {l : List UInt8} (h0 : l ≠ []) (h : ∀ c ∈ l, c ≠ 99) : passed l = false := by
  match l, h0, h with
  | [c], _, h => exact decide_eq_false (h c List.mem_cons_self)
  | c :: d :: r, _, h =>
    show (decide (c = 99) && _) = false
    rw [decide_eq_false (h c List.mem_cons_self)]
    rfl
theorem hd_ten (n c : Int) : (10 : UInt8) ∉ hd n c := by
  intro h
  unfold cx.hd at h
  rcases List.mem_append.1 h with h | h
  · rcases List.mem_append.1 h with h | h
    · rcases List.mem_append.1 h with h | h
      · simp at h
      · exact (itoa_mem n _ h).1 rfl
    · simp at h
  · exact (itoa_mem c _ h).1 rfl
theorem hd_passed (n c : Int) : passed (hd n c) = false := by
  unfold cx.hd
  rfl
theorem okAll_of {n : Int} {L : List Int} (h : ok.clB n L = true) : okAll L = true := by
  unfold ok.clB at h
  unfold cls.okAll
  rw [Bool.and_eq_true] at h ⊢
  refine ⟨?_, h.2⟩
  rw [List.all_eq_true] at h ⊢
  intro x hx
  have := h.1 x hx
  unfold ok.litIn at this
  rw [Bool.and_eq_true] at this
  exact this.1
theorem text_fine {n : Int} {L : List Int} (h : ok.clB n L = true) : passed (text L) = false ∧ fine n (text L) = true ∧ rd.readL (text L) = L := by
  have ho := okAll_of h
  have hr := rd.read_full ho
  refine ⟨passed_no (text_pos ho) (fun c hc => (text_mem L c hc).2), ?_, ?_⟩
  · rw [fine_of (by unfold rd.readB; rw [hr]; rfl)]
    unfold rd.readL
    rw [hr]
    exact h
  · unfold rd.readL
    rw [hr]
    rfl
theorem lines_text (LL : List (List Int)) (r : List UInt8) : linesOf (lines LL ++ r) = LL.map text ++ linesOf r := by
  induction LL with
  | nil => rfl
  | cons L LL ih =>
    have e : lines (L :: LL) ++ r = text L ++ 10 :: (lines LL ++ r) := by simp [cx.lines]
    rw [e, lines_cons _ (fun h => (text_mem L _ h).1 rfl), ih]
    rfl
theorem body_pass (n m : Int) (T : List (List UInt8)) (hT : ∀ l ∈ T, passed l = true) : ∀ (i : Nat) (cs : List (List Int)), (cs.length : Int) = m → body n m T i cs = ⟨n, cs, 0, 0⟩ := by
  induction T with
  | nil =>
    intro i cs h
    unfold body
    rw [if_neg (by omega)]
  | cons l r ih =>
    intro i cs h
    unfold body
    rw [if_pos (hT l List.mem_cons_self)]
    exact ih (fun x hx => hT x (List.mem_cons_of_mem _ hx)) _ _ h
theorem body_back (n m : Int) (T : List (List UInt8)) (hT : ∀ l ∈ T, passed l = true) (LL : List (List Int)) : ∀ (i : Nat) (cs : List (List Int)), (∀ L ∈ LL, ok.clB n L = true) → ((cs ++ LL).length : Int) = m → body n m (LL.map text ++ T) i cs = ⟨n, cs ++ LL, 0, 0⟩ := by
  induction LL with
  | nil =>
    intro i cs _ h
    rw [List.append_nil] at h ⊢
    exact body_pass n m T hT i cs h
  | cons L LL ih =>
    intro i cs hc h
    obtain ⟨h1, h2, h3⟩ := text_fine (hc L List.mem_cons_self)
    have hl : ¬ (cs.length : Int) = m := by rw [List.length_append, List.length_cons] at h; omega
    rw [List.map_cons, List.cons_append]
    unfold body
    rw [if_neg (by rw [h1]; decide), if_pos h2, if_neg hl, h3, ih _ _ (fun x hx => hc x (List.mem_cons_of_mem _ hx)) (by rw [List.append_assoc]; exact h), List.append_assoc]
    rfl
theorem front_pass (P r : List (List UInt8)) (hP : ∀ l ∈ P, passed l = true) : ∀ i, front (P ++ r) i = front r (i + P.length) := by
  induction P with
  | nil => intro i; rfl
  | cons l P ih =>
    intro i
    rw [List.cons_append]
    conv => lhs; unfold front
    rw [if_pos (hP l List.mem_cons_self), ih (fun x hx => hP x (List.mem_cons_of_mem _ hx)), List.length_cons]
    congr 1
    omega
theorem cnfB_parts {n : Int} {LL : List (List Int)} : ok.cnfB n LL = true ↔ (0 ≤ n ∧ n ≤ 24) ∧ LL.length ≤ 120 ∧ ∀ L ∈ LL, ok.clB n L = true := by
  unfold ok.cnfB
  rw [Bool.and_eq_true, Bool.and_eq_true, decide_eq_true_iff, decide_eq_true_iff, List.all_eq_true, and_assoc]
theorem front_back {n : Int} {LL : List (List Int)} (h : ok.cnfB n LL = true) (P T : List (List UInt8)) (hP : ∀ l ∈ P, passed l = true) (hT : ∀ l ∈ T, passed l = true) : front (P ++ hd n LL.length :: (LL.map text ++ T)) 0 = ⟨n, LL, 0, 0⟩ := by
  obtain ⟨h1, h2, h3⟩ := cnfB_parts.1 h
  rw [front_pass P _ hP]
  unfold front
  rw [if_neg (by rw [hd_passed]; decide), (head_iff _ _ _).2 ⟨rfl, h1, by omega, by omega⟩]
  exact body_back n _ T hT LL _ [] h3 rfl
theorem last_snoc (a : List UInt8) : (a ++ [10]).getLast? = some 10 := by simp
theorem whole_last (n : Int) (LL : List (List Int)) : (whole n LL).getLast? = some 10 := by
  unfold cx.whole
  rcases LL.eq_nil_or_concat with rfl | ⟨LL', L, rfl⟩
  · have e : lines ([] : List (List Int)) = [] := rfl
    rw [e, List.append_nil]
    exact last_snoc _
  · have e : lines (LL' ++ [L]) = lines LL' ++ text L ++ [10] := by simp [cx.lines]
    rw [List.concat_eq_append, e, ← List.append_assoc]
    exact last_snoc _
theorem lines_whole (n : Int) (LL : List (List Int)) (r : List UInt8) : linesOf (whole n LL ++ r) = hd n LL.length :: (LL.map text ++ linesOf r) := by
  have e : whole n LL ++ r = hd n LL.length ++ 10 :: (lines LL ++ r) := by simp [cx.whole]
  rw [e, lines_cons _ (hd_ten _ _), lines_text]
/-- a formula that has a text comes back from it -/
theorem read_whole {n : Int} {LL : List (List Int)} (h : ok.cnfB n LL = true) (hl : (whole n LL).length ≤ 12000) : readC (whole n LL) = ⟨n, LL, 0, 0⟩ := by
  unfold readC
  rw [if_neg (by rw [whole_last]; intro h'; rcases h' with h' | h'; omega; exact h'.2 rfl)]
  have e := lines_whole n LL []
  rw [List.append_nil] at e
  rw [e]
  exact front_back h [] [] (fun l h => by cases h) (fun l h => by cases h)
/-- .. whatever comments stand around it -/
theorem read_comments {n : Int} {LL : List (List Int)} (h : ok.cnfB n LL = true) (hl : (whole n LL).length ≤ 11990) : readC ([99, 32, 97, 10, 10] ++ whole n LL ++ [99, 10]) = ⟨n, LL, 0, 0⟩ := by
  unfold readC
  rw [if_neg (by
    rw [List.length_append, List.length_append]
    have e : ([99, 32, 97, 10, 10] ++ whole n LL ++ [99, 10] : List UInt8).getLast? = some 10 := by
      rw [show ([99, 10] : List UInt8) = [99] ++ [10] from rfl, ← List.append_assoc]
      exact last_snoc _
    rw [e]
    intro h'
    rcases h' with h' | h'
    · simp only [List.length_cons, List.length_nil] at h'
      omega
    · exact h'.2 rfl)]
  have e : linesOf ([99, 32, 97, 10, 10] ++ whole n LL ++ [99, 10]) = [[99, 32, 97], []] ++ hd n LL.length :: (LL.map text ++ [[99]]) := by
    have e1 : ([99, 32, 97, 10, 10] ++ whole n LL ++ [99, 10] : List UInt8) = [99, 32, 97] ++ 10 :: ([] ++ 10 :: (whole n LL ++ [99, 10])) := by simp
    rw [e1, lines_cons _ (by decide), lines_cons _ (by decide), lines_whole]
    rfl
  rw [e]
  refine front_back h _ _ ?_ ?_
  · intro l hl
    simp only [List.mem_cons, List.not_mem_nil, or_false] at hl
    rcases hl with rfl | rfl <;> rfl
  · intro l hl
    rw [List.mem_singleton] at hl
    subst hl
    rfl

/-! ### what a text says has a text -/
def tl (ls : List (List UInt8)) : Nat := (ls.map fun l => l.length + 1).sum
theorem tl_cons (l : List UInt8) (r : List (List UInt8)) : tl (l :: r) = l.length + 1 + tl r := by simp [tl]
theorem tl_lines (s : List UInt8) : ∀ st : List (List UInt8) × List UInt8, tl (lscan st s).1 + (lscan st s).2.length = tl st.1 + st.2.length + s.length := by
  induction s with
  | nil => intro st; rfl
  | cons c s ih =>
    intro st
    have e : lscan st (c :: s) = lscan (if c = 10 then (st.1 ++ [st.2], []) else (st.1, st.2 ++ [c])) s := rfl
    rw [e, ih, List.length_cons]
    split
    · simp [tl]
      omega
    · simp
      omega
theorem tl_le (s : List UInt8) : tl (linesOf s) ≤ s.length := by
  have := tl_lines s ([], [])
  unfold linesOf
  simp [tl] at this ⊢
  omega
theorem body_again (n m : Int) (ls : List (List UInt8)) : ∀ (i : Nat) (cs : List (List Int)), (cs.length : Int) ≤ m → (body n m ls i cs).code = 0 →
    ∃ LL, body n m ls i cs = ⟨n, cs ++ LL, 0, 0⟩ ∧ ((cs ++ LL).length : Int) = m ∧ (lines LL).length ≤ tl ls ∧ ∀ L ∈ LL, ok.clB n L = true := by
  induction ls with
  | nil =>
    intro i cs h1 h0
    unfold body at h0 ⊢
    split at h0
    · cases h0
    · rename_i h
      rw [if_neg h]
      exact ⟨[], by simp, by rw [List.append_nil]; omega, Nat.zero_le _, fun L h => (by cases h)⟩
  | cons l r ih =>
    intro i cs h1 h0
    unfold body at h0 ⊢
    rw [tl_cons]
    by_cases hp : passed l = true
    · rw [if_pos hp] at h0 ⊢
      obtain ⟨LL, e1, e2, e3, e4⟩ := ih _ _ h1 h0
      exact ⟨LL, e1, e2, by omega, e4⟩
    · rw [if_neg hp] at h0 ⊢
      by_cases hf : fine n l = true
      · rw [if_pos hf] at h0 ⊢
        by_cases hm : (cs.length : Int) = m
        · rw [if_pos hm] at h0
          cases h0
        · rw [if_neg hm] at h0 ⊢
          obtain ⟨LL, e1, e2, e3, e4⟩ := ih _ _ (by rw [List.length_append, List.length_singleton]; omega) h0
          have hb : rd.readB l = true := by
            unfold fine at hf
            rw [Bool.and_eq_true] at hf
            exact hf.1
          have hc := fine_of (n := n) hb
          rw [hf] at hc
          have ht : text (rd.readL l) = l := by
            unfold rd.readB at hb
            unfold rd.readL
            cases e : rd.read l with
            | none => rw [e] at hb; cases hb
            | some L => exact (rd.read_sound e).2
          refine ⟨rd.readL l :: LL, by rw [e1, List.append_assoc]; rfl, by rw [List.append_assoc] at e2; exact e2, ?_, ?_⟩
          · have e : lines (rd.readL l :: LL) = text (rd.readL l) ++ [10] ++ lines LL := by simp [cx.lines]
            rw [e, ht]
            simp
            omega
          · intro L hL
            rcases List.mem_cons.1 hL with rfl | hL
            · exact hc.symm
            · exact e4 L hL
      · rw [if_neg hf] at h0
        cases h0
theorem front_again (ls : List (List UInt8)) : ∀ i, (front ls i).code = 0 → ∃ n LL, front ls i = ⟨n, LL, 0, 0⟩ ∧ ok.cnfB n LL = true ∧ (whole n LL).length ≤ tl ls := by
  induction ls with
  | nil => intro i h; cases h
  | cons l r ih =>
    intro i h0
    unfold front at h0 ⊢
    rw [tl_cons]
    by_cases hp : passed l = true
    · rw [if_pos hp] at h0 ⊢
      obtain ⟨n, LL, e1, e2, e3⟩ := ih _ h0
      exact ⟨n, LL, e1, e2, by omega⟩
    · rw [if_neg hp] at h0 ⊢
      cases hh : headOf l with
      | none =>
        rw [hh] at h0
        cases h0
      | some p =>
        obtain ⟨n, m⟩ := p
        rw [hh] at h0
        obtain ⟨hl, c0, c1, c2⟩ := (head_iff _ _ _).1 hh
        obtain ⟨LL, e1, e2, e3, e4⟩ := body_again n m r (i + 1) [] c1 h0
        refine ⟨n, LL, e1, cnfB_parts.2 ⟨c0, ?_, e4⟩, ?_⟩
        · rw [List.nil_append] at e2
          omega
        · rw [List.nil_append] at e2
          unfold cx.whole
          rw [e2, ← hl]
          simp
          omega
theorem read_again (s : List UInt8) (h0 : (readC s).code = 0) : ∃ n LL, readC s = ⟨n, LL, 0, 0⟩ ∧ ok.cnfB n LL = true ∧ (whole n LL).length ≤ 12000 := by
  unfold readC at h0 ⊢
  split at h0
  · cases h0
  · rename_i h
    rw [if_neg h]
    obtain ⟨n, LL, e1, e2, e3⟩ := front_again _ _ h0
    refine ⟨n, LL, e1, e2, ?_⟩
    have := tl_le s
    omega
theorem body_none' (n m : Int) (ls : List (List UInt8)) : ∀ (i : Nat) (cs : List (List Int)), (body n m ls i cs).code ≠ 0 → (body n m ls i cs).cs = [] := by
  induction ls with
  | nil =>
    intro i cs h
    unfold body at h ⊢
    split
    · rfl
    · rename_i h'
      rw [if_neg h'] at h
      exact absurd rfl h
  | cons l r ih =>
    intro i cs h
    unfold body at h ⊢
    by_cases hp : passed l = true
    · rw [if_pos hp] at h ⊢
      exact ih _ _ h
    · rw [if_neg hp] at h ⊢
      by_cases hf : fine n l = true
      · rw [if_pos hf] at h ⊢
        by_cases hm : (cs.length : Int) = m
        · rw [if_pos hm]
          rfl
        · rw [if_neg hm] at h ⊢
          exact ih _ _ h
      · rw [if_neg hf]
        rfl
theorem front_none' (ls : List (List UInt8)) : ∀ i, (front ls i).code ≠ 0 → (front ls i).cs = [] := by
  induction ls with
  | nil => intro i _; rfl
  | cons l r ih =>
    intro i h
    unfold front at h ⊢
    by_cases hp : passed l = true
    · rw [if_pos hp] at h ⊢
      exact ih _ h
    · rw [if_neg hp] at h ⊢
      cases hh : headOf l with
      | none => rfl
      | some p =>
        rw [hh] at h
        exact body_none' _ _ _ _ _ h
/-- a refusal tells no clause -/
theorem read_none (s : List UInt8) (h : (readC s).code ≠ 0) : (readC s).cs = [] := by
  unfold readC at h ⊢
  split
  · rfl
  · rename_i h'
    rw [if_neg h'] at h
    exact front_none' _ _ h
theorem cnfT_ne {n : Int} {LL : List (List Int)} (h : cnfT n LL ≠ []) : ok.cnfB n LL = true ∧ (whole n LL).length ≤ 12000 ∧ cnfT n LL = whole n LL := by
  unfold cx.cnfT at h ⊢
  split at h
  · rename_i hc
    rw [if_pos hc]
    rw [Bool.and_eq_true, decide_eq_true_iff] at hc
    exact ⟨hc.1, hc.2, rfl⟩
  · exact absurd rfl h
theorem bytes_around (S : ByteArray) : rd.bytes (⟨#[99, 32, 97, 10, 10]⟩ ++ S ++ ⟨#[99, 10]⟩) = [99, 32, 97, 10, 10] ++ rd.bytes S ++ [99, 10] := by
  unfold rd.bytes
  simp
theorem tot_of {n : Int} {LL : List (List Int)} (h : ok.cnfB n LL = true) : css.tot LL ≤ 1048576 := by
  obtain ⟨_, h2, h3⟩ := cnfB_parts.1 h
  have h4 := sum_bd LL (fun L hL => by
    have := h3 L hL
    unfold ok.clB at this
    rw [Bool.and_eq_true, decide_eq_true_iff] at this
    exact this.2)
  unfold css.tot
  omega
open Go.Proofs.YtfokbkaommfnoaaGreatDoor.css (OwnS tot)
/-- ReadCnf of both sides at one text, and what its answer is like -/
theorem bothR2 (s : ByteArray) (hs : s.size ≤ 1048576) : ∃ (N : Int) (R : List (List Int)) (cd li : Int), (cd = 0 → ok.cnfB N R = true ∧ (whole N R).length ≤ 12000) ∧ (cd ≠ 0 → R = []) ∧
    (∀ w, Calls Tryz.prog 12 #[.string s] w fun e w' => ∃ u, e = .returned (.tuple #[.agg #[.int .i64 N, u], .int .i64 cd, .int .i64 li]) ∧ OwnS w.heap.size w'.heap.size w' u R ∧ w.grownBy w' none) ∧
    (∀ w, EnvE w → Calls Tryz.prog 9 #[.string s] w fun e w' => ∃ u, e = .returned (.tuple #[.agg #[.int .i64 N, u], .int .i64 cd, .int .i64 li]) ∧ OwnS w.heap.size w'.heap.size w' u R ∧ w.grownBy w' none) :=
  ⟨(readC (rd.bytes s)).n, (readC (rd.bytes s)).cs, (readC (rd.bytes s)).code, (readC (rd.bytes s)).line, fun h => by
    obtain ⟨n, LL, e, h1, h2⟩ := read_again _ h
    rw [e]
    exact ⟨h1, h2⟩, fun h => read_none _ h, fun w => specReadCnf s w hs, fun w h => implReadCnf s w h.env h.cell h.lt⟩
/-- .. at a formula's own text -/
theorem readOwn {n : Int} {LL : List (List Int)} (h : ok.cnfB n LL = true) (hl : (whole n LL).length ≤ 12000) (T : ByteArray) (hT : rd.bytes T = whole n LL) (w : World) (hE : EnvE w) :
    Calls Tryz.prog 9 #[.string T] w fun e w' => ∃ u, e = .returned (.tuple #[.agg #[.int .i64 n, u], .int .i64 0, .int .i64 0]) ∧ OwnS w.heap.size w'.heap.size w' u LL ∧ w.grownBy w' none := by
  have := implReadCnf T w hE.env hE.cell hE.lt
  rw [hT, read_whole h hl] at this
  exact this
end Go.Proofs.YtfokbkaommfnoaaGreatDoor.ln
