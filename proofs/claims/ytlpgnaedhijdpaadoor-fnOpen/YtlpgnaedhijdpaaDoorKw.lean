/- The solver is laid out: a cell of it written, and what has been laid out so far; no condition but on the numbers. -/
import Derived.Test.YtlpgnaedhijdpaaDoorKr
namespace Go.Proofs.YtlpgnaedhijdpaaDoor.ks
open Go.ChangeShapes Go.WideShapes Go.ChangeAt Go.RowKit
open Go.Proofs.YtlpgnaedhijdpaaDoor.kd (SV Slv cells_len cells_at atH0 atH1 atE0 atE1)
open Go.Proofs.YtlpgnaedhijdpaaDoor.kc (cset lo hi)
open Go.Proofs.YtlpgnaedhijdpaaDoor.sl (hide unhide grown_refl grown_trans)
set_option linter.unusedVariables false
def setH (s : SV) (p X : Nat) : SV := { s with H := fun q => if q = p then X else s.H q }
def setE (s : SV) (u X : Nat) : SV := { s with E := fun q => if q = u then X else s.E q }
theorem setH_at (s : SV) {p X k : Nat} (hp : p < 48) : (setH s p X).at k = if k = 2 + 2 * p then .int .u64 (lo X : Int) else if k = 2 + 2 * p + 1 then .int .u64 (hi X : Int) else s.at k := by
  by_cases h0 : k = 2 + 2 * p
  · subst h0
    rw [if_pos rfl, atH0 _ hp]
    simp [setH]
  · by_cases h1 : k = 2 + 2 * p + 1
    · subst h1
      rw [if_neg h0, if_pos rfl, atH1 _ hp]
      simp [setH]
    · rw [if_neg h0, if_neg h1]
      unfold SV.at setH
      by_cases a : k = 0
      · rw [if_pos a, if_pos a]
      · by_cases b : k = 1
        · rw [if_neg a, if_neg a, if_pos b, if_pos b]
        · rw [if_neg a, if_neg a, if_neg b, if_neg b]
          by_cases c : k < 98
          · have hne : ¬ (k - 2) / 2 = p := by omega
            rw [if_pos c, if_pos c]
            simp only [if_neg hne]
          · rw [if_neg c, if_neg c]
theorem setE_at (s : SV) {u X k : Nat} (hu : u < 25) (hk : k < 148) : (setE s u X).at k = if k = 98 + 2 * u then .int .u64 (lo X : Int) else if k = 98 + 2 * u + 1 then .int .u64 (hi X : Int) else s.at k := by
  by_cases h0 : k = 98 + 2 * u
  · subst h0
    rw [if_pos rfl, atE0 _ hu]
    simp [setE]
  · by_cases h1 : k = 98 + 2 * u + 1
    · subst h1
      rw [if_neg h0, if_pos rfl, atE1 _ hu]
      simp [setE]
    · rw [if_neg h0, if_neg h1]
      unfold SV.at setE
      by_cases a : k = 0
      · rw [if_pos a, if_pos a]
      · by_cases b : k = 1
        · rw [if_neg a, if_neg a, if_pos b, if_pos b]
        · rw [if_neg a, if_neg a, if_neg b, if_neg b]
          by_cases c : k < 98
          · rw [if_pos c, if_pos c]
          · have hne : ¬ (k - 98) / 2 = u := by omega
            rw [if_neg c, if_neg c]
            simp only [if_neg hne]
theorem set2 {A B : List Value} {o : Nat} {x y : Value} (hA : A.length = 148) (hB : B.length = 148) (ho : o + 1 < 148) (h : ∀ k, k < 148 → B[k]? = if k = o then some x else if k = o + 1 then some y else A[k]?) : (A.set o x).set (o + 1) y = B := by
  apply List.ext_getElem?
  intro k
  by_cases hk : k < 148
  · rw [h k hk, List.getElem?_set, List.length_set, List.getElem?_set, hA]
    by_cases h1 : o + 1 = k
    · subst h1
      simp
      omega
    · rw [if_neg h1]
      by_cases h0 : o = k
      · subst h0
        rw [if_pos rfl, if_pos rfl, if_pos (by omega)]
      · rw [if_neg h0, if_neg (fun e => h0 e.symm), if_neg (fun e => h1 e.symm)]
  · rw [List.getElem?_eq_none (by simp; omega), List.getElem?_eq_none (by omega)]
theorem blk_set2 {w : World} {c o : Nat} {L : List Value} {t : TypeId} {x y : Value} (hb : w.heap[c]? = some (.cells L.toArray t (0, 0))) (hl : o + 1 < L.length) :
    (w.setCells c o [x, y]).heap[c]? = some (.cells ((L.set o x).set (o + 1) y).toArray t (0, 0)) := by
  show ((w.setCell ⟨c, o, none⟩ x).setCell ⟨c, o + 1, none⟩ y).heap[c]? = _
  rw [heap_setCell_same _ c (o + 1) _ t y (heap_setCell_same w c o _ t x hb)]
  simp
theorem grown_set2 (w : World) (c o : Nat) (x y : Value) : w.grownBy (w.setCells c o [x, y]) (some c) :=
  ⟨rfl, rfl, rfl, by simp [World.setCells, World.setCell], fun k hk hr => (Below.heap_setCell (w.setCell ⟨c, o, none⟩ x) ⟨c, o + 1, none⟩ y k (fun e => hr (by rw [e]))).trans (Below.heap_setCell w ⟨c, o, none⟩ x k (fun e => hr (by rw [e])))⟩
theorem cellsH (s : SV) {p X : Nat} (hp : p < 48) : (s.cells.set (2 + 2 * p) (.int .u64 (lo X : Int))).set (2 + 2 * p + 1) (.int .u64 (hi X : Int)) = (setH s p X).cells := by
  refine set2 (cells_len s) (cells_len _) (by omega) fun k hk => ?_
  rw [cells_at _ hk, cells_at _ hk, setH_at s hp]
  split
  · rfl
  · split <;> rfl
theorem cellsE (s : SV) {u X : Nat} (hu : u < 25) : (s.cells.set (98 + 2 * u) (.int .u64 (lo X : Int))).set (98 + 2 * u + 1) (.int .u64 (hi X : Int)) = (setE s u X).cells := by
  refine set2 (cells_len s) (cells_len _) (by omega) fun k hk => ?_
  rw [cells_at _ hk, cells_at _ hk, setE_at s hu hk]
  split
  · rfl
  · split <;> rfl
theorem Slv.setH {w : World} {c : Nat} {s : SV} {p X : Nat} (h : Slv w c s) (hp : p < 48) (hX : X < 2 ^ s.Ss.length) (hV : s.V.ownBlock ≠ some c) :
    Slv (w.setCells c (2 + 2 * p) [.int .u64 (lo X : Int), .int .u64 (hi X : Int)]) c (setH s p X) := by
  refine ⟨?_, ?_, h.m, ?_, h.e⟩
  · rw [blk_set2 h.blk (by rw [cells_len]; omega), cellsH s hp]
  · refine h.cl.kept (grown_set2 w c _ _ _) ?_
    cases e : s.V.ownBlock with
    | none => exact .inl rfl
    | some k => exact .inr (by rw [← e]; exact hV)
  · intro q
    show (if q = p then X else s.H q) < _
    split
    · exact hX
    · exact h.h q
theorem Slv.setE {w : World} {c : Nat} {s : SV} {u X : Nat} (h : Slv w c s) (hu : u < 25) (hX : X < 2 ^ s.Ss.length) (hV : s.V.ownBlock ≠ some c) :
    Slv (w.setCells c (98 + 2 * u) [.int .u64 (lo X : Int), .int .u64 (hi X : Int)]) c (setE s u X) := by
  refine ⟨?_, ?_, h.m, h.h, ?_⟩
  · rw [blk_set2 h.blk (by rw [cells_len]; omega), cellsE s hu]
  · refine h.cl.kept (grown_set2 w c _ _ _) ?_
    cases e : s.V.ownBlock with
    | none => exact .inl rfl
    | some k => exact .inr (by rw [← e]; exact hV)
  · intro q
    show (if q = u then X else s.E q) < _
    split
    · exact hX
    · exact h.e q
theorem grow1 {w w1 w2 : World} {b : Nat} (h : w.grownBy w1 none) (g : w1.grownBy w2 (some b)) (hb : w.heap.size ≤ b) : w.grownBy w2 none :=
  ⟨g.os.trans h.os, g.tape.trans h.tape, g.output.trans h.output, Nat.le_trans h.size g.size, fun i hi _ => (g.block i (Nat.lt_of_lt_of_le hi h.size) (fun e => by cases e; omega)).trans (h.block i hi (fun e => by cases e))⟩
/-- laid out so far: the clauses ahead of i whole, of clause i the places ahead of q -/
structure Got (n : Nat) (Ss : List Nat) (i q : Nat) (s : SV) : Prop where
  hv : ∀ p j, (s.H p).testBit j = ((decide (j < i) || (decide (j = i) && decide (p < q))) && (Ss.getD j 0).testBit p)
  e0 : ∀ u j, (s.E u).testBit j = true → j < i
  e1 : ∀ u j, (s.E u).testBit j = true → ∀ b, (Ss.getD j 0).testBit b = true → b / 2 < u
  e2 : ∀ j, j < i → ∃ u, u ≤ n ∧ (s.E u).testBit j = true
  e3 : ∀ u j, (s.E u).testBit j = true → u = 0 ∨ ∃ b, (Ss.getD j 0).testBit b = true ∧ b / 2 + 1 = u
theorem Got.start {n : Nat} {Ss : List Nat} {s : SV} (h : ∀ p, s.H p = 0) (e : ∀ u, s.E u = 0) : Got n Ss 0 0 s :=
  ⟨fun p j => by rw [h p]; simp, fun u j hj => by rw [e u] at hj; simp at hj, fun u j hj => by rw [e u] at hj; simp at hj, fun j hj => by omega, fun u j hj => by rw [e u] at hj; simp at hj⟩
theorem Got.step {n : Nat} {Ss : List Nat} {i q t : Nat} {s : SV} (h : Got n Ss i q s) (hq : q ≤ t) (hn : ∀ b, q ≤ b → b < t → (Ss.getD i 0).testBit b = false) (ht : (Ss.getD i 0).testBit t = true) :
    Got n Ss i (t + 1) (setH s t (s.H t ||| 2 ^ i)) := by
  refine ⟨fun p j => ?_, h.e0, h.e1, h.e2, h.e3⟩
  show (if p = t then s.H t ||| 2 ^ i else s.H p).testBit j = _
  by_cases hp : p = t
  · subst hp
    rw [if_pos rfl, Nat.testBit_or, h.hv, Nat.testBit_two_pow]
    by_cases hj : j = i
    · subst hj
      simp only [ht, Bool.and_true, decide_eq_true (Nat.lt_succ_self p)]
      simp
    · have hj' : ¬ i = j := fun e => hj e.symm
      simp only [decide_eq_false hj, decide_eq_false hj', Bool.false_and, Bool.or_false]
  · rw [if_neg hp, h.hv]
    by_cases hj : j = i
    · subst hj
      by_cases h1 : p < q
      · simp [h1, show p < t + 1 by omega]
      · by_cases h2 : p < t
        · rw [hn p (by omega) h2]
          simp
        · simp [h1, show ¬ p < t + 1 by omega]
    · simp [hj]
theorem Got.fin {n : Nat} {Ss : List Nat} {i q u : Nat} {s : SV} (h : Got n Ss i q s) (hq : ∀ b, (Ss.getD i 0).testBit b = true → b < q) (hu : ∀ b, (Ss.getD i 0).testBit b = true → b / 2 < u) (hn : u ≤ n) (h3 : u = 0 ∨ ∃ b, (Ss.getD i 0).testBit b = true ∧ b / 2 + 1 = u) :
    Got n Ss (i + 1) 0 (setE s u (s.E u ||| 2 ^ i)) := by
  have eb : ∀ v j, ((setE s u (s.E u ||| 2 ^ i)).E v).testBit j = ((s.E v).testBit j || (decide (v = u) && decide (i = j))) := by
    intro v j
    show (if v = u then s.E u ||| 2 ^ i else s.E v).testBit j = _
    by_cases hv : v = u
    · subst hv
      rw [if_pos rfl, Nat.testBit_or, Nat.testBit_two_pow]
      simp
    · rw [if_neg hv]
      simp [hv]
  refine ⟨fun p j => ?_, fun v j hj => ?_, fun v j hj => ?_, fun j hj => ?_, fun v j hj => ?_⟩
  · show (s.H p).testBit j = _
    rw [h.hv]
    by_cases hj : j = i
    · subst hj
      cases hb : (Ss.getD j 0).testBit p with
      | false => simp
      | true => simp [hq p hb]
    · have : decide (j < i + 1) = decide (j < i) := by rw [decide_eq_decide]; omega
      simp [hj, this]
  · rw [eb, Bool.or_eq_true] at hj
    rcases hj with hj | hj
    · have := h.e0 v j hj; omega
    · simp at hj; omega
  · rw [eb, Bool.or_eq_true] at hj
    rcases hj with hj | hj
    · exact h.e1 v j hj
    · simp at hj
      obtain ⟨rfl, rfl⟩ := hj
      exact hu
  · by_cases hl : j < i
    · obtain ⟨v, h1, h2⟩ := h.e2 j hl
      exact ⟨v, h1, by rw [eb, h2]; rfl⟩
    · exact ⟨u, hn, by rw [eb]; simp; right; omega⟩
  · rw [eb, Bool.or_eq_true] at hj
    rcases hj with hj | hj
    · exact h.e3 v j hj
    · simp at hj
      obtain ⟨rfl, rfl⟩ := hj
      exact h3
theorem Got.right {n : Nat} {LL : List (List Int)} {s : SV} (hn : n ≤ 24) (hs : s.n = n) (hS : s.Ss = LL.map bset.setOf) (h : Got n s.Ss s.Ss.length 0 s) (hl : ∀ c ∈ LL, ∀ x ∈ c, ok.litIn (n : Int) x = true) : Right n LL s :=
  ⟨hn, hs, hS, fun p i => by rw [h.hv]; simp, h.e1, h.e2, h.e3, hl⟩
end Go.Proofs.YtlpgnaedhijdpaaDoor.ks
