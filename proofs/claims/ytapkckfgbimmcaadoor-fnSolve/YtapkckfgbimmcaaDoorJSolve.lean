/- The solver is laid out: a cell of it written, and what has been laid out so far; no condition but on the numbers. What solverOf makes of a right formula: its solver; the sizes within the bounds. What leastAssignment answers: the least assignment at which the clauses and the wanted literals are true, or none. What the program's SolveWith and Solve answer at every formula that holds at most 2^20 values and every list of at most 2^20 numbers, where the library's table of places lies as its text lays it. SolveWith and Solve, the program's beside the model's: one answer. Plain mathematics of Backbone: the literals that are true at every answer. What Backbone answers, the program's and the model's, at every formula that holds at most 2^20 values. Plain mathematics of taking a literal to be true: where the formula that is left is true, and how often; no condition but that the literal is one. Plain mathematics of implying: a formula implies a clause just when it cannot be true with the clause's opposites, and just when the clause beside it takes nothing away; no condition but that all are of the same variables. Plain mathematics of FnSolve and FnBackbone: how many answers there are, and which literals are true at all of them. What Next answers, the program's and the model's, at every formula that holds at most 2^20 values and every list of at most 2^20 numbers. Plain mathematics of FnAll: the assignments in their order, those behind a given one, and what Next tells of them. What the program's Core answers at every formula that holds at most 2^20 values and every list of at most 2^20 numbers, where the library's table of places lies as its text lays it. What the model's Core answers at every formula that holds at most 2^20 values and every list of at most 2^20 numbers. Plain mathematics of FnCore: what is left cannot be true, and without any one of it the rest can. Plain mathematics of FnSolve: no assignment ahead of the least answer is one. -/
import Derived.Test.YtapkckfgbimmcaaDoorKv
import Derived.Test.YtapkckfgbimmcaaDoorCu
import Derived.Test.YtapkckfgbimmcaaDoorLr
import Derived.Test.YtapkckfgbimmcaaDoorLs5
import Derived.Test.YtapkckfgbimmcaaDoorFz
import Derived.Test.YtapkckfgbimmcaaDoorCt
import Derived.Test.YtapkckfgbimmcaaDoorCw
import Derived.Test.YtapkckfgbimmcaaDoorDb
import Derived.Test.YtapkckfgbimmcaaDoorTl
namespace Go.Proofs.YtapkckfgbimmcaaDoor.ks
open Go.ChangeShapes Go.WideShapes Go.ChangeAt Go.RowKit
open Go.Proofs.YtapkckfgbimmcaaDoor.kd (SV Slv cells_len cells_at atH0 atH1 atE0 atE1)
open Go.Proofs.YtapkckfgbimmcaaDoor.kc (cset lo hi)
open Go.Proofs.YtapkckfgbimmcaaDoor.sl (hide unhide grown_refl grown_trans)
set_option linter.unusedVariables false
def setH (s : SV) (p X : Nat) : SV := { s with H := fun q => if q = p then X else s.H q }
def setE (s : SV) (u X : Nat) : SV := { s with E := fun q => if q = u then X else s.E q }
theorem setH_at (s : SV) {p X k : Nat} (hp : p < 48) : (setH s p X).at k = if k = 2 + 2 * p then .int .u64 (lo X : Int) else if k = 2 + 2 * p + 1 then .int .u64 (hi X : Int) else s.at k := by
  by_cases h0 : k = 2 + 2 * p
  · subst h0
    rw [if_pos rfl, atH0 _ hp]
    simp [setH]
  · by_cases h1 : k = 2 + 2 * p + 1
    · subst h1
      rw [if_neg h0, if_pos rfl, atH1 _ hp]
      simp [setH]
    · rw [if_neg h0, if_neg h1]
      unfold SV.at setH
      by_cases a : k = 0
      · rw [if_pos a, if_pos a]
      · by_cases b : k = 1
        · rw [if_neg a, if_neg a, if_pos b, if_pos b]
        · rw [if_neg a, if_neg a, if_neg b, if_neg b]
          by_cases c : k < 98
          · have hne : ¬ (k - 2) / 2 = p := by omega
            rw [if_pos c, if_pos c]
            simp only [if_neg hne]
          · rw [if_neg c, if_neg c]
theorem setE_at (s : SV) {u X k : Nat} (hu : u < 25) (hk : k < 148) : (setE s u X).at k = if k = 98 + 2 * u then .int .u64 (lo X : Int) else if k = 98 + 2 * u + 1 then .int .u64 (hi X : Int) else s.at k := by
  by_cases h0 : k = 98 + 2 * u
  · subst h0
    rw [if_pos rfl, atE0 _ hu]
    simp [setE]
  · by_cases h1 : k = 98 + 2 * u + 1
    · subst h1
      rw [if_neg h0, if_pos rfl, atE1 _ hu]
      simp [setE]
    · rw [if_neg h0, if_neg h1]
      unfold SV.at setE
      by_cases a : k = 0
      · rw [if_pos a, if_pos a]
      · by_cases b : k = 1
        · rw [if_neg a, if_neg a, if_pos b, if_pos b]
        · rw [if_neg a, if_neg a, if_neg b, if_neg b]
          by_cases c : k < 98
          · rw [if_pos c, if_pos c]
          · have hne : ¬ (k - 98) / 2 = u := by omega
            rw [if_neg c, if_neg c]
            simp only [if_neg hne]
theorem set2 {A B : List Value} {o : Nat} {x y : Value} (hA : A.length = 148) (hB : B.length = 148) (ho : o + 1 < 148) (h : ∀ k, k < 148 → B[k]? = if k = o then some x else if k = o + 1 then some y else A[k]?) : (A.set o x).set (o + 1) y = B := by
  apply List.ext_getElem?
  intro k
  by_cases hk : k < 148
  · rw [h k hk, List.getElem?_set, List.length_set, List.getElem?_set, hA]
    by_cases h1 : o + 1 = k
    · subst h1
      simp
      omega
    · rw [if_neg h1]
      by_cases h0 : o = k
      · subst h0
        rw [if_pos rfl, if_pos rfl, if_pos (by omega)]
      · rw [if_neg h0, if_neg (fun e => h0 e.symm), if_neg (fun e => h1 e.symm)]
  · rw [List.getElem?_eq_none (by simp; omega), List.getElem?_eq_none (by omega)]
theorem blk_set2 {w : World} {c o : Nat} {L : List Value} {t : TypeId} {x y : Value} (hb : w.heap[c]? = some (.cells L.toArray t (0, 0))) (hl : o + 1 < L.length) :
    (w.setCells c o [x, y]).heap[c]? = some (.cells ((L.set o x).set (o + 1) y).toArray t (0, 0)) := by
  show ((w.setCell ⟨c, o, none⟩ x).setCell ⟨c, o + 1, none⟩ y).heap[c]? = _
  rw [heap_setCell_same _ c (o + 1) _ t y (heap_setCell_same w c o _ t x hb)]
  simp
theorem grown_set2 (w : World) (c o : Nat) (x y : Value) : w.grownBy (w.setCells c o [x, y]) (some c) :=
  ⟨rfl, rfl, rfl, by simp [World.setCells, World.setCell], fun k hk hr => (Below.heap_setCell (w.setCell ⟨c, o, none⟩ x) ⟨c, o + 1, none⟩ y k (fun e => hr (by rw [e]))).trans (Below.heap_setCell w ⟨c, o, none⟩ x k (fun e => hr (by rw [e])))⟩
theorem cellsH (s : SV) {p X : Nat} (hp : p < 48) : (s.cells.set (2 + 2 * p) (.int .u64 (lo X : Int))).set (2 + 2 * p + 1) (.int .u64 (hi X : Int)) = (setH s p X).cells := by
  refine set2 (cells_len s) (cells_len _) (by omega) fun k hk => ?_
  rw [cells_at _ hk, cells_at _ hk, setH_at s hp]
  split
  · rfl
  · split <;> rfl
theorem cellsE (s : SV) {u X : Nat} (hu : u < 25) : (s.cells.set (98 + 2 * u) (.int .u64 (lo X : Int))).set (98 + 2 * u + 1) (.int .u64 (hi X : Int)) = (setE s u X).cells := by
  refine set2 (cells_len s) (cells_len _) (by omega) fun k hk => ?_
  rw [cells_at _ hk, cells_at _ hk, setE_at s hu hk]
  split
  · rfl
  · split <;> rfl
theorem Slv.setH {w : World} {c : Nat} {s : SV} {p X : Nat} (h : Slv w c s) (hp : p < 48) (hX : X < 2 ^ s.Ss.length) (hV : s.V.ownBlock ≠ some c) :
    Slv (w.setCells c (2 + 2 * p) [.int .u64 (lo X : Int), .int .u64 (hi X : Int)]) c (setH s p X) := by
  refine ⟨?_, ?_, h.m, ?_, h.e⟩
  · rw [blk_set2 h.blk (by rw [cells_len]; omega), cellsH s hp]
  · refine h.cl.kept (grown_set2 w c _ _ _) ?_
    cases e : s.V.ownBlock with
    | none => exact .inl rfl
    | some k => exact .inr (by rw [← e]; exact hV)
  · intro q
    show (if q = p then X else s.H q) < _
    split
    · exact hX
    · exact h.h q
theorem Slv.setE {w : World} {c : Nat} {s : SV} {u X : Nat} (h : Slv w c s) (hu : u < 25) (hX : X < 2 ^ s.Ss.length) (hV : s.V.ownBlock ≠ some c) :
    Slv (w.setCells c (98 + 2 * u) [.int .u64 (lo X : Int), .int .u64 (hi X : Int)]) c (setE s u X) := by
  refine ⟨?_, ?_, h.m, h.h, ?_⟩
  · rw [blk_set2 h.blk (by rw [cells_len]; omega), cellsE s hu]
  · refine h.cl.kept (grown_set2 w c _ _ _) ?_
    cases e : s.V.ownBlock with
    | none => exact .inl rfl
    | some k => exact .inr (by rw [← e]; exact hV)
  · intro q
    show (if q = u then X else s.E q) < _
    split
    · exact hX
    · exact h.e q
/-- laid out so far: the clauses ahead of i whole, of clause i the places ahead of q -/
structure Got (n : Nat) (Ss : List Nat) (i q : Nat) (s : SV) : Prop where
  hv : ∀ p j, (s.H p).testBit j = ((decide (j < i) || (decide (j = i) && decide (p < q))) && (Ss.getD j 0).testBit p)
  e0 : ∀ u j, (s.E u).testBit j = true → j < i
  e1 : ∀ u j, (s.E u).testBit j = true → ∀ b, (Ss.getD j 0).testBit b = true → b / 2 < u
  e2 : ∀ j, j < i → ∃ u, u ≤ n ∧ (s.E u).testBit j = true
theorem Got.start {n : Nat} {Ss : List Nat} {s : SV} (h : ∀ p, s.H p = 0) (e : ∀ u, s.E u = 0) : Got n Ss 0 0 s :=
  ⟨fun p j => by rw [h p]; simp, fun u j hj => by rw [e u] at hj; simp at hj, fun u j hj => by rw [e u] at hj; simp at hj, fun j hj => by omega⟩
theorem Got.step {n : Nat} {Ss : List Nat} {i q t : Nat} {s : SV} (h : Got n Ss i q s) (hq : q ≤ t) (hn : ∀ b, q ≤ b → b < t → (Ss.getD i 0).testBit b = false) (ht : (Ss.getD i 0).testBit t = true) :
    Got n Ss i (t + 1) (setH s t (s.H t ||| 2 ^ i)) := by
  refine ⟨fun p j => ?_, h.e0, h.e1, h.e2⟩
  show (if p = t then s.H t ||| 2 ^ i else s.H p).testBit j = _
  by_cases hp : p = t
  · subst hp
    rw [if_pos rfl, Nat.testBit_or, h.hv, Nat.testBit_two_pow]
    by_cases hj : j = i
    · subst hj
      simp only [ht, Bool.and_true, decide_eq_true (Nat.lt_succ_self p)]
      simp
    · have hj' : ¬ i = j := fun e => hj e.symm
      simp only [decide_eq_false hj, decide_eq_false hj', Bool.false_and, Bool.or_false]
  · rw [if_neg hp, h.hv]
    by_cases hj : j = i
    · subst hj
      by_cases h1 : p < q
      · simp [h1, show p < t + 1 by omega]
      · by_cases h2 : p < t
        · rw [hn p (by omega) h2]
          simp
        · simp [h1, show ¬ p < t + 1 by omega]
    · simp [hj]
theorem Got.fin {n : Nat} {Ss : List Nat} {i q u : Nat} {s : SV} (h : Got n Ss i q s) (hq : ∀ b, (Ss.getD i 0).testBit b = true → b < q) (hu : ∀ b, (Ss.getD i 0).testBit b = true → b / 2 < u) (hn : u ≤ n) :
    Got n Ss (i + 1) 0 (setE s u (s.E u ||| 2 ^ i)) := by
  have eb : ∀ v j, ((setE s u (s.E u ||| 2 ^ i)).E v).testBit j = ((s.E v).testBit j || (decide (v = u) && decide (i = j))) := by
    intro v j
    show (if v = u then s.E u ||| 2 ^ i else s.E v).testBit j = _
    by_cases hv : v = u
    · subst hv
      rw [if_pos rfl, Nat.testBit_or, Nat.testBit_two_pow]
      simp
    · rw [if_neg hv]
      simp [hv]
  refine ⟨fun p j => ?_, fun v j hj => ?_, fun v j hj => ?_, fun j hj => ?_⟩
  · show (s.H p).testBit j = _
    rw [h.hv]
    by_cases hj : j = i
    · subst hj
      cases hb : (Ss.getD j 0).testBit p with
      | false => simp
      | true => simp [hq p hb]
    · have : decide (j < i + 1) = decide (j < i) := by rw [decide_eq_decide]; omega
      simp [hj, this]
  · rw [eb, Bool.or_eq_true] at hj
    rcases hj with hj | hj
    · have := h.e0 v j hj; omega
    · simp at hj; omega
  · rw [eb, Bool.or_eq_true] at hj
    rcases hj with hj | hj
    · exact h.e1 v j hj
    · simp at hj
      obtain ⟨rfl, rfl⟩ := hj
      exact hu
  · by_cases hl : j < i
    · obtain ⟨v, h1, h2⟩ := h.e2 j hl
      exact ⟨v, h1, by rw [eb, h2]; rfl⟩
    · exact ⟨u, hn, by rw [eb]; simp; right; omega⟩
theorem Got.right {n : Nat} {LL : List (List Int)} {s : SV} (hn : n ≤ 24) (hs : s.n = n) (hS : s.Ss = LL.map bset.setOf) (h : Got n s.Ss s.Ss.length 0 s) (hl : ∀ c ∈ LL, ∀ x ∈ c, ok.litIn (n : Int) x = true) : Right n LL s :=
  ⟨hn, hs, hS, fun p i => by rw [h.hv]; simp, h.e1, h.e2, hl⟩
end Go.Proofs.YtapkckfgbimmcaaDoor.ks
namespace Go.Proofs.YtapkckfgbimmcaaDoor.ks
open Go.ChangeShapes Go.WideShapes Go.ChangeAt Go.RowKit
open Go.Proofs.YtapkckfgbimmcaaDoor.kd (SV Slv cells_len cells_at atH0 atH1 atE0 atE1)
open Go.Proofs.YtapkckfgbimmcaaDoor.kc (cset lo hi)
open Go.Proofs.YtapkckfgbimmcaaDoor.srt (Tab fstI litI)
open Go.Proofs.YtapkckfgbimmcaaDoor.lits (okB)
open Go.Proofs.YtapkckfgbimmcaaDoor.bset (setOf setOf_lt placeN)
open Go.Proofs.YtapkckfgbimmcaaDoor.css (Sls tot)
open Go.Proofs.YtapkckfgbimmcaaDoor.su (MadeU words)
open Go.Proofs.YtapkckfgbimmcaaDoor.sl (hide unhide grown_refl grown_trans)
set_option linter.unusedVariables false
theorem row_nec {w : World} {b n z c : Nat} {e t : TypeId} {fz : Nat × Nat} {v : Value} {xs : List Value} {cs : Array Value} (h : w.ownsRow b e z v n xs) (hc : w.heap[c]? = some (.cells cs t fz)) (he : (e : Nat) ≠ t) : v.ownBlock = none ∨ v.ownBlock ≠ some c := by
  cases q : v.ownBlock with
  | none => exact .inl rfl
  | some g =>
    right
    intro q'
    cases q'
    obtain ⟨c', fz', hc'⟩ := css.own_kind h c q
    rw [hc'] at hc
    simp only [Option.some.injEq, Obj.cells.injEq] at hc
    exact he hc.2.1
theorem Slv.fz {w : World} {c : Nat} {s : SV} (h : Slv w c s) (k : Nat) : w.frozen? ⟨c, k, none⟩ = false := by
  simp [World.frozen?, h.blk]
theorem lit_place {t : Nat} (h : t < 48) : okB (litI t) = true ∧ placeN (litI t) = t ∧ (if litI t < 0 then -litI t else litI t) = ((t / 2 + 1 : Nat) : Int) := by
  rcases Nat.mod_two_eq_zero_or_one t with e | e
  · obtain ⟨k, rfl⟩ : ∃ k, t = 2 * k := ⟨t / 2, by omega⟩
    rw [srt.litI_even]
    have := srt.place_pos k (by omega)
    refine ⟨this.1, this.2, ?_⟩
    rw [if_neg (by omega)]
    omega
  · obtain ⟨k, rfl⟩ : ∃ k, t = 2 * k + 1 := ⟨t / 2, by omega⟩
    rw [srt.litI_odd]
    have := srt.place_neg k (by omega)
    refine ⟨this.1, this.2, ?_⟩
    rw [if_pos (by omega)]
    omega
theorem row_form {w : World} {b n z : Nat} {e : TypeId} {v : Value} {xs : List Value} (h : w.ownsRow b e z v n xs) : ∃ a cap, v = .slice a n cap := by
  rcases h.2 with ⟨hv, h0⟩ | ⟨g, cap, cur, hv, _⟩
  · exact ⟨none, 0, by rw [hv, h0]⟩
  · exact ⟨_, cap, hv⟩
/-- what solverOf has made -/
def Sof (n : Nat) (LL : List (List Int)) (w w' : World) (c : Nat) (s : SV) : Prop := Slv w' c s ∧ Right n LL s ∧ w.grownBy w' none
def zeroSV (n : Nat) (u : Value) (Ss : List Nat) : SV := ⟨n, u, Ss, fun _ => 0, fun _ => 0⟩
set_option maxRecDepth 100000 in
theorem zero_cells (n : Nat) (u : Value) (Ss : List Nat) : (Tryd.zeroCells100.setIfInBounds 0 (.int .i64 (n : Int))).setIfInBounds 1 u = (zeroSV n u Ss).cells.toArray := by kernel_rfl
/-- the solver on its way: k clauses laid out, of the next the places ahead of q -/
structure Way (n : Nat) (Ss : List Nat) (u : Value) (w wr : World) (c k q : Nat) (s : SV) : Prop where
  sl : Slv wr c s
  sn : s.n = n
  sv : s.V = u
  ss : s.Ss = Ss
  got : Got n Ss k q s
  g : w.grownBy wr none
  hc : w.heap.size ≤ c
theorem Way.start {n : Nat} {Ss : List Nat} {u : Value} {w w1 W0 : World} (hm : Ss.length ≤ 120) (g : w.grownBy w1 none) (ho : w1.ownsRow w.heap.size 59 1 u Ss.length (words Ss))
    (hW : W0 = w1.alloc (.cells ((Tryd.zeroCells100.setIfInBounds 0 (.int .i64 (n : Int))).setIfInBounds 1 u) 100)) : Way n Ss u w W0 w1.heap.size 0 0 (zeroSV n u Ss) := by
  rw [zero_cells n u Ss] at hW
  subst hW
  refine ⟨⟨?_, (css.own_mono ho (Nat.zero_le _)).alloc _, hm, fun _ => Nat.two_pow_pos _, fun _ => Nat.two_pow_pos _⟩, rfl, rfl, rfl, Got.start (fun _ => rfl) (fun _ => rfl), grown_trans g (World.grownBy_alloc _ _ _), g.size⟩
  show (w1.heap.push _)[w1.heap.size]? = _
  rw [Array.getElem?_push, if_pos rfl]
theorem Way.own {n : Nat} {Ss : List Nat} {u : Value} {w wr : World} {c k q : Nat} {s : SV} (h : Way n Ss u w wr c k q s) : s.V.ownBlock ≠ some c := by
  rcases row_nec h.sl.cl h.sl.blk (by decide) with e | e
  · rw [e]; exact fun z => by cases z
  · exact e
theorem or_lt {X i m : Nat} (h : X < 2 ^ m) (hi : i < m) : X ||| 2 ^ i < 2 ^ m := Nat.or_lt_two_pow h (Nat.pow_lt_pow_right (by decide) hi)
theorem Way.kept {n : Nat} {Ss : List Nat} {u : Value} {w wr w' : World} {c k q : Nat} {s : SV} (h : Way n Ss u w wr c k q s) (g : wr.grownBy w' none) : Way n Ss u w w' c k q s :=
  ⟨h.sl.kept g, h.sn, h.sv, h.ss, h.got, grown_trans h.g g, h.hc⟩
theorem Way.put {n : Nat} {Ss : List Nat} {u : Value} {w wr : World} {c k q t : Nat} {s : SV} (h : Way n Ss u w wr c k q s) (hk : k < Ss.length) (ht : t < 48) (hq : q ≤ t) (hn : ∀ b, q ≤ b → b < t → (Ss.getD k 0).testBit b = false) (hb : (Ss.getD k 0).testBit t = true) :
    Way n Ss u w ((wr.setCell ⟨c, 2 + t * 2, none⟩ (.int .u64 (lo (s.H t ||| 2 ^ k) : Int))).setCell ⟨c, 2 + t * 2 + 1, none⟩ (.int .u64 (hi (s.H t ||| 2 ^ k) : Int))) c k (t + 1) (setH s t (s.H t ||| 2 ^ k)) := by
  have h1 := h.ss
  rw [Nat.mul_comm t 2]
  exact ⟨Slv.setH h.sl ht (or_lt (h.sl.h t) (by rw [h1]; exact hk)) h.own, h.sn, h.sv, h1, h.got.step hq hn hb, cu.grow1 h.g (grown_set2 _ _ _ _ _) h.hc, h.hc⟩
theorem Way.fin {n : Nat} {Ss : List Nat} {u : Value} {w wr : World} {c k q v : Nat} {s : SV} (h : Way n Ss u w wr c k q s) (hk : k < Ss.length) (hv : v < 25) (hq : ∀ b, (Ss.getD k 0).testBit b = true → b < q) (hu : ∀ b, (Ss.getD k 0).testBit b = true → b / 2 < v) (hn : v ≤ n) :
    Way n Ss u w ((wr.setCell ⟨c, 98 + v * 2, none⟩ (.int .u64 (lo (s.E v ||| 2 ^ k) : Int))).setCell ⟨c, 98 + v * 2 + 1, none⟩ (.int .u64 (hi (s.E v ||| 2 ^ k) : Int))) c (k + 1) 0 (setE s v (s.E v ||| 2 ^ k)) := by
  have h1 := h.ss
  rw [Nat.mul_comm v 2]
  exact ⟨Slv.setE h.sl hv (or_lt (h.sl.e v) (by rw [h1]; exact hk)) h.own, h.sn, h.sv, h1, h.got.fin hq hu hn, cu.grow1 h.g (grown_set2 _ _ _ _ _) h.hc, h.hc⟩
/-- what is left of a clause's word -/
structure Rst (n S T q e : Nat) : Prop where
  b : ∀ i, T.testBit i = (S.testBit i && decide (q ≤ i))
  lt : T < 2 ^ 48
  q48 : q ≤ 48
  e1 : ∀ i, i < q → S.testBit i = true → i / 2 < e
  en : e ≤ n
theorem Rst.next {n S T q e : Nat} (h : Rst n S T q e) (h0 : 0 < T) (hn : ∀ b, S.testBit b = true → b / 2 < n) :
    ∃ t, t = Lib.ctz 64 T ∧ t < 48 ∧ q ≤ t ∧ (∀ b, q ≤ b → b < t → S.testBit b = false) ∧ S.testBit t = true ∧ Rst n S (T &&& (T - 1)) (t + 1) (t / 2 + 1) := by
  obtain ⟨t, m, et, ht, es⟩ := srt.low h0 h.lt
  have hbt : S.testBit t = true ∧ q ≤ t := by
    have h1 := h.b t
    rw [es, srt.low_bit, if_pos (by omega), decide_eq_true rfl] at h1
    have h2 := Bool.and_eq_true_iff.1 h1.symm
    exact ⟨h2.1, of_decide_eq_true h2.2⟩
  refine ⟨t, et, ht, hbt.2, fun i h1 h2 => ?_, hbt.1, fun i => ?_, ?_, ht, fun i h1 h2 => by omega, ?_⟩
  · have h3 := h.b i
    rw [es, srt.low_bit, if_pos (by omega), decide_eq_false (by omega), decide_eq_true h1, Bool.and_true] at h3
    exact h3.symm
  · rw [srt.next_bit es, h.b i]
    by_cases h1 : t + 1 ≤ i
    · rw [decide_eq_true h1, decide_eq_true (p := q ≤ i) (by omega), Bool.and_true]
    · rw [decide_eq_false h1, Bool.and_false, Bool.and_false]
  · exact Nat.lt_of_le_of_lt Nat.and_le_left h.lt
  · have := hn t hbt.1
    omega
theorem Rst.done {n S q e : Nat} (h : Rst n S 0 q e) : (∀ b, S.testBit b = true → b < q) ∧ ∀ b, S.testBit b = true → b / 2 < e := by
  have a : ∀ b, S.testBit b = true → b < q := fun b hb => by
    have := h.b b
    rw [Nat.zero_testBit, hb, Bool.true_and] at this
    have := of_decide_eq_false this.symm
    omega
  exact ⟨a, fun b hb => h.e1 b (a b hb) hb⟩
set_option maxRecDepth 100000 in
set_option maxHeartbeats 8000000 in
theorem solverOf (v : Value) (n : Nat) (LL : List (List Int)) (w : World) (hT : Tab w) (h24 : n ≤ 24) (hm : LL.length ≤ 120) (ht : tot LL ≤ 1048576) (hl : ∀ c ∈ LL, ∀ x ∈ c, ok.litIn (n : Int) x = true) (hv : Sls w v LL) :
    Calls Tryd.prog 53 #[.agg #[.int .i64 (n : Int), v]] w fun e w' => ∃ c s, e = .returned (.pointer (some ⟨c, 0, none⟩)) ∧ Sof n LL w w' c s := by
  have gA := World.grownBy_alloc w (.cells #[.int .i64 (n : Int), v] 26) none
  have CS := hide (fun (w1 : World) (g : w.grownBy w1 none) => su.setsOf v LL w1 ht (hv.kept g))
  have HT := hide hT
  obtain ⟨va, vc, rfl, _⟩ := hv
  have GX := hide (grown_trans (r := none) gA (cf.grown_drew (w.alloc (.cells #[.int .i64 (n : Int), .slice va LL.length vc] 26)) none))
  clear hT
  go_enter Tryd.func53, Tryd.ntmps53
  go_wp2_with fail
  have q0 : (w.alloc (.cells #[.int .i64 (n : Int), .slice va LL.length vc] 26)).cell? ⟨w.heap.size, 0, none⟩ = some (.int .i64 (n : Int)) := by simp
  have q1 : (w.alloc (.cells #[.int .i64 (n : Int), .slice va LL.length vc] 26)).cell? ⟨w.heap.size, 1, none⟩ = some (.slice va LL.length vc) := by simp
  go_region_held3 (fun w' => w'.cell? ⟨w.heap.size, 0, none⟩ = some (.int .i64 (n : Int)) ∧ w'.cell? ⟨w.heap.size, 1, none⟩ = some (.slice va LL.length vc)) (go_keep) (first | (go_at_call 49; refine (unhide CS _ (unhide GX)).mono ?_; rintro e w1 ⟨u, rfl, m1⟩; obtain ⟨ua, uc, rfl⟩ := row_form m1.1; have M1 := hide m1; have c2 := m1.2.cell q0 (fun e => by cases e); have c3 := m1.2.cell q1 (fun e => by cases e); clear m1))
  have wy : Way n (LL.map setOf) (.slice ua LL.length uc) w (w1.alloc (.cells ((Tryd.zeroCells100.setIfInBounds 0 (.int .i64 (n : Int))).setIfInBounds 1 (.slice ua LL.length uc)) 100)) w1.heap.size 0 0 (zeroSV n (.slice ua LL.length uc) (LL.map setOf)) := by
    have m := unhide M1
    have e : (LL.map setOf).length = LL.length := List.length_map ..
    rw [e] at m
    refine Way.start (by rw [e]; exact hm) (grown_trans (unhide GX) m.2) ?_ rfl
    rw [e]
    exact css.own_mono (by have := m.1; rw [e] at this; exact this) (unhide GX).size
  generalize hcW : w1.heap.size = c at *
  generalize hW0 : w1.alloc (.cells ((Tryd.zeroCells100.setIfInBounds 0 (.int .i64 (n : Int))).setIfInBounds 1 (.slice ua LL.length uc)) 100) = W0 at *
  clear hcW hW0 M1 c2 c3 q0 q1 gA GX CS
  have x1 : W0.cell? ⟨c, 1, none⟩ = some (.slice ua LL.length uc) := wy.sl.cell (k := 1) (by decide)
  have st := hide wy
  clear wy
  have HL : Hid (∀ k, k < LL.length → ∀ b, ((LL.map setOf).getD k 0).testBit b = true → b / 2 < n) := by
    intro k hk b hb
    have e : (LL.map setOf).getD k 0 = setOf LL[k] := by simp [hk]
    rw [e] at hb
    obtain ⟨x, hx, ho, rfl⟩ := km.set_lit hb
    exact km.place_div h24 (hl _ (List.getElem_mem hk) x hx)
  have HS : Hid (∀ k, k < LL.length → (LL.map setOf).getD k 0 < 2 ^ 48) := by
    intro k hk
    have e : (LL.map setOf).getD k 0 = setOf LL[k] := by simp [hk]
    rw [e]
    exact setOf_lt _
  have HR := hide (fun (wr : World) (s : SV) (h : Way n (LL.map setOf) (.slice ua LL.length uc) w wr c LL.length 0 s) => (⟨h.sl, Got.right (LL := LL) h24 h.sn h.ss (by have g := h.got; rw [← h.ss] at g; rw [h.ss, List.length_map, ← h.ss]; exact g) hl, h.g⟩ : Sof n LL w wr c s))
  have HLE : Hid ((LL.map setOf).length = LL.length) := List.length_map ..
  clear hl ht
  generalize LL.map setOf = Ss at *
  go_wp2_with fail
  clear x1
  go_loopw [20] (fun iv wr => ∃ (k : Nat) (s : SV), k ≤ LL.length ∧ iv = .int .i64 (k : Int) ∧ Hid (Way n Ss (.slice ua LL.length uc) w wr c k 0 s)) (fun iv _ => LL.length - (intOf iv).toNat)
  case atStart => exact ⟨0, _, Nat.zero_le _, rfl, st⟩
  case round =>
    obtain ⟨k, s, hk, rfl, hw⟩ := hrel
    clear st
    by_cases hlt : k < LL.length
    · have ww := unhide hw
      have e1 := ww.ss
      have e2 := unhide HLE
      obtain ⟨g, cap, hV, hcl⟩ := kd.row_at ww.sl (i := k) (by rw [e1, e2]; exact hlt)
      rw [ww.sv] at hV
      rw [Value.slice.injEq] at hV
      obtain ⟨rfl, hz, rfl⟩ := hV
      clear hz
      rw [e1] at hcl
      have hi' : (k : Int) < (LL.length : Int) := by omega
      have hSl := unhide HS k hlt
      have hSn := unhide HL k hlt
      have hkS : k < Ss.length := by rw [e2]; exact hlt
      have r0 : Hid (Rst n (Ss.getD k 0) (Ss.getD k 0) 0 0) := ⟨fun i => by simp, hSl, by omega, fun i h => by omega, Nat.zero_le _⟩
      have HSN := hide hSn
      clear hSn ww e1 e2
      generalize hS : Ss.getD k 0 = S at *
      go_wp2_with fail
      go_loopw [5, 6] (fun cv ev w2 => ∃ (T q e : Nat) (s2 : SV), cv = .int .u64 (T : Int) ∧ ev = .int .i64 (e : Int) ∧ Hid (Rst n S T q e) ∧ Hid (Way n Ss (.slice (some ⟨g, 0, none⟩) LL.length uc) w w2 c k q s2)) (fun cv _ _ => (intOf cv).toNat)
      case atStart => exact ⟨S, 0, 0, s, rfl, rfl, r0, hw⟩
      case round =>
        obtain ⟨T, q, e, s2, rfl, rfl, hr, hw2⟩ := hrel
        clear r0 hcl hw
        by_cases h0 : T = 0
        · subst h0
          have rr := unhide hr
          have w2' := unhide hw2
          have he : e < 25 := by have := rr.en; omega
          have hc0 := w2'.sl.cell (k := 98 + e * 2) (by omega)
          have hc1 := w2'.sl.cell (k := 98 + e * 2 + 1) (by omega)
          rw [Nat.mul_comm, atE0 _ he] at hc0
          rw [Nat.mul_comm, atE1 _ he] at hc1
          rw [Nat.mul_comm] at hc0 hc1
          have hf0 := Slv.fz w2'.sl (98 + e * 2)
          have hf1 := Slv.fz w2'.sl (98 + e * 2 + 1)
          have hElt := kd.lt128 (w2'.sl.e e) w2'.sl.m
          have FIN := hide (fun (w3 : World) (gg : wr.grownBy w3 none) => (w2'.kept gg).fin hkS he (by rw [hS]; exact rr.done.1) (by rw [hS]; exact rr.done.2) rr.en)
          have CK := hide (fun (w3 : World) (gg : wr.grownBy w3 none) => And.intro (gg.cell hc0 (fun e => by cases e)) (And.intro (gg.cell hc1 (fun e => by cases e)) (And.intro (Slv.fz (w2'.kept gg).sl (98 + e * 2)) (Slv.fz (w2'.kept gg).sl (98 + e * 2 + 1)))))
          have CW := hide (fun w3 => kc.with_ (s2.E e) k w3 hElt (by omega))
          have hei : (e : Int) < 25 := by omega
          unfold kc.cset at CW
          clear rr w2'
          go_wp2_with fail
          have GX := hide (cf.grown_drew wr none)
          go_region_with (first
            | (go_at_call 92; refine (unhide CW _).mono ?_; rintro e w8 ⟨rfl, g8⟩; replace GX := hide (grown_trans (r := none) (unhide GX) g8); obtain ⟨k1, k2, k3, k4⟩ := unhide CK _ (unhide GX); have F8 := hide (unhide FIN _ (unhide GX)); clear g8))
          all_goals
            go_wp2_with fail
            go_roundw
            case rel => exact ⟨k + 1, _, by omega, by go_num, unhide F8⟩
            case measure => simp [intOf]; omega
        · have rr := unhide hr
          have w2' := unhide hw2
          obtain ⟨t, et, ht, hqt, hnb, hbt, hnx⟩ := rr.next (by omega) (unhide HSN)
          have cfi := srt.first T wr ((unhide HT).kept w2'.g) (by omega) rr.lt
          unfold fstI at cfi
          rw [← et] at cfi
          obtain ⟨l1, l2, l3⟩ := lit_place ht
          have lb := srt.litI_bd t ht
          have CP := (fun w3 => bset.placeC (litI t) w3 l1)
          rw [l2] at CP
          have CV := (fun w3 => lits.litVariable (litI t) w3 lb.1 lb.2)
          rw [l3] at CV
          have hc0 := w2'.sl.cell (k := 2 + t * 2) (by omega)
          have hc1 := w2'.sl.cell (k := 2 + t * 2 + 1) (by omega)
          rw [Nat.mul_comm, atH0 _ ht] at hc0
          rw [Nat.mul_comm, atH1 _ ht] at hc1
          rw [Nat.mul_comm] at hc0 hc1
          have hHlt := kd.lt128 (w2'.sl.h t) w2'.sl.m
          have FIN := hide (fun (w3 : World) (gg : wr.grownBy w3 none) => (w2'.kept gg).put hkS ht hqt (by rw [hS]; exact hnb) (by rw [hS]; exact hbt))
          have CK := hide (fun (w3 : World) (gg : wr.grownBy w3 none) => And.intro (gg.cell hc0 (fun e => by cases e)) (And.intro (gg.cell hc1 (fun e => by cases e)) (And.intro (Slv.fz (w2'.kept gg).sl (2 + t * 2)) (Slv.fz (w2'.kept gg).sl (2 + t * 2 + 1)))))
          have CW := hide (fun w3 => kc.with_ (s2.H t) k w3 hHlt (by omega))
          unfold kc.cset at CW
          have hti : (t : Int) < 48 := by omega
          have EA := hide (srt.and_pred T (by omega) rr.lt)
          have NS := hide (srt.next_lt (s := T) (by omega))
          have hne : ((T : Int) != 0) = true := by simp; omega
          have hT1 : 1 ≤ T := by omega
          have CF := hide cfi
          have CP' := hide (fun w3 => toGrown (CP w3))
          have CV' := hide CV
          have HNX := hide hnx
          have hT64 : (T : Int) < 18446744073709551616 := by have := rr.lt; omega
          clear cfi CP CV hnx hbt hnb l1 l2 l3 lb rr w2' et h0 hqt hr
          generalize litI t = y at *
          go_wp2_with fail
          refine (unhide CF).mono ?_
          rintro e w3 ⟨rfl, hw⟩
          have hw' := hw.symm
          clear hw
          subst hw'
          go_wp2_with fail
          have GX := hide (cf.grown_drew wr none)
          go_region_with (first
            | (go_at_call 91; refine (unhide CP' _).mono ?_; rintro e w8 ⟨rfl, g8⟩; replace GX := hide (grown_trans (r := none) (unhide GX) g8); obtain ⟨k1, k2, k3, k4⟩ := unhide CK _ (unhide GX); clear g8)
            | (go_at_call 92; refine (unhide CW _).mono ?_; rintro e w8 ⟨rfl, g8⟩; replace GX := hide (grown_trans (r := none) (unhide GX) g8); obtain ⟨k1, k2, k3, k4⟩ := unhide CK _ (unhide GX); have F8 := hide (unhide FIN _ (unhide GX)); clear g8))
          all_goals
            go_wp2_with fail
            refine (unhide CV' _).mono ?_
            rintro e w9 ⟨rfl, hw⟩
            have hw' := hw.symm
            clear hw
            subst hw'
            go_wp2_with fail
            go_roundw
            case rel => exact ⟨T &&& (T - 1), t + 1, t / 2 + 1, _, by rw [unhide EA], rfl, unhide HNX, unhide F8⟩
            case measure => rw [unhide EA]; have := unhide NS; simp [intOf]; omega
    · have hk' : k = LL.length := by omega
      subst hk'
      have R := hide (unhide HR _ _ (unhide hw))
      clear hw HR HL HS HLE
      go_wp2_with fail
      go_ret
      exact ⟨c, s, rfl, unhide R⟩
end Go.Proofs.YtapkckfgbimmcaaDoor.ks
namespace Go.Proofs.YtapkckfgbimmcaaDoor.ks
open Go.ChangeShapes Go.WideShapes Go.ChangeAt Go.RowKit
open Go.Proofs.YtapkckfgbimmcaaDoor.kd (SV Slv)
open Go.Proofs.YtapkckfgbimmcaaDoor.km (left_ plc wdB)
open Go.Proofs.YtapkckfgbimmcaaDoor.lq (Bits holds)
open Go.Proofs.YtapkckfgbimmcaaDoor.srt (Tab)
open Go.Proofs.YtapkckfgbimmcaaDoor.lits (okB)
open Go.Proofs.YtapkckfgbimmcaaDoor.bset (setOf setOf_lt placeN)
open Go.Proofs.YtapkckfgbimmcaaDoor.wo (Made)
open Go.Proofs.YtapkckfgbimmcaaDoor.sl (Sl ints hide unhide grown_refl grown_trans own_stored ints_length)
set_option linter.unusedVariables false
theorem part_skip (L : List Int) (k : Nat) (h : k < L.length) (h0 : L.getD k 0 = 0) : sl.part L (k + 1) = sl.part L k := by
  have e : L[k] = 0 := by rw [List.getD_eq_getElem?_getD, List.getElem?_eq_getElem h] at h0; exact h0
  unfold sl.part
  rw [List.take_succ_eq_append_getElem h, e, show L.length - k = (L.length - (k + 1)) + 1 by omega, List.replicate_succ, List.append_assoc]
  rfl
theorem left_bits {n : Nat} {LL : List (List Int)} {a l : List Int} (h : left_ n LL a [] = some l) : Bits n l := by
  unfold km.left_ at h
  exact (lq.lst_some h).1
theorem word_at {l : List Int} {P k : Nat} (h : Word l P) (hk : k < l.length) : P.testBit (2 * k) = decide (l.getD k 0 = 1) := by
  rw [h.2, wdB, show 2 * k / 2 = k by omega, decide_eq_true hk, Bool.true_and, decide_eq_decide]
  unfold km.plc
  split
  · rename_i e; exact ⟨fun _ => e, fun _ => rfl⟩
  · rename_i e; constructor
    · intro z; omega
    · intro z; exact absurd z e
set_option maxRecDepth 100000 in
set_option maxHeartbeats 4000000 in
theorem leastAssignment (n : Nat) (LL : List (List Int)) (a : List Int) (s : SV) (c : Nat) (hR : Right n LL s) (ha : ∀ x ∈ a, ok.litIn (n : Int) x = true) (w : World) (hS : Slv w c s) (hT : Tab w) :
    Calls Tryd.prog 54 #[.pointer (some ⟨c, 0, none⟩), .int .u64 (setOf a : Int)] w fun e w' => lq.FromE w (left_ n LL a []) e w' := by
  have C := hide (callsIn_wide.1 (least n LL a s c 0 hR ha w hS hT))
  have HS := hide hS
  have HR := hide hR
  obtain ⟨i0, hi, hz0, hz1, hz2⟩ := info_parts sl.info3
  have h24 := hR.n24
  clear hS hT hR ha
  go_enter Tryd.func54, Tryd.ntmps54
  go_wp2_with fail
  refine (unhide C).mono ?_
  rintro e w1 ⟨g1, ⟨hN, rfl⟩ | ⟨l, P, hN, hW, hh, rfl⟩⟩
  · have G1 := hide g1
    have HN := hide hN
    clear g1 hN
    go_wp2_with fail
    go_ret2
    rw [unhide HN]
    exact ⟨_, rfl, World.ownsRow_lit w1 #[] 0 (unhide G1).size (Nat.zero_le _) rfl, grown_trans (unhide G1) (World.grownBy_alloc _ _ _)⟩
  · have hb := left_bits hN
    have hl := hb.1
    have HN := hide hN
    have x0 := ((unhide HS).kept g1).cell (k := 0) (by decide)
    rw [kd.at0, (unhide HR).sn] at x0
    have G1 := hide g1
    have HW := hide hW
    have hP := hW.1
    have HBT := hide hb.2
    subst hl
    have Z : Hid (∀ w' : World, w'.ownsRow w1.heap.size 3 1 (.slice (some ⟨w1.heap.size, 0, none⟩) l.length l.length) l.length (madeCells #[Value.int .i64 0] l.length).toList → w'.ownsRow w1.heap.size 3 1 (.slice (some ⟨w1.heap.size, 0, none⟩) l.length l.length) l.length (ints (sl.part l 0))) := by
      intro w' h
      have e : (madeCells #[Value.int .i64 0] l.length).toList = ints (sl.part l 0) := by
        rw [sl.part_zero, toList_madeCells_one]
        simp [ints]
      rw [e] at h
      exact h
    clear g1 hN hW hh hb C HS HR
    go_wp2_with (first | (at_make; refine wpList_make_full _ rfl _ _ 28 rfl w1.heap.size 3 i0 (.int .i64 0) 1 Tryd.underlying28 hi hz0 hz1 _ _ _ _ l.length rfl rfl (by rfl) (by rfl) ?b1 ?b2 ?b3 ?_))
    case b1 => rw [hz2]; omega
    case b2 => unfold maxLen; omega
    case b3 => exact Nat.le_refl _
    intro w2 hown hgrow
    have O := hide (unhide Z w2 hown)
    have G := hide hgrow
    clear hown hgrow Z x0
    go_wp2_with fail
    go_loopw [26] (fun i wr => ∃ k : Nat, k ≤ l.length ∧ i = .int .i64 k ∧ wr.ownsRow w1.heap.size 3 1 (.slice (some ⟨w1.heap.size, 0, none⟩) l.length l.length) l.length (ints (sl.part l k)) ∧ w1.grownBy wr none) (fun i _ => l.length - (intOf i).toNat)
    case atStart => exact ⟨0, Nat.zero_le _, rfl, unhide O, unhide G⟩
    case round =>
      obtain ⟨k, hk, rfl, hown, hg⟩ := hrel
      by_cases hlt : k < l.length
      · have c2 : wr.cell? ⟨w1.heap.size, k, none⟩ = (ints (sl.part l k))[k]? := hown.cellAt k (by omega)
        obtain ⟨x, hx⟩ : ∃ x, (ints (sl.part l k))[k]? = some x := ⟨_, List.getElem?_eq_getElem (by rw [ints_length, sl.part_length _ _ hk]; exact hlt)⟩
        rw [hx] at c2
        have c3 : wr.frozen? ⟨w1.heap.size, k, none⟩ = false := hown.frozenAt k
        have hi' : (k : Int) < (l.length : Int) := by omega
        have hw := word_at (unhide HW) hlt
        have hpl := srt.place_pos k (by omega)
        have CH := fun w' => bset.hasC P ((k : Int) + 1) w' hP hpl.1
        rw [hpl.2, hw] at CH
        by_cases hv : l.getD k 0 = 1
        · rw [decide_eq_true hv] at CH
          have O' := hide (own_stored l.length (sl.part_length l k hk) (sl.part_length l (k + 1) hlt) hown k 1 (by rw [← hv]; exact sl.part_set l k hlt))
          have G' : Hid (w1.grownBy (wr.setCell ⟨w1.heap.size, k, none⟩ (.int .i64 1)) none) := ⟨hg.os, hg.tape, hg.output, by simpa [World.setCell] using hg.size, fun j hj _ => (Below.heap_setCell _ _ _ _ (by show j ≠ w1.heap.size; omega)).trans (hg.block j hj (fun e => by cases e))⟩
          have CH' := hide CH
          clear hown hg hx O G hv hw CH
          go_wp2_with fail
          refine (unhide CH' _).mono ?_
          rintro e w3 ⟨rfl, hw⟩
          have hw' := hw.symm
          clear hw
          subst hw'
          go_wp2_with fail
          go_roundw
          case rel => exact ⟨k + 1, by omega, by go_num, unhide O', unhide G'⟩
          case measure => simp [intOf]; omega
        · rw [decide_eq_false hv] at CH
          have hv0 : l.getD k 0 = 0 := by
            have hm : l.getD k 0 ∈ l := by
              rw [List.getD_eq_getElem?_getD, List.getElem?_eq_getElem hlt]
              exact List.getElem_mem hlt
            rcases unhide HBT _ hm with z | z
            · exact z
            · exact absurd z hv
          rw [← part_skip l k hlt hv0] at hown
          have O' := hide hown
          have G' := hide hg
          have CH' := hide CH
          clear hown hg hx O G hv hw CH hv0
          go_wp2_with fail
          refine (unhide CH' _).mono ?_
          rintro e w3 ⟨rfl, hw⟩
          have hw' := hw.symm
          clear hw
          subst hw'
          go_wp2_with fail
          go_roundw
          case rel => exact ⟨k + 1, by omega, by go_num, unhide O', unhide G'⟩
          case measure => simp [intOf]; omega
      · have hk' : k = l.length := by omega
        subst hk'
        have O' := hide hown
        have G' := hide hg
        clear hown hg O G
        go_wp2_with fail
        go_ret2
        rw [unhide HN]
        refine ⟨_, rfl, ?_, grown_trans (unhide G1) (unhide G')⟩
        have o := unhide O'
        rw [sl.part_all] at o
        exact css.own_mono o (unhide G1).size
end Go.Proofs.YtapkckfgbimmcaaDoor.ks
namespace Go.Proofs.YtapkckfgbimmcaaDoor.ks
open Go.ChangeShapes Go.WideShapes Go.ChangeAt Go.RowKit
open Go.Proofs.YtapkckfgbimmcaaDoor.kd (SV Slv)
open Go.Proofs.YtapkckfgbimmcaaDoor.km (left_)
open Go.Proofs.YtapkckfgbimmcaaDoor.lq (solveL FromE lits_in solve_no made_sub)
open Go.Proofs.YtapkckfgbimmcaaDoor.srt (Tab)
open Go.Proofs.YtapkckfgbimmcaaDoor.bset (setOf setOf_lt)
open Go.Proofs.YtapkckfgbimmcaaDoor.css (Sls tot)
open Go.Proofs.YtapkckfgbimmcaaDoor.cf (Box)
open Go.Proofs.YtapkckfgbimmcaaDoor.ok (cnfB litIn)
open Go.Proofs.YtapkckfgbimmcaaDoor.wo (Made)
open Go.Proofs.YtapkckfgbimmcaaDoor.sl (Sl ints hide unhide grown_refl grown_trans)
set_option linter.unusedVariables false
theorem cnf_parts {n : Int} {LL : List (List Int)} (h : cnfB n LL = true) : ∃ m : Nat, n = (m : Int) ∧ m ≤ 24 ∧ LL.length ≤ 120 := by
  unfold ok.cnfB at h
  rw [Bool.and_eq_true, Bool.and_eq_true, decide_eq_true_iff, decide_eq_true_iff] at h
  obtain ⟨m, rfl⟩ := Int.eq_ofNat_of_zero_le h.1.1.1
  exact ⟨m, rfl, by omega, h.1.2⟩
theorem solve_yes {m : Nat} {LL : List (List Int)} {a : List Int} (hc : cnfB (m : Int) LL = true) (hl : a.all (litIn (m : Int)) = true) : solveL (m : Int) LL a = left_ m LL a [] := by
  unfold lq.solveL
  rw [hc, hl]
  rfl
set_option maxRecDepth 100000 in
set_option maxHeartbeats 4000000 in
theorem implSolveWith (v u : Value) (n : Int) (LL : List (List Int)) (a : List Int) (w : World) (hT : Tab w) (hn : tot LL ≤ 1048576) (ha : a.length ≤ 1048576) (hv : Sls w v LL) (hu : Sl w u a) :
    Calls Tryd.prog 20 #[.agg #[.int .i64 n, v], u] w fun e w' => FromE w (solveL n LL a) e w' := by
  obtain ⟨O, hO⟩ : ∃ O, solveL n LL a = O := ⟨_, rfl⟩
  rw [hO]
  have HO := hide hO
  clear hO
  have g0 := World.grownBy_alloc w (.cells #[.int .i64 n, v] 26) none
  have C1 := ok.implCnfOk v n LL _ hn (hv.kept g0)
  have F0 := hide (Box.new 26 w (.int .i64 n) v)
  have HU := hide (hu.kept g0 (.inl rfl))
  have HV := hide (hv.kept g0)
  have HT := hide (hT.kept g0)
  have G0 := hide g0
  have x0 := (unhide F0).c0
  have x1 := (unhide F0).c1
  clear g0 hv hu hT
  cases hc : cnfB n LL
  · rw [hc] at C1
    have CC := hide C1
    have E := hide ((unhide HO).symm.trans (solve_no (n := n) (LL := LL) (a := a) (by rw [hc]; rfl)))
    clear C1 hc HV HU
    go_enter Tryd.func20, Tryd.ntmps20
    go_wp2_with fail
    refine (unhide CC).mono ?_; rintro e w1 ⟨rfl, g1⟩
    have G1 := hide (grown_trans (r := none) (unhide G0) g1)
    clear g1 CC x0 x1
    go_wp2_with fail
    go_ret2
    rw [unhide E]
    exact ⟨_, rfl, made_sub (unhide G1) (app.made_nil _)⟩
  rw [hc] at C1
  have CC := hide C1
  have HC := hide hc
  clear C1 hc
  go_enter Tryd.func20, Tryd.ntmps20
  go_wp2_with fail
  refine (unhide CC).mono ?_; rintro e w1 ⟨rfl, g1⟩
  have G1 := hide (grown_trans (r := none) (unhide G0) g1)
  have F1 := hide ((unhide F0).kept g1)
  have U1 := hide ((unhide HU).kept g1 (.inl rfl))
  have V1 := hide ((unhide HV).kept g1)
  have T1 := hide ((unhide HT).kept g1)
  have y0 := (unhide F1).c0
  have y1 := (unhide F1).c1
  have CL := ok.literalsOf u a n w1 ha (unhide U1)
  clear g1 CC x0 x1 G0 F0 HU HV HT
  cases hl : a.all (litIn n)
  · rw [hl] at CL
    have C2 := hide CL
    have E := hide ((unhide HO).symm.trans (solve_no (n := n) (LL := LL) (a := a) (by rw [hl, Bool.and_false])))
    clear CL hl V1 U1 HC
    go_wp2_with fail
    refine (unhide C2).mono ?_; rintro e w2 ⟨rfl, hw⟩; have hw' := hw.symm; clear hw; subst hw'
    go_wp2_with fail
    go_ret2
    rw [unhide E]
    exact ⟨_, rfl, made_sub (unhide G1) (app.made_nil _)⟩
  rw [hl] at CL
  have C2 := hide CL
  obtain ⟨m, rfl, h24, h120⟩ := cnf_parts (unhide HC)
  have E := (unhide HO).symm.trans (solve_yes (unhide HC) hl)
  subst E
  have HA : Hid (∀ x ∈ a, litIn (m : Int) x = true) := List.all_eq_true.1 hl
  have CS := hide (solverOf v m LL w1 (unhide T1) h24 h120 hn (lits_in (unhide HC)) (unhide V1))
  clear CL hl HO V1 F1
  go_wp2_with fail
  refine (unhide C2).mono ?_; rintro e w2 ⟨rfl, hw⟩; have hw' := hw.symm; clear hw; subst hw'
  go_wp2_with fail
  refine (unhide CS).mono ?_; rintro e w2 ⟨c, s, rfl, h1, h2, g2⟩
  have H1 := hide h1
  have H2 := hide h2
  have G2 := hide g2
  have CO := hide (bset.litsOf u a w2 ha ((unhide U1).kept g2 (.inl rfl)))
  have CB := hide (leastAssignment m LL a s c h2 (unhide HA) w2 h1 ((unhide T1).kept g2))
  clear h1 h2 g2 y0 y1 CS C2
  go_wp2_with fail
  refine (unhide CO).mono ?_; rintro e w3 ⟨rfl, hw⟩; have hw' := hw.symm; clear hw; subst hw'
  go_wp2_with fail
  refine (unhide CB).mono ?_; rintro e w3 ⟨r, rfl, m3⟩
  have M3 := hide m3
  clear m3 CB CO
  go_wp2_with fail
  go_ret2
  exact ⟨r, rfl, made_sub (grown_trans (unhide G1) (unhide G2)) (unhide M3)⟩
set_option maxRecDepth 100000 in
set_option maxHeartbeats 4000000 in
theorem implSolve (v : Value) (n : Int) (LL : List (List Int)) (w : World) (hT : Tab w) (hn : tot LL ≤ 1048576) (hv : Sls w v LL) :
    Calls Tryd.prog 14 #[.agg #[.int .i64 n, v]] w fun e w' => FromE w (solveL n LL []) e w' := by
  have g0 := World.grownBy_alloc w (.cells #[.int .i64 n, v] 26) none
  have F0 := hide (Box.new 26 w (.int .i64 n) v)
  have C := hide (implSolveWith v (.slice none 0 0) n LL [] _ (hT.kept g0) hn (Nat.zero_le _) (hv.kept g0) ⟨none, 0, rfl, .inl rfl⟩)
  have G0 := hide g0
  have x0 := (unhide F0).c0
  have x1 := (unhide F0).c1
  clear g0 hv hT
  go_enter Tryd.func14, Tryd.ntmps14
  go_wp2_with fail
  refine (unhide C).mono ?_; rintro e w3 ⟨r, rfl, m3⟩
  have M3 := hide m3
  clear m3 C
  go_wp2_with fail
  go_ret2
  exact ⟨r, rfl, made_sub (unhide G0) (unhide M3)⟩
end Go.Proofs.YtapkckfgbimmcaaDoor.ks
namespace Go.Proofs.YtapkckfgbimmcaaDoor.ks
open Go.Proofs.YtapkckfgbimmcaaDoor.lq (solveL FromE)
open Go.Proofs.YtapkckfgbimmcaaDoor.css (Sls tot)
open Go.Proofs.YtapkckfgbimmcaaDoor.sl (ints)
set_option linter.unusedVariables false
theorem solve_len (n : Int) (LL : List (List Int)) (a : List Int) : ((solveL n LL a).getD []).length ≤ 24 := by
  unfold lq.solveL
  split
  · rename_i h
    rw [Bool.and_eq_true] at h
    obtain ⟨m, rfl, h24, _⟩ := cnf_parts h.1
    cases e : lq.lst ((m : Int)).toNat (lq.holds LL a) with
    | none => exact Nat.zero_le _
    | some l =>
      have := (lq.lst_some e).1.1
      show l.length ≤ 24
      omega
  · exact Nat.zero_le _
theorem bothW (n : Int) (LL : List (List Int)) (L : List Int) (hn : tot LL ≤ 1048576) (hL : L.length ≤ 1048576) : ∃ (R : List Int) (b : Bool), R.length ≤ 1048576 ∧
    (∀ v u (lo hi : Nat) w, Sls w v LL → sl.Own lo hi w u L → Calls Tryd.prog 39 #[.agg #[.int .i64 n, v], u] w fun e w' => ∃ r, e = .returned (.tuple #[r, .bool b]) ∧ w'.ownsRow w.heap.size 3 1 r R.length (ints R) ∧ w.grownBy w' none) ∧
    (∀ v u (lo hi : Nat) w, srt.Tab w → Sls w v LL → sl.Own lo hi w u L → Calls Tryd.prog 20 #[.agg #[.int .i64 n, v], u] w fun e w' => ∃ r, e = .returned (.tuple #[r, .bool b]) ∧ w'.ownsRow w.heap.size 3 1 r R.length (ints R) ∧ w.grownBy w' none) :=
  ⟨_, _, Nat.le_trans (solve_len n LL L) (by omega), fun v u lo hi w h k => lq.specSolveWith v u n LL L lo hi w hn hL h k, fun v u lo hi w t h k => implSolveWith v u n LL L w t hn hL h k.sl⟩
theorem bothS (n : Int) (LL : List (List Int)) (hn : tot LL ≤ 1048576) : ∃ (R : List Int) (b : Bool), R.length ≤ 1048576 ∧
    (∀ v w, Sls w v LL → Calls Tryd.prog 15 #[.agg #[.int .i64 n, v]] w fun e w' => ∃ r, e = .returned (.tuple #[r, .bool b]) ∧ w'.ownsRow w.heap.size 3 1 r R.length (ints R) ∧ w.grownBy w' none) ∧
    (∀ v w, srt.Tab w → Sls w v LL → Calls Tryd.prog 14 #[.agg #[.int .i64 n, v]] w fun e w' => ∃ r, e = .returned (.tuple #[r, .bool b]) ∧ w'.ownsRow w.heap.size 3 1 r R.length (ints R) ∧ w.grownBy w' none) :=
  ⟨_, _, Nat.le_trans (solve_len n LL []) (by omega), fun v w h => lq.specSolve v n LL w hn h, fun v w t h => implSolve v n LL w t hn h⟩
end Go.Proofs.YtapkckfgbimmcaaDoor.ks
namespace Go.Proofs.YtapkckfgbimmcaaDoor.ks
open Go.Proofs.YtapkckfgbimmcaaDoor.lq (Bits holds solveL lst_none lst_some)
open Go.Proofs.YtapkckfgbimmcaaDoor.km (plc wdB left_)
open Go.Proofs.YtapkckfgbimmcaaDoor.srt (srt litI swp swp_swp)
open Go.Proofs.YtapkckfgbimmcaaDoor.bset (setOf placeN)
open Go.Proofs.YtapkckfgbimmcaaDoor.lits (okB)
open Go.Proofs.YtapkckfgbimmcaaDoor.ok (cnfB litIn)
set_option linter.unusedVariables false
/-- whether there is an answer with one literal -/
def can1 (n : Int) (LL : List (List Int)) (x : Int) : Bool := (solveL n LL [x]).isSome
def bbs (n : Int) (LL : List (List Int)) : Nat → List Int
  | 0 => []
  | k + 1 => (bbs n LL k ++ if can1 n LL (-((k : Int) + 1)) then [] else [(k : Int) + 1]) ++ if can1 n LL ((k : Int) + 1) then [] else [-((k : Int) + 1)]
/-- what Backbone answers -/
def backL (n : Int) (LL : List (List Int)) : List Int := if (solveL n LL []).isSome then bbs n LL n.toNat else []
theorem bbs_len (n : Int) (LL : List (List Int)) (k : Nat) : (bbs n LL k).length ≤ 2 * k := by
  induction k with
  | zero => exact Nat.zero_le _
  | succ k ih =>
    show ((bbs n LL k ++ if can1 n LL (-((k : Int) + 1)) then [] else [(k : Int) + 1]) ++ if can1 n LL ((k : Int) + 1) then [] else [-((k : Int) + 1)]).length ≤ _
    rw [List.length_append, List.length_append]
    have h1 : (if can1 n LL (-((k : Int) + 1)) then ([] : List Int) else [(k : Int) + 1]).length ≤ 1 := by split <;> simp
    have h2 : (if can1 n LL ((k : Int) + 1) then ([] : List Int) else [-((k : Int) + 1)]).length ≤ 1 := by split <;> simp
    omega
theorem back_len (n : Int) (LL : List (List Int)) : (backL n LL).length ≤ 48 := by
  unfold backL
  split
  · rename_i h
    unfold lq.solveL at h
    split at h
    · rename_i h2
      rw [Bool.and_eq_true] at h2
      obtain ⟨m, rfl, h24, _⟩ := cnf_parts h2.1
      have := bbs_len (m : Int) LL ((m : Int)).toNat
      omega
    · cases h
  · exact Nat.zero_le _
/-- the literal at place b is true at every answer -/
def Fo (n : Nat) (LL : List (List Int)) (b : Nat) : Prop := ∀ l, Bits n l → holds LL [] l = true → wdB l b = true
theorem lit_in {n b : Nat} (h24 : n ≤ 24) (h : b / 2 < n) : litIn (n : Int) (litI b) = true ∧ litIn (n : Int) (-(litI b)) = true ∧ placeN (-(litI b)) = swp b ∧ okB (-(litI b)) = true := by
  have key : ∀ x : Int, (x = ((b / 2 : Nat) : Int) + 1 ∨ x = -(((b / 2 : Nat) : Int) + 1)) → litIn (n : Int) x = true := by
    intro x hx
    have ho : okB x = true := by rw [lits.okB_iff]; omega
    unfold ok.litIn
    rw [ho, Bool.true_and, decide_eq_true_iff]
    unfold lits.varI
    rcases hx with h | h <;> (first | (split <;> omega) | omega)
  rcases Nat.mod_two_eq_zero_or_one b with e | e
  · have eb : b = 2 * (b / 2) := by omega
    have el : litI b = ((b / 2 : Nat) : Int) + 1 := by rw [eb, srt.litI_even]; congr 2; omega
    have hp := srt.place_neg (b / 2) (by omega)
    rw [el]
    refine ⟨key _ (.inl rfl), key _ (.inr rfl), ?_, hp.1⟩
    rw [hp.2]
    unfold srt.swp
    split <;> omega
  · have eb : b = 2 * (b / 2) + 1 := by omega
    have el : litI b = -(((b / 2 : Nat) : Int) + 1) := by rw [eb, srt.litI_odd]; congr 3; omega
    have hp := srt.place_pos (b / 2) (by omega)
    rw [el, Int.neg_neg]
    refine ⟨key _ (.inr rfl), key _ (.inl rfl), ?_, hp.1⟩
    rw [hp.2]
    unfold srt.swp
    split <;> omega
theorem holds_one {LL : List (List Int)} {x : Int} {l : List Int} : holds LL [x] l = (holds LL [] l && tr.litT l x) := by
  unfold lq.holds
  simp
theorem can_iff {n : Nat} {LL : List (List Int)} {b : Nat} (h24 : n ≤ 24) (hc : cnfB (n : Int) LL = true) (hb : b / 2 < n) : can1 (n : Int) LL (-(litI b)) = false ↔ Fo n LL b := by
  obtain ⟨i1, i2, i3, i4⟩ := lit_in h24 hb
  unfold can1
  rw [solve_yes hc (by simp [i2]), Option.isSome_eq_false_iff, Option.isNone_iff_eq_none]
  show lq.lst n _ = none ↔ _
  rw [lst_none]
  constructor
  · intro h l hl hh
    have h1 := h l hl
    rw [show ([] : List Int) ++ l = l from rfl, holds_one, hh, Bool.true_and, ← km.wd_lit hl h24 i2, i3] at h1
    rcases km.wd_some hl.2 (b := b) (by rw [hl.1]; exact hb) with z | z
    · exact z
    · rw [h1] at z; cases z
  · intro h l hl
    rw [show ([] : List Int) ++ l = l from rfl, holds_one]
    cases hh : holds LL [] l with
    | false => rfl
    | true =>
      rw [Bool.true_and, ← km.wd_lit hl h24 i2, i3]
      exact km.wd_one hl.2 (h l hl hh)
theorem srt_back {n : Nat} {LL : List (List Int)} {C : Nat} (h24 : n ≤ 24) (hc : cnfB (n : Int) LL = true) (hC : ∀ b, C.testBit b = true ↔ b / 2 < n ∧ Fo n LL b) : srt C 48 = bbs (n : Int) LL n := by
  have e : ∀ k, k ≤ n → srt C (2 * k) = bbs (n : Int) LL k := by
    intro k
    induction k with
    | zero => intro _; rfl
    | succ k ih =>
      intro hk
      show srt C (2 * k + 1 + 1) = (bbs (n : Int) LL k ++ if can1 (n : Int) LL (-((k : Int) + 1)) then [] else [(k : Int) + 1]) ++ if can1 (n : Int) LL ((k : Int) + 1) then [] else [-((k : Int) + 1)]
      rw [← ih (by omega)]
      have c0 := can_iff (LL := LL) (b := 2 * k) h24 hc (by omega)
      have c1 := can_iff (LL := LL) (b := 2 * k + 1) h24 hc (by omega)
      rw [srt.litI_even] at c0
      rw [srt.litI_odd, Int.neg_neg] at c1
      have s0 : srt C (2 * k + 1) = srt C (2 * k) ++ if can1 (n : Int) LL (-((k : Int) + 1)) then [] else [(k : Int) + 1] := by
        cases z : can1 (n : Int) LL (-((k : Int) + 1)) with
        | false => rw [srt.srt_yes ((hC _).2 ⟨by omega, c0.1 z⟩), srt.litI_even]; rfl
        | true =>
          rw [srt.srt_no (by
            cases q : C.testBit (2 * k) with
            | false => rfl
            | true => have := c0.2 ((hC _).1 q).2; rw [z] at this; cases this)]
          simp
      have s1 : srt C (2 * k + 1 + 1) = srt C (2 * k + 1) ++ if can1 (n : Int) LL ((k : Int) + 1) then [] else [-((k : Int) + 1)] := by
        cases z : can1 (n : Int) LL ((k : Int) + 1) with
        | false => rw [srt.srt_yes ((hC _).2 ⟨by omega, c1.1 z⟩), srt.litI_odd]; rfl
        | true =>
          rw [srt.srt_no (by
            cases q : C.testBit (2 * k + 1) with
            | false => rfl
            | true => have := c1.2 ((hC _).1 q).2; rw [z] at this; cases this)]
          simp
      rw [s1, s0]
  rw [← e n (Nat.le_refl _)]
  exact srt.srt_skip (by omega) (fun i h1 h2 => by
    cases q : C.testBit i with
    | false => rfl
    | true => have := ((hC _).1 q).1; omega)
/-- what the program has in common of its answers behind k literals -/
structure Com (n : Nat) (LL : List (List Int)) (P k C : Nat) : Prop where
  lt : C < 2 ^ 48
  sub : ∀ b, C.testBit b = true → P.testBit b = true
  fo : ∀ b, P.testBit b = true → Fo n LL b → C.testBit b = true
  did : ∀ j, j < k → ∀ b, (srt P 48)[j]? = some (litI b) → b < 48 → C.testBit b = true → Fo n LL b
theorem Com.start {n : Nat} {LL : List (List Int)} {P : Nat} (h : P < 2 ^ 48) : Com n LL P 0 P := ⟨h, fun _ h => h, fun _ h _ => h, fun j hj => by omega⟩
theorem litI_inj {a b : Nat} (ha : a < 48) (hb : b < 48) (h : litI a = litI b) : a = b := by
  have h1 := (lit_place ha).2.1
  have h2 := (lit_place hb).2.1
  rw [h] at h1
  exact h1.symm.trans h2
theorem Com.skip {n : Nat} {LL : List (List Int)} {P k C b : Nat} (h : Com n LL P k C) (hb : b < 48) (hx : (srt P 48)[k]? = some (litI b)) (hf : C.testBit b = true → Fo n LL b) : Com n LL P (k + 1) C := by
  refine ⟨h.lt, h.sub, h.fo, fun j hj b' h1 h2 h3 => ?_⟩
  by_cases e : j < k
  · exact h.did j e b' h1 h2 h3
  · obtain rfl : j = k := by omega
    rw [hx] at h1
    have := litI_inj hb h2 (Option.some.inj h1)
    subst this
    exact hf h3
theorem Com.meet {n : Nat} {LL : List (List Int)} {P k C b Q : Nat} {l : List Int} (h : Com n LL P k C) (hb : b < 48) (hx : (srt P 48)[k]? = some (litI b)) (hl : Bits n l) (hh : holds LL [] l = true) (hQ : Word l Q) (hq : Q.testBit b = false) : Com n LL P (k + 1) (C &&& Q) := by
  have w1 : ∀ b, Fo n LL b → Q.testBit b = true := fun b hf => by rw [hQ.2]; exact hf l hl hh
  refine ⟨Nat.lt_of_le_of_lt Nat.and_le_left h.lt, fun b' h1 => ?_, fun b' h1 h2 => ?_, fun j hj b' h1 h2 h3 => ?_⟩
  · rw [Nat.testBit_and, Bool.and_eq_true] at h1
    exact h.sub b' h1.1
  · rw [Nat.testBit_and, h.fo b' h1 h2, w1 b' h2]
    rfl
  · rw [Nat.testBit_and, Bool.and_eq_true] at h3
    by_cases e : j < k
    · exact h.did j e b' h1 h2 h3.1
    · obtain rfl : j = k := by omega
      rw [hx] at h1
      have := litI_inj hb h2 (Option.some.inj h1)
      subst this
      rw [hq] at h3
      cases h3.2
theorem srt_form {S j : Nat} : ∀ x ∈ srt S j, ∃ b, b < j ∧ S.testBit b = true ∧ x = litI b := by
  induction j with
  | zero => intro x hx; cases hx
  | succ j ih =>
    intro x hx
    cases q : S.testBit j with
    | true =>
      rw [srt.srt_yes q, List.mem_append] at hx
      rcases hx with hx | hx
      · obtain ⟨b, h1, h2, h3⟩ := ih x hx
        exact ⟨b, by omega, h2, h3⟩
      · simp at hx
        exact ⟨j, by omega, q, hx⟩
    | false =>
      rw [srt.srt_no q] at hx
      obtain ⟨b, h1, h2, h3⟩ := ih x hx
      exact ⟨b, by omega, h2, h3⟩
theorem srt_has {S j b : Nat} (hb : b < j) (h : S.testBit b = true) : litI b ∈ srt S j := by
  induction j with
  | zero => omega
  | succ j ih =>
    by_cases e : b = j
    · subst e
      rw [srt.srt_yes h]
      simp
    · cases q : S.testBit j with
      | true => rw [srt.srt_yes q]; exact List.mem_append_left _ (ih (by omega))
      | false => rw [srt.srt_no q]; exact ih (by omega)
theorem Com.fin {n : Nat} {LL : List (List Int)} {P k C : Nat} {l : List Int} (h24 : n ≤ 24) (hc : cnfB (n : Int) LL = true) (h : Com n LL P k C) (hk : (srt P 48).length ≤ k) (hl : Bits n l) (hh : holds LL [] l = true) (hP : Word l P) : srt C 48 = bbs (n : Int) LL n := by
  refine srt_back h24 hc fun b => ⟨fun hb => ?_, fun ⟨h1, h2⟩ => ?_⟩
  · have p := h.sub b hb
    have b48 : b < 48 := by
      rcases Nat.lt_or_ge b 48 with q | q
      · exact q
      · rw [srt.hi_bit h.lt q] at hb; cases hb
    have hm := srt_has b48 p
    obtain ⟨j, hj⟩ := List.mem_iff_getElem?.1 hm
    have hjl := (List.getElem?_eq_some_iff.1 hj).1
    refine ⟨?_, h.did j (by omega) b hj b48 hb⟩
    rw [hP.2, wdB, Bool.and_eq_true, decide_eq_true_iff] at p
    rw [← hl.1]
    exact p.1
  · exact h.fo b (by rw [hP.2]; exact h2 l hl hh) h2
end Go.Proofs.YtapkckfgbimmcaaDoor.ks
namespace Go.Proofs.YtapkckfgbimmcaaDoor.ks
open Go.ChangeShapes Go.WideShapes Go.ChangeAt Go.RowKit
open Go.Proofs.YtapkckfgbimmcaaDoor.kd (SV Slv)
open Go.Proofs.YtapkckfgbimmcaaDoor.km (left_)
open Go.Proofs.YtapkckfgbimmcaaDoor.lq (solveL FromE lits_in solve_no made_sub)
open Go.Proofs.YtapkckfgbimmcaaDoor.srt (Tab srt litI)
open Go.Proofs.YtapkckfgbimmcaaDoor.bset (setOf setOf_lt placeN)
open Go.Proofs.YtapkckfgbimmcaaDoor.css (Sls tot)
open Go.Proofs.YtapkckfgbimmcaaDoor.cf (Box)
open Go.Proofs.YtapkckfgbimmcaaDoor.ok (cnfB litIn)
open Go.Proofs.YtapkckfgbimmcaaDoor.wo (Made)
open Go.Proofs.YtapkckfgbimmcaaDoor.sl (Sl ints hide unhide grown_refl grown_trans)
set_option linter.unusedVariables false
theorem back_no {n : Int} {LL : List (List Int)} (h : solveL n LL [] = none) : backL n LL = [] := by
  unfold backL
  rw [h]
  rfl
theorem back_yes {m : Nat} {LL : List (List Int)} {l : List Int} (h : solveL (m : Int) LL [] = some l) : backL (m : Int) LL = bbs (m : Int) LL m := by
  unfold backL
  rw [h]
  rfl
theorem made_up {w w1 w2 : World} {v : Value} {L : List Int} (h : Made w w1 v L) (g : w1.grownBy w2 none) : Made w w2 v L :=
  ⟨h.1.kept g (by cases v.ownBlock with | none => exact .inl rfl | some k => exact .inr (by simp)), grown_trans h.2 g⟩
theorem own_lit (w : World) (x : Int) : sl.Own w.heap.size (w.heap.size + 1) (w.alloc (.cells #[.int .i64 x] 3)) (.slice (some ⟨w.heap.size, 0, none⟩) 1 1) [x] :=
  ⟨World.ownsRow_lit w #[.int .i64 x] 1 (Nat.le_refl _) (by unfold maxLen; omega) rfl, fun k e => by cases e; exact Nat.lt_succ_self _⟩
set_option maxRecDepth 100000 in
set_option maxHeartbeats 4000000 in
theorem specBackbone (v : Value) (n : Int) (LL : List (List Int)) (w : World) (hn : tot LL ≤ 1048576) (hv : Sls w v LL) :
    Calls Tryd.prog 30 #[.agg #[.int .i64 n, v]] w fun e w' => ∃ r, e = .returned r ∧ Made w w' r (backL n LL) := by
  have g0 := World.grownBy_alloc w (.cells #[.int .i64 n, v] 26) none
  have m0 := app.made_nil (w.alloc (.cells #[.int .i64 n, v] 26))
  have g1 := World.grownBy_alloc (w.alloc (.cells #[.int .i64 n, v] 26)) (.cells #[] 3) none
  have F0 := hide (Box.new 26 w (.int .i64 n) v)
  have G0 := hide g0
  have cs := lq.specSolve v n LL _ hn ((hv.kept g0).kept g1)
  simp only [World.size_alloc] at m0
  have M0 := hide m0
  have HV := hide (hv.kept g0)
  have x0 := ((unhide F0).kept g1).c0
  have x1 := ((unhide F0).kept g1).c1
  clear hv g0 g1 m0
  cases ho : solveL n LL [] with
  | none =>
    rw [ho] at cs
    rw [back_no ho]
    have CS := hide cs
    clear cs ho HV
    go_enter Tryd.func30, Tryd.ntmps30
    go_wp2_with fail
    refine (unhide CS).mono ?_; rintro e w2 ⟨r, rfl, m2⟩
    have M2 := hide (made_up (unhide M0) m2.2)
    clear m2 F0 x0 x1 M0 CS
    go_wp2_with fail
    go_ret
    exact ⟨_, rfl, made_sub (unhide G0) (unhide M2)⟩
  | some l =>
    have hc : cnfB n LL = true := by
      cases z : cnfB n LL with
      | true => rfl
      | false => rw [solve_no (by rw [z]; rfl)] at ho; cases ho
    obtain ⟨m, rfl, h24, h120⟩ := cnf_parts hc
    rw [ho] at cs
    rw [back_yes ho]
    have CS := hide cs
    clear cs ho hc
    go_enter Tryd.func30, Tryd.ntmps30
    go_wp2_with fail
    refine (unhide CS).mono ?_; rintro e w2 ⟨r, rfl, m2⟩
    have M2 := hide (made_up (unhide M0) m2.2)
    clear m2 x0 x1 M0 CS
    go_wp2_with fail
    go_loopw [3, 6] (fun r i wr => ∃ k : Nat, k ≤ m ∧ i = .int .i64 ((k : Int) + 1) ∧ Made (w.alloc (.cells #[.int .i64 (m : Int), v] 26)) wr r (bbs (m : Int) LL k)) (fun _ i _ => 30 - (intOf i).toNat)
    case atStart => exact ⟨0, Nat.zero_le _, rfl, unhide M2⟩
    case round =>
      obtain ⟨k, hk, rfl, hmd⟩ := hrel
      clear M2
      have hbx := hide ((unhide F0).kept hmd.2)
      have x0 := (unhide hbx).c0
      have x1 := (unhide hbx).c1
      by_cases hlt : k < m
      · have hi' : (k : Int) + 1 ≤ (m : Int) := by omega
        have gA := World.grownBy_alloc wr (.cells #[.int .i64 ((k : Int) + 1)] 3) none
        have y0 := ((unhide hbx).kept gA).c0
        have y1 := ((unhide hbx).kept gA).c1
        have CA := hide (lq.specSolveWith v (.slice (some ⟨wr.heap.size, 0, none⟩) 1 1) (m : Int) LL [(k : Int) + 1] _ _ _ hn (by simp) (((unhide HV).kept hmd.2).kept gA) (own_lit wr _))
        have MA := hide (made_up hmd gA)
        have hle : (bbs (m : Int) LL k).length ≤ 48 := Nat.le_trans (bbs_len _ _ _) (by omega)
        have E : Hid (bbs (m : Int) LL (k + 1) = (bbs (m : Int) LL k ++ if can1 (m : Int) LL (-((k : Int) + 1)) then [] else [(k : Int) + 1]) ++ if can1 (m : Int) LL ((k : Int) + 1) then [] else [-((k : Int) + 1)]) := rfl
        unfold can1 at E
        have CB' := hide (fun (w3 : World) (g : (w.alloc (.cells #[.int .i64 (m : Int), v] 26)).grownBy w3 none) => lq.specSolveWith v (.slice (some ⟨w3.heap.size, 0, none⟩) 1 1) (m : Int) LL [-((k : Int) + 1)] _ _ _ hn (by simp) (((unhide HV).kept g).kept (World.grownBy_alloc w3 (.cells #[.int .i64 (-((k : Int) + 1))] 3) none)) (own_lit w3 _))
        unfold lq.FromE at CA CB'
        generalize (solveL (m : Int) LL [-((k : Int) + 1)]).getD [] = RA at *
        generalize (solveL (m : Int) LL [(k : Int) + 1]).getD [] = RB at *
        generalize (solveL (m : Int) LL [-((k : Int) + 1)]).isSome = p at *
        generalize (solveL (m : Int) LL [(k : Int) + 1]).isSome = q at *
        generalize bbs (m : Int) LL k = M at *
        clear gA hmd
        go_wp2_with fail
        refine (unhide CA).mono ?_; rintro e w3 ⟨r3, rfl, m3⟩
        have M3 := hide (made_up (unhide MA) m3.2)
        have B3 := hide ((unhide F0).kept (unhide M3).2)
        have z0 := (unhide B3).c0
        have z1 := (unhide B3).c1
        have gB := World.grownBy_alloc w3 (.cells #[.int .i64 (-((k : Int) + 1))] 3) none
        have z2 := ((unhide B3).kept gB).c0
        have z3 := ((unhide B3).kept gB).c1
        have CB := hide (unhide CB' w3 (unhide M3).2)
        have MB := hide (made_up (unhide M3) gB)
        clear gB m3 MA CA x0 x1 y0 y1 M3
        go_wp2_with fail
        refine (unhide CB).mono ?_; rintro e w4 ⟨r4, rfl, m4⟩
        have M4 := hide (made_up (unhide MB) m4.2)
        clear m4 MB CB z0 z1 z2 z3 B3 hbx
        clear CB'
        cases p
        · obtain ⟨o4, g4⟩ := unhide M4
          clear M4
          go_wp2_with (at_builtin; refine wo.append1 g4 o4 (by omega) rfl _ _ rfl rfl rfl ?_)
          intro v' w5 R
          cases q
          · obtain ⟨o5, g5⟩ := R
            have h5 : (M ++ [(k : Int) + 1]).length ≤ 49 := by rw [List.length_append]; simp; omega
            generalize hM5 : M ++ [(k : Int) + 1] = M5 at *
            have H5 := hide hM5
            clear hM5
            go_wp2_with (at_builtin; refine wo.append1 g5 o5 (by omega) rfl _ _ rfl rfl rfl ?_)
            intro v'' w6 R6
            go_wp2
            go_roundw
            case rel => exact ⟨k + 1, by omega, by go_num, by have e := unhide E; simp at e; rw [e, show M ++ [(k : Int) + 1, -((k : Int) + 1)] = (M ++ [(k : Int) + 1]) ++ [-((k : Int) + 1)] by simp, unhide H5]; exact R6⟩
            case measure => simp [intOf]; omega
          · have R' := hide R
            clear R
            go_wp2
            go_roundw
            case rel => exact ⟨k + 1, by omega, by go_num, by have e := unhide E; simp at e; rw [e]; exact unhide R'⟩
            case measure => simp [intOf]; omega
        · cases q
          · obtain ⟨o4, g4⟩ := unhide M4
            clear M4
            go_wp2_with (at_builtin; refine wo.append1 g4 o4 (by omega) rfl _ _ rfl rfl rfl ?_)
            intro v' w5 R
            go_wp2
            go_roundw
            case rel => exact ⟨k + 1, by omega, by go_num, by have e := unhide E; simp at e; rw [e]; exact R⟩
            case measure => simp [intOf]; omega
          · go_wp2
            go_roundw
            case rel => exact ⟨k + 1, by omega, by go_num, by have e := unhide E; simp at e; rw [e]; exact unhide M4⟩
            case measure => simp [intOf]; omega
      · have hk' : k = m := by omega
        subst hk'
        have M2 := hide hmd
        clear hmd hbx
        go_wp2_with fail
        go_ret
        exact ⟨_, rfl, made_sub (unhide G0) (unhide M2)⟩
set_option maxRecDepth 100000 in
set_option maxHeartbeats 4000000 in
theorem implBackbone (v : Value) (n : Int) (LL : List (List Int)) (w : World) (hT : Tab w) (hn : tot LL ≤ 1048576) (hv : Sls w v LL) :
    Calls Tryd.prog 29 #[.agg #[.int .i64 n, v]] w fun e w' => ∃ r, e = .returned r ∧ Made w w' r (backL n LL) := by
  have g0 := World.grownBy_alloc w (.cells #[.int .i64 n, v] 26) none
  have C1 := ok.implCnfOk v n LL _ hn (hv.kept g0)
  have F0 := hide (Box.new 26 w (.int .i64 n) v)
  have HV := hide (hv.kept g0)
  have HT := hide (hT.kept g0)
  have G0 := hide g0
  have x0 := (unhide F0).c0
  have x1 := (unhide F0).c1
  clear g0 hv hT
  cases hc : cnfB n LL
  · rw [hc] at C1
    have CC := hide C1
    rw [back_no (solve_no (n := n) (LL := LL) (a := []) (by rw [hc]; rfl))]
    clear C1 hc HV
    go_enter Tryd.func29, Tryd.ntmps29
    go_wp2_with fail
    refine (unhide CC).mono ?_; rintro e w1 ⟨rfl, g1⟩
    have G1 := hide (grown_trans (r := none) (unhide G0) g1)
    clear g1 CC x0 x1
    go_wp2_with fail
    go_ret
    exact ⟨_, rfl, made_sub (unhide G1) (app.made_nil _)⟩
  rw [hc] at C1
  have CC := hide C1
  have HC := hide hc
  obtain ⟨m, rfl, h24, h120⟩ := cnf_parts hc
  clear C1 hc
  go_enter Tryd.func29, Tryd.ntmps29
  go_wp2_with fail
  refine (unhide CC).mono ?_; rintro e w1 ⟨rfl, g1⟩
  have G1 := hide (grown_trans (r := none) (unhide G0) g1)
  have F1 := hide ((unhide F0).kept g1)
  have T1 := hide ((unhide HT).kept g1)
  have CS := hide (solverOf v m LL w1 (unhide T1) h24 h120 hn (lits_in (unhide HC)) ((unhide HV).kept g1))
  have y0 := (unhide F1).c0
  have y1 := (unhide F1).c1
  clear g1 CC x0 x1 G0 F0 HV HT
  go_wp2_with fail
  refine (unhide CS).mono ?_; rintro e w2 ⟨c, s, rfl, h1, h2, g2⟩
  have H1 := hide h1
  have H2 := hide h2
  have G2 := hide (grown_trans (r := none) (unhide G1) g2)
  have T2 := hide ((unhide T1).kept g2)
  have CL : Hid (Calls Tryd.prog 63 #[.pointer (some ⟨c, 0, none⟩), .int .u64 0] w2 fun e w' => LeastE m LL [] w2 e w') := callsIn_wide.1 (least m LL [] s c 0 h2 (fun x hx => by cases hx) w2 h1 (unhide T2))
  clear h1 h2 g2 y0 y1 CS G1 F1 T1
  go_wp2_with fail
  refine (unhide CL).mono ?_
  rintro e w3 ⟨g3, ho⟩
  have ST : Hid (∃ P, P < 2 ^ 48 ∧ (∀ k C, Com m LL P k C → (srt P 48).length ≤ k → srt C 48 = backL (m : Int) LL) ∧ (∀ b, P.testBit b = true → b / 2 < m) ∧ ∃ bb, e = .returned (.tuple #[.int .u64 (P : Int), .bool bb])) := by
    rcases ho with ⟨hN, rfl⟩ | ⟨l, P, hN, hW, hh, rfl⟩
    · refine ⟨0, by decide, fun k C h _ => ?_, fun b hb => by simp at hb, false, rfl⟩
      have hC : C = 0 := Nat.eq_of_testBit_eq fun b => by
        cases q : C.testBit b with
        | false => simp
        | true => have := h.sub b q; simp at this
      subst hC
      rw [back_no ((solve_yes (a := []) (unhide HC) rfl).trans hN)]
      decide
    · have hb := left_bits hN
      refine ⟨P, hW.1, fun k C h hk => ?_, fun b h => ?_, true, rfl⟩
      · rw [back_yes ((solve_yes (a := []) (unhide HC) rfl).trans hN)]
        exact h.fin h24 (unhide HC) hk hb hh hW
      · rw [hW.2, km.wdB, Bool.and_eq_true, decide_eq_true_iff] at h
        rw [← hb.1]
        exact h.1
  obtain ⟨P, hP, hF, hpn, bb, rfl⟩ := unhide ST
  have HF := hide hF
  have HPN := hide hpn
  have G3 := hide (grown_trans (r := none) (unhide G2) g3)
  have S3 := hide ((unhide H1).kept g3)
  have T3 := hide ((unhide T2).kept g3)
  have CI := hide (srt.list P w3 (unhide T3) hP)
  clear ST hF hpn ho g3 CL H1 T2
  go_wp2_with fail
  refine (unhide CI).mono ?_
  rintro e w4 ⟨u4, rfl, o4, g4⟩
  obtain ⟨ua, uc, rfl, hcell⟩ := sl.Sl.of_own o4
  have HCE := hide hcell
  have hl48 := srt.srt_len P 48
  have G4 := hide g4
  clear o4 g4 CI hcell
  go_wp2_with fail
  go_loopw [4, 25] (fun cv iv wr => ∃ (C k : Nat), k ≤ (srt P 48).length ∧ cv = .int .u64 (C : Int) ∧ iv = .int .i64 (k : Int) ∧ Hid (Com m LL P k C) ∧ Hid (w4.grownBy wr none)) (fun _ iv _ => (srt P 48).length - (intOf iv).toNat)
  case atStart => exact ⟨P, 0, Nat.zero_le _, rfl, rfl, Com.start hP, grown_refl _⟩
  case round =>
    obtain ⟨C, k, hk, rfl, rfl, hcom, hg⟩ := hrel
    by_cases hlt : k < (srt P 48).length
    · obtain ⟨b, hb48, hbP, hx⟩ := srt_form _ (List.getElem_mem hlt)
      have hxk : (srt P 48)[k]? = some (litI b) := by rw [List.getElem?_eq_getElem hlt, hx]
      rcases unhide HCE with h | ⟨g, off, rfl, hbl, hcb⟩
      · rw [h] at hlt
        simp at hlt
      · have c1 := (unhide hg).cell (hcb k hlt) (fun e => by cases e)
        rw [show (srt P 48).getD k 0 = litI b by rw [List.getD, hxk]; rfl] at c1
        have hi' : (k : Int) < ((srt P 48).length : Int) := by omega
        obtain ⟨l1, l2, l3⟩ := lit_place hb48
        obtain ⟨i1, i2, i3, i4⟩ := lit_in (n := m) h24 (unhide HPN b hbP)
        have lb := srt.litI_bd b hb48
        have lb1 := lb.1
        have lb2 := lb.2
        have hcm := unhide hcom
        have CB := fun w' => bset.hasC C (litI b) w' hcm.lt l1
        rw [l2] at CB
        cases hbit : C.testBit b
        · rw [hbit] at CB
          have CB' := hide CB
          have K := hide (hcm.skip hb48 hxk (fun z => by rw [hbit] at z; cases z))
          clear CB hbit hcm l1 l2 l3 i1 i2 i3 i4 lb hcb hxk hx
          generalize litI b = y at *
          generalize (srt P 48).length = N at *
          go_wp2_with fail
          refine (unhide CB' _).mono ?_
          rintro e w5 ⟨rfl, hw⟩
          have hw' := hw.symm
          clear hw
          subst hw'
          go_wp2_with fail
          go_roundw
          case rel => exact ⟨C, k + 1, by omega, rfl, by go_num, unhide K, unhide hg⟩
          case measure => simp [intOf]; omega
        · rw [hbit] at CB
          have CB' := hide CB
          have CW := fun w' => bset.withC 0 (-(litI b)) w' (by decide) i4
          have es : bset.withN 0 (-(litI b)) = setOf [-(litI b)] := by
            have := bset.setOf_snoc [] (-(litI b))
            rw [i4] at this
            exact this.symm
          rw [es] at CW
          have CW' : Hid (∀ w', Calls Tryd.prog 58 #[.int .u64 0, .int .i8 (-(litI b))] w' fun e w'' => e = .returned (.int .u64 (setOf [-(litI b)] : Int)) ∧ w'' = w') := CW
          have CM := hide (fun w' (gg : w3.grownBy w' none) => callsIn_wide.1 (least m LL [-(litI b)] s c 0 (unhide H2) (fun x hx => by simp at hx; rw [hx]; exact i2) w' ((unhide S3).kept gg) ((unhide T3).kept gg)))
          have K0 : Hid (left_ m LL [-(litI b)] [] = none → Com m LL P (k + 1) C) := fun hN => hcm.skip hb48 hxk (fun _ => (can_iff h24 (unhide HC) (unhide HPN b hbP)).1 (by
            unfold can1
            rw [solve_yes (unhide HC) (by simp [i2]), hN]
            rfl))
          have K1 : Hid (∀ l Q, left_ m LL [-(litI b)] [] = some l → Word l Q → lq.holds LL [-(litI b)] l = true → Com m LL P (k + 1) (C &&& Q)) := fun l Q hN hW hh => by
            have hb := left_bits hN
            rw [holds_one, Bool.and_eq_true] at hh
            refine hcm.meet hb48 hxk hb hh.1 hW ?_
            have z := hh.2
            rw [← km.wd_lit hb h24 i2, i3] at z
            rw [hW.2]
            have := km.wd_one hb.2 z
            rwa [srt.swp_swp] at this
          have EA := hide (fun Q (h : Q < 2 ^ 48) => srt.and_eq C Q hcm.lt h)
          clear CB hbit hcm l1 l2 l3 i1 i2 i3 i4 lb hcb hxk hx es CW
          unfold LeastE at CM
          generalize setOf [-(litI b)] = Z at *
          generalize left_ m LL [-(litI b)] [] = O at *
          generalize litI b = y at *
          generalize (srt P 48).length = N at *
          go_wp2_with fail
          refine (unhide CB' _).mono ?_
          rintro e w5 ⟨rfl, hw⟩
          have hw' := hw.symm
          clear hw
          subst hw'
          go_wp2_with fail
          refine (unhide CW' _).mono ?_
          rintro e w5 ⟨rfl, hw⟩
          have hw' := hw.symm
          clear hw
          subst hw'
          go_wp2_with fail
          refine (unhide CM _ (grown_trans (unhide G4) (unhide hg))).mono ?_
          rintro e w5 ⟨g5, ⟨hN, rfl⟩ | ⟨l, Q, hN, hW, hh, rfl⟩⟩
          · have K := hide (unhide K0 hN)
            have G5 := hide (grown_trans (r := none) (unhide hg) g5)
            clear g5 hN K0 K1 CM
            go_wp2_with fail
            go_roundw
            case rel => exact ⟨C, k + 1, by omega, rfl, by go_num, unhide K, unhide G5⟩
            case measure => simp [intOf]; omega
          · have K := hide (unhide K1 l Q hN hW hh)
            have G5 := hide (grown_trans (r := none) (unhide hg) g5)
            have E := hide (unhide EA Q hW.1)
            clear g5 hN K0 K1 CM hW hh EA
            go_wp2_with fail
            go_roundw
            case rel => exact ⟨C &&& Q, k + 1, by omega, by rw [unhide E], by go_num, unhide K, unhide G5⟩
            case measure => simp [intOf]; omega
    · have hi' : ¬ (k : Int) < ((srt P 48).length : Int) := by omega
      have E := hide (unhide HF k C (unhide hcom) (by omega))
      have hClt := (unhide hcom).lt
      have CI := hide (srt.list C wr ((unhide T3).kept (grown_trans (unhide G4) (unhide hg))) hClt)
      generalize (srt P 48).length = N at *
      go_wp2_with fail
      refine (unhide CI).mono ?_
      rintro e w5 ⟨u5, rfl, o5, g5⟩
      have M5 : Hid (Made wr w5 u5 (srt C 48)) := ⟨o5, g5⟩
      clear o5 g5 CI
      go_wp2_with fail
      go_ret
      rw [← unhide E]
      exact ⟨_, rfl, made_sub (grown_trans (unhide G3) (grown_trans (unhide G4) (unhide hg))) (unhide M5)⟩
theorem bothB (n : Int) (LL : List (List Int)) (hn : tot LL ≤ 1048576) : ∃ (R : List Int), R.length ≤ 1048576 ∧
    (∀ v w, Sls w v LL → Calls Tryd.prog 30 #[.agg #[.int .i64 n, v]] w fun e w' => ∃ r, e = .returned r ∧ w'.ownsRow w.heap.size 3 1 r R.length (ints R) ∧ w.grownBy w' none) ∧
    (∀ v w, srt.Tab w → Sls w v LL → Calls Tryd.prog 29 #[.agg #[.int .i64 n, v]] w fun e w' => ∃ r, e = .returned r ∧ w'.ownsRow w.heap.size 3 1 r R.length (ints R) ∧ w.grownBy w' none) :=
  ⟨_, Nat.le_trans (back_len n LL) (by omega), fun v w h => specBackbone v n LL w hn h, fun v w t h => implBackbone v n LL w t hn h⟩
end Go.Proofs.YtapkckfgbimmcaaDoor.ks
namespace Go.Proofs.YtapkckfgbimmcaaDoor.mf
open Go.RowKit
open Go.Proofs.YtapkckfgbimmcaaDoor.lits (okB varI okB_iff)
open Go.Proofs.YtapkckfgbimmcaaDoor.tr (litT clT cnfT assignB trueB bitB)
open Go.Proofs.YtapkckfgbimmcaaDoor.ok (cnfB clB litIn)
open Go.Proofs.YtapkckfgbimmcaaDoor.cls (hasB)
open Go.Proofs.YtapkckfgbimmcaaDoor.wo (woL)
open Go.Proofs.YtapkckfgbimmcaaDoor.fx (fixL fixB)
open Go.Proofs.YtapkckfgbimmcaaDoor.cnt (C cntR asg)

/-- the value of a literal that is taken to be true -/
def sg (x : Int) : Int := if 0 < x then 1 else 0
theorem sg_neg {x : Int} (h : x ≠ 0) : sg (-x) = 1 - sg x := by
  unfold sg
  split <;> split <;> omega
/-- the place of a literal's variable -/
def pl (x : Int) : Nat := (varI x - 1).toNat
theorem var_pl {x : Int} (h : okB x = true) : varI x = (pl x : Int) + 1 ∧ varI (-x) = (pl x : Int) + 1 := by
  have a := okB_iff.1 h
  unfold pl
  rw [lits.varI_yes a, lits.varI_yes (x := -x) ⟨by omega, by omega, by omega⟩]
  split <;> split <;> omega
theorem pl_neg {x : Int} (h : okB x = true) : pl (-x) = pl x := by
  have := var_pl h
  unfold pl at *
  omega
/-- a literal at the assignment where its variable is set so -/
theorem lit_set {A : List Int} {x y : Int} (hx : okB x = true) (hl : pl x < A.length) : litT (A.set (pl x) (sg x)) y = if y = x then true else if y = -x then false else litT A y := by
  have hv := var_pl hx
  have h0 := (okB_iff.1 hx).1
  have hs : ∀ (B : List Int), pl x < B.length → (B.set (pl x) (sg x)).getD (pl x) 0 = sg x := fun B hB => by simp [hB]
  have hl' : pl x < (A.set (pl x) (sg x)).length := by rw [List.length_set]; exact hl
  by_cases e1 : y = x
  · subst e1
    rw [if_pos rfl, tr.litT_near hv.1 hl', hs A hl]
    unfold sg
    split <;> rename_i h <;> simp [h]
  · rw [if_neg e1]
    by_cases e2 : y = -x
    · subst e2
      rw [if_pos rfl, tr.litT_near hv.2 hl', hs A hl]
      unfold sg
      split
      · rename_i h
        rw [decide_eq_false (show ¬ 0 < -x by omega)]
        rfl
      · rename_i h
        rw [decide_eq_true (show 0 < -x by omega)]
        rfl
    · rw [if_neg e2]
      by_cases ho : okB y = true
      · have hy := var_pl ho
        have hne : pl y ≠ pl x := by
          intro e
          have a := okB_iff.1 ho
          have b := okB_iff.1 hx
          have h1 := hy.1
          have h2 := hv.1
          rw [lits.varI_yes a] at h1
          rw [lits.varI_yes b] at h2
          split at h1 <;> split at h2 <;> omega
        by_cases hm : pl y < A.length
        · rw [tr.litT_near hy.1 hm, tr.litT_near hy.1 (by rw [List.length_set]; exact hm)]
          have : (A.set (pl x) (sg x)).getD (pl y) 0 = A.getD (pl y) 0 := by
            simp [hne.symm]
          rw [this]
        · rw [tr.litT_far hy.1 hm, tr.litT_far hy.1 (by rw [List.length_set]; exact hm)]
      · have : varI y = 0 := lits.varI_no (fun h => ho (okB_iff.2 h))
        rw [tr.litT_no this, tr.litT_no this]
theorem cl_set {A L : List Int} {x : Int} (hx : okB x = true) (hl : pl x < A.length) : clT (A.set (pl x) (sg x)) L = (hasB L x || clT A (woL L (-x))) := by
  have h0 := (okB_iff.1 hx).1
  unfold tr.clT cls.hasB wo.woL
  rw [Bool.eq_iff_iff, Bool.or_eq_true, decide_eq_true_iff, List.any_eq_true, List.any_eq_true]
  constructor
  · rintro ⟨y, hy, ty⟩
    rw [lit_set hx hl] at ty
    by_cases e1 : y = x
    · exact .inl (e1 ▸ hy)
    · rw [if_neg e1] at ty
      by_cases e2 : y = -x
      · rw [if_pos e2] at ty
        cases ty
      · rw [if_neg e2] at ty
        exact .inr ⟨y, by rw [List.mem_filter]; exact ⟨hy, by simp [e2]⟩, ty⟩
  · rintro (h | ⟨y, hy, ty⟩)
    · exact ⟨x, h, by rw [lit_set hx hl, if_pos rfl]⟩
    · rw [List.mem_filter] at hy
      have e2 : y ≠ -x := by simpa using hy.2
      refine ⟨y, hy.1, ?_⟩
      rw [lit_set hx hl]
      by_cases e1 : y = x
      · rw [if_pos e1]
      · rw [if_neg e1, if_neg e2]
        exact ty
/-- what is left is true just where the formula is with the literal -/
theorem cnf_set {A : List Int} {LL : List (List Int)} {x : Int} (hx : okB x = true) (hl : pl x < A.length) : cnfT A (fixL x LL) = cnfT (A.set (pl x) (sg x)) LL := by
  unfold tr.cnfT fx.fixL
  rw [Bool.eq_iff_iff, List.all_eq_true, List.all_eq_true]
  constructor
  · intro h L hL
    rw [cl_set hx hl]
    cases e : hasB L x
    · rw [Bool.false_or]
      exact h _ (List.mem_map.2 ⟨L, List.mem_filter.2 ⟨hL, by rw [e]; rfl⟩, rfl⟩)
    · rfl
  · intro h K hK
    obtain ⟨L, hL, rfl⟩ := List.mem_map.1 hK
    rw [List.mem_filter] at hL
    have := h L hL.1
    rw [cl_set hx hl] at this
    have e : hasB L x = false := by simpa using hL.2
    rw [e, Bool.false_or] at this
    exact this
theorem cnfB_fix {n x : Int} {LL : List (List Int)} (h : cnfB n LL = true) : cnfB n (fixL x LL) = true := by
  unfold ok.cnfB at *
  simp only [Bool.and_eq_true, decide_eq_true_iff] at *
  refine ⟨⟨h.1.1, Nat.le_trans (fx.fixL_len x LL) h.1.2⟩, ?_⟩
  rw [List.all_eq_true] at *
  intro K hK
  unfold fx.fixL at hK
  obtain ⟨L, hL, rfl⟩ := List.mem_map.1 hK
  have := h.2 L (List.mem_filter.1 hL).1
  unfold ok.clB at *
  simp only [Bool.and_eq_true, decide_eq_true_iff] at *
  refine ⟨?_, Nat.le_trans (wo.woL_le L (-x)) this.2⟩
  rw [List.all_eq_true] at *
  intro y hy
  exact this.1 y (List.mem_filter.1 hy).1
theorem litIn_pl {n x : Int} (h : litIn n x = true) : okB x = true ∧ ((pl x : Nat) : Int) < n := by
  unfold ok.litIn at h
  rw [Bool.and_eq_true, decide_eq_true_iff] at h
  exact ⟨h.1, by have := var_pl h.1; omega⟩
theorem trueB_of {n : Int} {LL : List (List Int)} {A : List Int} (hc : cnfB n LL = true) (hl : (A.length : Int) = n) (hA : ∀ x ∈ A, x = 0 ∨ x = 1) : trueB n LL A = cnfT A LL := by
  unfold tr.trueB tr.assignB
  have : A.all bitB = true := by
    rw [List.all_eq_true]
    intro x hx
    unfold tr.bitB
    have := hA x hx
    exact decide_eq_true (by omega)
  rw [hc, decide_eq_true hl, this]
  rfl

/-- lists of bits with one place set: both ways make up twice as many -/
theorem C_congr {n : Nat} {f g : List Int → Bool} (h : ∀ l, l.length = n → f l = g l) : C n f = C n g := by
  induction n generalizing f g with
  | zero => simp only [cnt.C]; rw [h [] rfl]
  | succ n ih =>
    simp only [cnt.C]
    rw [ih (f := fun l => f (0 :: l)) (g := fun l => g (0 :: l)) (fun l hl => h _ (by simp [hl])), ih (f := fun l => f (1 :: l)) (g := fun l => g (1 :: l)) (fun l hl => h _ (by simp [hl]))]
theorem C_set (n : Nat) : ∀ (i : Nat) (p : List Int → Bool), i < n → C n (fun l => p (l.set i 0)) + C n (fun l => p (l.set i 1)) = 2 * C n p := by
  induction n with
  | zero => intro i p h; omega
  | succ n ih =>
    intro i p h
    cases i with
    | zero =>
      simp only [cnt.C, List.set_cons_zero]
      omega
    | succ i =>
      simp only [cnt.C, List.set_cons_succ]
      have h0 := ih i (fun l => p (0 :: l)) (by omega)
      have h1 := ih i (fun l => p (1 :: l)) (by omega)
      omega
theorem count_fix {m : Nat} {LL : List (List Int)} {x : Int} (hm : m ≤ 14) (hc : cnfB (m : Int) LL = true) (hx : litIn (m : Int) x = true) :
    ct.countI (m : Int) (fixL x LL) + ct.countI (m : Int) (fixL (-x) LL) = 2 * ct.countI (m : Int) LL := by
  have hp := litIn_pl hx
  have ho := hp.1
  have hon : okB (-x) = true := by
    have a := okB_iff.1 ho
    exact okB_iff.2 ⟨by omega, by omega, by omega⟩
  have e : ∀ MM, cnfB (m : Int) MM = true → ct.countI (m : Int) MM = (C m (fun l => cnfT l MM) : Int) := by
    intro MM hM
    unfold ct.countI ct.countN
    rw [hM, decide_eq_true (show (m : Int) ≤ 14 by omega), Int.toNat_natCast, cnt.cnt_asg m (fun l => cnfT l MM)]
    rfl
  rw [e _ (cnfB_fix hc), e _ (cnfB_fix hc), e _ hc]
  have s1 : C m (fun l => cnfT l (fixL x LL)) = C m (fun l => cnfT (l.set (pl x) (sg x)) LL) := C_congr (fun l hl => cnf_set ho (by omega))
  have s2 : C m (fun l => cnfT l (fixL (-x) LL)) = C m (fun l => cnfT (l.set (pl x) (1 - sg x)) LL) := C_congr (fun l hl => by
    rw [cnf_set hon (by rw [pl_neg ho]; omega), pl_neg ho, sg_neg (okB_iff.1 ho).1])
  have s3 := C_set m (pl x) (fun l => cnfT l LL) (by omega)
  rw [s1, s2]
  have : sg x = 0 ∨ sg x = 1 := by unfold sg; split <;> omega
  rcases this with h | h
  · rw [h]
    show ((C m (fun l => cnfT (l.set (pl x) 0) LL) : Nat) : Int) + ((C m (fun l => cnfT (l.set (pl x) 1) LL) : Nat) : Int) = _
    omega
  · rw [h]
    show ((C m (fun l => cnfT (l.set (pl x) 1) LL) : Nat) : Int) + ((C m (fun l => cnfT (l.set (pl x) 0) LL) : Nat) : Int) = _
    omega
theorem count_bd {m : Nat} (LL : List (List Int)) (hm : m ≤ 14) : -1 ≤ ct.countI (m : Int) LL ∧ ct.countI (m : Int) LL ≤ 16384 := by
  unfold ct.countI
  split
  · unfold ct.countN
    rw [Int.toNat_natCast]
    have h1 := ct.cntR_le (2 ^ m) (fun k => cnfT (asg m k []) LL)
    have h2 := ct.pow_bd hm
    omega
  · omega
theorem litIn_neg {n x : Int} (h : litIn n x = true) : litIn n (-x) = true := by
  have hp := litIn_pl h
  have a := okB_iff.1 hp.1
  have hv := var_pl hp.1
  unfold ok.litIn
  rw [Bool.and_eq_true, decide_eq_true_iff]
  exact ⟨okB_iff.2 ⟨by omega, by omega, by omega⟩, by omega⟩
end Go.Proofs.YtapkckfgbimmcaaDoor.mf
namespace Go.Proofs.YtapkckfgbimmcaaDoor.mi
open Go.RowKit
open Go.Proofs.YtapkckfgbimmcaaDoor.lits (okB varI okB_iff)
open Go.Proofs.YtapkckfgbimmcaaDoor.tr (litT clT cnfT)
open Go.Proofs.YtapkckfgbimmcaaDoor.ok (cnfB clB litIn)
open Go.Proofs.YtapkckfgbimmcaaDoor.ct (countI countN impB impN)
open Go.Proofs.YtapkckfgbimmcaaDoor.cnt (cntR asg)

/-- the opposites of a clause's literals, a clause each -/
def negs (L : List Int) : List (List Int) := L.map fun x => [-x]
theorem negs_len (L : List Int) : (negs L).length = L.length := List.length_map ..
theorem negs_tot (L : List Int) : css.tot (negs L) = 2 * L.length := by
  unfold css.tot
  rw [negs_len]
  have : ((negs L).map List.length).sum = L.length := by
    induction L with
    | nil => rfl
    | cons x l ih =>
      show 1 + ((negs l).map List.length).sum = l.length + 1
      rw [ih]
      omega
  omega
theorem negs_step (L : List Int) (k : Nat) (h : k < L.length) : negs (L.take (k + 1)) = negs (L.take k) ++ [[-(L.getD k 0)]] := by
  rw [List.take_succ_eq_append_getElem h]
  unfold negs
  rw [List.map_append, show L.getD k 0 = L[k] by simp [h]]
  rfl
theorem cnfT_app (A : List Int) (LL MM : List (List Int)) : cnfT A (LL ++ MM) = (cnfT A LL && cnfT A MM) := by
  unfold tr.cnfT
  rw [List.all_append]
theorem lit_neg {n : Int} {A : List Int} {x : Int} (hA : (A.length : Int) = n) (h : litIn n x = true) : litT A (-x) = !litT A x := by
  have hp := mf.litIn_pl h
  have hv := mf.var_pl hp.1
  have h0 := (okB_iff.1 hp.1).1
  have hl : mf.pl x < A.length := by omega
  rw [tr.litT_near hv.1 hl, tr.litT_near hv.2 hl]
  by_cases hx : 0 < x
  · rw [decide_eq_true hx, decide_eq_false (show ¬ 0 < -x by omega)]
    cases decide (A.getD (mf.pl x) 0 = 1) <;> rfl
  · rw [decide_eq_false hx, decide_eq_true (show 0 < -x by omega)]
    cases decide (A.getD (mf.pl x) 0 = 1) <;> rfl
theorem negs_T {n : Int} {A L : List Int} (hA : (A.length : Int) = n) (h : L.all (litIn n) = true) : cnfT A (negs L) = !clT A L := by
  induction L with
  | nil => rfl
  | cons x l ih =>
    rw [List.all_cons, Bool.and_eq_true] at h
    have i := ih h.2
    have e1 : cnfT A (negs (x :: l)) = (clT A [-x] && cnfT A (negs l)) := rfl
    have e2 : clT A (x :: l) = (litT A x || clT A l) := rfl
    have e3 : clT A [-x] = litT A (-x) := by
      unfold tr.clT
      simp
    rw [e1, e2, e3, i, lit_neg hA h.1]
    cases litT A x <;> cases clT A l <;> rfl
theorem cnfB_parts {n : Int} {LL : List (List Int)} (h : cnfB n LL = true) : (0 ≤ n ∧ n ≤ 24) ∧ LL.length ≤ 120 ∧ LL.all (clB n) = true := by
  unfold ok.cnfB at h
  simp only [Bool.and_eq_true, decide_eq_true_iff] at h
  exact ⟨h.1.1, h.1.2, h.2⟩
theorem cnfB_mk {n : Int} {LL : List (List Int)} (h : (0 ≤ n ∧ n ≤ 24) ∧ LL.length ≤ 120 ∧ LL.all (clB n) = true) : cnfB n LL = true := by
  unfold ok.cnfB
  rw [decide_eq_true h.1, decide_eq_true h.2.1, h.2.2]
  rfl
theorem cnfB_app {n : Int} {LL MM : List (List Int)} (h : cnfB n LL = true) (k : MM.all (clB n) = true) (hl : LL.length + MM.length ≤ 120) : cnfB n (LL ++ MM) = true := by
  have p := cnfB_parts h
  refine cnfB_mk ⟨p.1, by rw [List.length_append]; exact hl, ?_⟩
  rw [List.all_append, p.2.2, k]
  rfl
theorem negs_ok {n : Int} {L : List Int} (h : L.all (litIn n) = true) : (negs L).all (clB n) = true := by
  rw [List.all_eq_true] at *
  intro K hK
  obtain ⟨x, hx, rfl⟩ := List.mem_map.1 hK
  unfold ok.clB
  rw [List.all_cons, mf.litIn_neg (h x hx)]
  rfl
theorem count_eq {m : Nat} {LL : List (List Int)} (hm : m ≤ 14) (h : cnfB (m : Int) LL = true) : countI (m : Int) LL = (cntR (2 ^ m) (fun k => cnfT (asg m k []) LL) : Int) := by
  unfold ct.countI ct.countN
  rw [h, decide_eq_true (show (m : Int) ≤ 14 by omega), Int.toNat_natCast]
  rfl
theorem imp_eq {m : Nat} {LL : List (List Int)} {L : List Int} (hm : m ≤ 14) (h : cnfB (m : Int) LL = true) (hL : clB (m : Int) L = true) : impB (m : Int) LL L = decide (cntR (2 ^ m) (fun k => cnfT (asg m k []) LL && !clT (asg m k []) L) = 0) := by
  unfold ct.impB
  rw [h, hL, decide_eq_true (show (m : Int) ≤ 14 by omega), Int.toNat_natCast]
  unfold ct.impN
  rw [cw.all_cnt]
  have e : (fun k => !(!(cnfT (asg m k []) LL) || clT (asg m k []) L)) = (fun k => cnfT (asg m k []) LL && !clT (asg m k []) L) := by
    funext k
    cases cnfT (asg m k []) LL <;> cases clT (asg m k []) L <;> rfl
  rw [e]
  rfl
theorem imp_count {m : Nat} {LL : List (List Int)} {L : List Int} (hm : m ≤ 14) (h : cnfB (m : Int) LL = true) (hL : clB (m : Int) L = true) (hl : LL.length + L.length ≤ 120) :
    cnfB (m : Int) (LL ++ negs L) = true ∧ impB (m : Int) LL L = (countI (m : Int) (LL ++ negs L) == 0) := by
  have ha := cw.clB_all hL
  have hn : cnfB (m : Int) (LL ++ negs L) = true := cnfB_app h (negs_ok ha) (by rw [negs_len]; exact hl)
  refine ⟨hn, ?_⟩
  rw [imp_eq hm h hL, count_eq hm hn]
  have e : (fun k => cnfT (asg m k []) (LL ++ negs L)) = (fun k => cnfT (asg m k []) LL && !clT (asg m k []) L) := by
    funext k
    rw [cnfT_app, negs_T (n := (m : Int)) (by rw [cnt.asg_len]; simp) ha]
  rw [e, Bool.eq_iff_iff]
  simp
theorem cnt_split (P : Nat) (f g : Nat → Bool) : cntR P (fun k => f k && g k) + cntR P (fun k => f k && !g k) = cntR P f := by
  induction P with
  | zero => rfl
  | succ P ih =>
    rw [cnt.cntR_succ, cnt.cntR_succ, cnt.cntR_succ]
    cases f P <;> cases g P <;> simp <;> omega
theorem one_T (A L : List Int) : cnfT A [L] = clT A L := by
  unfold tr.cnfT
  simp
theorem join_count {m : Nat} {LL : List (List Int)} {L : List Int} (hm : m ≤ 14) (h : cnfB (m : Int) LL = true) (hL : clB (m : Int) L = true) (hl : LL.length + 1 ≤ 120) :
    (countI (m : Int) (LL ++ [L]) == countI (m : Int) LL) = impB (m : Int) LL L ∧ impB (m : Int) (LL ++ [L]) L = true := by
  have hn : cnfB (m : Int) (LL ++ [L]) = true := cnfB_app h (by simp [hL]) (by simpa using hl)
  have e : (fun k => cnfT (asg m k []) (LL ++ [L])) = (fun k => cnfT (asg m k []) LL && clT (asg m k []) L) := by
    funext k
    rw [cnfT_app, one_T]
  constructor
  · rw [imp_eq hm h hL, count_eq hm hn, count_eq hm h, e]
    have s := cnt_split (2 ^ m) (fun k => cnfT (asg m k []) LL) (fun k => clT (asg m k []) L)
    rw [Bool.eq_iff_iff]
    simp only [beq_iff_eq, decide_eq_true_iff]
    omega
  · rw [imp_eq hm hn hL]
    have e2 : (fun k => cnfT (asg m k []) (LL ++ [L]) && !clT (asg m k []) L) = (fun _ => false) := by
      funext k
      rw [cnfT_app, one_T]
      cases cnfT (asg m k []) LL <;> cases clT (asg m k []) L <;> rfl
    rw [e2]
    unfold cnt.cntR
    simp
end Go.Proofs.YtapkckfgbimmcaaDoor.mi
namespace Go.Proofs.YtapkckfgbimmcaaDoor.ks
open Go.Proofs.YtapkckfgbimmcaaDoor.lq (Bits holds solveL lst lst_none lst_some)
open Go.Proofs.YtapkckfgbimmcaaDoor.km (plc wdB left_)
open Go.Proofs.YtapkckfgbimmcaaDoor.cnt (C)
open Go.Proofs.YtapkckfgbimmcaaDoor.ct (countI)
open Go.Proofs.YtapkckfgbimmcaaDoor.tr (cnfT litT)
open Go.Proofs.YtapkckfgbimmcaaDoor.cls (hasB)
open Go.Proofs.YtapkckfgbimmcaaDoor.srt (litI)
open Go.Proofs.YtapkckfgbimmcaaDoor.ok (cnfB litIn clB)
set_option linter.unusedVariables false
theorem C_none {n : Nat} : ∀ {f : List Int → Bool}, C n f = 0 ↔ lst n f = none := by
  induction n with
  | zero =>
    intro f
    show (if f [] then 1 else 0) = 0 ↔ (if f [] then some [] else none) = none
    cases f [] <;> simp
  | succ n ih =>
    intro f
    show C n (fun l => f (0 :: l)) + C n (fun l => f (1 :: l)) = 0 ↔ (match lst n (fun l => f (0 :: l)) with
      | some l => some (0 :: l)
      | none => (lst n (fun l => f (1 :: l))).map (1 :: ·)) = none
    have i0 := ih (f := fun l => f (0 :: l))
    have i1 := ih (f := fun l => f (1 :: l))
    cases h0 : lst n (fun l => f (0 :: l)) with
    | some l =>
      rw [h0] at i0
      constructor
      · intro h
        have := i0.1 (by omega)
        cases this
      · intro h; cases h
    | none =>
      have z := i0.2 h0
      rw [z, Nat.zero_add, i1]
      simp
theorem holds_nil {LL : List (List Int)} {A : List Int} : holds LL [] A = cnfT A LL := by
  unfold lq.holds
  simp
theorem count_C {m : Nat} {LL : List (List Int)} (hm : m ≤ 14) (h : cnfB (m : Int) LL = true) : countI (m : Int) LL = (C m (holds LL []) : Int) := by
  rw [mi.count_eq hm h, ← cnt.cnt_asg]
  congr 2
  funext k
  rw [holds_nil]
theorem count_zero {m : Nat} {LL : List (List Int)} (hm : m ≤ 14) (h : cnfB (m : Int) LL = true) : countI (m : Int) LL = 0 ↔ solveL (m : Int) LL [] = none := by
  rw [count_C hm h, solve_yes (a := []) h rfl]
  show _ ↔ lst m _ = none
  rw [← C_none]
  have e : (fun l => holds LL [] ([] ++ l)) = holds LL [] := rfl
  rw [e]
  omega
theorem count_pos {m : Nat} {LL : List (List Int)} (hm : m ≤ 14) (h : cnfB (m : Int) LL = true) : 0 ≤ countI (m : Int) LL := by
  rw [count_C hm h]
  omega
theorem good_cnf {n : Int} {M : List (List Int)} (h : 1 ≤ n ∧ n ≤ 6) (hl : (M.length : Int) ≤ 4 * n + 2) (hg : M.all (dcn.good n) = true) : cnfB n M = true := by
  unfold ok.cnfB
  rw [decide_eq_true (by omega), decide_eq_true (by omega), Bool.true_and, Bool.true_and, List.all_eq_true]
  intro L hL
  have := List.all_eq_true.1 hg L hL
  unfold dcn.good at this
  rw [Bool.and_eq_true, decide_eq_true_iff, List.all_eq_true] at this
  unfold ok.clB
  rw [Bool.and_eq_true, decide_eq_true_iff, List.all_eq_true]
  refine ⟨fun x hx => ?_, by omega⟩
  have q := this.2 x hx
  rw [decide_eq_true_iff] at q
  have ho : lits.okB x = true := by rw [lits.okB_iff]; omega
  unfold ok.litIn
  rw [ho, Bool.true_and, decide_eq_true_iff]
  unfold lits.varI
  rw [ho, if_pos rfl]
  split <;> omega
/-- one of a variable's literals can be true where there is an answer at all -/
theorem can_one {m : Nat} {LL : List (List Int)} {k : Nat} {l : List Int} (h24 : m ≤ 24) (hc : cnfB (m : Int) LL = true) (hk : k < m) (hs : solveL (m : Int) LL [] = some l) : can1 (m : Int) LL ((k : Int) + 1) = false → can1 (m : Int) LL (-((k : Int) + 1)) = true := by
  intro h
  have hs' := hs
  rw [solve_yes (a := []) hc rfl] at hs'
  have hl := lst_some hs'
  have c1 := can_iff (LL := LL) (b := 2 * k + 1) h24 hc (by omega)
  have c0 := can_iff (LL := LL) (b := 2 * k) h24 hc (by omega)
  rw [srt.litI_even] at c0
  rw [srt.litI_odd, Int.neg_neg] at c1
  cases q : can1 (m : Int) LL (-((k : Int) + 1)) with
  | true => rfl
  | false =>
    have a0 := c0.1 q l hl.1 hl.2
    have a1 := c1.1 h l hl.1 hl.2
    have := km.wd_one hl.1.2 a0
    rw [show srt.swp (2 * k) = 2 * k + 1 by unfold srt.swp; split <;> omega, a1] at this
    cases this
theorem mem_bbs {n : Int} {LL : List (List Int)} {x : Int} : ∀ {j : Nat}, x ∈ bbs n LL j ↔ ∃ k, k < j ∧ ((x = (k : Int) + 1 ∧ can1 n LL (-((k : Int) + 1)) = false) ∨ (x = -((k : Int) + 1) ∧ can1 n LL ((k : Int) + 1) = false)) := by
  intro j
  induction j with
  | zero => simp [bbs]
  | succ j ih =>
    show x ∈ (bbs n LL j ++ if can1 n LL (-((j : Int) + 1)) then [] else [(j : Int) + 1]) ++ (if can1 n LL ((j : Int) + 1) then [] else [-((j : Int) + 1)]) ↔ _
    rw [List.mem_append, List.mem_append, ih]
    constructor
    · rintro ((⟨k, h1, h2⟩ | h) | h)
      · exact ⟨k, by omega, h2⟩
      · split at h
        · cases h
        · rename_i z
          simp at h
          exact ⟨j, by omega, .inl ⟨h, by simpa using z⟩⟩
      · split at h
        · cases h
        · rename_i z
          simp at h
          exact ⟨j, by omega, .inr ⟨by omega, by simpa using z⟩⟩
    · rintro ⟨k, h1, h2⟩
      by_cases e : k < j
      · exact .inl (.inl ⟨k, e, h2⟩)
      · obtain rfl : k = j := by omega
        rcases h2 with ⟨h2, h3⟩ | ⟨h2, h3⟩
        · left; right
          rw [h3]
          simp [h2]
        · right
          rw [h3]
          simp [h2]
theorem has_pos {m : Nat} {LL : List (List Int)} {k : Nat} (hk : k < m) : hasB (bbs (m : Int) LL m) ((k : Int) + 1) = !can1 (m : Int) LL (-((k : Int) + 1)) := by
  unfold cls.hasB
  cases q : can1 (m : Int) LL (-((k : Int) + 1)) with
  | false => rw [decide_eq_true (mem_bbs.2 ⟨k, hk, .inl ⟨rfl, q⟩⟩)]; rfl
  | true =>
    rw [decide_eq_false]
    · rfl
    · intro h
      obtain ⟨j, _, ⟨h1, h2⟩ | ⟨h1, h2⟩⟩ := mem_bbs.1 h
      · obtain rfl : j = k := by omega
        rw [q] at h2; cases h2
      · omega
theorem has_neg {m : Nat} {LL : List (List Int)} {k : Nat} (hk : k < m) : hasB (bbs (m : Int) LL m) (-((k : Int) + 1)) = !can1 (m : Int) LL ((k : Int) + 1) := by
  unfold cls.hasB
  cases q : can1 (m : Int) LL ((k : Int) + 1) with
  | false => rw [decide_eq_true (mem_bbs.2 ⟨k, hk, .inr ⟨rfl, q⟩⟩)]; rfl
  | true =>
    rw [decide_eq_false]
    · rfl
    · intro h
      obtain ⟨j, _, ⟨h1, h2⟩ | ⟨h1, h2⟩⟩ := mem_bbs.1 h
      · omega
      · obtain rfl : j = k := by omega
        rw [q] at h2; cases h2
end Go.Proofs.YtapkckfgbimmcaaDoor.ks
namespace Go.Proofs.YtapkckfgbimmcaaDoor.ks
open Go.ChangeShapes Go.WideShapes Go.ChangeAt Go.RowKit
open Go.Proofs.YtapkckfgbimmcaaDoor.kd (SV Slv)
open Go.Proofs.YtapkckfgbimmcaaDoor.km (left_)
open Go.Proofs.YtapkckfgbimmcaaDoor.lq (solveL FromE lits_in solve_no made_sub made_nilD nil_one one_nil one_own)
open Go.Proofs.YtapkckfgbimmcaaDoor.as_ (tl litAt)
open Go.Proofs.YtapkckfgbimmcaaDoor.srt (Tab)
open Go.Proofs.YtapkckfgbimmcaaDoor.bset (setOf setOf_lt placeN)
open Go.Proofs.YtapkckfgbimmcaaDoor.css (Sls tot)
open Go.Proofs.YtapkckfgbimmcaaDoor.cf (Box)
open Go.Proofs.YtapkckfgbimmcaaDoor.ok (cnfB litIn)
open Go.Proofs.YtapkckfgbimmcaaDoor.tr (assignB bitB)
open Go.Proofs.YtapkckfgbimmcaaDoor.wo (Made)
open Go.Proofs.YtapkckfgbimmcaaDoor.sl (Sl ints hide unhide grown_refl grown_trans)
set_option linter.unusedVariables false
def nextL (n : Int) (LL : List (List Int)) (a : List Int) : Nat → Option (List Int)
  | 0 => none
  | k + 1 => if a.getD k 0 = 1 then nextL n LL a k else match solveL n LL ((tl 0 a).take k ++ [(k : Int) + 1]) with
    | some l => some l
    | none => nextL n LL a k
/-- what Next answers -/
def nextO (n : Int) (LL : List (List Int)) (a : List Int) : Option (List Int) := if assignB n LL a then nextL n LL a n.toNat else none
theorem next_one {n : Int} {LL : List (List Int)} {a : List Int} {k : Nat} (h : a.getD k 0 = 1) : nextL n LL a (k + 1) = nextL n LL a k := if_pos h
theorem next_some {n : Int} {LL : List (List Int)} {a l : List Int} {k : Nat} (h : ¬ a.getD k 0 = 1) (hs : solveL n LL ((tl 0 a).take k ++ [(k : Int) + 1]) = some l) : nextL n LL a (k + 1) = some l := by
  rw [nextL, if_neg h, hs]
theorem next_none {n : Int} {LL : List (List Int)} {a : List Int} {k : Nat} (h : ¬ a.getD k 0 = 1) (hs : solveL n LL ((tl 0 a).take k ++ [(k : Int) + 1]) = none) : nextL n LL a (k + 1) = nextL n LL a k := by
  rw [nextL, if_neg h, hs]
theorem next_len (n : Int) (LL : List (List Int)) (a : List Int) : ((nextO n LL a).getD []).length ≤ 24 := by
  have key : ∀ k, ((nextL n LL a k).getD []).length ≤ 24 := by
    intro k
    induction k with
    | zero => exact Nat.zero_le _
    | succ k ih =>
      by_cases h : a.getD k 0 = 1
      · rw [next_one h]; exact ih
      · cases hs : solveL n LL ((tl 0 a).take k ++ [(k : Int) + 1]) with
        | none => rw [next_none h hs]; exact ih
        | some l =>
          rw [next_some h hs]
          have := solve_len n LL ((tl 0 a).take k ++ [(k : Int) + 1])
          rw [hs] at this
          exact this
  unfold nextO
  split
  · exact key _
  · exact Nat.zero_le _
theorem as_parts {n : Int} {LL : List (List Int)} {a : List Int} (h : assignB n LL a = true) : cnfB n LL = true ∧ (a.length : Int) = n ∧ ∀ x ∈ a, x = 0 ∨ x = 1 := by
  unfold tr.assignB at h
  rw [Bool.and_eq_true, Bool.and_eq_true, decide_eq_true_iff, List.all_eq_true] at h
  refine ⟨h.1.1, h.1.2, fun x hx => ?_⟩
  have := h.2 x hx
  unfold tr.bitB at this
  simp at this
  omega
theorem in_pm {n j : Nat} (h24 : n ≤ 24) (h : j < n) : litIn (n : Int) ((j : Int) + 1) = true ∧ litIn (n : Int) (-(j : Int) - 1) = true := by
  have key : ∀ x : Int, (x = (j : Int) + 1 ∨ x = -(j : Int) - 1) → litIn (n : Int) x = true := by
    intro x hx
    have ho : lits.okB x = true := by rw [lits.okB_iff]; omega
    unfold ok.litIn
    rw [ho, Bool.true_and, decide_eq_true_iff]
    unfold lits.varI
    rw [ho, if_pos rfl]
    split <;> omega
  exact ⟨key _ (.inl rfl), key _ (.inr rfl)⟩
theorem tl_form (l : List Int) : ∀ k, ∀ x ∈ tl k l, ∃ j, k ≤ j ∧ j < k + l.length ∧ (x = (j : Int) + 1 ∨ x = -(j : Int) - 1) := by
  induction l with
  | nil => intro k x hx; cases hx
  | cons y l ih =>
    intro k x hx
    rw [as_.tl, List.mem_cons] at hx
    rcases hx with rfl | hx
    · refine ⟨k, Nat.le_refl _, by simp, ?_⟩
      unfold as_.litAt
      split
      · exact .inl rfl
      · exact .inr rfl
    · obtain ⟨j, h1, h2, h3⟩ := ih (k + 1) x hx
      exact ⟨j, by omega, by rw [List.length_cons]; omega, h3⟩
theorem tl_in {a : List Int} (h24 : a.length ≤ 24) {k : Nat} (hk : k < a.length) : ∀ x ∈ (tl 0 a).take k ++ [(k : Int) + 1], litIn (a.length : Int) x = true := by
  intro x hx
  rw [List.mem_append] at hx
  rcases hx with hx | hx
  · obtain ⟨j, _, h2, h3⟩ := tl_form a 0 x (List.mem_of_mem_take hx)
    have := in_pm (j := j) h24 (by omega)
    rcases h3 with rfl | rfl
    · exact this.1
    · exact this.2
  · simp at hx
    subst hx
    exact (in_pm h24 hk).1
theorem own_take {w : World} {lo g n cap k : Nat} {t : TypeId} {xs : List Value} (h : w.ownsRow lo t 1 (.slice (some ⟨g, 0, none⟩) n cap) n xs) (hk : k ≤ n) : w.ownsRow lo t 1 (.slice (some ⟨g, 0, none⟩) k cap) k (xs.take k) := by
  obtain ⟨hl, h2⟩ := h
  refine ⟨by rw [List.length_take]; omega, ?_⟩
  rcases h2 with ⟨e, _⟩ | ⟨g', cap', cur, e, hb, hg, hn, hm, hc, ht⟩
  · cases e
  · injection e with e1 e2 e3
    injection e1 with e1
    injection e1 with e1
    subst e1
    subst e3
    refine .inr ⟨g, cap, cur, rfl, hb, hg, by omega, hm, hc, ?_⟩
    rw [← ht, List.take_take]
    congr 1
    omega
theorem own_pre {w : World} {lo g cap k : Nat} {L : List Int} (h : w.ownsRow lo 3 1 (.slice (some ⟨g, 0, none⟩) L.length cap) L.length (ints L)) (hk : k ≤ L.length) : sl.Own lo w.heap.size w (.slice (some ⟨g, 0, none⟩) k cap) (L.take k) := by
  have h1 := own_take h hk
  have e : (ints L).take k = ints (L.take k) := by simp [sl.ints]
  rw [e] at h1
  have e2 : (L.take k).length = k := by rw [List.length_take]; omega
  exact ⟨by rw [e2]; exact h1, fun j hj => (h1.lt j hj).2⟩
set_option maxRecDepth 100000 in
set_option maxHeartbeats 8000000 in
theorem implNext (v u : Value) (n : Int) (LL : List (List Int)) (a : List Int) (w : World) (hT : Tab w) (hn : tot LL ≤ 1048576) (ha : a.length ≤ 1048576) (hv : Sls w v LL) (hu : Sl w u a) :
    Calls Tryd.prog 23 #[.agg #[.int .i64 n, v], u] w fun e w' => FromE w (nextO n LL a) e w' := by
  have g0 := World.grownBy_alloc w (.cells #[.int .i64 n, v] 26) none
  have C1 := tr.implAssignOk v u n LL a _ hn ha (hv.kept g0) (hu.kept g0 (.inl rfl))
  have F0 := hide (Box.new 26 w (.int .i64 n) v)
  have HU := hide (hu.kept g0 (.inl rfl))
  have HV := hide (hv.kept g0)
  have HT := hide (hT.kept g0)
  have G0 := hide g0
  have x0 := (unhide F0).c0
  have x1 := (unhide F0).c1
  clear g0 hv hu hT
  cases hc : assignB n LL a
  · rw [hc] at C1
    have CC := hide C1
    rw [show nextO n LL a = none by unfold nextO; rw [hc]; rfl]
    clear C1 hc HV HU
    go_enter Tryd.func23, Tryd.ntmps23
    go_wp2_with fail
    refine (unhide CC).mono ?_; rintro e w1 ⟨rfl, g1⟩
    have G1 := hide (grown_trans (r := none) (unhide G0) g1)
    clear g1 CC x0 x1
    go_wp2_with fail
    go_ret2
    exact ⟨_, rfl, made_sub (unhide G1) (app.made_nil _)⟩
  rw [hc] at C1
  have CC := hide C1
  obtain ⟨hcn, hal, hbt⟩ := as_parts hc
  obtain ⟨m, rfl, h24, h120⟩ := cnf_parts hcn
  have hlm : a.length = m := by omega
  have EO : nextO (m : Int) LL a = nextL (m : Int) LL a m := by unfold nextO; rw [hc]; rfl
  rw [EO]
  have HC := hide hcn
  have hB : Hid (lq.Bits m a) := ⟨hlm, hbt⟩
  subst hlm
  clear C1 hc hcn EO hal
  obtain ⟨ua, uc, rfl, hcell⟩ := unhide HU
  have HCE := hide hcell
  clear hcell
  go_enter Tryd.func23, Tryd.ntmps23
  go_wp2_with fail
  refine (unhide CC).mono ?_; rintro e w1 ⟨rfl, g1⟩
  have G1 := hide (grown_trans (r := none) (unhide G0) g1)
  have F1 := hide ((unhide F0).kept g1)
  have T1 := hide ((unhide HT).kept g1)
  have U1 := hide ((unhide HU).kept g1 (.inl rfl))
  have CS := hide (solverOf v a.length LL w1 (unhide T1) h24 h120 hn (lits_in (unhide HC)) ((unhide HV).kept g1))
  have y0 := (unhide F1).c0
  have y1 := (unhide F1).c1
  have GW := hide g1
  clear g1 CC x0 x1 G0 F0 HV HT
  go_wp2_with fail
  refine (unhide CS).mono ?_; rintro e w2 ⟨c, s, rfl, h1, h2, g2⟩
  have H1 := hide h1
  have H2 := hide h2
  have G2 := hide (grown_trans (r := none) (unhide G1) g2)
  have T2 := hide ((unhide T1).kept g2)
  have U2 := hide ((unhide U1).kept g2 (.inl rfl))
  have CT := hide (as_.trueLiterals _ a w2 ha (unhide U2))
  replace GW := hide (grown_trans (r := none) (unhide GW) g2)
  clear h1 h2 g2 y0 y1 CS G1 F1 T1 U1
  go_wp2_with fail
  refine (unhide CT).mono ?_; rintro e w3 ⟨u3, rfl, o3, g3⟩
  have O3 := hide o3
  have G3 := hide g3
  obtain ⟨pa, pc, rfl⟩ := row_form o3
  rw [as_.tl_len] at *
  clear o3 g3 CT HU
  go_wp2_with fail
  go_loopw [8] (fun i wr => ∃ (j : Int) (k : Nat), k ≤ a.length ∧ i = .int .i64 j ∧ j = (k : Int) - 1 ∧ Hid (nextL (a.length : Int) LL a a.length = nextL (a.length : Int) LL a k) ∧ Hid (w3.grownBy wr none)) (fun i _ => (intOf i + 1).toNat)
  case atStart => exact ⟨_, a.length, Nat.le_refl _, rfl, by go_num, rfl, grown_refl _⟩
  case round =>
    obtain ⟨j, k, hk, rfl, hj, hnx, hg⟩ := hrel
    cases k with
    | zero =>
      obtain rfl : j = -1 := by omega
      clear hj
      go_wp2_with fail
      go_ret2
      rw [unhide hnx]
      exact ⟨_, rfl, made_sub (grown_trans (unhide G2) (grown_trans (unhide G3) (unhide hg))) (app.made_nil _)⟩
    | succ k =>
      obtain rfl : j = (k : Int) := by omega
      clear hj
      have hlt : k < a.length := hk
      rcases unhide HCE with h | ⟨b, off, rfl, hbl, hcb⟩
      · rw [h] at hlt
        simp at hlt
      · have c1 := (grown_trans (r := none) (unhide GW) (grown_trans (r := none) (unhide G3) (unhide hg))).cell (hcb k hlt) (fun e => by cases e)
        have hi' : (k : Int) < (a.length : Int) := by omega
        obtain ⟨g, cap, e, _⟩ := (unhide O3).form (by omega)
        rw [Value.slice.injEq] at e
        obtain ⟨rfl, hz, rfl⟩ := e
        clear hz
        have hcap : a.length ≤ pc := by
          rcases (unhide O3).2 with ⟨e, _⟩ | ⟨g', cap', cur, e, _, _, hn', _⟩
          · cases e
          · rw [Value.slice.injEq] at e
            obtain ⟨_, _, rfl⟩ := e
            exact hn'
        have hcapi : (k : Int) ≤ (pc : Int) := by omega
        by_cases h1 : a.getD k 0 = 1
        · have N := hide ((unhide hnx).trans (next_one h1))
          rw [h1] at c1
          clear hcb h1 hnx
          go_wp2_with fail
          go_roundw
          case rel => exact ⟨_, k, by omega, rfl, by go_num, unhide N, unhide hg⟩
          case measure => simp [intOf]
        · have og := (unhide O3).kept (unhide hg) (.inr (fun e => by cases e))
          have op := own_pre (L := tl 0 a) (k := k) (by rw [as_.tl_len]; exact og) (by rw [as_.tl_len]; omega)
          have CL := hide (bset.litsOf _ _ wr (by rw [List.length_take]; omega) op.sl)
          have hpl := srt.place_pos k (by omega)
          have CW := fun w' => bset.withC (setOf ((tl 0 a).take k)) ((k : Int) + 1) w' (setOf_lt _) hpl.1
          have es : bset.withN (setOf ((tl 0 a).take k)) ((k : Int) + 1) = setOf ((tl 0 a).take k ++ [(k : Int) + 1]) := by
            rw [bset.setOf_snoc, hpl.1]
            rfl
          rw [es] at CW
          have CW' := hide CW
          have hin := tl_in h24 hlt
          have GG := hide (grown_trans (r := none) (unhide G3) (unhide hg))
          have CB := leastAssignment a.length LL _ s c (unhide H2) hin wr ((unhide H1).kept (unhide GG)) ((unhide T2).kept (unhide GG))
          rw [← solve_yes (unhide HC) (List.all_eq_true.2 hin)] at CB
          have NS := hide (next_some (n := (a.length : Int)) (LL := LL) (l := (solveL (a.length : Int) LL ((tl 0 a).take k ++ [(k : Int) + 1])).getD []) h1)
          have NN := hide (next_none (n := (a.length : Int)) (LL := LL) h1)
          unfold lq.FromE at CB
          have CB' := hide CB
          have hne : ¬ a.getD k 0 = 1 := h1
          clear CB CW es op og hcb h1 hin
          generalize a.getD k 0 = y at *
          generalize setOf ((tl 0 a).take k ++ [(k : Int) + 1]) = Z at *
          generalize setOf ((tl 0 a).take k) = Y at *
          generalize solveL (a.length : Int) LL ((tl 0 a).take k ++ [(k : Int) + 1]) = O at *
          go_wp2_with fail
          refine (unhide CL).mono ?_; rintro e w4 ⟨rfl, hw⟩; have hw' := hw.symm; clear hw; subst hw'
          go_wp2_with fail
          refine (unhide CW' _).mono ?_; rintro e w4 ⟨rfl, hw⟩; have hw' := hw.symm; clear hw; subst hw'
          go_wp2_with fail
          refine (unhide CB').mono ?_; rintro e w4 ⟨r, rfl, m4⟩
          have M4 := hide m4
          cases O with
          | none =>
            have N := hide ((unhide hnx).trans (unhide NN rfl))
            have G4 := hide (grown_trans (r := none) (unhide hg) m4.2)
            clear m4 NN NS CB' CW' CL
            go_wp2_with fail
            go_roundw
            case rel => exact ⟨_, k, by omega, rfl, by go_num, unhide N, unhide G4⟩
            case measure => simp [intOf]
          | some l =>
            have N := hide ((unhide hnx).trans (unhide NS rfl))
            clear m4 NN NS CB' CW' CL
            go_wp2_with fail
            go_ret2
            rw [unhide N]
            exact ⟨_, rfl, made_sub (grown_trans (unhide G2) (unhide GG)) (unhide M4)⟩
theorem wrapP {i : Nat} (h : i < 24) : IntKind.i64.wrap ((i : Int) + 1) = (i : Int) + 1 := by
  have key : ∀ j : Fin 24, IntKind.i64.wrap ((j.val : Int) + 1) = (j.val : Int) + 1 := by decide
  exact key ⟨i, h⟩
theorem callS {v : Value} {n : Int} {LL : List (List Int)} {B : List Int} {wr w3 : World} {v2 : Value} (hn : tot LL ≤ 1048576) (hB : B.length ≤ 1048576) (hv : Sls wr v LL) (m : Made wr w3 v2 B) :
    Calls Tryd.prog 39 #[.agg #[.int .i64 n, v], v2] w3 fun e w' => ∃ r, e = .returned (.tuple #[r, .bool (solveL n LL B).isSome]) ∧ Made w3 w' r ((solveL n LL B).getD []) :=
  lq.specSolveWith v v2 n LL B _ _ w3 hn hB (hv.kept m.2) (sl.Own.of m.1)
set_option maxRecDepth 100000 in
set_option maxHeartbeats 8000000 in
theorem specNext (v u : Value) (n : Int) (LL : List (List Int)) (a : List Int) (w : World) (hn : tot LL ≤ 1048576) (ha : a.length ≤ 1048576) (hv : Sls w v LL) (hu : Sl w u a) :
    Calls Tryd.prog 41 #[.agg #[.int .i64 n, v], u] w fun e w' => FromE w (nextO n LL a) e w' := by
  have g0 := World.grownBy_alloc w (.cells #[.int .i64 n, v] 26) none
  have C1 := tr.specAssignOk v u n LL a _ hn ha (hv.kept g0) (hu.kept g0 (.inl rfl))
  have F0 := hide (Box.new 26 w (.int .i64 n) v)
  have HU := hide (hu.kept g0 (.inl rfl))
  have HV := hide (hv.kept g0)
  have G0 := hide g0
  have x0 := (unhide F0).c0
  have x1 := (unhide F0).c1
  clear g0 hv hu
  cases hc : assignB n LL a
  · rw [hc] at C1
    have CC := hide C1
    rw [show nextO n LL a = none by unfold nextO; rw [hc]; rfl]
    clear C1 hc HV HU
    go_enter Tryd.func41, Tryd.ntmps41
    go_wp2_with fail
    refine (unhide CC).mono ?_; rintro e w1 ⟨rfl, g1⟩
    have G1 := hide (grown_trans (r := none) (unhide G0) g1)
    clear g1 CC x0 x1
    go_wp2_with fail
    go_ret2
    exact ⟨_, rfl, made_sub (unhide G1) (app.made_nil _)⟩
  rw [hc] at C1
  have CC := hide C1
  obtain ⟨hcn, hal, hbt⟩ := as_parts hc
  obtain ⟨m, rfl, h24, h120⟩ := cnf_parts hcn
  have hlm : a.length = m := by omega
  have EO : nextO (m : Int) LL a = nextL (m : Int) LL a m := by unfold nextO; rw [hc]; rfl
  rw [EO]
  subst hlm
  clear C1 hc hcn EO hal hbt
  obtain ⟨ua, uc, rfl, hcell⟩ := unhide HU
  have HCE := hide hcell
  clear hcell
  go_enter Tryd.func41, Tryd.ntmps41
  go_wp2_with fail
  refine (unhide CC).mono ?_; rintro e w2 ⟨rfl, g1⟩
  have G2 := hide (grown_trans (r := none) (unhide G0) g1)
  have F1 := hide ((unhide F0).kept g1)
  have U1 := hide ((unhide HU).kept g1 (.inl rfl))
  have V1 := hide ((unhide HV).kept g1)
  have CT := hide (as_.l03Lits _ a w2 ha (unhide U1))
  have GW := hide g1
  clear g1 CC x0 x1 G0 F0 HV
  go_wp2_with fail
  refine (unhide CT).mono ?_; rintro e w3 ⟨u3, rfl, o3, g3⟩
  have O3 := hide o3
  have G3 := hide g3
  have F3 := hide ((unhide F1).kept g3)
  have V3 := hide ((unhide V1).kept g3)
  obtain ⟨pa, pc, rfl⟩ := row_form o3
  rw [as_.tl_len] at *
  have y0 := (unhide F3).c0
  have y1 := (unhide F3).c1
  clear o3 g3 CT HU U1 F1 V1
  go_wp2_with fail
  clear y0 y1
  go_loopw [7] (fun i wr => ∃ (j : Int) (k : Nat), k ≤ a.length ∧ i = .int .i64 j ∧ j = (k : Int) - 1 ∧ Hid (nextL (a.length : Int) LL a a.length = nextL (a.length : Int) LL a k) ∧ Hid (w3.grownBy wr none)) (fun i _ => (intOf i + 1).toNat)
  case atStart => exact ⟨_, a.length, Nat.le_refl _, rfl, by go_num, rfl, grown_refl _⟩
  case round =>
    obtain ⟨j, k, hk, rfl, hj, hnx, hg⟩ := hrel
    cases k with
    | zero =>
      obtain rfl : j = -1 := by omega
      clear hj
      go_wp2_with fail
      go_ret2
      rw [unhide hnx]
      exact ⟨_, rfl, made_sub (grown_trans (unhide G2) (grown_trans (unhide G3) (unhide hg))) (app.made_nil _)⟩
    | succ k =>
      obtain rfl : j = (k : Int) := by omega
      clear hj
      have hlt : k < a.length := hk
      rcases unhide HCE with h | ⟨b, off, rfl, hbl, hcb⟩
      · rw [h] at hlt
        simp at hlt
      · have c1 := (grown_trans (r := none) (unhide GW) (grown_trans (r := none) (unhide G3) (unhide hg))).cell (hcb k hlt) (fun e => by cases e)
        have hi' : (k : Int) < (a.length : Int) := by omega
        obtain ⟨g, cap, e, _⟩ := (unhide O3).form (by omega)
        rw [Value.slice.injEq] at e
        obtain ⟨rfl, hz, rfl⟩ := e
        clear hz
        have hcap : a.length ≤ pc := by
          rcases (unhide O3).2 with ⟨e, _⟩ | ⟨g', cap', cur, e, _, _, hn', _⟩
          · cases e
          · rw [Value.slice.injEq] at e
            obtain ⟨_, _, rfl⟩ := e
            exact hn'
        have hcapi : (k : Int) ≤ (pc : Int) := by omega
        by_cases h1 : a.getD k 0 = 1
        · have N := hide ((unhide hnx).trans (next_one h1))
          rw [h1] at c1
          clear hcb h1 hnx
          go_wp2_with fail
          go_roundw
          case rel => exact ⟨_, k, by omega, rfl, by go_num, unhide N, unhide hg⟩
          case measure => simp [intOf]
        · have og := (unhide O3).kept (unhide hg) (.inr (fun e => by cases e))
          have U2 := hide (own_pre (L := tl 0 a) (k := k) (by rw [as_.tl_len]; exact og) (by rw [as_.tl_len]; omega))
          have F2 := hide ((unhide F3).kept (unhide hg))
          have V2 := hide ((unhide V3).kept (unhide hg))
          have GG := hide (grown_trans (r := none) (unhide G3) (unhide hg))
          have z0 := (unhide F2).c0
          have z1 := (unhide F2).c1
          have hBl : ((tl 0 a).take k).length = k := by rw [List.length_take, as_.tl_len]; omega
          have NS := hide (next_some (n := (a.length : Int)) (LL := LL) (l := (solveL (a.length : Int) LL ((tl 0 a).take k ++ [(k : Int) + 1])).getD []) h1)
          have NN := hide (next_none (n := (a.length : Int)) (LL := LL) h1)
          have hwr : IntKind.i64.wrap ((k : Int) + 1) = (k : Int) + 1 := wrapP (by omega)
          have CI := hide (fun v2 w4 (m : Made wr w4 v2 ((tl 0 a).take k ++ [IntKind.i64.wrap ((k : Int) + 1)])) => callS (n := (a.length : Int)) (B := (tl 0 a).take k ++ [(k : Int) + 1]) hn (by rw [List.length_append, hBl]; simp; omega) (unhide V2) (by rw [hwr] at m; exact m))
          clear hwr
          have hne0 : ¬ a.getD k 0 = 1 := h1
          have hlo := (unhide F2).lt
          clear og hcb h1
          generalize a.getD k 0 = y at *
          generalize solveL (a.length : Int) LL ((tl 0 a).take k ++ [(k : Int) + 1]) = O at *
          generalize hBB : (tl 0 a).take k = B at *
          have HBL := hide hBl
          have hab0 : B.length ≤ 24 := by omega
          clear hBl hBB
          go_wp2_with fail
          have hA1 : Hid (wr.grownBy (wr.alloc (.cells #[] 3)).drew none) := hide (grown_trans (World.grownBy_alloc _ _ none) (cf.grown_drew _ none))
          have ho1 := hide (made_nilD wr)
          have hu1 := hide ((unhide U2).kept (unhide hA1))
          have hA2 : Hid (wr.grownBy ((wr.alloc (.cells #[] 3)).alloc (.cells #[.int .i64 (IntKind.i64.wrap ((k : Int) + 1))] 3)).drew none) := hide (grown_trans (grown_trans (r := none) (World.grownBy_alloc _ _ none) (World.grownBy_alloc _ _ none)) (cf.grown_drew _ none))
          have ho2 := hide (nil_one wr (IntKind.i64.wrap ((k : Int) + 1)))
          have hu2 := hide ((unhide U2).kept (unhide hA2))
          have hA3 : Hid (wr.grownBy ((wr.alloc (.cells #[.int .i64 (IntKind.i64.wrap ((k : Int) + 1))] 3)).alloc (.cells #[] 3)).drew none) := hide (grown_trans (grown_trans (r := none) (World.grownBy_alloc _ _ none) (World.grownBy_alloc _ _ none)) (cf.grown_drew _ none))
          have ho3 := hide (one_nil wr (IntKind.i64.wrap ((k : Int) + 1)))
          have hu3 := hide ((unhide U2).kept (unhide hA3))
          have hne : ¬ w.heap.size = wr.heap.size := by omega
          have hne2 : ¬ w.heap.size = wr.heap.size + 1 := by omega
          have hab : B.length + 1 ≤ 4194304 := by omega
          have hab1 : 0 + B.length ≤ 4194304 := by omega
          go_region_law
            (first
              | (go_simp; go_at_call 39; refine (unhide CI _ _ (unhide M3)).mono ?_; rintro e w4 ⟨r, rfl, m4⟩; have M4 := hide (made_sub (unhide M3).2 m4); clear m4)
              | (refine app.stepI (A := []) (unhide hA1) (unhide ho1) (unhide hu1) hab1 (by rfl) _ _ (by rfl) (by rfl) (by rfl) ?_; intro v2 w2 m2 g2; have M2 : Hid (Made wr w2 v2 B) := hide m2; have kb0 := (((unhide F2).kept (unhide M2).2).kept (World.grownBy_alloc w2 (.cells #[.int .i64 (IntKind.i64.wrap ((k : Int) + 1))] 3) none)).c0; have kb1 := (((unhide F2).kept (unhide M2).2).kept (World.grownBy_alloc w2 (.cells #[.int .i64 (IntKind.i64.wrap ((k : Int) + 1))] 3) none)).c1; have k0 := ((unhide F2).kept (unhide M2).2).c0; have k1 := ((unhide F2).kept (unhide M2).2).c1; have hn2 : ¬ w.heap.size = w2.heap.size := Nat.ne_of_lt ((unhide F2).kept (unhide M2).2).lt; clear m2 g2)
              | (refine app.stepI (A := []) (unhide hA2) (unhide ho2).1 (unhide hu2) hab1 (by rfl) _ _ (by rfl) (by rfl) (by rfl) ?_; intro v2 w2 m2 g2; have M2 : Hid (Made wr w2 v2 B) := hide m2; have XB := hide ((unhide ho2).2 w2 g2); have k0 := ((unhide F2).kept (unhide M2).2).c0; have k1 := ((unhide F2).kept (unhide M2).2).c1; have hn2 : ¬ w.heap.size = w2.heap.size := Nat.ne_of_lt ((unhide F2).kept (unhide M2).2).lt; clear m2 g2)
              | (refine app.stepI (A := []) (unhide hA3) (unhide ho3).1 (unhide hu3) hab1 (by rfl) _ _ (by rfl) (by rfl) (by rfl) ?_; intro v2 w2 m2 g2; have M2 : Hid (Made wr w2 v2 B) := hide m2; have XB := hide ((unhide ho3).2 w2 g2); have k0 := ((unhide F2).kept (unhide M2).2).c0; have k1 := ((unhide F2).kept (unhide M2).2).c1; have hn2 : ¬ w.heap.size = w2.heap.size := Nat.ne_of_lt ((unhide F2).kept (unhide M2).2).lt; clear m2 g2)
              | (refine app.stepI (unhide M2).2 (unhide M2).1 (unhide XB) hab (by rfl) _ _ (by rfl) (by rfl) (by rfl) ?_; intro v3 w3 m3 g3; have M3 := hide m3; have j0 := ((unhide F2).kept m3.2).c0; have j1 := ((unhide F2).kept m3.2).c1; clear m3 g3)
              | (refine app.stepI (grown_trans (unhide M2).2 (World.grownBy_alloc w2 (.cells #[.int .i64 (IntKind.i64.wrap ((k : Int) + 1))] 3) none)) ((unhide M2).1.alloc _) (one_own w2 (IntKind.i64.wrap ((k : Int) + 1))) hab (by rfl) _ _ (by rfl) (by rfl) (by rfl) ?_; intro v3 w3 m3 g3; have M3 := hide m3; have j0 := ((unhide F2).kept m3.2).c0; have j1 := ((unhide F2).kept m3.2).c1; clear m3 g3))
          all_goals
            cases O with
            | none =>
              have N := hide ((unhide hnx).trans (unhide NN rfl))
              have G4 := hide (grown_trans (r := none) (unhide hg) (unhide M4).2)
              clear NN NS CI
              go_wp2_with fail
              go_roundw
              case rel => exact ⟨_, k, by omega, rfl, by go_num, unhide N, unhide G4⟩
              case measure => simp [intOf]
            | some l =>
              have N := hide ((unhide hnx).trans (unhide NS rfl))
              clear NN NS CI
              go_wp2_with fail
              go_ret2
              rw [unhide N]
              exact ⟨_, rfl, made_sub (grown_trans (unhide G2) (unhide GG)) (unhide M4)⟩
theorem bothN (n : Int) (LL : List (List Int)) (L : List Int) (hn : tot LL ≤ 1048576) (hL : L.length ≤ 1048576) : ∃ (R : List Int) (b : Bool), R.length ≤ 1048576 ∧
    (∀ v u (lo hi : Nat) w, Sls w v LL → sl.Own lo hi w u L → Calls Tryd.prog 41 #[.agg #[.int .i64 n, v], u] w fun e w' => ∃ r, e = .returned (.tuple #[r, .bool b]) ∧ w'.ownsRow w.heap.size 3 1 r R.length (ints R) ∧ w.grownBy w' none) ∧
    (∀ v u (lo hi : Nat) w, srt.Tab w → Sls w v LL → sl.Own lo hi w u L → Calls Tryd.prog 23 #[.agg #[.int .i64 n, v], u] w fun e w' => ∃ r, e = .returned (.tuple #[r, .bool b]) ∧ w'.ownsRow w.heap.size 3 1 r R.length (ints R) ∧ w.grownBy w' none) :=
  ⟨_, _, Nat.le_trans (next_len n LL L) (by omega), fun v u lo hi w h k => specNext v u n LL L w hn hL h k.sl, fun v u lo hi w t h k => implNext v u n LL L w t hn hL h k.sl⟩
end Go.Proofs.YtapkckfgbimmcaaDoor.ks
namespace Go.Proofs.YtapkckfgbimmcaaDoor.ks
open Go.Proofs.YtapkckfgbimmcaaDoor.lq (Bits holds solveL lst lst_none lst_some bits_cons)
open Go.Proofs.YtapkckfgbimmcaaDoor.km (left_)
open Go.Proofs.YtapkckfgbimmcaaDoor.cnt (C)
open Go.Proofs.YtapkckfgbimmcaaDoor.tr (cnfT litT assignB)
open Go.Proofs.YtapkckfgbimmcaaDoor.as_ (tl litAt)
open Go.Proofs.YtapkckfgbimmcaaDoor.ok (cnfB litIn)
set_option linter.unusedVariables false
/-- all assignments, ascending -/
def all_ : Nat → List (List Int)
  | 0 => [[]]
  | n + 1 => (all_ n).map (0 :: ·) ++ (all_ n).map (1 :: ·)
/-- those behind a given one -/
def aft : List Int → List (List Int)
  | [] => []
  | x :: a => if x = 1 then (aft a).map (1 :: ·) else (aft a).map (0 :: ·) ++ (all_ a.length).map (1 :: ·)
theorem find_all {n : Nat} : ∀ {f : List Int → Bool}, (all_ n).find? f = lst n f := by
  induction n with
  | zero =>
    intro f
    show [[]].find? f = if f [] then some [] else none
    cases h : f [] <;> simp [List.find?, h]
  | succ n ih =>
    intro f
    show ((all_ n).map (0 :: ·) ++ (all_ n).map (1 :: ·)).find? f = match lst n (fun l => f (0 :: l)) with
      | some l => some (0 :: l)
      | none => (lst n (fun l => f (1 :: l))).map (1 :: ·)
    rw [List.find?_append, List.find?_map, List.find?_map]
    have e0 : (all_ n).find? (f ∘ (0 :: ·)) = lst n (fun l => f (0 :: l)) := ih
    have e1 : (all_ n).find? (f ∘ (1 :: ·)) = lst n (fun l => f (1 :: l)) := ih
    rw [e0, e1]
    cases lst n (fun l => f (0 :: l)) <;> rfl
theorem count_all {n : Nat} : ∀ {f : List Int → Bool}, (all_ n).countP f = C n f := by
  induction n with
  | zero =>
    intro f
    show [[]].countP f = if f [] then 1 else 0
    cases h : f [] <;> simp [h]
  | succ n ih =>
    intro f
    show ((all_ n).map (0 :: ·) ++ (all_ n).map (1 :: ·)).countP f = C n (fun l => f (0 :: l)) + C n (fun l => f (1 :: l))
    rw [List.countP_append, List.countP_map, List.countP_map]
    have e0 : (all_ n).countP (f ∘ (0 :: ·)) = C n (fun l => f (0 :: l)) := ih
    have e1 : (all_ n).countP (f ∘ (1 :: ·)) = C n (fun l => f (1 :: l)) := ih
    rw [e0, e1]
theorem aft_zero {a : List Int} {f : List Int → Bool} : (aft (0 :: a)).countP f = (aft a).countP (fun l => f (0 :: l)) + (all_ a.length).countP (fun l => f (1 :: l)) := by
  show ((aft a).map (0 :: ·) ++ (all_ a.length).map (1 :: ·)).countP f = _
  rw [List.countP_append, List.countP_map, List.countP_map]
  rfl
theorem aft_one {a : List Int} {f : List Int → Bool} : (aft (1 :: a)).countP f = (aft a).countP (fun l => f (1 :: l)) := by
  show ((aft a).map (1 :: ·)).countP f = _
  rw [List.countP_map]
  rfl
theorem all_split {n : Nat} {f : List Int → Bool} : (all_ (n + 1)).countP f = (all_ n).countP (fun l => f (0 :: l)) + (all_ n).countP (fun l => f (1 :: l)) := by
  show ((all_ n).map (0 :: ·) ++ (all_ n).map (1 :: ·)).countP f = _
  rw [List.countP_append, List.countP_map, List.countP_map]
  rfl
theorem all_none {n : Nat} {f : List Int → Bool} (h : lst n f = none) : (all_ n).countP f = 0 := by
  rw [count_all]
  exact C_none.2 h
/-- the least answer, and those behind it -/
theorem first_count {n : Nat} : ∀ {f : List Int → Bool} {l : List Int}, lst n f = some l → (all_ n).countP f = 1 + (aft l).countP f := by
  induction n with
  | zero =>
    intro f l h
    have h' : (if f [] then some [] else none) = some l := h
    cases hf : f [] with
    | false => rw [hf] at h'; cases h'
    | true =>
      rw [hf] at h'
      cases h'
      show [[]].countP f = 1 + ([] : List (List Int)).countP f
      simp [hf]
  | succ n ih =>
    intro f l h
    have h' : (match lst n (fun l => f (0 :: l)) with
      | some l => some (0 :: l)
      | none => (lst n (fun l => f (1 :: l))).map (1 :: ·)) = some l := h
    rw [all_split]
    cases h0 : lst n (fun l => f (0 :: l)) with
    | some l0 =>
      rw [h0] at h'
      cases h'
      have hl := (lst_some h0).1.1
      rw [ih h0, aft_zero, hl]
      omega
    | none =>
      rw [h0] at h'
      cases h1 : lst n (fun l => f (1 :: l)) with
      | none => rw [h1] at h'; cases h'
      | some l1 =>
        rw [h1] at h'
        cases h'
        rw [all_none h0, ih h1, aft_one]
        omega
theorem aft_len : ∀ {a b : List Int}, b ∈ aft a → b.length = a.length := by
  intro a
  induction a with
  | nil => intro b h; cases h
  | cons x a ih =>
    intro b h
    have al : ∀ {n : Nat} {l : List Int}, l ∈ all_ n → l.length = n := by
      intro n
      induction n with
      | zero => intro l h; simp [all_] at h; rw [h]; rfl
      | succ n ihn =>
        intro l h
        rw [all_, List.mem_append, List.mem_map, List.mem_map] at h
        rcases h with ⟨y, hy, rfl⟩ | ⟨y, hy, rfl⟩
        · rw [List.length_cons, ihn hy]
        · rw [List.length_cons, ihn hy]
    rw [aft] at h
    split at h
    · rw [List.mem_map] at h
      obtain ⟨y, hy, rfl⟩ := h
      rw [List.length_cons, ih hy, List.length_cons]
    · rw [List.mem_append, List.mem_map, List.mem_map] at h
      rcases h with ⟨y, hy, rfl⟩ | ⟨y, hy, rfl⟩
      · rw [List.length_cons, ih hy, List.length_cons]
      · rw [List.length_cons, al hy, List.length_cons]
theorem all_bits : ∀ {n : Nat} {l : List Int}, l ∈ all_ n → ∀ x ∈ l, x = 0 ∨ x = 1 := by
  intro n
  induction n with
  | zero => intro l h; simp [all_] at h; rw [h]; intro x hx; cases hx
  | succ n ih =>
    intro l h
    rw [all_, List.mem_append, List.mem_map, List.mem_map] at h
    rcases h with ⟨y, hy, rfl⟩ | ⟨y, hy, rfl⟩
    · intro x hx
      rcases List.mem_cons.1 hx with e | e
      · exact .inl e
      · exact ih hy x e
    · intro x hx
      rcases List.mem_cons.1 hx with e | e
      · exact .inr e
      · exact ih hy x e
theorem aft_bits : ∀ {a b : List Int}, b ∈ aft a → ∀ x ∈ b, x = 0 ∨ x = 1 := by
  intro a
  induction a with
  | nil => intro b h; cases h
  | cons z a ih =>
    intro b h x hx
    rw [aft] at h
    split at h
    · rw [List.mem_map] at h
      obtain ⟨y, hy, rfl⟩ := h
      rcases List.mem_cons.1 hx with e | e
      · exact .inr e
      · exact ih hy x e
    · rw [List.mem_append, List.mem_map, List.mem_map] at h
      rcases h with ⟨y, hy, rfl⟩ | ⟨y, hy, rfl⟩
      · rcases List.mem_cons.1 hx with e | e
        · exact .inl e
        · exact ih hy x e
      · rcases List.mem_cons.1 hx with e | e
        · exact .inr e
        · exact all_bits hy x e
/-- the next answer, and those behind it -/
theorem next_count : ∀ {a : List Int}, (∀ x ∈ a, x = 0 ∨ x = 1) → ∀ {f : List Int → Bool},
    ((aft a).find? f = none → (aft a).countP f = 0) ∧ ∀ b, (aft a).find? f = some b → (aft a).countP f = 1 + (aft b).countP f := by
  intro a
  induction a with
  | nil =>
    intro _ f
    exact ⟨fun _ => rfl, fun b h => by cases h⟩
  | cons x a ih =>
    intro hx f
    have hx' : ∀ y ∈ a, y = 0 ∨ y = 1 := fun y hy => hx y (List.mem_cons_of_mem _ hy)
    rcases hx x (List.mem_cons_self ..) with rfl | rfl
    · have i0 := ih hx' (f := fun l => f (0 :: l))
      have e : (aft (0 :: a)).find? f = (((aft a).find? (fun l => f (0 :: l))).map (0 :: ·)).or ((lst a.length (fun l => f (1 :: l))).map (1 :: ·)) := by
        show ((aft a).map (0 :: ·) ++ (all_ a.length).map (1 :: ·)).find? f = _
        rw [List.find?_append, List.find?_map, List.find?_map]
        have e1 : (all_ a.length).find? (f ∘ (1 :: ·)) = lst a.length (fun l => f (1 :: l)) := find_all
        rw [e1]
        rfl
      rw [e, aft_zero]
      cases h0 : (aft a).find? (fun l => f (0 :: l)) with
      | some b0 =>
        refine ⟨fun h => (by cases h), fun b h => ?_⟩
        cases h
        rw [i0.2 b0 h0, aft_zero, aft_len (List.mem_of_find?_eq_some h0)]
        omega
      | none =>
        rw [i0.1 h0]
        cases h1 : lst a.length (fun l => f (1 :: l)) with
        | none =>
          refine ⟨fun _ => ?_, fun b h => by cases h⟩
          rw [all_none h1]
        | some b1 =>
          refine ⟨fun h => (by cases h), fun b h => ?_⟩
          cases h
          rw [first_count h1, aft_one]
          omega
    · have i1 := ih hx' (f := fun l => f (1 :: l))
      have e : (aft (1 :: a)).find? f = ((aft a).find? (fun l => f (1 :: l))).map (1 :: ·) := by
        show ((aft a).map (1 :: ·)).find? f = _
        rw [List.find?_map]
        rfl
      rw [e, aft_one]
      cases h0 : (aft a).find? (fun l => f (1 :: l)) with
      | some b0 =>
        refine ⟨fun h => (by cases h), fun b h => ?_⟩
        cases h
        rw [i1.2 b0 h0, aft_one]
      | none => exact ⟨fun _ => i1.1 h0, fun b h => by cases h⟩
/-- where two differ first, the latter has 1 -/
theorem aft_up : ∀ {a b : List Int}, (∀ x ∈ a, x = 0 ∨ x = 1) → b ∈ aft a → ∃ k, k < a.length ∧ (∀ j, j < k → a.getD j 0 = b.getD j 0) ∧ a.getD k 0 = 0 ∧ b.getD k 0 = 1 := by
  intro a
  induction a with
  | nil => intro b _ h; cases h
  | cons x a ih =>
    intro b hx h
    have hx' : ∀ y ∈ a, y = 0 ∨ y = 1 := fun y hy => hx y (List.mem_cons_of_mem _ hy)
    have up : ∀ (z : Int) (y : List Int), y ∈ aft a → ∃ k, k < (z :: a).length ∧ (∀ j, j < k → (z :: a).getD j 0 = (z :: y).getD j 0) ∧ (z :: a).getD k 0 = 0 ∧ (z :: y).getD k 0 = 1 := by
      intro z y hy
      obtain ⟨k, h1, h2, h3, h4⟩ := ih hx' hy
      refine ⟨k + 1, by rw [List.length_cons]; omega, fun j hj => ?_, h3, h4⟩
      cases j with
      | zero => rfl
      | succ j => exact h2 j (by omega)
    rw [aft] at h
    split at h
    · rename_i e
      subst e
      rw [List.mem_map] at h
      obtain ⟨y, hy, rfl⟩ := h
      exact up 1 y hy
    · rename_i e
      obtain rfl : x = 0 := (hx x (List.mem_cons_self ..)).resolve_right e
      rw [List.mem_append, List.mem_map, List.mem_map] at h
      rcases h with ⟨y, hy, rfl⟩ | ⟨y, hy, rfl⟩
      · exact up 0 y hy
      · exact ⟨0, by simp, fun j hj => by omega, rfl, rfl⟩
/-- assignments that begin alike -/
theorem lst_pre : ∀ (pre : List Int) {n : Nat} {f : List Int → Bool}, (∀ x ∈ pre, x = 0 ∨ x = 1) → pre.length ≤ n → (∀ l, Bits n l → f l = true → l.take pre.length = pre) → lst n f = (lst (n - pre.length) (fun l => f (pre ++ l))).map (pre ++ ·) := by
  intro pre
  induction pre with
  | nil =>
    intro n f _ _ _
    show lst n f = (lst n f).map id
    rw [Option.map_id]
    rfl
  | cons x pre ih =>
    intro n f hx hn hf
    obtain ⟨n, rfl⟩ : ∃ k, n = k + 1 := ⟨n - 1, by rw [List.length_cons] at hn; omega⟩
    have hx' : ∀ y ∈ pre, y = 0 ∨ y = 1 := fun y hy => hx y (List.mem_cons_of_mem _ hy)
    have hn' : pre.length ≤ n := by rw [List.length_cons] at hn; omega
    have e : lst (n + 1) f = match lst n (fun l => f (0 :: l)) with
      | some l => some (0 :: l)
      | none => (lst n (fun l => f (1 :: l))).map (1 :: ·) := rfl
    rw [e, List.length_cons, show n + 1 - (pre.length + 1) = n - pre.length by omega]
    have off : ∀ y : Int, (y = 0 ∨ y = 1) → y ≠ x → lst n (fun l => f (y :: l)) = none := by
      intro y hy hne
      rw [lst_none]
      intro l hl
      cases q : f (y :: l) with
      | false => rfl
      | true =>
        have := hf _ (bits_cons hy hl) q
        rw [List.length_cons, List.take_succ_cons, List.cons.injEq] at this
        exact absurd this.1 hne
    have on : ∀ l, Bits n l → (fun l => f (x :: l)) l = true → l.take pre.length = pre := by
      intro l hl hq
      have := hf _ (bits_cons (hx x (List.mem_cons_self ..)) hl) hq
      rw [List.length_cons, List.take_succ_cons, List.cons.injEq] at this
      exact this.2
    have i := ih (f := fun l => f (x :: l)) hx' hn' on
    rcases hx x (List.mem_cons_self ..) with rfl | rfl
    · rw [i, off 1 (.inr rfl) (by decide)]
      have e2 : (fun l => f (0 :: (pre ++ l))) = fun l => f ((0 :: pre) ++ l) := rfl
      rw [e2]
      cases lst (n - pre.length) (fun l => f ((0 :: pre) ++ l)) <;> rfl
    · rw [off 0 (.inl rfl) (by decide), i]
      have e2 : (fun l => f (1 :: (pre ++ l))) = fun l => f ((1 :: pre) ++ l) := rfl
      rw [e2]
      cases lst (n - pre.length) (fun l => f ((1 :: pre) ++ l)) <;> rfl
theorem tl_get (l : List Int) : ∀ (k j : Nat), j < l.length → (tl k l)[j]? = some (litAt (k + j) (l.getD j 0)) := by
  induction l with
  | nil => intro k j h; simp at h
  | cons y l ih =>
    intro k j h
    rw [as_.tl]
    cases j with
    | zero => rfl
    | succ j =>
      rw [List.getElem?_cons_succ, ih (k + 1) j (by simpa using h), show k + 1 + j = k + (j + 1) by omega]
      rfl
theorem getD_bit {n : Nat} {l : List Int} (h : Bits n l) {j : Nat} (hj : j < n) : l.getD j 0 = 0 ∨ l.getD j 0 = 1 := by
  have hl : j < l.length := by rw [h.1]; exact hj
  rw [List.getD_eq_getElem?_getD, List.getElem?_eq_getElem hl]
  exact h.2 _ (List.getElem_mem hl)
/-- the literals of a beginning are true where it is alike -/
theorem pre_lits {n : Nat} {a l : List Int} (h24 : n ≤ 24) (ha : Bits n a) (hl : Bits n l) {k : Nat} (hk : k ≤ n) : ((tl 0 a).take k).all (litT l) = true ↔ l.take k = a.take k := by
  induction k with
  | zero => simp
  | succ k ih =>
    have ht : (tl 0 a).take (k + 1) = (tl 0 a).take k ++ [litAt k (a.getD k 0)] := by
      have hlt : k < (tl 0 a).length := by rw [as_.tl_len, ha.1]; omega
      rw [List.take_succ_eq_append_getElem hlt]
      have := tl_get a 0 k (by rw [ha.1]; omega)
      rw [List.getElem?_eq_getElem hlt, Option.some.injEq, Nat.zero_add] at this
      rw [this]
    have tk : ∀ {m : List Int}, Bits n m → m.take (k + 1) = m.take k ++ [m.getD k 0] := by
      intro m hm
      have hlt : k < m.length := by rw [hm.1]; omega
      rw [List.take_succ_eq_append_getElem hlt, List.getD_eq_getElem?_getD, List.getElem?_eq_getElem hlt]
      rfl
    rw [ht, List.all_append, Bool.and_eq_true, ih (by omega), tk hl, tk ha]
    have q : [litAt k (a.getD k 0)].all (litT l) = decide (l.getD k 0 = a.getD k 0) := by
      rw [List.all_cons, List.all_nil, Bool.and_true]
      exact lq.litT_at (by rw [hl.1]; omega) (by omega) (getD_bit ha (by omega)) (getD_bit hl (by omega))
    rw [q, decide_eq_true_iff]
    constructor
    · rintro ⟨h1, h2⟩
      rw [h1, h2]
    · intro h
      have := List.append_inj h (by rw [List.length_take, List.length_take, hl.1, ha.1])
      exact ⟨this.1, by simpa using this.2⟩
/-- what Next asks at a variable -/
theorem ask_at {a : List Int} {LL : List (List Int)} {k : Nat} (h24 : a.length ≤ 24) (hc : cnfB (a.length : Int) LL = true) (ha : ∀ x ∈ a, x = 0 ∨ x = 1) (hk : k < a.length) :
    solveL (a.length : Int) LL ((tl 0 a).take k ++ [(k : Int) + 1]) = (lst (a.length - (k + 1)) (fun l => holds LL [] (a.take k ++ 1 :: l))).map (a.take k ++ 1 :: ·) := by
  have hb : Bits a.length a := ⟨rfl, ha⟩
  rw [solve_yes hc (List.all_eq_true.2 (tl_in h24 hk))]
  show lst a.length _ = _
  have e0 : (fun l => holds LL ((tl 0 a).take k ++ [(k : Int) + 1]) ([] ++ l)) = holds LL ((tl 0 a).take k ++ [(k : Int) + 1]) := rfl
  rw [e0]
  have pl : (a.take k ++ [1]).length = k + 1 := by rw [List.length_append, List.length_take, List.length_singleton]; omega
  have pb : ∀ x ∈ a.take k ++ [1], x = 0 ∨ x = 1 := by
    intro x hx
    rw [List.mem_append] at hx
    rcases hx with hx | hx
    · exact ha x (List.mem_of_mem_take hx)
    · simp at hx; exact .inr hx
  have hold : ∀ l, Bits a.length l → (holds LL ((tl 0 a).take k ++ [(k : Int) + 1]) l = true ↔ holds LL [] l = true ∧ l.take (k + 1) = a.take k ++ [1]) := by
    intro l hl
    unfold lq.holds
    rw [List.all_append, Bool.and_eq_true, Bool.and_eq_true, pre_lits h24 hb hl (by omega), List.all_cons, List.all_nil, Bool.and_true, lq.litT_pos (by rw [hl.1]; exact hk) (by omega), decide_eq_true_iff]
    have tk : l.take (k + 1) = l.take k ++ [l.getD k 0] := by
      have hlt : k < l.length := by rw [hl.1]; exact hk
      rw [List.take_succ_eq_append_getElem hlt, List.getD_eq_getElem?_getD, List.getElem?_eq_getElem hlt]
      rfl
    rw [tk]
    constructor
    · rintro ⟨h1, h2, h3⟩
      exact ⟨by simp [h1], by rw [h2, h3]⟩
    · rintro ⟨h1, h2⟩
      have := List.append_inj h2 (by rw [List.length_take, List.length_take, hl.1])
      exact ⟨by simpa using h1, this.1, by simpa using this.2⟩
  rw [lst_pre (a.take k ++ [1]) pb (by omega) (fun l hl h => by rw [pl]; exact ((hold l hl).1 h).2), pl]
  have e1 : lst (a.length - (k + 1)) (fun l => holds LL ((tl 0 a).take k ++ [(k : Int) + 1]) (a.take k ++ [1] ++ l)) = lst (a.length - (k + 1)) (fun l => holds LL [] (a.take k ++ 1 :: l)) := by
    refine lq.lst_congr fun l hl => ?_
    have bl : Bits a.length (a.take k ++ [1] ++ l) := by
      refine ⟨?_, fun x hx => ?_⟩
      · rw [List.length_append, pl, hl.1]; omega
      · rw [List.mem_append] at hx
        rcases hx with hx | hx
        · exact pb x hx
        · exact hl.2 x hx
    have := hold _ bl
    have tk : (a.take k ++ [1] ++ l).take (k + 1) = a.take k ++ [1] := by rw [List.take_append_of_le_length (by omega), List.take_of_length_le (by omega)]
    rw [tk] at this
    rw [show a.take k ++ 1 :: l = a.take k ++ [1] ++ l by simp, Bool.eq_iff_iff, this]
    simp
  rw [e1]
  congr 1
  funext l
  simp
theorem next_or {n : Int} {LL : List (List Int)} {a : List Int} {k : Nat} (h : ¬ a.getD k 0 = 1) : nextL n LL a (k + 1) = (solveL n LL ((tl 0 a).take k ++ [(k : Int) + 1])).or (nextL n LL a k) := by
  cases hs : solveL n LL ((tl 0 a).take k ++ [(k : Int) + 1]) with
  | none => rw [next_none h hs]; rfl
  | some l => rw [next_some h hs]; rfl
/-- what is found of an assignment's end -/
def gOf (LL : List (List Int)) (a : List Int) (k : Nat) : Option (List Int) := ((aft (a.drop k)).find? (fun l => holds LL [] (a.take k ++ l))).map (a.take k ++ ·)
theorem g_one {LL : List (List Int)} {a : List Int} {k : Nat} (hk : k < a.length) (h : a.getD k 0 = 1) : gOf LL a k = gOf LL a (k + 1) := by
  have e : a[k] = 1 := by rw [List.getD_eq_getElem?_getD, List.getElem?_eq_getElem hk] at h; exact h
  unfold gOf
  rw [List.drop_eq_getElem_cons hk, List.take_succ_eq_append_getElem hk, e]
  show (((aft (a.drop (k + 1))).map (1 :: ·)).find? _).map _ = _
  rw [List.find?_map, Option.map_map]
  have e1 : ((fun l => holds LL [] (a.take k ++ l)) ∘ (1 :: ·)) = fun l => holds LL [] (a.take k ++ [1] ++ l) := by
    funext l
    simp
  have e2 : ((a.take k ++ ·) ∘ (1 :: ·)) = fun l => a.take k ++ [1] ++ l := by
    funext l
    simp
  rw [e1, e2]
theorem g_zero {LL : List (List Int)} {a : List Int} {k : Nat} (hk : k < a.length) (h : a.getD k 0 = 0) : gOf LL a k = (gOf LL a (k + 1)).or ((lst (a.length - (k + 1)) (fun l => holds LL [] (a.take k ++ 1 :: l))).map (a.take k ++ 1 :: ·)) := by
  have e : a[k] = 0 := by rw [List.getD_eq_getElem?_getD, List.getElem?_eq_getElem hk] at h; exact h
  unfold gOf
  rw [List.drop_eq_getElem_cons hk, List.take_succ_eq_append_getElem hk, e]
  show (((aft (a.drop (k + 1))).map (0 :: ·) ++ (all_ (a.drop (k + 1)).length).map (1 :: ·)).find? _).map _ = _
  rw [List.find?_append, List.find?_map, List.find?_map]
  have e1 : ((fun l => holds LL [] (a.take k ++ l)) ∘ (0 :: ·)) = fun l => holds LL [] (a.take k ++ [0] ++ l) := by
    funext l
    simp
  have e3 : (all_ (a.drop (k + 1)).length).find? ((fun l => holds LL [] (a.take k ++ l)) ∘ (1 :: ·)) = lst (a.length - (k + 1)) (fun l => holds LL [] (a.take k ++ 1 :: l)) := by
    rw [List.length_drop]
    exact find_all
  rw [e1, e3]
  cases (aft (a.drop (k + 1))).find? (fun l => holds LL [] (a.take k ++ [0] ++ l)) with
  | some b => simp
  | none =>
    cases lst (a.length - (k + 1)) (fun l => holds LL [] (a.take k ++ 1 :: l)) with
    | some b => simp
    | none => simp
theorem next_find {a : List Int} {LL : List (List Int)} (h24 : a.length ≤ 24) (hc : cnfB (a.length : Int) LL = true) (ha : ∀ x ∈ a, x = 0 ∨ x = 1) : nextL (a.length : Int) LL a a.length = (aft a).find? (holds LL []) := by
  have key : ∀ d, d ≤ a.length → nextL (a.length : Int) LL a a.length = (gOf LL a (a.length - d)).or (nextL (a.length : Int) LL a (a.length - d)) := by
    intro d
    induction d with
    | zero =>
      intro _
      have : gOf LL a (a.length - 0) = none := by
        unfold gOf
        rw [Nat.sub_zero, List.drop_length]
        rfl
      rw [this]
      rfl
    | succ d ih =>
      intro hd
      have q := ih (by omega)
      obtain ⟨k, hk⟩ : ∃ k, k = a.length - (d + 1) := ⟨_, rfl⟩
      rw [show a.length - d = k + 1 by omega] at q
      rw [← hk, q]
      have hlt : k < a.length := by omega
      rcases getD_bit (n := a.length) ⟨rfl, ha⟩ hlt with z | z
      · rw [next_or (by rw [z]; decide), ask_at h24 hc ha hlt, g_zero hlt z, Option.or_assoc]
      · rw [next_one z, g_one hlt z]
  have q := key a.length (Nat.le_refl _)
  rw [Nat.sub_self] at q
  rw [q]
  have e0 : nextL (a.length : Int) LL a 0 = none := rfl
  rw [e0, Option.or_none]
  unfold gOf
  show ((aft a).find? (fun l => holds LL [] l)).map (fun l => l) = _
  rw [Option.map_id']
/-- the answers that are still to come, with the one at hand -/
def todo (LL : List (List Int)) : Option (List Int) → Nat
  | none => 0
  | some l => 1 + (aft l).countP (holds LL [])
structure Ans (m : Nat) (LL : List (List Int)) (O : Option (List Int)) (c : Nat) : Prop where
  cnt : c + todo LL O = C m (holds LL [])
  ok : ∀ l, O = some l → Bits m l ∧ holds LL [] l = true
theorem C_le (n : Nat) : ∀ f : List Int → Bool, C n f ≤ 2 ^ n := by
  induction n with
  | zero => intro f; show (if f [] then 1 else 0) ≤ 1; split <;> omega
  | succ n ih =>
    intro f
    show C n _ + C n _ ≤ 2 ^ (n + 1)
    have h1 := ih (fun l => f (0 :: l))
    have h2 := ih (fun l => f (1 :: l))
    rw [Nat.pow_succ]
    omega
theorem Ans.start {m : Nat} {LL : List (List Int)} (hc : cnfB (m : Int) LL = true) : Ans m LL (solveL (m : Int) LL []) 0 := by
  rw [solve_yes (a := []) hc rfl]
  have e : left_ m LL [] [] = lst m (holds LL []) := rfl
  rw [e]
  cases h : lst m (holds LL []) with
  | none =>
    refine ⟨?_, fun l h => by cases h⟩
    show 0 + 0 = _
    rw [C_none.2 h]
  | some l =>
    refine ⟨?_, fun l' h' => ?_⟩
    · show 0 + (1 + (aft l).countP _) = _
      rw [← count_all, first_count h]
      omega
    · cases h'
      exact lst_some h
theorem Ans.next {m : Nat} {LL : List (List Int)} {l : List Int} {c : Nat} (h24 : m ≤ 24) (hc : cnfB (m : Int) LL = true) (h : Ans m LL (some l) c) :
    Ans m LL (nextO (m : Int) LL l) (c + 1) ∧ ∀ b, nextO (m : Int) LL l = some b → b ∈ aft l := by
  obtain ⟨hb, hh⟩ := h.ok l rfl
  have hl := hb.1
  subst hl
  have e : nextO (l.length : Int) LL l = (aft l).find? (holds LL []) := by
    have ab : assignB (l.length : Int) LL l = true := by
      unfold tr.assignB
      rw [hc, decide_eq_true rfl, Bool.true_and, Bool.true_and, List.all_eq_true]
      intro x hx
      have := hb.2 x hx
      unfold tr.bitB
      rw [decide_eq_true_iff]
      omega
    unfold nextO
    rw [ab]
    show nextL _ LL l l.length = _
    exact next_find h24 hc hb.2
  have nc := next_count hb.2 (f := holds LL [])
  have hcnt := h.cnt
  rw [e]
  cases q : (aft l).find? (holds LL []) with
  | none =>
    refine ⟨⟨?_, fun b hb => by cases hb⟩, fun b hb => by cases hb⟩
    have : todo LL (some l) = 1 + (aft l).countP (holds LL []) := rfl
    rw [this, nc.1 q] at hcnt
    show c + 1 + 0 = _
    omega
  | some b =>
    have hm := List.mem_of_find?_eq_some q
    refine ⟨⟨?_, fun b' hb' => ?_⟩, fun b' hb' => ?_⟩
    · have : todo LL (some l) = 1 + (aft l).countP (holds LL []) := rfl
      rw [this, nc.2 b q] at hcnt
      show c + 1 + (1 + (aft b).countP (holds LL [])) = _
      omega
    · cases hb'
      have q2 := List.find?_some q
      exact ⟨⟨aft_len hm, aft_bits hm⟩, q2⟩
    · cases hb'
      exact hm
end Go.Proofs.YtapkckfgbimmcaaDoor.ks
namespace Go.Proofs.YtapkckfgbimmcaaDoor.ks
open Go.ChangeShapes Go.WideShapes Go.ChangeAt Go.RowKit
open Go.Proofs.YtapkckfgbimmcaaDoor.kd (SV Slv)
open Go.Proofs.YtapkckfgbimmcaaDoor.km (left_)
open Go.Proofs.YtapkckfgbimmcaaDoor.lq (solveL FromE lits_in solve_no made_sub holds)
open Go.Proofs.YtapkckfgbimmcaaDoor.srt (Tab)
open Go.Proofs.YtapkckfgbimmcaaDoor.lits (okB)
open Go.Proofs.YtapkckfgbimmcaaDoor.bset (setOf setOf_lt placeN withN)
open Go.Proofs.YtapkckfgbimmcaaDoor.css (Sls tot)
open Go.Proofs.YtapkckfgbimmcaaDoor.cf (Box)
open Go.Proofs.YtapkckfgbimmcaaDoor.ok (cnfB litIn)
open Go.Proofs.YtapkckfgbimmcaaDoor.wo (Made)
open Go.Proofs.YtapkckfgbimmcaaDoor.su (MadeU words)
open Go.Proofs.YtapkckfgbimmcaaDoor.sl (Sl ints hide unhide grown_refl grown_trans)
set_option linter.unusedVariables false
/-- whether the formula can be true with a list of literals -/
def cano (n : Int) (LL : List (List Int)) (a : List Int) : Bool := (solveL n LL a).isSome
def coreG (n : Int) (LL : List (List Int)) : List Int → List Int → List Int
  | K, [] => K
  | K, x :: R => if cano n LL (K ++ R) then coreG n LL (K ++ [x]) R else coreG n LL K R
/-- what Core answers -/
def coreO (n : Int) (LL : List (List Int)) (a : List Int) : Option (List Int) := if cnfB n LL && a.all (litIn n) then (if cano n LL a then none else some (coreG n LL [] a)) else none
theorem coreG_len (n : Int) (LL : List (List Int)) (R : List Int) : ∀ K, (coreG n LL K R).length ≤ K.length + R.length := by
  induction R with
  | nil => intro K; exact Nat.le_refl _
  | cons x R ih =>
    intro K
    rw [coreG]
    split
    · have := ih (K ++ [x])
      rw [List.length_append] at this
      simp at this ⊢
      omega
    · have := ih K
      simp
      omega
theorem core_len (n : Int) (LL : List (List Int)) (a : List Int) : ((coreO n LL a).getD []).length ≤ a.length := by
  unfold coreO
  split
  · split
    · exact Nat.zero_le _
    · have := coreG_len n LL a []
      show (coreG n LL [] a).length ≤ _
      simpa using this
  · exact Nat.zero_le _
theorem core_yes {n : Int} {LL : List (List Int)} {K R : List Int} {x : Int} (h : cano n LL (K ++ R) = true) : coreG n LL K (x :: R) = coreG n LL (K ++ [x]) R := by rw [coreG, h]; rfl
theorem core_no {n : Int} {LL : List (List Int)} {K R : List Int} {x : Int} (h : cano n LL (K ++ R) = false) : coreG n LL K (x :: R) = coreG n LL K R := by rw [coreG, h]; rfl
theorem setOf_app (K R : List Int) : setOf (K ++ R) = setOf K ||| setOf R := by
  apply Nat.eq_of_testBit_eq
  intro b
  rw [Nat.testBit_or, bset.setOf_bit, bset.setOf_bit, bset.setOf_bit, List.any_append]
theorem setOf_cons {x : Int} {R : List Int} (h : okB x = true) : withN (setOf R) x = setOf (x :: R) := by
  apply Nat.eq_of_testBit_eq
  intro b
  rw [bset.withN_bit, bset.setOf_bit, bset.setOf_bit, List.any_cons, h, Bool.true_and, Bool.or_comm]
theorem lit_ok {n : Int} {x : Int} (h : litIn n x = true) : okB x = true := by
  unfold ok.litIn at h
  rw [Bool.and_eq_true] at h
  exact h.1
/-- a literal that is there already asks nothing more -/
theorem cano_dup {n : Int} {LL : List (List Int)} {K R : List Int} {x : Int} (hx : x ∈ K ++ R) (hl : litIn n x = true) (h : cano n LL (K ++ x :: R) = false) : cano n LL (K ++ R) = false := by
  have e : solveL n LL (K ++ x :: R) = solveL n LL (K ++ R) := by
    unfold lq.solveL
    have e1 : (K ++ x :: R).all (litIn n) = (K ++ R).all (litIn n) := by
      rw [List.all_append, List.all_append, List.all_cons, hl, Bool.true_and]
    have e2 : lq.holds LL (K ++ x :: R) = lq.holds LL (K ++ R) := by
      funext A
      unfold lq.holds
      congr 1
      rw [List.all_append, List.all_append, List.all_cons]
      cases z : tr.litT A x with
      | true => rw [Bool.true_and]
      | false =>
        rw [Bool.false_and, Bool.and_false]
        symm
        rw [← List.all_append, List.all_eq_false]
        exact ⟨x, hx, by rw [z]; decide⟩
    rw [e1, e2]
  unfold cano at *
  rw [← e]
  exact h
theorem has_mem {L : List Int} {x : Int} (ho : okB x = true) (hL : ∀ y ∈ L, okB y = true) : (setOf L).testBit (placeN x) = true ↔ x ∈ L := by
  constructor
  · intro h
    obtain ⟨y, hy, h1, h2⟩ := km.set_lit h
    rwa [bset.placeN_inj h1 ho h2] at hy
  · intro h
    exact km.lit_set h ho
/-- the words of what stands behind, laid from place i on -/
def bh (a : List Int) (i : Nat) : List Nat := (List.range a.length).map fun p => if i ≤ p then setOf (a.drop (p + 1)) else 0
theorem bh_len (a : List Int) (i : Nat) : (bh a i).length = a.length := by simp [bh]
theorem bh_at {a : List Int} {i p : Nat} (hp : p < a.length) : (bh a i)[p]? = some (if i ≤ p then setOf (a.drop (p + 1)) else 0) := by simp [bh, hp]
theorem words_at {S : List Nat} {p s : Nat} (h : S[p]? = some s) : (words S)[p]? = some (.int .u64 (s : Int)) := by simp [su.words, h]
theorem bh_last (a : List Int) (i : Nat) (h : a.length ≤ i + 1) : words (bh a i) = List.replicate a.length (.int .u64 0) := by
  apply List.ext_getElem?
  intro p
  by_cases hp : p < a.length
  · rw [words_at (bh_at hp), List.getElem?_replicate, if_pos hp]
    have : (if i ≤ p then setOf (a.drop (p + 1)) else 0) = 0 := by
      split
      · rw [List.drop_eq_nil_of_le (by omega)]
        rfl
      · rfl
    rw [this]
    rfl
  · rw [List.getElem?_eq_none (by simp [su.words, bh_len]; omega), List.getElem?_eq_none (by simp; omega)]
theorem bh_step {a : List Int} {i : Nat} (h : i + 1 < a.length) (ho : okB (a.getD (i + 1) 0) = true) : (words (bh a (i + 1))).set i (.int .u64 (withN (setOf (a.drop (i + 1 + 1))) (a.getD (i + 1) 0) : Int)) = words (bh a i) := by
  apply List.ext_getElem?
  intro p
  have hl : (words (bh a (i + 1))).length = a.length := by simp [su.words, bh_len]
  rw [List.getElem?_set, hl]
  by_cases hp : p < a.length
  · rw [words_at (bh_at (i := i) hp)]
    by_cases e : i = p
    · subst e
      rw [if_pos rfl, if_pos (by omega), if_pos (Nat.le_refl _), setOf_cons ho]
      have : a.drop (i + 1) = a.getD (i + 1) 0 :: a.drop (i + 1 + 1) := by
        rw [List.getD_eq_getElem?_getD, List.getElem?_eq_getElem h]
        exact List.drop_eq_getElem_cons h
      rw [this]
    · rw [if_neg e, words_at (bh_at hp)]
      by_cases q : i ≤ p
      · rw [if_pos q, if_pos (by omega)]
      · rw [if_neg q, if_neg (by omega)]
  · have z : (words (bh a i))[p]? = none := List.getElem?_eq_none (by simp [su.words, bh_len]; omega)
    rw [z]
    split
    · omega
    · exact List.getElem?_eq_none (by omega)
theorem wrap8 {y : Int} (h1 : -24 ≤ y) (h2 : y ≤ 24) : IntKind.i8.wrap y = y := by
  have key : ∀ j : Fin 49, IntKind.i8.wrap ((j.val : Int) - 24) = (j.val : Int) - 24 := by decide
  have := key ⟨(y + 24).toNat, by omega⟩
  rw [show (((y + 24).toNat : Nat) : Int) - 24 = y by omega] at this
  exact this
theorem infoU' : (Tryd.prog.info? 59).map (fun i => (i.zero, i.size, i.bytes)) = some (some (.int .u64 0), 1, 8) := su.infoU
set_option maxRecDepth 100000 in
set_option maxHeartbeats 4000000 in
theorem setsBehind (u : Value) (a : List Int) (w : World) (ha : a.length ≤ 1048576) (ho : ∀ x ∈ a, okB x = true) (hu : Sl w u a) :
    Calls Tryd.prog 64 #[u] w fun e w' => ∃ r, e = .returned r ∧ MadeU w w' r (bh a 0) := by
  obtain ⟨ua, uc, rfl, hcell⟩ := hu
  have HCE := hide hcell
  obtain ⟨i0, hi, hz0, hz1, hz2⟩ := info_parts su.infoU
  have HO := hide ho
  clear hcell ho
  go_enter Tryd.func64, Tryd.ntmps64
  go_wp2_with (first | (at_make; refine wpList_make_full _ rfl _ _ 53 rfl w.heap.size 59 i0 (.int .u64 0) 1 Tryd.underlying53 hi hz0 hz1 _ _ _ _ a.length rfl rfl (by rfl) (by rfl) ?b1 ?b2 ?b3 ?_))
  case b1 => rw [hz2]; omega
  case b2 => unfold maxLen; omega
  case b3 => exact Nat.le_refl _
  intro w1 hown hgrow
  have O : Hid (w1.ownsRow w.heap.size 59 1 (.slice (some ⟨w.heap.size, 0, none⟩) a.length a.length) a.length (words (bh a (a.length - 1)))) := by
    have e : (madeCells #[Value.int .u64 0] a.length).toList = words (bh a (a.length - 1)) := by
      rw [toList_madeCells_one, bh_last a _ (by omega)]
    show _
    rw [← e]
    exact hown
  have G := hide hgrow
  clear hown hgrow
  go_wp2_with fail
  go_loopw [4] (fun i wr => ∃ (j : Int) (k : Nat), k ≤ a.length - 1 ∧ i = .int .i64 j ∧ (j = (k : Int) ∨ a.length = 0 ∧ j = -1) ∧ wr.ownsRow w.heap.size 59 1 (.slice (some ⟨w.heap.size, 0, none⟩) a.length a.length) a.length (words (bh a k)) ∧ w.grownBy wr none) (fun i _ => (intOf i).toNat)
  case atStart => exact ⟨_, a.length - 1, by omega, rfl, by go_num, unhide O, unhide G⟩
  case round =>
    obtain ⟨j, k, hk, rfl, hj, hown, hg⟩ := hrel
    clear O G
    by_cases hpos : 0 < j
    · obtain ⟨i, hki⟩ : ∃ i, k = i + 1 := ⟨k - 1, by omega⟩
      obtain rfl : j = (k : Int) := by omega
      have hlt : k < a.length := by omega
      rcases unhide HCE with h | ⟨b, off, rfl, hbl, hcb⟩
      · rw [h] at hlt
        simp at hlt
      · have c1 := hg.cell (hcb k hlt) (fun e => by cases e)
        have hm : a.getD k 0 ∈ a := by
          rw [List.getD_eq_getElem?_getD, List.getElem?_eq_getElem hlt]
          exact List.getElem_mem hlt
        have hok := unhide HO _ hm
        have hb := lits.okB_iff.1 hok
        have hb1 := hb.2.1
        have hb2 := hb.2.2
        have c2 : wr.cell? ⟨w.heap.size, k, none⟩ = some (.int .u64 (setOf (a.drop (k + 1)) : Int)) := by
          rw [hown.cellAt k (by omega), words_at (bh_at hlt), if_pos (Nat.le_refl _)]
        have c3 : wr.cell? ⟨w.heap.size, i, none⟩ = some (.int .u64 0) := by
          rw [hown.cellAt i (by omega), words_at (bh_at (by omega)), if_neg (by omega)]
          rfl
        have f3 : wr.frozen? ⟨w.heap.size, i, none⟩ = false := hown.frozenAt i
        have O' := (hown.stored i (.int .u64 (withN (setOf (a.drop (k + 1))) (a.getD k 0) : Int))).1
        have bs := bh_step (a := a) (i := i) (by omega) (by rw [← hki]; exact hok)
        rw [← hki] at bs
        rw [bs] at O'
        have O2 := hide O'
        have G2 := hide (cu.grow1 hg (sl.grown_setCell wr w.heap.size i (.int .u64 (withN (setOf (a.drop (k + 1))) (a.getD k 0) : Int))) (Nat.le_refl _))
        have CW0 := (fun w' => bset.withC (setOf (a.drop (k + 1))) (a.getD k 0) w' (setOf_lt _) hok)
        have hy8 := wrap8 hb1 hb2
        have CW : Hid (∀ w', Calls Tryd.prog 58 #[.int .u64 (setOf (a.drop (k + 1)) : Int), .int .i8 (IntKind.i8.wrap (a.getD k 0))] w' fun e w'' => e = .returned (.int .u64 (withN (setOf (a.drop (k + 1))) (a.getD k 0) : Int)) ∧ w'' = w') := by
          intro w'
          rw [hy8]
          exact CW0 w'
        have hi1 : (k : Int) < (a.length : Int) := by omega
        have hi3 : (0 : Int) ≤ (k : Int) - 1 := by omega
        have hi6 : (k : Int) - 1 < (a.length : Int) := by omega
        have hi7 : ((k : Int) - 1).toNat = i := by omega
        have hw1 : IntKind.i64.wrap ((k : Int) - 1) = (k : Int) - 1 := by rw [IntKind.wrap_i64]; omega
        have hi8 : (1 : Int) ≤ (k : Int) := by omega
        have hi9 : (k : Int) ≤ (a.length : Int) := by omega
        have hi10 : 1 ≤ k := by omega
        have hi11 : k ≤ a.length := by omega
        have hi12 : k - 1 = i := by omega
        have hi4 : ¬ k = i := by omega
        have hi5 : 0 < (k : Int) := by omega
        have hi2 : (i : Int) < (a.length : Int) := by omega
        have hkk : i ≤ a.length - 1 := by omega
        have hne1 : ¬ b = w.heap.size := by omega
        have hne2 : ¬ w.heap.size = b := by omega
        clear hcb hown hg hok hb hm O' hj hpos hk CW0 hy8 hb1 hb2 bs hki hlt
        generalize withN (setOf (a.drop (k + 1))) (a.getD k 0) = Z at *
        generalize setOf (a.drop (k + 1)) = Y at *
        generalize a.getD k 0 = y at *
        go_wp2_with fail
        have hst : Hid ((wr.setCell ⟨w.heap.size, i, none⟩ (.int .u64 (Z : Int))).drew.cell? ⟨w.heap.size, k, none⟩ = some (.int .u64 (Y : Int)) ∧ (wr.setCell ⟨w.heap.size, i, none⟩ (.int .u64 (Z : Int))).drew.cell? ⟨b, off + k, none⟩ = some (.int .i64 y)) := by
          refine ⟨?_, ?_⟩
          · show (wr.setCell ⟨w.heap.size, i, none⟩ (.int .u64 (Z : Int))).cell? _ = _
            exact (World.cell?_setCell_other wr _ _ _ (fun e => hi4 (congrArg Addr.off e).symm)).trans c2
          · show (wr.setCell ⟨w.heap.size, i, none⟩ (.int .u64 (Z : Int))).cell? _ = _
            exact (World.cell?_setCell_other wr _ _ _ (fun e => hne2 (congrArg Addr.block e))).trans c1
        go_region_held3 (fun w' => w'.cell? ⟨w.heap.size, k, none⟩ = some (.int .u64 (Y : Int)) ∧ w'.cell? ⟨b, off + k, none⟩ = some (.int .i64 y)) (first | exact unhide hst | go_keep) (first
          | (go_at_call 58; refine (unhide CW _).mono ?_; rintro e w8 ⟨rfl, hw⟩; have hw' := hw.symm; clear hw; subst hw'))
        all_goals
          go_wp2_with fail
          go_roundw
          case rel => exact ⟨(i : Int), i, hkk, by go_num, .inl rfl, unhide O2, grown_trans (unhide G2) (cf.grown_drew _ none)⟩
          case measure => simp [intOf]; omega
    · have e : bh a k = bh a 0 := by
        rcases hj with h | ⟨h, _⟩
        · have : k = 0 := by omega
          rw [this]
        · simp [bh, h]
      rw [e] at hown
      have O2 := hide hown
      have G2 := hide hg
      have hl := bh_len a 0
      clear hown hg hj e
      go_wp2_with fail
      go_ret
      refine ⟨_, rfl, ?_, unhide G2⟩
      rw [bh_len]
      exact unhide O2
theorem row_ne {w : World} {b n z b' n' z' : Nat} {e e' : TypeId} {v v' : Value} {xs xs' : List Value} (h : w.ownsRow b e z v n xs) (h' : w.ownsRow b' e' z' v' n' xs') (he : (e : Nat) ≠ e') : v.ownBlock = none ∨ v.ownBlock ≠ v'.ownBlock := by
  cases q : v.ownBlock with
  | none => exact .inl rfl
  | some g =>
    right
    intro q'
    obtain ⟨c, fz, hc⟩ := css.own_kind h g q
    obtain ⟨c', fz', hc'⟩ := css.own_kind h' g q'.symm
    rw [hc] at hc'
    simp only [Option.some.injEq, Obj.cells.injEq] at hc'
    exact he hc'.2.1
theorem mup {w w1 w2 : World} {v : Value} {L : List Int} (h : Made w w1 v L) (g : w1.grownBy w2 none) : Made w w2 v L :=
  ⟨h.1.kept g (by cases v.ownBlock with | none => exact .inl rfl | some k => exact .inr (by simp)), grown_trans h.2 g⟩
theorem core_none {n : Int} {LL : List (List Int)} {a : List Int} (h : (cnfB n LL && a.all (litIn n)) = false) : coreO n LL a = none := by
  unfold coreO
  rw [h]
  rfl
/-- the program on its way through the assumptions -/
structure Cor (n : Nat) (LL : List (List Int)) (a K : List Int) (k : Nat) : Prop where
  eq : coreG (n : Int) LL [] a = coreG (n : Int) LL K (a.drop k)
  no : cano (n : Int) LL (K ++ a.drop k) = false
  li : ∀ x ∈ K, litIn (n : Int) x = true
  le : K.length ≤ k
theorem drop_at {a : List Int} {k : Nat} (h : k < a.length) : a.drop k = a.getD k 0 :: a.drop (k + 1) := by
  rw [List.getD_eq_getElem?_getD, List.getElem?_eq_getElem h]
  exact List.drop_eq_getElem_cons h
theorem Cor.off {n : Nat} {LL : List (List Int)} {a K : List Int} {k : Nat} (h : Cor n LL a K k) (hk : k < a.length) (hc : cano (n : Int) LL (K ++ a.drop (k + 1)) = false) : Cor n LL a K (k + 1) := by
  refine ⟨?_, hc, h.li, Nat.le_succ_of_le h.le⟩
  rw [h.eq, drop_at hk, core_no hc]
theorem Cor.on {n : Nat} {LL : List (List Int)} {a K : List Int} {k : Nat} (h : Cor n LL a K k) (hk : k < a.length) (hl : litIn (n : Int) (a.getD k 0) = true) (hc : cano (n : Int) LL (K ++ a.drop (k + 1)) = true) : Cor n LL a (K ++ [a.getD k 0]) (k + 1) := by
  refine ⟨?_, ?_, ?_, ?_⟩
  · rw [h.eq, drop_at hk, core_yes hc]
  · rw [List.append_assoc, List.singleton_append, ← drop_at hk]
    exact h.no
  · intro x hx
    rw [List.mem_append] at hx
    rcases hx with hx | hx
    · exact h.li x hx
    · simp at hx
      rw [hx]
      exact hl
  · rw [List.length_append]
    have := h.le
    simp
    omega
theorem Cor.dup {n : Nat} {LL : List (List Int)} {a K : List Int} {k : Nat} (h : Cor n LL a K k) (hk : k < a.length) (hl : litIn (n : Int) (a.getD k 0) = true) (hx : a.getD k 0 ∈ K ++ a.drop (k + 1)) : Cor n LL a K (k + 1) := by
  refine h.off hk (cano_dup hx hl ?_)
  rw [← drop_at hk]
  exact h.no
set_option maxRecDepth 100000 in
set_option maxHeartbeats 8000000 in
theorem implCore (v u : Value) (n : Int) (LL : List (List Int)) (a : List Int) (w : World) (hT : Tab w) (hn : tot LL ≤ 1048576) (ha : a.length ≤ 1048576) (hv : Sls w v LL) (hu : Sl w u a) :
    Calls Tryd.prog 26 #[.agg #[.int .i64 n, v], u] w fun e w' => FromE w (coreO n LL a) e w' := by
  obtain ⟨O, hO⟩ : ∃ O, coreO n LL a = O := ⟨_, rfl⟩
  rw [hO]
  have HO := hide hO
  clear hO
  have g0 := World.grownBy_alloc w (.cells #[.int .i64 n, v] 26) none
  have C1 := ok.implCnfOk v n LL _ hn (hv.kept g0)
  have F0 := hide (Box.new 26 w (.int .i64 n) v)
  have HU := hide (hu.kept g0 (.inl rfl))
  have HV := hide (hv.kept g0)
  have HT := hide (hT.kept g0)
  have G0 := hide g0
  have x0 := (unhide F0).c0
  have x1 := (unhide F0).c1
  clear g0 hv hu hT
  cases hc : cnfB n LL
  · rw [hc] at C1
    have CC := hide C1
    have E := hide ((unhide HO).symm.trans (core_none (n := n) (LL := LL) (a := a) (by rw [hc]; rfl)))
    clear C1 hc HV HU
    go_enter Tryd.func26, Tryd.ntmps26
    go_wp2_with fail
    refine (unhide CC).mono ?_; rintro e w1 ⟨rfl, g1⟩
    have G1 := hide (grown_trans (r := none) (unhide G0) g1)
    clear g1 CC x0 x1
    go_wp2_with fail
    go_ret2
    rw [unhide E]
    exact ⟨_, rfl, made_sub (unhide G1) (app.made_nil _)⟩
  rw [hc] at C1
  have CC := hide C1
  have HC := hide hc
  clear C1 hc
  go_enter Tryd.func26, Tryd.ntmps26
  go_wp2_with fail
  refine (unhide CC).mono ?_; rintro e w1 ⟨rfl, g1⟩
  have G1 := hide (grown_trans (r := none) (unhide G0) g1)
  have F1 := hide ((unhide F0).kept g1)
  have U1 := hide ((unhide HU).kept g1 (.inl rfl))
  have V1 := hide ((unhide HV).kept g1)
  have T1 := hide ((unhide HT).kept g1)
  have y0 := (unhide F1).c0
  have y1 := (unhide F1).c1
  have CL := ok.literalsOf u a n w1 ha (unhide U1)
  clear g1 CC x0 x1 G0 F0 HU HV HT
  cases hl : a.all (litIn n)
  · rw [hl] at CL
    have C2 := hide CL
    have E := hide ((unhide HO).symm.trans (core_none (n := n) (LL := LL) (a := a) (by rw [hl, Bool.and_false])))
    clear CL hl V1 U1 HC
    go_wp2_with fail
    refine (unhide C2).mono ?_; rintro e w2 ⟨rfl, hw⟩; have hw' := hw.symm; clear hw; subst hw'
    go_wp2_with fail
    go_ret2
    rw [unhide E]
    exact ⟨_, rfl, made_sub (unhide G1) (app.made_nil _)⟩
  rw [hl] at CL
  have C2 := hide CL
  obtain ⟨m, rfl, h24, h120⟩ := cnf_parts (unhide HC)
  have EO : Hid (O = if cano (m : Int) LL a then none else some (coreG (m : Int) LL [] a)) := by
    have := unhide HO
    unfold coreO at this
    rw [unhide HC, hl] at this
    exact this.symm
  have HA : Hid (∀ x ∈ a, litIn (m : Int) x = true) := List.all_eq_true.1 hl
  have CS := hide (solverOf v m LL w1 (unhide T1) h24 h120 hn (lits_in (unhide HC)) (unhide V1))
  have ES : Hid (solveL (m : Int) LL a = left_ m LL a []) := solve_yes (unhide HC) hl
  clear CL hl HO V1 F1
  go_wp2_with fail
  refine (unhide C2).mono ?_; rintro e w2 ⟨rfl, hw⟩; have hw' := hw.symm; clear hw; subst hw'
  go_wp2_with fail
  refine (unhide CS).mono ?_; rintro e w2 ⟨c, s, rfl, h1, h2, g2⟩
  have H1 := hide h1
  have H2 := hide h2
  have G2 := hide (grown_trans (r := none) (unhide G1) g2)
  have U2 := hide ((unhide U1).kept g2 (.inl rfl))
  have T2 := hide ((unhide T1).kept g2)
  have CO := hide (bset.litsOf u a w2 ha (unhide U2))
  have CB := hide (callsIn_wide.1 (least m LL a s c 0 h2 (unhide HA) w2 h1 (unhide T2)))
  clear h1 h2 g2 y0 y1 CS C2 U1 T1 G1
  go_wp2_with fail
  refine (unhide CO).mono ?_; rintro e w3 ⟨rfl, hw⟩; have hw' := hw.symm; clear hw; subst hw'
  go_wp2_with fail
  refine (unhide CB).mono ?_
  rintro e w3 ⟨g3, ⟨hN, rfl⟩ | ⟨l, P, hN, hW, hh, rfl⟩⟩
  · have hca : cano (m : Int) LL a = false := by unfold cano; rw [unhide ES, hN]; rfl
    have E : Hid (O = some (coreG (m : Int) LL [] a)) := by
      have := unhide EO
      rw [hca] at this
      exact this
    have ST : Hid (Cor m LL a [] 0) := ⟨rfl, hca, fun x hx => (by cases hx), Nat.le_refl _⟩
    have G3 := hide (grown_trans (r := none) (unhide G2) g3)
    have S3 := hide ((unhide H1).kept g3)
    have T3 := hide ((unhide T2).kept g3)
    have U3 := hide ((unhide U2).kept g3 (.inl rfl))
    have gA := World.grownBy_alloc w3 (.cells #[] 3) none
    have M3 := hide (app.made_nil w3)
    have CX := hide (setsBehind u a _ ha (fun x hx => lit_ok (unhide HA x hx)) ((unhide U3).kept gA (.inl rfl)))
    have hOk := hide (fun x hx => lit_ok (unhide HA x hx))
    obtain ⟨ua, uc, rfl, hcell⟩ := unhide U3
    have HCE := hide hcell
    clear g3 hN hca EO ES CB CO G2 H1 T2 U2 gA hcell
    go_wp2_with fail
    refine (unhide CX).mono ?_
    rintro e w4 ⟨r4, rfl, m4⟩
    obtain ⟨ra, rc, rfl⟩ := row_form m4.1
    have M4 : Hid (Made w3 w4 (.slice (some ⟨w3.heap.size, 0, none⟩) 0 0) []) := hide ⟨(unhide M3).1.kept m4.2 (.inr (fun e => by cases e)), grown_trans (unhide M3).2 m4.2⟩
    have B4 : Hid (w4.ownsRow 0 59 1 (.slice ra (bh a 0).length rc) (bh a 0).length (words (bh a 0))) := css.own_mono m4.1 (Nat.zero_le _)
    rw [bh_len] at *
    clear m4 CX M3
    go_wp2_with fail
    go_loopw [9, 10, 45] (fun uv kv iv wr => ∃ (K : List Int) (k : Nat), k ≤ a.length ∧ kv = .int .u64 (setOf K : Int) ∧ iv = .int .i64 (k : Int) ∧ Hid (Cor m LL a K k) ∧ Hid (Made w3 wr uv K) ∧ Hid (wr.ownsRow 0 59 1 (.slice ra a.length rc) a.length (words (bh a 0)))) (fun _ _ iv _ => a.length - (intOf iv).toNat)
    case atStart => exact ⟨[], 0, Nat.zero_le _, rfl, rfl, ST, M4, B4⟩
    case round =>
      obtain ⟨K, k, hk, rfl, rfl, hcor, hmd, hbe⟩ := hrel
      clear ST M4 B4
      by_cases hlt : k < a.length
      · have hco := unhide hcor
        have hmd' := unhide hmd
        have hi' : (k : Int) < (a.length : Int) := by omega
        rcases unhide HCE with h | ⟨b, off, rfl, hbl, hcb⟩
        · rw [h] at hlt
          simp at hlt
        obtain ⟨g, cap, e, _⟩ := (unhide hbe).form (by omega)
        rw [Value.slice.injEq] at e
        obtain ⟨rfl, hz, rfl⟩ := e
        clear hz
        have c1 := hmd'.2.cell (hcb k hlt) (fun e => by cases e)
        have c2 : wr.cell? ⟨g, k, none⟩ = some (.int .u64 (setOf (a.drop (k + 1)) : Int)) := by
          rw [(unhide hbe).cellAt k (by omega), words_at (bh_at hlt), if_pos (Nat.zero_le _)]
        have hmem : a.getD k 0 ∈ a := by
          rw [List.getD_eq_getElem?_getD, List.getElem?_eq_getElem hlt]
          exact List.getElem_mem hlt
        have hli := unhide HA _ hmem
        have hok := lit_ok hli
        have hb := lits.okB_iff.1 hok
        have hb1 := hb.2.1
        have hb2 := hb.2.2
        have hin : ∀ x ∈ K ++ a.drop (k + 1), litIn (m : Int) x = true := by
          intro x hx
          rw [List.mem_append] at hx
          rcases hx with hx | hx
          · exact hco.li x hx
          · exact unhide HA x (List.mem_of_mem_drop hx)
        have es := setOf_app K (a.drop (k + 1))
        have EOR := hide (srt.orN_eq (setOf K) (setOf (a.drop (k + 1))) (setOf_lt _) (setOf_lt _))
        have CH := fun w' => bset.hasC (setOf K ||| setOf (a.drop (k + 1))) (a.getD k 0) w' (by rw [← es]; exact setOf_lt _) hok
        have hmm := has_mem (L := K ++ a.drop (k + 1)) hok (fun y hy => lit_ok (hin y hy))
        rw [es] at hmm
        cases hbit : (setOf K ||| setOf (a.drop (k + 1))).testBit (placeN (a.getD k 0))
        · rw [hbit] at CH
          have CH' := hide CH
          have CM := callsIn_wide.1 (least m LL (K ++ a.drop (k + 1)) s c 0 (unhide H2) hin wr ((unhide S3).kept hmd'.2) ((unhide T3).kept hmd'.2))
          rw [es] at CM
          unfold LeastE at CM
          have CM' := hide CM
          have KN : Hid (left_ m LL (K ++ a.drop (k + 1)) [] = none → Cor m LL a K (k + 1)) := fun hN => hco.off hlt (by unfold cano; rw [solve_yes (unhide HC) (List.all_eq_true.2 hin), hN]; rfl)
          have KY : Hid (∀ l, left_ m LL (K ++ a.drop (k + 1)) [] = some l → Cor m LL a (K ++ [a.getD k 0]) (k + 1)) := fun l hN => hco.on hlt hli (by unfold cano; rw [solve_yes (unhide HC) (List.all_eq_true.2 hin), hN]; rfl)
          have CW0 := fun w' => bset.withC (setOf K) (a.getD k 0) w' (setOf_lt _) hok
          have ew : withN (setOf K) (a.getD k 0) = setOf (K ++ [a.getD k 0]) := by rw [bset.setOf_snoc, hok]; rfl
          rw [ew] at CW0
          have CW := hide CW0
          have hKl : K.length ≤ 1048576 := by have := hco.le; omega
          have hbe' := unhide hbe
          clear hbit hmm CH CM CW0 ew es hco hin hb hok hli hmem hcb
          generalize left_ m LL (K ++ a.drop (k + 1)) [] = OO at *
          generalize setOf (a.drop (k + 1)) = Y at *
          generalize a.getD k 0 = y at *
          generalize hX2 : setOf (K ++ [y]) = X2 at *
          have HX2 := hide hX2
          clear hX2
          generalize hKK : setOf K = X at *
          have HKK := hide hKK
          clear hKK hbe' hmd'
          go_wp2_with fail
          rw [unhide EOR]
          refine (unhide CH' _).mono ?_; rintro e w5 ⟨rfl, hw⟩; have hw' := hw.symm; clear hw; subst hw'
          go_wp2_with fail
          refine (unhide CM').mono ?_
          rintro e w5 ⟨g5, ⟨hN, rfl⟩ | ⟨l, P, hN, hW, hh, rfl⟩⟩
          · have KK := hide (unhide KN hN)
            have M5 := hide (mup (unhide hmd) g5)
            have B5 := hide ((unhide hbe).kept g5 (.inr (fun e => by cases e)))
            clear g5 hN
            go_wp2_with fail
            go_roundw
            case rel => exact ⟨K, k + 1, by omega, by rw [unhide HKK], by go_num, unhide KK, unhide M5, unhide B5⟩
            case measure => simp [intOf]; omega
          · have KK := hide (unhide KY l hN)
            have gA := World.grownBy_alloc w5 (.cells #[.int .i64 y] 3) none
            have M5 := hide (mup (unhide hmd) (grown_trans g5 gA))
            have B5 := hide ((unhide hbe).kept (grown_trans (r := none) g5 gA) (.inr (fun e => by cases e)))
            have OB := hide (lq.one_own w5 y)
            have hKl2 : K.length + [y].length ≤ 4194304 := by simp; omega
            clear g5 hN hW hh gA KY KN CM' CH'
            go_wp2_with (at_builtin; refine app.appendI (unhide M5).2 (unhide M5).1 (unhide OB) hKl2 rfl _ _ rfl rfl rfl ?_)
            intro v6 w6 m6 g6
            have M6 := hide m6
            have B6 := hide ((unhide B5).kept g6 (row_ne (unhide B5) (unhide M5).1 (by decide)))
            clear m6 g6 B5 M5 OB
            go_wp2_with fail
            refine (unhide CW _).mono ?_; rintro e w7 ⟨rfl, hw⟩; have hw' := hw.symm; clear hw; subst hw'
            go_wp2_with fail
            go_roundw
            case rel => exact ⟨K ++ [y], k + 1, by omega, by rw [unhide HX2], by go_num, unhide KK, unhide M6, unhide B6⟩
            case measure => simp [intOf]; omega
        · rw [hbit] at CH
          have CH' := hide CH
          have KD := hide (hco.dup hlt hli (hmm.1 hbit))
          clear hbit hmm CH es hco hin hb hok hli hmem hcb hmd'
          generalize setOf (a.drop (k + 1)) = Y at *
          generalize a.getD k 0 = y at *
          generalize hKK : setOf K = X at *
          have HKK := hide hKK
          clear hKK
          go_wp2_with fail
          rw [unhide EOR]
          refine (unhide CH' _).mono ?_; rintro e w5 ⟨rfl, hw⟩; have hw' := hw.symm; clear hw; subst hw'
          go_wp2_with fail
          go_roundw
          case rel => exact ⟨K, k + 1, by omega, by rw [unhide HKK], by go_num, unhide KD, unhide hmd, unhide hbe⟩
          case measure => simp [intOf]; omega
      · have hi' : ¬ (k : Int) < (a.length : Int) := by omega
        have hk' : k = a.length := by omega
        have ER : Hid (O = some K) := by
          have := (unhide hcor).eq
          rw [hk', List.drop_length, coreG] at this
          rw [unhide E, this]
          rfl
        clear hk'
        go_wp2_with fail
        go_ret2
        rw [unhide ER]
        exact ⟨_, rfl, made_sub (unhide G3) (unhide hmd)⟩
  · have hca : cano (m : Int) LL a = true := by unfold cano; rw [unhide ES, hN]; rfl
    have E : Hid (O = none) := by
      have := unhide EO
      rw [hca] at this
      exact this
    have G3 := hide (grown_trans (r := none) (unhide G2) g3)
    clear g3 hN hW hh hca EO ES CB CO
    go_wp2_with fail
    go_ret2
    rw [unhide E]
    exact ⟨_, rfl, made_sub (unhide G3) (app.made_nil _)⟩
end Go.Proofs.YtapkckfgbimmcaaDoor.ks
namespace Go.Proofs.YtapkckfgbimmcaaDoor.ks
open Go.ChangeShapes Go.WideShapes Go.ChangeAt Go.RowKit
open Go.Proofs.YtapkckfgbimmcaaDoor.lq (solveL FromE lits_in solve_no made_sub made_nilD)
open Go.Proofs.YtapkckfgbimmcaaDoor.css (Sls tot)
open Go.Proofs.YtapkckfgbimmcaaDoor.cf (Box)
open Go.Proofs.YtapkckfgbimmcaaDoor.ok (cnfB litIn)
open Go.Proofs.YtapkckfgbimmcaaDoor.wo (Made)
open Go.Proofs.YtapkckfgbimmcaaDoor.sl (Sl ints hide unhide grown_refl grown_trans)
set_option linter.unusedVariables false
/-- numbers that lie anywhere, behind numbers of the call's own -/
theorem wpT {o : Oper} {a : Act} {K : Act → World → Prop} {Q : Exit → Act → World → Prop} {w wr : World} {va : Value} {A B : List Int} {ad : Addr} {cap : Nat}
    (hg : w.grownBy wr none) (hA : wr.ownsRow w.heap.size 3 1 va A.length (ints A)) (hB : ∀ j, j < B.length → wr.cell? (ad.add j) = some (.int .i64 (B.getD j 0))) (hl : A.length + B.length ≤ 4194304) (s x : Operand)
    (ho : o.op = .call { callee := .builtin .append, args := #[s, x], argTypes := #[28, 28] }) (hs : a.eval s = va) (hx : a.eval x = .slice (some ad) B.length cap)
    (h : ∀ v' w1, Made w w1 v' (A ++ B) → wr.grownBy w1 va.ownBlock → K (a.put o.dst v') w1) : o.wp Tryd.prog a wr K Q := by
  obtain ⟨i0, hi, hz0, hz1, hz2⟩ := info_parts sl.info3
  have hsz := hg.size
  refine wp_append_own _ s x 28 ho w.heap.size 3 i0 (.int .i64 0) 1 8 Tryd.underlying28 hi hz0 hz1 hz2 rfl (by decide) va A.length (ints A) hs hA ad B.length cap (ints B) hx (by rw [sl.ints_length]; omega) ?_ ?_ ?_ ?_ ?_ ?_
  · intro j u hj
    have hjl : j < B.length := by
      have := (List.getElem?_eq_some_iff.1 hj).1
      rwa [sl.ints_length] at this
    rw [hB j hjl, ← hj]
    simp [sl.ints, hjl]
  · exact ints_oneCell .i64 B
  · unfold maxLen
    omega
  · omega
  · exact hsz
  · intro v' w1 hown' hgrow _
    refine h v' w1 ⟨?_, ⟨hgrow.os.trans hg.os, hgrow.tape.trans hg.tape, hgrow.output.trans hg.output, Nat.le_trans hsz hgrow.size, fun k hk _ => ?_⟩⟩ hgrow
    · rw [List.length_append, app.ints_append]
      exact hown'
    · rw [hgrow.block k (by omega) (fun e => by have := (hA.lt k e.symm).1; omega)]
      exact hg.block k hk (fun e => by cases e)
theorem stepT {ops : Array Oper} {E : Prop} {o : Oper} {a : Act} {K : Act → World → Prop} {Q : Exit → Act → World → Prop} {w wr : World} {va : Value} {A B : List Int} {ad : Addr} {n cap : Nat}
    (hg : w.grownBy wr none) (hA : wr.ownsRow w.heap.size 3 1 va A.length (ints A)) (hB : ∀ j, j < B.length → wr.cell? (ad.add j) = some (.int .i64 (B.getD j 0))) (hl : A.length + B.length ≤ 4194304) (hn : n = B.length) (hgd : o.guard = none) (s x : Operand)
    (ho : o.op = .call { callee := .builtin .append, args := #[s, x], argTypes := #[28, 28] }) (hs : a.eval s = va) (hx : a.eval x = .slice (some ad) n cap)
    (h : ∀ v' w1, Made w w1 v' (A ++ B) → wr.grownBy w1 va.ownBlock → K (a.put o.dst v') w1) : if Region.wanted o (yielded ops a.tmps) = true then Oper.wp Tryd.prog o a wr K Q else E := by
  rw [if_pos (by simp [Region.wanted, hgd])]
  subst hn
  exact wpT hg hA hB hl s x ho hs hx h
def lenOf : Value → Nat
  | .slice _ n _ => n
  | _ => 0
theorem core_step {n : Int} {LL : List (List Int)} {M : List Int} {k : Nat} (hk : k < M.length) : coreG n LL (M.take k) (M.drop k) = if cano n LL (M.take k ++ M.drop (k + 1)) then coreG n LL (M.take (k + 1)) (M.drop (k + 1)) else coreG n LL ((M.take k ++ M.drop (k + 1)).take k) ((M.take k ++ M.drop (k + 1)).drop k) := by
  have hl : (M.take k).length = k := by rw [List.length_take]; omega
  have e1 : (M.take k ++ M.drop (k + 1)).take k = M.take k := by rw [List.take_append_of_le_length (by omega), List.take_of_length_le (by omega)]
  have e2 : (M.take k ++ M.drop (k + 1)).drop k = M.drop (k + 1) := by rw [List.drop_append_of_le_length (by omega), List.drop_of_length_le (by omega), List.nil_append]
  rw [e1, e2, List.drop_eq_getElem_cons hk, coreG, List.take_succ_eq_append_getElem hk]
set_option maxRecDepth 100000 in
set_option maxHeartbeats 8000000 in
theorem specCore (v u : Value) (n : Int) (LL : List (List Int)) (a : List Int) (lo hi : Nat) (w : World) (hn : tot LL ≤ 1048576) (ha : a.length ≤ 1048576) (hv : Sls w v LL) (hu : sl.Own lo hi w u a) :
    Calls Tryd.prog 27 #[.agg #[.int .i64 n, v], u] w fun e w' => FromE w (coreO n LL a) e w' := by
  obtain ⟨O, hO⟩ : ∃ O, coreO n LL a = O := ⟨_, rfl⟩
  rw [hO]
  have HO := hide hO
  clear hO
  have g0 := World.grownBy_alloc w (.cells #[.int .i64 n, v] 26) none
  have C1 := ok.specCnfOk v n LL _ hn (hv.kept g0)
  have F0 := hide (Box.new 26 w (.int .i64 n) v)
  have HU := hide (hu.kept g0)
  have HV := hide (hv.kept g0)
  have G0 := hide g0
  obtain ⟨ua, uc, rfl, _⟩ := hu.sl
  have x0 := (unhide F0).c0
  have x1 := (unhide F0).c1
  clear g0 hv hu
  cases hc : cnfB n LL
  · rw [hc] at C1
    have CC := hide C1
    have E := hide ((unhide HO).symm.trans (core_none (n := n) (LL := LL) (a := a) (by rw [hc]; rfl)))
    clear C1 hc HV HU
    go_enter Tryd.func27, Tryd.ntmps27
    go_wp2_with fail
    refine (unhide CC).mono ?_; rintro e w1 ⟨rfl, g1⟩
    have G1 := hide (grown_trans (r := none) (unhide G0) g1)
    clear g1 CC x0 x1
    go_wp2_with fail
    go_ret2
    rw [unhide E]
    exact ⟨_, rfl, made_sub (unhide G1) (app.made_nil _)⟩
  rw [hc] at C1
  have CC := hide C1
  have HC := hide hc
  clear C1 hc
  go_enter Tryd.func27, Tryd.ntmps27
  go_wp2_with fail
  refine (unhide CC).mono ?_; rintro e w1 ⟨rfl, g1⟩
  have G1 := hide (grown_trans (r := none) (unhide G0) g1)
  have F1 := hide ((unhide F0).kept g1)
  have U1 := hide ((unhide HU).kept g1)
  have V1 := hide ((unhide HV).kept g1)
  have y0 := (unhide F1).c0
  have y1 := (unhide F1).c1
  have CL := l4.l04Lits v (.slice ua a.length uc) n a w1 ha (unhide U1).sl
  clear g1 CC x0 x1 G0 F0 HU HV
  cases hl : a.all (litIn n)
  · rw [hl] at CL
    have C2 := hide CL
    have E := hide ((unhide HO).symm.trans (core_none (n := n) (LL := LL) (a := a) (by rw [hl, Bool.and_false])))
    clear CL hl V1 U1 HC
    go_wp2_with fail
    refine (unhide C2).mono ?_; rintro e w2 ⟨rfl, g2⟩
    have G2 := hide (grown_trans (r := none) (unhide G1) g2)
    clear g2 C2 y0 y1
    go_wp2_with fail
    go_ret2
    rw [unhide E]
    exact ⟨_, rfl, made_sub (unhide G2) (app.made_nil _)⟩
  rw [hl] at CL
  have C2 := hide CL
  have EO : Hid (O = if cano n LL a then none else some (coreG n LL [] a)) := by
    have := unhide HO
    unfold coreO at this
    rw [unhide HC, hl] at this
    exact this.symm
  clear CL hl HO
  go_wp2_with fail
  refine (unhide C2).mono ?_; rintro e w2 ⟨rfl, g2⟩
  have G2 := hide (grown_trans (r := none) (unhide G1) g2)
  have F2 := hide ((unhide F1).kept g2)
  have U2 := hide ((unhide U1).kept g2)
  have V2 := hide ((unhide V1).kept g2)
  have CS := lq.specSolveWith v (.slice ua a.length uc) n LL a _ _ w2 hn ha (unhide V2) (unhide U2)
  clear g2 C2 y0 y1 G1 F1 U1 V1
  have z0 := (unhide F2).c0
  have z1 := (unhide F2).c1
  unfold lq.FromE at CS
  unfold cano at EO
  generalize (solveL n LL a).getD [] = RS at *
  cases hs : (solveL n LL a).isSome
  · rw [hs] at CS EO
    have CS' := hide CS
    have E : Hid (O = some (coreG n LL [] a)) := unhide EO
    clear CS hs EO
    go_wp2_with fail
    refine (unhide CS').mono ?_; rintro e w3 ⟨r3, rfl, m3⟩
    have G3 := hide (grown_trans (r := none) (unhide G2) m3.2)
    have F3 := hide ((unhide F2).kept m3.2)
    have V3 := hide ((unhide V2).kept m3.2)
    have gA := World.grownBy_alloc w3 (.cells #[] 3) none
    have U3 := hide (((unhide U2).kept m3.2).kept gA)
    have M3 := hide (app.made_nil w3)
    have hab1 : ([] : List Int).length + a.length ≤ 4194304 := by simp; omega
    clear m3 z0 z1 CS' gA G2 U2 V2 F2
    go_wp2_with (at_builtin; refine app.appendI (A := []) (unhide M3).2 (unhide M3).1 (unhide U3) hab1 rfl _ _ rfl rfl rfl ?_)
    intro v4 w4 m4 _
    have M4 : Hid (Made w3 w4 v4 a) := m4
    clear m4 M3 U3
    go_wp2_with fail
    go_loopw [8, 9] (fun uv iv wr => ∃ (M : List Int) (k : Nat), k ≤ M.length ∧ M.length ≤ a.length ∧ iv = .int .i64 (k : Int) ∧ Hid (coreG n LL [] a = coreG n LL (M.take k) (M.drop k)) ∧ Made w3 wr uv M) (fun uv iv _ => lenOf uv - (intOf iv).toNat)
    case atStart => exact ⟨a, 0, Nat.zero_le _, Nat.le_refl _, rfl, rfl, unhide M4⟩
    case round =>
      obtain ⟨M, k, hk, hMa, rfl, hcore, hmd⟩ := hrel
      clear M4
      obtain ⟨ma, mc, rfl⟩ := row_form hmd.1
      by_cases hlt : k < M.length
      · obtain ⟨g, cap, e, _⟩ := hmd.1.form (by omega)
        rw [Value.slice.injEq] at e
        obtain ⟨rfl, hz, rfl⟩ := e
        clear hz
        have hcap : M.length ≤ mc := by
          rcases hmd.1.2 with ⟨e, _⟩ | ⟨g', cap', cur, e, _, _, hn', _⟩
          · cases e
          · rw [Value.slice.injEq] at e
            obtain ⟨_, _, rfl⟩ := e
            exact hn'
        have hcapi : (k : Int) ≤ (mc : Int) := by omega
        have hi' : (k : Int) < (M.length : Int) := by omega
        have hi1 : (k : Int) + 1 ≤ (M.length : Int) := by omega
        have cst := core_step (n := n) (LL := LL) hlt
        have U5 := hide (own_pre (L := M) (k := k) hmd.1 (by omega))
        have HM := hide hmd
        have hA1 : Hid (wr.grownBy (wr.alloc (.cells #[] 3)).drew none) := hide (grown_trans (World.grownBy_alloc _ _ none) (cf.grown_drew _ none))
        have ho1 := hide (made_nilD wr)
        have hu1 := hide ((unhide U5).kept (unhide hA1))
        have hTl : (M.take k).length = k := by rw [List.length_take]; omega
        have hDl : (M.drop (k + 1)).length = M.length - (k + 1) := by rw [List.length_drop]
        have hab1 : Hid (([] : List Int).length + (M.take k).length ≤ 4194304) := by show _ ≤ _; simp; omega
        have hab2 : Hid ((M.take k).length + (M.drop (k + 1)).length ≤ 4194304) := by show _ ≤ _; omega
        have HB : Hid (∀ w2, wr.grownBy w2 none → ∀ j, j < (M.drop (k + 1)).length → w2.cell? ⟨g, k + 1 + j, none⟩ = some (.int .i64 ((M.drop (k + 1)).getD j 0))) := by
          intro w2 g2 j hj
          have := hmd.1.cellAt (k + 1 + j) (by omega)
          refine g2.cell (this.trans ?_) (fun e => by cases e)
          simp [sl.ints, show k + 1 + j < M.length by omega]
        have HNL : Hid (M.length - (k + 1) = (M.drop (k + 1)).length) := hDl.symm
        have HTD := hide (And.intro hTl hDl)
        have hcap2 : (k : Int) + 1 ≤ (mc : Int) := by omega
        clear hTl hDl hmd
        have hw1 : IntKind.i64.wrap ((k : Int) + 1) = (k : Int) + 1 := by rw [IntKind.wrap_i64]; omega
        have hw2 : (0 : Int) ≤ (k : Int) + 1 := by omega
        have hw4 : (k : Int) ≤ (k : Int) + 1 := by omega
        have hw3 : ((k : Int) + 1).toNat = k + 1 := by omega
        have CSS := hide (fun v2 w6 (m6 : Made wr w6 v2 (M.take k ++ M.drop (k + 1))) => callS (n := n) hn (by rw [List.length_append, (unhide HTD).1, (unhide HTD).2]; omega) ((unhide V3).kept (unhide HM).2) m6)
        obtain ⟨bb, hbb⟩ : ∃ bb, cano n LL (M.take k ++ M.drop (k + 1)) = bb := ⟨_, rfl⟩
        rw [hbb] at cst
        have EC0 : Hid (bb = false → coreG n LL (M.take k) (M.drop k) = coreG n LL ((M.take k ++ M.drop (k + 1)).take k) ((M.take k ++ M.drop (k + 1)).drop k)) := fun e => by rw [cst, e]; rfl
        have EC1 : Hid (bb = true → coreG n LL (M.take k) (M.drop k) = coreG n LL (M.take (k + 1)) (M.drop (k + 1))) := fun e => by rw [cst, e]; rfl
        unfold cano at hbb
        rw [hbb] at CSS
        clear hbb cst
        by_cases hkc : mc = k + 1
        · have HBX0 : ∀ w5, wr.grownBy w5 none → ∀ j, j < (M.drop (k + 1)).length → w5.cell? ((⟨g, 0, none⟩ : Addr).add j) = some (.int .i64 ((M.drop (k + 1)).getD j 0)) := fun w5 g5 j hj => by have := (unhide HTD).2; omega
          have HN0 : Hid (0 = (M.drop (k + 1)).length) := by show 0 = _; have := (unhide HTD).2; omega
          have HBX := hide HBX0
          clear HBX0
          subst hkc
          go_wp2_with fail
          go_region_law
            (first
              | (refine app.stepI (A := []) (unhide hA1) (unhide ho1) (unhide hu1) (unhide hab1) (by rfl) _ _ (by rfl) (by rfl) (by rfl) ?_; intro v5 w5 m5 g5; have M5 : Hid (Made wr w5 v5 (M.take k)) := hide m5; have B5 := hide (unhide HBX w5 m5.2); clear m5 g5)
              | (refine stepT (unhide M5).2 (unhide M5).1 (unhide B5) (unhide hab2) (unhide HN0) (by rfl) _ _ (by rfl) (by rfl) (by rfl) ?_; intro v6 w6 m6 g6; have M6 := hide m6; clear m6 g6))
          all_goals
            have F6 := hide ((unhide F3).kept (grown_trans (unhide HM).2 (unhide M6).2))
            have z0 := (unhide F6).c0
            have z1 := (unhide F6).c1
            have CI := hide (unhide CSS _ _ (unhide M6))
            clear hA1 ho1 hu1 M5 B5
            go_wp2_with fail
            refine (unhide CI).mono ?_
            rintro e w7 ⟨r7, rfl, m7⟩
            have M7 := hide (mup (unhide HM) (grown_trans (unhide M6).2 m7.2))
            have N7 := hide (made_sub (unhide HM).2 (mup (unhide M6) m7.2))
            clear m7
            cases bb
            · have EN := hide ((unhide hcore).trans (unhide EC0 rfl))
              go_wp2_with fail
              go_roundw
              case rel => exact ⟨M.take k ++ M.drop (k + 1), k, by rw [List.length_append, (unhide HTD).1]; omega, by rw [List.length_append, (unhide HTD).1, (unhide HTD).2]; omega, rfl, unhide EN, unhide N7⟩
              case measure =>
                obtain ⟨ra, rc, e⟩ := row_form (unhide N7).1
                rw [e, List.length_append, (unhide HTD).1, (unhide HTD).2]
                simp [lenOf, intOf]
                omega
            · have EN := hide ((unhide hcore).trans (unhide EC1 rfl))
              go_wp2_with fail
              go_roundw
              case rel => exact ⟨M, k + 1, by omega, hMa, by go_num, unhide EN, unhide M7⟩
              case measure => simp [lenOf, intOf]; omega
        · have HBX0 : ∀ w5, wr.grownBy w5 none → ∀ j, j < (M.drop (k + 1)).length → w5.cell? ((⟨g, k + 1, none⟩ : Addr).add j) = some (.int .i64 ((M.drop (k + 1)).getD j 0)) := fun w5 g5 j hj => by
            rw [Addr.add_mid]
            exact unhide HB w5 g5 j hj
          have HBX := hide HBX0
          clear HBX0
          go_wp2_with fail
          go_region_law
            (first
              | (refine app.stepI (A := []) (unhide hA1) (unhide ho1) (unhide hu1) (unhide hab1) (by rfl) _ _ (by rfl) (by rfl) (by rfl) ?_; intro v5 w5 m5 g5; have M5 : Hid (Made wr w5 v5 (M.take k)) := hide m5; have B5 := hide (unhide HBX w5 m5.2); clear m5 g5)
              | (refine stepT (unhide M5).2 (unhide M5).1 (unhide B5) (unhide hab2) (unhide HNL) (by rfl) _ _ (by rfl) (by rfl) (by rfl) ?_; intro v6 w6 m6 g6; have M6 := hide m6; clear m6 g6))
          all_goals
            have F6 := hide ((unhide F3).kept (grown_trans (unhide HM).2 (unhide M6).2))
            have z0 := (unhide F6).c0
            have z1 := (unhide F6).c1
            have CI := hide (unhide CSS _ _ (unhide M6))
            clear hA1 ho1 hu1 M5 B5
            go_wp2_with fail
            refine (unhide CI).mono ?_
            rintro e w7 ⟨r7, rfl, m7⟩
            have M7 := hide (mup (unhide HM) (grown_trans (unhide M6).2 m7.2))
            have N7 := hide (made_sub (unhide HM).2 (mup (unhide M6) m7.2))
            clear m7
            cases bb
            · have EN := hide ((unhide hcore).trans (unhide EC0 rfl))
              go_wp2_with fail
              go_roundw
              case rel => exact ⟨M.take k ++ M.drop (k + 1), k, by rw [List.length_append, (unhide HTD).1]; omega, by rw [List.length_append, (unhide HTD).1, (unhide HTD).2]; omega, rfl, unhide EN, unhide N7⟩
              case measure =>
                obtain ⟨ra, rc, e⟩ := row_form (unhide N7).1
                rw [e, List.length_append, (unhide HTD).1, (unhide HTD).2]
                simp [lenOf, intOf]
                omega
            · have EN := hide ((unhide hcore).trans (unhide EC1 rfl))
              go_wp2_with fail
              go_roundw
              case rel => exact ⟨M, k + 1, by omega, hMa, by go_num, unhide EN, unhide M7⟩
              case measure => simp [lenOf, intOf]; omega
      · have hi' : ¬ (k : Int) < (M.length : Int) := by omega
        have ER : Hid (O = some M) := by
          have hkM : k = M.length := by omega
          have := unhide hcore
          rw [hkM, List.drop_length, List.take_length, coreG] at this
          show O = some M
          rw [unhide E, this]
        have HM := hide hmd
        clear hmd
        go_wp2_with fail
        go_ret2
        rw [unhide ER]
        exact ⟨_, rfl, made_sub (unhide G3) (unhide HM)⟩
  · rw [hs] at CS EO
    have CS' := hide CS
    have E : Hid (O = none) := unhide EO
    clear CS hs EO
    go_wp2_with fail
    refine (unhide CS').mono ?_; rintro e w3 ⟨r3, rfl, m3⟩
    have G3 := hide (grown_trans (r := none) (unhide G2) m3.2)
    clear m3 z0 z1 CS'
    go_wp2_with fail
    go_ret2
    rw [unhide E]
    exact ⟨_, rfl, made_sub (unhide G3) (app.made_nil _)⟩
theorem bothC (n : Int) (LL : List (List Int)) (L : List Int) (hn : tot LL ≤ 1048576) (hL : L.length ≤ 1048576) : ∃ (R : List Int) (b : Bool), R.length ≤ 1048576 ∧
    (∀ v u (lo hi : Nat) w, Sls w v LL → sl.Own lo hi w u L → Calls Tryd.prog 27 #[.agg #[.int .i64 n, v], u] w fun e w' => ∃ r, e = .returned (.tuple #[r, .bool b]) ∧ w'.ownsRow w.heap.size 3 1 r R.length (ints R) ∧ w.grownBy w' none) ∧
    (∀ v u (lo hi : Nat) w, srt.Tab w → Sls w v LL → sl.Own lo hi w u L → Calls Tryd.prog 26 #[.agg #[.int .i64 n, v], u] w fun e w' => ∃ r, e = .returned (.tuple #[r, .bool b]) ∧ w'.ownsRow w.heap.size 3 1 r R.length (ints R) ∧ w.grownBy w' none) :=
  ⟨_, _, Nat.le_trans (core_len n LL L) hL, fun v u lo hi w h k => specCore v u n LL L lo hi w hn hL h k, fun v u lo hi w t h k => implCore v u n LL L w t hn hL h k.sl⟩
end Go.Proofs.YtapkckfgbimmcaaDoor.ks
namespace Go.Proofs.YtapkckfgbimmcaaDoor.ks
open Go.Proofs.YtapkckfgbimmcaaDoor.lq (Bits holds solveL lst lst_none lst_some)
open Go.Proofs.YtapkckfgbimmcaaDoor.ok (cnfB litIn)
open Go.Proofs.YtapkckfgbimmcaaDoor.css (Sls tot)
open Go.Proofs.YtapkckfgbimmcaaDoor.sl (grown_trans)
set_option linter.unusedVariables false
theorem cano_mono {n : Int} {LL : List (List Int)} {A B : List Int} (h : ∀ x ∈ B, x ∈ A) (hc : cano n LL A = true) : cano n LL B = true := by
  unfold cano lq.solveL at *
  cases hg : cnfB n LL && A.all (litIn n) with
  | false => rw [hg] at hc; cases hc
  | true =>
    rw [hg] at hc
    rw [Bool.and_eq_true, List.all_eq_true] at hg
    have hb : (cnfB n LL && B.all (litIn n)) = true := by
      rw [Bool.and_eq_true, List.all_eq_true]
      exact ⟨hg.1, fun x hx => hg.2 x (h x hx)⟩
    rw [hb]
    show (lst n.toNat (holds LL B)).isSome = true
    have hc' : (lst n.toNat (holds LL A)).isSome = true := hc
    obtain ⟨l, hl⟩ := Option.isSome_iff_exists.1 hc'
    have q := lst_some hl
    cases e : lst n.toNat (holds LL B) with
    | some _ => rfl
    | none =>
      have z := lst_none.1 e l q.1
      have q2 := q.2
      unfold lq.holds at z q2
      rw [Bool.and_eq_true, List.all_eq_true] at q2
      rw [q2.1, Bool.true_and, List.all_eq_false] at z
      obtain ⟨x, hx, hz⟩ := z
      exact absurd (q2.2 x (h x hx)) hz
/-- a list without its place i -/
def wo1 (c : List Int) (i : Nat) : List Int := c.take i ++ c.drop (i + 1)
theorem wo1_app {K R : List Int} {i : Nat} (h : i < K.length) : wo1 (K ++ R) i = K.take i ++ (K.drop (i + 1) ++ R) := by
  unfold wo1
  rw [List.take_append_of_le_length (by omega), List.drop_append_of_le_length (by omega)]
theorem wo1_last {K R : List Int} {x : Int} : wo1 (K ++ x :: R) K.length = K ++ R := by
  unfold wo1
  rw [List.take_append_of_le_length (Nat.le_refl _), List.take_of_length_le (Nat.le_refl _)]
  congr 1
  rw [show K ++ x :: R = (K ++ [x]) ++ R by simp, List.drop_append_of_le_length (by simp), List.drop_of_length_le (by simp), List.nil_append]
theorem coreG_min {n : Int} {LL : List (List Int)} (R : List Int) : ∀ K, (∀ i, i < K.length → cano n LL (wo1 (K ++ R) i) = true) → ∀ i, i < (coreG n LL K R).length → cano n LL (wo1 (coreG n LL K R) i) = true := by
  induction R with
  | nil =>
    intro K h i hi
    have := h i hi
    rw [List.append_nil] at this
    exact this
  | cons x R ih =>
    intro K h
    cases hc : cano n LL (K ++ R) with
    | true =>
      rw [core_yes hc]
      refine ih (K ++ [x]) fun i hi => ?_
      rw [List.append_assoc, List.singleton_append]
      rw [List.length_append, List.length_singleton] at hi
      by_cases e : i < K.length
      · exact h i e
      · obtain rfl : i = K.length := by omega
        rw [wo1_last]
        exact hc
    | false =>
      rw [core_no hc]
      refine ih K fun i hi => ?_
      refine cano_mono (fun y hy => ?_) (h i hi)
      rw [wo1_app hi] at hy ⊢
      rw [List.mem_append, List.mem_append] at hy ⊢
      rcases hy with hy | hy | hy
      · exact .inl hy
      · exact .inr (.inl hy)
      · exact .inr (.inr (List.mem_cons_of_mem _ hy))
theorem coreG_no {n : Int} {LL : List (List Int)} (R : List Int) : ∀ K, cano n LL (K ++ R) = false → cano n LL (coreG n LL K R) = false := by
  induction R with
  | nil => intro K h; rw [List.append_nil] at h; exact h
  | cons x R ih =>
    intro K h
    cases hc : cano n LL (K ++ R) with
    | true =>
      rw [core_yes hc]
      refine ih (K ++ [x]) ?_
      rw [List.append_assoc, List.singleton_append]
      exact h
    | false => rw [core_no hc]; exact ih K hc
theorem coreG_mem {n : Int} {LL : List (List Int)} (R : List Int) : ∀ K, ∀ x ∈ coreG n LL K R, x ∈ K ++ R := by
  induction R with
  | nil => intro K x hx; rw [List.append_nil]; exact hx
  | cons y R ih =>
    intro K x hx
    cases hc : cano n LL (K ++ R) with
    | true =>
      rw [core_yes hc] at hx
      have := ih (K ++ [y]) x hx
      rwa [List.append_assoc, List.singleton_append] at this
    | false =>
      rw [core_no hc] at hx
      have := ih K x hx
      rw [List.mem_append] at this ⊢
      rcases this with q | q
      · exact .inl q
      · exact .inr (List.mem_cons_of_mem _ q)
/-- what FnCore asks of a core -/
structure CoreL (n : Int) (LL : List (List Int)) (a c : List Int) : Prop where
  no : cano n LL c = false
  na : cano n LL a = false
  sub : bset.subB c a = true
  min : ∀ i, i < c.length → cano n LL (wo1 c i) = true
theorem core_laws {n : Int} {LL : List (List Int)} {a c : List Int} (h : coreO n LL a = some c) : CoreL n LL a c := by
  unfold coreO at h
  split at h
  · split at h
    · cases h
    · rename_i hn
      have hn' : cano n LL a = false := by simpa using hn
      cases h
      refine ⟨coreG_no a [] hn', hn', ?_, coreG_min a [] (fun i hi => by simp at hi)⟩
      unfold bset.subB
      rw [List.all_eq_true]
      intro x hx
      unfold cls.hasB
      exact decide_eq_true (by have := coreG_mem a [] x hx; simpa using this)
  · cases h
theorem solve_nil {n : Int} {LL : List (List Int)} {a : List Int} (h : cano n LL a = false) : (solveL n LL a).getD [] = [] := by
  unfold cano at h
  cases e : solveL n LL a with
  | none => rfl
  | some l => rw [e] at h; cases h
/-- the program's SolveWith, as the laws call it -/
theorem callW (v u : Value) (n : Int) (LL : List (List Int)) (B : List Int) (w : World) (hT : srt.Tab w) (hn : tot LL ≤ 1048576) (hB : B.length ≤ 1048576) (hv : Sls w v LL) (hu : sl.Sl w u B) :
    Calls Tryd.prog 20 #[.agg #[.int .i64 n, v], u] w fun e w' => ∃ r, e = .returned (.tuple #[r, .bool (cano n LL B)]) ∧ wo.Made w w' r ((solveL n LL B).getD []) :=
  implSolveWith v u n LL B w hT hn hB hv hu
end Go.Proofs.YtapkckfgbimmcaaDoor.ks
namespace Go.Proofs.YtapkckfgbimmcaaDoor.ks
open Go.Proofs.YtapkckfgbimmcaaDoor.lq (Bits holds solveL lst lst_none lst_some bits_cons)
open Go.Proofs.YtapkckfgbimmcaaDoor.tr (cnfT litT assignB)
open Go.Proofs.YtapkckfgbimmcaaDoor.as_ (tl litAt)
open Go.Proofs.YtapkckfgbimmcaaDoor.ok (cnfB litIn)
open Go.Proofs.YtapkckfgbimmcaaDoor.css (Sls tot)
set_option linter.unusedVariables false
theorem bits_all : ∀ {n : Nat} {l : List Int}, Bits n l → l ∈ all_ n := by
  intro n
  induction n with
  | zero =>
    intro l h
    rw [lq.bits_nil h]
    exact List.mem_singleton.2 rfl
  | succ n ih =>
    intro l h
    cases l with
    | nil => have := h.1; simp at this
    | cons x l =>
      have hl : Bits n l := ⟨by have := h.1; rw [List.length_cons] at this; omega, fun y hy => h.2 y (List.mem_cons_of_mem _ hy)⟩
      rw [all_, List.mem_append, List.mem_map, List.mem_map]
      rcases h.2 x (List.mem_cons_self ..) with rfl | rfl
      · exact .inl ⟨l, ih hl, rfl⟩
      · exact .inr ⟨l, ih hl, rfl⟩
theorem lst_least {n : Nat} : ∀ {f : List Int → Bool} {l : List Int}, lst n f = some l → ∀ l', Bits n l' → f l' = true → l' = l ∨ l' ∈ aft l := by
  induction n with
  | zero =>
    intro f l h l' hl' _
    have := (lst_some h).1
    rw [lq.bits_nil this, lq.bits_nil hl']
    exact .inl rfl
  | succ n ih =>
    intro f l h l' hl' hf
    have h' : (match lst n (fun l => f (0 :: l)) with
      | some l => some (0 :: l)
      | none => (lst n (fun l => f (1 :: l))).map (1 :: ·)) = some l := h
    cases l' with
    | nil => have := hl'.1; simp at this
    | cons x t =>
      have ht : Bits n t := ⟨by have := hl'.1; rw [List.length_cons] at this; omega, fun y hy => hl'.2 y (List.mem_cons_of_mem _ hy)⟩
      cases h0 : lst n (fun l => f (0 :: l)) with
      | some l0 =>
        rw [h0] at h'
        cases h'
        have hl0 := (lst_some h0).1.1
        have ea : aft (0 :: l0) = (aft l0).map (0 :: ·) ++ (all_ l0.length).map (1 :: ·) := rfl
        rw [ea, List.mem_append, List.mem_map, List.mem_map]
        rcases hl'.2 x (List.mem_cons_self ..) with rfl | rfl
        · rcases ih h0 t ht hf with rfl | q
          · exact .inl rfl
          · exact .inr (.inl ⟨t, q, rfl⟩)
        · exact .inr (.inr ⟨t, by rw [hl0]; exact bits_all ht, rfl⟩)
      | none =>
        rw [h0] at h'
        cases h1 : lst n (fun l => f (1 :: l)) with
        | none => rw [h1] at h'; cases h'
        | some l1 =>
          rw [h1] at h'
          cases h'
          have ea : aft (1 :: l1) = (aft l1).map (1 :: ·) := rfl
          rw [ea, List.mem_map]
          rcases hl'.2 x (List.mem_cons_self ..) with rfl | rfl
          · have := lst_none.1 h0 t ht
            rw [this] at hf
            cases hf
          · rcases ih h1 t ht hf with rfl | q
            · exact .inl rfl
            · exact .inr ⟨t, q, rfl⟩
/-- no assignment ahead of the least answer is one -/
theorem less_none {l : List Int} {LL : List (List Int)} {i : Nat} (h24 : l.length ≤ 24) (hc : cnfB (l.length : Int) LL = true) (hs : solveL (l.length : Int) LL [] = some l) (hi : i < l.length) (h1 : ¬ l.getD i 0 = 0) :
    cano (l.length : Int) LL ((tl 0 l).take i ++ [-(i : Int) - 1]) = false := by
  rw [solve_yes (a := []) hc rfl] at hs
  have hs' : lst l.length (holds LL []) = some l := hs
  have hb := (lst_some hs').1
  have hl1 : l.getD i 0 = 1 := (getD_bit hb hi).resolve_left h1
  have hin : ∀ x ∈ (tl 0 l).take i ++ [-(i : Int) - 1], litIn (l.length : Int) x = true := by
    intro x hx
    rw [List.mem_append] at hx
    rcases hx with hx | hx
    · exact tl_in h24 hi x (List.mem_append_left _ hx)
    · simp at hx
      subst hx
      exact (in_pm h24 hi).2
  unfold cano
  rw [solve_yes hc (List.all_eq_true.2 hin), Option.isSome_eq_false_iff, Option.isNone_iff_eq_none]
  show lst l.length _ = none
  rw [lst_none]
  intro l' hl'
  cases q : holds LL ((tl 0 l).take i ++ [-(i : Int) - 1]) ([] ++ l') with
  | false => rfl
  | true =>
    exfalso
    have q' : holds LL ((tl 0 l).take i ++ [-(i : Int) - 1]) l' = true := q
    unfold lq.holds at q'
    rw [List.all_append, Bool.and_eq_true, Bool.and_eq_true, pre_lits h24 hb hl' (by omega), List.all_cons, List.all_nil, Bool.and_true] at q'
    have e0 : litAt i 0 = -(i : Int) - 1 := by unfold as_.litAt; rw [if_neg (by decide)]
    rw [← e0, lq.litT_at (by rw [hl'.1]; exact hi) (by omega) (.inl rfl) (getD_bit hl' hi), decide_eq_true_iff] at q'
    obtain ⟨c1, c2, c3⟩ := q'
    have alike : ∀ j, j < i → l'.getD j 0 = l.getD j 0 := by
      intro j hj
      have := congrArg (fun z => z.getD j 0) c2
      simp only [List.getD_eq_getElem?_getD, List.getElem?_take, if_pos hj] at this
      rw [List.getD_eq_getElem?_getD, List.getD_eq_getElem?_getD]
      exact this
    rcases lst_least hs' l' hl' (by rw [holds_nil]; exact c1) with e | e
    · rw [e, hl1] at c3
      cases c3
    · obtain ⟨k, k1, k2, k3, k4⟩ := aft_up hb.2 e
      rcases Nat.lt_trichotomy k i with z | z | z
      · rw [alike k z, k3] at k4
        cases k4
      · rw [z, hl1] at k3
        cases k3
      · have := k2 i z
        rw [hl1, c3] at this
        cases this
theorem cells_pre {w : World} {lo g cap k : Nat} {L M : List Int} (h : w.ownsRow lo 3 1 (.slice (some ⟨g, 0, none⟩) L.length cap) L.length (sl.ints L)) (hL : ∀ j, j < k → L[j]? = some (M.getD j 0)) :
    ∀ w', w.grownBy w' none → ∀ j, j < k → w'.cell? ((⟨g, 0, none⟩ : Addr).add j) = some (.int .i64 (M.getD j 0)) := by
  intro w' gg j hj
  rw [Addr.add_mid, Nat.zero_add]
  have hl := hL j hj
  have hjl := (List.getElem?_eq_some_iff.1 hl).1
  refine gg.cell ((h.cellAt j (by omega)).trans ?_) (fun e => by cases e)
  simp [sl.ints, hl]
theorem row_cap {w : World} {lo g cap k n : Nat} {t : TypeId} {xs : List Value} (h : w.ownsRow lo t 1 (.slice (some ⟨g, 0, none⟩) n cap) n xs) (hk : k ≤ n) : (k : Int) ≤ (cap : Int) := by
  rcases h.2 with ⟨e, _⟩ | ⟨g', cap', cur, e, _, _, hn', _⟩
  · cases e
  · rw [Value.slice.injEq] at e
    obtain ⟨_, _, rfl⟩ := e
    omega
theorem nil_at (w : World) {b : Nat} (hb : b ≤ w.heap.size) : (w.alloc (.cells #[] 3)).ownsRow b 3 1 (.slice (some ⟨w.heap.size, 0, none⟩) 0 0) ([] : List Int).length (sl.ints []) :=
  css.own_mono (app.made_nil w).1 hb
theorem size_drew (w : World) : w.drew.heap.size = w.heap.size := rfl
theorem one_at (w : World) (x : Int) : (w.alloc (.cells #[.int .i64 x] 3)).cell? ⟨w.heap.size, 0, none⟩ = some (.int .i64 x) := by simp
theorem one_after (w : World) (x : Int) : ((w.alloc (.cells #[] 3)).alloc (.cells #[.int .i64 x] 3)).cell? ⟨w.heap.size + 1, 0, none⟩ = some (.int .i64 x) := by simp
theorem one_before (w : World) (x : Int) : ((w.alloc (.cells #[.int .i64 x] 3)).alloc (.cells #[] 3)).cell? ⟨w.heap.size, 0, none⟩ = some (.int .i64 x) :=
  (World.grownBy_alloc _ (.cells #[] 3) none).cell (one_at w x) (fun e => by cases e)
theorem one_cell {w : World} {b : Nat} {x : Int} (h : w.cell? ⟨b, 0, none⟩ = some (.int .i64 x)) : ∀ j, j < [x].length → w.cell? ((⟨b, 0, none⟩ : Addr).add j) = some (.int .i64 ([x].getD j 0)) := by
  intro j hj
  obtain rfl : j = 0 := by simpa using hj
  rw [Addr.add_mid]
  exact h
theorem nil_after (w : World) (x : Int) {b : Nat} (hb : b ≤ w.heap.size) : ((w.alloc (.cells #[.int .i64 x] 3)).alloc (.cells #[] 3)).ownsRow b 3 1 (.slice (some ⟨w.heap.size + 1, 0, none⟩) 0 0) ([] : List Int).length (sl.ints []) := by
  have h := nil_at (w.alloc (.cells #[.int .i64 x] 3)) (b := b) (by rw [World.size_alloc]; omega)
  rw [World.size_alloc] at h
  exact h
end Go.Proofs.YtapkckfgbimmcaaDoor.ks
