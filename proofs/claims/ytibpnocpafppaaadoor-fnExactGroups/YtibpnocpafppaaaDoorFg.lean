/- Groups as plain mathematics: labels, the pairs made one, the words of the classes; no condition. -/
import Derived.Test.YtibpnocpafppaaaDoorSrtW
import Derived.Test.YtibpnocpafppaaaDoorOk
namespace Go.Proofs.YtibpnocpafppaaaDoor.fg
open Go.Proofs.YtibpnocpafppaaaDoor.lits (okB varI)
open Go.Proofs.YtibpnocpafppaaaDoor.ok (cnfB)
open Go.Proofs.YtibpnocpafppaaaDoor.bset (withN placeN)
open Go.Proofs.YtibpnocpafppaaaDoor.srt (srt litI fstI)
set_option linter.unusedVariables false
/-- two classes made one -/
def join (o : Nat → Nat) (x y : Nat) : Nat → Nat := fun u => if o u = max (o x) (o y) then min (o x) (o y) else o u
/-- each label is the least of its class -/
structure Lab (o : Nat → Nat) : Prop where
  le : ∀ u, o u ≤ u
  same : ∀ u, o (o u) = o u
  pos : ∀ u, 1 ≤ u → 1 ≤ o u
theorem lab_id : Lab id := ⟨fun _ => Nat.le_refl _, fun _ => rfl, fun _ h => h⟩
theorem join_lab {o : Nat → Nat} (h : Lab o) {x y : Nat} (hx : 1 ≤ x) (hy : 1 ≤ y) : Lab (join o x y) := by
  have x1 := h.pos x hx
  have y1 := h.pos y hy
  have xs := h.same x
  have ys := h.same y
  have ms : o (min (o x) (o y)) = min (o x) (o y) := by
    rcases Nat.le_total (o x) (o y) with q | q
    · rw [Nat.min_eq_left q, xs]
    · rw [Nat.min_eq_right q, ys]
  refine ⟨fun u => ?_, fun u => ?_, fun u hu => ?_⟩
  · have := h.le u
    unfold join
    split <;> omega
  · have hs := h.same u
    unfold join
    by_cases e : o u = max (o x) (o y)
    · rw [if_pos e, ms]
      split <;> rfl
    · rw [if_neg e, hs, if_neg e]
  · have := h.pos u hu
    unfold join
    split <;> omega
theorem join_rel (o : Nat → Nat) (x y u w : Nat) : join o x y u = join o x y w ↔ o u = o w ∨ ((o u = o x ∨ o u = o y) ∧ (o w = o x ∨ o w = o y)) := by
  unfold join
  split <;> split <;> omega
theorem join_self (o : Nat → Nat) (x : Nat) : join o x x = o := by
  funext u
  unfold join
  split <;> omega
/-- the k-th variable of a clause -/
def vn (C : List Int) (k : Nat) : Nat := (varI (C.getD k 0)).toNat
/-- the labels after the pairs of the first and each before the k-th -/
def oT (o : Nat → Nat) (C : List Int) : Nat → Nat → Nat
  | 0 => o
  | k + 1 => join (oT o C k) (vn C 0) (vn C k)
theorem oT_one (o : Nat → Nat) (C : List Int) : oT o C 1 = o := join_self o _
/-- who is touched by the first k variables -/
def tch (o : Nat → Nat) (C : List Int) : Nat → Nat → Bool
  | 0, _ => false
  | k + 1, u => tch o C k u || decide (o u = o (vn C k))
theorem tch_first (o : Nat → Nat) (C : List Int) : ∀ k u, 1 ≤ k → o u = o (vn C 0) → tch o C k u = true
  | 0, _, h, _ => absurd h (by decide)
  | 1, u, _, e => by simp [tch, e]
  | k + 2, u, _, e => by
    show (tch o C (k + 1) u || _) = true
    rw [tch_first o C (k + 1) u (by omega) e]
    rfl
theorem tch_cong (o : Nat → Nat) (C : List Int) {u w : Nat} (e : o u = o w) : ∀ k, tch o C k u = tch o C k w
  | 0 => rfl
  | k + 1 => by
    show (tch o C k u || _) = (tch o C k w || _)
    rw [tch_cong o C e k, e]
theorem tch_mono (o : Nat → Nat) (C : List Int) {u : Nat} {k : Nat} (h : tch o C k u = true) : tch o C (k + 1) u = true := by
  show (tch o C k u || _) = true
  rw [h]
  rfl
theorem oT_rel (o : Nat → Nat) (C : List Int) (u w : Nat) : ∀ k, oT o C k u = oT o C k w ↔ o u = o w ∨ (tch o C k u = true ∧ tch o C k w = true) := by
  intro k
  induction k generalizing u w with
  | zero => simp [oT, tch]
  | succ k ih =>
    show join (oT o C k) (vn C 0) (vn C k) u = join (oT o C k) (vn C 0) (vn C k) w ↔ _
    rw [join_rel, ih u w, ih u (vn C 0), ih u (vn C k), ih w (vn C 0), ih w (vn C k)]
    have s1 : ∀ z, tch o C (k + 1) z = true ↔ tch o C k z = true ∨ o z = o (vn C k) := fun z => by
      show (tch o C k z || decide (o z = o (vn C k))) = true ↔ _
      rw [Bool.or_eq_true, decide_eq_true_eq]
    rw [s1 u, s1 w]
    rcases Nat.eq_zero_or_pos k with rfl | hk
    · simp [tch]
    · have f := fun z => tch_first o C k z hk
      have f0 := f (vn C 0) rfl
      have fu := f u
      have fw := f w
      constructor
      · rintro ((a | ⟨a, b⟩) | ⟨a, b⟩)
        · exact .inl a
        · exact .inr ⟨.inl a, .inl b⟩
        · refine .inr ⟨?_, ?_⟩
          · rcases a with (a | a) | (a | a)
            · exact .inl (fu a)
            · exact .inl a.1
            · exact .inr a
            · exact .inl a.1
          · rcases b with (b | b) | (b | b)
            · exact .inl (fw b)
            · exact .inl b.1
            · exact .inr b
            · exact .inl b.1
      · rintro (a | ⟨a, b⟩)
        · exact .inl (.inl a)
        · refine .inr ⟨?_, ?_⟩
          · rcases a with a | a
            · exact .inl (.inr ⟨a, f0⟩)
            · exact .inr (.inl a)
          · rcases b with b | b
            · exact .inl (.inr ⟨b, f0⟩)
            · exact .inr (.inl b)
theorem oT_lab {o : Nat → Nat} (h : Lab o) {C : List Int} (hC : ∀ k, k < C.length → 1 ≤ vn C k) : ∀ k, k ≤ C.length → Lab (oT o C k)
  | 0, _ => h
  | k + 1, hk => join_lab (oT_lab h hC k (by omega)) (hC 0 (by omega)) (hC k (by omega))
/-- the labels after i clauses -/
def lab (LL : List (List Int)) : Nat → Nat → Nat
  | 0 => id
  | i + 1 => oT (lab LL i) (LL.getD i []) (LL.getD i []).length
/-- the word of the variables up to n that are so -/
def wd (P : Nat → Bool) : Nat → Nat
  | 0 => 0
  | n + 1 => if P (n + 1) then wd P n ||| 2 ^ (2 * n) else wd P n
theorem wd_bit (P : Nat → Bool) : ∀ n i, (wd P n).testBit i = (decide (i % 2 = 0 ∧ i / 2 < n) && P (i / 2 + 1))
  | 0, i => by simp [wd]
  | n + 1, i => by
    unfold wd
    by_cases e : i = 2 * n
    · subst e
      have d1 : (2 * n) % 2 = 0 := by omega
      have d2 : (2 * n) / 2 = n := by omega
      split
      · rename_i hp
        rw [Nat.testBit_or, Nat.testBit_two_pow_self, d1, d2, hp]
        simp
      · rename_i hp
        rw [wd_bit P n, d1, d2]
        simp at hp
        simp [hp]
    · have e2 : (2 ^ (2 * n)).testBit i = false := by
        rw [Nat.testBit_two_pow]
        exact decide_eq_false (fun q => e q.symm)
      have e3 : decide (i % 2 = 0 ∧ i / 2 < n + 1) = decide (i % 2 = 0 ∧ i / 2 < n) := by
        apply decide_eq_decide.2
        omega
      split
      · rw [Nat.testBit_or, e2, Bool.or_false, wd_bit P n, e3]
      · rw [wd_bit P n, e3]
theorem wd_lt (P : Nat → Bool) {n : Nat} (h : n ≤ 24) : wd P n < 2 ^ 48 := srt.lt48 fun i hi => by
  rw [wd_bit, decide_eq_false (by omega), Bool.false_and]
theorem wd_or (P Q : Nat → Bool) (n : Nat) : wd P n ||| wd Q n = wd (fun u => P u || Q u) n := by
  apply Nat.eq_of_testBit_eq
  intro i
  rw [Nat.testBit_or, wd_bit, wd_bit, wd_bit]
  cases decide (i % 2 = 0 ∧ i / 2 < n) <;> rfl
theorem wd_cong {P Q : Nat → Bool} {n : Nat} (h : ∀ u, 1 ≤ u → u ≤ n → P u = Q u) : wd P n = wd Q n := by
  apply Nat.eq_of_testBit_eq
  intro i
  rw [wd_bit, wd_bit]
  by_cases e : i % 2 = 0 ∧ i / 2 < n
  · rw [h (i / 2 + 1) (by omega) (by omega)]
  · rw [decide_eq_false e]
    rfl
theorem wd_none (n : Nat) : wd (fun _ => false) n = 0 := by
  apply Nat.eq_of_testBit_eq
  intro i
  rw [wd_bit, Bool.and_false, Nat.zero_testBit]
theorem place_v {v : Nat} (h : 1 ≤ v) : placeN (v : Int) = 2 * (v - 1) := by
  unfold placeN lits.placeI
  rw [if_neg (by omega)]
  omega
theorem wd_one {n v : Nat} (h1 : 1 ≤ v) (h2 : v ≤ n) : withN 0 (v : Int) = wd (fun u => decide (u = v)) n := by
  apply Nat.eq_of_testBit_eq
  intro i
  unfold withN
  rw [Nat.testBit_or, Nat.zero_testBit, Bool.false_or, Nat.testBit_two_pow, place_v h1, wd_bit, ← Bool.decide_and]
  apply decide_eq_decide.2
  omega
/-- the class as a list -/
def cl (P : Nat → Bool) : Nat → List Int
  | 0 => []
  | n + 1 => cl P n ++ (if P (n + 1) then [((n + 1 : Nat) : Int)] else [])
theorem cl_len (P : Nat → Bool) : ∀ n, (cl P n).length ≤ n
  | 0 => Nat.le_refl _
  | n + 1 => by
    have := cl_len P n
    unfold cl
    split <;> simp <;> omega
theorem cl_mem (P : Nat → Bool) (y : Int) : ∀ n, y ∈ cl P n ↔ ∃ u, 1 ≤ u ∧ u ≤ n ∧ P u = true ∧ y = (u : Int)
  | 0 => by
    constructor
    · intro h
      cases h
    · rintro ⟨u, h1, h2, _⟩
      omega
  | n + 1 => by
    unfold cl
    rw [List.mem_append, cl_mem P y n]
    constructor
    · rintro (⟨u, h1, h2, h3, h4⟩ | h)
      · exact ⟨u, h1, by omega, h3, h4⟩
      · split at h
        · rename_i hp
          rw [List.mem_singleton] at h
          exact ⟨n + 1, by omega, Nat.le_refl _, hp, h⟩
        · cases h
    · rintro ⟨u, h1, h2, h3, h4⟩
      by_cases e : u = n + 1
      · subst e
        right
        rw [if_pos h3, List.mem_singleton]
        exact h4
      · exact .inl ⟨u, h1, by omega, h3, h4⟩
theorem wd_list (P : Nat → Bool) {n : Nat} (h : n ≤ 24) : srt (wd P n) 48 = cl P n := by
  have e : srt (wd P n) 48 = srt (wd P n) (2 * n) := srt.srt_skip (by omega) fun i h1 h2 => by
    rw [wd_bit, decide_eq_false (by omega), Bool.false_and]
  rw [e]
  have key : ∀ m, m ≤ n → srt (wd P n) (2 * m) = cl P m := by
    intro m
    induction m with
    | zero => intro _; rfl
    | succ m ih =>
      intro hm
      have b1 : (wd P n).testBit (2 * m + 1) = false := by
        rw [wd_bit, decide_eq_false (by omega), Bool.false_and]
      have b0 : (wd P n).testBit (2 * m) = P (m + 1) := by
        rw [wd_bit, decide_eq_true (by omega), Bool.true_and, show 2 * m / 2 = m from by omega]
      rw [show 2 * (m + 1) = 2 * m + 1 + 1 from by omega, srt.srt_no b1]
      unfold cl
      cases hp : P (m + 1)
      · rw [hp] at b0
        rw [srt.srt_no b0, ih (by omega)]
        simp
      · rw [hp] at b0
        rw [srt.srt_yes b0, ih (by omega), srt.litI_even]
        simp
  exact key n (Nat.le_refl _)
theorem wd_first {o : Nat → Nat} (h : Lab o) {n v : Nat} (hn : n ≤ 24) (h1 : 1 ≤ v) (h2 : v ≤ n) : 0 < wd (fun u => decide (o u = o v)) n ∧ fstI (wd (fun u => decide (o u = o v)) n) = (o v : Int) := by
  have ov1 := h.pos v h1
  have ov2 := h.le v
  have b0 : (wd (fun u => decide (o u = o v)) n).testBit (2 * (o v - 1)) = true := by
    rw [wd_bit, decide_eq_true (by omega), Bool.true_and, show 2 * (o v - 1) / 2 + 1 = o v from by omega]
    exact decide_eq_true (h.same v)
  have p0 : 0 < wd (fun u => decide (o u = o v)) n := by
    rcases Nat.eq_zero_or_pos (wd (fun u => decide (o u = o v)) n) with q | q
    · rw [q, Nat.zero_testBit] at b0
      cases b0
    · exact q
  refine ⟨p0, ?_⟩
  obtain ⟨t, m, et, ht, es⟩ := srt.low p0 (wd_lt _ hn)
  have bt : (wd (fun u => decide (o u = o v)) n).testBit t = true := by
    rw [es, srt.low_bit, if_pos (by omega)]
    exact decide_eq_true rfl
  have nb : ∀ i, i < t → (wd (fun u => decide (o u = o v)) n).testBit i = false := fun i hi => by
    rw [es, srt.low_bit, if_pos (by omega)]
    exact decide_eq_false (by omega)
  have hle : t ≤ 2 * (o v - 1) := by
    rcases Nat.lt_or_ge (2 * (o v - 1)) t with q | q
    · rw [nb _ q] at b0
      cases b0
    · exact q
  rw [wd_bit, Bool.and_eq_true, decide_eq_true_eq, decide_eq_true_eq] at bt
  obtain ⟨⟨t1, t2⟩, t3⟩ := bt
  have t4 := h.le (t / 2 + 1)
  have e : t = 2 * (o v - 1) := by omega
  unfold fstI
  rw [← et, e, srt.litI_even]
  omega
/-- the word of a variable's class -/
def wdo (o : Nat → Nat) (n v : Nat) : Nat := wd (fun u => decide (o u = o v)) n
theorem wdo_id {n v : Nat} (h1 : 1 ≤ v) (h2 : v ≤ n) : withN 0 (v : Int) = wdo id n v := wd_one h1 h2
theorem wd_step (o : Nat → Nat) (C : List Int) (n k : Nat) : wd (tch o C k) n ||| wdo o n (vn C k) = wd (tch o C (k + 1)) n := wd_or _ _ _
theorem wdo_next (o : Nat → Nat) (C : List Int) (n v : Nat) : wdo (oT o C C.length) n v = if tch o C C.length v = true then wd (tch o C C.length) n else wdo o n v := by
  split
  · rename_i ht
    refine wd_cong fun u _ _ => ?_
    cases q : tch o C C.length u
    · refine decide_eq_false fun e => ?_
      rcases (oT_rel o C u v _).1 e with a | ⟨a, _⟩
      · rw [tch_cong o C a, ht] at q
        cases q
      · rw [q] at a
        cases a
    · exact decide_eq_true ((oT_rel o C u v _).2 (.inr ⟨q, ht⟩))
  · rename_i ht
    refine wd_cong fun u _ _ => ?_
    apply decide_eq_decide.2
    rw [oT_rel o C u v]
    constructor
    · rintro (a | ⟨_, b⟩)
      · exact a
      · exact absurd b ht
    · exact .inl
/-- what comes out -/
def outs (o : Nat → Nat) (n : Nat) : Nat → List (List Int)
  | 0 => []
  | m + 1 => outs o n m ++ (if o (m + 1) = m + 1 then [cl (fun u => decide (o u = m + 1)) n] else [])
theorem outs_len (o : Nat → Nat) (n : Nat) : ∀ m, (outs o n m).length ≤ m
  | 0 => Nat.le_refl _
  | m + 1 => by
    have := outs_len o n m
    unfold outs
    split <;> simp <;> omega
/-- what Groups answers -/
def grpL (n : Int) (LL : List (List Int)) : List (List Int) := if cnfB n LL then outs (lab LL LL.length) n.toNat n.toNat else []
end Go.Proofs.YtibpnocpafppaaaDoor.fg
