/- Plain mathematics of Backbone: the literals that are true at every answer. -/
import Derived.Test.YtapkckfgbimmcaaDoorBw
namespace Go.Proofs.YtapkckfgbimmcaaDoor.ks
open Go.Proofs.YtapkckfgbimmcaaDoor.lq (Bits holds solveL lst_none lst_some)
open Go.Proofs.YtapkckfgbimmcaaDoor.km (plc wdB left_)
open Go.Proofs.YtapkckfgbimmcaaDoor.srt (srt litI swp swp_swp)
open Go.Proofs.YtapkckfgbimmcaaDoor.bset (setOf placeN)
open Go.Proofs.YtapkckfgbimmcaaDoor.lits (okB)
open Go.Proofs.YtapkckfgbimmcaaDoor.ok (cnfB litIn)
set_option linter.unusedVariables false
/-- whether there is an answer with one literal -/
def can1 (n : Int) (LL : List (List Int)) (x : Int) : Bool := (solveL n LL [x]).isSome
def bbs (n : Int) (LL : List (List Int)) : Nat → List Int
  | 0 => []
  | k + 1 => (bbs n LL k ++ if can1 n LL (-((k : Int) + 1)) then [] else [(k : Int) + 1]) ++ if can1 n LL ((k : Int) + 1) then [] else [-((k : Int) + 1)]
/-- what Backbone answers -/
def backL (n : Int) (LL : List (List Int)) : List Int := if (solveL n LL []).isSome then bbs n LL n.toNat else []
theorem bbs_len (n : Int) (LL : List (List Int)) (k : Nat) : (bbs n LL k).length ≤ 2 * k := by
  induction k with
  | zero => exact Nat.zero_le _
  | succ k ih =>
    show ((bbs n LL k ++ if can1 n LL (-((k : Int) + 1)) then [] else [(k : Int) + 1]) ++ if can1 n LL ((k : Int) + 1) then [] else [-((k : Int) + 1)]).length ≤ _
    rw [List.length_append, List.length_append]
    have h1 : (if can1 n LL (-((k : Int) + 1)) then ([] : List Int) else [(k : Int) + 1]).length ≤ 1 := by split <;> simp
    have h2 : (if can1 n LL ((k : Int) + 1) then ([] : List Int) else [-((k : Int) + 1)]).length ≤ 1 := by split <;> simp
    omega
theorem back_len (n : Int) (LL : List (List Int)) : (backL n LL).length ≤ 48 := by
  unfold backL
  split
  · rename_i h
    unfold lq.solveL at h
    split at h
    · rename_i h2
      rw [Bool.and_eq_true] at h2
      obtain ⟨m, rfl, h24, _⟩ := cnf_parts h2.1
      have := bbs_len (m : Int) LL ((m : Int)).toNat
      omega
    · cases h
  · exact Nat.zero_le _
/-- the literal at place b is true at every answer -/
def Fo (n : Nat) (LL : List (List Int)) (b : Nat) : Prop := ∀ l, Bits n l → holds LL [] l = true → wdB l b = true
theorem lit_in {n b : Nat} (h24 : n ≤ 24) (h : b / 2 < n) : litIn (n : Int) (litI b) = true ∧ litIn (n : Int) (-(litI b)) = true ∧ placeN (-(litI b)) = swp b ∧ okB (-(litI b)) = true := by
  have key : ∀ x : Int, (x = ((b / 2 : Nat) : Int) + 1 ∨ x = -(((b / 2 : Nat) : Int) + 1)) → litIn (n : Int) x = true := by
    intro x hx
    have ho : okB x = true := by rw [lits.okB_iff]; omega
    unfold ok.litIn
    rw [ho, Bool.true_and, decide_eq_true_iff]
    unfold lits.varI
    rcases hx with h | h <;> (first | (split <;> omega) | omega)
  rcases Nat.mod_two_eq_zero_or_one b with e | e
  · have eb : b = 2 * (b / 2) := by omega
    have el : litI b = ((b / 2 : Nat) : Int) + 1 := by rw [eb, srt.litI_even]; congr 2; omega
    have hp := srt.place_neg (b / 2) (by omega)
    rw [el]
    refine ⟨key _ (.inl rfl), key _ (.inr rfl), ?_, hp.1⟩
    rw [hp.2]
    unfold srt.swp
    split <;> omega
  · have eb : b = 2 * (b / 2) + 1 := by omega
    have el : litI b = -(((b / 2 : Nat) : Int) + 1) := by rw [eb, srt.litI_odd]; congr 3; omega
    have hp := srt.place_pos (b / 2) (by omega)
    rw [el, Int.neg_neg]
    refine ⟨key _ (.inr rfl), key _ (.inl rfl), ?_, hp.1⟩
    rw [hp.2]
    unfold srt.swp
    split <;> omega
theorem holds_one {LL : List (List Int)} {x : Int} {l : List Int} : holds LL [x] l = (holds LL [] l && tr.litT l x) := by
  unfold lq.holds
  simp
theorem can_iff {n : Nat} {LL : List (List Int)} {b : Nat} (h24 : n ≤ 24) (hc : cnfB (n : Int) LL = true) (hb : b / 2 < n) : can1 (n : Int) LL (-(litI b)) = false ↔ Fo n LL b := by
  obtain ⟨i1, i2, i3, i4⟩ := lit_in h24 hb
  unfold can1
  rw [solve_yes hc (by simp [i2]), Option.isSome_eq_false_iff, Option.isNone_iff_eq_none]
  show lq.lst n _ = none ↔ _
  rw [lst_none]
  constructor
  · intro h l hl hh
    have h1 := h l hl
    rw [show ([] : List Int) ++ l = l from rfl, holds_one, hh, Bool.true_and, ← km.wd_lit hl h24 i2, i3] at h1
    rcases km.wd_some hl.2 (b := b) (by rw [hl.1]; exact hb) with z | z
    · exact z
    · rw [h1] at z; cases z
  · intro h l hl
    rw [show ([] : List Int) ++ l = l from rfl, holds_one]
    cases hh : holds LL [] l with
    | false => rfl
    | true =>
      rw [Bool.true_and, ← km.wd_lit hl h24 i2, i3]
      exact km.wd_one hl.2 (h l hl hh)
theorem srt_back {n : Nat} {LL : List (List Int)} {C : Nat} (h24 : n ≤ 24) (hc : cnfB (n : Int) LL = true) (hC : ∀ b, C.testBit b = true ↔ b / 2 < n ∧ Fo n LL b) : srt C 48 = bbs (n : Int) LL n := by
  have e : ∀ k, k ≤ n → srt C (2 * k) = bbs (n : Int) LL k := by
    intro k
    induction k with
    | zero => intro _; rfl
    | succ k ih =>
      intro hk
      show srt C (2 * k + 1 + 1) = (bbs (n : Int) LL k ++ if can1 (n : Int) LL (-((k : Int) + 1)) then [] else [(k : Int) + 1]) ++ if can1 (n : Int) LL ((k : Int) + 1) then [] else [-((k : Int) + 1)]
      rw [← ih (by omega)]
      have c0 := can_iff (LL := LL) (b := 2 * k) h24 hc (by omega)
      have c1 := can_iff (LL := LL) (b := 2 * k + 1) h24 hc (by omega)
      rw [srt.litI_even] at c0
      rw [srt.litI_odd, Int.neg_neg] at c1
      have s0 : srt C (2 * k + 1) = srt C (2 * k) ++ if can1 (n : Int) LL (-((k : Int) + 1)) then [] else [(k : Int) + 1] := by
        cases z : can1 (n : Int) LL (-((k : Int) + 1)) with
        | false => rw [srt.srt_yes ((hC _).2 ⟨by omega, c0.1 z⟩), srt.litI_even]; rfl
        | true =>
          rw [srt.srt_no (by
            cases q : C.testBit (2 * k) with
            | false => rfl
            | true => have := c0.2 ((hC _).1 q).2; rw [z] at this; cases this)]
          simp
      have s1 : srt C (2 * k + 1 + 1) = srt C (2 * k + 1) ++ if can1 (n : Int) LL ((k : Int) + 1) then [] else [-((k : Int) + 1)] := by
        cases z : can1 (n : Int) LL ((k : Int) + 1) with
        | false => rw [srt.srt_yes ((hC _).2 ⟨by omega, c1.1 z⟩), srt.litI_odd]; rfl
        | true =>
          rw [srt.srt_no (by
            cases q : C.testBit (2 * k + 1) with
            | false => rfl
            | true => have := c1.2 ((hC _).1 q).2; rw [z] at this; cases this)]
          simp
      rw [s1, s0]
  rw [← e n (Nat.le_refl _)]
  exact srt.srt_skip (by omega) (fun i h1 h2 => by
    cases q : C.testBit i with
    | false => rfl
    | true => have := ((hC _).1 q).1; omega)
/-- what the program has in common of its answers behind k literals -/
structure Com (n : Nat) (LL : List (List Int)) (P k C : Nat) : Prop where
  lt : C < 2 ^ 48
  sub : ∀ b, C.testBit b = true → P.testBit b = true
  fo : ∀ b, P.testBit b = true → Fo n LL b → C.testBit b = true
  did : ∀ j, j < k → ∀ b, (srt P 48)[j]? = some (litI b) → b < 48 → C.testBit b = true → Fo n LL b
theorem Com.start {n : Nat} {LL : List (List Int)} {P : Nat} (h : P < 2 ^ 48) : Com n LL P 0 P := ⟨h, fun _ h => h, fun _ h _ => h, fun j hj => by omega⟩
theorem litI_inj {a b : Nat} (ha : a < 48) (hb : b < 48) (h : litI a = litI b) : a = b := by
  have h1 := (lit_place ha).2.1
  have h2 := (lit_place hb).2.1
  rw [h] at h1
  exact h1.symm.trans h2
theorem Com.skip {n : Nat} {LL : List (List Int)} {P k C b : Nat} (h : Com n LL P k C) (hb : b < 48) (hx : (srt P 48)[k]? = some (litI b)) (hf : C.testBit b = true → Fo n LL b) : Com n LL P (k + 1) C := by
  refine ⟨h.lt, h.sub, h.fo, fun j hj b' h1 h2 h3 => ?_⟩
  by_cases e : j < k
  · exact h.did j e b' h1 h2 h3
  · obtain rfl : j = k := by omega
    rw [hx] at h1
    have := litI_inj hb h2 (Option.some.inj h1)
    subst this
    exact hf h3
theorem Com.meet {n : Nat} {LL : List (List Int)} {P k C b Q : Nat} {l : List Int} (h : Com n LL P k C) (hb : b < 48) (hx : (srt P 48)[k]? = some (litI b)) (hl : Bits n l) (hh : holds LL [] l = true) (hQ : Word l Q) (hq : Q.testBit b = false) : Com n LL P (k + 1) (C &&& Q) := by
  have w1 : ∀ b, Fo n LL b → Q.testBit b = true := fun b hf => by rw [hQ.2]; exact hf l hl hh
  refine ⟨Nat.lt_of_le_of_lt Nat.and_le_left h.lt, fun b' h1 => ?_, fun b' h1 h2 => ?_, fun j hj b' h1 h2 h3 => ?_⟩
  · rw [Nat.testBit_and, Bool.and_eq_true] at h1
    exact h.sub b' h1.1
  · rw [Nat.testBit_and, h.fo b' h1 h2, w1 b' h2]
    rfl
  · rw [Nat.testBit_and, Bool.and_eq_true] at h3
    by_cases e : j < k
    · exact h.did j e b' h1 h2 h3.1
    · obtain rfl : j = k := by omega
      rw [hx] at h1
      have := litI_inj hb h2 (Option.some.inj h1)
      subst this
      rw [hq] at h3
      cases h3.2
theorem srt_form {S j : Nat} : ∀ x ∈ srt S j, ∃ b, b < j ∧ S.testBit b = true ∧ x = litI b := by
  induction j with
  | zero => intro x hx; cases hx
  | succ j ih =>
    intro x hx
    cases q : S.testBit j with
    | true =>
      rw [srt.srt_yes q, List.mem_append] at hx
      rcases hx with hx | hx
      · obtain ⟨b, h1, h2, h3⟩ := ih x hx
        exact ⟨b, by omega, h2, h3⟩
      · simp at hx
        exact ⟨j, by omega, q, hx⟩
    | false =>
      rw [srt.srt_no q] at hx
      obtain ⟨b, h1, h2, h3⟩ := ih x hx
      exact ⟨b, by omega, h2, h3⟩
theorem srt_has {S j b : Nat} (hb : b < j) (h : S.testBit b = true) : litI b ∈ srt S j := by
  induction j with
  | zero => omega
  | succ j ih =>
    by_cases e : b = j
    · subst e
      rw [srt.srt_yes h]
      simp
    · cases q : S.testBit j with
      | true => rw [srt.srt_yes q]; exact List.mem_append_left _ (ih (by omega))
      | false => rw [srt.srt_no q]; exact ih (by omega)
theorem Com.fin {n : Nat} {LL : List (List Int)} {P k C : Nat} {l : List Int} (h24 : n ≤ 24) (hc : cnfB (n : Int) LL = true) (h : Com n LL P k C) (hk : (srt P 48).length ≤ k) (hl : Bits n l) (hh : holds LL [] l = true) (hP : Word l P) : srt C 48 = bbs (n : Int) LL n := by
  refine srt_back h24 hc fun b => ⟨fun hb => ?_, fun ⟨h1, h2⟩ => ?_⟩
  · have p := h.sub b hb
    have b48 : b < 48 := by
      rcases Nat.lt_or_ge b 48 with q | q
      · exact q
      · rw [srt.hi_bit h.lt q] at hb; cases hb
    have hm := srt_has b48 p
    obtain ⟨j, hj⟩ := List.mem_iff_getElem?.1 hm
    have hjl := (List.getElem?_eq_some_iff.1 hj).1
    refine ⟨?_, h.did j (by omega) b hj b48 hb⟩
    rw [hP.2, wdB, Bool.and_eq_true, decide_eq_true_iff] at p
    rw [← hl.1]
    exact p.1
  · exact h.fo b (by rw [hP.2]; exact h2 l hl hh) h2
end Go.Proofs.YtapkckfgbimmcaaDoor.ks
