/- Plain mathematics of the machine's whole search: it ends within as many steps as its tree has places, with the least answer or none. -/
import Derived.Test.YtlpgnaedhijdpaaDoorQo
import Derived.Test.YtlpgnaedhijdpaaDoorLq
namespace Go.Proofs.YtlpgnaedhijdpaaDoor.qm
open Go.Proofs.YtlpgnaedhijdpaaDoor.as_ (litAt tl tl_snoc tl_len)
open Go.Proofs.YtlpgnaedhijdpaaDoor.cls (hasB)
open Go.Proofs.YtlpgnaedhijdpaaDoor.ok (cnfB litIn)
open Go.Proofs.YtlpgnaedhijdpaaDoor.l4 (openB emptyB)
open Go.Proofs.YtlpgnaedhijdpaaDoor.lits (okB okB_iff)
open Go.Proofs.YtlpgnaedhijdpaaDoor.lq (Ahead rest rest_none rest_end rest_branch litIn_parts)
set_option linter.unusedVariables false
/-- how many places of the tree lie ahead of a path, d variables being left -/
def po : Nat → List Int → Nat
  | _, [] => 0
  | d, x :: l => (if x = 1 then 2 ^ d else 1) + po (d - 1) l
theorem po_app (B : List Int) : ∀ (d : Nat) (C : List Int), po d (B ++ C) = po d B + po (d - B.length) C := by
  induction B with
  | nil => intro d C; simp [po]
  | cons x B ih =>
    intro d C
    rw [List.cons_append, po, po, ih, List.length_cons, show d - 1 - B.length = d - (B.length + 1) by omega]
    omega
theorem po_le (A : List Int) : ∀ d, A.length ≤ d → po d A + 2 ≤ 2 ^ (d + 1) := by
  induction A with
  | nil => intro d _; rw [po]; have := Nat.two_pow_pos d; rw [Nat.pow_succ]; omega
  | cons x A ih =>
    intro d h
    rw [List.length_cons] at h
    obtain ⟨e, rfl⟩ : ∃ e, d = e + 1 := ⟨d - 1, by omega⟩
    have := ih e (by omega)
    rw [po, show e + 1 - 1 = e by omega]
    have h1 : (if x = 1 then 2 ^ (e + 1) else 1) ≤ 2 ^ (e + 1) := by
      split
      · exact Nat.le_refl _
      · exact Nat.two_pow_pos _
    rw [Nat.pow_succ 2 (e + 1)]
    omega
/-- the values ahead of the ones at the end: the last of them is nought -/
theorem cut_form (A : List Int) (hA : ∀ x ∈ A, x = 0 ∨ x = 1) : ∀ m, m ≤ A.length → cutN A m ≠ 0 → A.getD (cutN A m - 1) 0 = 0 := by
  intro m
  induction m with
  | zero => intro _ h; exact absurd rfl h
  | succ m ih =>
    intro hm h
    unfold cutN at h ⊢
    split
    · rename_i q
      rw [if_pos q] at h
      exact ih (by omega) h
    · rename_i q
      show A.getD (m + 1 - 1) 0 = 0
      rw [show m + 1 - 1 = m by omega]
      rcases hA _ (getD_mem (A := A) (i := m) (by omega)) with z | z
      · exact z
      · exact absurd z q
theorem po_back {n : Nat} {A : List Int} (hl : A.length ≤ n) (hA : ∀ x ∈ A, x = 0 ∨ x = 1) (hc : cutN A A.length ≠ 0) : po n A + 1 ≤ po n (back A) := by
  have hle := cut_le A A.length
  have h0 := cut_form A hA A.length (Nat.le_refl _) hc
  unfold back
  generalize hm : cutN A A.length - 1 = m at *
  have hml : m < A.length := by omega
  have e : A = A.take m ++ 0 :: A.drop (m + 1) := by
    have h1 := (List.take_append_drop m A).symm
    rw [List.drop_eq_getElem_cons hml, show A[m] = 0 by rw [← h0]; simp [hml]] at h1
    exact h1
  have hlt : (A.take m).length = m := by rw [List.length_take]; omega
  have h2 := po_le (A.drop (m + 1)) (n - m - 1) (by rw [List.length_drop]; omega)
  rw [show n - m - 1 + 1 = n - m by omega] at h2
  have e1 : po n A = po n (A.take m) + (1 + po (n - m - 1) (A.drop (m + 1))) := by
    conv => lhs; rw [e]
    rw [po_app, hlt, po, if_neg (by decide)]
  rw [e1, po_app, hlt, po, if_pos rfl, po]
  omega
/-- how far a machine is: while it runs, as many steps as it has made lie behind it in the tree -/
structure Far (n : Nat) (m : MS) (j : Nat) : Prop where
  ok : OkM n m
  run : m.st = 0 → m.k = (j : Int) ∧ j ≤ po n m.A
  fin : m.st ≠ 0 → m.k + 1 ≤ (2 ^ (n + 1) : Nat)
theorem Far.start (n : Nat) : Far n ⟨[], 0, 0⟩ 0 := ⟨⟨Nat.zero_le _, (fun x hx => by cases hx), Int.le_refl _, by show (0 : Int) ≤ 1000000000; decide, .inl rfl⟩, fun _ => ⟨rfl, Nat.zero_le _⟩, fun h => absurd rfl h⟩
theorem pow_bd {n : Nat} (h : n ≤ 24) : (2 ^ (n + 1) : Nat) ≤ 33554432 := by
  have := Nat.pow_le_pow_right (n := 2) (by decide) (show n + 1 ≤ 25 by omega)
  exact this
theorem Far.step {n : Nat} {LL : List (List Int)} {m : MS} {j : Nat} (h24 : n ≤ 24) (h : Far n m j) : Far n (stepM n LL m) (j + 1) := by
  have hb := pow_bd h24
  refine ⟨h.ok.step, ?_, ?_⟩
  · unfold stepM
    split
    · rename_i q
      obtain ⟨h1, h2⟩ := h.run q.1
      split
      · split
        · intro z; cases z
        · intro _
          refine ⟨by show m.k + 1 = _; omega, ?_⟩
          show j + 1 ≤ po n (m.A ++ [0])
          rw [po_app, po, po, if_neg (by decide)]
          omega
      · split
        · intro z; cases z
        · rename_i hc
          intro _
          refine ⟨by show m.k + 1 = _; omega, ?_⟩
          have := po_back h.ok.len h.ok.bit hc
          show j + 1 ≤ po n (back m.A)
          omega
    · rename_i q
      intro z
      obtain ⟨h1, h2⟩ := h.run z
      have h3 := po_le m.A n h.ok.len
      exact absurd ⟨z, by omega⟩ q
  · unfold stepM
    split
    · rename_i q
      obtain ⟨h1, h2⟩ := h.run q.1
      have h3 := po_le m.A n h.ok.len
      split
      · split
        · intro _; show m.k + 1 + 1 ≤ _; omega
        · intro z; exact absurd rfl z
      · split
        · intro _; show m.k + 1 + 1 ≤ _; omega
        · intro z; exact absurd rfl z
    · exact h.fin
theorem Far.runs {n : Nat} {LL : List (List Int)} (h24 : n ≤ 24) (i : Nat) : ∀ {m : MS} {j : Nat}, Far n m j → Far n (runM n LL i m) (j + i) := by
  induction i with
  | zero => intro m j h; exact h
  | succ i ih =>
    intro m j h
    have := ih (h.step (LL := LL) h24)
    rw [show j + 1 + i = j + (i + 1) by omega] at this
    exact this
/-- within as many steps as the tree has places the machine has come to its end -/
theorem Far.ends {n : Nat} {m : MS} {j : Nat} (h : Far n m j) (hj : 2 ^ (n + 1) ≤ j + 1) : m.st ≠ 0 := by
  intro z
  have h2 := (h.run z).2
  have h3 := po_le m.A n h.ok.len
  omega
/-- behind its end a machine does nothing more -/
theorem runs_more {n : Nat} {LL : List (List Int)} {m : MS} {i j : Nat} (h : (runM n LL i m).st ≠ 0) (hij : i ≤ j) : runM n LL j m = runM n LL i m := by
  obtain ⟨d, rfl⟩ : ∃ d, j = i + d := ⟨j - i, by omega⟩
  rw [run_add, run_stop (fun q => h q.1)]
theorem ahead {n : Nat} {A : List Int} (h24 : n ≤ 24) (hl : A.length ≤ n) (hA : ∀ x ∈ A, x = 0 ∨ x = 1) : Ahead n (tl 0 A) A := by
  have hin : ∀ x ∈ tl 0 A, litIn (n : Int) x = true := by
    intro x hx
    obtain ⟨i, hi, e⟩ := List.getElem_of_mem hx
    rw [tl_len] at hi
    have e1 := tl_getD A 0 i hi
    rw [show (tl 0 A).getD i 0 = (tl 0 A)[i] by simp [tl_len, hi], e, Nat.zero_add] at e1
    rw [e1]
    have hok : okB (litAt i (A.getD i 0)) = true := by
      rw [okB_iff]
      unfold as_.litAt
      split <;> omega
    unfold ok.litIn
    rw [hok, Bool.true_and, decide_eq_true_iff, lits.varI_yes (okB_iff.1 hok)]
    unfold as_.litAt
    split <;> split <;> omega
  refine ⟨h24, hl, hA, fun j hj => ?_, hin, fun x hx => ?_⟩
  · have e1 := tl_getD A 0 j hj
    rw [Nat.zero_add] at e1
    rw [← e1]
    exact decide_eq_true (getD_mem (by rw [tl_len]; exact hj))
  · cases z : hasB (tl 0 A) (-x) with
    | false => rfl
    | true =>
      have := ((wd_opp (by omega) hA h24 (hin x hx)).1 z).2
      rw [show hasB (tl 0 A) x = true from decide_eq_true hx] at this
      cases this
/-- the least answer from a path on -/
def R (n : Nat) (LL : List (List Int)) (A : List Int) : Option (List Int) := rest n LL (tl 0 A) A
/-- the least answer behind a path, of its first m values -/
def C (n : Nat) (LL : List (List Int)) (A : List Int) : Nat → Option (List Int)
  | 0 => none
  | m + 1 => if A.getD m 0 = 1 then C n LL A m else (R n LL (A.take m ++ [1])).or (C n LL A m)
theorem C_cut {n : Nat} {LL : List (List Int)} {A : List Int} : ∀ m, C n LL A (cutN A m) = C n LL A m := by
  intro m
  induction m with
  | zero => rfl
  | succ m ih =>
    unfold cutN
    by_cases q : A.getD m 0 = 1
    · rw [if_pos q, ih]
      conv => rhs; unfold C
      rw [if_pos q]
    · rw [if_neg q]
theorem C_pre {n : Nat} {LL : List (List Int)} {A B : List Int} : ∀ m, (∀ i, i < m → A.getD i 0 = B.getD i 0) → (∀ i, i ≤ m → A.take i = B.take i) → C n LL A m = C n LL B m := by
  intro m
  induction m with
  | zero => intros; rfl
  | succ m ih =>
    intro h1 h2
    unfold C
    rw [h1 m (Nat.lt_succ_self _), h2 m (Nat.le_succ _), ih (fun i hi => h1 i (by omega)) (fun i hi => h2 i (by omega))]
/-- what the machine will find -/
def found (n : Nat) (LL : List (List Int)) (m : MS) : Option (List Int) :=
  if m.st = 0 then (R n LL m.A).or (C n LL m.A m.A.length) else if m.st = 1 then some m.A else none
theorem found_step {n : Nat} {LL : List (List Int)} {m : MS} (h24 : n ≤ 24) (hc : ∀ c ∈ LL, ∀ x ∈ c, litIn (n : Int) x = true) (h : OkM n m) : found n LL (stepM n LL m) = found n LL m := by
  have hok : ∀ c ∈ LL, ∀ x ∈ c, okB x = true := fun c hc' x hx => (litIn_parts (hc c hc' x hx)).1
  have hA := ahead h24 h.len h.bit
  unfold stepM
  split
  · rename_i q
    cases ho : openB LL (tl 0 m.A)
    · rw [if_neg (by decide)]
      have hR : R n LL m.A = none := rest_none hA hok ho
      have hF : found n LL m = C n LL m.A m.A.length := by
        unfold found
        rw [if_pos q.1, hR]
        rfl
      rw [hF]
      by_cases hz : cutN m.A m.A.length = 0
      · rw [if_pos hz, ← C_cut m.A.length, hz]
        rfl
      · rw [if_neg hz]
        have hle := cut_le m.A m.A.length
        have h0 := cut_form m.A h.bit m.A.length (Nat.le_refl _) hz
        rw [← C_cut m.A.length]
        have hbl := back_len hz
        obtain ⟨t, ht⟩ : ∃ t, cutN m.A m.A.length = t + 1 := ⟨cutN m.A m.A.length - 1, by omega⟩
        unfold found
        rw [if_pos rfl]
        show (R n LL (back m.A)).or (C n LL (back m.A) (back m.A).length) = _
        rw [hbl, ht]
        have hb : back m.A = m.A.take t ++ [1] := by unfold back; rw [ht]; rfl
        have hlt : (m.A.take t).length = t := by rw [List.length_take]; omega
        have e1 : (back m.A).getD t 0 = 1 := by
          rw [hb]
          have := lq.getD_app (pre := m.A.take t) (l := [1])
          rw [hlt] at this
          exact this
        have e2 : C n LL (back m.A) (t + 1) = C n LL (back m.A) t := by
          conv => lhs; unfold C
          rw [if_pos e1]
        have e3 : C n LL m.A (t + 1) = (R n LL (m.A.take t ++ [1])).or (C n LL m.A t) := by
          conv => lhs; unfold C
          rw [ht, show t + 1 - 1 = t by omega] at h0
          rw [if_neg (by rw [h0]; decide)]
        rw [e2, e3, hb]
        congr 1
        refine C_pre t (fun i hi => ?_) (fun i hi => ?_)
        · rw [lq.getD_pre (by omega)]
          simp [List.getD, hi]
        · rw [List.take_append_of_le_length (by omega), List.take_take, Nat.min_eq_left hi]
    · rw [if_pos rfl]
      by_cases hl : m.A.length = n
      · rw [if_pos hl]
        unfold found
        rw [if_pos q.1]
        have hR : R n LL m.A = some m.A := rest_end hA hl hc ho
        rw [hR]
        rfl
      · rw [if_neg hl]
        have hlt : m.A.length < n := by have := h.len; omega
        have hb := rest_branch (LL := LL) hA hlt
        have e0 : R n LL (m.A ++ [0]) = rest n LL (tl 0 m.A ++ [litAt m.A.length 0]) (m.A ++ [0]) := by
          unfold R
          rw [tl_snoc, Nat.zero_add]
        have e1 : R n LL (m.A ++ [1]) = rest n LL (tl 0 m.A ++ [litAt m.A.length 1]) (m.A ++ [1]) := by
          unfold R
          rw [tl_snoc, Nat.zero_add]
        rw [← e0, ← e1] at hb
        have hR : R n LL m.A = (R n LL (m.A ++ [0])).or (R n LL (m.A ++ [1])) := by
          have : R n LL m.A = _ := hb
          rw [this]
          cases R n LL (m.A ++ [0]) <;> rfl
        unfold found
        rw [if_pos rfl, if_pos q.1, hR]
        show (R n LL (m.A ++ [0])).or (C n LL (m.A ++ [0]) (m.A ++ [0]).length) = _
        rw [List.length_append, List.length_singleton]
        have e2 : (m.A ++ [0]).getD m.A.length 0 = 0 := lq.getD_app (pre := m.A) (l := [0])
        have e3 : C n LL (m.A ++ [0]) (m.A.length + 1) = (R n LL (m.A ++ [1])).or (C n LL m.A m.A.length) := by
          conv => lhs; unfold C
          rw [if_neg (by rw [e2]; decide), List.take_left']
          · congr 1
            refine C_pre _ (fun i hi => lq.getD_pre hi) (fun i hi => ?_)
            rw [List.take_append_of_le_length hi]
          · rfl
        rw [e3, Option.or_assoc]
  · rfl
theorem found_run {n : Nat} {LL : List (List Int)} (h24 : n ≤ 24) (hc : ∀ c ∈ LL, ∀ x ∈ c, litIn (n : Int) x = true) (j : Nat) : ∀ {m : MS}, OkM n m → found n LL (runM n LL j m) = found n LL m := by
  induction j with
  | zero => intro m _; rfl
  | succ j ih =>
    intro m h
    show found n LL (runM n LL j (stepM n LL m)) = _
    rw [ih h.step, found_step h24 hc h]
/-- no clause is empty ahead of the last literal of a path -/
def Clear (LL : List (List Int)) (A : List Int) : Prop := ∀ i, i < A.length → openB LL (tl 0 (A.take i)) = true
theorem open_take {LL : List (List Int)} {A : List Int} {i : Nat} {n : Nat} (h24 : n ≤ 24) (hl : A.length ≤ n) (hA : ∀ x ∈ A, x = 0 ∨ x = 1) (hc : ∀ c ∈ LL, ∀ x ∈ c, litIn (n : Int) x = true) (h : openB LL (tl 0 A) = true) : openB LL (tl 0 (A.take i)) = true := by
  unfold l4.openB at *
  rw [List.all_eq_true] at *
  intro c hcL
  cases z : emptyB (tl 0 (A.take i)) c with
  | false => rfl
  | true =>
    have hno := h c hcL
    have : emptyB (tl 0 A) c = true := by
      unfold l4.emptyB at z
      rw [Bool.and_eq_true, List.all_eq_true] at z
      have hall : ∀ x ∈ c, hasB (tl 0 A) (-x) = true := fun x hx => by
        have := of_decide_eq_true (z.1 x hx)
        rw [← tl_take] at this
        exact decide_eq_true (List.mem_of_mem_take this)
      refine l4.em_none (List.any_eq_false.2 fun x hx => ?_) hall
      rw [((wd_opp (by omega) hA h24 (hc c hcL x hx)).1 (hall x hx)).2]
      decide
    rw [this] at hno
    cases hno
theorem Clear.step {n : Nat} {LL : List (List Int)} {m : MS} (h24 : n ≤ 24) (hc : ∀ c ∈ LL, ∀ x ∈ c, litIn (n : Int) x = true) (h : OkM n m) (k : Clear LL m.A) : Clear LL (stepM n LL m).A := by
  unfold stepM
  split
  · split
    · rename_i ho
      split
      · exact k
      · intro i hi
        show openB LL (tl 0 ((m.A ++ [0]).take i)) = true
        have hi' : i < (m.A ++ [0]).length := hi
        rw [List.length_append, List.length_singleton] at hi'
        rw [List.take_append_of_le_length (by omega)]
        exact open_take h24 h.len h.bit hc ho
    · split
      · intro i hi
        exact absurd hi (Nat.not_lt_zero _)
      · rename_i hz
        intro i hi
        have hi' : i < (back m.A).length := hi
        have hle := cut_le m.A m.A.length
        rw [back_len hz] at hi'
        show openB LL (tl 0 ((back m.A).take i)) = true
        unfold back
        rw [List.take_append_of_le_length (by rw [List.length_take]; omega), List.take_take, Nat.min_eq_left (by omega)]
        exact k i (by omega)
  · exact k
theorem Clear.run {n : Nat} {LL : List (List Int)} (h24 : n ≤ 24) (hc : ∀ c ∈ LL, ∀ x ∈ c, litIn (n : Int) x = true) (j : Nat) : ∀ {m : MS}, OkM n m → Clear LL m.A → Clear LL (runM n LL j m).A := by
  induction j with
  | zero => intro m _ k; exact k
  | succ j ih => intro m h k; exact ih h.step (k.step h24 hc h)
end Go.Proofs.YtlpgnaedhijdpaaDoor.qm
