/- Plain mathematics: what the program's sets ask is what the formula and the wanted literals ask; the least answer from a path on. -/
import Derived.Test.YtlpgnaedhijdpaaDoorKm
namespace Go.Proofs.YtlpgnaedhijdpaaDoor.km
open Go.Proofs.YtlpgnaedhijdpaaDoor.lits (okB varI okB_iff varI_yes)
open Go.Proofs.YtlpgnaedhijdpaaDoor.bset (placeN setOf setOf_has setOf_bit placeN_inj)
open Go.Proofs.YtlpgnaedhijdpaaDoor.cls (hasB)
open Go.Proofs.YtlpgnaedhijdpaaDoor.ok (cnfB clB litIn)
open Go.Proofs.YtlpgnaedhijdpaaDoor.tr (litT clT cnfT)
open Go.Proofs.YtlpgnaedhijdpaaDoor.as_ (litAt)
open Go.Proofs.YtlpgnaedhijdpaaDoor.srt (swp swp_swp)
open Go.Proofs.YtlpgnaedhijdpaaDoor.lq (Bits bits_app bits_cons lst lst_none lst_some lst_congr holds litT_at litIn_parts)
set_option linter.unusedVariables false
theorem place_at {j : Nat} (h : j < 24) {x : Int} (hx : x = 0 ∨ x = 1) : placeN (litAt j x) = plc j x := by
  unfold bset.placeN lits.placeI plc as_.litAt
  rcases hx with rfl | rfl
  · simp
    rw [if_pos (by omega)]
    omega
  · simp
    rw [if_neg (by omega)]
    omega
/-- a literal of the first n variables: whose it is, and which -/
theorem lit_form {n : Nat} {x : Int} (h : litIn (n : Int) x = true) : ∃ (j : Nat) (y : Int), j < n ∧ (y = 0 ∨ y = 1) ∧ litAt j y = x := by
  obtain ⟨ok, hv⟩ := litIn_parts h
  obtain ⟨b0, b1, b2⟩ := okB_iff.1 ok
  rw [varI_yes (okB_iff.1 ok)] at hv
  by_cases hneg : x < 0
  · rw [if_pos hneg] at hv
    refine ⟨(-x - 1).toNat, 0, by omega, .inl rfl, ?_⟩
    unfold as_.litAt
    rw [if_neg (by decide)]
    omega
  · rw [if_neg hneg] at hv
    refine ⟨(x - 1).toNat, 1, by omega, .inr rfl, ?_⟩
    unfold as_.litAt
    rw [if_pos rfl]
    omega
theorem wd_lit {n : Nat} {A : List Int} (hA : Bits n A) (h24 : n ≤ 24) {x : Int} (hx : litIn (n : Int) x = true) : wdB A (placeN x) = litT A x := by
  obtain ⟨j, y, hj, hy, rfl⟩ := lit_form hx
  have hjl : j < A.length := by rw [hA.1]; exact hj
  have hb : A.getD j 0 = 0 ∨ A.getD j 0 = 1 := by
    rw [show A.getD j 0 = A[j] by simp [hjl]]
    exact hA.2 _ (List.getElem_mem hjl)
  rw [place_at (by omega) hy, litT_at hjl (by omega) hy hb]
  unfold wdB
  rw [plc_div, decide_eq_true hjl, Bool.true_and, Bool.eq_iff_iff, decide_eq_true_iff, decide_eq_true_iff]
  unfold plc
  rcases hb with z | z <;> rcases hy with rfl | rfl <;> rw [z] <;> simp
theorem place_div {n : Nat} (h24 : n ≤ 24) {x : Int} (hx : litIn (n : Int) x = true) : placeN x / 2 < n := by
  obtain ⟨j, y, hj, hy, rfl⟩ := lit_form hx
  rw [place_at (by omega) hy, plc_div]
  exact hj
/-- a set's bits are its literals' places -/
theorem set_lit {L : List Int} {b : Nat} (h : (setOf L).testBit b = true) : ∃ x ∈ L, okB x = true ∧ placeN x = b := by
  rw [setOf_bit, List.any_eq_true] at h
  obtain ⟨x, hx, h2⟩ := h
  rw [Bool.and_eq_true, decide_eq_true_iff] at h2
  exact ⟨x, hx, h2.1, h2.2⟩
theorem lit_set {L : List Int} {x : Int} (hx : x ∈ L) (ho : okB x = true) : (setOf L).testBit (placeN x) = true := by
  rw [setOf_has L x ho]
  exact decide_eq_true hx
/-- the sets ask what the formula asks -/
theorem sat_iff {n : Nat} {LL : List (List Int)} {a A : List Int} (hA : Bits n A) (h24 : n ≤ 24) (hc : ∀ c ∈ LL, ∀ x ∈ c, litIn (n : Int) x = true) (ha : ∀ x ∈ a, litIn (n : Int) x = true) : holds LL a A = true ↔ Sat (LL.map setOf) (setOf a) A := by
  unfold lq.holds Sat
  rw [Bool.and_eq_true]
  constructor
  · rintro ⟨h1, h2⟩
    unfold tr.cnfT at h1
    rw [List.all_eq_true] at h1 h2
    refine ⟨fun S hS => ?_, fun b hb => ?_⟩
    · obtain ⟨L, hL, rfl⟩ := List.mem_map.1 hS
      have := h1 L hL
      unfold tr.clT at this
      obtain ⟨x, hx, ht⟩ := List.any_eq_true.1 this
      have hin := hc L hL x hx
      exact ⟨placeN x, lit_set hx (litIn_parts hin).1, by rw [wd_lit hA h24 hin]; exact ht⟩
    · obtain ⟨x, hx, ho, rfl⟩ := set_lit hb
      rw [wd_lit hA h24 (ha x hx)]
      exact h2 x hx
  · rintro ⟨h1, h2⟩
    unfold tr.cnfT
    rw [List.all_eq_true, List.all_eq_true]
    refine ⟨fun L hL => ?_, fun x hx => ?_⟩
    · obtain ⟨b, hb, hw⟩ := h1 _ (List.mem_map_of_mem hL)
      obtain ⟨x, hx, ho, rfl⟩ := set_lit hb
      unfold tr.clT
      rw [wd_lit hA h24 (hc L hL x hx)] at hw
      exact List.any_eq_true.2 ⟨x, hx, hw⟩
    · rw [← wd_lit hA h24 (ha x hx)]
      exact h2 _ (lit_set hx (litIn_parts (ha x hx)).1)
/-- what is left to find behind a path -/
def left_ (n : Nat) (LL : List (List Int)) (a pre : List Int) : Option (List Int) := lst (n - pre.length) (fun l => holds LL a (pre ++ l))
theorem left_conf {n : Nat} {LL : List (List Int)} {a pre : List Int} {c : Nat} (h24 : n ≤ 24) (hl : pre.length ≤ n) (hb : ∀ x ∈ pre, x = 0 ∨ x = 1) (hc : ∀ c ∈ LL, ∀ x ∈ c, litIn (n : Int) x = true) (ha : ∀ x ∈ a, litIn (n : Int) x = true) (h : Conf n (LL.map setOf) (setOf a) c pre) : left_ n LL a pre = none := by
  unfold left_
  rw [lst_none]
  intro l hl'
  have hB : Bits n (pre ++ l) := by
    have := bits_app (m := pre.length) (k := n - pre.length) ⟨rfl, hb⟩ hl'
    rw [show pre.length + (n - pre.length) = n by omega] at this
    exact this
  cases q : holds LL a (pre ++ l) with
  | false => rfl
  | true => exact absurd ((sat_iff hB h24 hc ha).1 q) (conf_none h hB)
theorem left_step {n : Nat} {LL : List (List Int)} {a pre : List Int} (hl : pre.length < n) : left_ n LL a pre = match left_ n LL a (pre ++ [0]) with
    | some l => some (0 :: l)
    | none => (left_ n LL a (pre ++ [1])).map (1 :: ·) := by
  unfold left_
  obtain ⟨m, hm⟩ : ∃ m, n - pre.length = m + 1 := ⟨n - pre.length - 1, by omega⟩
  have e : ∀ x, (fun l => holds LL a (pre ++ [x] ++ l)) = fun l => holds LL a (pre ++ x :: l) := fun x => funext fun l => by rw [List.append_assoc]; rfl
  rw [hm, List.length_append, List.length_append, List.length_singleton, List.length_singleton, show n - (pre.length + 1) = m by omega, e 0, e 1]
  rfl
theorem left_end {n : Nat} {LL : List (List Int)} {a pre : List Int} (hl : pre.length = n) (h : holds LL a pre = true) : left_ n LL a pre = some [] := by
  unfold left_
  rw [hl, Nat.sub_self]
  unfold lst
  show (if holds LL a (pre ++ []) = true then _ else _) = _
  rw [List.append_nil, if_pos h]
/-- a value that is not wanted gives no answer -/
theorem left_skip {n : Nat} {LL : List (List Int)} {a pre : List Int} {x : Int} (h24 : n ≤ 24) (hl : pre.length < n) (hb : ∀ x ∈ pre, x = 0 ∨ x = 1) (hx : x = 0 ∨ x = 1) (hc : ∀ c ∈ LL, ∀ x ∈ c, litIn (n : Int) x = true) (ha : ∀ x ∈ a, litIn (n : Int) x = true) (hw : (setOf a).testBit (swp (plc pre.length x)) = true) : left_ n LL a (pre ++ [x]) = none := by
  unfold left_
  rw [lst_none]
  intro l hl'
  rw [List.length_append, List.length_singleton] at hl'
  have hB : Bits n (pre ++ [x] ++ l) := by
    have := bits_app (m := pre.length + 1) (k := n - (pre.length + 1)) (a := pre ++ [x]) ⟨by simp, fun y hy => by
      rcases List.mem_append.1 hy with hy | hy
      · exact hb y hy
      · rw [List.mem_singleton] at hy; rw [hy]; exact hx⟩ hl'
    rw [show pre.length + 1 + (n - (pre.length + 1)) = n by omega] at this
    exact this
  cases q : holds LL a (pre ++ [x] ++ l) with
  | false => rfl
  | true =>
    exfalso
    have h1 := ((sat_iff hB h24 hc ha).1 q).2 _ hw
    have h2 : wdB (pre ++ [x] ++ l) (plc pre.length x) = true := by
      rw [List.append_assoc]
      exact wd_last pre x l
    rw [wd_one hB.2 h2] at h1
    cases h1
end Go.Proofs.YtlpgnaedhijdpaaDoor.km
