/- Plain mathematics of FnBlocked: a formula that one assignment was blocked of is true at one assignment less, if it was true there. -/
import Derived.Test.YtlpgnaedhijdpaaLq
import Derived.Test.YtlpgnaedhijdpaaBk
import Derived.Test.YtlpgnaedhijdpaaMi
namespace Go.Proofs.Ytlpgnaedhijdpaa.mb
open Go.Proofs.Ytlpgnaedhijdpaa.lits (okB varI okB_iff varI_yes)
open Go.Proofs.Ytlpgnaedhijdpaa.ok (cnfB clB litIn)
open Go.Proofs.Ytlpgnaedhijdpaa.tr (litT clT cnfT bitB assignB)
open Go.Proofs.Ytlpgnaedhijdpaa.as_ (litAt tl)
open Go.Proofs.Ytlpgnaedhijdpaa.sp (negL)
open Go.Proofs.Ytlpgnaedhijdpaa.lq (Bits bits_nil bits_split litT_at litT_neg)
open Go.Proofs.Ytlpgnaedhijdpaa.cnt (C)
open Go.Proofs.Ytlpgnaedhijdpaa.ct (countI countN)
set_option linter.unusedVariables false
theorem C_congr (n : Nat) : ∀ {f g : List Int → Bool}, (∀ l, Bits n l → f l = g l) → C n f = C n g := by
  induction n with
  | zero =>
    intro f g h
    unfold cnt.C
    rw [h [] ⟨rfl, fun x hx => by cases hx⟩]
  | succ n ih =>
    intro f g h
    unfold cnt.C
    rw [ih (f := fun l => f (0 :: l)) (g := fun l => g (0 :: l)) (fun l hl => h _ (lq.bits_cons (.inl rfl) hl)), ih (f := fun l => f (1 :: l)) (g := fun l => g (1 :: l)) (fun l hl => h _ (lq.bits_cons (.inr rfl) hl))]
theorem C_less (n : Nat) : ∀ (f : List Int → Bool) (A : List Int), Bits n A → C n (fun l => f l && !decide (l = A)) + (if f A then 1 else 0) = C n f := by
  induction n with
  | zero =>
    intro f A hA
    rw [bits_nil hA]
    unfold cnt.C
    simp
  | succ n ih =>
    intro f A hA
    obtain ⟨x, r, rfl, hx, hr⟩ := bits_split hA
    unfold cnt.C
    rcases hx with rfl | rfl
    · have e0 : (fun l => f (0 :: l) && !decide ((0 : Int) :: l = 0 :: r)) = fun l => f (0 :: l) && !decide (l = r) := funext fun l => by simp
      have e1 : (fun l => f (1 :: l) && !decide ((1 : Int) :: l = 0 :: r)) = fun l => f (1 :: l) := funext fun l => by simp
      rw [e0, e1]
      have := ih (fun l => f (0 :: l)) r hr
      omega
    · have e0 : (fun l => f (0 :: l) && !decide ((0 : Int) :: l = 1 :: r)) = fun l => f (0 :: l) := funext fun l => by simp
      have e1 : (fun l => f (1 :: l) && !decide ((1 : Int) :: l = 1 :: r)) = fun l => f (1 :: l) && !decide (l = r) := funext fun l => by simp
      rw [e0, e1]
      have := ih (fun l => f (1 :: l)) r hr
      omega
/-- the literals that are true at A are all true at A alone -/
theorem all_true (B : List Int) (hB : B.length ≤ 24) (bB : ∀ x ∈ B, x = 0 ∨ x = 1) (A : List Int) : ∀ k, (∀ x ∈ A, x = 0 ∨ x = 1) → k + A.length = B.length → (tl k A).all (litT B) = decide (B.drop k = A) := by
  induction A with
  | nil =>
    intro k _ h
    rw [show B.drop k = [] from List.drop_eq_nil_of_le (by simp at h; omega)]
    rfl
  | cons y A ih =>
    intro k hA h
    rw [List.length_cons] at h
    have hk : k < B.length := by omega
    have hy := hA y List.mem_cons_self
    have e : B.getD k 0 = B[k] := by simp [hk]
    have hb : B.getD k 0 = 0 ∨ B.getD k 0 = 1 := by rw [e]; exact bB _ (List.getElem_mem hk)
    show (litT B (litAt k y) && (tl (k + 1) A).all (litT B)) = _
    rw [ih (k + 1) (fun x hx => hA x (List.mem_cons_of_mem _ hx)) (by omega), litT_at hk (by omega) hy hb, List.drop_eq_getElem_cons hk, e]
    rw [Bool.eq_iff_iff, Bool.and_eq_true, decide_eq_true_iff, decide_eq_true_iff, decide_eq_true_iff, List.cons.injEq]
/-- the clause that blocks A is false at A alone -/
theorem block_T {m : Nat} {A B : List Int} (hm : m ≤ 24) (hA : Bits m A) (hB : Bits m B) : clT B (negL (tl 0 A)) = !decide (B = A) := by
  have h := all_true B (by rw [hB.1]; exact hm) hB.2 A 0 hA.2 (by rw [hA.1, hB.1]; omega)
  rw [List.drop_zero] at h
  have ho := bk.tl_ok A 0 (by rw [hA.1]; omega)
  rw [← h]
  unfold tr.clT sp.negL
  generalize tl 0 A = L at *
  clear h
  induction L with
  | nil => rfl
  | cons x L ih =>
    rw [List.map_cons, List.any_cons, List.all_cons, litT_neg (ho x List.mem_cons_self), ih (fun y hy => ho y (List.mem_cons_of_mem _ hy))]
    cases litT B x <;> cases L.all (litT B) <;> rfl
theorem bits_of {n : Int} {LL : List (List Int)} {A : List Int} (h : assignB n LL A = true) : cnfB n LL = true ∧ (A.length : Int) = n ∧ Bits A.length A := by
  unfold tr.assignB at h
  rw [Bool.and_eq_true, Bool.and_eq_true, decide_eq_true_iff, List.all_eq_true] at h
  refine ⟨h.1.1, h.1.2, rfl, fun x hx => ?_⟩
  have := h.2 x hx
  unfold tr.bitB at this
  rw [decide_eq_true_iff] at this
  omega
theorem tl_in (A : List Int) : ∀ k, k + A.length ≤ 24 → ∀ x ∈ tl k A, okB x = true ∧ varI x ≤ ((k + A.length : Nat) : Int) := by
  induction A with
  | nil => intro k _ x hx; cases hx
  | cons y A ih =>
    intro k hk x hx
    rw [List.length_cons] at hk
    rcases List.mem_cons.1 hx with rfl | hx
    · have ho : okB (litAt k y) = true := by
        rw [okB_iff]
        unfold as_.litAt
        split <;> omega
      refine ⟨ho, ?_⟩
      rw [varI_yes (okB_iff.1 ho), List.length_cons]
      unfold as_.litAt
      split <;> split <;> omega
    · have := ih (k + 1) (by omega) x hx
      rw [List.length_cons]
      exact ⟨this.1, by omega⟩
theorem block_ok {m : Nat} {A : List Int} (hm : m ≤ 24) (hA : A.length = m) : clB (m : Int) (negL (tl 0 A)) = true := by
  unfold ok.clB
  rw [Bool.and_eq_true, decide_eq_true_iff, bk.negL_len, as_.tl_len, List.all_eq_true]
  refine ⟨fun y hy => ?_, by omega⟩
  unfold sp.negL at hy
  obtain ⟨x, hx, rfl⟩ := List.mem_map.1 hy
  obtain ⟨h1, h2⟩ := tl_in A 0 (by omega) x hx
  obtain ⟨b0, b1, b2⟩ := okB_iff.1 h1
  have ho : okB (-x) = true := okB_iff.2 ⟨by omega, by omega, by omega⟩
  unfold ok.litIn
  rw [ho, Bool.true_and, decide_eq_true_iff, varI_yes (okB_iff.1 ho)]
  rw [varI_yes (okB_iff.1 h1)] at h2
  split at h2 <;> split <;> omega
/-- what FnBlocked asks -/
theorem blocked {n : Int} {LL : List (List Int)} {A : List Int} (hn : n ≤ 14) (h : bk.blkB n LL A = true) :
    countI n (bk.blkR n LL A) = countI n LL - (if tr.trueB n LL A then 1 else 0) ∧ tr.trueB n (bk.blkR n LL A) A = false ∧ (bk.blkR n LL A).length = LL.length + 1 ∧ bk.blkN n LL A = n ∧ css.tot (bk.blkR n LL A) ≤ 1048576 := by
  have hb := h
  unfold bk.blkB at hb
  rw [Bool.and_eq_true, decide_eq_true_iff] at hb
  obtain ⟨hc, hl, hA⟩ := bits_of hb.1
  obtain ⟨eN, eR⟩ := bk.blk_yes h
  have hp := mi.cnfB_parts hc
  obtain ⟨m, rfl⟩ := Int.eq_ofNat_of_zero_le hp.1.1
  have hlm : A.length = m := by omega
  rw [hlm] at hA
  have hbk := block_ok (m := m) (by omega) hlm
  have hg : cnfB (m : Int) (LL ++ [negL (tl 0 A)]) = true := mi.cnfB_app hc (by simp [hbk]) (by simp; omega)
  have et : tr.trueB (m : Int) LL A = cnfT A LL := by
    unfold tr.trueB
    rw [hb.1]
    rfl
  refine ⟨?_, ?_, ?_, eN, Nat.le_trans (bk.blk_tot h) (by decide)⟩
  · rw [eR, mi.count_eq (by omega) hg, mi.count_eq (by omega) hc, cnt.cnt_asg m (fun l => cnfT l (LL ++ [negL (tl 0 A)])), cnt.cnt_asg m (fun l => cnfT l LL), et]
    rw [C_congr m (g := fun l => cnfT l LL && !decide (l = A)) (fun l hl' => by rw [mi.cnfT_app, mi.one_T, block_T (by omega) hA hl'])]
    have := C_less m (fun l => cnfT l LL) A hA
    split
    · rename_i hT
      rw [if_pos hT] at this
      omega
    · rename_i hT
      rw [if_neg hT] at this
      omega
  · have e : cnfT A (bk.blkR (m : Int) LL A) = false := by
      rw [eR, mi.cnfT_app, mi.one_T, block_T (by omega) hA hA, decide_eq_true rfl]
      simp
    unfold tr.trueB
    rw [e, Bool.and_false]
  · rw [eR]
    simp
end Go.Proofs.Ytlpgnaedhijdpaa.mb
