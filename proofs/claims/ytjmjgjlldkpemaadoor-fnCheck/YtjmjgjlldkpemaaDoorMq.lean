/- Plain mathematics of FnForce: what is forced is true wherever the formula and what was taken are; where that comes to an empty clause they are nowhere; behind it nothing more is forced; no condition. -/
import Derived.Test.YtjmjgjlldkpemaaDoorMl
import Derived.Test.YtjmjgjlldkpemaaDoorNi
namespace Go.Proofs.YtjmjgjlldkpemaaDoor.mq
open Go.RowKit
open Go.Proofs.YtjmjgjlldkpemaaDoor.lits (okB okB_iff varI)
open Go.Proofs.YtjmjgjlldkpemaaDoor.bset (placeN placeN_le placeN_inj setOf setOf_lt setOf_bit withN withN_bit setOf_snoc)
open Go.Proofs.YtjmjgjlldkpemaaDoor.srt (woN fstI swp andN_lt)
open Go.Proofs.YtjmjgjlldkpemaaDoor.ok (cnfB litIn clB)
open Go.Proofs.YtjmjgjlldkpemaaDoor.tr (litT clT cnfT)
open Go.Proofs.YtjmjgjlldkpemaaDoor.cnt (le cntR asg)
open Go.Proofs.YtjmjgjlldkpemaaDoor.at_ (at_)
open Go.Proofs.YtjmjgjlldkpemaaDoor.wm
open Go.Proofs.YtjmjgjlldkpemaaDoor.ml (fair_at unit_true force_true lit_place)
set_option linter.unusedVariables false

theorem getD_mem {P : List Int} {k : Nat} (h : k < P.length) : P.getD k 0 ∈ P := by
  have : P.getD k 0 = P[k] := by simp [h]
  rw [this]
  exact List.getElem_mem h
theorem frc_pre (Ss : List Nat) (n T : Nat) (p : List Int) : ∃ X, (frc Ss n T p).1 = p ++ X := by
  induction n generalizing T p with
  | zero => exact ⟨[], (List.append_nil p).symm⟩
  | succ n ih =>
    cases hok : (unitN Ss T).2
    · rw [frc_stop hok]
      exact ⟨[], (List.append_nil p).symm⟩
    · by_cases h0 : (unitN Ss T).1 = 0
      · rw [frc_end hok h0]
        exact ⟨[], (List.append_nil p).symm⟩
      · rw [frc_more hok h0]
        obtain ⟨X, e⟩ := ih (withN T (unitN Ss T).1) (p ++ [(unitN Ss T).1])
        exact ⟨[(unitN Ss T).1] ++ X, by rw [e, List.append_assoc]⟩
theorem frc_true {m W : Nat} {Ss : List Nat} (hS : ∀ S ∈ Ss, S < 2 ^ 48) (hb : ∀ S ∈ Ss, ∀ b, S.testBit b = true → b < 2 * m) (hf : ml.Fair m W) (hm : ∀ S ∈ Ss, S &&& W ≠ 0) (n T : Nat) (p : List Int) (hT : ∀ b, T.testBit b = true → W.testBit b = true) (hp : ∀ x ∈ p, W.testBit (placeN x) = true) :
    ∀ x ∈ (frc Ss n T p).1, W.testBit (placeN x) = true := by
  induction n generalizing T p with
  | zero => exact hp
  | succ n ih =>
    have u := unit_true hS hb hf hT hm
    by_cases h0 : (unitN Ss T).1 = 0
    · rw [frc_end u.1 h0]
      exact hp
    · rw [frc_more u.1 h0]
      refine ih _ _ (fun b hb' => ?_) (fun x hx => ?_)
      · rw [withN_bit, Bool.or_eq_true, decide_eq_true_iff] at hb'
        rcases hb' with q | q
        · exact hT b q
        · rw [← q]
          exact u.2 h0
      · rw [List.mem_append, List.mem_singleton] at hx
        rcases hx with hx | rfl
        · exact hp x hx
        · exact u.2 h0
/-- what a single clause forces is one of its literals -/
theorem unit_in {Ss : List Nat} {T : Nat} (hS : ∀ S ∈ Ss, S < 2 ^ 48) (h1 : (unitN Ss T).2 = true) (h0 : (unitN Ss T).1 ≠ 0) : ∃ S ∈ Ss, S.testBit (placeN (unitN Ss T).1) = true := by
  unfold wm.unitN at h1 h0 ⊢
  split at h1
  · cases h1
  · rename_i hn
    rw [if_neg hn] at h0 ⊢
    unfold wm.firstN at h0 ⊢
    cases hf : (Ss.map (clauseN · T)).find? (fun x => x != 0) with
    | none =>
      rw [hf] at h0
      exact absurd rfl h0
    | some y =>
      have hm := List.mem_of_find?_eq_some hf
      have hy : y ≠ 0 := by simpa using List.find?_some hf
      have hnone : y ≠ -100 := by
        intro e
        apply hn
        rw [List.any_eq_true]
        exact ⟨y, hm, by rw [e]; rfl⟩
      rw [List.mem_map] at hm
      obtain ⟨S, hSm, rfl⟩ := hm
      refine ⟨S, hSm, ?_⟩
      show S.testBit (placeN (clauseN S T)) = true
      cases hc : clsd S T
      · by_cases ho : opn S T = 0
        · exact absurd (clauseN_empty hc ho) hnone
        · by_cases hr : woN (opn S T) (fstI (opn S T)) = 0
          · rw [clauseN_one hc ho hr]
            have fs := (fst_spec (Nat.pos_of_ne_zero ho) (andN_lt _ _ (hS S hSm))).2
            rw [opn_bit _ _ _ (hS S hSm), Bool.and_eq_true] at fs
            exact fs.1
          · exact absurd (clauseN_two hc ho hr) hy
      · exact absurd (clauseN_closed hc) hy
theorem place_lit {m : Nat} {x : Int} (h : okB x = true) (k : placeN x < 2 * m) : litIn (m : Int) x = true := by
  unfold ok.litIn
  rw [Bool.and_eq_true, decide_eq_true_iff]
  refine ⟨h, ?_⟩
  have a := okB_iff.1 h
  rw [lits.varI_yes a]
  unfold bset.placeN lits.placeI at k
  split at k <;> split <;> omega
theorem frc_lit {m : Nat} {Ss : List Nat} (hS : ∀ S ∈ Ss, S < 2 ^ 48) (hb : ∀ S ∈ Ss, ∀ b, S.testBit b = true → b < 2 * m) (n T : Nat) (p : List Int) (hp : ∀ x ∈ p, litIn (m : Int) x = true) : ∀ x ∈ (frc Ss n T p).1, litIn (m : Int) x = true := by
  induction n generalizing T p with
  | zero => exact hp
  | succ n ih =>
    cases hok : (unitN Ss T).2
    · rw [frc_stop hok]
      exact hp
    · by_cases h0 : (unitN Ss T).1 = 0
      · rw [frc_end hok h0]
        exact hp
      · rw [frc_more hok h0]
        refine ih _ _ (fun x hx => ?_)
        rw [List.mem_append, List.mem_singleton] at hx
        rcases hx with hx | rfl
        · exact hp x hx
        · obtain ⟨S, hSm, hbit⟩ := unit_in hS hok h0
          exact place_lit (unit_new hS hok h0).1 (hb S hSm _ hbit)
/-- behind it nothing more is forced -/
theorem frc_unit {Ss : List Nat} (hS : ∀ S ∈ Ss, S < 2 ^ 48) (n : Nat) (p : List Int) (h : 49 ≤ n + pc (setOf p)) : unitN Ss (setOf (frc Ss n (setOf p) p).1) = (0, (frc Ss n (setOf p) p).2) := by
  induction n generalizing p with
  | zero =>
    have := pc_le (setOf p)
    omega
  | succ n ih =>
    cases hok : (unitN Ss (setOf p)).2
    · rw [frc_stop hok]
      show unitN Ss (setOf p) = (0, false)
      unfold wm.unitN at hok ⊢
      split
      · rfl
      · rename_i hn
        rw [if_neg hn] at hok
        cases hok
    · by_cases h0 : (unitN Ss (setOf p)).1 = 0
      · rw [frc_end hok h0]
        show unitN Ss (setOf p) = (0, true)
        rw [← h0, ← hok]
      · have un := unit_new hS hok h0
        have hset : setOf (p ++ [(unitN Ss (setOf p)).1]) = withN (setOf p) (unitN Ss (setOf p)).1 := by rw [setOf_snoc, un.1]; rfl
        have hpc := pc_with un.1 un.2.1
        rw [frc_more hok h0, ← hset]
        refine ih _ ?_
        rw [hset]
        omega

/-- each literal of a list, a clause each -/
def sing (L : List Int) : List (List Int) := L.map fun x => [x]
theorem sing_len (L : List Int) : (sing L).length = L.length := List.length_map ..
theorem sing_tot (L : List Int) : css.tot (sing L) = 2 * L.length := by
  unfold css.tot
  rw [sing_len]
  have : ((sing L).map List.length).sum = L.length := by
    induction L with
    | nil => rfl
    | cons x l ih =>
      show 1 + ((sing l).map List.length).sum = l.length + 1
      rw [ih]
      omega
  omega
theorem sing_step (L : List Int) (k : Nat) (h : k < L.length) : sing (L.take (k + 1)) = sing (L.take k) ++ [[L.getD k 0]] := by
  rw [List.take_succ_eq_append_getElem h]
  unfold sing
  rw [List.map_append, show L.getD k 0 = L[k] by simp [h]]
  rfl
theorem sing_cnf {m : Nat} {LL : List (List Int)} {L : List Int} (hc : cnfB (m : Int) LL = true) (hL : ∀ x ∈ L, litIn (m : Int) x = true) (hl : LL.length + L.length ≤ 120) : cnfB (m : Int) (LL ++ sing L) = true := by
  unfold ok.cnfB at hc ⊢
  simp only [Bool.and_eq_true, decide_eq_true_iff] at hc ⊢
  refine ⟨⟨hc.1.1, by rw [List.length_append, sing_len]; exact hl⟩, ?_⟩
  rw [List.all_append, hc.2, Bool.true_and, List.all_eq_true]
  intro K hK
  obtain ⟨x, hx, rfl⟩ := List.mem_map.1 hK
  unfold ok.clB
  rw [List.all_cons, hL x hx]
  rfl
/-- all that the law asks where the formula and what was taken are good -/
structure Laws (m : Nat) (LL : List (List Int)) (L : List Int) (F : List Int × Bool) : Prop where
  pre : ∃ X, F.1 = L ++ X
  imp : LL.length + L.length ≤ 120 → ∀ x ∈ F.1, ct.impB (m : Int) (LL ++ sing L) [x] = true
  unit : unitB (m : Int) LL F.1 = (0, F.2)
  none_ : LL.length + L.length ≤ 120 → F.2 = false → ct.countI (m : Int) (LL ++ sing L) = 0
theorem laws {m : Nat} {LL : List (List Int)} {L : List Int} (hm : m ≤ 14) (hu : okU (m : Int) LL L = true) : Laws m LL L (forceB (m : Int) LL L) := by
  have hF : forceB (m : Int) LL L = frc (LL.map setOf) 49 (setOf L) L := by
    unfold wm.forceB
    rw [if_pos hu]
  have hu' := hu
  unfold wm.okU at hu'
  rw [Bool.and_eq_true, List.all_eq_true] at hu'
  obtain ⟨hc, hLin⟩ := hu'
  have cf := fm.cnf_facts hc
  have hin : ∀ c ∈ LL, ∀ x ∈ c, litIn (m : Int) x = true := fun c hc' => (cf.2.2.2 c hc').2
  have hbits : ∀ S ∈ LL.map setOf, ∀ b, S.testBit b = true → b < 2 * m := fun S hS b hb => by
    rw [List.mem_map] at hS
    obtain ⟨c, hc', rfl⟩ := hS
    rw [setOf_bit, List.any_eq_true] at hb
    obtain ⟨x, hx, e⟩ := hb
    rw [Bool.and_eq_true, decide_eq_true_iff] at e
    rw [← e.2]
    exact lit_place (hin c hc' x hx)
  have fl := frc_lit (m := m) (set_bd LL) hbits 49 (setOf L) L hLin
  -- at an assignment where the formula and what was taken are true
  have at1 : ∀ j, cnfT (le m j) (LL ++ sing L) = true → (∀ S ∈ LL.map setOf, S &&& at_ m j ≠ 0) ∧ (∀ x ∈ L, (at_ m j).testBit (placeN x) = true) ∧ ∀ b, (setOf L).testBit b = true → (at_ m j).testBit b = true := by
    intro j h1
    have hall : ∀ c ∈ LL ++ sing L, clT (le m j) c = true := by
      unfold tr.cnfT at h1
      rw [List.all_eq_true] at h1
      exact h1
    have hx1 : ∀ x ∈ L, (at_ m j).testBit (placeN x) = true := fun x hx => by
      have := hall [x] (List.mem_append.2 (.inr (List.mem_map.2 ⟨x, hx, rfl⟩)))
      unfold tr.clT at this
      rw [List.any_cons, List.any_nil, Bool.or_false, at_.lit_at (hLin x hx)] at this
      exact this
    refine ⟨fun S hS => ?_, hx1, fun b hb => ?_⟩
    · rw [List.mem_map] at hS
      obtain ⟨c, hc', rfl⟩ := hS
      have := at_.clause_at (n := m) (j := j) (L := c) (by rw [List.all_eq_true]; exact hin c hc')
      rw [hall c (List.mem_append.2 (.inl hc'))] at this
      intro e
      rw [e] at this
      cases this
    · rw [setOf_bit, List.any_eq_true] at hb
      obtain ⟨x, hx, e⟩ := hb
      rw [Bool.and_eq_true, decide_eq_true_iff] at e
      rw [← e.2]
      exact hx1 x hx
  refine ⟨?_, ?_, ?_, ?_⟩
  · rw [hF]
    exact frc_pre _ _ _ _
  · intro hl x hx
    rw [hF] at hx
    have key : ct.impN m (LL ++ sing L) [x] = true := by
      rw [cw.impN_le, List.all_eq_true]
      intro j hj
      show (!(cnfT (le m j) (LL ++ sing L)) || clT (le m j) [x]) = true
      cases h1 : cnfT (le m j) (LL ++ sing L)
      · rfl
      · obtain ⟨a1, a2, a3⟩ := at1 j h1
        have := frc_true (m := m) (W := at_ m j) (set_bd LL) hbits (fair_at m j) a1 49 (setOf L) L a3 a2 x hx
        unfold tr.clT
        rw [List.any_cons, at_.lit_at (fl x hx), this]
        rfl
    unfold ct.impB
    rw [sing_cnf hc hLin hl, decide_eq_true (show (m : Int) ≤ 14 by omega), Int.toNat_natCast, key]
    unfold ok.clB
    rw [List.all_cons, fl x hx]
    rfl
  · have hk : okU (m : Int) LL (forceB (m : Int) LL L).1 = true := by
      unfold wm.okU
      rw [hc, hF, Bool.true_and, List.all_eq_true]
      exact fl
    unfold wm.unitB
    rw [if_pos hk, hF]
    exact frc_unit (set_bd LL) 49 L (by omega)
  · intro hl hb
    rw [hF] at hb
    have key : (List.range (2 ^ m)).all (fun k => !cnfT (asg m k []) (LL ++ sing L)) = true := by
      rw [cw.all_both m (fun l => !cnfT l (LL ++ sing L)), List.all_eq_true]
      intro j hj
      cases h1 : cnfT (le m j) (LL ++ sing L)
      · rfl
      · obtain ⟨a1, a2, a3⟩ := at1 j h1
        have := force_true (m := m) (W := at_ m j) (set_bd LL) hbits (fair_at m j) a1 49 (setOf L) L a3
        rw [hb] at this
        cases this
    rw [cw.all_cnt, decide_eq_true_iff] at key
    simp only [Bool.not_not] at key
    unfold ct.countI ct.countN
    rw [sing_cnf hc hLin hl, decide_eq_true (show (m : Int) ≤ 14 by omega), Int.toNat_natCast, key]
    rfl
/-- how long the answer is -/
theorem len_or (n : Int) (LL : List (List Int)) (L : List Int) : L.length ≤ (forceB n LL L).1.length ∨ (forceB n LL L).1.length = 0 := by
  unfold wm.forceB
  split
  · obtain ⟨X, e⟩ := frc_pre (LL.map setOf) 49 (setOf L) L
    rw [e, List.length_append]
    omega
  · exact .inr rfl
theorem ok_of {n : Int} {LL : List (List Int)} {L : List Int} (hc : cnfB n LL = true) (h : L.length ≤ (forceB n LL L).1.length) : okU n LL L = true := by
  cases hu : okU n LL L
  · unfold wm.forceB at h
    rw [hu] at h
    have : L = [] := List.eq_nil_of_length_eq_zero (by simpa using h)
    subst this
    unfold wm.okU at hu
    rw [hc] at hu
    cases hu
  · rfl
/-- the beginning of a slice -/
theorem sl_pre {w : World} {a : Option Addr} {c : Nat} {L X R : List Int} (h : sl.Sl w (.slice a R.length c) R) (e : R = L ++ X) : sl.Sl w (.slice a L.length c) L := by
  obtain ⟨a', c', e', h⟩ := h
  have e1 : a = a' := by injection e'
  subst e1
  refine ⟨a, c, rfl, ?_⟩
  rcases h with h | ⟨b, off, ea, hb, hcb⟩
  · rw [h] at e
    exact .inl (List.append_eq_nil_iff.1 e.symm).1
  · refine .inr ⟨b, off, ea, hb, fun i hi => ?_⟩
    rw [hcb i (by rw [e, List.length_append]; omega), e]
    simp [List.getElem?_append_left hi, hi]
end Go.Proofs.YtjmjgjlldkpemaaDoor.mq
