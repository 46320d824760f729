/- Plain mathematics of FnLeaves: what is forced is true wherever the formula and what was taken are, so a clause that follows at once is implied; no condition. -/
import Derived.Test.YtjmjgjlldkpemaaDoorLv
import Derived.Test.YtjmjgjlldkpemaaDoorCw
namespace Go.Proofs.YtjmjgjlldkpemaaDoor.ml
open Go.RowKit
open Go.Proofs.YtjmjgjlldkpemaaDoor.lits (okB okB_iff varI)
open Go.Proofs.YtjmjgjlldkpemaaDoor.bset (placeN placeN_le placeN_inj setOf setOf_lt setOf_bit withN withN_bit)
open Go.Proofs.YtjmjgjlldkpemaaDoor.srt (woN fstI swp andN_lt)
open Go.Proofs.YtjmjgjlldkpemaaDoor.ok (cnfB litIn clB)
open Go.Proofs.YtjmjgjlldkpemaaDoor.tr (litT clT cnfT)
open Go.Proofs.YtjmjgjlldkpemaaDoor.cnt (le)
open Go.Proofs.YtjmjgjlldkpemaaDoor.at_ (at_)
open Go.Proofs.YtjmjgjlldkpemaaDoor.wm
open Go.Proofs.YtjmjgjlldkpemaaDoor.sp (negL leavesB)
set_option linter.unusedVariables false

/-- a word of the literals that are true somewhere -/
def Fair (m W : Nat) : Prop := ∀ b, b < 2 * m → W.testBit (swp b) = !W.testBit b
theorem fair_at (m j : Nat) : Fair m (at_ m j) := by
  intro b hb
  unfold srt.swp
  obtain ⟨i, hi | hi⟩ : ∃ i, b = 2 * i ∨ b = 2 * i + 1 := ⟨b / 2, by omega⟩
  · subst hi
    rw [if_pos (by omega), (at_.at_bits m j i (by omega)).1, (at_.at_bits m j i (by omega)).2]
  · subst hi
    rw [if_neg (by omega), show 2 * i + 1 - 1 = 2 * i by omega, (at_.at_bits m j i (by omega)).1, (at_.at_bits m j i (by omega)).2, Bool.not_not]
/-- a clause that is true where all that is taken is has an open literal that is true there -/
theorem open_true {m S T W : Nat} (hS : S < 2 ^ 48) (hb : ∀ b, S.testBit b = true → b < 2 * m) (hf : Fair m W) (hT : ∀ b, T.testBit b = true → W.testBit b = true) (hm : S &&& W ≠ 0) : ∃ b, (opn S T).testBit b = true ∧ W.testBit b = true := by
  obtain ⟨b, h⟩ := Nat.exists_testBit_of_ne_zero hm
  rw [Nat.testBit_and, Bool.and_eq_true] at h
  refine ⟨b, ?_, h.2⟩
  rw [opn_bit _ _ _ hS, h.1]
  cases hq : T.testBit (swp b)
  · rfl
  · have := hT _ hq
    rw [hf b (hb b h.1), h.2] at this
    cases this
theorem unit_true {m T W : Nat} {Ss : List Nat} (hS : ∀ S ∈ Ss, S < 2 ^ 48) (hb : ∀ S ∈ Ss, ∀ b, S.testBit b = true → b < 2 * m) (hf : Fair m W) (hT : ∀ b, T.testBit b = true → W.testBit b = true) (hm : ∀ S ∈ Ss, S &&& W ≠ 0) :
    (unitN Ss T).2 = true ∧ ((unitN Ss T).1 ≠ 0 → W.testBit (placeN (unitN Ss T).1) = true) := by
  have no : (Ss.map (clauseN · T)).any (· == -100) = false := by
    rw [List.any_eq_false]
    intro x hx e
    rw [List.mem_map] at hx
    obtain ⟨S, hSm, rfl⟩ := hx
    obtain ⟨b, ho, _⟩ := open_true (hS S hSm) (hb S hSm) hf hT (hm S hSm)
    have ho0 : opn S T ≠ 0 := fun e => by rw [e, Nat.zero_testBit] at ho; cases ho
    have e' : clauseN S T = -100 := by simpa using e
    cases hc : clsd S T
    · by_cases hr : woN (opn S T) (fstI (opn S T)) = 0
      · rw [clauseN_one hc ho0 hr] at e'
        exact (ok_ne (fst_spec (Nat.pos_of_ne_zero ho0) (andN_lt _ _ (hS S hSm))).1).2 e'
      · rw [clauseN_two hc ho0 hr] at e'
        omega
    · rw [clauseN_closed hc] at e'
      omega
  unfold wm.unitN
  rw [if_neg (by rw [no]; simp)]
  refine ⟨rfl, fun h0 => ?_⟩
  unfold wm.firstN at h0 ⊢
  cases hf' : (Ss.map (clauseN · T)).find? (fun x => x != 0) with
  | none =>
    rw [hf'] at h0
    exact absurd rfl h0
  | some y =>
    have hmem := List.mem_of_find?_eq_some hf'
    have hy : y ≠ 0 := by simpa using List.find?_some hf'
    rw [List.mem_map] at hmem
    obtain ⟨S, hSm, rfl⟩ := hmem
    obtain ⟨b, ho, hw⟩ := open_true (hS S hSm) (hb S hSm) hf hT (hm S hSm)
    have ho0 : opn S T ≠ 0 := fun e => by rw [e, Nat.zero_testBit] at ho; cases ho
    show W.testBit (placeN (clauseN S T)) = true
    cases hc : clsd S T
    · by_cases hr : woN (opn S T) (fstI (opn S T)) = 0
      · rw [clauseN_one hc ho0 hr]
        have fs := fst_spec (Nat.pos_of_ne_zero ho0) (andN_lt _ _ (hS S hSm))
        rw [(one_iff (andN_lt _ _ (hS S hSm)) ho0).1 hr _ _ fs.2 ho]
        exact hw
      · exact absurd (clauseN_two hc ho0 hr) hy
    · exact absurd (clauseN_closed hc) hy
theorem force_true {m W : Nat} {Ss : List Nat} (hS : ∀ S ∈ Ss, S < 2 ^ 48) (hb : ∀ S ∈ Ss, ∀ b, S.testBit b = true → b < 2 * m) (hf : Fair m W) (hm : ∀ S ∈ Ss, S &&& W ≠ 0) (n T : Nat) (p : List Int) (hT : ∀ b, T.testBit b = true → W.testBit b = true) : (frc Ss n T p).2 = true := by
  induction n generalizing T p with
  | zero => rfl
  | succ n ih =>
    have u := unit_true hS hb hf hT hm
    by_cases h0 : (unitN Ss T).1 = 0
    · rw [frc_end u.1 h0]
    · rw [frc_more u.1 h0]
      refine ih _ _ (fun b hb' => ?_)
      rw [withN_bit, Bool.or_eq_true, decide_eq_true_iff] at hb'
      rcases hb' with q | q
      · exact hT b q
      · rw [← q]
        exact u.2 h0
theorem lit_place {m : Nat} {x : Int} (h : litIn (m : Int) x = true) : placeN x < 2 * m := by
  unfold ok.litIn at h
  rw [Bool.and_eq_true, decide_eq_true_iff] at h
  have a := okB_iff.1 h.1
  have v := h.2
  rw [lits.varI_yes a] at v
  unfold bset.placeN lits.placeI
  split at v <;> split <;> omega
/-- a clause that follows at once is implied -/
theorem leaves_imp {n : Int} {LL : List (List Int)} {L : List Int} (h : leavesB n LL L = true) (hn : n ≤ 14) : ct.impB n LL L = true := by
  unfold sp.leavesB at h
  rw [Bool.and_eq_true, Bool.and_eq_true, Bool.not_eq_true'] at h
  obtain ⟨⟨hc, hcl⟩, hF⟩ := h
  have cf := fm.cnf_facts hc
  obtain ⟨m, rfl⟩ := Int.eq_ofNat_of_zero_le cf.1
  have key : ct.impN m LL L = true := by
    rw [cw.impN_le, List.all_eq_true]
    intro j hj
    show (!(cnfT (le m j) LL) || clT (le m j) L) = true
    cases h1 : cnfT (le m j) LL
    · rfl
    · cases h2 : clT (le m j) L
      · exfalso
        have hLin := cw.clB_all hcl
        rw [List.all_eq_true] at hLin
        have hall : ∀ c ∈ LL, clT (le m j) c = true := by
          have := h1
          unfold tr.cnfT at this
          rw [List.all_eq_true] at this
          exact this
        have hin : ∀ c ∈ LL, ∀ x ∈ c, litIn (m : Int) x = true := fun c hc' => (cf.2.2.2 c hc').2
        have ft := force_true (m := m) (W := at_ m j) (Ss := LL.map setOf) (set_bd LL) (fun S hS b hb => by
          rw [List.mem_map] at hS
          obtain ⟨c, hc', rfl⟩ := hS
          rw [setOf_bit, List.any_eq_true] at hb
          obtain ⟨x, hx, e⟩ := hb
          rw [Bool.and_eq_true, decide_eq_true_iff] at e
          rw [← e.2]
          exact lit_place (hin c hc' x hx)) (fair_at m j) (fun S hS => by
          rw [List.mem_map] at hS
          obtain ⟨c, hc', rfl⟩ := hS
          have := at_.clause_at (n := m) (j := j) (L := c) (by rw [List.all_eq_true]; exact hin c hc')
          rw [hall c hc'] at this
          intro e
          rw [e] at this
          cases this) 49 (setOf (negL L)) (negL L) (fun b hb => by
          rw [setOf_bit, List.any_eq_true] at hb
          obtain ⟨y, hy, e⟩ := hb
          rw [Bool.and_eq_true, decide_eq_true_iff] at e
          unfold sp.negL at hy
          rw [List.mem_map] at hy
          obtain ⟨x, hx, rfl⟩ := hy
          have hxin := hLin x hx
          have okx : okB x = true := sp.cl_ok hcl x hx
          have lf : litT (le m j) x = false := by
            have := h2
            unfold tr.clT at this
            rw [List.any_eq_false] at this
            simpa using this x hx
          rw [at_.lit_at hxin] at lf
          have := fair_at m j (placeN x) (lit_place hxin)
          rw [lf, swp_place okx, e.2] at this
          exact this)
        rw [hF] at ft
        cases ft
      · rfl
  unfold ct.impB
  rw [hc, hcl, decide_eq_true hn]
  exact key
end Go.Proofs.YtjmjgjlldkpemaaDoor.ml
