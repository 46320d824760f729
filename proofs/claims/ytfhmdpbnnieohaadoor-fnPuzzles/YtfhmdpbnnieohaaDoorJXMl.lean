/- Plain mathematics of FnLeaves: what is forced is true wherever the formula and what was taken are, so a clause that follows at once is implied; no condition. -/
import Derived.Test.YtfhmdpbnnieohaaDoorJXWz
import Derived.Deep.QuietTactic
import Derived.BigQuiet
import Derived.Deep.RegionHeld3
import Derived.Deep.RegionLaw
import Derived.WalkMore
import Derived.ArgAppend
import Derived.Test.YtfhmdpbnnieohaaDoorJPc
import Derived.Test.YtfhmdpbnnieohaaDoorJXFm
import Derived.Test.YtfhmdpbnnieohaaDoorJXVt
import Derived.Deep.RegionWith
import Derived.Test.YtfhmdpbnnieohaaDoorJPn
import Derived.Test.YtfhmdpbnnieohaaDoorJPs
import Derived.Test.YtfhmdpbnnieohaaDoorJXCu
import Derived.Test.YtfhmdpbnnieohaaDoorJXCi
namespace Go.Proofs.YtfhmdpbnnieohaaDoor.ml
open Go.RowKit
open lits (okB okB_iff varI)
open bset (placeN placeN_le placeN_inj setOf setOf_lt setOf_bit withN withN_bit)
open srt (woN fstI swp andN_lt)
open ok (cnfB litIn clB)
open tr (litT clT cnfT)
open cnt (le)
open at_ (at_)
open Go.Proofs.YtfhmdpbnnieohaaDoor.wm
open sp (negL)
set_option linter.unusedVariables false
def Fair (m W : Nat) : Prop := ∀ b, b < 2 * m → W.testBit (swp b) = !W.testBit b
theorem open_true {m S T W : Nat} (hS : S < 2 ^ 48) (hb : ∀ b, S.testBit b = true → b < 2 * m) (hf : Fair m W) (hT : ∀ b, T.testBit b = true → W.testBit b = true) (hm : S &&& W ≠ 0) : ∃ b, (opn S T).testBit b = true ∧ W.testBit b = true := by
 obtain ⟨b, h⟩ := Nat.exists_testBit_of_ne_zero hm
 rw [Nat.testBit_and, Bool.and_eq_true] at h
 refine ⟨b, ?_, h.2⟩
 rw [opn_bit _ _ _ hS, h.1]
 cases hq : T.testBit (swp b)
 ·rfl
 ·have := hT _ hq
  rw [hf b (hb b h.1), h.2] at this
  cases this
theorem unit_true {m T W : Nat} {Ss : List Nat} (hS : ∀ S ∈ Ss, S < 2 ^ 48) (hb : ∀ S ∈ Ss, ∀ b, S.testBit b = true → b < 2 * m) (hf : Fair m W) (hT : ∀ b, T.testBit b = true → W.testBit b = true) (hm : ∀ S ∈ Ss, S &&& W ≠ 0) :
  (unitN Ss T).2 = true ∧ ((unitN Ss T).1 ≠ 0 → W.testBit (placeN (unitN Ss T).1) = true) := by
 have no : (Ss.map (clauseN · T)).any (· == -100) = false := by
  rw [List.any_eq_false]
  intro x hx e
  rw [List.mem_map] at hx
  obtain ⟨S, hSm, rfl⟩ := hx
  obtain ⟨b, ho, _⟩ := open_true (hS S hSm) (hb S hSm) hf hT (hm S hSm)
  have ho0 : opn S T ≠ 0 := fun e => by rw [e, Nat.zero_testBit] at ho; cases ho
  have e' : clauseN S T = -100 := by simpa using e
  cases hc : clsd S T
  ·by_cases hr : woN (opn S T) (fstI (opn S T)) = 0
   ·rw [clauseN_one hc ho0 hr] at e'
    exact (ok_ne (fst_spec (Nat.pos_of_ne_zero ho0) (andN_lt _ _ (hS S hSm))).1).2 e'
   ·rw [clauseN_two hc ho0 hr] at e'
    omega
  ·rw [clauseN_closed hc] at e'
   omega
 unfold wm.unitN
 rw [if_neg (by rw [no]; simp)]
 refine ⟨rfl, fun h0 => ?_⟩
 unfold wm.firstN at h0 ⊢
 cases hf' : (Ss.map (clauseN · T)).find? (fun x => x != 0) with
 | none =>
  rw [hf'] at h0
  exact absurd rfl h0
 | some y =>
  have hmem := List.mem_of_find?_eq_some hf'
  have hy : y ≠ 0 := by simpa using List.find?_some hf'
  rw [List.mem_map] at hmem
  obtain ⟨S, hSm, rfl⟩ := hmem
  obtain ⟨b, ho, hw⟩ := open_true (hS S hSm) (hb S hSm) hf hT (hm S hSm)
  have ho0 : opn S T ≠ 0 := fun e => by rw [e, Nat.zero_testBit] at ho; cases ho
  show W.testBit (placeN (clauseN S T)) = true
  cases hc : clsd S T
  ·by_cases hr : woN (opn S T) (fstI (opn S T)) = 0
   ·rw [clauseN_one hc ho0 hr]
    have fs := fst_spec (Nat.pos_of_ne_zero ho0) (andN_lt _ _ (hS S hSm))
    rw [(one_iff (andN_lt _ _ (hS S hSm)) ho0).1 hr _ _ fs.2 ho]
    exact hw
   ·exact absurd (clauseN_two hc ho0 hr) hy
  ·exact absurd (clauseN_closed hc) hy
theorem force_true {m W : Nat} {Ss : List Nat} (hS : ∀ S ∈ Ss, S < 2 ^ 48) (hb : ∀ S ∈ Ss, ∀ b, S.testBit b = true → b < 2 * m) (hf : Fair m W) (hm : ∀ S ∈ Ss, S &&& W ≠ 0) (n T : Nat) (p : List Int) (hT : ∀ b, T.testBit b = true → W.testBit b = true) : (frc Ss n T p).2 = true := by
 induction n generalizing T p with
 | zero => rfl
 | succ n ih =>
  have u := unit_true hS hb hf hT hm
  by_cases h0 : (unitN Ss T).1 = 0
  ·rw [frc_end u.1 h0]
  ·rw [frc_more u.1 h0]
   refine ih _ _ (fun b hb' => ?_)
   rw [withN_bit, Bool.or_eq_true, decide_eq_true_iff] at hb'
   rcases hb' with q | q
   ·exact hT b q
   ·rw [← q]
    exact u.2 h0
end Go.Proofs.YtfhmdpbnnieohaaDoor.ml
