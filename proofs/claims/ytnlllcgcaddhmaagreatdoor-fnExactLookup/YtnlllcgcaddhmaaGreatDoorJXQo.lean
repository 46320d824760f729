/- Plain mathematics of the machine: when a clause is empty on a path. -/
import Derived.Test.YtnlllcgcaddhmaaGreatDoorJXQm
import Derived.Test.YtnlllcgcaddhmaaGreatDoorJOk
namespace Go.Proofs.YtnlllcgcaddhmaaGreatDoor.qm
open as_ (litAt tl tl_snoc tl_len)
open cls (hasB)
open ok (cnfB litIn)
open l4 (openB emptyB)
open bset (placeN setOf setOf_has placeN_inj)
open lits (okB okB_iff)
open km (wdB plc plc_div place_at lit_form set_lit lit_set place_div)
open ks (Right Closed)
open kd (SV)
open lq (litIn_parts)
set_option linter.unusedVariables false
theorem has_wd {A : List Int} (h24 : A.length ≤ 24) (hA : ∀ x ∈ A, x = 0 ∨ x = 1) {x : Int} (hx : okB x = true) : hasB (tl 0 A) x = wdB A (placeN x) := by
 have hat : ∀ i, i < A.length → okB (litAt i (A.getD i 0)) = true := by
  intro i hi
  rw [okB_iff]
  unfold as_.litAt
  split <;> omega
 unfold cls.hasB km.wdB
 rw [Bool.eq_iff_iff, decide_eq_true_iff, Bool.and_eq_true, decide_eq_true_iff, decide_eq_true_iff]
 constructor
 ·intro h
  obtain ⟨i, hi, e⟩ := List.getElem_of_mem h
  rw [tl_len] at hi
  have e1 := tl_getD A 0 i hi
  rw [show (tl 0 A).getD i 0 = (tl 0 A)[i] by simp [tl_len, hi], e, Nat.zero_add] at e1
  rw [e1, place_at (by omega) (hA _ (getD_mem hi)), plc_div]
  exact ⟨hi, rfl⟩
 ·rintro ⟨h1, h2⟩
  rw [← place_at (by omega) (hA _ (getD_mem h1))] at h2
  have e := placeN_inj (hat _ h1) hx h2
  have e1 := tl_getD A 0 _ h1
  rw [Nat.zero_add, e] at e1
  rw [← e1]
  exact getD_mem (by rw [tl_len]; exact h1)
theorem wd_opp {A : List Int} (h24 : A.length ≤ 24) (hA : ∀ x ∈ A, x = 0 ∨ x = 1) {n : Nat} (hn : n ≤ 24) {x : Int} (hx : litIn (n : Int) x = true) : (hasB (tl 0 A) (-x) = true ↔ placeN x / 2 < A.length ∧ hasB (tl 0 A) x = false) := by
 obtain ⟨j, y, hj, hy, rfl⟩ := lit_form hx
 have e : -(litAt j y) = litAt j (1 - y) := by
  unfold as_.litAt
  rcases hy with rfl | rfl <;> simp <;> omega
 have hok := (litIn_parts hx).1
 have hok' : okB (litAt j (1 - y)) = true := by
  rw [← e]
  have := okB_iff.1 hok
  exact okB_iff.2 ⟨by omega, by omega, by omega⟩
 have hy' : (1 - y) = 0 ∨ (1 - y) = 1 := by omega
 rw [e, has_wd h24 hA hok', has_wd h24 hA hok, place_at (by omega) hy', place_at (by omega) hy, plc_div]
 unfold km.wdB
 rw [plc_div, plc_div]
 by_cases hl : j < A.length
 ·rw [decide_eq_true hl, Bool.true_and, Bool.true_and, decide_eq_true_iff, decide_eq_false_iff_not]
  have hb := hA _ (getD_mem hl)
  generalize A.getD j 0 = z at *
  unfold km.plc
  rcases hb with rfl | rfl <;> rcases hy with rfl | rfl <;> simp <;> omega
 ·rw [decide_eq_false hl]
  simp [hl]
theorem open_iff {n : Nat} {LL : List (List Int)} {A : List Int} {s : SV} {X : Nat} (hR : Right n LL s) (he : ∀ u, s.E u < 2 ^ s.Ss.length) (hl : A.length ≤ n) (hA : ∀ x ∈ A, x = 0 ∨ x = 1) (hX : Closed s.Ss A X) :
  openB LL (tl 0 A) = true ↔ ∀ j, (∃ u, u ≤ A.length ∧ (s.E u).testBit j = true) → X.testBit j = true := by
 have h24 := hR.n24
 have hSl : s.Ss.length = LL.length := by rw [hR.ss, List.length_map]
 have hSs : ∀ j (hj : j < LL.length), s.Ss.getD j 0 = setOf LL[j] := by
  intro j hj
  rw [hR.ss]
  simp [hj]
 unfold l4.openB
 rw [List.all_eq_true]
 constructor
 ·intro ho j ⟨u, hu, hb⟩
  have hj : j < LL.length := by rw [← hSl]; exact kd.bit_lt (he u) hb
  have hne := ho _ (List.getElem_mem hj)
  have hin := hR.li _ (List.getElem_mem hj)
  have hv : ∀ x ∈ LL[j], placeN x / 2 < A.length := fun x hx => by
   have := hR.e1 u j hb (placeN x) (by rw [hSs j hj]; exact lit_set hx (litIn_parts (hin x hx)).1)
   omega
  have : ∃ x ∈ LL[j], hasB (tl 0 A) x = true := by
   by_cases q : ∃ x ∈ LL[j], hasB (tl 0 A) x = true
   ·exact q
   ·exfalso
    have hno : ∀ x ∈ LL[j], hasB (tl 0 A) x = false := fun x hx => by
     cases z : hasB (tl 0 A) x with
     | false => rfl
     | true => exact absurd ⟨x, hx, z⟩ q
    have : emptyB (tl 0 A) LL[j] = true := l4.em_none (List.any_eq_false.2 fun x hx => by rw [hno x hx]; decide) (fun x hx => (wd_opp (by omega) hA h24 (hin x hx)).2 ⟨hv x hx, hno x hx⟩)
    rw [this] at hne
    cases hne
  obtain ⟨x, hx, hh⟩ := this
  have hok := (litIn_parts (hin x hx)).1
  rw [has_wd (by omega) hA hok] at hh
  exact (hX.2 j).2 ⟨by rw [hSl]; exact hj, placeN x, by rw [hSs j hj]; exact lit_set hx hok, hh⟩
 ·intro h c hc
  cases z : emptyB (tl 0 A) c with
  | false => rfl
  | true =>
   exfalso
   obtain ⟨j, hj, rfl⟩ := List.getElem_of_mem hc
   have hin := hR.li _ (List.getElem_mem hj)
   unfold l4.emptyB at z
   rw [Bool.and_eq_true, List.all_eq_true] at z
   obtain ⟨u, hu, hb⟩ := hR.e2 j (by rw [hSl]; exact hj)
   have hul : u ≤ A.length := by
    rcases hR.e3 u j hb with q | ⟨b, h1, h2⟩
    ·omega
    ·rw [hSs j hj] at h1
     obtain ⟨x, hx, ho, rfl⟩ := set_lit h1
     have := ((wd_opp (by omega) hA h24 (hin x hx)).1 (z.1 x hx)).1
     omega
   obtain ⟨_, b, h1, h2⟩ := (hX.2 j).1 (h j ⟨u, hul, hb⟩)
   rw [hSs j hj] at h1
   obtain ⟨x, hx, ho, rfl⟩ := set_lit h1
   rw [← has_wd (by omega) hA ho] at h2
   have := ((wd_opp (by omega) hA h24 (hin x hx)).1 (z.1 x hx)).2
   rw [h2] at this
   cases this
end Go.Proofs.YtnlllcgcaddhmaaGreatDoor.qm
