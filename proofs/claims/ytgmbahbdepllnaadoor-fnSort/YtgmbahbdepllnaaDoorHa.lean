/- Plain mathematics of FnSort, and its draw: a clause in order has just its literals, ascending, stays as it is, and is true where it was; no condition. -/
import Derived.Test.YtgmbahbdepllnaaDoorSrtS
import Derived.Test.YtgmbahbdepllnaaDoorTr
import Derived.Test.YtgmbahbdepllnaaDoorFc
import Derived.Test.YtgmbahbdepllnaaDoorDCl
import Derived.Test.YtgmbahbdepllnaaDoorDVa
import Derived.Deep.DeepCutAuto
namespace Go.Proofs.YtgmbahbdepllnaaDoor.ha
open Go.ChangeShapes Go.WideShapes Go.ChangeAt Go.RowKit
open Go.Proofs.YtgmbahbdepllnaaDoor.sl (Sl Own ints hide unhide ret_int ret_bool grown_refl grown_trans)
open Go.Proofs.YtgmbahbdepllnaaDoor.lits (okB okB_iff placeI varI befB)
open Go.Proofs.YtgmbahbdepllnaaDoor.bset (placeN placeN_le setOf setOf_lt setOf_bit setOf_has subB)
open Go.Proofs.YtgmbahbdepllnaaDoor.cls (hasB okAll)
open Go.Proofs.YtgmbahbdepllnaaDoor.srt (srt litI okTo has_pos has_neg hi_bit sortL sortB litI_bd srt_len)
open Go.Proofs.YtgmbahbdepllnaaDoor.tr (litT clT)
open Go.Proofs.YtgmbahbdepllnaaDoor.wo (Made)
set_option linter.unusedVariables false

theorem srt_ok (S j : Nat) (h : j ≤ 48) : ∀ x ∈ srt S j, okB x = true := by
  intro x hx
  unfold srt.srt at hx
  obtain ⟨p, hp, rfl⟩ := List.mem_map.1 hx
  rw [List.mem_filter, List.mem_range] at hp
  have := litI_bd p (by omega)
  refine okB_iff.2 ⟨?_, this.1, this.2⟩
  unfold srt.litI
  split <;> omega
theorem place_lit (p : Nat) (h : p < 48) : placeN (litI p) = p := by
  unfold bset.placeN lits.placeI srt.litI
  split <;> split <;> omega
theorem lit_place {x : Int} (h : okB x = true) : litI (placeN x) = x := by
  have := okB_iff.1 h
  unfold bset.placeN lits.placeI srt.litI
  split <;> split <;> omega
theorem srt_mem {S : Nat} {x : Int} : x ∈ srt S 48 ↔ okB x = true ∧ S.testBit (placeN x) = true := by
  constructor
  · intro h
    refine ⟨srt_ok S 48 (Nat.le_refl _) x h, ?_⟩
    unfold srt.srt at h
    obtain ⟨p, hp, rfl⟩ := List.mem_map.1 h
    rw [List.mem_filter, List.mem_range] at hp
    rw [place_lit p hp.1]
    exact hp.2
  · rintro ⟨h1, h2⟩
    unfold srt.srt
    refine List.mem_map.2 ⟨placeN x, ?_, lit_place h1⟩
    rw [List.mem_filter, List.mem_range]
    have := placeN_le h1
    exact ⟨by omega, h2⟩
theorem setOf_srt {S : Nat} (h : S < 2 ^ 48) : setOf (srt S 48) = S := by
  apply Nat.eq_of_testBit_eq
  intro j
  rw [setOf_bit]
  by_cases hj : j < 48
  · rw [Bool.eq_iff_iff, List.any_eq_true]
    constructor
    · rintro ⟨x, hx, e⟩
      rw [Bool.and_eq_true, decide_eq_true_iff] at e
      rw [← e.2]
      exact (srt_mem.1 hx).2
    · intro hb
      have hp := place_lit j hj
      have hm : litI j ∈ srt S 48 := by
        unfold srt.srt
        exact List.mem_map.2 ⟨j, by rw [List.mem_filter, List.mem_range]; exact ⟨hj, hb⟩, rfl⟩
      exact ⟨litI j, hm, by rw [(srt_mem.1 hm).1, hp]; simp⟩
  · rw [hi_bit h (by omega), List.any_eq_false]
    intro x hx
    have := placeN_le (srt_mem.1 hx).1
    simp
    intro _ e
    omega
theorem mem_set {c : List Int} (h : ∀ x ∈ c, okB x = true) {x : Int} : x ∈ srt (setOf c) 48 ↔ x ∈ c := by
  rw [srt_mem]
  constructor
  · rintro ⟨h1, h2⟩
    rw [setOf_has c x h1] at h2
    exact of_decide_eq_true h2
  · intro hx
    refine ⟨h x hx, ?_⟩
    rw [setOf_has c x (h x hx)]
    exact decide_eq_true hx
theorem clT_srt (A : List Int) {c : List Int} (h : ∀ x ∈ c, okB x = true) : clT A (srt (setOf c) 48) = clT A c := by
  unfold tr.clT
  rw [Bool.eq_iff_iff, List.any_eq_true, List.any_eq_true]
  constructor
  · rintro ⟨x, hx, e⟩
    exact ⟨x, (mem_set h).1 hx, e⟩
  · rintro ⟨x, hx, e⟩
    exact ⟨x, (mem_set h).2 hx, e⟩
theorem lit_either (A : List Int) (k : Nat) (h : k < 24) : litT A ((k : Int) + 1) = true ∨ litT A (-((k : Int) + 1)) = true := by
  have v1 : varI ((k : Int) + 1) = (k : Int) + 1 := by
    rw [lits.varI_yes (by omega), if_neg (by omega)]
  have v2 : varI (-((k : Int) + 1)) = (k : Int) + 1 := by
    rw [lits.varI_yes (by omega), if_pos (by omega)]
    omega
  unfold tr.litT
  rw [v1, v2, if_neg (by omega), if_neg (by omega), decide_eq_true (show (0 : Int) < (k : Int) + 1 by omega), decide_eq_false (show ¬ (0 : Int) < -((k : Int) + 1) by omega)]
  cases (decide ((k : Int) + 1 ≤ (A.length : Int)) && decide (A.getD ((k : Int) + 1 - 1).toNat 0 = 1))
  · exact .inr rfl
  · exact .inl rfl
theorem clT_clash (A : List Int) {c : List Int} (h : okTo (setOf c) 24 = false) : clT A c = true := by
  unfold srt.okTo at h
  rw [List.all_eq_false] at h
  obtain ⟨k, hk, e⟩ := h
  rw [List.mem_range] at hk
  simp only [Bool.not_eq_true', Bool.not_eq_false, Bool.not_and, Bool.or_eq_true, not_or] at e
  have h1 : (setOf c).testBit (2 * k) = true := by simpa using e.1
  have h2 : (setOf c).testBit (2 * k + 1) = true := by simpa using e.2
  rw [← has_pos c k hk] at h1
  rw [← has_neg c k hk] at h2
  unfold tr.clT
  rw [List.any_eq_true]
  rcases lit_either A k hk with q | q
  · exact ⟨_, of_decide_eq_true h1, q⟩
  · exact ⟨_, of_decide_eq_true h2, q⟩

theorem place_litI (p : Nat) (h : p < 48) : placeI (litI p) = (p : Int) := by
  unfold lits.placeI srt.litI
  split <;> split <;> omega
theorem srt_bef (S k : Nat) (h : k + 1 < (srt S 48).length) : befB ((srt S 48).getD k 0) ((srt S 48).getD (k + 1) 0) = true := by
  have hp : (srt S 48).Pairwise fun x y => befB x y = true := by
    unfold srt.srt
    rw [List.pairwise_map]
    have h0 : ((List.range 48).filter fun i => S.testBit i).Pairwise (· < ·) := List.Pairwise.filter _ List.pairwise_lt_range
    rw [List.pairwise_iff_getElem] at h0 ⊢
    intro i j hi hj hij
    have hlt := h0 i j hi hj hij
    have m2 := (List.mem_filter.1 (List.getElem_mem hj)).1
    rw [List.mem_range] at m2
    have o1 : okB (litI ((List.range 48).filter fun i => S.testBit i)[i]) = true := srt_ok S 48 (Nat.le_refl _) _ (by unfold srt.srt; exact List.mem_map_of_mem (List.getElem_mem hi))
    have o2 : okB (litI ((List.range 48).filter fun i => S.testBit i)[j]) = true := srt_ok S 48 (Nat.le_refl _) _ (by unfold srt.srt; exact List.mem_map_of_mem (List.getElem_mem hj))
    unfold lits.befB
    rw [o1, o2, place_litI _ (by omega), place_litI _ (by omega)]
    simp
    exact hlt
  rw [List.pairwise_iff_getElem] at hp
  have := hp k (k + 1) (by omega) h (by omega)
  rw [show (srt S 48).getD k 0 = (srt S 48)[k] by simp [show k < (srt S 48).length by omega], show (srt S 48).getD (k + 1) 0 = (srt S 48)[k + 1] by simp [h]]
  exact this
theorem all_of {L : List Int} (h : okAll L = true) : ∀ x ∈ L, okB x = true := by
  unfold cls.okAll at h
  rw [Bool.and_eq_true, List.all_eq_true] at h
  exact h.1
theorem okAll_srt (S : Nat) : okAll (srt S 48) = true := by
  have h1 := srt_len S 48
  have h2 : (srt S 48).all okB = true := List.all_eq_true.2 (srt_ok S 48 (Nat.le_refl _))
  unfold cls.okAll
  rw [h2, decide_eq_true h1]
  rfl
/-- all that the law is told of a clause that is one -/
theorem told {L : List Int} (h : okAll L = true) : sortL L = srt (setOf L) 48 ∧ sortB L = okTo (setOf L) 24 ∧ sortL (srt (setOf L) 48) = srt (setOf L) 48 ∧ sortB (srt (setOf L) 48) = okTo (setOf L) 24 ∧ subB (srt (setOf L) 48) L = true ∧ subB L (srt (setOf L) 48) = true ∧ (∀ A, clT A (srt (setOf L) 48) = clT A L) ∧ (∀ A, okTo (setOf L) 24 = false → clT A L = true) ∧ fm.clashB L = !(okTo (setOf L) 24) := by
  have ha := all_of h
  have hs := setOf_srt (setOf_lt L)
  have ho := okAll_srt (setOf L)
  refine ⟨by unfold srt.sortL; rw [h, if_pos rfl], by unfold srt.sortB; rw [h]; rfl, by unfold srt.sortL; rw [ho, if_pos rfl, hs], by unfold srt.sortB; rw [ho, hs]; rfl, ?_, ?_, fun A => clT_srt A ha, fun A hA => clT_clash A hA, fm.clash_iff L⟩
  · unfold bset.subB
    rw [List.all_eq_true]
    intro x hx
    exact decide_eq_true ((mem_set ha).1 hx)
  · unfold bset.subB
    rw [List.all_eq_true]
    intro x hx
    exact decide_eq_true ((mem_set ha).2 hx)
theorem drawClauseSort (a : Option Addr) (n cap : Nat) (w : World) (hn : n ≤ 1048576) (hB : draw.Bs w a n) :
    Calls Tryd.prog 6 #[.slice a n cap] w fun e w' => ∃ v L, e = .returned v ∧ L.length ≤ 49 ∧ Made w w' v L := by
  have HB := hide hB
  clear hB
  go_enter Tryd.func6, Tryd.ntmps6
  go_wp2_with fail
  refine (draw.newCur a n cap _ hn (unhide HB)).mono ?_; rintro e w1 ⟨rfl, hc1, g1⟩
  have HC1 := hide hc1
  have G1 := hide g1
  clear hc1 g1
  go_wp2_with fail
  refine (dcls.clause _ _ _ _ (unhide HC1) (by decide) (by decide) (by decide) (by decide)).mono ?_; rintro e w2 ⟨v, L, rfl, hL, hm⟩
  have R := hide (show Made w w2 v L from ⟨css.own_mono hm.1 (unhide G1).size, draw.grown_new (unhide G1) hm.2.1 (Nat.le_refl _)⟩)
  clear hm HC1 G1 HB
  go_wp2_with fail
  go_ret
  exact ⟨v, L, rfl, hL, unhide R⟩
end Go.Proofs.YtgmbahbdepllnaaDoor.ha
