/- Plain mathematics of FnCnfSort: a formula in order is true where it was and stays as it is; one with its clauses the other way round becomes the same; no condition. -/
import Derived.Test.YtibpnocpafppaaaDoorJLq
import Derived.Test.YtibpnocpafppaaaDoorJXTr
namespace Go.Proofs.YtibpnocpafppaaaDoor.ms
open lits (okB okB_iff placeI varI)
open bset (placeN placeN_le setOf setOf_lt setOf_bit setOf_has)
open cls (hasB)
open srt (srt litI okTo has_pos has_neg hi_bit)
open ok (cnfB clB litIn)
open tr (litT clT cnfT)
open cs (good cnfS cnfS_mem cnfS_up cnfS_len same less_ord good_ok good_24 srt_ok)
open le (lessL)
set_option linter.unusedVariables false
theorem place_lit (p : Nat) (h : p < 48) : placeN (litI p) = p := by
 unfold bset.placeN lits.placeI srt.litI
 split <;> split <;> omega
theorem lit_place {x : Int} (h : okB x = true) : litI (placeN x) = x := by
 have := okB_iff.1 h
 unfold bset.placeN lits.placeI srt.litI
 split <;> split <;> omega
theorem srt_mem {S : Nat} {x : Int} : x ∈ srt S 48 ↔ okB x = true ∧ S.testBit (placeN x) = true := by
 constructor
 ·intro h
  refine ⟨srt_ok S 48 (Nat.le_refl _) x h, ?_⟩
  unfold srt.srt at h
  obtain ⟨p, hp, rfl⟩ := List.mem_map.1 h
  rw [List.mem_filter, List.mem_range] at hp
  rw [place_lit p hp.1]
  exact hp.2
 ·rintro ⟨h1, h2⟩
  unfold srt.srt
  refine List.mem_map.2 ⟨placeN x, ?_, lit_place h1⟩
  rw [List.mem_filter, List.mem_range]
  have := placeN_le h1
  exact ⟨by omega, h2⟩
theorem mem_set {c : List Int} (h : ∀ x ∈ c, okB x = true) {x : Int} : x ∈ srt (setOf c) 48 ↔ x ∈ c := by
 rw [srt_mem]
 constructor
 ·rintro ⟨h1, h2⟩
  rw [setOf_has c x h1] at h2
  exact of_decide_eq_true h2
 ·intro hx
  refine ⟨h x hx, ?_⟩
  rw [setOf_has c x (h x hx)]
  exact decide_eq_true hx
theorem clT_srt (A : List Int) {c : List Int} (h : ∀ x ∈ c, okB x = true) : clT A (srt (setOf c) 48) = clT A c := by
 unfold tr.clT
 rw [Bool.eq_iff_iff, List.any_eq_true, List.any_eq_true]
 constructor
 ·rintro ⟨x, hx, e⟩
  exact ⟨x, (mem_set h).1 hx, e⟩
 ·rintro ⟨x, hx, e⟩
  exact ⟨x, (mem_set h).2 hx, e⟩
theorem lit_either (A : List Int) (k : Nat) (h : k < 24) : litT A ((k : Int) + 1) = true ∨ litT A (-((k : Int) + 1)) = true := by
 have v1 : varI ((k : Int) + 1) = (k : Int) + 1 := by
  rw [lits.varI_yes (by omega), if_neg (by omega)]
 have v2 : varI (-((k : Int) + 1)) = (k : Int) + 1 := by
  rw [lits.varI_yes (by omega), if_pos (by omega)]
  omega
 unfold tr.litT
 rw [v1, v2, if_neg (by omega), if_neg (by omega), decide_eq_true (show (0 : Int) < (k : Int) + 1 by omega), decide_eq_false (show ¬ (0 : Int) < -((k : Int) + 1) by omega)]
 cases (decide ((k : Int) + 1 ≤ (A.length : Int)) && decide (A.getD ((k : Int) + 1 - 1).toNat 0 = 1))
 ·exact .inr rfl
 ·exact .inl rfl
theorem clT_clash (A : List Int) {c : List Int} (h : okTo (setOf c) 24 = false) : clT A c = true := by
 unfold srt.okTo at h
 rw [List.all_eq_false] at h
 obtain ⟨k, hk, e⟩ := h
 rw [List.mem_range] at hk
 simp only [Bool.not_eq_true', Bool.not_eq_false, Bool.not_and, Bool.or_eq_true, not_or] at e
 have h1 : (setOf c).testBit (2 * k) = true := by simpa using e.1
 have h2 : (setOf c).testBit (2 * k + 1) = true := by simpa using e.2
 rw [← has_pos c k hk] at h1
 rw [← has_neg c k hk] at h2
 unfold tr.clT
 rw [List.any_eq_true]
 rcases lit_either A k hk with q | q
 ·exact ⟨_, of_decide_eq_true h1, q⟩
 ·exact ⟨_, of_decide_eq_true h2, q⟩
theorem good_mem {LL : List (List Int)} {x : List Int} : x ∈ good LL ↔ ∃ c ∈ LL, okTo (setOf c) 24 = true ∧ srt (setOf c) 48 = x := by
 unfold cs.good
 rw [List.mem_map]
 constructor
 ·rintro ⟨c, hc, e⟩
  rw [List.mem_filter] at hc
  exact ⟨c, hc.1, hc.2, e⟩
 ·rintro ⟨c, hc, h1, e⟩
  exact ⟨c, List.mem_filter.2 ⟨hc, h1⟩, e⟩
theorem cnfT_srt {n : Int} {LL : List (List Int)} (A : List Int) (h : cnfB n LL = true) : cnfT A (cnfS LL) = cnfT A LL := by
 have cf := (fm.cnf_facts h).2.2.2
 have hok : ∀ c ∈ LL, ∀ x ∈ c, okB x = true := fun c hc x hx => by
  have := (cf c hc).2 x hx
  unfold ok.litIn at this
  rw [Bool.and_eq_true] at this
  exact this.1
 unfold tr.cnfT
 rw [Bool.eq_iff_iff, List.all_eq_true, List.all_eq_true]
 constructor
 ·intro hall c hc
  cases ho : okTo (setOf c) 24
  ·exact clT_clash A ho
  ·rw [← clT_srt A (hok c hc)]
   exact hall _ (cnfS_mem.2 (good_mem.2 ⟨c, hc, ho, rfl⟩))
 ·intro hall x hx
  obtain ⟨c, hc, ho, rfl⟩ := good_mem.1 (cnfS_mem.1 hx)
  rw [clT_srt A (hok c hc)]
  exact hall c hc
theorem cnfB_srt {n : Int} {LL : List (List Int)} (h : cnfB n LL = true) : cnfB n (cnfS LL) = true := by
 have f := fm.cnf_facts h
 have hl := cnfS_len LL
 unfold ok.cnfB
 rw [decide_eq_true (And.intro f.1 f.2.1), decide_eq_true (show (cnfS LL).length ≤ 120 by omega), Bool.true_and, Bool.true_and, List.all_eq_true]
 intro x hx
 have h24 := good_24 (cnfS_mem.1 hx)
 obtain ⟨c, hc, ho, rfl⟩ := good_mem.1 (cnfS_mem.1 hx)
 have hin := (f.2.2.2 c hc).2
 unfold ok.clB
 rw [Bool.and_eq_true, decide_eq_true_iff, List.all_eq_true]
 refine ⟨fun y hy => hin y ((mem_set (fun z hz => ?_)).1 hy), by omega⟩
 have := hin z hz
 unfold ok.litIn at this
 rw [Bool.and_eq_true] at this
 exact this.1
end Go.Proofs.YtibpnocpafppaaaDoor.ms
