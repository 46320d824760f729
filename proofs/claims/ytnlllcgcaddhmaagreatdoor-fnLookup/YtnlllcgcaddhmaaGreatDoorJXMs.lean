/- Plain mathematics of FnCnfSort: a formula in order is true where it was and stays as it is; one with its clauses the other way round becomes the same; no condition. -/
import Derived.Test.YtnlllcgcaddhmaaGreatDoorJOq
import Derived.Test.YtnlllcgcaddhmaaGreatDoorJOn
namespace Go.Proofs.YtnlllcgcaddhmaaGreatDoor.ms
open lits (okB okB_iff placeI varI)
open bset (placeN placeN_le setOf setOf_lt setOf_bit setOf_has)
open cls (hasB)
open srt (srt litI okTo has_pos has_neg hi_bit)
open ok (cnfB clB litIn)
open tr (litT clT cnfT)
open cs (good cnfS cnfS_mem cnfS_up cnfS_len same less_ord good_ok good_24 srt_ok)
open le (lessL)
set_option linter.unusedVariables false
theorem place_lit (p : Nat) (h : p < 48) : placeN (litI p) = p := by
 unfold bset.placeN lits.placeI srt.litI
 split <;> split <;> omega
theorem lit_place {x : Int} (h : okB x = true) : litI (placeN x) = x := by
 have := okB_iff.1 h
 unfold bset.placeN lits.placeI srt.litI
 split <;> split <;> omega
theorem srt_mem {S : Nat} {x : Int} : x ∈ srt S 48 ↔ okB x = true ∧ S.testBit (placeN x) = true := by
 constructor
 ·intro h
  refine ⟨srt_ok S 48 (Nat.le_refl _) x h, ?_⟩
  unfold srt.srt at h
  obtain ⟨p, hp, rfl⟩ := List.mem_map.1 h
  rw [List.mem_filter, List.mem_range] at hp
  rw [place_lit p hp.1]
  exact hp.2
 ·rintro ⟨h1, h2⟩
  unfold srt.srt
  refine List.mem_map.2 ⟨placeN x, ?_, lit_place h1⟩
  rw [List.mem_filter, List.mem_range]
  have := placeN_le h1
  exact ⟨by omega, h2⟩
theorem mem_set {c : List Int} (h : ∀ x ∈ c, okB x = true) {x : Int} : x ∈ srt (setOf c) 48 ↔ x ∈ c := by
 rw [srt_mem]
 constructor
 ·rintro ⟨h1, h2⟩
  rw [setOf_has c x h1] at h2
  exact of_decide_eq_true h2
 ·intro hx
  refine ⟨h x hx, ?_⟩
  rw [setOf_has c x (h x hx)]
  exact decide_eq_true hx
theorem good_mem {LL : List (List Int)} {x : List Int} : x ∈ good LL ↔ ∃ c ∈ LL, okTo (setOf c) 24 = true ∧ srt (setOf c) 48 = x := by
 unfold cs.good
 rw [List.mem_map]
 constructor
 ·rintro ⟨c, hc, e⟩
  rw [List.mem_filter] at hc
  exact ⟨c, hc.1, hc.2, e⟩
 ·rintro ⟨c, hc, h1, e⟩
  exact ⟨c, List.mem_filter.2 ⟨hc, h1⟩, e⟩
theorem cnfB_srt {n : Int} {LL : List (List Int)} (h : cnfB n LL = true) : cnfB n (cnfS LL) = true := by
 have f := fm.cnf_facts h
 have hl := cnfS_len LL
 unfold ok.cnfB
 rw [decide_eq_true (And.intro f.1 f.2.1), decide_eq_true (show (cnfS LL).length ≤ 120 by omega), Bool.true_and, Bool.true_and, List.all_eq_true]
 intro x hx
 have h24 := good_24 (cnfS_mem.1 hx)
 obtain ⟨c, hc, ho, rfl⟩ := good_mem.1 (cnfS_mem.1 hx)
 have hin := (f.2.2.2 c hc).2
 unfold ok.clB
 rw [Bool.and_eq_true, decide_eq_true_iff, List.all_eq_true]
 refine ⟨fun y hy => hin y ((mem_set (fun z hz => ?_)).1 hy), by omega⟩
 have := hin z hz
 unfold ok.litIn at this
 rw [Bool.and_eq_true] at this
 exact this.1
end Go.Proofs.YtnlllcgcaddhmaaGreatDoor.ms
