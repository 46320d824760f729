/- Plain mathematics of trimming a proof; no condition. -/
import Derived.Test.YtfhmdpbnnieohaaDoorJPx
namespace Go.Proofs.YtfhmdpbnnieohaaDoor.xt
open Go.RowKit
open bset (setOf)
open css (tot)
open ok (cnfB clB)
open wm (badN bad_le failB)
open xe (badB checkB)
set_option linter.unusedVariables false
theorem bad_cons (n : Int) (Ss : List Nat) (L : List Int) (LL : List (List Int)) : badN n Ss (L :: LL) = if clB n L && failB Ss (srt.oppN (setOf L)) then badN n (Ss ++ [setOf L]) LL + 1 else 0 := rfl
theorem bad_app (n : Int) (A B : List (List Int)) : ∀ Ss, badN n Ss (A ++ B) = if badN n Ss A = A.length then A.length + badN n (Ss ++ A.map setOf) B else badN n Ss A := by
 induction A with
 | nil =>
  intro Ss
  have e : badN n Ss [] = 0 := rfl
  rw [List.nil_append, e, if_pos (show (0 : Nat) = ([] : List (List Int)).length from rfl), List.map_nil, List.append_nil, List.length_nil, Nat.zero_add]
 | cons L A ih =>
  intro Ss
  rw [List.cons_append, bad_cons, bad_cons]
  cases hb : clB n L && failB Ss (srt.oppN (setOf L))
  ·rw [if_neg (by simp), if_neg (by rw [if_neg (by simp), List.length_cons]; omega), if_neg (by simp)]
  ·rw [if_pos rfl, if_pos rfl, ih]
   by_cases h : badN n (Ss ++ [setOf L]) A = A.length
   ·rw [if_pos h, if_pos (by rw [List.length_cons, h]), List.length_cons, List.map_cons, List.append_assoc]
    show A.length + badN n (Ss ++ (setOf L :: A.map setOf)) B + 1 = A.length + 1 + badN n (Ss ++ (setOf L :: A.map setOf)) B
    omega
   ·rw [if_neg h, if_neg (by rw [List.length_cons]; omega)]
def trm (n : Int) (Ss : List Nat) : List (List Int) → List (List Int) → List (List Int)
 | K, [] => K
 | K, L :: B => if B.length = 0 ∨ badN n (Ss ++ K.map setOf) B < B.length then trm n Ss (K ++ [L]) B else trm n Ss K B
theorem check_facts {n : Int} {LL PP : List (List Int)} (h : checkB n LL PP = true) : cnfB n LL = true ∧ PP.length ≤ 700 ∧ badN n (LL.map setOf) PP = PP.length ∧ 0 < PP.length ∧ (PP.getD (PP.length - 1) []).length = 0 := by
 unfold xe.checkB at h
 rw [Bool.and_eq_true, Bool.and_eq_true, decide_eq_true_iff, decide_eq_true_iff, decide_eq_true_iff] at h
 obtain ⟨⟨h1, h2⟩, h3⟩ := h
 have hc : cnfB n LL = true := by
  cases hb : cnfB n LL
  ·rw [xe.bad_no hb] at h1
   omega
  ·rfl
 have hl : PP.length ≤ 700 := by
  rcases Nat.lt_or_ge 700 PP.length with q | q
  ·rw [xe.bad_long (by omega)] at h1
   omega
  ·exact q
 rw [xe.bad_yes hc hl] at h1
 exact ⟨hc, hl, by omega, h2, h3⟩
theorem check_of {n : Int} {LL PP : List (List Int)} (hc : cnfB n LL = true) (hl : PP.length ≤ 700) (hb : badN n (LL.map setOf) PP = PP.length) (h0 : 0 < PP.length) (hz : (PP.getD (PP.length - 1) []).length = 0) : checkB n LL PP = true := by
 unfold xe.checkB
 rw [xe.bad_yes hc hl, hb, decide_eq_true rfl, decide_eq_true h0, decide_eq_true hz]
 rfl
structure Mod (n : Int) (LL : List (List Int)) (R K D : List (List Int)) : Prop where
 ck : checkB n LL (K ++ D) = true
 ne : 0 < D.length
 eq : trm n (LL.map setOf) K D = R
end Go.Proofs.YtfhmdpbnnieohaaDoor.xt
