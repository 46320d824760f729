/- Own lists of lists: none, and one that an inner call made; no condition. -/
import Derived.Test.YtmmmldcnadidkaaCf
namespace Go.Proofs.Ytmmmldcnadidkaa.rq
open Go.ChangeShapes Go.WideShapes Go.ChangeAt Go.RowKit
open Go.Proofs.Ytmmmldcnadidkaa.css (OwnS)
open Go.Proofs.Ytmmmldcnadidkaa.sl (grown_trans)
set_option linter.unusedVariables false
theorem nilS (w : World) : OwnS w.heap.size (w.alloc (.cells #[] 35)).heap.size (w.alloc (.cells #[] 35)) (.slice (some ⟨w.heap.size, 0, none⟩) 0 0) [] :=
  ⟨[], rfl, World.ownsRow_lit w #[] 0 (Nat.le_refl _) (Nat.zero_le _) rfl, (fun k e => by cases e; rw [World.size_alloc]; exact Nat.lt_succ_self _), (fun p hp => by cases hp), .nil⟩
theorem sub_own {w w1 w2 : World} {r : Value} {LL : List (List Int)} (g : w.grownBy w1 none) (o : OwnS w1.heap.size w2.heap.size w2 r LL) (k : w1.grownBy w2 none) : OwnS w.heap.size w2.heap.size w2 r LL ∧ w.grownBy w2 none :=
  ⟨o.sub g.size (Nat.le_refl _), grown_trans g k⟩
end Go.Proofs.Ytmmmldcnadidkaa.rq
namespace Go.Proofs.Ytmmmldcnadidkaa.rd
open Go.ChangeShapes Go.WideShapes Go.ChangeAt Go.RowKit
theorem apart_types {w : World} {b1 b2 : Nat} {e1 e2 : TypeId} {v u : Value} {n m : Nat} {xs ys : List Value} (h1 : w.ownsRow b1 e1 1 v n xs) (h2 : w.ownsRow b2 e2 1 u m ys) (he : e1 ≠ e2) : u.ownBlock = none ∨ u.ownBlock ≠ v.ownBlock := by
  obtain ⟨_, k2⟩ := h2
  rcases k2 with ⟨rfl, _⟩ | ⟨g2, cap2, cur2, rfl, _, hh2, _⟩
  · exact .inl rfl
  · refine .inr (fun e => ?_)
    obtain ⟨_, k1⟩ := h1
    rcases k1 with ⟨rfl, _⟩ | ⟨g1, cap1, cur1, rfl, _, hh1, _⟩
    · cases e
    · have hg : g2 = g1 := by injection e
      rw [hg, hh1] at hh2
      injection hh2 with hh2
      injection hh2 with _ h3 _
      exact he h3
end Go.Proofs.Ytmmmldcnadidkaa.rd
namespace Go.Proofs.Ytmmmldcnadidkaa.qw
open Go.ChangeShapes Go.WideShapes Go.ChangeAt Go.RowKit
theorem own_take {w : World} {lo g n cap k : Nat} {t : TypeId} {xs : List Value} (h : w.ownsRow lo t 1 (.slice (some ⟨g, 0, none⟩) n cap) n xs) (hk : k ≤ n) : w.ownsRow lo t 1 (.slice (some ⟨g, 0, none⟩) k cap) k (xs.take k) := by
  obtain ⟨hl, h2⟩ := h
  refine ⟨by rw [List.length_take]; omega, ?_⟩
  rcases h2 with ⟨e, _⟩ | ⟨g', cap', cur, e, hb, hg, hn, hm, hc, ht⟩
  · cases e
  · injection e with e1 e2 e3
    injection e1 with e1
    injection e1 with e1
    subst e1
    subst e3
    refine .inr ⟨g, cap, cur, rfl, hb, hg, by omega, hm, hc, ?_⟩
    rw [← ht, List.take_take]
    congr 1
    omega
end Go.Proofs.Ytmmmldcnadidkaa.qw
namespace Go.Proofs.Ytmmmldcnadidkaa.ks
open Go.ChangeShapes Go.WideShapes Go.ChangeAt Go.RowKit
theorem row_form {w : World} {b n z : Nat} {e : TypeId} {v : Value} {xs : List Value} (h : w.ownsRow b e z v n xs) : ∃ a cap, v = .slice a n cap := by
  rcases h.2 with ⟨hv, h0⟩ | ⟨g, cap, cur, hv, _⟩
  · exact ⟨none, 0, by rw [hv, h0]⟩
  · exact ⟨_, cap, hv⟩
end Go.Proofs.Ytmmmldcnadidkaa.ks
