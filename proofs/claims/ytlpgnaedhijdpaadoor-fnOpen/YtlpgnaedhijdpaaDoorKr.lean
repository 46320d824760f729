/- The solver that belongs to a formula: what its words say of the clauses; plain mathematics. -/
import Derived.Test.YtlpgnaedhijdpaaDoorKd
import Derived.Test.YtlpgnaedhijdpaaDoorKn
namespace Go.Proofs.YtlpgnaedhijdpaaDoor.ks
open Go.RowKit
open Go.Proofs.YtlpgnaedhijdpaaDoor.srt (Tab swp oppN)
open Go.Proofs.YtlpgnaedhijdpaaDoor.bset (placeN setOf)
open Go.Proofs.YtlpgnaedhijdpaaDoor.kc (cset)
open Go.Proofs.YtlpgnaedhijdpaaDoor.kd (SV Slv)
open Go.Proofs.YtlpgnaedhijdpaaDoor.km (wdB plc)
open Go.Proofs.YtlpgnaedhijdpaaDoor.sl (hide unhide grown_refl grown_trans)
set_option linter.unusedVariables false
/-- the solver is that of the formula -/
structure Right (n : Nat) (LL : List (List Int)) (s : SV) : Prop where
  n24 : n ≤ 24
  sn : s.n = n
  ss : s.Ss = LL.map setOf
  hv : ∀ p i, (s.H p).testBit i = (decide (i < s.Ss.length) && (s.Ss.getD i 0).testBit p)
  e1 : ∀ u i, (s.E u).testBit i = true → ∀ b, (s.Ss.getD i 0).testBit b = true → b / 2 < u
  e2 : ∀ i, i < s.Ss.length → ∃ u, u ≤ n ∧ (s.E u).testBit i = true
  e3 : ∀ u i, (s.E u).testBit i = true → u = 0 ∨ ∃ b, (s.Ss.getD i 0).testBit b = true ∧ b / 2 + 1 = u
  li : ∀ c ∈ LL, ∀ x ∈ c, ok.litIn (n : Int) x = true
/-- the clauses that are closed on a path -/
def Closed (Ss : List Nat) (pre : List Int) (X : Nat) : Prop := X < 2 ^ 128 ∧ ∀ i, X.testBit i = true ↔ i < Ss.length ∧ ∃ b, (Ss.getD i 0).testBit b = true ∧ wdB pre b = true
/-- the word of a path -/
def Word (pre : List Int) (P : Nat) : Prop := P < 2 ^ 48 ∧ ∀ b, P.testBit b = wdB pre b
theorem Right.lt {n : Nat} {LL : List (List Int)} {s : SV} (h : Right n LL s) {i : Nat} (hi : i < s.Ss.length) : s.Ss.getD i 0 < 2 ^ 48 := by
  have hm : s.Ss.getD i 0 ∈ s.Ss := by
    rw [show s.Ss.getD i 0 = s.Ss[i] by simp [hi]]
    exact List.getElem_mem hi
  rw [h.ss] at hm
  obtain ⟨L, _, e⟩ := List.mem_map.1 hm
  rw [h.ss, ← e]
  exact bset.setOf_lt L
theorem word_snoc {pre : List Int} {P : Nat} {x y : Int} (h : Word pre P) (ho : lits.okB y = true) (hp : placeN y = plc pre.length x) : Word (pre ++ [x]) (bset.withN P y) :=
  ⟨bset.withN_lt h.1 ho, fun b => by
    rw [bset.withN_bit, h.2, hp, km.wd_snoc]
    congr 1
    rw [Bool.eq_iff_iff, decide_eq_true_iff, decide_eq_true_iff]
    exact ⟨fun e => e.symm, fun e => e.symm⟩⟩
theorem closed_snoc {n : Nat} {LL : List (List Int)} {pre : List Int} {s : SV} {X p : Nat} {x : Int} (h : Right n LL s) (hm : s.Ss.length ≤ 120) (hX : Closed s.Ss pre X) (hp : p = plc pre.length x) : Closed s.Ss (pre ++ [x]) (X ||| s.H p) := by
  have hH : s.H p < 2 ^ 128 := by
    refine Nat.lt_of_lt_of_le (Nat.lt_pow_two_of_testBit (n := s.Ss.length) _ (fun i hi => ?_)) (Nat.pow_le_pow_right (by decide) (by omega))
    rw [h.hv, decide_eq_false (by omega), Bool.false_and]
  refine ⟨kc.or_lt hX.1 hH, fun i => ?_⟩
  rw [Nat.testBit_or, Bool.or_eq_true, hX.2, h.hv, Bool.and_eq_true, decide_eq_true_iff]
  constructor
  · rintro (⟨h1, b, h2, h3⟩ | ⟨h1, h2⟩)
    · exact ⟨h1, b, h2, km.wd_pre h3⟩
    · exact ⟨h1, p, h2, by rw [hp]; exact km.wd_last pre x []⟩
  · rintro ⟨h1, b, h2, h3⟩
    rw [km.wd_snoc, Bool.or_eq_true, decide_eq_true_iff] at h3
    rcases h3 with q | q
    · exact .inl ⟨h1, b, h2, q⟩
    · exact .inr ⟨h1, by rw [hp, ← q]; exact h2⟩
theorem toGrown {f : Nat} {args : Array Value} {w : World} {v : Value} (h : Calls Tryd.prog f args w fun e w' => e = .returned v ∧ w' = w) : Calls Tryd.prog f args w fun e w' => e = .returned v ∧ w.grownBy w' none :=
  h.mono fun e w' ⟨h1, h2⟩ => ⟨h1, by rw [h2]; exact grown_refl _⟩
end Go.Proofs.YtlpgnaedhijdpaaDoor.ks
