/- What the walk of FnPuzzles is told of Pigeon, of Color, and of Solve, Refute, Check and CountTrue at their formulas; its inner loops' mathematics. -/
import Derived.Test.YtfhmdpbnnieohaaDoorJXPe
import Derived.Test.YtfhmdpbnnieohaaDoorJXPb
import Derived.Test.YtfhmdpbnnieohaaDoorJPl
import Derived.Test.YtfhmdpbnnieohaaDoorJPx
import Derived.Test.YtfhmdpbnnieohaaDoorJXCu
namespace Go.Proofs.YtfhmdpbnnieohaaDoor.pz
open Go.RowKit
open css (Sls OwnS tot)
open ed (Eds)
open lq (solveL)
open wo (Made)
open sl (ints)
open Go.Proofs.YtfhmdpbnnieohaaDoor.t2
set_option linter.unusedVariables false
theorem small {R : List (List Int)} (h : tot R ≤ 1048576) : R.length ≤ 1048576 ∧ ∀ i, (R.getD i []).length ≤ 1048576 := ⟨Nat.le_trans (css.tot_len R) h, fun i => Nat.le_trans (css.tot_in R i) h⟩
structure PigT (j : Nat) (N : Int) (R Q : List (List Int)) (fine chk : Bool) : Prop where
 tR : tot R ≤ 1048576
 cp : ∀ w, Calls Tryd.prog 6 #[.int .i64 ((j : Int) + 1)] w fun e w' => ∃ u, e = .returned (.tuple #[.agg #[.int .i64 N, u], .bool true]) ∧ OwnS w.heap.size w'.heap.size w' u R ∧ w.grownBy w' none
 cs : ∀ w v, srt.Tab w → Sls w v R → Calls Tryd.prog 7 #[.agg #[.int .i64 N, v]] w fun e w' => ∃ r, e = .returned (.tuple #[r, .bool false]) ∧ Made w w' r []
 cr : ∀ w v, srt.Tab w → Sls w v R → Calls Tryd.prog 8 #[.agg #[.int .i64 N, v]] w fun e w' => ∃ r, e = .returned (.tuple #[r, .bool fine]) ∧ OwnS w.heap.size w'.heap.size w' r Q ∧ w.grownBy w' none
 ck : ∀ w v u, srt.Tab w → Sls w v R → Sls w u Q → Calls Tryd.prog 9 #[.agg #[.int .i64 N, v], u] w fun e w' => e = .returned (.bool chk) ∧ w.grownBy w' none
 yes : j < 2 → fine = true ∧ chk = true
theorem pigT (j : Nat) (hj : j < 3) : ∃ N R Q fine chk, PigT j N R Q fine chk := by
 have hn : j + 1 = 1 ∨ j + 1 = 2 ∨ j + 1 = 3 := by omega
 have hok := pig_ok hn
 have ht : tot (pigC (j + 1)) ≤ 1048576 := pig_tot (by omega) (by omega)
 have e1 : ((j + 1 : Nat) : Int) = (j : Int) + 1 := by omega
 have eN : (((j + 1 : Nat) : Int) + 1) * ((j + 1 : Nat) : Int) = (((j + 1 + 1) * (j + 1) : Nat) : Int) := by rw [Int.natCast_mul]; rfl
 have hw := xp.wlk_tot (((j + 1 + 1) * (j + 1) : Nat) : Int) (pigC (j + 1))
 rw [hok, if_pos rfl] at hw
 refine ⟨(((j + 1 + 1) * (j + 1) : Nat) : Int), pigC (j + 1), (xw.wlk (((j + 1 + 1) * (j + 1) : Nat) : Int) (pigC (j + 1)) 700 []).1, (xw.wlk (((j + 1 + 1) * (j + 1) : Nat) : Int) (pigC (j + 1)) 700 []).2, xe.checkB (((j + 1 + 1) * (j + 1) : Nat) : Int) (pigC (j + 1)) (xw.wlk (((j + 1 + 1) * (j + 1) : Nat) : Int) (pigC (j + 1)) 700 []).1, ht, fun w => ?_, fun w v hT hv => ?_, fun w v hT hv => ?_, fun w v u hT hv hu => ?_, fun h2 => ?_⟩
 ·have q := implPigeon (j + 1) w (by omega) (by omega)
  rw [eN, e1] at q
  exact q.mono fun e w' h => cnfE_of h
 ·have q := ks.implSolve v (((j + 1 + 1) * (j + 1) : Nat) : Int) (pigC (j + 1)) w hT ht hv
  rw [pig_none hn] at q
  exact q
 ·have q := xp.implRefute v (((j + 1 + 1) * (j + 1) : Nat) : Int) (pigC (j + 1)) w hT ht hv
  rw [hok, if_pos rfl] at q
  exact q
 ·exact xe.implCheck v u (((j + 1 + 1) * (j + 1) : Nat) : Int) (pigC (j + 1)) _ w hT ht (Nat.le_trans hw (by decide)) hv hu
 ·exact pig_ref (by omega)
structure ColS (m k E : Nat) (f : Nat → Int) (N : Int) (R : List (List Int)) : Prop where
 ends : ∀ i, i < E → ∃ a b : Nat, f (i * 2) = (a : Int) ∧ f (i * 2 + 1) = (b : Int) ∧ (1 ≤ a ∧ a ≤ m) ∧ (1 ≤ b ∧ b ≤ m)
 cs : ∀ w v, srt.Tab w → Sls w v R → Calls Tryd.prog 7 #[.agg #[.int .i64 N, v]] w fun e w' => ∃ r, e = .returned (.tuple #[r, .bool (decide (0 < (goods m k E f (k ^ m) : Int)))]) ∧ Made w w' r ((solveL N R []).getD [])
 cc : ¬ 12 < N → ∀ w v, Sls w v R → Calls Tryd.prog 14 #[.agg #[.int .i64 N, v]] w fun e w' => e = .returned (.int .i64 (goods m k E f (k ^ m) : Int)) ∧ w.grownBy w' none
theorem colS {n k : Int} {E : Nat} {f : Nat → Int} {N : Int} {R : List (List Int)} (h : ColT n k E f N R) (hR : tot R ≤ 1048576) (h5 : ¬ 5 < n) (h3 : ¬ 3 < k) :
  ∃ m j : Nat, n = (m : Int) ∧ k = (j : Int) ∧ (1 ≤ m ∧ m ≤ 5) ∧ (j = 1 ∨ j = 2 ∨ j = 3) ∧ ColS m j E f N R := by
 obtain ⟨m, j, rfl, rfl, m1, j1, rfl, h24, he, rfl, hc⟩ := h
 have hj : j = 1 ∨ j = 2 ∨ j = 3 := by omega
 have ht := col_told hj h24 he hc
 refine ⟨m, j, rfl, rfl, by omega, hj, fun i hi => ?_, fun w v hT hv => ?_, fun h12 w v hv => ?_⟩
 ·have hb := edsB_at hi he
  unfold t2.edB at hb
  obtain ⟨a0, a1, b0, b1, _⟩ := of_decide_eq_true hb
  obtain ⟨a, ha⟩ := Int.eq_ofNat_of_zero_le (show 0 ≤ f (i * 2) by omega)
  obtain ⟨b, hb⟩ := Int.eq_ofNat_of_zero_le (show 0 ≤ f (i * 2 + 1) by omega)
  exact ⟨a, b, ha, hb, by omega, by omega⟩
 ·have q := ks.implSolve v ((m * j : Nat) : Int) (colC m j E f) w hT hR hv
  have e : (solveL ((m * j : Nat) : Int) (colC m j E f) []).isSome = decide (0 < (goods m j E f (j ^ m) : Int)) := by
   rw [ht.1]
   exact decide_eq_decide.2 (by omega)
  refine q.mono fun e' w' h => ?_
  obtain ⟨r, h1, h2⟩ := h
  rw [e] at h1
  exact ⟨r, h1, h2⟩
 ·have q := cu.implCountTrue v ((m * j : Nat) : Int) (colC m j E f) w hR hv
  rw [ht.2 (by omega)] at q
  exact q
def Dig (k m c i x : Nat) (P : List Nat) : Prop := P.length = i ∧ P ++ dg k (m - i) x = dg k m c
theorem Dig.start (k m c : Nat) : Dig k m c 0 c [] := ⟨rfl, rfl⟩
theorem Dig.step {k m c i x : Nat} {P : List Nat} (h : Dig k m c i x P) (hi : i < m) : Dig k m c (i + 1) (x / k) (P ++ [x % k]) := by
 obtain ⟨h1, h2⟩ := h
 refine ⟨by rw [List.length_append, h1]; rfl, ?_⟩
 rw [← h2, show m - i = (m - (i + 1)) + 1 by omega, dg, List.append_assoc]
 rfl
theorem Dig.done {k m c x : Nat} {P : List Nat} (h : Dig k m c m x P) : P = dg k m c := by
 have := h.2
 rw [Nat.sub_self] at this
 show P = _
 rw [← this]
 exact (List.append_nil P).symm
def nums (P : List Nat) : List Int := P.map fun (x : Nat) => (x : Int)
theorem nums_snoc (P : List Nat) (x : Nat) : nums (P ++ [x]) = nums P ++ [(x : Int)] := by unfold nums; rw [List.map_append]; rfl
theorem nums_len (P : List Nat) : (nums P).length = P.length := by unfold nums; rw [List.length_map]
theorem nums_at (P : List Nat) (i : Nat) (h : i < P.length) : (nums P).getD i 0 = (P.getD i 0 : Int) := by
 unfold nums
 simp [h]
def OfA (w : World) (v : Value) (P : List Nat) : Prop := ∃ b c, v = .slice (some ⟨b, 0, none⟩) P.length c ∧ ∀ i, i < P.length → w.cell? ⟨b, i, none⟩ = some (.int .i64 (P.getD i 0 : Int))
theorem ofA_of {w wx : World} {v : Value} {P : List Nat} (h : Made w wx v (nums P)) (hP : 0 < P.length) : OfA wx v P := by
 have ho := h.1
 have hl := nums_len P
 have hat := nums_at P
 generalize nums P = M at *
 rw [← hl] at hP
 unfold OfA
 rw [← hl]
 rw [← hl] at hat
 obtain ⟨_, h2⟩ := ho
 rcases h2 with ⟨_, h0⟩ | ⟨g, cap, cur, rfl, hg, hh, _⟩
 ·omega
 ·refine ⟨g, cap, rfl, fun i hi => ?_⟩
  have := h.1.cellAt i (by omega)
  rw [this, ← hat i hi]
  simp [sl.ints, hi]
theorem made_one (w : World) : Made w (w.alloc (.cells #[.int .i64 0] 3)) (.slice (some ⟨w.heap.size, 0, none⟩) 1 1) (nums [0]) :=
 ⟨draw.own_alloc w [0] (by decide), World.grownBy_alloc ..⟩
theorem good_next (f : Nat → Int) (E a b : Nat) (l : List Nat) (ha : f (E * 2) = (a : Int)) (hb : f (E * 2 + 1) = (b : Int)) : goodB f (E + 1) l = (goodB f E l && !(decide ((0 :: l).getD a 0 = (0 :: l).getD b 0))) := by
 rw [goodB_step, ha, hb]
 rfl
end Go.Proofs.YtfhmdpbnnieohaaDoor.pz
