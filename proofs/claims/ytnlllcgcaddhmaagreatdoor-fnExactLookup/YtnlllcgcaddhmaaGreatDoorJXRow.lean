/- How a formula that came in is opened (the numbers, the slices and what they lead to); no condition. -/
import Derived.Test.YtnlllcgcaddhmaaGreatDoorJOn
import Derived.Deep.DeepCutAuto
import Derived.Deep.RegionWith
import Derived.Deep.Cut
import Derived.Deep.Matrix
namespace Go.Proofs.YtnlllcgcaddhmaaGreatDoor.row
open Go.ChangeShapes Go.WideShapes Go.ChangeAt Go.RowKit
open sl (Sl)
open css (Sls)
set_option linter.unusedVariables false
def IsRows (w : World) (v : Value) (LL : List (List Int)) : Prop := Sls w v LL ∧ LL.length ≤ 9223372036854775807 ∧ ∀ i, (LL.getD i []).length ≤ 9223372036854775807
theorem cellsSl : Tryz.prog.cellsOf 34 = 1 := by kernel_rfl
theorem cellsI : Tryz.prog.cellsOf 3 = 1 := by kernel_rfl
theorem cellsSs : Tryz.prog.cellsOf 24 = 1 := by kernel_rfl
theorem cellsC : Tryz.prog.cellsOf 48 = 2 := by kernel_rfl
theorem open_rows {H : Type} {enc : TypeId × Value → H} {w : World} {fuel : Nat} {cs : List Value} {x : DataW H × List MemPlace} (h : DataW.trod enc Tryz.prog w 0 (fun _ => true) true fuel 24 cs = some x) :
  ∃ v LL, cs = [v] ∧ IsRows w v LL := by
 rcases Go.Deep.open_int_rows Tryz.underlying24 Tryz.underlying34 Tryz.underlying3 cellsSl cellsI h with ⟨rfl, _⟩ | ⟨a, len, cap, A, L, C, Z, rfl, _, hl, hm, _, hr⟩
 ·exact ⟨_, [], rfl, ⟨none, 0, rfl, .inl rfl⟩, by simp, by simp⟩
 ·have each : ∀ r, r < len → ∃ M : List Int, M.length = L r ∧ Sl w (.slice (A r) (L r) (C r)) M := by
   intro r hrl
   obtain ⟨_, h1, h2, h3, h4, h5, h6⟩ := hr r (by omega)
   have : ∃ M : List Int, M.length = L r ∧ Sl w (.slice (A r) (L r) (C r)) M ∧ (∀ n ∈ M, (Lit.int .i64 n).wf = true) := by
    refine sl.of_row (zs := Z r) ?_
    cases hA : A r with
    | none =>
     have := h5 hA
     exact .inl ⟨rfl, by omega, this, List.eq_nil_of_length_eq_zero (by omega)⟩
    | some a' => exact .inr ⟨a', rfl, h1, h2, h3, fun i hi => (h6 a' hA).2 i (by omega), h4⟩
   obtain ⟨M, hM, hs, _⟩ := this
   exact ⟨M, hM, hs⟩
  obtain ⟨f, hf⟩ := Go.Deep.choose_lt each
  have hg : ∀ i, i < len → ((List.range len).map f).getD i [] = f i := fun i hi => by simp [hi]
  unfold maxLen at hm
  refine ⟨_, (List.range len).map f, rfl, ⟨some a, cap, by simp, ?_⟩, by simp; omega, fun i => ?_⟩
  ·by_cases h0 : len = 0
   ·exact .inl (by rw [h0]; rfl)
   ·obtain ⟨b, off, spot⟩ := a
    have c0 := (hr 0 (by omega)).1
    have hs : spot = none := by simpa [Addr.add] using World.cell?_spot c0
    subst hs
    refine .inr ⟨b, off, rfl, World.block_lt_of_cell? w _ c0, fun i hi => ?_⟩
    have hi' : i < len := by simpa using hi
    have c := (hr i (by omega)).1
    rw [Addr.add_lit] at c
    exact ⟨_, c, by rw [hg i hi']; exact (hf i hi').2⟩
  ·by_cases hi : i < len
   ·rw [hg i hi, (hf i hi).1]
    have := (hr i (by omega)).2
    unfold maxLen at this
    omega
   ·have e : ((List.range len).map f).getD i [] = [] := by simp [hi]
    rw [e]
    simp
set_option maxRecDepth 100000 in
theorem open_cnf {H : Type} {enc : TypeId × Value → H} {w : World} {fuel : Nat} {cs : List Value} {x : DataW H × List MemPlace} (h : DataW.trod enc Tryz.prog w 0 (fun _ => true) true fuel 48 cs = some x) :
  ∃ n v LL, cs = [.int .i64 n, v] ∧ (Lit.int .i64 n).wf = true ∧ IsRows w v LL := by
 obtain ⟨xs, m, rfl, rfl, hl, hx, hf⟩ := DataW.trod_struct Tryz.underlying48 h
 rw [cellsC] at hl
 match cs, hl with
 | [a, b], _ =>
  have h0 : DataW.trod enc Tryz.prog w 0 (fun _ => true) true m 3 ((([a, b] : List Value).drop 0).take (Tryz.prog.cellsOf 3)) = xs[0]? := hf 0 _ rfl
  have h1 : DataW.trod enc Tryz.prog w 0 (fun _ => true) true m 24 ((([a, b] : List Value).drop 1).take (Tryz.prog.cellsOf 24)) = xs[1]? := hf 1 _ rfl
  rw [cellsI] at h0
  rw [cellsSs] at h1
  simp only [List.drop_zero, List.drop_succ_cons, List.take_succ_cons, List.take_zero] at h0 h1
  have hx' : xs.length = 2 := hx
  rw [List.getElem?_eq_getElem (by omega)] at h0 h1
  obtain ⟨n, e, _, hw⟩ := DataW.trod_int Tryz.underlying3 h0
  obtain ⟨v, LL, e', hv⟩ := open_rows h1
  simp only [List.cons.injEq, and_true] at e e'
  subst e e'
  exact ⟨n, _, LL, rfl, hw, hv⟩
end Go.Proofs.YtnlllcgcaddhmaaGreatDoor.row
