/- How a formula that came in is opened (the numbers, the slices and what they lead to); no condition. -/
import Derived.Test.YtmmmldcnadidkaaCf
import Derived.Deep.DeepCutAuto
import Derived.Deep.RegionWith
import Derived.Deep.Cut
import Derived.Deep.Matrix
namespace Go.Proofs.Ytmmmldcnadidkaa.row
open Go.ChangeShapes Go.WideShapes Go.ChangeAt Go.RowKit
open Go.Proofs.Ytmmmldcnadidkaa.sl (Sl)
open Go.Proofs.Ytmmmldcnadidkaa.css (Sls)
set_option linter.unusedVariables false

/-- what the walk is told of a slice of slices that came in -/
def IsRows (w : World) (v : Value) (LL : List (List Int)) : Prop := Sls w v LL ∧ LL.length ≤ 9223372036854775807 ∧ ∀ i, (LL.getD i []).length ≤ 9223372036854775807

theorem cellsSl : Try.prog.cellsOf 35 = 1 := by kernel_rfl
theorem cellsI : Try.prog.cellsOf 3 = 1 := by kernel_rfl
theorem cellsSs : Try.prog.cellsOf 24 = 1 := by kernel_rfl
theorem open_rows {H : Type} {enc : TypeId × Value → H} {w : World} {fuel : Nat} {cs : List Value} {x : DataW H × List MemPlace} (h : DataW.trod enc Try.prog w 0 (fun _ => true) true fuel 24 cs = some x) :
    ∃ v LL, cs = [v] ∧ IsRows w v LL := by
  rcases Go.Deep.open_int_rows Try.underlying24 Try.underlying35 Try.underlying3 cellsSl cellsI h with ⟨rfl, _⟩ | ⟨a, len, cap, A, L, C, Z, rfl, _, hl, hm, _, hr⟩
  · exact ⟨_, [], rfl, ⟨none, 0, rfl, .inl rfl⟩, by simp, by simp⟩
  · have each : ∀ r, r < len → ∃ M : List Int, M.length = L r ∧ Sl w (.slice (A r) (L r) (C r)) M := by
      intro r hrl
      obtain ⟨_, h1, h2, h3, h4, h5, h6⟩ := hr r (by omega)
      have : ∃ M : List Int, M.length = L r ∧ Sl w (.slice (A r) (L r) (C r)) M ∧ (∀ n ∈ M, (Lit.int .i64 n).wf = true) := by
        refine sl.of_row (zs := Z r) ?_
        cases hA : A r with
        | none =>
          have := h5 hA
          exact .inl ⟨rfl, by omega, this, List.eq_nil_of_length_eq_zero (by omega)⟩
        | some a' => exact .inr ⟨a', rfl, h1, h2, h3, fun i hi => (h6 a' hA).2 i (by omega), h4⟩
      obtain ⟨M, hM, hs, _⟩ := this
      exact ⟨M, hM, hs⟩
    obtain ⟨f, hf⟩ := Go.Deep.choose_lt each
    have hg : ∀ i, i < len → ((List.range len).map f).getD i [] = f i := fun i hi => by simp [hi]
    unfold maxLen at hm
    refine ⟨_, (List.range len).map f, rfl, ⟨some a, cap, by simp, ?_⟩, by simp; omega, fun i => ?_⟩
    · by_cases h0 : len = 0
      · exact .inl (by rw [h0]; rfl)
      · obtain ⟨b, off, spot⟩ := a
        have c0 := (hr 0 (by omega)).1
        have hs : spot = none := by simpa [Addr.add] using World.cell?_spot c0
        subst hs
        refine .inr ⟨b, off, rfl, World.block_lt_of_cell? w _ c0, fun i hi => ?_⟩
        have hi' : i < len := by simpa using hi
        have c := (hr i (by omega)).1
        rw [Addr.add_lit] at c
        exact ⟨_, c, by rw [hg i hi']; exact (hf i hi').2⟩
    · by_cases hi : i < len
      · rw [hg i hi, (hf i hi).1]
        have := (hr i (by omega)).2
        unfold maxLen at this
        omega
      · have e : ((List.range len).map f).getD i [] = [] := by simp [hi]
        rw [e]
        simp

end Go.Proofs.Ytmmmldcnadidkaa.row
