/- A formula of the call's own that is written in place, literal by literal; a copy of one; no condition but on sizes. -/
import Derived.Test.YtibpnocpafppaaaDoorJXApp
import Derived.Test.YtibpnocpafppaaaDoorJXGr
import Derived.Deep.RegionHeld3
import Derived.Test.YtibpnocpafppaaaDoorJXOk
import Derived.Test.YtibpnocpafppaaaDoorJHc
namespace Go.Proofs.YtibpnocpafppaaaDoor.ge
open Go.ChangeShapes Go.WideShapes Go.ChangeAt Go.RowKit
open cf (Box)
open ok (cnfB)
open css (Sls OwnS tot Apart own_ne own_ne' own_kind own_mono)
open sl (Sl Own ints hide unhide ret_int ret_bool grown_refl grown_trans)
set_option linter.unusedVariables false
def OwnD (lo hi : Nat) (w : World) (v : Value) (D : List (Value × List Int)) : Prop :=
 w.ownsRow lo 31 1 v D.length (D.map (·.1)) ∧ (∀ k, v.ownBlock = some k → k < hi) ∧ (∀ p ∈ D, Own lo hi w p.1 p.2) ∧ D.Pairwise Apart
theorem OwnD.of {lo hi : Nat} {w : World} {v : Value} {LL : List (List Int)} (h : OwnS lo hi w v LL) : ∃ D, D.map (·.2) = LL ∧ OwnD lo hi w v D := by
 obtain ⟨D, e, h1, h2, h3, h4⟩ := h
 exact ⟨D, e, h1, h2, h3, h4⟩
theorem OwnD.to {lo hi : Nat} {w : World} {v : Value} {D : List (Value × List Int)} (h : OwnD lo hi w v D) : OwnS lo hi w v (D.map (·.2)) := by
 obtain ⟨h1, h2, h3, h4⟩ := h
 exact ⟨D, rfl, h1, h2, h3, h4⟩
theorem ints_set (L : List Int) (j : Nat) (y : Int) : (ints L).set j (.int .i64 y) = ints (L.set j y) := by
 unfold ints
 rw [List.map_set]
theorem map_set1 (D : List (Value × List Int)) (k : Nat) (h : k < D.length) (L : List Int) : (D.set k (D[k].1, L)).map (fun p : Value × List Int => p.1) = D.map (fun p : Value × List Int => p.1) := by
 rw [List.map_set]
 apply List.ext_getElem
 ·simp
 ·intro i h1 h2
  rw [List.getElem_set]
  split
  ·rename_i e
   subst e
   simp
  ·rfl
theorem map_set2 (D : List (Value × List Int)) (k : Nat) (p : Value × List Int) : (D.set k p).map (fun p : Value × List Int => p.2) = (D.map (fun p : Value × List Int => p.2)).set k p.2 := by
 rw [List.map_set]
theorem pair_set {D : List (Value × List Int)} {k : Nat} (h : k < D.length) (L : List Int) (hp : D.Pairwise Apart) : (D.set k (D[k].1, L)).Pairwise Apart := by
 rw [List.pairwise_iff_getElem] at hp ⊢
 intro i j hi hj hij
 simp only [List.length_set] at hi hj
 have e : ∀ (i : Nat) (hi : i < D.length), ((D.set k (D[k].1, L))[i]'(by simpa using hi)).1 = D[i].1 := by
  intro i hi
  rw [List.getElem_set]
  split
  ·rename_i e
   subst e
   rfl
  ·rfl
 intro g
 rw [e i hi, e j hj]
 exact hp i j hi hj hij g
theorem OwnD.put {lo hi g cap : Nat} {w : World} {v : Value} {D : List (Value × List Int)} {k j : Nat} (h : OwnD lo hi w v D) (hk : k < D.length) (hu : D[k].1 = .slice (some ⟨g, 0, none⟩) D[k].2.length cap) (hj : j < D[k].2.length) (y : Int) :
  (w.cell? ⟨g, j, none⟩ = some (.int .i64 (D[k].2.getD j 0)) ∧ w.frozen? ⟨g, j, none⟩ = false ∧ lo ≤ g ∧ g < hi ∧ (∃ c fz, w.heap[g]? = some (.cells c 3 fz))) ∧ OwnD lo hi (w.setCell ⟨g, j, none⟩ (.int .i64 y)) v (D.set k (D[k].1, D[k].2.set j y)) := by
 obtain ⟨h1, h2, h3, h4⟩ := h
 have hm := h3 _ (List.getElem_mem hk)
 have ho := hm.1
 have hb : D[k].1.ownBlock = some g := by rw [hu]; rfl
 have gl := ho.lt g hb
 have gset := sl.grown_setCell w g j (.int .i64 y)
 have ho2 := ho
 rw [hu] at ho2
 have hc := ho2.cellAt j (by omega)
 have hf := ho2.frozenAt j
 have st := (ho2.stored j (.int .i64 y)).1
 refine ⟨⟨?_, hf, gl.1, hm.2 g hb, own_kind ho g hb⟩, ?_, h2, ?_, pair_set hk _ h4⟩
 ·rw [hc]
  simp [ints, hj]
 ·rw [map_set1 D k hk, List.length_set]
  refine h1.kept gset ?_
  cases e : v.ownBlock with
  | none => exact .inl rfl
  | some q => exact .inr (fun e' => own_ne h1 ho g hb (e.trans e'))
 ·intro p hp
  obtain ⟨i, hi', e⟩ := List.getElem_of_mem hp
  simp only [List.length_set] at hi'
  rw [List.getElem_set] at e
  split at e
  ·subst e
   refine ⟨?_, hm.2⟩
   show World.ownsRow _ lo 3 1 D[k].1 (D[k].2.set j y).length (ints (D[k].2.set j y))
   rw [← ints_set, List.length_set, hu]
   exact st
  ·rename_i hne
   subst e
   have hp2 := h3 _ (List.getElem_mem hi')
   refine ⟨hp2.1.kept gset ?_, hp2.2⟩
   cases e : D[i].1.ownBlock with
   | none => exact .inl rfl
   | some q =>
    refine .inr (fun e' => ?_)
    cases e'
    rw [List.pairwise_iff_getElem] at h4
    rcases Nat.lt_or_gt_of_ne hne with hlt | hlt
    ·exact h4 k i hk hi' hlt g hb e
    ·exact h4 i k hi' hk hlt g e hb
structure Ex (W wr : World) (c r : Nat) (n : Int) (v : Value) (U : List Value) (MM : List (List Int)) : Prop where
 g : W.grownBy wr none
 lc : W.heap.size ≤ c
 lr : W.heap.size ≤ r
 ne : r ≠ c
 b : Box 26 wr c (.int .i64 n) v
 br : Box 26 wr r (.int .i64 0) (.slice none 0 0)
 o : ∃ D : List (Value × List Int), D.map (·.1) = U ∧ D.map (·.2) = MM ∧ OwnD W.heap.size wr.heap.size wr v D
theorem Ex.row {W wr : World} {c r : Nat} {n : Int} {v : Value} {U : List Value} {MM : List (List Int)} (h : Ex W wr c r n v U MM) (k : Nat) (hk : k < MM.length) :
  ∃ b cap u, v = .slice (some ⟨b, 0, none⟩) MM.length cap ∧ wr.cell? ⟨b, k, none⟩ = some u ∧ U[k]? = some u ∧ ∃ a ca, u = .slice a (MM.getD k []).length ca := by
 obtain ⟨D, rfl, rfl, h1, h2, h3, h4⟩ := h.o
 rw [List.length_map] at hk
 have h1' := h1
 obtain ⟨_, h5⟩ := h1
 rcases h5 with ⟨rfl, h0⟩ | ⟨b, cap, cur, rfl, hg, hh, _⟩
 ·omega
 ·refine ⟨b, cap, D[k].1, by rw [List.length_map], ?_, by simp [hk], ?_⟩
  ·rw [h1'.cellAt k (by omega)]
   simp [hk]
  ·rw [css.map2_getD hk]
   obtain ⟨a, ca, e, _⟩ := (h3 _ (List.getElem_mem hk)).sl
   exact ⟨a, ca, e⟩
theorem Ex.put {W wr : World} {c r : Nat} {n : Int} {v : Value} {U : List Value} {MM : List (List Int)} (h : Ex W wr c r n v U MM) (k j : Nat) (hk : k < MM.length) (hj : j < (MM.getD k []).length) (u : Value) (hu : U[k]? = some u) :
  ∃ g cap, u = .slice (some ⟨g, 0, none⟩) (MM.getD k []).length cap ∧ wr.cell? ⟨g, j, none⟩ = some (.int .i64 ((MM.getD k []).getD j 0)) ∧ wr.frozen? ⟨g, j, none⟩ = false ∧ ∀ y : Int, Ex W (wr.setCell ⟨g, j, none⟩ (.int .i64 y)) c r n v U (MM.set k ((MM.getD k []).set j y)) := by
 obtain ⟨D, rfl, rfl, hD⟩ := h.o
 have hD0 := hD
 obtain ⟨h1, h2, h3, h4⟩ := hD
 rw [List.length_map] at hk
 rw [css.map2_getD hk] at hj ⊢
 have hu' : D[k].1 = u := by simpa [hk] using hu
 have ho := (h3 _ (List.getElem_mem hk)).1
 have ho' := ho
 obtain ⟨_, h5⟩ := ho
 rcases h5 with ⟨_, h0⟩ | ⟨g, cap, cur, e, _⟩
 ·omega
 ·have P := fun y => hD0.put hk e hj y
  obtain ⟨⟨c1, f1, l1, l2, ⟨cs, fz, hc⟩⟩, _⟩ := P 0
  have nb : ∀ c x y, Box 26 wr c x y → g ≠ c := by
   rintro c x y hb rfl
   unfold Box at hb
   rw [hb] at hc
   simp only [Option.some.injEq, Obj.cells.injEq] at hc
   exact gr.ty2 hc.2.1
  refine ⟨g, cap, by rw [← hu', e], c1, f1, fun y => ⟨cf.grown_set h.g l1, h.lc, h.lr, h.ne, h.b.setO (nb _ _ _ h.b), h.br.setO (nb _ _ _ h.br), D.set k (D[k].1, D[k].2.set j y), map_set1 D k hk _, map_set2 .., ?_⟩⟩
  rw [cf.size_set]
  exact (P y).2
end Go.Proofs.YtibpnocpafppaaaDoor.ge
