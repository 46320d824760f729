/- Slices of slices of integers in memory, as the walks here speak of them, and what the small helpers on them (a size, a copy, an equality, marks) do; no condition but that the lists together have at most 2^20 elements. -/
import Derived.Test.YtcgiphcfjhbonaaGreatDoorJXSl
namespace Go.Proofs.YtcgiphcfjhbonaaGreatDoor.css
open Go.ChangeShapes Go.WideShapes Go.ChangeAt Go.RowKit
open sl (Sl Own ints hide unhide ret_int ret_bool grown_refl grown_trans grown_drewN below_of of_below)
set_option linter.unusedVariables false
def Sls (w : World) (v : Value) (LL : List (List Int)) : Prop :=
 ∃ a cap, v = .slice a LL.length cap ∧ (LL = [] ∨ ∃ b off, a = some ⟨b, off, none⟩ ∧ b < w.heap.size ∧ ∀ i, i < LL.length → ∃ u, w.cell? ⟨b, off + i, none⟩ = some u ∧ Sl w u (LL.getD i []))
theorem Sls.kept {w w' : World} {v : Value} {LL : List (List Int)} (h : Sls w v LL) (g : w.grownBy w' none) : Sls w' v LL := by
 obtain ⟨a, cap, rfl, h⟩ := h
 refine ⟨a, cap, rfl, ?_⟩
 rcases h with h | ⟨b, off, rfl, hb, hc⟩
 ·exact .inl h
 ·refine .inr ⟨b, off, rfl, Nat.lt_of_lt_of_le hb g.size, fun i hi => ?_⟩
  obtain ⟨u, hu, hs⟩ := hc i hi
  exact ⟨u, g.cell hu (fun e => by cases e), hs.kept g (.inl rfl)⟩
def Apart (a b : Value × List Int) : Prop := ∀ g, a.1.ownBlock = some g → b.1.ownBlock ≠ some g
def OwnS (lo hi : Nat) (w : World) (v : Value) (LL : List (List Int)) : Prop :=
 ∃ D : List (Value × List Int), D.map (·.2) = LL ∧ w.ownsRow lo 43 1 v D.length (D.map (·.1)) ∧ (∀ k, v.ownBlock = some k → k < hi) ∧ (∀ p ∈ D, Own lo hi w p.1 p.2) ∧ D.Pairwise Apart
structure Outs (lo hi : Nat) (w w' : World) : Prop where
 os : w'.os = w.os
 tape : w'.tape = w.tape
 output : w'.output = w.output
 size : w.heap.size ≤ w'.heap.size
 block : ∀ k, k < w.heap.size → (k < lo ∨ hi ≤ k) → w'.heap[k]? = w.heap[k]?
theorem own_mono {w : World} {base base' : Nat} {e : TypeId} {size : Nat} {v : Value} {n : Nat} {xs : List Value} (h : w.ownsRow base e size v n xs) (hb : base' ≤ base) : w.ownsRow base' e size v n xs := by
 obtain ⟨h1, h2⟩ := h
 refine ⟨h1, ?_⟩
 rcases h2 with h2 | ⟨g, cap, cur, hv, hg, r⟩
 ·exact .inl h2
 ·exact .inr ⟨g, cap, cur, hv, Nat.le_trans hb hg, r⟩
theorem own_kind {w : World} {B : Nat} {e : TypeId} {size : Nat} {v : Value} {n : Nat} {xs : List Value} (h : w.ownsRow B e size v n xs) : ∀ g, v.ownBlock = some g → ∃ c fz, w.heap[g]? = some (.cells c e fz) := by
 intro g e'
 obtain ⟨_, h2⟩ := h
 rcases h2 with ⟨rfl, _⟩ | ⟨g', cap, cur, rfl, hg, hh, _⟩
 ·cases e'
 ·cases e'
  exact ⟨_, _, hh⟩
theorem types_ne : (43 : Nat) ≠ 3 := by decide
theorem own_ne {w : World} {lo lo' n n' : Nat} {v v' : Value} {xs xs' : List Value} (h : w.ownsRow lo 43 1 v n xs) (h' : w.ownsRow lo' 3 1 v' n' xs') : ∀ g, v'.ownBlock = some g → v.ownBlock ≠ some g := by
 intro g e e'
 obtain ⟨c, fz, hc⟩ := own_kind h g e'
 obtain ⟨c', fz', hc'⟩ := own_kind h' g e
 rw [hc] at hc'
 simp only [Option.some.injEq, Obj.cells.injEq] at hc'
 exact types_ne hc'.2.1
theorem own_ne' {w : World} {lo lo' n n' : Nat} {v v' : Value} {xs xs' : List Value} (h : w.ownsRow lo 43 1 v n xs) (h' : w.ownsRow lo' 3 1 v' n' xs') : v'.ownBlock = none ∨ v'.ownBlock ≠ v.ownBlock := by
 cases e : v'.ownBlock with
 | none => exact .inl rfl
 | some g => exact .inr (fun e' => own_ne h h' g e e'.symm)
theorem own_sub {lo lo' hi hi' : Nat} {w : World} {v : Value} {L : List Int} (h : Own lo hi w v L) (a : lo' ≤ lo) (b : hi ≤ hi') : Own lo' hi' w v L :=
 ⟨own_mono h.1 a, fun k e => Nat.lt_of_lt_of_le (h.2 k e) b⟩
theorem OwnS.sub {lo lo' hi hi' : Nat} {w : World} {v : Value} {LL : List (List Int)} (h : OwnS lo hi w v LL) (a : lo' ≤ lo) (b : hi ≤ hi') : OwnS lo' hi' w v LL := by
 obtain ⟨D, e, ho, hb, hi, hp⟩ := h
 exact ⟨D, e, own_mono ho a, fun k e => Nat.lt_of_lt_of_le (hb k e) b, fun p hp => own_sub (hi p hp) a b, hp⟩
theorem OwnS.kept {lo hi : Nat} {w w' : World} {v : Value} {LL : List (List Int)} (h : OwnS lo hi w v LL) (g : w.grownBy w' none) : OwnS lo hi w' v LL := by
 obtain ⟨D, e, ho, hb, hi, hp⟩ := h
 refine ⟨D, e, ho.kept g ?_, hb, fun p hp => (hi p hp).kept g, hp⟩
 cases v.ownBlock with
 | none => exact .inl rfl
 | some k => exact .inr (fun e => by cases e)
theorem map2_getD {D : List (Value × List Int)} {i : Nat} (h : i < D.length) : (D.map (·.2)).getD i [] = D[i].2 := by simp [h]
theorem OwnS.sls {lo hi : Nat} {w : World} {v : Value} {LL : List (List Int)} (h : OwnS lo hi w v LL) : Sls w v LL := by
 obtain ⟨D, rfl, ho, hb, hi, hp⟩ := h
 have ho' := ho
 obtain ⟨_, h2⟩ := ho
 rcases h2 with ⟨rfl, h0⟩ | ⟨g, cap, cur, rfl, hg, hh, hn, hm, hs, ht⟩
 ·have : D = [] := List.eq_nil_of_length_eq_zero h0
  subst this
  exact ⟨none, 0, rfl, .inl rfl⟩
 ·refine ⟨some ⟨g, 0, none⟩, cap, by rw [List.length_map], .inr ⟨g, 0, rfl, (Array.getElem?_eq_some_iff.1 hh).1, fun i hi' => ?_⟩⟩
  rw [List.length_map] at hi'
  refine ⟨D[i].1, ?_, ?_⟩
  ·rw [Nat.zero_add, ho'.cellAt i (by omega)]
   simp [hi']
  ·rw [map2_getD hi']
   exact (hi _ (List.getElem_mem hi')).sl
theorem OwnS.len {lo hi : Nat} {w : World} {v : Value} {LL : List (List Int)} (h : OwnS lo hi w v LL) : ∃ a cap, v = .slice a LL.length cap := by
 obtain ⟨a, cap, e, _⟩ := h.sls
 exact ⟨a, cap, e⟩
theorem infoSl : (Tryz.prog.info? 43).map (fun i => (i.zero, i.size, i.bytes)) = some (some (.slice none 0 0), 1, 24) := by kernel_rfl
def Mid (w wr : World) (n : Nat) (LL : List (List Int)) : Prop :=
 ∃ D : List (Value × List Int), D.map (·.2) = LL ∧ wr.ownsRow w.heap.size 43 1 (.slice (some ⟨w.heap.size, 0, none⟩) n n) n (D.map (·.1) ++ List.replicate (n - D.length) (.slice none 0 0)) ∧ (∀ p ∈ D, Own w.heap.size wr.heap.size wr p.1 p.2) ∧ D.Pairwise Apart ∧ w.grownBy wr none
theorem Mid.start {w w1 : World} {n : Nat} (ho : w1.ownsRow w.heap.size 43 1 (.slice (some ⟨w.heap.size, 0, none⟩) n n) n (madeCells #[Value.slice none 0 0] n).toList) (g : w.grownBy w1 none) : Mid w w1 n [] := by
 refine ⟨[], rfl, ?_, (fun p hp => by cases hp), .nil, g⟩
 have e : (madeCells #[Value.slice none 0 0] n).toList = List.replicate n (.slice none 0 0) := by rw [toList_madeCells_one]
 rw [e] at ho
 simpa using ho
theorem Mid.grown {w wr : World} {n : Nat} {LL : List (List Int)} (h : Mid w wr n LL) : w.grownBy wr none := by
 obtain ⟨D, _, _, _, _, g⟩ := h
 exact g
theorem Mid.cell {w wr w1 : World} {n : Nat} {LL : List (List Int)} (h : Mid w wr n LL) (hk : LL.length < n) (g : wr.grownBy w1 none) :
  (∃ x, w1.cell? ⟨w.heap.size, LL.length, none⟩ = some x) ∧ w1.frozen? ⟨w.heap.size, LL.length, none⟩ = false := by
 obtain ⟨D, rfl, ho, hi, hp, hg⟩ := h
 have ho1 := ho.kept g (.inr (fun e => by cases e))
 refine ⟨?_, ho1.frozenAt _⟩
 rw [List.length_map] at *
 rw [ho1.cellAt _ (by omega)]
 exact ⟨_, List.getElem?_eq_getElem (by simp; omega)⟩
theorem Mid.step {w wr w1 : World} {n : Nat} {LL : List (List Int)} {u : Value} {L : List Int} (h : Mid w wr n LL) (hk : LL.length < n) (g : wr.grownBy w1 none) (hu : w1.ownsRow wr.heap.size 3 1 u L.length (ints L)) :
  Mid w (w1.setCell ⟨w.heap.size, LL.length, none⟩ u) n (LL ++ [L]) := by
 obtain ⟨D, rfl, ho, hi, hp, hg⟩ := h
 rw [List.length_map] at *
 have ho1 := ho.kept g (.inr (fun e => by cases e))
 have st := sl.grown_setCell w1 w.heap.size D.length u
 have hsz := g.size
 have hlt := (ho.lt w.heap.size rfl).2
 refine ⟨D ++ [(u, L)], by simp, ?_, ?_, ?_, ?_⟩
 ·have e : (D ++ [(u, L)]).map (fun p : Value × List Int => p.1) ++ List.replicate (n - (D ++ [(u, L)]).length) (Value.slice none 0 0) = (D.map (fun p : Value × List Int => p.1) ++ List.replicate (n - D.length) (Value.slice none 0 0)).set D.length u := by
   have e1 : n - D.length = (n - (D.length + 1)) + 1 := by omega
   rw [e1, List.replicate_succ, List.set_append_right _ _ (by rw [List.length_map]; exact Nat.le_refl _)]
   simp
  rw [e]
  exact (ho1.stored D.length u).1
 ·intro p hp'
  rw [List.mem_append, List.mem_singleton] at hp'
  have sz : (w1.setCell ⟨w.heap.size, D.length, none⟩ u).heap.size = w1.heap.size := by simp [World.setCell]
  rw [sz]
  rcases hp' with hp' | rfl
  ·have k := (hi p hp').kept g
   refine ⟨k.1.kept st ?_, fun k' e => Nat.lt_of_lt_of_le ((hi p hp').2 k' e) hsz⟩
   have := own_ne' ho1 k.1
   exact this
  ·refine ⟨(own_mono hu (by omega)).kept st ?_, fun k e => (hu.lt k e).2⟩
   cases e : u.ownBlock with
   | none => exact .inl rfl
   | some k => exact .inr (fun e' => by cases e'; have := (hu.lt _ e).1; omega)
 ·rw [List.pairwise_append]
  refine ⟨hp, List.pairwise_singleton _ _, fun a ha b hb => ?_⟩
  rw [List.mem_singleton] at hb
  subst hb
  intro k e e'
  have h1 := (hi a ha).2 k e
  have h2 := (hu.lt k e').1
  omega
 ·exact ⟨st.os.trans (g.os.trans hg.os), st.tape.trans (g.tape.trans hg.tape), st.output.trans (g.output.trans hg.output), Nat.le_trans hg.size (Nat.le_trans hsz st.size), fun k hk _ => by
   rw [st.block k (by have := hg.size; omega) (by intro e; cases e; omega), g.block k (by have := hg.size; omega) (fun e => by cases e), hg.block k hk (fun e => by cases e)]⟩
theorem Mid.done {w wr : World} {n : Nat} {LL : List (List Int)} (h : Mid w wr n LL) (hn : LL.length = n) : OwnS w.heap.size wr.heap.size wr (.slice (some ⟨w.heap.size, 0, none⟩) n n) LL ∧ w.grownBy wr none := by
 obtain ⟨D, rfl, ho, hi, hp, hg⟩ := h
 rw [List.length_map] at hn
 subst hn
 refine ⟨⟨D, rfl, by simpa using ho, fun k e => ?_, hi, hp⟩, hg⟩
 exact (ho.lt k e).2
theorem take_snoc (LL : List (List Int)) (k : Nat) (h : k < LL.length) : LL.take (k + 1) = LL.take k ++ [LL.getD k []] := by
 rw [List.take_succ_eq_append_getElem h]
 simp [h]
def tot (LL : List (List Int)) : Nat := LL.length + (LL.map List.length).sum
theorem tot_len (LL : List (List Int)) : LL.length ≤ tot LL := Nat.le_add_right _ _
theorem sum_in (l : List (List Int)) (i : Nat) : (l.getD i []).length ≤ (l.map List.length).sum := by
 induction l generalizing i with
 | nil => simp
 | cons x l ih =>
  cases i with
  | zero => simp
  | succ i =>
   have := ih i
   simp at *
   omega
theorem tot_in (LL : List (List Int)) (i : Nat) : (LL.getD i []).length ≤ tot LL := Nat.le_trans (sum_in LL i) (Nat.le_add_left _ _)
end Go.Proofs.YtcgiphcfjhbonaaGreatDoor.css
