/- Slices of slices of integers in memory, as the walks here speak of them, and what the small helpers on them (a size, a copy, an equality, marks) do; no condition but that the lists together have at most 2^20 elements. -/
import Derived.Test.YtfhmdpbnnieohaaDoorJXSl
import Derived.Laws.Rows
import Derived.Laws.ResultCell
import Derived.Test.YtfhmdpbnnieohaaDoorJXLits
import Derived.Deep.AppendLies
import Derived.Deep.RegionLaw
import Derived.Deep.DrawnRows
import Derived.Deep.DeepCutAuto
import Derived.Laws.MakeOwn
import Derived.Test.YtfhmdpbnnieohaaDoorJPc
import Derived.Laws.AppendOwnNone
import Derived.Deep.RegionHeld3
namespace Go.Proofs.YtfhmdpbnnieohaaDoor.css
open Go.ChangeShapes Go.WideShapes Go.ChangeAt Go.RowKit
open sl (Sl Own ints hide unhide ret_int ret_bool grown_refl grown_trans grown_drewN below_of of_below)
set_option linter.unusedVariables false
def Sls (w : World) (v : Value) (LL : List (List Int)) : Prop :=
 ∃ a cap, v = .slice a LL.length cap ∧ (LL = [] ∨ ∃ b off, a = some ⟨b, off, none⟩ ∧ b < w.heap.size ∧ ∀ i, i < LL.length → ∃ u, w.cell? ⟨b, off + i, none⟩ = some u ∧ Sl w u (LL.getD i []))
theorem Sls.kept {w w' : World} {v : Value} {LL : List (List Int)} (h : Sls w v LL) (g : w.grownBy w' none) : Sls w' v LL := by
 obtain ⟨a, cap, rfl, h⟩ := h
 refine ⟨a, cap, rfl, ?_⟩
 rcases h with h | ⟨b, off, rfl, hb, hc⟩
 ·exact .inl h
 ·refine .inr ⟨b, off, rfl, Nat.lt_of_lt_of_le hb g.size, fun i hi => ?_⟩
  obtain ⟨u, hu, hs⟩ := hc i hi
  exact ⟨u, g.cell hu (fun e => by cases e), hs.kept g (.inl rfl)⟩
def Apart (a b : Value × List Int) : Prop := ∀ g, a.1.ownBlock = some g → b.1.ownBlock ≠ some g
def OwnS (lo hi : Nat) (w : World) (v : Value) (LL : List (List Int)) : Prop :=
 ∃ D : List (Value × List Int), D.map (·.2) = LL ∧ w.ownsRow lo 30 1 v D.length (D.map (·.1)) ∧ (∀ k, v.ownBlock = some k → k < hi) ∧ (∀ p ∈ D, Own lo hi w p.1 p.2) ∧ D.Pairwise Apart
structure Outs (lo hi : Nat) (w w' : World) : Prop where
 os : w'.os = w.os
 tape : w'.tape = w.tape
 output : w'.output = w.output
 size : w.heap.size ≤ w'.heap.size
 block : ∀ k, k < w.heap.size → (k < lo ∨ hi ≤ k) → w'.heap[k]? = w.heap[k]?
theorem own_mono {w : World} {base base' : Nat} {e : TypeId} {size : Nat} {v : Value} {n : Nat} {xs : List Value} (h : w.ownsRow base e size v n xs) (hb : base' ≤ base) : w.ownsRow base' e size v n xs := by
 obtain ⟨h1, h2⟩ := h
 refine ⟨h1, ?_⟩
 rcases h2 with h2 | ⟨g, cap, cur, hv, hg, r⟩
 ·exact .inl h2
 ·exact .inr ⟨g, cap, cur, hv, Nat.le_trans hb hg, r⟩
theorem own_kind {w : World} {B : Nat} {e : TypeId} {size : Nat} {v : Value} {n : Nat} {xs : List Value} (h : w.ownsRow B e size v n xs) : ∀ g, v.ownBlock = some g → ∃ c fz, w.heap[g]? = some (.cells c e fz) := by
 intro g e'
 obtain ⟨_, h2⟩ := h
 rcases h2 with ⟨rfl, _⟩ | ⟨g', cap, cur, rfl, hg, hh, _⟩
 ·cases e'
 ·cases e'
  exact ⟨_, _, hh⟩
theorem types_ne : (30 : Nat) ≠ 3 := by decide
theorem own_ne {w : World} {lo lo' n n' : Nat} {v v' : Value} {xs xs' : List Value} (h : w.ownsRow lo 30 1 v n xs) (h' : w.ownsRow lo' 3 1 v' n' xs') : ∀ g, v'.ownBlock = some g → v.ownBlock ≠ some g := by
 intro g e e'
 obtain ⟨c, fz, hc⟩ := own_kind h g e'
 obtain ⟨c', fz', hc'⟩ := own_kind h' g e
 rw [hc] at hc'
 simp only [Option.some.injEq, Obj.cells.injEq] at hc'
 exact types_ne hc'.2.1
theorem own_ne' {w : World} {lo lo' n n' : Nat} {v v' : Value} {xs xs' : List Value} (h : w.ownsRow lo 30 1 v n xs) (h' : w.ownsRow lo' 3 1 v' n' xs') : v'.ownBlock = none ∨ v'.ownBlock ≠ v.ownBlock := by
 cases e : v'.ownBlock with
 | none => exact .inl rfl
 | some g => exact .inr (fun e' => own_ne h h' g e e'.symm)
theorem own_sub {lo lo' hi hi' : Nat} {w : World} {v : Value} {L : List Int} (h : Own lo hi w v L) (a : lo' ≤ lo) (b : hi ≤ hi') : Own lo' hi' w v L :=
 ⟨own_mono h.1 a, fun k e => Nat.lt_of_lt_of_le (h.2 k e) b⟩
theorem OwnS.sub {lo lo' hi hi' : Nat} {w : World} {v : Value} {LL : List (List Int)} (h : OwnS lo hi w v LL) (a : lo' ≤ lo) (b : hi ≤ hi') : OwnS lo' hi' w v LL := by
 obtain ⟨D, e, ho, hb, hi, hp⟩ := h
 exact ⟨D, e, own_mono ho a, fun k e => Nat.lt_of_lt_of_le (hb k e) b, fun p hp => own_sub (hi p hp) a b, hp⟩
theorem OwnS.kept {lo hi : Nat} {w w' : World} {v : Value} {LL : List (List Int)} (h : OwnS lo hi w v LL) (g : w.grownBy w' none) : OwnS lo hi w' v LL := by
 obtain ⟨D, e, ho, hb, hi, hp⟩ := h
 refine ⟨D, e, ho.kept g ?_, hb, fun p hp => (hi p hp).kept g, hp⟩
 cases v.ownBlock with
 | none => exact .inl rfl
 | some k => exact .inr (fun e => by cases e)
theorem row_outs {lo hi lo' hi' n : Nat} {t : TypeId} {w w' : World} {v : Value} {xs : List Value} (h : w.ownsRow lo t 1 v n xs) (hb : ∀ k, v.ownBlock = some k → k < hi) (g : Outs lo' hi' w w') (d : hi ≤ lo' ∨ hi' ≤ lo) : w'.ownsRow lo t 1 v n xs := by
 have h' := h
 obtain ⟨h1, h2⟩ := h
 refine ⟨h1, ?_⟩
 rcases h2 with h2 | ⟨b, cap, cur, rfl, hg, hh, r⟩
 ·exact .inl h2
 ·refine .inr ⟨b, cap, cur, rfl, hg, ?_, r⟩
  have l1 := h'.lt b rfl
  have l2 := hb b rfl
  rw [g.block b l1.2 (by omega)]
  exact hh
theorem own_outs {lo hi lo' hi' : Nat} {w w' : World} {v : Value} {L : List Int} (h : Own lo hi w v L) (g : Outs lo' hi' w w') (d : hi ≤ lo' ∨ hi' ≤ lo) : Own lo hi w' v L :=
 ⟨row_outs h.1 h.2 g d, h.2⟩
theorem OwnS.outs {lo hi lo' hi' : Nat} {w w' : World} {v : Value} {LL : List (List Int)} (h : OwnS lo hi w v LL) (g : Outs lo' hi' w w') (d : hi ≤ lo' ∨ hi' ≤ lo) : OwnS lo hi w' v LL := by
 obtain ⟨D, e, ho, hb, hi, hp⟩ := h
 exact ⟨D, e, row_outs ho hb g d, hb, fun p hp => own_outs (hi p hp) g d, hp⟩
theorem outs_by {lo hi : Nat} {w w' : World} {r : Option Nat} (g : w.grownBy w' r) (h : ∀ k, r = some k → lo ≤ k ∧ k < hi) : Outs lo hi w w' :=
 ⟨g.os, g.tape, g.output, g.size, fun k hk d => g.block k hk (fun e => by have := h k e.symm; omega)⟩
theorem map2_getD {D : List (Value × List Int)} {i : Nat} (h : i < D.length) : (D.map (·.2)).getD i [] = D[i].2 := by simp [h]
theorem OwnS.sls {lo hi : Nat} {w : World} {v : Value} {LL : List (List Int)} (h : OwnS lo hi w v LL) : Sls w v LL := by
 obtain ⟨D, rfl, ho, hb, hi, hp⟩ := h
 have ho' := ho
 obtain ⟨_, h2⟩ := ho
 rcases h2 with ⟨rfl, h0⟩ | ⟨g, cap, cur, rfl, hg, hh, hn, hm, hs, ht⟩
 ·have : D = [] := List.eq_nil_of_length_eq_zero h0
  subst this
  exact ⟨none, 0, rfl, .inl rfl⟩
 ·refine ⟨some ⟨g, 0, none⟩, cap, by rw [List.length_map], .inr ⟨g, 0, rfl, (Array.getElem?_eq_some_iff.1 hh).1, fun i hi' => ?_⟩⟩
  rw [List.length_map] at hi'
  refine ⟨D[i].1, ?_, ?_⟩
  ·rw [Nat.zero_add, ho'.cellAt i (by omega)]
   simp [hi']
  ·rw [map2_getD hi']
   exact (hi _ (List.getElem_mem hi')).sl
theorem OwnS.len {lo hi : Nat} {w : World} {v : Value} {LL : List (List Int)} (h : OwnS lo hi w v LL) : ∃ a cap, v = .slice a LL.length cap := by
 obtain ⟨a, cap, e, _⟩ := h.sls
 exact ⟨a, cap, e⟩
theorem infoSl : (Tryd.prog.info? 30).map (fun i => (i.zero, i.size, i.bytes)) = some (some (.slice none 0 0), 1, 24) := by kernel_rfl
def Mid (w wr : World) (n : Nat) (LL : List (List Int)) : Prop :=
 ∃ D : List (Value × List Int), D.map (·.2) = LL ∧ wr.ownsRow w.heap.size 30 1 (.slice (some ⟨w.heap.size, 0, none⟩) n n) n (D.map (·.1) ++ List.replicate (n - D.length) (.slice none 0 0)) ∧ (∀ p ∈ D, Own w.heap.size wr.heap.size wr p.1 p.2) ∧ D.Pairwise Apart ∧ w.grownBy wr none
theorem Mid.start {w w1 : World} {n : Nat} (ho : w1.ownsRow w.heap.size 30 1 (.slice (some ⟨w.heap.size, 0, none⟩) n n) n (madeCells #[Value.slice none 0 0] n).toList) (g : w.grownBy w1 none) : Mid w w1 n [] := by
 refine ⟨[], rfl, ?_, (fun p hp => by cases hp), .nil, g⟩
 have e : (madeCells #[Value.slice none 0 0] n).toList = List.replicate n (.slice none 0 0) := by rw [toList_madeCells_one]
 rw [e] at ho
 simpa using ho
theorem Mid.grown {w wr : World} {n : Nat} {LL : List (List Int)} (h : Mid w wr n LL) : w.grownBy wr none := by
 obtain ⟨D, _, _, _, _, g⟩ := h
 exact g
theorem Mid.cell {w wr w1 : World} {n : Nat} {LL : List (List Int)} (h : Mid w wr n LL) (hk : LL.length < n) (g : wr.grownBy w1 none) :
  (∃ x, w1.cell? ⟨w.heap.size, LL.length, none⟩ = some x) ∧ w1.frozen? ⟨w.heap.size, LL.length, none⟩ = false := by
 obtain ⟨D, rfl, ho, hi, hp, hg⟩ := h
 have ho1 := ho.kept g (.inr (fun e => by cases e))
 refine ⟨?_, ho1.frozenAt _⟩
 rw [List.length_map] at *
 rw [ho1.cellAt _ (by omega)]
 exact ⟨_, List.getElem?_eq_getElem (by simp; omega)⟩
theorem Mid.step {w wr w1 : World} {n : Nat} {LL : List (List Int)} {u : Value} {L : List Int} (h : Mid w wr n LL) (hk : LL.length < n) (g : wr.grownBy w1 none) (hu : w1.ownsRow wr.heap.size 3 1 u L.length (ints L)) :
  Mid w (w1.setCell ⟨w.heap.size, LL.length, none⟩ u) n (LL ++ [L]) := by
 obtain ⟨D, rfl, ho, hi, hp, hg⟩ := h
 rw [List.length_map] at *
 have ho1 := ho.kept g (.inr (fun e => by cases e))
 have st := sl.grown_setCell w1 w.heap.size D.length u
 have hsz := g.size
 have hlt := (ho.lt w.heap.size rfl).2
 refine ⟨D ++ [(u, L)], by simp, ?_, ?_, ?_, ?_⟩
 ·have e : (D ++ [(u, L)]).map (fun p : Value × List Int => p.1) ++ List.replicate (n - (D ++ [(u, L)]).length) (Value.slice none 0 0) = (D.map (fun p : Value × List Int => p.1) ++ List.replicate (n - D.length) (Value.slice none 0 0)).set D.length u := by
   have e1 : n - D.length = (n - (D.length + 1)) + 1 := by omega
   rw [e1, List.replicate_succ, List.set_append_right _ _ (by rw [List.length_map]; exact Nat.le_refl _)]
   simp
  rw [e]
  exact (ho1.stored D.length u).1
 ·intro p hp'
  rw [List.mem_append, List.mem_singleton] at hp'
  have sz : (w1.setCell ⟨w.heap.size, D.length, none⟩ u).heap.size = w1.heap.size := by simp [World.setCell]
  rw [sz]
  rcases hp' with hp' | rfl
  ·have k := (hi p hp').kept g
   refine ⟨k.1.kept st ?_, fun k' e => Nat.lt_of_lt_of_le ((hi p hp').2 k' e) hsz⟩
   have := own_ne' ho1 k.1
   exact this
  ·refine ⟨(own_mono hu (by omega)).kept st ?_, fun k e => (hu.lt k e).2⟩
   cases e : u.ownBlock with
   | none => exact .inl rfl
   | some k => exact .inr (fun e' => by cases e'; have := (hu.lt _ e).1; omega)
 ·rw [List.pairwise_append]
  refine ⟨hp, List.pairwise_singleton _ _, fun a ha b hb => ?_⟩
  rw [List.mem_singleton] at hb
  subst hb
  intro k e e'
  have h1 := (hi a ha).2 k e
  have h2 := (hu.lt k e').1
  omega
 ·exact ⟨st.os.trans (g.os.trans hg.os), st.tape.trans (g.tape.trans hg.tape), st.output.trans (g.output.trans hg.output), Nat.le_trans hg.size (Nat.le_trans hsz st.size), fun k hk _ => by
   rw [st.block k (by have := hg.size; omega) (by intro e; cases e; omega), g.block k (by have := hg.size; omega) (fun e => by cases e), hg.block k hk (fun e => by cases e)]⟩
theorem Mid.done {w wr : World} {n : Nat} {LL : List (List Int)} (h : Mid w wr n LL) (hn : LL.length = n) : OwnS w.heap.size wr.heap.size wr (.slice (some ⟨w.heap.size, 0, none⟩) n n) LL ∧ w.grownBy wr none := by
 obtain ⟨D, rfl, ho, hi, hp, hg⟩ := h
 rw [List.length_map] at hn
 subst hn
 refine ⟨⟨D, rfl, by simpa using ho, fun k e => ?_, hi, hp⟩, hg⟩
 exact (ho.lt k e).2
theorem take_snoc (LL : List (List Int)) (k : Nat) (h : k < LL.length) : LL.take (k + 1) = LL.take k ++ [LL.getD k []] := by
 rw [List.take_succ_eq_append_getElem h]
 simp [h]
def tot (LL : List (List Int)) : Nat := LL.length + (LL.map List.length).sum
theorem tot_len (LL : List (List Int)) : LL.length ≤ tot LL := Nat.le_add_right _ _
theorem sum_in (l : List (List Int)) (i : Nat) : (l.getD i []).length ≤ (l.map List.length).sum := by
 induction l generalizing i with
 | nil => simp
 | cons x l ih =>
  cases i with
  | zero => simp
  | succ i =>
   have := ih i
   simp at *
   omega
theorem tot_in (LL : List (List Int)) (i : Nat) : (LL.getD i []).length ≤ tot LL := Nat.le_trans (sum_in LL i) (Nat.le_add_left _ _)
end Go.Proofs.YtfhmdpbnnieohaaDoor.css
namespace Go.Proofs.YtfhmdpbnnieohaaDoor.cf
open Go.ChangeShapes Go.WideShapes Go.ChangeAt Go.RowKit
open sl (Sl Own ints hide unhide ret_int ret_bool grown_refl grown_trans grown_drewN below_of of_below)
open css (Sls OwnS Outs tot)
set_option linter.unusedVariables false
def Box (t : TypeId) (w : World) (c : Nat) (x y : Value) : Prop := w.heap[c]? = some (.cells #[x, y] t (0, 0))
theorem Box.c0 {t : TypeId} {w : World} {c : Nat} {x y : Value} (h : Box t w c x y) : w.cell? ⟨c, 0, none⟩ = some x := by
 unfold Box at h
 simp [World.cell?, h]
theorem Box.c1 {t : TypeId} {w : World} {c : Nat} {x y : Value} (h : Box t w c x y) : w.cell? ⟨c, 1, none⟩ = some y := by
 unfold Box at h
 simp [World.cell?, h]
theorem Box.f {t : TypeId} {w : World} {c : Nat} {x y : Value} (h : Box t w c x y) (i : Nat) : w.frozen? ⟨c, i, none⟩ = false := by
 unfold Box at h
 simp [World.frozen?, h]
theorem Box.lt {t : TypeId} {w : World} {c : Nat} {x y : Value} (h : Box t w c x y) : c < w.heap.size := (Array.getElem?_eq_some_iff.1 h).1
theorem Box.by {t : TypeId} {w w' : World} {c : Nat} {x y : Value} {r : Option Nat} (h : Box t w c x y) (g : w.grownBy w' r) (hr : r ≠ some c) : Box t w' c x y := by
 unfold Box
 rw [g.block c h.lt (fun e => hr e.symm)]
 exact h
theorem Box.kept {t : TypeId} {w w' : World} {c : Nat} {x y : Value} (h : Box t w c x y) (g : w.grownBy w' none) : Box t w' c x y := h.by g (fun e => by cases e)
theorem Box.new (t : TypeId) (w : World) (x y : Value) : Box t (w.alloc (.cells #[x, y] t)) w.heap.size x y := by
 show (w.heap.push _)[w.heap.size]? = _
 simp
theorem Box.set1 {t : TypeId} {w : World} {c : Nat} {x y : Value} (h : Box t w c x y) (u : Value) : Box t (w.setCell ⟨c, 1, none⟩ u) c x u := by
 unfold Box at *
 simp [World.setCell, Array.getElem?_modify, h]
theorem Box.set0 {t : TypeId} {w : World} {c : Nat} {x y : Value} (h : Box t w c x y) (u : Value) : Box t (w.setCell ⟨c, 0, none⟩ u) c u y := by
 unfold Box at *
 simp [World.setCell, Array.getElem?_modify, h]
theorem sizeCnf : (Tryd.prog.info? 27).map (·.size) = some 2 := by kernel_rfl
theorem ret_box2 {fn : Func} {p u : Tmp} {tmps : Array Value} {w : World} {c : Nat} {x y : Value} (h : fn.results = #[.cell p 27, .tmp u]) (hp : tmps.getD p undef = .pointer (some ⟨c, 0, none⟩)) (hb : Box 27 w c x y) :
  (results fn tmps).run Tryd.prog w = .ok (.tuple #[.agg #[x, y], tmps.getD u undef]) w := by
 rw [results_cell_tmp h, hp]
 simp only [asAddr, Sem.run_pure, Result.andThen_ok]
 rw [run_loadVar_row w c 27 27 #[x, y] (0, 0) _ hb Tryd.underlying27 rfl sizeCnf]
 rfl
theorem size_set (w : World) (a : Addr) (u : Value) : (w.setCell a u).heap.size = w.heap.size := by simp [World.setCell]
theorem grown_set {w w1 : World} {c i : Nat} {u : Value} (g : w.grownBy w1 none) (h : w.heap.size ≤ c) : w.grownBy (w1.setCell ⟨c, i, none⟩ u) none :=
 ⟨g.os, g.tape, g.output, by rw [size_set]; exact g.size, fun k hk _ => (Below.heap_setCell _ _ _ _ (by show k ≠ c; omega)).trans (g.block k hk (fun e => by cases e))⟩
theorem ownS_set {lo hi : Nat} {w : World} {v : Value} {LL : List (List Int)} {c i : Nat} {u : Value} (h : OwnS lo hi w v LL) (hc : c < lo ∨ hi ≤ c) : OwnS lo hi (w.setCell ⟨c, i, none⟩ u) v LL :=
 h.outs (css.outs_by (lo := c) (hi := c + 1) (sl.grown_setCell w c i u) (fun k e => by cases e; omega)) (by omega)
theorem Box.setO {t : TypeId} {w : World} {c d i : Nat} {x y u : Value} (h : Box t w c x y) (hd : d ≠ c) : Box t (w.setCell ⟨d, i, none⟩ u) c x y :=
 h.by (sl.grown_setCell w d i u) (fun e => hd (by cases e; rfl))
theorem grown_drew (w : World) (r : Option Nat) : w.grownBy w.drew r := ⟨rfl, rfl, rfl, Nat.le_refl _, fun _ _ _ => rfl⟩
end Go.Proofs.YtfhmdpbnnieohaaDoor.cf
namespace Go.Proofs.YtfhmdpbnnieohaaDoor.ok
open Go.ChangeShapes Go.WideShapes Go.ChangeAt Go.RowKit
open lits (okB varI)
open sl (Sl Own ints hide unhide ret_int ret_bool grown_refl grown_trans grown_drewN below_of of_below)
open css (Sls OwnS Outs tot)
open cf (Box)
set_option linter.unusedVariables false
def litIn (n x : Int) : Bool := okB x && decide (varI x ≤ n)
def clB (n : Int) (L : List Int) : Bool := L.all (litIn n) && decide (L.length ≤ 48)
def cnfB (n : Int) (LL : List (List Int)) : Bool := decide (0 ≤ n ∧ n ≤ 24) && decide (LL.length ≤ 120) && LL.all (clB n)
theorem all_hit {α : Type} (f : α → Bool) (L : List α) (k : Nat) (d : α) (h : k < L.length) (hx : f (L.getD k d) = false) : L.all f = false := by
 rw [List.all_eq_false]
 refine ⟨L[k], List.getElem_mem h, ?_⟩
 rw [show L.getD k d = L[k] by simp [h]] at hx
 simp [hx]
theorem all_step {α : Type} (f : α → Bool) (L : List α) (k : Nat) (d : α) (h : k < L.length) (ha : (L.take k).all f = true) (hx : f (L.getD k d) = true) : (L.take (k + 1)).all f = true := by
 rw [List.take_succ_eq_append_getElem h, List.all_append, ha]
 rw [show L.getD k d = L[k] by simp [h]] at hx
 simp [hx]
theorem all_end {α : Type} (f : α → Bool) (L : List α) (k : Nat) (h : ¬ k < L.length) (ha : (L.take k).all f = true) : L.all f = true := by
 rw [List.take_of_length_le (by omega)] at ha
 exact ha
theorem l01In (x a b : Int) (w : World) : Calls Tryd.prog 32 #[.int .i64 x, .int .i64 a, .int .i64 b] w fun e w' => e = .returned (.bool (decide (a ≤ x ∧ x ≤ b))) ∧ w' = w := by
 by_cases h1 : a ≤ x
 ·by_cases h2 : x ≤ b
  ·rw [decide_eq_true ⟨h1, h2⟩]
   go_enter Tryd.func32, Tryd.ntmps32
   go_wp2
   go_ret
   exact ⟨rfl, rfl⟩
  ·rw [decide_eq_false (fun h => h2 h.2)]
   go_enter Tryd.func32, Tryd.ntmps32
   go_wp2
   go_ret
   exact ⟨rfl, rfl⟩
 ·rw [decide_eq_false (fun h => h1 h.1)]
  go_enter Tryd.func32, Tryd.ntmps32
  go_wp2
  go_ret
  exact ⟨rfl, rfl⟩
theorem literalOf (x n : Int) (w : World) : Calls Tryd.prog 59 #[.int .i64 x, .int .i64 n] w fun e w' => e = .returned (.bool (litIn n x)) ∧ w' = w := by
 have cx := lits.implLitOk x
 have cv := lits.implLitVar x
 unfold litIn
 cases hx : okB x
 ·rw [hx] at cx
  have CX := hide cx
  clear cx cv hx
  go_enter Tryd.func59, Tryd.ntmps59
  go_wp2_with (go_at_call 78; refine (unhide CX _).mono ?_; rintro e w' ⟨rfl, rfl⟩)
  go_ret
  exact ⟨rfl, rfl⟩
 ·rw [hx] at cx
  have CX := hide cx
  have CV := hide cv
  clear cx cv hx
  generalize varI x = y at *
  go_enter Tryd.func59, Tryd.ntmps59
  go_wp2_with (first | (go_at_call 78; refine (unhide CX _).mono ?_; rintro e w' ⟨rfl, rfl⟩) | (go_at_call 79; refine (unhide CV _).mono ?_; rintro e w' ⟨rfl, rfl⟩))
  go_ret
  exact ⟨rfl, rfl⟩
theorem literalsOf (v : Value) (L : List Int) (n : Int) (w : World) (hL : L.length ≤ 1048576) (hv : Sl w v L) :
  Calls Tryd.prog 40 #[v, .int .i64 n] w fun e w' => e = .returned (.bool (L.all (litIn n))) ∧ w' = w := by
 obtain ⟨a, cap, rfl, ha⟩ := hv
 have HA := hide ha
 clear ha
 go_enter Tryd.func40, Tryd.ntmps40
 go_wp2
 go_loop [9] (fun i => ∃ k : Nat, k ≤ L.length ∧ i = .int .i64 k ∧ Hid ((L.take k).all (litIn n) = true)) (fun i => L.length - (intOf i).toNat)
 case atStart => exact ⟨0, Nat.zero_le _, rfl, by show _ = _; simp⟩
 case round =>
  obtain ⟨k, hk, rfl, hall⟩ := hrel
  by_cases hlt : k < L.length
  ·rcases unhide HA with h | ⟨b, off, rfl, hb, hcb⟩
   ·rw [h] at hlt
    simp at hlt
   ·have c1 := hcb k hlt
    have hi' : (k : Int) < (L.length : Int) := by omega
    have h1 := all_hit (litIn n) L k 0 hlt
    have h2 := all_step (litIn n) L k 0 hlt (unhide hall)
    generalize L.getD k 0 = x at *
    have cx := literalOf x n
    cases hx : litIn n x
    ·rw [hx] at cx
     have CX := hide cx
     have H := hide (h1 hx)
     clear cx h1 h2 hx hcb HA hall
     go_wp2_with (go_at_call 59; refine (unhide CX _).mono ?_; rintro e w' ⟨rfl, rfl⟩)
     go_ret
     exact ⟨ret_bool (unhide H).symm, rfl⟩
    ·rw [hx] at cx
     have CX := hide cx
     have H := hide (h2 hx)
     clear cx h1 h2 hx hcb HA hall
     go_wp2_with (go_at_call 59; refine (unhide CX _).mono ?_; rintro e w' ⟨rfl, rfl⟩)
     go_round
     case rel => exact ⟨k + 1, by omega, by go_num, H⟩
     case measure => simp [intOf]; omega
  ·have hi' : ¬ (k : Int) < (L.length : Int) := by omega
   have HR := hide (all_end (litIn n) L k hlt (unhide hall))
   clear HA hall
   go_wp2
   go_ret
   exact ⟨ret_bool (unhide HR).symm, rfl⟩
theorem clauseOf (v : Value) (L : List Int) (n : Int) (w : World) (hL : L.length ≤ 1048576) (hv : Sl w v L) :
  Calls Tryd.prog 44 #[v, .int .i64 n] w fun e w' => e = .returned (.bool (clB n L)) ∧ w' = w := by
 have C := hide (literalsOf v L n w hL hv)
 obtain ⟨a, cap, rfl, ha⟩ := hv
 unfold clB
 clear ha
 by_cases h : L.length ≤ 48
 ·rw [decide_eq_true h, Bool.and_true]
  have hi : (L.length : Int) ≤ 48 := by omega
  go_enter Tryd.func44, Tryd.ntmps44
  go_wp2_with (go_at_call 40; refine (unhide C).mono ?_; rintro e w' ⟨rfl, rfl⟩)
  go_ret
  exact ⟨rfl, rfl⟩
 ·rw [decide_eq_false h, Bool.and_false]
  have hi : ¬ (L.length : Int) ≤ 48 := by omega
  go_enter Tryd.func44, Tryd.ntmps44
  go_wp2_with fail
  go_ret
  exact ⟨rfl, rfl⟩
theorem implCnfOk (v : Value) (n : Int) (LL : List (List Int)) (w : World) (hn : tot LL ≤ 1048576) (hv : Sls w v LL) :
  Calls Tryd.prog 21 #[.agg #[.int .i64 n, v]] w fun e w' => e = .returned (.bool (cnfB n LL)) ∧ w.grownBy w' none := by
 obtain ⟨a, cap, rfl, ha⟩ := hv
 have hl := Nat.le_trans (css.tot_len LL) hn
 have G0 := hide (World.grownBy_alloc w (.cells #[.int .i64 n, .slice a LL.length cap] 27) none)
 by_cases hN : 0 ≤ n ∧ n ≤ 24
 ·by_cases hc : LL.length ≤ 120
  ·have li := trivial
   skip
   have LI := hide li
   have N0 : ¬ n < 0 := by omega
   have N1 : ¬ 24 < n := by omega
   have hc' : ¬ (120 : Int) < (LL.length : Int) := by omega
   have bx := hide (cf.Box.new 27 w (.int .i64 n) (.slice a LL.length cap))
   have EQ := hide (show cnfB n LL = LL.all (clB n) by unfold cnfB; rw [decide_eq_true hN, decide_eq_true hc]; rfl)
   have HA := hide ha
   clear ha hN hc li
   go_enter Tryd.func21, Tryd.ntmps21
   go_wp2_with fail
   go_loopw [22] (fun i wr => ∃ k : Nat, k ≤ LL.length ∧ i = .int .i64 k ∧ Hid ((LL.take k).all (clB n) = true) ∧ Hid ((w.alloc (.cells #[.int .i64 n, .slice a LL.length cap] 27)).grownBy wr none)) (fun i _ => LL.length - (intOf i).toNat)
   case atStart => exact ⟨0, Nat.zero_le _, rfl, (by show _ = _; simp), grown_refl _⟩
   case round =>
    obtain ⟨k, hk, rfl, hall, hg⟩ := hrel
    have bk := (unhide bx).kept (unhide hg)
    have x0 := bk.c0
    have x1 := bk.c1
    have g1 := grown_trans (r := none) (unhide G0) (unhide hg)
    clear bx bk
    by_cases hlt : k < LL.length
    ·rcases unhide HA with h | ⟨b, off, rfl, hb, hcb⟩
     ·rw [h] at hlt
      simp at hlt
     ·obtain ⟨u, hu, hs⟩ := hcb k hlt
      have c1 : wr.cell? ⟨b, off + k, none⟩ = some u := g1.cell hu (fun e => by cases e)
      have hi' : (k : Int) < (LL.length : Int) := by omega
      have h1 := all_hit (clB n) LL k [] hlt
      have h2 := all_step (clB n) LL k [] hlt (unhide hall)
      have hL := Nat.le_trans (css.tot_in LL k) hn
      generalize LL.getD k [] = L at *
      have cx := fun m => clauseOf u L n (wr.drewN m) hL ((hs.kept g1 (.inl rfl)).kept (grown_drewN wr m) (.inl rfl))
      have G1 := hide g1
      cases hx : clB n L
      ·rw [hx] at cx
       have C := hide cx
       have H := hide (h1 hx)
       clear cx h1 h2 hx hcb HA hall hs hu g1
       go_wp2_with fail
       refine (unhide C 0).mono ?_; rintro e w' ⟨rfl, hw⟩; have hw' := hw.symm; clear hw; subst hw'
       go_wp2_with fail
       go_ret
       exact ⟨ret_bool (by rw [unhide EQ]; exact (unhide H).symm), unhide G1⟩
      ·rw [hx] at cx
       have C := hide cx
       have H := hide (h2 hx)
       clear cx h1 h2 hx hcb HA hall hs hu g1
       go_wp2_with fail
       refine (unhide C 0).mono ?_; rintro e w' ⟨rfl, hw⟩; have hw' := hw.symm; clear hw; subst hw'
       go_wp2_with fail
       go_roundw
       case rel => exact ⟨k + 1, by omega, by go_num, H, hg⟩
       case measure => simp [intOf]; omega
    ·have hi' : ¬ (k : Int) < (LL.length : Int) := by omega
     have HR := hide (all_end (clB n) LL k hlt (unhide hall))
     have G1 := hide g1
     clear HA hall g1
     go_wp2
     go_ret
     exact ⟨ret_bool (by rw [unhide EQ]; exact (unhide HR).symm), unhide G1⟩
  ·have E := hide (show cnfB n LL = false by unfold cnfB; rw [decide_eq_false hc]; simp)
   have li := trivial
   skip
   have LI := hide li
   have N0 : ¬ n < 0 := by omega
   have N1 : ¬ 24 < n := by omega
   have hc' : (120 : Int) < (LL.length : Int) := by omega
   clear ha hN hc li
   go_enter Tryd.func21, Tryd.ntmps21
   go_wp2_with fail
   go_ret
   exact ⟨ret_bool (unhide E).symm, unhide G0⟩
 ·have E := hide (show cnfB n LL = false by unfold cnfB; rw [decide_eq_false hN]; simp)
  have li := trivial
  skip
  have LI := hide li
  clear ha li
  rcases (show n < 0 ∨ (¬ n < 0 ∧ 24 < n) by omega) with N0 | ⟨N0, N1⟩
  all_goals
   clear hN
   go_enter Tryd.func21, Tryd.ntmps21
   go_wp2_with fail
   go_ret
   exact ⟨ret_bool (unhide E).symm, unhide G0⟩
end Go.Proofs.YtfhmdpbnnieohaaDoor.ok
namespace Go.Proofs.YtfhmdpbnnieohaaDoor.tr
open Go.ChangeShapes Go.WideShapes Go.ChangeAt Go.RowKit
open lits (okB varI)
open sl (Sl Own ints hide unhide ret_int ret_bool grown_refl grown_trans grown_drewN below_of of_below)
open css (Sls OwnS Outs tot)
open cf (Box)
open ok (cnfB all_hit all_step all_end)
set_option linter.unusedVariables false
def litT (A : List Int) (x : Int) : Bool := if varI x = 0 then false else (decide (varI x ≤ (A.length : Int)) && decide (A.getD (varI x - 1).toNat 0 = 1)) == decide (0 < x)
def clT (A L : List Int) : Bool := L.any (litT A)
def cnfT (A : List Int) (LL : List (List Int)) : Bool := LL.all (clT A)
def bitB (x : Int) : Bool := decide (0 ≤ x ∧ x ≤ 1)
def assignB (n : Int) (LL : List (List Int)) (A : List Int) : Bool := cnfB n LL && decide ((A.length : Int) = n) && A.all bitB
def trueB (n : Int) (LL : List (List Int)) (A : List Int) : Bool := assignB n LL A && cnfT A LL
theorem litT_near {A : List Int} {x : Int} {m : Nat} (h : varI x = (m : Int) + 1) (hm : m < A.length) : litT A x = (decide (A.getD m 0 = 1) == decide (0 < x)) := by
 unfold litT
 rw [if_neg (by omega), decide_eq_true (show varI x ≤ (A.length : Int) by omega), h]
 have e : ((m : Int) + 1 - 1).toNat = m := by omega
 rw [e]
 rfl
end Go.Proofs.YtfhmdpbnnieohaaDoor.tr
namespace Go.Proofs.YtfhmdpbnnieohaaDoor.cnt
open Go.RowKit
def cntR (m : Nat) (g : Nat → Bool) : Nat := ((List.range m).filter g).length
theorem cntR_succ (m : Nat) (g : Nat → Bool) : cntR (m + 1) g = cntR m g + (if g m then 1 else 0) := by
 unfold cntR
 rw [List.range_succ, List.filter_append, List.length_append]
 cases h : g m <;> simp [h]
theorem cntR_two (m : Nat) (g : Nat → Bool) : cntR (2 * m) g = cntR m (fun q => g (2 * q)) + cntR m (fun q => g (2 * q + 1)) := by
 induction m with
 | zero => rfl
 | succ m ih =>
  rw [show 2 * (m + 1) = 2 * m + 1 + 1 by omega, cntR_succ, cntR_succ, ih, cntR_succ, cntR_succ]
  omega
def C : Nat → (List Int → Bool) → Nat
 | 0, f => if f [] then 1 else 0
 | n + 1, f => C n (fun l => f (0 :: l)) + C n (fun l => f (1 :: l))
theorem C_snoc (n : Nat) (f : List Int → Bool) : C (n + 1) f = C n (fun l => f (l ++ [0])) + C n (fun l => f (l ++ [1])) := by
 induction n generalizing f with
 | zero => rfl
 | succ n ih =>
  rw [C, ih, ih]
  show _ = (C n _ + C n _) + (C n _ + C n _)
  simp only [List.cons_append]
  omega
def asg : Nat → Nat → List Int → List Int
 | 0, _, out => out
 | n + 1, k, out => asg n (k / 2) (((k % 2 : Nat) : Int) :: out)
theorem asg_out (n k : Nat) (out : List Int) : asg n k out = asg n k [] ++ out := by
 induction n generalizing k out with
 | zero => rfl
 | succ n ih =>
  rw [asg, asg, ih, ih (k / 2) [_], List.append_assoc]
  rfl
theorem cnt_asg (n : Nat) (f : List Int → Bool) : cntR (2 ^ n) (fun k => f (asg n k [])) = C n f := by
 induction n generalizing f with
 | zero =>
  show cntR 1 _ = _
  rw [cntR_succ]
  exact Nat.zero_add _
 | succ n ih =>
  have e : ∀ k, asg (n + 1) k [] = asg n (k / 2) [] ++ [((k % 2 : Nat) : Int)] := fun k => by rw [asg, asg_out]
  rw [Nat.pow_succ, Nat.mul_comm, cntR_two, C_snoc, ← ih, ← ih]
  congr 1
  ·congr 1
   funext q
   rw [e, show 2 * q / 2 = q by omega, show 2 * q % 2 = 0 by omega]
   rfl
  ·congr 1
   funext q
   rw [e, show (2 * q + 1) / 2 = q by omega, show (2 * q + 1) % 2 = 1 by omega]
   rfl
def le : Nat → Nat → List Int
 | 0, _ => []
 | n + 1, j => ((j % 2 : Nat) : Int) :: le n (j / 2)
theorem le_len (n j : Nat) : (le n j).length = n := by
 induction n generalizing j with
 | zero => rfl
 | succ n ih => rw [le, List.length_cons, ih]
theorem cnt_le (n : Nat) (f : List Int → Bool) : cntR (2 ^ n) (fun j => f (le n j)) = C n f := by
 induction n generalizing f with
 | zero =>
  show cntR 1 _ = _
  rw [cntR_succ]
  exact Nat.zero_add _
 | succ n ih =>
  rw [Nat.pow_succ, Nat.mul_comm, cntR_two, C, ← ih, ← ih]
  congr 1
  ·congr 1
   funext q
   rw [le, show 2 * q / 2 = q by omega, show 2 * q % 2 = 0 by omega]
   rfl
  ·congr 1
   funext q
   rw [le, show (2 * q + 1) / 2 = q by omega, show (2 * q + 1) % 2 = 1 by omega]
   rfl
theorem cnt_both (n : Nat) (f : List Int → Bool) : cntR (2 ^ n) (fun k => f (asg n k [])) = cntR (2 ^ n) (fun j => f (le n j)) := by rw [cnt_asg, cnt_le]
def ev : Nat → Nat
 | 0 => 0
 | n + 1 => 4 * ev n + 1
def sp : Nat → Nat → Nat
 | 0, _ => 0
 | n + 1, j => 4 * sp n (j / 2) + j % 2
theorem sp_le (n j : Nat) : sp n j ≤ ev n := by
 induction n generalizing j with
 | zero => exact Nat.le_refl _
 | succ n ih =>
  have := ih (j / 2)
  simp only [sp, ev]
  omega
theorem ev_lt (n M : Nat) (h : 2 * n ≤ M) : ev n < 2 ^ M := by
 induction n generalizing M with
 | zero => exact Nat.two_pow_pos M
 | succ n ih =>
  obtain ⟨M', rfl⟩ : ∃ M', M = M' + 2 := ⟨M - 2, by omega⟩
  have := ih M' (by omega)
  simp only [ev]
  rw [Nat.pow_add]
  omega
theorem and4 (a b x y : Nat) (hx : x < 4) (hy : y < 4) : (4 * a + x) &&& (4 * b + y) = 4 * (a &&& b) + (x &&& y) := by
 have h := Nat.two_pow_add_eq_or_of_lt (i := 2) (b := x) (by omega) a
 have h' := Nat.two_pow_add_eq_or_of_lt (i := 2) (b := y) (by omega) b
 have hxy : x &&& y < 4 := Nat.lt_of_le_of_lt Nat.and_le_left hx
 apply Nat.eq_of_testBit_eq
 intro i
 rw [Nat.testBit_and]
 have e : ∀ c z : Nat, z < 4 → (4 * c + z).testBit i = if i < 2 then z.testBit i else c.testBit (i - 2) := by
  intro c z hz
  have := Nat.testBit_two_pow_mul_add c (i := 2) (b := z) (by omega) i
  simpa using this
 rw [e a x hx, e b y hy, e (a &&& b) (x &&& y) hxy]
 split
 ·rw [Nat.testBit_and]
 ·rw [Nat.testBit_and]
theorem mod4 (Y M z : Nat) (hz : z < 4) : (4 * Y + z) % 2 ^ (M + 2) = 4 * (Y % 2 ^ M) + z := by
 rw [Nat.pow_add, show (2 : Nat) ^ 2 = 4 by rfl, Nat.mul_comm (2 ^ M) 4]
 have h := Nat.mod_mul (x := 4 * Y + z) (a := 4) (b := 2 ^ M)
 rw [h, show (4 * Y + z) % 4 = z by omega, show (4 * Y + z) / 4 = Y by omega]
 omega
theorem step (n : Nat) : ∀ (M j : Nat), 2 * n ≤ M → ((sp n j + 2 ^ M - ev n) % 2 ^ M) &&& ev n = sp n (j + 1) ∧ ((sp n j + 2 ^ M - ev n - 1) % 2 ^ M) &&& ev n = sp n j := by
 induction n with
 | zero =>
  intro M j _
  simp [sp, ev]
 | succ n ih =>
  intro M j hM
  obtain ⟨M', rfl⟩ : ∃ M', M = M' + 2 := ⟨M - 2, by omega⟩
  have i := ih M' (j / 2) (by omega)
  have lt := ev_lt n M' (by omega)
  have sl := sp_le n (j / 2)
  generalize hY : sp n (j / 2) + 2 ^ M' - ev n = Y at i
  have e1 : sp (n + 1) j + 2 ^ (M' + 2) - ev (n + 1) + 1 = 4 * Y + j % 2 := by
   simp only [sp, ev]
   rw [Nat.pow_add, show (2 : Nat) ^ 2 = 4 by rfl]
   omega
  have hr : j % 2 = 0 ∨ j % 2 = 1 := by omega
  have hY1 : 1 ≤ Y := by omega
  obtain ⟨Y', rfl⟩ : ∃ Y', Y = Y' + 1 := ⟨Y - 1, by omega⟩
  rw [Nat.add_sub_cancel] at i
  rcases hr with r | r
  ·have e2 : sp (n + 1) j + 2 ^ (M' + 2) - ev (n + 1) = 4 * Y' + 3 := by omega
   have e3 : sp (n + 1) j + 2 ^ (M' + 2) - ev (n + 1) - 1 = 4 * Y' + 2 := by omega
   rw [e3, e2, mod4 _ _ 3 (by decide), mod4 _ _ 2 (by decide)]
   simp only [ev, sp]
   rw [and4 _ _ 3 1 (by decide) (by decide), and4 _ _ 2 1 (by decide) (by decide), i.2, r, show (j + 1) / 2 = j / 2 by omega, show (j + 1) % 2 = 1 by omega]
   exact ⟨rfl, rfl⟩
  ·have e2 : sp (n + 1) j + 2 ^ (M' + 2) - ev (n + 1) = 4 * (Y' + 1) + 0 := by omega
   have e3 : sp (n + 1) j + 2 ^ (M' + 2) - ev (n + 1) - 1 = 4 * Y' + 3 := by omega
   rw [e3, e2, mod4 _ _ 0 (by decide), mod4 _ _ 3 (by decide)]
   simp only [ev, sp]
   rw [and4 _ _ 0 1 (by decide) (by decide), and4 _ _ 3 1 (by decide) (by decide), i.1, i.2, r, show (j + 1) / 2 = j / 2 + 1 by omega, show (j + 1) % 2 = 0 by omega]
   exact ⟨rfl, rfl⟩
theorem sp_zero (n : Nat) : sp n 0 = 0 := by
 induction n with
 | zero => rfl
 | succ n ih =>
  simp only [sp]
  rw [ih]
theorem sp_top (n : Nat) : sp n (2 ^ n) = 0 := by
 induction n with
 | zero => rfl
 | succ n ih =>
  simp only [sp]
  rw [Nat.pow_succ, show 2 ^ n * 2 / 2 = 2 ^ n by omega, ih, show 2 ^ n * 2 % 2 = 0 by omega]
theorem sp_pos (n j : Nat) (h0 : 0 < j) (h : j < 2 ^ n) : sp n j ≠ 0 := by
 induction n generalizing j with
 | zero =>
  have : j < 1 := h
  omega
 | succ n ih =>
  simp only [sp]
  by_cases r : j % 2 = 0
  ·have := ih (j / 2) (by omega) (by rw [Nat.pow_succ] at h; omega)
   omega
  ·omega
end Go.Proofs.YtfhmdpbnnieohaaDoor.cnt
namespace Go.Proofs.YtfhmdpbnnieohaaDoor.gr
open Go.ChangeShapes Go.WideShapes Go.ChangeAt Go.RowKit
open sl (Sl Own ints hide unhide ret_int ret_bool grown_refl grown_trans grown_drewN below_of of_below)
open css (Sls OwnS Outs tot Apart own_ne own_ne' own_kind own_mono infoSl)
open cf (Box)
set_option linter.unusedVariables false
theorem ty1 : (27 : Nat) ≠ 30 := by decide
theorem ty2 : (27 : Nat) ≠ 3 := by decide
theorem box_ne {w : World} {lo n c : Nat} {t : TypeId} {v x y : Value} {xs : List Value} (h : w.ownsRow lo t 1 v n xs) (ht : (27 : Nat) ≠ t) (hb : Box 27 w c x y) : v.ownBlock ≠ some c := by
 intro e
 obtain ⟨cs, fz, hc⟩ := own_kind h c e
 unfold Box at hb
 rw [hb] at hc
 simp only [Option.some.injEq, Obj.cells.injEq] at hc
 exact ht hc.2.1
theorem own_set {w : World} {lo n c i : Nat} {t : TypeId} {v x y u : Value} {xs : List Value} (h : w.ownsRow lo t 1 v n xs) (ht : (27 : Nat) ≠ t) (hb : Box 27 w c x y) : (w.setCell ⟨c, i, none⟩ u).ownsRow lo t 1 v n xs := by
 refine h.kept (sl.grown_setCell w c i u) ?_
 cases e : v.ownBlock with
 | none => exact .inl rfl
 | some g => exact .inr (fun e' => box_ne h ht hb (e.trans e'))
theorem ownS_set {lo hi : Nat} {w : World} {v : Value} {LL : List (List Int)} {c i : Nat} {u x y : Value} (h : OwnS lo hi w v LL) (hb : Box 27 w c x y) : OwnS lo hi (w.setCell ⟨c, i, none⟩ u) v LL := by
 obtain ⟨D, e, ho, hb', hi', hp⟩ := h
 exact ⟨D, e, own_set ho ty1 hb, hb', fun p hp => ⟨own_set (hi' p hp).1 ty2 hb, (hi' p hp).2⟩, hp⟩
theorem grow {lo mid : Nat} {wr w1 : World} {v v' u : Value} {D : List (Value × List Int)} {L : List Int} {o : Obj} (ho : wr.ownsRow lo 30 1 v D.length (D.map (·.1))) (hin : ∀ p ∈ D, Own lo mid wr p.1 p.2) (hp : D.Pairwise Apart)
  (hu : Own mid wr.heap.size wr u L) (hlo : lo ≤ mid) (hmid : mid ≤ wr.heap.size) (h1 : w1.ownsRow lo 30 1 v' (D.length + 1) (D.map (·.1) ++ [u])) (hg : (wr.alloc o).grownBy w1 v.ownBlock) :
  OwnS lo w1.heap.size w1 v' (D.map (·.2) ++ [L]) := by
 have sz := hg.size
 simp only [World.size_alloc] at sz
 have hoA := ho.alloc o
 have kp : ∀ (p : Value) (n : Nat) (xs : List Value), wr.ownsRow lo 3 1 p n xs → w1.ownsRow lo 3 1 p n xs := fun p n xs h => (h.alloc o).kept hg (own_ne' hoA (h.alloc o))
 refine ⟨D ++ [(u, L)], by simp, ?_, fun k e => (h1.lt k e).2, ?_, ?_⟩
 ·have e1 : (D ++ [(u, L)]).length = D.length + 1 := by simp
  have e2 : (D ++ [(u, L)]).map (fun p : Value × List Int => p.1) = D.map (fun p : Value × List Int => p.1) ++ [u] := by simp
  rw [e1, e2]
  exact h1
 ·intro p hp'
  rw [List.mem_append, List.mem_singleton] at hp'
  rcases hp' with hp' | rfl
  ·exact ⟨kp _ _ _ (hin p hp').1, fun k e => by have := (hin p hp').2 k e; omega⟩
  ·exact ⟨kp _ _ _ (own_mono hu.1 hlo), fun k e => by have := hu.2 k e; omega⟩
 ·rw [List.pairwise_append]
  refine ⟨hp, List.pairwise_singleton _ _, fun a ha b hb => ?_⟩
  rw [List.mem_singleton] at hb
  subst hb
  intro k e e'
  have h1 := (hin a ha).2 k e
  have h2 := (hu.1.lt k e').1
  omega
theorem own_one {lo hi : Nat} {w : World} {u : Value} {L : List Int} (h : Own lo hi w u L) : u.oneCell' = true := by
 obtain ⟨_, h2⟩ := h.1
 rcases h2 with ⟨rfl, _⟩ | ⟨g, cap, cur, rfl, _⟩ <;> rfl
end Go.Proofs.YtfhmdpbnnieohaaDoor.gr
namespace Go.Proofs.YtfhmdpbnnieohaaDoor.app
open Go.ChangeShapes Go.WideShapes Go.ChangeAt Go.RowKit
open sl (Sl Own ints hide unhide ret_int ret_bool grown_refl grown_trans grown_drewN below_of of_below)
open css (Sls OwnS Outs tot Apart own_ne own_ne' own_kind own_mono infoSl)
open cf (Box)
open wo (Made)
set_option linter.unusedVariables false
theorem ints_append (L M : List Int) : ints (L ++ M) = ints L ++ ints M := by simp [ints]
theorem made_nil (w : World) : Made w (w.alloc (.cells #[] 3)) (.slice (some ⟨w.heap.size, 0, none⟩) 0 0) [] :=
 ⟨World.ownsRow_lit w #[] 0 (Nat.le_refl _) (Nat.zero_le _) rfl, World.grownBy_alloc _ _ _⟩
theorem wp_none {w : World} {o : Oper} {a : Act} {K : Act → World → Prop} {Q : Exit → Act → World → Prop} (s x : Operand) (t : TypeId) (ho : o.op = .call { callee := .builtin .append, args := #[s, x], argTypes := #[t, t] })
  (base : Nat) (e : TypeId) (i : TypeInfo) (size : Nat) (ht : Tryd.prog.underlying t = some (.slice e)) (hi : Tryd.prog.info? e = some i)
  (v : Value) (n : Nat) (xs : List Value) (hs : a.eval s = v) (hown : w.ownsRow base e size v n xs) (hx : a.eval x = .slice none 0 0) (h : K (a.put o.dst v) w) : o.wp Tryd.prog a w K Q := by
 have hrun := run_append_owned_none (P := Tryd.prog) (w := w) base t o.type e i size ht hi v n xs hown
 unfold Oper.wp
 simp [execOp, ho, resolve, invoke, builtin, hs, hx, hrun, Result.andThen]
 exact h
theorem wpI {o : Oper} {a : Act} {K : Act → World → Prop} {Q : Exit → Act → World → Prop} {w wr : World} {va vb : Value} {A B : List Int} {lo hi : Nat}
  (hg : w.grownBy wr none) (hA : wr.ownsRow w.heap.size 3 1 va A.length (ints A)) (hB : Own lo hi wr vb B) (hl : A.length + B.length ≤ 4194304) (s x : Operand)
  (ho : o.op = .call { callee := .builtin .append, args := #[s, x], argTypes := #[30, 30] }) (hs : a.eval s = va) (hx : a.eval x = vb)
  (h : ∀ v' w1, Made w w1 v' (A ++ B) → wr.grownBy w1 va.ownBlock → K (a.put o.dst v') w1) : o.wp Tryd.prog a wr K Q := by
 obtain ⟨i0, hi, hz0, hz1, hz2⟩ := info_parts sl.info3
 have hsz := hg.size
 have hB' := hB.1
 obtain ⟨_, h2⟩ := hB'
 rcases h2 with ⟨rfl, h0⟩ | ⟨g, cap, cur, rfl, hgb, hh, hn, hm, hsc, ht⟩
 ·have e : B = [] := List.eq_nil_of_length_eq_zero h0
  subst e
  refine wp_none s x 30 ho w.heap.size 3 i0 1 Tryd.underlying30 hi va A.length (ints A) hs hA hx ?_
  refine h va wr ⟨?_, hg⟩ ⟨rfl, rfl, rfl, Nat.le_refl _, fun _ _ _ => rfl⟩
  rw [List.append_nil]
  exact hA
 ·refine wp_append_own _ s x 30 ho w.heap.size 3 i0 (.int .i64 0) 1 8 Tryd.underlying30 hi hz0 hz1 hz2 rfl (by decide) va A.length (ints A) hs hA ⟨g, 0, none⟩ B.length cap (ints B) hx (by rw [sl.ints_length]; omega) ?_ ?_ ?_ ?_ ?_ ?_
  ·intro j u hj
   rw [Addr.add_lit, Nat.zero_add]
   have hjl : j < B.length := by
    have := (List.getElem?_eq_some_iff.1 hj).1
    rwa [sl.ints_length] at this
   rw [hB.1.cellAt j (by omega)]
   exact hj
  ·exact ints_oneCell .i64 B
  ·unfold maxLen
   omega
  ·omega
  ·exact hsz
  ·intro v' w1 hown' hgrow _
   refine h v' w1 ⟨?_, ⟨hgrow.os.trans hg.os, hgrow.tape.trans hg.tape, hgrow.output.trans hg.output, Nat.le_trans hsz hgrow.size, fun k hk _ => ?_⟩⟩ hgrow
   ·rw [List.length_append, ints_append]
    exact hown'
   ·rw [hgrow.block k (by omega) (fun e => by have := (hA.lt k e.symm).1; omega)]
    exact hg.block k hk (fun e => by cases e)
theorem stepI {ops : Array Oper} {E : Prop} {o : Oper} {a : Act} {K : Act → World → Prop} {Q : Exit → Act → World → Prop} {w wr : World} {va vb : Value} {A B : List Int} {lo hi : Nat}
  (hg : w.grownBy wr none) (hA : wr.ownsRow w.heap.size 3 1 va A.length (ints A)) (hB : Own lo hi wr vb B) (hl : A.length + B.length ≤ 4194304) (hgd : o.guard = none) (s x : Operand)
  (ho : o.op = .call { callee := .builtin .append, args := #[s, x], argTypes := #[30, 30] }) (hs : a.eval s = va) (hx : a.eval x = vb)
  (h : ∀ v' w1, Made w w1 v' (A ++ B) → wr.grownBy w1 va.ownBlock → K (a.put o.dst v') w1) : if Region.wanted o (yielded ops a.tmps) = true then Oper.wp Tryd.prog o a wr K Q else E := by
 rw [if_pos (by simp [Region.wanted, hgd])]
 exact wpI hg hA hB hl s x ho hs hx h
theorem appendI {ops : Array Oper} {rest : List Oper} {o : Oper} {a : Act} {Q : Exit → Act → World → Prop} {w wr : World} {va vb : Value} {A B : List Int} {lo hi : Nat}
  (hg : w.grownBy wr none) (hA : wr.ownsRow w.heap.size 3 1 va A.length (ints A)) (hB : Own lo hi wr vb B) (hl : A.length + B.length ≤ 4194304) (hgd : o.guard = none) (s x : Operand)
  (ho : o.op = .call { callee := .builtin .append, args := #[s, x], argTypes := #[30, 30] }) (hs : a.eval s = va) (hx : a.eval x = vb)
  (h : ∀ v' w1, Made w w1 v' (A ++ B) → wr.grownBy w1 va.ownBlock → wpList Tryd.prog ops Q rest (a.put o.dst v') w1) : wpList Tryd.prog ops Q (o :: rest) a wr :=
 wpList_plain hgd fun K hK => wpI hg hA hB hl s x ho hs hx fun v' w1 m g => hK _ _ (h v' w1 m g)
theorem wpJ {o : Oper} {a : Act} {K : Act → World → Prop} {Q : Exit → Act → World → Prop} {wr : World} {va vb : Value} {A B : List (List Int)} {lo mid mid' hi : Nat}
  (hA : OwnS lo mid wr va A) (hB : OwnS mid' hi wr vb B) (hm : mid ≤ mid') (hlo : lo ≤ mid') (hh : hi ≤ wr.heap.size) (hls : lo ≤ wr.heap.size) (hl : A.length + B.length ≤ 1048576) (s x : Operand)
  (ho : o.op = .call { callee := .builtin .append, args := #[s, x], argTypes := #[25, 25] }) (hs : a.eval s = va) (hx : a.eval x = vb)
  (h : ∀ v' w1, OwnS lo w1.heap.size w1 v' (A ++ B) → wr.grownBy w1 va.ownBlock → K (a.put o.dst v') w1) : o.wp Tryd.prog a wr K Q := by
 obtain ⟨i0, hi0, hz0, hz1, hz2⟩ := info_parts infoSl
 have hA0 := hA
 obtain ⟨D, rfl, hw, hb, hin, hp⟩ := hA
 obtain ⟨E, rfl, hw', hb', hin', hp'⟩ := hB
 simp only [List.length_map] at hl
 have key : ∀ v' w1, w1.ownsRow lo 30 1 v' (D.length + E.length) (D.map (·.1) ++ E.map (·.1)) → wr.grownBy w1 va.ownBlock → K (a.put o.dst v') w1 := by
  intro v' w1 hown hgrow
  have sz := hgrow.size
  refine h v' w1 ⟨D ++ E, by simp, ?_, fun k e => (hown.lt k e).2, ?_, ?_⟩ hgrow
  ·rw [List.length_append, List.map_append]
   exact hown
  ·intro p hp''
   rw [List.mem_append] at hp''
   rcases hp'' with hp'' | hp''
   ·exact ⟨(hin p hp'').1.kept hgrow (own_ne' hw (hin p hp'').1), fun k e => by have := ((hin p hp'').1.lt k e).2; omega⟩
   ·exact ⟨(own_mono (hin' p hp'').1 hlo).kept hgrow (own_ne' hw (hin' p hp'').1), fun k e => by have := ((hin' p hp'').1.lt k e).2; omega⟩
  ·rw [List.pairwise_append]
   refine ⟨hp, hp', fun p hp1 q hq => ?_⟩
   intro k e e'
   have h1 := (hin p hp1).2 k e
   have h2 := ((hin' q hq).1.lt k e').1
   omega
 have hw2 := hw'
 obtain ⟨_, h2⟩ := hw'
 rcases h2 with ⟨rfl, h0⟩ | ⟨g, cap, cur, rfl, hgb, hhh, hn, hmm, hsc, ht⟩
 ·have e : E = [] := List.eq_nil_of_length_eq_zero h0
  subst e
  refine wp_none s x 25 ho lo 30 i0 1 Tryd.underlying25 hi0 va D.length (D.map (·.1)) hs hw hx ?_
  refine key va wr ?_ ⟨rfl, rfl, rfl, Nat.le_refl _, fun _ _ _ => rfl⟩
  simpa using hw
 ·refine wp_append_own _ s x 25 ho lo 30 i0 (.slice none 0 0) 1 24 Tryd.underlying25 hi0 hz0 hz1 hz2 rfl (by decide) va D.length (D.map (·.1)) hs hw ⟨g, 0, none⟩ E.length cap (E.map (·.1)) hx (by rw [List.length_map]; omega) ?_ ?_ ?_ ?_ ?_ ?_
  ·intro j u hj
   rw [Addr.add_lit, Nat.zero_add]
   have hjl : j < E.length := by
    have := (List.getElem?_eq_some_iff.1 hj).1
    rwa [List.length_map] at this
   rw [hw2.cellAt j (by omega)]
   exact hj
  ·intro u hu
   rw [List.mem_map] at hu
   obtain ⟨p, hp1, rfl⟩ := hu
   exact gr.own_one (hin' p hp1)
  ·unfold maxLen
   omega
  ·omega
  ·exact hls
  ·intro v' w1 hown' hgrow _
   exact key v' w1 hown' hgrow
theorem grown_app {w w1 w2 : World} {o : Obj} {v : Value} {n : Nat} {xs : List Value} {t : TypeId} (g : w.grownBy w1 none) (hw : w1.ownsRow w.heap.size t 1 v n xs) (g1 : (w1.alloc o).grownBy w2 v.ownBlock) : w.grownBy w2 none := by
 have hgA : w.grownBy (w1.alloc o) none := grown_trans g (World.grownBy_alloc w1 o none)
 exact ⟨g1.os.trans hgA.os, g1.tape.trans hgA.tape, g1.output.trans hgA.output, Nat.le_trans hgA.size g1.size, fun k hk _ => by
  rw [g1.block k (Nat.lt_of_lt_of_le hk hgA.size) (fun e => by have := (hw.lt k e.symm).1; omega)]
  exact hgA.block k hk (fun e => by cases e)⟩
theorem grown_joinS {hi : Nat} {w w1 w2 : World} {v : Value} {LL : List (List Int)} (g : w.grownBy w1 none) (h : OwnS w.heap.size hi w1 v LL) (g1 : w1.grownBy w2 v.ownBlock) : w.grownBy w2 none := by
 obtain ⟨D, rfl, hw, _⟩ := h
 exact ⟨g1.os.trans g.os, g1.tape.trans g.tape, g1.output.trans g.output, Nat.le_trans g.size g1.size, fun k hk _ => by
  rw [g1.block k (Nat.lt_of_lt_of_le hk g.size) (fun e => by have := (hw.lt k e.symm).1; omega)]
  exact g.block k hk (fun e => by cases e)⟩
end Go.Proofs.YtfhmdpbnnieohaaDoor.app
namespace Go.Proofs.YtfhmdpbnnieohaaDoor.ct
open Go.ChangeShapes Go.WideShapes Go.ChangeAt Go.RowKit
open sl (Sl Own ints hide unhide ret_int ret_bool grown_refl grown_trans grown_drewN below_of of_below)
open css (Sls OwnS tot)
open cf (Box)
open ok (cnfB)
open tr (cnfT clT)
open wo (Made)
open cnt (cntR asg)
set_option linter.unusedVariables false
attribute [local go_sem ↓] Go.wp_at_zero Go.wp_at_succ
theorem pow_bd {n : Nat} (h : n ≤ 14) : 2 ^ n ≤ 16384 := Nat.pow_le_pow_right (by decide) h
def countN (m : Nat) (LL : List (List Int)) : Nat := cntR (2 ^ m) (fun k => cnfT (asg m k []) LL)
def countI (n : Int) (LL : List (List Int)) : Int := if cnfB n LL && decide (n ≤ 14) then (countN n.toNat LL : Int) else -1
end Go.Proofs.YtfhmdpbnnieohaaDoor.ct
