/- Clauses kept in one list, with where each of them ends: put, full and lists of the program's clauseList; no condition but on the sizes. -/
import Derived.Test.YtfhmdpbnnieohaaDoorJPn
import Derived.Maps.AppendAt
import Derived.Laws.CopyOwn
import Derived.Deep.RegionLaw
import Derived.Deep.RegionHeld3
import Derived.Deep.AppendLies
namespace Go.Proofs.YtfhmdpbnnieohaaDoor.ck
open Go.ChangeShapes Go.WideShapes Go.ChangeAt Go.RowKit
open css (own_kind own_mono)
open sl (ints hide unhide grown_refl grown_trans)
set_option linter.unusedVariables false
def endsOf (LL : List (List Int)) : List Int := (List.range LL.length).map fun i => (((LL.take (i + 1)).flatten.length : Nat) : Int)
theorem ends_len (LL : List (List Int)) : (endsOf LL).length = LL.length := by simp [endsOf]
theorem ends_at {LL : List (List Int)} {i : Nat} (h : i < LL.length) : (endsOf LL)[i]? = some (((LL.take (i + 1)).flatten.length : Nat) : Int) := by simp [endsOf, h]
theorem ends_snoc (LL : List (List Int)) (C : List Int) : endsOf (LL ++ [C]) = endsOf LL ++ [((LL.flatten ++ C).length : Int)] := by
 apply List.ext_getElem?
 intro i
 by_cases h : i < LL.length
 ·rw [ends_at (by rw [List.length_append]; omega), List.getElem?_append_left (by rw [ends_len]; exact h), ends_at h, List.take_append_of_le_length (by omega)]
 ·by_cases e : i = LL.length
  ·subst e
   rw [ends_at (by simp), List.getElem?_append_right (by rw [ends_len]; exact Nat.le_refl _), ends_len, Nat.sub_self]
   rw [List.take_of_length_le (by simp)]
   simp
  ·rw [List.getElem?_eq_none (by rw [ends_len, List.length_append]; simp; omega), List.getElem?_eq_none (by rw [List.length_append, ends_len]; simp; omega)]
structure Bo (t : TypeId) (pr : List Value) (o : Nat) (w : World) (c : Nat) (x y : Value) : Prop where
 blk : w.heap[c]? = some (.cells (pr ++ [x, y]).toArray t (0, 0))
 ho : pr.length = o
 ty : (3 : Nat) ≠ t
theorem Bo.c0 {t : TypeId} {pr : List Value} {o : Nat} {w : World} {c : Nat} {x y : Value} (h : Bo t pr o w c x y) : w.cell? ⟨c, o, none⟩ = some x := by
 have e := h.ho
 subst e
 simp [World.cell?, h.blk]
theorem Bo.c1 {t : TypeId} {pr : List Value} {o : Nat} {w : World} {c : Nat} {x y : Value} (h : Bo t pr o w c x y) : w.cell? ⟨c, o + 1, none⟩ = some y := by
 have e := h.ho
 subst e
 simp [World.cell?, h.blk]
theorem Bo.f {t : TypeId} {pr : List Value} {o : Nat} {w : World} {c : Nat} {x y : Value} (h : Bo t pr o w c x y) (i : Nat) : w.frozen? ⟨c, i, none⟩ = false := by
 simp [World.frozen?, h.blk]
theorem Bo.lt {t : TypeId} {pr : List Value} {o : Nat} {w : World} {c : Nat} {x y : Value} (h : Bo t pr o w c x y) : c < w.heap.size := (Array.getElem?_eq_some_iff.1 h.blk).1
theorem Bo.by {t : TypeId} {pr : List Value} {o : Nat} {w w' : World} {c : Nat} {x y : Value} {r : Option Nat} (h : Bo t pr o w c x y) (g : w.grownBy w' r) (hr : r ≠ some c) : Bo t pr o w' c x y :=
 ⟨by rw [g.block c h.lt (fun e => hr e.symm)]; exact h.blk, h.ho, h.ty⟩
theorem Bo.kept {t : TypeId} {pr : List Value} {o : Nat} {w w' : World} {c : Nat} {x y : Value} (h : Bo t pr o w c x y) (g : w.grownBy w' none) : Bo t pr o w' c x y := h.by g (fun e => by cases e)
theorem Bo.set0 {t : TypeId} {pr : List Value} {o : Nat} {w : World} {c : Nat} {x y : Value} (h : Bo t pr o w c x y) (u : Value) : Bo t pr o (w.setCell ⟨c, o, none⟩ u) c u y := by
 have e := h.ho
 subst e
 refine ⟨?_, rfl, h.ty⟩
 simp [World.setCell, Array.getElem?_modify, h.blk]
theorem Bo.set1 {t : TypeId} {pr : List Value} {o : Nat} {w : World} {c : Nat} {x y : Value} (h : Bo t pr o w c x y) (u : Value) : Bo t pr o (w.setCell ⟨c, o + 1, none⟩ u) c x u := by
 have e := h.ho
 subst e
 refine ⟨?_, rfl, h.ty⟩
 simp [World.setCell, Array.getElem?_modify, h.blk]
structure Cl (t : TypeId) (pr : List Value) (o : Nat) (W0 w : World) (c : Nat) (va ve : Value) (LL : List (List Int)) : Prop where
 bx : Bo t pr o w c va ve
 l : w.ownsRow W0.heap.size 3 1 va LL.flatten.length (ints LL.flatten)
 e : w.ownsRow W0.heap.size 3 1 ve LL.length (ints (endsOf LL))
 ap : ∀ k, va.ownBlock = some k → ve.ownBlock ≠ some k
 g : W0.grownBy w none
 hc : W0.heap.size ≤ c
theorem ne_none (v : Value) : v.ownBlock = none ∨ v.ownBlock ≠ none := by
 cases v.ownBlock with
 | none => exact .inl rfl
 | some k => exact .inr (by simp)
theorem Cl.kept {t : TypeId} {pr : List Value} {o : Nat} {W0 w w' : World} {c : Nat} {va ve : Value} {LL : List (List Int)} (h : Cl t pr o W0 w c va ve LL) (g : w.grownBy w' none) : Cl t pr o W0 w' c va ve LL :=
 ⟨h.bx.kept g, h.l.kept g (ne_none _), h.e.kept g (ne_none _), h.ap, grown_trans h.g g, h.hc⟩
structure Mv (c : Nat) (va ve va' ve' : Value) (w w' : World) : Prop where
 os : w'.os = w.os
 tape : w'.tape = w.tape
 output : w'.output = w.output
 size : w.heap.size ≤ w'.heap.size
 block : ∀ k, k < w.heap.size → k ≠ c → va.ownBlock ≠ some k → ve.ownBlock ≠ some k → w'.heap[k]? = w.heap[k]?
 fa : ∀ k, va'.ownBlock = some k → va.ownBlock = some k ∨ w.heap.size ≤ k
 fe : ∀ k, ve'.ownBlock = some k → ve.ownBlock = some k ∨ w.heap.size ≤ k
theorem Mv.make {c i j : Nat} {va ve va' ve' u u' : Value} {w w1 w2 w3 : World} (k1 : w.grownBy w1 va.ownBlock) (h1 : va'.ownBlock = va.ownBlock ∨ va'.ownBlock = some w.heap.size) (g : (w1.setCell ⟨c, i, none⟩ u).grownBy w2 none) (k3 : w2.grownBy w3 ve.ownBlock) (h3 : ve'.ownBlock = ve.ownBlock ∨ ve'.ownBlock = some w2.heap.size) : Mv c va ve va' ve' w (w3.setCell ⟨c, j, none⟩ u') := by
 have a := sl.grown_setCell w1 c i u
 have b := sl.grown_setCell w3 c j u'
 have s1 := k1.size
 have s2 := a.size
 have s3 := g.size
 have s4 := k3.size
 refine ⟨b.os.trans (k3.os.trans (g.os.trans (a.os.trans k1.os))), b.tape.trans (k3.tape.trans (g.tape.trans (a.tape.trans k1.tape))), b.output.trans (k3.output.trans (g.output.trans (a.output.trans k1.output))), by have := b.size; omega, fun k hk hc ha he => ?_, fun k q => ?_, fun k q => ?_⟩
 ·rw [b.block k (by omega) (fun e => hc (by cases e; rfl)), k3.block k (by omega) (fun e => he e.symm), g.block k (by omega) (fun e => by cases e), a.block k (by omega) (fun e => hc (by cases e; rfl)), k1.block k hk (fun e => ha e.symm)]
 ·rcases h1 with z | z
  ·exact .inl (z ▸ q)
  ·rw [z] at q
   cases q
   exact .inr (Nat.le_refl _)
 ·rcases h3 with z | z
  ·exact .inl (z ▸ q)
  ·rw [z] at q
   cases q
   exact .inr (by omega)
theorem row_nec {w : World} {b n z c : Nat} {e t : TypeId} {fz : Nat × Nat} {v : Value} {xs : List Value} {cs : Array Value} (h : w.ownsRow b e z v n xs) (hc : w.heap[c]? = some (.cells cs t fz)) (he : (e : Nat) ≠ t) : v.ownBlock = none ∨ v.ownBlock ≠ some c := by
 cases q : v.ownBlock with
 | none => exact .inl rfl
 | some g =>
  right
  intro q'
  cases q'
  obtain ⟨c', fz', hc'⟩ := own_kind h c q
  rw [hc'] at hc
  simp only [Option.some.injEq, Obj.cells.injEq] at hc
  exact he hc.2.1
theorem grow_row {W0 w w1 : World} {v : Value} {n : Nat} {xs : List Value} (h : w.ownsRow W0.heap.size 3 1 v n xs) (g : W0.grownBy w none) (k : w.grownBy w1 v.ownBlock) : W0.grownBy w1 none :=
 ⟨k.os.trans g.os, k.tape.trans g.tape, k.output.trans g.output, Nat.le_trans g.size k.size, fun j hj _ => (k.block j (Nat.lt_of_lt_of_le hj g.size) (fun e => by have := (h.lt j e.symm).1; omega)).trans (g.block j hj (fun e => by cases e))⟩
theorem grow_box {W0 w : World} {c i : Nat} {u : Value} (g : W0.grownBy w none) (hc : W0.heap.size ≤ c) : W0.grownBy (w.setCell ⟨c, i, none⟩ u) none := by
 have k := sl.grown_setCell w c i u
 exact ⟨k.os.trans g.os, k.tape.trans g.tape, k.output.trans g.output, Nat.le_trans g.size k.size, fun j hj _ => (k.block j (Nat.lt_of_lt_of_le hj g.size) (fun e => by cases e; omega)).trans (g.block j hj (fun e => by cases e))⟩
theorem Cl.lits {t : TypeId} {pr : List Value} {o : Nat} {W0 w w1 : World} {c : Nat} {va ve v' : Value} {LL : List (List Int)} {C : List Int} (h : Cl t pr o W0 w c va ve LL) (ho : w1.ownsRow W0.heap.size 3 1 v' (LL.flatten ++ C).length (ints (LL.flatten ++ C))) (k : w.grownBy w1 va.ownBlock)
  (hat : v'.ownBlock = va.ownBlock ∨ v'.ownBlock = some w.heap.size) :
  Bo t pr o w1 c va ve ∧ Bo t pr o (w1.setCell ⟨c, o, none⟩ v') c v' ve ∧ (w1.setCell ⟨c, o, none⟩ v').ownsRow W0.heap.size 3 1 v' (LL.flatten ++ C).length (ints (LL.flatten ++ C)) ∧
   (w1.setCell ⟨c, o, none⟩ v').ownsRow W0.heap.size 3 1 ve LL.length (ints (endsOf LL)) ∧ (∀ k, v'.ownBlock = some k → ve.ownBlock ≠ some k) ∧ W0.grownBy (w1.setCell ⟨c, o, none⟩ v') none := by
 have hb1 : Bo t pr o w1 c va ve := h.bx.by k (fun e => by
  rcases row_nec h.l h.bx.blk h.bx.ty with q | q
  ·rw [q] at e; cases e
  ·exact q e)
 have e1 : w1.ownsRow W0.heap.size 3 1 ve LL.length (ints (endsOf LL)) := h.e.kept k (by
  cases q : ve.ownBlock with
  | none => exact .inl rfl
  | some j => exact .inr (fun z => h.ap j z.symm q))
 have st := sl.grown_setCell w1 c o v'
 refine ⟨hb1, hb1.set0 v', ho.kept st (row_nec ho hb1.blk hb1.ty), e1.kept st (row_nec e1 hb1.blk hb1.ty), fun j q q' => ?_, grow_box (grow_row h.l h.g k) h.hc⟩
 rcases hat with z | z
 ·exact h.ap j (z ▸ q) q'
 ·rw [z] at q
  cases q
  have := (h.e.lt _ q').2
  omega
theorem Cl.ends {t : TypeId} {pr : List Value} {o : Nat} {W0 w w0 w1 : World} {c : Nat} {va ve v' : Value} {LL : List (List Int)} {C : List Int} (hb : Bo t pr o w c va ve) (hl : w.ownsRow W0.heap.size 3 1 va (LL.flatten ++ C).length (ints (LL.flatten ++ C)))
  (he : w.ownsRow W0.heap.size 3 1 ve LL.length (ints (endsOf LL))) (hap : ∀ k, va.ownBlock = some k → ve.ownBlock ≠ some k) (hg : W0.grownBy w none) (hc : W0.heap.size ≤ c)
  (g0 : w.grownBy w0 none) (ho : w1.ownsRow W0.heap.size 3 1 v' (LL.length + 1) (ints (endsOf LL) ++ [.int .i64 ((LL.flatten ++ C).length : Int)])) (k : w0.grownBy w1 ve.ownBlock)
  (hat : v'.ownBlock = ve.ownBlock ∨ v'.ownBlock = some w0.heap.size) : Bo t pr o w1 c va ve ∧ Cl t pr o W0 (w1.setCell ⟨c, o + 1, none⟩ v') c va v' (LL ++ [C]) := by
 have hb0 := hb.kept g0
 have he0 := he.kept g0 (ne_none _)
 have hl0 := hl.kept g0 (ne_none _)
 have hb1 : Bo t pr o w1 c va ve := hb0.by k (fun e => by
  rcases row_nec he0 hb0.blk hb0.ty with q | q
  ·rw [q] at e; cases e
  ·exact q e)
 have l1 : w1.ownsRow W0.heap.size 3 1 va (LL.flatten ++ C).length (ints (LL.flatten ++ C)) := hl0.kept k (by
  cases q : va.ownBlock with
  | none => exact .inl rfl
  | some j => exact .inr (fun z => hap j q z.symm))
 have st := sl.grown_setCell w1 c (o + 1) v'
 have ef : (LL ++ [C]).flatten = LL.flatten ++ C := by simp
 have ei : ints (endsOf (LL ++ [C])) = ints (endsOf LL) ++ [.int .i64 ((LL.flatten ++ C).length : Int)] := by
  rw [ends_snoc]
  simp [sl.ints]
 refine ⟨hb1, ⟨hb1.set1 v', ?_, ?_, fun j q q' => ?_, grow_box (grow_row he0 (grown_trans hg g0) k) hc, hc⟩⟩
 ·rw [ef]
  exact l1.kept st (row_nec l1 hb1.blk hb1.ty)
 ·rw [ei, List.length_append, List.length_singleton]
  exact ho.kept st (row_nec ho hb1.blk hb1.ty)
 ·rcases hat with z | z
  ·exact hap j q (z ▸ q')
  ·rw [z] at q'
   cases q'
   have := (hl0.lt _ q).2
   omega
theorem appC {ops : Array Oper} {rest : List Oper} {o : Oper} {a : Act} {Q : Exit → Act → World → Prop} {W0 w : World} {va u : Value} {A C F : List Int} {lo : Nat} (hF : A ++ C = F)
  (hA : w.ownsRow W0.heap.size 3 1 va A.length (ints A)) (hg : W0.grownBy w none) (hu : w.ownsRow lo 3 1 u C.length (ints C)) (hl : A.length + C.length ≤ 4194304) (hgd : o.guard = none) (s x : Operand)
  (ho : o.op = .call { callee := .builtin .append, args := #[s, x], argTypes := #[30, 30] }) (hs : a.eval s = va) (hx : a.eval x = u)
  (h : ∀ v' w1, w1.ownsRow W0.heap.size 3 1 v' F.length (ints F) → w.grownBy w1 va.ownBlock → (v'.ownBlock = va.ownBlock ∨ v'.ownBlock = some w.heap.size) → wpList Tryd.prog ops Q rest (a.put o.dst v') w1) :
  wpList Tryd.prog ops Q (o :: rest) a w := by
 obtain ⟨i0, hi, hz0, hz1, hz2⟩ := info_parts sl.info3
 subst hF
 have hu' := hu
 rcases hu'.2 with ⟨e, h0⟩ | ⟨g, cap, cur, e, hgb, hh, hn, hm, hsc, ht⟩
 ·have eC : C = [] := List.eq_nil_of_length_eq_zero h0
  subst eC
  refine wpList_plain hgd fun K hK => app.wp_none s x 30 ho W0.heap.size 3 i0 1 Tryd.underlying30 hi va A.length (ints A) hs hA (hx.trans e) (hK _ _ (h va w ?_ ⟨rfl, rfl, rfl, Nat.le_refl _, fun _ _ _ => rfl⟩ (.inl rfl)))
  rw [List.append_nil]
  exact hA
 ·subst e
  refine wpList_append_own_at w hgd s x 30 ho W0.heap.size 3 i0 (.int .i64 0) 1 8 Tryd.underlying30 hi hz0 hz1 hz2 rfl (by decide) va A.length (ints A) hs hA ⟨g, 0, none⟩ C.length cap (ints C) hx (by rw [sl.ints_length]; omega) ?_ (ints_oneCell .i64 C) (by unfold maxLen; omega) (by omega) hg.size ?_
  ·intro j y hj
   have hjl : j < C.length := by
    have := (List.getElem?_eq_some_iff.1 hj).1
    rwa [sl.ints_length] at this
   rw [Addr.add_lit, Nat.zero_add, hu.cellAt j (by omega)]
   exact hj
  ·intro v' w1 h1 h2 _ h4
   refine h v' w1 ?_ h2 h4
   rw [List.length_append, app.ints_append]
   exact h1
theorem end0 {P : Program} {fn : Func} {R : Ending → World → Prop} {a : Act} {w : World} (h : fn.results = #[]) (hd : a.defers = []) (hr : R (.returned (.tuple #[])) w) : bodyPost P fn R .normal a w :=
 ⟨hd, _, by simp [results, h], hr⟩
theorem full {t : TypeId} {pr : List Value} {o : Nat} (c : Nat) {W0 : World} {va ve : Value} {LL : List (List Int)} (w : World) (hL : LL.length ≤ 4194304) (h : Cl t pr o W0 w c va ve LL) :
  Calls Tryd.prog 49 #[.pointer (some ⟨c, o, none⟩)] w fun e w' => e = .returned (.bool (decide (LL.length = 700))) ∧ w' = w := by
 have x1 := h.bx.c1
 obtain ⟨a, cap, rfl⟩ : ∃ a cap, ve = .slice a LL.length cap := by
  rcases h.e.2 with ⟨hv, h0⟩ | ⟨g, cap, cur, hv, _⟩
  ·exact ⟨none, 0, by rw [hv, h0]⟩
  ·exact ⟨_, cap, hv⟩
 have hb : ((LL.length : Int) == 700) = decide (LL.length = 700) := by
  rw [Bool.eq_iff_iff, decide_eq_true_iff, beq_iff_eq]
  omega
 clear h
 go_enter Tryd.func49, Tryd.ntmps49
 go_wp2
 go_ret
 exact ⟨rfl, rfl⟩
theorem stepE {ops : Array Oper} {E : Prop} {o : Oper} {a : Act} {K : Act → World → Prop} {Q : Exit → Act → World → Prop} {W0 wr : World} {b : Nat} {v : Value} {L : List Int} {y : Int} {n : Nat}
  (hw : wr.ownsRow W0.heap.size 3 1 v n (ints L)) (hb : wr.cell? ⟨b, 0, none⟩ = some (.int .i64 y)) (hL : n ≤ 4194304) (hg : W0.heap.size ≤ wr.heap.size) (hgd : o.guard = none) (s x : Operand)
  (ho : o.op = .call { callee := .builtin .append, args := #[s, x], argTypes := #[30, 30] }) (hs : a.eval s = v) (hx : a.eval x = .slice (some ⟨b, 0, none⟩) 1 1)
  (hK : ∀ g cap w1, w1.ownsRow W0.heap.size 3 1 (.slice (some ⟨g, 0, none⟩) (n + 1) cap) (n + 1) (ints L ++ [.int .i64 y]) → wr.grownBy w1 v.ownBlock → ((Value.slice (some ⟨g, 0, none⟩) (n + 1) cap).ownBlock = v.ownBlock ∨ (Value.slice (some ⟨g, 0, none⟩) (n + 1) cap).ownBlock = some wr.heap.size) → K (a.put o.dst (.slice (some ⟨g, 0, none⟩) (n + 1) cap)) w1) :
  if Region.wanted o (yielded ops a.tmps) = true then Oper.wp Tryd.prog o a wr K Q else E := by
 obtain ⟨i0, hi, hz0, hz1, hz2⟩ := info_parts sl.info3
 refine step_append_lies _ hgd s x 30 ho W0.heap.size 3 i0 (.int .i64 0) 1 8 Tryd.underlying30 hi hz0 hz1 hz2 rfl (by decide) v n (ints L) hs hw ⟨b, 0, none⟩ 1 1 [.int .i64 y] hx rfl ?_ ?_ (by decide) ?_ ?_ hg wr.heap.size rfl ?_
 ·intro j u hj
  match j, hj with
  | 0, hj => simp at hj; subst hj; simpa [Addr.add] using hb
 ·intro u hu
  simp at hu
  subst hu
  rfl
 ·unfold maxLen; omega
 ·omega
 ·intro g cap w1 h1 hg' hl _
  exact hK g cap w1 h1 hg' (by rcases hl with q | q; exact .inl q.symm; exact .inr (by rw [q]; rfl))
set_option maxRecDepth 100000 in
set_option maxHeartbeats 4000000 in
theorem put {t : TypeId} {pr : List Value} {o : Nat} (c : Nat) {W0 : World} {va ve u : Value} {LL : List (List Int)} {C : List Int} {lo : Nat} (w : World) (hL : LL.length ≤ 4194303) (hF : LL.flatten.length + C.length ≤ 4194304) (h : Cl t pr o W0 w c va ve LL) (hu : w.ownsRow lo 3 1 u C.length (ints C)) :
  Calls Tryd.prog 50 #[.pointer (some ⟨c, o, none⟩), u] w fun e w' => e = .returned (.tuple #[]) ∧ ∃ va' ve', Cl t pr o W0 w' c va' ve' (LL ++ [C]) ∧ Mv c va ve va' ve' w w' := by
 have x0 := h.bx.c0
 have f0 := h.bx.f o
 have NX := fun (w1 : World) (v' : Value) ho k hat => h.lits (C := C) (w1 := w1) (v' := v') ho k hat
 have NE := fun (w2 w0 w1 : World) (va v' : Value) hb hl he hap hg g0 ho k hat => Cl.ends (t := t) (pr := pr) (o := o) (LL := LL) (C := C) (W0 := W0) (w := w2) (w0 := w0) (w1 := w1) (c := c) (va := va) (ve := ve) (v' := v') hb hl he hap hg h.hc g0 ho k hat
 have HL := h.l
 have HG := hide h.g
 have HU := hide hu
 obtain ⟨F, hF0⟩ : ∃ F, LL.flatten ++ C = F := ⟨_, rfl⟩
 obtain ⟨A, hA0⟩ : ∃ A, LL.flatten = A := ⟨_, rfl⟩
 rw [hF0] at NX NE
 rw [hA0] at HL hF hF0
 have hFl : F.length ≤ 4194304 := by rw [← hF0, List.length_append]; exact hF
 have HF0 := hide hF0
 have HF := hide hF
 have NX' := hide NX
 have NE' := hide NE
 have HL' := hide HL
 obtain ⟨ea, ec, ee⟩ : ∃ a cap, ve = .slice a LL.length cap := by
  rcases h.e.2 with ⟨hv, h0⟩ | ⟨g, cap, cur, hv, _⟩
  ·exact ⟨none, 0, by rw [hv, h0]⟩
  ·exact ⟨_, cap, hv⟩
 have he0 := ends_len LL
 have HEL := hide he0
 subst ee
 clear h hu NX NE HL hF0 hA0 hF he0
 go_enter Tryd.func50, Tryd.ntmps50
 go_wp2_with (at_builtin; refine appC (unhide HF0) (unhide HL') (unhide HG) (unhide HU) (unhide HF) rfl _ _ rfl rfl rfl ?_)
 intro v1 w1 o1 k1 hat1
 obtain ⟨b1, b2, l2, e2, ap2, g2⟩ := unhide NX' w1 v1 o1 k1 hat1
 obtain ⟨la, lc, el⟩ : ∃ a cap, v1 = .slice a F.length cap := by
  rcases o1.2 with ⟨hv, h0⟩ | ⟨g, cap, cur, hv, _⟩
  ·exact ⟨none, 0, by rw [hv, h0]⟩
  ·exact ⟨_, cap, hv⟩
 subst el
 have y0 := b1.c0
 have yf := b1.f o
 have MV : Hid (∀ w2 w3 v3 u u', (w1.setCell ⟨c, o, none⟩ u).grownBy w2 none → w2.grownBy w3 (Value.slice ea LL.length ec).ownBlock → (v3.ownBlock = (Value.slice ea LL.length ec).ownBlock ∨ v3.ownBlock = some w2.heap.size) → Mv c va (.slice ea LL.length ec) (.slice la F.length lc) v3 w (w3.setCell ⟨c, o + 1, none⟩ u')) := fun w2 w3 v3 u u' g k h => Mv.make k1 hat1 g k h
 have B2 := hide b2
 have L2 := hide l2
 have E2 := hide e2
 have AP2 := hide ap2
 have G2 := hide g2
 clear x0 f0 NX' HL' HG HU k1 o1 hat1 b1 b2 l2 e2 ap2 g2
 go_wp2_with fail
 clear y0 yf
 obtain ⟨W2, hW2⟩ : ∃ W2, W2 = w1.setCell ⟨c, o, none⟩ (.slice la F.length lc) := ⟨_, rfl⟩
 rw [← hW2] at B2 L2 E2 G2
 have MV2 : Hid (∀ w2 w3 v3 u', W2.grownBy w2 none → w2.grownBy w3 (Value.slice ea LL.length ec).ownBlock → (v3.ownBlock = (Value.slice ea LL.length ec).ownBlock ∨ v3.ownBlock = some w2.heap.size) → Mv c va (.slice ea LL.length ec) (.slice la F.length lc) v3 w (w3.setCell ⟨c, o + 1, none⟩ u')) := by
  intro w2 w3 v3 u' g k h
  rw [hW2] at g
  exact unhide MV w2 w3 v3 _ u' g k h
 clear MV
 rw [← hW2]
 clear hW2
 have z0 := (unhide B2).c0
 have z1 := (unhide B2).c1
 have zf := (unhide B2).f (o + 1)
 have gA := World.grownBy_alloc W2 (.cells #[.int .i64 (F.length : Int)] 3) none
 have GA := hide (grown_trans (r := none) gA (cf.grown_drew _ none))
 have NB : Hid ((W2.alloc (.cells #[.int .i64 (F.length : Int)] 3)).drew.cell? ⟨W2.heap.size, 0, none⟩ = some (.int .i64 (F.length : Int))) := by
  show (W2.alloc (.cells #[.int .i64 (F.length : Int)] 3)).cell? _ = _
  simp
 have EO := (unhide E2).kept (unhide GA) (ne_none _)
 have EO' := hide EO
 have ne0 := World.new_ne W2 _ z0
 have a0 := ((unhide B2).kept gA).c0
 have a1 := ((unhide B2).kept gA).c1
 have HEB : Hid (LL.length ≤ 4194304) := by show _ ≤ _; omega
 have HSZ : Hid (W0.heap.size ≤ ((W2.alloc (.cells #[.int .i64 (F.length : Int)] 3)).drew).heap.size) := Nat.le_trans (unhide G2).size (unhide GA).size
 have NEW := hide (fun (w3 : World) (v' : Value) ho k hat => And.intro (unhide NE' W2 _ w3 (.slice la F.length lc) v' (unhide B2) (unhide L2) (unhide E2) (unhide AP2) (unhide G2) (unhide GA) ho k hat) (unhide MV2 _ w3 v' v' (unhide GA) k hat))
 clear gA EO NE' MV2
 go_region_law (first
  | (refine stepE (unhide EO') (unhide NB) (unhide HEB) (unhide HSZ) rfl _ _ rfl rfl rfl ?_; intro g3 c3 w3 o3 k3 hat3; obtain ⟨⟨b3, r3⟩, m3⟩ := unhide NEW w3 _ o3 k3 hat3; have q1 := b3.c1; have qf := b3.f (o + 1); have q0 := b3.c0; have R3 := hide (And.intro r3 m3); clear o3 k3 hat3 b3 r3 m3))
 all_goals
  go_wp2_with fail
  exact end0 rfl rfl ⟨rfl, _, _, unhide R3⟩
end Go.Proofs.YtfhmdpbnnieohaaDoor.ck
