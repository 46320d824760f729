/- Lists of lists whose outer row is the call's own, while the lists in it may be others': a copy of the outer row, and one list more behind it, in a struct variable; no condition but on sizes. -/
import Derived.Test.YtibpnocpafppaaaDoorJXApp
namespace Go.Proofs.YtibpnocpafppaaaDoor.ni
open Go.ChangeShapes Go.WideShapes Go.ChangeAt Go.RowKit
open sl (Sl Own ints hide unhide ret_int ret_bool grown_refl grown_trans grown_drewN below_of of_below)
open css (Sls OwnS tot own_ne own_ne' own_kind own_mono infoSl)
open cf (Box)
set_option linter.unusedVariables false
def Lst (lo : Nat) (w : World) (v : Value) (M : List (List Int)) : Prop :=
 ∃ D : List (Value × List Int), D.map (·.2) = M ∧ w.ownsRow lo 31 1 v D.length (D.map (·.1)) ∧ ∀ p ∈ D, w.ownsRow 0 3 1 p.1 p.2.length (ints p.2)
theorem row_kept {w w' : World} {lo n : Nat} {t : TypeId} {v : Value} {xs : List Value} (h : w.ownsRow lo t 1 v n xs) (g : w.grownBy w' none) : w'.ownsRow lo t 1 v n xs := h.kept g (by
 cases v.ownBlock with
 | none => exact .inl rfl
 | some k => exact .inr (fun e => by cases e))
theorem Lst.kept {lo : Nat} {w w' : World} {v : Value} {M : List (List Int)} (h : Lst lo w v M) (g : w.grownBy w' none) : Lst lo w' v M := by
 obtain ⟨D, e, ho, hin⟩ := h
 exact ⟨D, e, row_kept ho g, fun p hp => row_kept (hin p hp) g⟩
theorem Lst.sls {lo : Nat} {w : World} {v : Value} {M : List (List Int)} (h : Lst lo w v M) : Sls w v M := by
 obtain ⟨D, rfl, ho, hin⟩ := h
 have ho' := ho
 obtain ⟨_, h2⟩ := ho
 rcases h2 with ⟨rfl, h0⟩ | ⟨g, cap, cur, rfl, hg, hh, hn, hm, hs, ht⟩
 ·have : D = [] := List.eq_nil_of_length_eq_zero h0
  subst this
  exact ⟨none, 0, rfl, .inl rfl⟩
 ·refine ⟨some ⟨g, 0, none⟩, cap, by rw [List.length_map], .inr ⟨g, 0, rfl, (Array.getElem?_eq_some_iff.1 hh).1, fun i hi' => ?_⟩⟩
  rw [List.length_map] at hi'
  refine ⟨D[i].1, ?_, ?_⟩
  ·rw [Nat.zero_add, ho'.cellAt i (by omega)]
   simp [hi']
  ·rw [css.map2_getD hi']
   exact Sl.of_own (hin _ (List.getElem_mem hi'))
theorem Lst.len {lo : Nat} {w : World} {v : Value} {M : List (List Int)} (h : Lst lo w v M) : ∃ a cap, v = .slice a M.length cap := by
 obtain ⟨a, cap, e, _⟩ := h.sls
 exact ⟨a, cap, e⟩
theorem grown_t {a b c : World} {r : Option Nat} (h : a.grownBy b r) (k : b.grownBy c r) : a.grownBy c r := sl.grown_trans' h k
theorem stepL {ops : Array Oper} {o : Oper} {a : Act} {K : Act → World → Prop} {Q : Exit → Act → World → Prop} {E : Prop} {lo : Nat} {wr : World} {v u : Value} {M : List (List Int)} {L : List Int}
  (h : Lst lo wr v M) (hu : wr.ownsRow 0 3 1 u L.length (ints L)) (hlo : lo ≤ wr.heap.size) (hM : M.length ≤ 1048576) (hgd : o.guard = none) (s x : Operand)
  (ho : o.op = .call { callee := .builtin .append, args := #[s, x], argTypes := #[24, 24] }) (hs : a.eval s = v) (hx : a.eval x = .slice (some ⟨wr.heap.size, 0, none⟩) 1 1)
  (hK : ∀ g cap w1, Lst lo w1 (.slice (some ⟨g, 0, none⟩) (M.length + 1) cap) (M ++ [L]) → (wr.alloc (.cells #[u] 31)).grownBy w1 v.ownBlock → K (a.put o.dst (.slice (some ⟨g, 0, none⟩) (M.length + 1) cap)) w1) :
  if Region.wanted o (yielded ops a.tmps) = true then Oper.wp Tryd.prog o a (wr.alloc (.cells #[u] 31)) K Q else E := by
 obtain ⟨i0, hi, hz0, hz1, hz2⟩ := info_parts infoSl
 obtain ⟨D, rfl, hw, hin⟩ := h
 rw [List.length_map] at *
 refine step_append_lies _ hgd s x 24 ho lo 31 i0 (.slice none 0 0) 1 24 Tryd.underlying24 hi hz0 hz1 hz2 rfl (by decide) v D.length (D.map (·.1)) hs (hw.alloc _) ⟨wr.heap.size, 0, none⟩ 1 1 [u] hx rfl ?_ ?_ (by decide) ?_ ?_ ?_ (wr.heap.size + 1) (World.size_alloc ..) ?_
 ·intro j y hj
  match j, hj with
  | 0, hj => simp at hj; subst hj; simp [Addr.add]
 ·intro y hy
  simp at hy
  subst hy
  exact gr.own_one (sl.Own.of hu)
 ·unfold maxLen; omega
 ·omega
 ·simp; omega
 ·intro g cap w1 h1 hg _ _
  refine hK g cap w1 ⟨D ++ [(u, L)], by simp, ?_, fun p hp => ?_⟩ hg
  ·have e1 : (D ++ [(u, L)]).length = D.length + 1 := by simp
   have e2 : (D ++ [(u, L)]).map (fun p : Value × List Int => p.1) = D.map (fun p : Value × List Int => p.1) ++ [u] := by simp
   rw [e1, e2]
   exact h1
  ·rw [List.mem_append, List.mem_singleton] at hp
   rcases hp with hp | rfl
   ·exact ((hin p hp).alloc _).kept hg (own_ne' hw (hin p hp))
   ·exact (hu.alloc _).kept hg (own_ne' hw hu)
theorem stepLd {ops : Array Oper} {o : Oper} {a : Act} {K : Act → World → Prop} {Q : Exit → Act → World → Prop} {E : Prop} {lo : Nat} {wr : World} {v u : Value} {M : List (List Int)} {L : List Int}
  (h : Lst lo wr v M) (hu : wr.ownsRow 0 3 1 u L.length (ints L)) (hlo : lo ≤ wr.heap.size) (hM : M.length ≤ 1048576) (hgd : o.guard = none) (s x : Operand)
  (ho : o.op = .call { callee := .builtin .append, args := #[s, x], argTypes := #[24, 24] }) (hs : a.eval s = v) (hx : a.eval x = .slice (some ⟨wr.heap.size, 0, none⟩) 1 1)
  (hK : ∀ g cap w1, Lst lo w1 (.slice (some ⟨g, 0, none⟩) (M.length + 1) cap) (M ++ [L]) → (wr.alloc (.cells #[u] 31)).grownBy w1 v.ownBlock → K (a.put o.dst (.slice (some ⟨g, 0, none⟩) (M.length + 1) cap)) w1) :
  if Region.wanted o (yielded ops a.tmps) = true then Oper.wp Tryd.prog o a (wr.alloc (.cells #[u] 31)).drew K Q else E := by
 have gd := cf.grown_drew wr none
 have r := stepL (ops := ops) (o := o) (a := a) (K := K) (Q := Q) (E := E) (wr := wr.drew) (L := L) (h.kept gd) (row_kept hu gd) hlo hM hgd s x ho hs hx (fun g cap w1 h1 g1 => hK g cap w1 h1 (grown_t (cf.grown_drew (wr.alloc (.cells #[u] 31)) v.ownBlock) g1))
 exact r
def MidL (w wr : World) (b : Nat) (n : Int) (M : List (List Int)) : Prop :=
 w.heap.size ≤ b ∧ w.grownBy wr none ∧ ∃ a cap, Box 26 wr b (.int .i64 n) (.slice a M.length cap) ∧ Lst w.heap.size wr (.slice a M.length cap) M
theorem MidL.kept {w wr w1 : World} {b : Nat} {n : Int} {M : List (List Int)} (h : MidL w wr b n M) (g : wr.grownBy w1 none) : MidL w w1 b n M := by
 obtain ⟨hb, hg, a, cap, bx, ho⟩ := h
 exact ⟨hb, grown_trans hg g, a, cap, bx.kept g, ho.kept g⟩
theorem lst_set {lo : Nat} {w : World} {v : Value} {M : List (List Int)} {c i : Nat} {u x y : Value} (h : Lst lo w v M) (hb : Box 26 w c x y) : Lst lo (w.setCell ⟨c, i, none⟩ u) v M := by
 obtain ⟨D, e, ho, hin⟩ := h
 exact ⟨D, e, gr.own_set ho gr.ty1 hb, fun p hp => gr.own_set (hin p hp) gr.ty2 hb⟩
theorem MidL.step {w wr w2 w1 : World} {b : Nat} {n : Int} {M : List (List Int)} {L : List Int} {a : Option Addr} {cap g cap' : Nat} {u : Value} (hb : w.heap.size ≤ b) (hg : w.grownBy wr none) (bx : Box 26 wr b (.int .i64 n) (.slice a M.length cap)) (ho : Lst w.heap.size wr (.slice a M.length cap) M)
  (g2 : wr.grownBy w2 none) (h1 : Lst w.heap.size w1 (.slice (some ⟨g, 0, none⟩) (M.length + 1) cap') (M ++ [L])) (g1 : (w2.alloc (.cells #[u] 31)).grownBy w1 (Value.slice a M.length cap).ownBlock) :
  (w1.cell? ⟨b, 1, none⟩ = some (.slice a M.length cap) ∧ w1.frozen? ⟨b, 1, none⟩ = false) ∧ MidL w (w1.setCell ⟨b, 1, none⟩ (.slice (some ⟨g, 0, none⟩) (M.length + 1) cap')) b n (M ++ [L]) := by
 have gA := grown_trans (r := none) g2 (World.grownBy_alloc w2 (.cells #[u] 31) none)
 have hb2 := bx.kept gA
 obtain ⟨D, e, hw, hin⟩ := ho.kept gA
 have hb1 := hb2.by g1 (gr.box_ne hw gr.ty1 hb2)
 have hgA : w.grownBy (w2.alloc (.cells #[u] 31)) none := grown_trans hg gA
 have hg1 : w.grownBy w1 none := ⟨g1.os.trans hgA.os, g1.tape.trans hgA.tape, g1.output.trans hgA.output, Nat.le_trans hgA.size g1.size, fun k hk _ => by
  rw [g1.block k (Nat.lt_of_lt_of_le hk hgA.size) (fun e => by have := (hw.lt k e.symm).1; omega)]
  exact hgA.block k hk (fun e => by cases e)⟩
 refine ⟨⟨hb1.c1, hb1.f 1⟩, hb, cf.grown_set hg1 hb, some ⟨g, 0, none⟩, cap', ?_, ?_⟩
 ·have := hb1.set1 (.slice (some ⟨g, 0, none⟩) (M.length + 1) cap')
  rw [List.length_append]
  exact this
 ·rw [List.length_append]
  exact lst_set h1 hb1
end Go.Proofs.YtibpnocpafppaaaDoor.ni
