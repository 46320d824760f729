/- The program's watcher as it lies in memory: its struct, the rows that it leads to, what a store or an append makes of it; no condition but on sizes. -/
import Derived.Test.YtfhmdpbnnieohaaDoorJXWz
import Derived.Test.YtfhmdpbnnieohaaDoorJXFm
import Derived.Test.YtfhmdpbnnieohaaDoorJPc
import Derived.Deep.RegionWith
import Derived.Test.YtfhmdpbnnieohaaDoorJPn
import Derived.Deep.AppendLies
namespace Go.Proofs.YtfhmdpbnnieohaaDoor.wm
open Go.ChangeShapes Go.WideShapes Go.ChangeAt Go.RowKit
open sl (Sl Own ints hide unhide grown_refl grown_trans)
open css (Apart own_kind own_mono)
set_option linter.unusedVariables false
structure WS where
 V : Value
 K : List (Nat × Int × Int)
 A : List (Value × List Int)
 tk : Nat
 em : Bool
 ho : Bool
 ty : TypeId
 ex : List Value
def nil_ : Value × List Int := (.slice none 0 0, [])
def WS.at (s : WS) (k : Nat) : Value :=
 if k = 0 then s.V else if k ≤ 48 then (s.A.getD k nil_).1 else if k = 49 then .int .u64 (s.tk : Int) else if k = 50 then (s.A.getD 0 nil_).1 else if k = 51 then .bool s.em else if k = 52 then (s.A.getD 49 nil_).1 else .bool s.ho
def WS.cells (s : WS) : List Value := (List.range 54).map s.at ++ s.ex
def rowsK (K : List (Nat × Int × Int)) : List Value := K.flatMap fun k => [.int .u64 (k.1 : Int), .int .i8 k.2.1, .int .i8 k.2.2]
structure Wat (w : World) (c : Nat) (s : WS) : Prop where
 blk : w.heap[c]? = some (.cells s.cells.toArray s.ty (0, 0))
 len : s.A.length = 50
 cl : w.ownsRow 0 125 3 s.V s.K.length (rowsK s.K)
 ls : ∀ p ∈ s.A, w.ownsRow 0 3 1 p.1 p.2.length (ints p.2)
 ap : s.A.Pairwise Apart
 ty : (125 : Nat) ≠ s.ty ∧ (3 : Nat) ≠ s.ty
def pos (j : Nat) : Nat := if j = 0 then 50 else if j = 49 then 52 else j
theorem cells_len (s : WS) : s.cells.length = 54 + s.ex.length := by simp [WS.cells]
theorem cells_at (s : WS) {k : Nat} (h : k < 54) : s.cells[k]? = some (s.at k) := by
 unfold WS.cells
 rw [List.getElem?_append_left (by simp [h])]
 simp [h]
theorem cells_ex (s : WS) {k : Nat} (h : 54 ≤ k) : s.cells[k]? = s.ex[k - 54]? := by
 unfold WS.cells
 rw [List.getElem?_append_right (by simp [h])]
 simp
theorem Wat.cell {w : World} {c : Nat} {s : WS} (h : Wat w c s) {k : Nat} (hk : k < 54) : w.cell? ⟨c, k, none⟩ = some (s.at k) := by
 simp only [World.cell?, h.blk, List.getElem?_toArray, cells_at s hk]
 rfl
theorem Wat.fz {w : World} {c : Nat} {s : WS} (h : Wat w c s) (k : Nat) : w.frozen? ⟨c, k, none⟩ = false := by simp [World.frozen?, h.blk]
theorem Wat.lt {w : World} {c : Nat} {s : WS} (h : Wat w c s) : c < w.heap.size := (Array.getElem?_eq_some_iff.1 h.blk).1
theorem at0 (s : WS) : s.at 0 = s.V := rfl
theorem at49 (s : WS) : s.at 49 = .int .u64 (s.tk : Int) := rfl
theorem at50 (s : WS) : s.at 50 = (s.A.getD 0 nil_).1 := rfl
theorem at51 (s : WS) : s.at 51 = .bool s.em := rfl
theorem at52 (s : WS) : s.at 52 = (s.A.getD 49 nil_).1 := rfl
theorem at53 (s : WS) : s.at 53 = .bool s.ho := rfl
theorem atD (s : WS) {k : Nat} (h0 : 1 ≤ k) (h : k ≤ 48) : s.at k = (s.A.getD k nil_).1 := by
 unfold WS.at
 rw [if_neg (by omega), if_pos h]
theorem atPos (s : WS) {j : Nat} (h : j < 50) : s.at (pos j) = (s.A.getD j nil_).1 := by
 unfold pos
 by_cases h0 : j = 0
 ·subst h0
  rfl
 ·rw [if_neg h0]
  by_cases h9 : j = 49
  ·subst h9
   rfl
  ·rw [if_neg h9, atD s (by omega) (by omega)]
theorem pos_lt {j : Nat} (h : j < 50) : pos j < 54 := by
 unfold pos
 split
 ·omega
 ·split <;> omega
theorem at_same {s s' : WS} {k : Nat} (h0 : k = 0 → s'.V = s.V) (h1 : 1 ≤ k → k ≤ 48 → (s'.A.getD k nil_).1 = (s.A.getD k nil_).1) (h2 : k = 49 → s'.tk = s.tk) (h3 : k = 50 → (s'.A.getD 0 nil_).1 = (s.A.getD 0 nil_).1) (h4 : k = 51 → s'.em = s.em) (h5 : k = 52 → (s'.A.getD 49 nil_).1 = (s.A.getD 49 nil_).1) (h6 : 53 ≤ k → s'.ho = s.ho) : s'.at k = s.at k := by
 unfold WS.at
 by_cases e0 : k = 0
 ·rw [if_pos e0, if_pos e0, h0 e0]
 ·rw [if_neg e0, if_neg e0]
  by_cases e1 : k ≤ 48
  ·rw [if_pos e1, if_pos e1, h1 (by omega) e1]
  ·rw [if_neg e1, if_neg e1]
   by_cases e2 : k = 49
   ·rw [if_pos e2, if_pos e2, h2 e2]
   ·rw [if_neg e2, if_neg e2]
    by_cases e3 : k = 50
    ·rw [if_pos e3, if_pos e3, h3 e3]
    ·rw [if_neg e3, if_neg e3]
     by_cases e4 : k = 51
     ·rw [if_pos e4, if_pos e4, h4 e4]
     ·rw [if_neg e4, if_neg e4]
      by_cases e5 : k = 52
      ·rw [if_pos e5, if_pos e5, h5 e5]
      ·rw [if_neg e5, if_neg e5, h6 (by omega)]
def Foot (c : Nat) (s : WS) (k : Nat) : Prop := k = c ∨ s.V.ownBlock = some k ∨ ∃ p ∈ s.A, p.1.ownBlock = some k
structure Stp (c : Nat) (s s' : WS) (w w' : World) : Prop where
 os : w'.os = w.os
 tape : w'.tape = w.tape
 output : w'.output = w.output
 size : w.heap.size ≤ w'.heap.size
 block : ∀ k, k < w.heap.size → ¬ Foot c s k → w'.heap[k]? = w.heap[k]?
 foot : ∀ k, Foot c s' k → Foot c s k ∨ w.heap.size ≤ k
 same : s'.ty = s.ty ∧ s'.ex = s.ex
theorem Stp.refl (c : Nat) (s : WS) (w : World) : Stp c s s w w := ⟨rfl, rfl, rfl, Nat.le_refl _, fun _ _ _ => rfl, fun _ h => .inl h, rfl, rfl⟩
theorem Stp.trans {c : Nat} {s s1 s2 : WS} {w w1 w2 : World} (h : Stp c s s1 w w1) (k : Stp c s1 s2 w1 w2) : Stp c s s2 w w2 :=
 ⟨k.os.trans h.os, k.tape.trans h.tape, k.output.trans h.output, Nat.le_trans h.size k.size,
  fun b hb hn => (k.block b (Nat.lt_of_lt_of_le hb h.size) (fun f => by
   rcases h.foot b f with f' | f'
   ·exact hn f'
   ·omega)).trans (h.block b hb hn),
  fun b f => by
   rcases k.foot b f with f' | f'
   ·exact h.foot b f'
   ·exact .inr (Nat.le_trans h.size f'), k.same.1.trans h.same.1, k.same.2.trans h.same.2⟩
theorem Stp.of_grown {c : Nat} {s : WS} {w w' : World} (g : w.grownBy w' none) : Stp c s s w w' :=
 ⟨g.os, g.tape, g.output, g.size, fun k hk _ => g.block k hk (fun e => by cases e), fun _ h => .inl h, rfl, rfl⟩
theorem ne_none (v : Value) : v.ownBlock = none ∨ v.ownBlock ≠ none := by
 cases v.ownBlock with
 | none => exact .inl rfl
 | some k => exact .inr (by simp)
theorem Wat.kept {w w' : World} {c : Nat} {s : WS} (h : Wat w c s) (g : w.grownBy w' none) : Wat w' c s :=
 ⟨by rw [g.block c h.lt (fun e => by cases e)]; exact h.blk, h.len, h.cl.kept g (ne_none _), fun p hp => (h.ls p hp).kept g (ne_none _), h.ap, h.ty⟩
theorem types0 : (125 : Nat) ≠ 88 ∧ (3 : Nat) ≠ 88 := by decide
theorem types3 : (125 : Nat) ≠ 3 := by decide
theorem row_ne {w : World} {b b' n n' z z' : Nat} {e e' : TypeId} {v v' : Value} {xs xs' : List Value} (h : w.ownsRow b e z v n xs) (h' : w.ownsRow b' e' z' v' n' xs') (he : (e : Nat) ≠ e') : v.ownBlock = none ∨ v.ownBlock ≠ v'.ownBlock := by
 cases q : v.ownBlock with
 | none => exact .inl rfl
 | some g =>
  right
  intro q'
  obtain ⟨c, fz, hc⟩ := own_kind h g q
  obtain ⟨c', fz', hc'⟩ := own_kind h' g q'.symm
  rw [hc] at hc'
  simp only [Option.some.injEq, Obj.cells.injEq] at hc'
  exact he hc'.2.1
theorem row_nec {w : World} {b n z c : Nat} {e t : TypeId} {fz : Nat × Nat} {v : Value} {xs : List Value} {cs : Array Value} (h : w.ownsRow b e z v n xs) (hc : w.heap[c]? = some (.cells cs t fz)) (he : (e : Nat) ≠ t) : v.ownBlock = none ∨ v.ownBlock ≠ some c := by
 cases q : v.ownBlock with
 | none => exact .inl rfl
 | some g =>
  right
  intro q'
  cases q'
  obtain ⟨c', fz', hc'⟩ := own_kind h c q
  rw [hc'] at hc
  simp only [Option.some.injEq, Obj.cells.injEq] at hc
  exact he hc.2.1
theorem put {w : World} {c q : Nat} {s s' : WS} {v : Value} (hb : w.heap[c]? = some (.cells s.cells.toArray s.ty (0, 0))) (hs : s'.ty = s.ty ∧ s'.ex = s.ex) (hq : q < 54) (hat : ∀ k, k < 54 → s'.at k = if k = q then v else s.at k) :
  (w.setCell ⟨c, q, none⟩ v).heap[c]? = some (.cells s'.cells.toArray s'.ty (0, 0)) := by
 have e : s.cells.set q v = s'.cells := by
  apply List.ext_getElem?
  intro k
  by_cases hk : k < 54
  ·rw [cells_at s' hk, hat k hk, List.getElem?_set]
   by_cases hkq : q = k
   ·subst hkq
    rw [if_pos rfl, if_pos (by rw [cells_len]; omega), if_pos rfl]
   ·rw [if_neg hkq, if_neg (fun h => hkq h.symm), cells_at s hk]
  ·rw [List.getElem?_set_ne (by omega), cells_ex s (by omega), cells_ex s' (by omega), hs.2]
 simp only [World.setCell, Array.getElem?_modify, hb, Option.map_some]
 rw [← e, hs.1]
 simp
theorem Wat.set {w : World} {c q : Nat} {s s' : WS} {v : Value} (h : Wat w c s) (hq : q < 54) (hat : ∀ k, k < 54 → s'.at k = if k = q then v else s.at k) (hV : s'.V = s.V) (hK : s'.K = s.K) (hA : s'.A = s.A) (hs : s'.ty = s.ty ∧ s'.ex = s.ex) :
  Wat (w.setCell ⟨c, q, none⟩ v) c s' ∧ Stp c s s' w (w.setCell ⟨c, q, none⟩ v) := by
 have g := sl.grown_setCell w c q v
 refine ⟨⟨put h.blk hs hq hat, by rw [hA]; exact h.len, ?_, ?_, by rw [hA]; exact h.ap, by rw [hs.1]; exact h.ty⟩, ⟨g.os, g.tape, g.output, g.size, fun k hk hn => g.block k hk (fun e => hn (.inl (by cases e; rfl))), fun k f => .inl ?_, hs⟩⟩
 ·rw [hV, hK]
  exact h.cl.kept g (row_nec h.cl h.blk h.ty.1)
 ·rw [hA]
  exact fun p hp => (h.ls p hp).kept g (row_nec (h.ls p hp) h.blk h.ty.2)
 ·unfold Foot at *
  rw [hV, hA] at f
  exact f
theorem Wat.setTk {w : World} {c : Nat} {s : WS} (h : Wat w c s) (t : Nat) : Wat (w.setCell ⟨c, 49, none⟩ (.int .u64 (t : Int))) c { s with tk := t } ∧ Stp c s { s with tk := t } w (w.setCell ⟨c, 49, none⟩ (.int .u64 (t : Int))) := by
 refine h.set (by decide) (fun k hk => ?_) rfl rfl rfl ⟨rfl, rfl⟩
 by_cases e : k = 49
 ·subst e
  rfl
 ·rw [if_neg e]
  exact at_same (fun _ => rfl) (fun _ _ => rfl) (fun q => absurd q e) (fun _ => rfl) (fun _ => rfl) (fun _ => rfl) (fun _ => rfl)
theorem Wat.setEm {w : World} {c : Nat} {s : WS} (h : Wat w c s) (b : Bool) : Wat (w.setCell ⟨c, 51, none⟩ (.bool b)) c { s with em := b } ∧ Stp c s { s with em := b } w (w.setCell ⟨c, 51, none⟩ (.bool b)) := by
 refine h.set (by decide) (fun k hk => ?_) rfl rfl rfl ⟨rfl, rfl⟩
 by_cases e : k = 51
 ·subst e
  rfl
 ·rw [if_neg e]
  exact at_same (fun _ => rfl) (fun _ _ => rfl) (fun _ => rfl) (fun _ => rfl) (fun q => absurd q e) (fun _ => rfl) (fun _ => rfl)
theorem Wat.setHo {w : World} {c : Nat} {s : WS} (h : Wat w c s) (b : Bool) : Wat (w.setCell ⟨c, 53, none⟩ (.bool b)) c { s with ho := b } ∧ Stp c s { s with ho := b } w (w.setCell ⟨c, 53, none⟩ (.bool b)) := by
 refine h.set (by decide) (fun k hk => ?_) rfl rfl rfl ⟨rfl, rfl⟩
 by_cases e : k = 53
 ·subst e
  rfl
 ·rw [if_neg e]
  exact at_same (fun _ => rfl) (fun _ _ => rfl) (fun _ => rfl) (fun _ => rfl) (fun _ => rfl) (fun _ => rfl) (fun q => absurd q (by omega))
theorem mem_getD {A : List (Value × List Int)} {j : Nat} (h : j < A.length) : A.getD j nil_ ∈ A := by
 rw [show A.getD j nil_ = A[j] by simp [h]]
 exact List.getElem_mem h
theorem apart_of {A : List (Value × List Int)} (h : A.Pairwise Apart) {i j : Nat} (hi : i < A.length) (hj : j < A.length) (hne : i ≠ j) : ∀ g, (A.getD i nil_).1.ownBlock = some g → (A.getD j nil_).1.ownBlock ≠ some g := by
 intro g e e'
 rw [show A.getD i nil_ = A[i] by simp [hi]] at e
 rw [show A.getD j nil_ = A[j] by simp [hj]] at e'
 rcases Nat.lt_or_ge i j with hl | hl
 ·exact List.pairwise_iff_getElem.1 h i j hi hj hl g e e'
 ·exact List.pairwise_iff_getElem.1 h j i hj hi (by omega) g e' e
theorem Wat.listv {w w0 w1 : World} {c j : Nat} {s : WS} {v : Value} {M : List Int} (h : Wat w c s) (hj : j < 50) (g0 : w.grownBy w0 none)
  (hown : w1.ownsRow 0 3 1 v M.length (ints M)) (hg : w0.grownBy w1 (s.A.getD j nil_).1.ownBlock)
  (hl : ∀ g, v.ownBlock = some g → (s.A.getD j nil_).1.ownBlock = some g ∨ w.heap.size ≤ g) :
  Wat (w1.setCell ⟨c, pos j, none⟩ v) c { s with A := s.A.set j (v, M) } ∧
  Stp c s { s with A := s.A.set j (v, M) } w (w1.setCell ⟨c, pos j, none⟩ v) := by
 have hjl : j < s.A.length := by rw [h.len]; exact hj
 have h0 := h.kept g0
 have hnc := row_nec (h0.ls _ (mem_getD hjl)) h0.blk h0.ty.2
 have hb1 : w1.heap[c]? = some (.cells s.cells.toArray s.ty (0, 0)) := by
  rw [hg.block c h0.lt (fun e => by
   rcases hnc with q | q
   ·rw [q] at e; cases e
   ·exact q e.symm)]
  exact h0.blk
 have g2 := sl.grown_setCell w1 c (pos j) v
 have hcl1 : w1.ownsRow 0 125 3 s.V s.K.length (rowsK s.K) := h0.cl.kept hg (row_ne h0.cl (h0.ls _ (mem_getD hjl)) types3)
 have hls1 : ∀ i, i < s.A.length → i ≠ j → w1.ownsRow 0 3 1 (s.A.getD i nil_).1 (s.A.getD i nil_).2.length (ints (s.A.getD i nil_).2) := fun i hi hne =>
  (h0.ls _ (mem_getD hi)).kept hg (by
   cases q : (s.A.getD i nil_).1.ownBlock with
   | none => exact .inl rfl
   | some g' => exact .inr (fun e => apart_of h.ap hi hjl hne g' q e.symm))
 refine ⟨⟨put hb1 ⟨rfl, rfl⟩ (pos_lt hj) ?_, by rw [List.length_set]; exact h.len, hcl1.kept g2 (row_nec hcl1 hb1 h.ty.1), ?_, ?_, h.ty⟩, ⟨?_, ?_, ?_, ?_, ?_, ?_, rfl, rfl⟩⟩
 ·intro k hk
  by_cases e : k = pos j
  ·subst e
   rw [if_pos rfl, atPos _ hj]
   simp [hjl]
  ·rw [if_neg e]
   have other : ∀ q, j ≠ q → ((s.A.set j (v, M)).getD q nil_).1 = (s.A.getD q nil_).1 := fun q hq => by
    rw [List.getD, List.getD, List.getElem?_set_ne hq]
   unfold pos at e
   refine at_same (fun _ => rfl) (fun h1 h2 => other k ?_) (fun _ => rfl) (fun h3 => other 0 ?_) (fun _ => rfl) (fun h5 => other 49 ?_) (fun _ => rfl)
   ·intro q
    subst q
    rw [if_neg (by omega), if_neg (by omega)] at e
    exact e rfl
   ·intro q
    subst q
    rw [if_pos rfl] at e
    exact e h3
   ·intro q
    subst q
    rw [if_neg (by decide), if_pos rfl] at e
    exact e h5
 ·intro p hp
  obtain ⟨i, hi, rfl⟩ := List.mem_iff_getElem.1 hp
  rw [List.length_set] at hi
  rw [List.getElem_set]
  by_cases e : j = i
  ·rw [if_pos e]
   exact hown.kept g2 (row_nec hown hb1 h.ty.2)
  ·rw [if_neg e]
   have := hls1 i hi (fun q => e q.symm)
   rw [show s.A.getD i nil_ = s.A[i] by simp [hi]] at this
   exact this.kept g2 (row_nec this hb1 h.ty.2)
 ·rw [List.pairwise_iff_getElem]
  intro a b ha hb hab
  rw [List.length_set] at ha hb
  rw [List.getElem_set, List.getElem_set]
  intro g' q1 q2
  by_cases e1 : j = a
  ·by_cases e2 : j = b
   ·omega
   ·rw [if_pos e1] at q1
    rw [if_neg e2] at q2
    rcases hl g' q1 with q | q
    ·exact apart_of h.ap hjl hb (by omega) g' q (by rw [show s.A.getD b nil_ = s.A[b] by simp [hb]]; exact q2)
    ·have := (h.ls _ (List.getElem_mem hb)).lt g' q2
     omega
  ·by_cases e2 : j = b
   ·rw [if_neg e1] at q1
    rw [if_pos e2] at q2
    rcases hl g' q2 with q | q
    ·exact apart_of h.ap hjl ha (by omega) g' q (by rw [show s.A.getD a nil_ = s.A[a] by simp [ha]]; exact q1)
    ·have := (h.ls _ (List.getElem_mem ha)).lt g' q1
     omega
   ·rw [if_neg e1] at q1
    rw [if_neg e2] at q2
    exact List.pairwise_iff_getElem.1 h.ap a b ha hb hab g' q1 q2
 ·exact g2.os.trans (hg.os.trans g0.os)
 ·exact g2.tape.trans (hg.tape.trans g0.tape)
 ·exact g2.output.trans (hg.output.trans g0.output)
 ·exact Nat.le_trans g0.size (Nat.le_trans hg.size g2.size)
 ·intro k hk hn
  rw [g2.block k (Nat.lt_of_lt_of_le hk (Nat.le_trans g0.size hg.size)) (fun e => hn (.inl (by cases e; rfl)))]
  rw [hg.block k (Nat.lt_of_lt_of_le hk g0.size) (fun e => hn (.inr (.inr ⟨_, mem_getD hjl, e.symm⟩)))]
  exact g0.block k hk (fun e => by cases e)
 ·intro k f
  rcases f with f | f | ⟨p, hp, f⟩
  ·exact .inl (.inl f)
  ·exact .inl (.inr (.inl f))
  ·obtain ⟨i, hi, rfl⟩ := List.mem_iff_getElem.1 hp
   rw [List.length_set] at hi
   rw [List.getElem_set] at f
   by_cases e : j = i
   ·rw [if_pos e] at f
    rcases hl k f with q | q
    ·exact .inl (.inr (.inr ⟨_, mem_getD hjl, q⟩))
    ·exact .inr q
   ·rw [if_neg e] at f
    exact .inl (.inr (.inr ⟨_, List.getElem_mem hi, f⟩))
theorem Wat.list {w w0 w1 : World} {c j g n cap : Nat} {s : WS} {M : List Int} (h : Wat w c s) (hj : j < 50) (g0 : w.grownBy w0 none)
  (hown : w1.ownsRow 0 3 1 (.slice (some ⟨g, 0, none⟩) n cap) M.length (ints M)) (hg : w0.grownBy w1 (s.A.getD j nil_).1.ownBlock)
  (hl : (s.A.getD j nil_).1.ownBlock = some g ∨ w.heap.size ≤ g) :
  Wat (w1.setCell ⟨c, pos j, none⟩ (.slice (some ⟨g, 0, none⟩) n cap)) c { s with A := s.A.set j (.slice (some ⟨g, 0, none⟩) n cap, M) } ∧
  Stp c s { s with A := s.A.set j (.slice (some ⟨g, 0, none⟩) n cap, M) } w (w1.setCell ⟨c, pos j, none⟩ (.slice (some ⟨g, 0, none⟩) n cap)) :=
 h.listv hj g0 hown hg (fun g' e => by
  have e' : g = g' := by simpa [Value.ownBlock] using e
  subst e'
  exact hl)
def zk : Nat × Int × Int := (0, 0, 0)
theorem rowsK_at (K : List (Nat × Int × Int)) {i : Nat} (h : i < K.length) : (rowsK K)[3 * i]? = some (.int .u64 ((K.getD i zk).1 : Int)) ∧ (rowsK K)[3 * i + 1]? = some (.int .i8 (K.getD i zk).2.1) ∧ (rowsK K)[3 * i + 2]? = some (.int .i8 (K.getD i zk).2.2) := by
 induction K generalizing i with
 | nil => simp at h
 | cons k l ih =>
  cases i with
  | zero => exact ⟨rfl, rfl, rfl⟩
  | succ i =>
   have := ih (i := i) (by simpa using h)
   have e : rowsK (k :: l) = .int .u64 (k.1 : Int) :: .int .i8 k.2.1 :: .int .i8 k.2.2 :: rowsK l := rfl
   rw [e, show 3 * (i + 1) = 3 * i + 1 + 1 + 1 by omega, show 3 * i + 1 + 1 + 1 + 1 = 3 * i + 1 + 1 + 1 + 1 from rfl]
   simp only [List.getElem?_cons_succ, List.getD_cons_succ]
   exact this
theorem Wat.row {w : World} {c : Nat} {s : WS} (h : Wat w c s) {i : Nat} (hi : i < s.K.length) : ∃ g cap, s.V = .slice (some ⟨g, 0, none⟩) s.K.length cap ∧ g < w.heap.size ∧ s.K.length ≤ cap ∧
  w.cell? ⟨g, i * 3, none⟩ = some (.int .u64 ((s.K.getD i zk).1 : Int)) ∧ w.cell? ⟨g, i * 3 + 1, none⟩ = some (.int .i8 (s.K.getD i zk).2.1) ∧ w.cell? ⟨g, i * 3 + 2, none⟩ = some (.int .i8 (s.K.getD i zk).2.2) ∧ (∀ k, w.frozen? ⟨g, k, none⟩ = false) := by
 have h' := h.cl
 have h1 := h.cl
 obtain ⟨_, h2⟩ := h'
 rcases h2 with ⟨_, h0⟩ | ⟨g, cap, cur, e, hg, hh, hn, hm, hs, ht⟩
 ·omega
 ·rw [e] at h1
  have hr := rowsK_at s.K hi
  rw [Nat.mul_comm 3 i] at hr
  refine ⟨g, cap, e, (Array.getElem?_eq_some_iff.1 hh).1, hn, ?_, ?_, ?_, fun k => h1.frozenAt k⟩
  ·rw [h1.cellAt _ (by omega)]
   exact hr.1
  ·rw [h1.cellAt _ (by omega)]
   exact hr.2.1
  ·rw [h1.cellAt _ (by omega)]
   exact hr.2.2
end Go.Proofs.YtfhmdpbnnieohaaDoor.wm
