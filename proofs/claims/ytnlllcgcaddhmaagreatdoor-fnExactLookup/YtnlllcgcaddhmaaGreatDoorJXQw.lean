/- The program's walker as it lies in memory: a machine, its solver, which clauses end by a place and which are closed there; how a cell of it is written. -/
import Derived.Test.YtnlllcgcaddhmaaGreatDoorJXQo
import Derived.Test.YtnlllcgcaddhmaaGreatDoorJOk
import Derived.Test.YtnlllcgcaddhmaaGreatDoorJXQa
namespace Go.Proofs.YtnlllcgcaddhmaaGreatDoor.qw
open Go.ChangeShapes Go.WideShapes Go.ChangeAt Go.RowKit
open kd (SV Slv)
open kc (cset lo hi)
open ks (Right Closed blk_set2 grown_set2 grow1 row_nec)
open as_ (litAt tl tl_snoc tl_len)
open css (Sls OwnS Outs tot)
open sl (Sl Own ints hide unhide grown_refl grown_trans)
set_option linter.unusedVariables false
structure WV where
 n : Nat
 f : Value
 p : Value
 st : Int
 k : Int
 sp : Nat
 D : Nat → Nat
 X : Nat → Nat
def WV.at (s : WV) (i : Nat) : Value :=
 if i = 0 then .int .i64 (s.n : Int) else if i = 1 then s.f else if i = 2 then s.p else if i = 3 then .int .i64 s.st else if i = 4 then .int .i64 s.k else if i = 5 then .pointer (some ⟨s.sp, 0, none⟩)
 else if i < 56 then (if i % 2 = 0 then .int .u64 (lo (s.D ((i - 6) / 2)) : Int) else .int .u64 (hi (s.D ((i - 6) / 2)) : Int))
 else (if i % 2 = 0 then .int .u64 (lo (s.X ((i - 56) / 2)) : Int) else .int .u64 (hi (s.X ((i - 56) / 2)) : Int))
def WV.cells (s : WV) : List Value := (List.range 106).map s.at
theorem cells_len (s : WV) : s.cells.length = 106 := by simp [WV.cells]
theorem cells_at (s : WV) {k : Nat} (h : k < 106) : s.cells[k]? = some (s.at k) := by simp [WV.cells, h]
theorem atD0 (s : WV) {v : Nat} (h : v < 25) : s.at (6 + 2 * v) = .int .u64 (lo (s.D v) : Int) := by
 unfold WV.at
 rw [if_neg (by omega), if_neg (by omega), if_neg (by omega), if_neg (by omega), if_neg (by omega), if_neg (by omega), if_pos (by omega), if_pos (by omega), show (6 + 2 * v - 6) / 2 = v by omega]
theorem atD1 (s : WV) {v : Nat} (h : v < 25) : s.at (6 + 2 * v + 1) = .int .u64 (hi (s.D v) : Int) := by
 unfold WV.at
 rw [if_neg (by omega), if_neg (by omega), if_neg (by omega), if_neg (by omega), if_neg (by omega), if_neg (by omega), if_pos (by omega), if_neg (by omega), show (6 + 2 * v + 1 - 6) / 2 = v by omega]
theorem atX0 (s : WV) {v : Nat} (h : v < 25) : s.at (56 + 2 * v) = .int .u64 (lo (s.X v) : Int) := by
 unfold WV.at
 rw [if_neg (by omega), if_neg (by omega), if_neg (by omega), if_neg (by omega), if_neg (by omega), if_neg (by omega), if_neg (by omega), if_pos (by omega), show (56 + 2 * v - 56) / 2 = v by omega]
theorem atX1 (s : WV) {v : Nat} (h : v < 25) : s.at (56 + 2 * v + 1) = .int .u64 (hi (s.X v) : Int) := by
 unfold WV.at
 rw [if_neg (by omega), if_neg (by omega), if_neg (by omega), if_neg (by omega), if_neg (by omega), if_neg (by omega), if_neg (by omega), if_neg (by omega), show (56 + 2 * v + 1 - 56) / 2 = v by omega]
def setD (s : WV) (u X : Nat) : WV := { s with D := fun q => if q = u then X else s.D q }
def setX (s : WV) (u X : Nat) : WV := { s with X := fun q => if q = u then X else s.X q }
theorem setD_at (s : WV) {u X k : Nat} (hu : u < 25) : (setD s u X).at k = if k = 6 + 2 * u then .int .u64 (lo X : Int) else if k = 6 + 2 * u + 1 then .int .u64 (hi X : Int) else s.at k := by
 by_cases h0 : k = 6 + 2 * u
 ·subst h0
  rw [if_pos rfl, atD0 _ hu]
  simp [setD]
 ·by_cases h1 : k = 6 + 2 * u + 1
  ·subst h1
   rw [if_neg h0, if_pos rfl, atD1 _ hu]
   simp [setD]
  ·rw [if_neg h0, if_neg h1]
   unfold WV.at setD
   by_cases c : k < 56
   ·by_cases d : k < 6
    ·have : k = 0 ∨ k = 1 ∨ k = 2 ∨ k = 3 ∨ k = 4 ∨ k = 5 := by omega
     rcases this with rfl | rfl | rfl | rfl | rfl | rfl <;> rfl
    ·have hne : ¬ (k - 6) / 2 = u := by omega
     simp only [if_neg hne]
   ·simp only [if_neg c]
theorem setX_at (s : WV) {u X k : Nat} (hu : u < 25) (hk : k < 106) : (setX s u X).at k = if k = 56 + 2 * u then .int .u64 (lo X : Int) else if k = 56 + 2 * u + 1 then .int .u64 (hi X : Int) else s.at k := by
 by_cases h0 : k = 56 + 2 * u
 ·subst h0
  rw [if_pos rfl, atX0 _ hu]
  simp [setX]
 ·by_cases h1 : k = 56 + 2 * u + 1
  ·subst h1
   rw [if_neg h0, if_pos rfl, atX1 _ hu]
   simp [setX]
  ·rw [if_neg h0, if_neg h1]
   unfold WV.at setX
   by_cases c : k < 56
   ·simp only [if_pos c]
   ·have hne : ¬ (k - 56) / 2 = u := by omega
    simp only [if_neg hne]
theorem set1L {A B : List Value} {o : Nat} {x : Value} (hA : A.length = 106) (hB : B.length = 106) (ho : o < 106) (h : ∀ k, k < 106 → B[k]? = if k = o then some x else A[k]?) : A.set o x = B := by
 apply List.ext_getElem?
 intro k
 by_cases hk : k < 106
 ·rw [h k hk, List.getElem?_set, hA]
  by_cases h0 : o = k
  ·subst h0
   rw [if_pos rfl, if_pos rfl, if_pos ho]
  ·rw [if_neg h0, if_neg (fun e => h0 e.symm)]
 ·rw [List.getElem?_eq_none (by simp; omega), List.getElem?_eq_none (by omega)]
theorem set2L {A B : List Value} {o : Nat} {x y : Value} (hA : A.length = 106) (hB : B.length = 106) (ho : o + 1 < 106) (h : ∀ k, k < 106 → B[k]? = if k = o then some x else if k = o + 1 then some y else A[k]?) : (A.set o x).set (o + 1) y = B := by
 apply List.ext_getElem?
 intro k
 by_cases hk : k < 106
 ·rw [h k hk, List.getElem?_set, List.length_set, List.getElem?_set, hA]
  by_cases h1 : o + 1 = k
  ·subst h1
   simp
   omega
  ·rw [if_neg h1]
   by_cases h0 : o = k
   ·subst h0
    rw [if_pos rfl, if_pos rfl, if_pos (by omega)]
   ·rw [if_neg h0, if_neg (fun e => h0 e.symm), if_neg (fun e => h1 e.symm)]
 ·rw [List.getElem?_eq_none (by simp; omega), List.getElem?_eq_none (by omega)]
theorem cellsD (s : WV) {u X : Nat} (hu : u < 25) : (s.cells.set (6 + 2 * u) (.int .u64 (lo X : Int))).set (6 + 2 * u + 1) (.int .u64 (hi X : Int)) = (setD s u X).cells := by
 refine set2L (cells_len s) (cells_len _) (by omega) fun k hk => ?_
 rw [cells_at _ hk, cells_at _ hk, setD_at s hu]
 split
 ·rfl
 ·split <;> rfl
theorem cellsX (s : WV) {u X : Nat} (hu : u < 25) : (s.cells.set (56 + 2 * u) (.int .u64 (lo X : Int))).set (56 + 2 * u + 1) (.int .u64 (hi X : Int)) = (setX s u X).cells := by
 refine set2L (cells_len s) (cells_len _) (by omega) fun k hk => ?_
 rw [cells_at _ hk, cells_at _ hk, setX_at s hu hk]
 split
 ·rfl
 ·split <;> rfl
theorem cellsP (s : WV) (u : Value) : s.cells.set 2 u = ({ s with p := u } : WV).cells := by
 refine set1L (cells_len s) (cells_len _) (by omega) fun k hk => ?_
 rw [cells_at _ hk, cells_at _ hk]
 by_cases h : k = 2
 ·subst h; rfl
 ·rw [if_neg h]
  unfold WV.at
  simp only [if_neg h]
theorem cellsS (s : WV) (u : Int) : s.cells.set 3 (.int .i64 u) = ({ s with st := u } : WV).cells := by
 refine set1L (cells_len s) (cells_len _) (by omega) fun k hk => ?_
 rw [cells_at _ hk, cells_at _ hk]
 by_cases h : k = 3
 ·subst h; rfl
 ·rw [if_neg h]
  unfold WV.at
  simp only [if_neg h]
theorem cellsK (s : WV) (u : Int) : s.cells.set 4 (.int .i64 u) = ({ s with k := u } : WV).cells := by
 refine set1L (cells_len s) (cells_len _) (by omega) fun k hk => ?_
 rw [cells_at _ hk, cells_at _ hk]
 by_cases h : k = 4
 ·subst h; rfl
 ·rw [if_neg h]
  unfold WV.at
  simp only [if_neg h]
def Blk (w : World) (c : Nat) (v : WV) : Prop := w.heap[c]? = some (.cells v.cells.toArray 168 (0, 0))
theorem Blk.cell {w : World} {c : Nat} {v : WV} (h : Blk w c v) {k : Nat} (hk : k < 106) : w.cell? ⟨c, k, none⟩ = some (v.at k) := by
 unfold Blk at h
 simp only [World.cell?, h, List.getElem?_toArray, cells_at v hk]
 rfl
theorem Blk.lt {w : World} {c : Nat} {v : WV} (h : Blk w c v) : c < w.heap.size := (Array.getElem?_eq_some_iff.1 h).1
theorem Blk.fz {w : World} {c : Nat} {v : WV} (h : Blk w c v) (k : Nat) : w.frozen? ⟨c, k, none⟩ = false := by
 unfold Blk at h
 simp [World.frozen?, h]
theorem Blk.by {w w' : World} {c : Nat} {v : WV} {r : Option Nat} (h : Blk w c v) (g : w.grownBy w' r) (hr : r ≠ some c) : Blk w' c v := by
 unfold Blk
 rw [g.block c h.lt (fun e => hr e.symm)]
 exact h
theorem Blk.kept {w w' : World} {c : Nat} {v : WV} (h : Blk w c v) (g : w.grownBy w' none) : Blk w' c v := h.by g (fun e => by cases e)
theorem Blk.set {w : World} {c o : Nat} {v v' : WV} {x : Value} (h : Blk w c v) (e : v.cells.set o x = v'.cells) : Blk (w.setCell ⟨c, o, none⟩ x) c v' := by
 unfold Blk at *
 rw [heap_setCell_same w c o _ _ x h, ← e]
 simp
theorem Blk.set2 {w : World} {c o : Nat} {v v' : WV} {x y : Value} (h : Blk w c v) (ho : o + 1 < 106) (e : (v.cells.set o x).set (o + 1) y = v'.cells) : Blk ((w.setCell ⟨c, o, none⟩ x).setCell ⟨c, o + 1, none⟩ y) c v' := by
 have := blk_set2 (w := w) (c := c) (o := o) (L := v.cells) (t := 168) (x := x) (y := y) h (by rw [cells_len]; exact ho)
 unfold Blk
 rw [← e]
 exact this
theorem Slv.by {w w' : World} {c : Nat} {s : SV} {r : Option Nat} (h : Slv w c s) (g : w.grownBy w' r) (hr : ∀ b, r = some b → ∃ cs t fz, w.heap[b]? = some (.cells cs t fz) ∧ (t : Nat) ≠ 191 ∧ (t : Nat) ≠ 153) : Slv w' c s := by
 refine ⟨?_, ?_, h.m, h.h, h.e⟩
 ·rw [g.block c h.lt (fun e => ?_)]
  ·exact h.blk
  ·obtain ⟨cs, t, fz, h1, h2, _⟩ := hr c e.symm
   rw [h.blk] at h1
   simp only [Option.some.injEq, Obj.cells.injEq] at h1
   exact h2 h1.2.1.symm
 ·refine h.cl.kept g ?_
  cases q : s.V.ownBlock with
  | none => exact .inl rfl
  | some k =>
   refine .inr (fun e => ?_)
   obtain ⟨cs, t, fz, h1, _, h3⟩ := hr k e.symm
   obtain ⟨cs', fz', h4⟩ := css.own_kind h.cl k q
   rw [h4] at h1
   simp only [Option.some.injEq, Obj.cells.injEq] at h1
   exact h3 h1.2.1.symm
structure Wlk (n : Nat) (LL : List (List Int)) (a mid : Nat) (w : World) (c : Nat) (v : WV) (s : SV) (A : List Int) : Prop where
 blk : Blk w c v
 vn : v.n = n
 sl : Slv w v.sp s
 rt : Right n LL s
 ow : w.ownsRow mid 3 1 v.p A.length (ints (tl 0 A))
 cl : OwnS a mid w v.f LL
 len : A.length ≤ n
 bit : ∀ x ∈ A, x = 0 ∨ x = 1
 xs : ∀ i, i ≤ A.length → Closed s.Ss (A.take i) (v.X i)
 xb : ∀ i, v.X i < 2 ^ 128
 ds : ∀ i, i ≤ 24 → ∀ j, (v.D i).testBit j = true ↔ ∃ u, u ≤ i ∧ (s.E u).testBit j = true
 db : ∀ i, v.D i < 2 ^ 128
 hc : mid ≤ c
 am : a ≤ mid
 ps : ∃ g cap, v.p = .slice (some ⟨g, 0, none⟩) A.length cap
theorem ne_none {w : World} {b n z : Nat} {e : TypeId} {v : Value} {xs : List Value} (h : w.ownsRow b e z v n xs) : v.ownBlock = none ∨ v.ownBlock ≠ none := by
 cases v.ownBlock with
 | none => exact .inl rfl
 | some k => exact .inr (by simp)
theorem Wlk.kept {n : Nat} {LL : List (List Int)} {a mid : Nat} {w w' : World} {c : Nat} {v : WV} {s : SV} {A : List Int} (h : Wlk n LL a mid w c v s A) (g : w.grownBy w' none) : Wlk n LL a mid w' c v s A :=
 { h with blk := h.blk.kept g, sl := h.sl.kept g, ow := h.ow.kept g (ne_none h.ow), cl := h.cl.kept g }
theorem Wlk.pc {n : Nat} {LL : List (List Int)} {a mid : Nat} {w : World} {c : Nat} {v : WV} {s : SV} {A : List Int} (h : Wlk n LL a mid w c v s A) : v.p.ownBlock ≠ some c := by
 rcases row_nec h.ow h.blk (by decide) with e | e
 ·rw [e]; exact fun z => by cases z
 ·exact e
theorem Wlk.cellC {n : Nat} {LL : List (List Int)} {a mid : Nat} {w w' : World} {c : Nat} {v v' : WV} {s : SV} {A : List Int} (h : Wlk n LL a mid w c v s A) (g : w.grownBy w' (some c)) (hb : Blk w' c v') (e1 : v'.n = v.n) (e2 : v'.f = v.f) (e3 : v'.p = v.p) (e4 : v'.sp = v.sp) (e5 : v'.D = v.D)
  (hx : ∀ i, i ≤ A.length → v'.X i = v.X i) (hxb : ∀ i, v'.X i < 2 ^ 128) : Wlk n LL a mid w' c v' s A := by
 refine ⟨hb, by rw [e1]; exact h.vn, ?_, h.rt, ?_, ?_, h.len, h.bit, fun i hi => by rw [hx i hi]; exact h.xs i hi, hxb, by rw [e5]; exact h.ds, by rw [e5]; exact h.db, h.hc, h.am, by rw [e3]; exact h.ps⟩
 ·rw [e4]
  exact Slv.by h.sl g (fun b e => by cases e; exact ⟨_, _, _, h.blk, by decide, by decide⟩)
 ·rw [e3]
  refine h.ow.kept g ?_
  cases q : v.p.ownBlock with
  | none => exact .inl rfl
  | some k => exact .inr (by rw [← q]; exact h.pc)
 ·rw [e2]
  exact h.cl.outs (css.outs_by (lo := c) (hi := c + 1) g (fun k e => by cases e; omega)) (by have := h.hc; omega)
theorem Wlk.path {n : Nat} {LL : List (List Int)} {a mid : Nat} {w w1 : World} {c : Nat} {v : WV} {s : SV} {A B : List Int} {u : Value} (h : Wlk n LL a mid w c v s A) (g : w.grownBy w1 v.p.ownBlock) (ho : w1.ownsRow mid 3 1 u B.length (ints (tl 0 B))) (hl : B.length ≤ n) (hb : ∀ x ∈ B, x = 0 ∨ x = 1) (hx : ∀ i, i ≤ B.length → Closed s.Ss (B.take i) (v.X i)) (hs : ∃ g cap, u = .slice (some ⟨g, 0, none⟩) B.length cap) :
  Wlk n LL a mid (w1.setCell ⟨c, 2, none⟩ u) c { v with p := u } s B := by
 have hb1 : Blk w1 c v := h.blk.by g h.pc
 have k1 : ∀ b, v.p.ownBlock = some b → ∃ cs t fz, w.heap[b]? = some (.cells cs t fz) ∧ (t : Nat) ≠ 191 ∧ (t : Nat) ≠ 153 := fun b e => by
  obtain ⟨cs, fz, q⟩ := css.own_kind h.ow b e
  exact ⟨_, _, _, q, by decide, by decide⟩
 have g2 := sl.grown_setCell w1 c 2 u
 have hu : u.ownBlock ≠ some c := by
  rcases row_nec ho hb1 (by decide) with e | e
  ·rw [e]; exact fun z => by cases z
  ·exact e
 refine ⟨hb1.set (cellsP v u), h.vn, ?_, h.rt, ?_, ?_, hl, hb, hx, h.xb, h.ds, h.db, h.hc, h.am, hs⟩
 ·exact Slv.by (Slv.by h.sl g k1) g2 (fun b e => by cases e; exact ⟨_, _, _, hb1, by decide, by decide⟩)
 ·refine ho.kept g2 ?_
  cases q : u.ownBlock with
  | none => exact .inl rfl
  | some k => exact .inr (by rw [← q]; exact hu)
 ·refine (h.cl.outs (css.outs_by (lo := mid) (hi := w.heap.size) g (fun k e => (h.ow.lt k e))) (.inl (Nat.le_refl _))).outs (css.outs_by (lo := c) (hi := c + 1) g2 (fun k e => by cases e; omega)) (by have := h.hc; omega)
end Go.Proofs.YtnlllcgcaddhmaaGreatDoor.qw
