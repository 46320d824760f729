/- Subsets that are told to the builder: what lies in memory while they are picked, and what stays; no condition but on sizes. -/
import Derived.Test.YtmmmldcnadidkaaT9
namespace Go.Proofs.Ytmmmldcnadidkaa.t2
open Go.ChangeShapes Go.WideShapes Go.ChangeAt Go.RowKit
open Go.Proofs.Ytmmmldcnadidkaa.sl (Sl Own ints hide unhide ret_int ret_bool grown_refl grown_trans grown_drewN)
open Go.Proofs.Ytmmmldcnadidkaa.css (Sls OwnS tot Apart own_ne own_ne' own_kind own_mono)
open Go.Proofs.Ytmmmldcnadidkaa.cf (Box)
set_option linter.unusedVariables false

/-- block c is a variable of one cell -/
def Var (t : TypeId) (w : World) (c : Nat) (x : Value) : Prop := w.heap[c]? = some (.cells #[x] t (0, 0))
theorem Var.cell {t : TypeId} {w : World} {c : Nat} {x : Value} (h : Var t w c x) : w.cell? ⟨c, 0, none⟩ = some x := by
  unfold Var at h
  unfold World.cell?
  rw [h]
  rfl
theorem Var.f {t : TypeId} {w : World} {c : Nat} {x : Value} (h : Var t w c x) : w.frozen? ⟨c, 0, none⟩ = false := by
  unfold Var at h
  unfold World.frozen?
  rw [h]
  rfl
theorem Var.lt {t : TypeId} {w : World} {c : Nat} {x : Value} (h : Var t w c x) : c < w.heap.size := (Array.getElem?_eq_some_iff.1 h).1
theorem Var.set {t : TypeId} {w : World} {c : Nat} {x : Value} (h : Var t w c x) (u : Value) : Var t (w.setCell ⟨c, 0, none⟩ u) c u := by
  unfold Var at *
  simp [World.setCell, Array.getElem?_modify, h]
theorem Var.same {t : TypeId} {w w' : World} {c : Nat} {x : Value} (h : Var t w c x) (e : w'.heap[c]? = w.heap[c]?) : Var t w' c x := e.trans h
theorem Var.new (t : TypeId) (w : World) (x : Value) : Var t (w.alloc (.cells #[x] t)) w.heap.size x := by
  show (w.heap.push _)[w.heap.size]? = _
  simp
/-- a variable of another type than a row's -/
theorem Var.ne {t t' : TypeId} {w : World} {lo n c : Nat} {v x : Value} {xs : List Value} (h : Var t' w c x) (ho : w.ownsRow lo t 1 v n xs) (ht : (t' : Nat) ≠ t) : v.ownBlock ≠ some c := by
  intro e
  obtain ⟨cs, fz, hc⟩ := own_kind ho c e
  unfold Var at h
  rw [h] at hc
  simp only [Option.some.injEq, Obj.cells.injEq] at hc
  exact ht hc.2.1
theorem Var.box {t t' : TypeId} {w : World} {c p : Nat} {x y z : Value} (h : Var t' w c x) (hb : Box t w p y z) : c ≠ p := by
  rintro rfl
  unfold Var at h
  unfold cf.Box at hb
  rw [h] at hb
  simp at hb

/-- the five variables of eachSubset, what is picked, and the builder -/
structure Pk (W0 Wb w : World) (p b1 b2 b3 b4 b5 m : Nat) (t3 t5 : TypeId) (x3 x5 lv vb : Value) (L : List Int) (P : List Int) (pv v : Value) (r : Bool) (D : List (Value × List Int)) : Prop where
  bld : BldD W0 w p v r D
  len : D.length ≤ 120
  le : W0.heap.size ≤ Wb.heap.size
  fr : Fr p vb v Wb w
  c1 : Var 3 w b1 (.int .i64 (m : Int))
  c2 : Var 35 w b2 pv
  c3 : Var t3 w b3 x3
  c4 : Var 35 w b4 lv
  c5 : Var t5 w b5 x5
  l2 : Wb.heap.size ≤ b2
  row : w.ownsRow Wb.heap.size 3 1 pv P.length (ints P)
  list : w.ownsRow 0 3 1 lv L.length (ints L)
  d1 : pv.ownBlock ≠ some b1
  d2 : v.ownBlock ≠ some b2
  d4 : v.ownBlock ≠ some b4
  d24 : b4 ≠ b2
  dl : ∀ k, lv.ownBlock = some k → pv.ownBlock ≠ some k
  dd : ∀ q ∈ D, ∀ k, q.1.ownBlock = some k → pv.ownBlock ≠ some k
  t3i : (t3 : Nat) ≠ 3 ∧ (t3 : Nat) ≠ 35
  t5i : (t5 : Nat) ≠ 3 ∧ (t5 : Nat) ≠ 35
variable {W0 Wb w : World} {p b1 b2 b3 b4 b5 m : Nat} {t3 t5 : TypeId} {x3 x5 lv vb : Value} {L P : List Int} {pv v : Value} {r : Bool} {D : List (Value × List Int)}
/-- what was picked is told -/
theorem Pk.tell {w' : World} {v' : Value} {r' : Bool} {D' : List (Value × List Int)} {C : List Int} (h : Pk W0 Wb w p b1 b2 b3 b4 b5 m t3 t5 x3 x5 lv vb L P pv v r D) (hb : BldD W0 w' p v' r' D') (hl : D'.length ≤ 120) (hf : Fr p v v' w w') (hd : D' = D ∨ ∃ u, D' = D ++ [(u, C)] ∧ ∀ k, u.ownBlock = some k → w.heap.size ≤ k) :
    Pk W0 Wb w' p b1 b2 b3 b4 b5 m t3 t5 x3 x5 lv vb L P pv v' r' D' := by
  have ty := css.types_ne
  have hv := h.bld.o.1
  have same : ∀ {t : TypeId} {c : Nat} {x : Value}, Var t w c x → v.ownBlock ≠ some c → w'.heap[c]? = w.heap[c]? := fun k hn => hf.block _ k.lt (k.box h.bld.b) hn
  have n1 : v.ownBlock ≠ some b1 := h.c1.ne hv (fun e => ty e.symm)
  have n3 : v.ownBlock ≠ some b3 := h.c3.ne hv h.t3i.2
  have n5 : v.ownBlock ≠ some b5 := h.c5.ne hv h.t5i.2
  have rows : ∀ {lo n : Nat} {q : Value} {xs : List Value}, w.ownsRow lo 3 1 q n xs → w'.ownsRow lo 3 1 q n xs := fun ho => own_at ho (fun k e => hf.block k (ho.lt k e).2 (fun e' => box_ne ho tyB.2 (e' ▸ h.bld.b) e) (own_ne hv ho k e))
  have o' : ∀ c, c < w.heap.size → v.ownBlock ≠ some c → v'.ownBlock ≠ some c := by
    intro c hc hn e
    rcases hf.own with e' | ⟨k, e', hk⟩
    · exact hn (e'.symm.trans e)
    · rw [e'] at e
      cases e
      omega
  refine ⟨hb, hl, h.le, h.fr.trans hf, h.c1.same (same h.c1 n1), h.c2.same (same h.c2 h.d2), h.c3.same (same h.c3 n3), h.c4.same (same h.c4 h.d4), h.c5.same (same h.c5 n5), h.l2, rows h.row, rows h.list, h.d1, o' _ h.c2.lt h.d2, o' _ h.c4.lt h.d4, h.d24, h.dl, ?_, h.t3i, h.t5i⟩
  intro q hq k e
  rcases hd with rfl | ⟨u, rfl, hu⟩
  · exact h.dd q hq k e
  · rw [List.mem_append, List.mem_singleton] at hq
    rcases hq with hq | rfl
    · exact h.dd q hq k e
    · intro e'
      have h1 := hu k e
      have h2 := (h.row.lt k e').2
      omega
/-- another value in the variable of what is picked, over the same or a new row -/
theorem Pk.put {w1 : World} {P' : List Int} {pv' : Value} (h : Pk W0 Wb w p b1 b2 b3 b4 b5 m t3 t5 x3 x5 lv vb L P pv v r D) (g : w.grownBy w1 pv.ownBlock) (ho : w1.ownsRow Wb.heap.size 3 1 pv' P'.length (ints P')) (hn : pv'.ownBlock = pv.ownBlock ∨ ∃ k, pv'.ownBlock = some k ∧ w.heap.size ≤ k) :
    Var 35 w1 b2 pv ∧ Pk W0 Wb (w1.setCell ⟨b2, 0, none⟩ pv') p b1 b2 b3 b4 b5 m t3 t5 x3 x5 lv vb L P' pv' v r D := by
  have ty := css.types_ne
  have hv := h.bld.o.1
  have hw := h.row
  have n2 : pv.ownBlock ≠ some b2 := h.c2.ne hw ty
  have n3 : pv.ownBlock ≠ some b3 := h.c3.ne hw h.t3i.1
  have n4 : pv.ownBlock ≠ some b4 := h.c4.ne hw ty
  have n5 : pv.ownBlock ≠ some b5 := h.c5.ne hw h.t5i.1
  have blk : ∀ c, c < w.heap.size → pv.ownBlock ≠ some c → w1.heap[c]? = w.heap[c]? := fun c hc hn => g.block c hc (fun e => hn e.symm)
  have v1 : Var 3 w1 b1 (.int .i64 (m : Int)) := h.c1.same (blk _ h.c1.lt h.d1)
  have v2 : Var 35 w1 b2 pv := h.c2.same (blk _ h.c2.lt n2)
  have v3 : Var t3 w1 b3 x3 := h.c3.same (blk _ h.c3.lt n3)
  have v4 : Var 35 w1 b4 lv := h.c4.same (blk _ h.c4.lt n4)
  have v5 : Var t5 w1 b5 x5 := h.c5.same (blk _ h.c5.lt n5)
  have pb : pv.ownBlock ≠ some p := box_ne hw tyB.2 h.bld.b
  have l1 := h.le
  have l2 := h.l2
  have bb : Box 42 w1 p v (.bool r) := (blk p h.bld.b.lt pb).trans h.bld.b
  have g0 : W0.grownBy w1 none := ⟨g.os.trans h.bld.g.os, g.tape.trans h.bld.g.tape, g.output.trans h.bld.g.output, Nat.le_trans h.bld.g.size g.size, fun k hk _ => by
    rw [blk k (Nat.lt_of_lt_of_le hk h.bld.g.size) (fun e => by have := (hw.lt k e).1; omega)]
    exact h.bld.g.block k hk (fun e => by cases e)⟩
  obtain ⟨o1, o2, o3, o4⟩ := h.bld.o
  have oe : OwnE W0.heap.size w1.heap.size w1 v D := by
    refine ⟨own_at o1 (fun k e => blk k (o1.lt k e).2 (fun e' => own_ne o1 hw k e' e)), fun k e => Nat.lt_of_lt_of_le (o2 k e) g.size, fun q hq => ⟨own_at (o3 q hq).1 (fun k e => blk k ((o3 q hq).1.lt k e).2 (h.dd q hq k e)), fun k e => Nat.lt_of_lt_of_le ((o3 q hq).2 k e) g.size⟩, o4⟩
  have b1w : BldD W0 w1 p v r D := ⟨h.bld.lo, g0, bb, oe⟩
  have li : w1.ownsRow 0 3 1 lv L.length (ints L) := own_at h.list (fun k e => blk k (h.list.lt k e).2 (h.dl k e))
  have oth : ∀ c, c ≠ b2 → (w1.setCell ⟨b2, 0, none⟩ pv').heap[c]? = w1.heap[c]? := fun c hc => set_other hc
  have nt : ∀ {t : TypeId} {c : Nat} {x : Value}, Var t w1 c x → (t : Nat) ≠ 35 → c ≠ b2 := by
    rintro t c x k ht rfl
    unfold Var at k v2
    rw [v2] at k
    simp only [Option.some.injEq, Obj.cells.injEq] at k
    exact ht k.2.1.symm
  have rown : ∀ {lo n : Nat} {q : Value} {xs : List Value}, w1.ownsRow lo 3 1 q n xs → (w1.setCell ⟨b2, 0, none⟩ pv').ownsRow lo 3 1 q n xs := fun ho => own_at ho (fun k e => oth k (fun e' => v2.ne ho ty (e' ▸ e)))
  have nw : ∀ k, k < w.heap.size → pv.ownBlock ≠ some k → pv'.ownBlock ≠ some k := by
    intro k hk hn' e
    rcases hn with e' | ⟨j, e', hj⟩
    · exact hn' (e'.symm.trans e)
    · rw [e'] at e
      cases e
      omega
  refine ⟨v2, b1w.other (by omega) (v2.box bb) h.d2 (fun q hq => v2.ne (oe.2.2.1 q hq).1 ty), h.len, h.le, ?_, v1.same (oth _ (nt v1 (fun e => ty e.symm))), v2.set _, v3.same (oth _ (nt v3 h.t3i.2)), v4.same (oth _ h.d24), v5.same (oth _ (nt v5 h.t5i.2)), h.l2, rown ho, rown li, nw _ h.c1.lt h.d1, h.d2, h.d4, h.d24, fun k e => nw k (h.list.lt k e).2 (h.dl k e), fun q hq k e => nw k ((h.bld.o.2.2.1 q hq).1.lt k e).2 (h.dd q hq k e), h.t3i, h.t5i⟩
  refine ⟨by rw [cf.size_set]; exact Nat.le_trans h.fr.size g.size, fun k hk hp hvb => ?_, h.fr.own⟩
  rw [oth k (by omega), blk k (Nat.lt_of_lt_of_le hk h.fr.size) (fun e => by have := (hw.lt k e).1; omega)]
  exact h.fr.block k hk hp hvb
end Go.Proofs.Ytmmmldcnadidkaa.t2
