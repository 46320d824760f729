/- The machine over lines, by the lines that are not passed over; the struct variable that grows while the reader turns. -/
import Derived.Test.YtfokbkaommfnoaaGreatDoorHd
import Derived.Test.YtfokbkaommfnoaaGreatDoorGr
namespace Go.Proofs.YtfokbkaommfnoaaGreatDoor.ln
open Go.ChangeShapes Go.WideShapes Go.ChangeAt Go.RowKit
open Go.Proofs.YtfokbkaommfnoaaGreatDoor.sl (hide unhide grown_refl grown_trans of_below below_of Own)
open Go.Proofs.YtfokbkaommfnoaaGreatDoor.cf (Box)
open Go.Proofs.YtfokbkaommfnoaaGreatDoor.css (OwnS)
set_option linter.unusedVariables false
theorem no_line (c : Int) (i : Nat) : no c i = ⟨0, [], c, ((i + 1 : Nat) : Int)⟩ := by simp [no]
theorem front_none {ls r' : List (List UInt8)} {i i' : Nat} (h : skip ls i = (none, r', i')) : front ls i = ⟨0, [], 2, (i' : Int)⟩ := by
  induction ls generalizing i with
  | nil =>
    simp only [skip, Prod.mk.injEq] at h
    rw [front, no_line, h.2.2]
  | cons l r ih =>
    by_cases hp : passed l = true
    · rw [skip_pass _ _ hp] at h
      rw [front, if_pos hp, ih h]
    · rw [skip_stop _ _ (by simpa using hp)] at h
      cases (Prod.mk.inj h).1
theorem front_some {ls r' : List (List UInt8)} {l : List UInt8} {i i' : Nat} (h : skip ls i = (some l, r', i')) : front ls i = match headOf l with
    | none => ⟨0, [], 2, (i' : Int)⟩
    | some (n, m) => body n m r' i' [] := by
  induction ls generalizing i with
  | nil =>
    simp only [skip, Prod.mk.injEq] at h
    cases h.1
  | cons k r ih =>
    by_cases hp : passed k = true
    · rw [skip_pass _ _ hp] at h
      rw [front, if_pos hp, ih h]
    · rw [skip_stop _ _ (by simpa using hp)] at h
      simp only [Prod.mk.injEq, Option.some.injEq] at h
      obtain ⟨rfl, rfl, rfl⟩ := h
      rw [front, if_neg hp]
      cases headOf k with
      | none => exact no_line 2 i
      | some p => rfl
theorem front_bad {ls r' : List (List UInt8)} {l : List UInt8} {i i' : Nat} (h : skip ls i = (some l, r', i')) (hh : headOf l = none) : front ls i = ⟨0, [], 2, (i' : Int)⟩ := by
  rw [front_some h, hh]
theorem front_good {ls r' : List (List UInt8)} {l : List UInt8} {i i' : Nat} {n m : Int} (h : skip ls i = (some l, r', i')) (hh : headOf l = some (n, m)) : front ls i = body n m r' i' [] := by
  rw [front_some h, hh]
theorem body_none {ls r' : List (List UInt8)} {i i' : Nat} {n m : Int} {cs : List (List Int)} (h : skip ls i = (none, r', i')) : body n m ls i cs = if (cs.length : Int) < m then ⟨0, [], 5, (i' : Int)⟩ else ⟨n, cs, 0, 0⟩ := by
  induction ls generalizing i with
  | nil =>
    simp only [skip, Prod.mk.injEq] at h
    rw [body, no_line, h.2.2]
  | cons l r ih =>
    by_cases hp : passed l = true
    · rw [skip_pass _ _ hp] at h
      rw [body, if_pos hp, ih h]
    · rw [skip_stop _ _ (by simpa using hp)] at h
      cases (Prod.mk.inj h).1
theorem body_some {ls r' : List (List UInt8)} {l : List UInt8} {i i' : Nat} {n m : Int} {cs : List (List Int)} (h : skip ls i = (some l, r', i')) : body n m ls i cs = if fine n l then (if (cs.length : Int) = m then ⟨0, [], 4, (i' : Int)⟩ else body n m r' i' (cs ++ [rd.readL l])) else ⟨0, [], 3, (i' : Int)⟩ := by
  induction ls generalizing i with
  | nil =>
    simp only [skip, Prod.mk.injEq] at h
    cases h.1
  | cons k r ih =>
    by_cases hp : passed k = true
    · rw [skip_pass _ _ hp] at h
      rw [body, if_pos hp, ih h]
    · rw [skip_stop _ _ (by simpa using hp)] at h
      simp only [Prod.mk.injEq, Option.some.injEq] at h
      obtain ⟨rfl, rfl, rfl⟩ := h
      rw [body, if_neg hp, no_line, no_line]
theorem body_bad {ls r' : List (List UInt8)} {l : List UInt8} {i i' : Nat} {n m : Int} {cs : List (List Int)} (h : skip ls i = (some l, r', i')) (hf : fine n l = false) : body n m ls i cs = ⟨0, [], 3, (i' : Int)⟩ := by
  rw [body_some h, hf]
  rfl
theorem body_many {ls r' : List (List UInt8)} {l : List UInt8} {i i' : Nat} {n m : Int} {cs : List (List Int)} (h : skip ls i = (some l, r', i')) (hf : fine n l = true) (hm : (cs.length : Int) = m) : body n m ls i cs = ⟨0, [], 4, (i' : Int)⟩ := by
  rw [body_some h, hf, if_pos rfl, if_pos hm]
theorem body_more {ls r' : List (List UInt8)} {l : List UInt8} {i i' : Nat} {n m : Int} {cs : List (List Int)} (h : skip ls i = (some l, r', i')) (hf : fine n l = true) (hm : ¬ (cs.length : Int) = m) : body n m ls i cs = body n m r' i' (cs ++ [rd.readL l]) := by
  rw [body_some h, hf, if_pos rfl, if_neg hm]

/-- a struct variable of the call's own that holds n and the lists M; beside it others, that stay; a block r ahead of them turns -/
def MidG (w wr : World) (r c : Nat) (n : Int) (M : List (List Int)) (Bs : List (Nat × Value × Value)) : Prop :=
  r < w.heap.size ∧ w.heap.size ≤ c ∧ w.grownBy wr (some r) ∧ (∀ b ∈ Bs, w.heap.size ≤ b.1 ∧ b.1 ≠ c ∧ Box 26 wr b.1 b.2.1 b.2.2) ∧ ∃ a cap, Box 26 wr c (.int .i64 n) (.slice a M.length cap) ∧ OwnS w.heap.size wr.heap.size wr (.slice a M.length cap) M
theorem ownS_by {lo hi r : Nat} {w w' : World} {v : Value} {LL : List (List Int)} (h : OwnS lo hi w v LL) (g : w.grownBy w' (some r)) (hr : r < lo) : OwnS lo hi w' v LL :=
  h.outs (css.outs_by (lo := r) (hi := r + 1) g (fun k e => by cases e; omega)) (by omega)
theorem MidG.turn {w wr w1 : World} {r c : Nat} {n : Int} {M : List (List Int)} {Bs : List (Nat × Value × Value)} (h : MidG w wr r c n M Bs) (g : wr.grownBy w1 (some r)) : MidG w w1 r c n M Bs := by
  obtain ⟨hr, hc, hg, hB, a, cap, hb, ho⟩ := h
  exact ⟨hr, hc, sl.grown_trans' hg g, fun b hb => ⟨(hB b hb).1, (hB b hb).2.1, (hB b hb).2.2.by g (fun e => by have := Option.some.inj e; have := (hB b hb).1; omega)⟩, a, cap, hb.by g (fun e => by have := Option.some.inj e; omega), (ownS_by ho g hr).sub (Nat.le_refl _) g.size⟩
theorem set_by {w w1 : World} {r c i : Nat} {u : Value} (g : w.grownBy w1 (some r)) (h : w.heap.size ≤ c) : w.grownBy (w1.setCell ⟨c, i, none⟩ u) (some r) :=
  ⟨g.os, g.tape, g.output, by rw [cf.size_set]; exact g.size, fun k hk hr => (Below.heap_setCell _ _ _ _ (by show k ≠ c; omega)).trans (g.block k hk hr)⟩
/-- what one slice more does -/
theorem MidG.step {w wr w2 w1 : World} {r c : Nat} {n : Int} {M : List (List Int)} {Bs : List (Nat × Value × Value)} {L : List Int} {a : Option Addr} {cap g cap' : Nat} {u : Value} (hr : r < w.heap.size) (hc : w.heap.size ≤ c) (hg : w.grownBy wr (some r)) (hB : ∀ b ∈ Bs, w.heap.size ≤ b.1 ∧ b.1 ≠ c ∧ Box 26 wr b.1 b.2.1 b.2.2) (hb : Box 26 wr c (.int .i64 n) (.slice a M.length cap)) (ho : OwnS w.heap.size wr.heap.size wr (.slice a M.length cap) M)
    (g2 : wr.grownBy w2 none) (h1 : OwnS w.heap.size w1.heap.size w1 (.slice (some ⟨g, 0, none⟩) (M.length + 1) cap') (M ++ [L])) (g1 : (w2.alloc (.cells #[u] 49)).grownBy w1 (Value.slice a M.length cap).ownBlock) :
    (w1.cell? ⟨c, 1, none⟩ = some (.slice a M.length cap) ∧ w1.frozen? ⟨c, 1, none⟩ = false ∧ (wr.heap[r]? = w1.heap[r]?)) ∧ MidG w (w1.setCell ⟨c, 1, none⟩ (.slice (some ⟨g, 0, none⟩) (M.length + 1) cap')) r c n (M ++ [L]) Bs := by
  have gA := grown_trans (r := none) g2 (World.grownBy_alloc w2 (.cells #[u] 49) none)
  have hb2 := hb.kept gA
  obtain ⟨D, e, hw, hbb, hin, hp⟩ := ho.kept gA
  have hb1 := hb2.by g1 (gr.box_ne hw gr.ty1 hb2)
  have hgA : w.grownBy (w2.alloc (.cells #[u] 49)) (some r) := sl.grown_trans' hg (more_by gA _)
  have hrw := hg.size
  have hk1 : ∀ k, k < w.heap.size → w1.heap[k]? = (w2.alloc (.cells #[u] 49)).heap[k]? := fun k hk => g1.block k (Nat.lt_of_lt_of_le hk hgA.size) (fun e => by have := (hw.lt k e.symm).1; omega)
  have hg1 : w.grownBy w1 (some r) := ⟨g1.os.trans hgA.os, g1.tape.trans hgA.tape, g1.output.trans hgA.output, Nat.le_trans hgA.size g1.size, fun k hk hne => by
    rw [hk1 k hk]
    exact hgA.block k hk hne⟩
  have hB1 : ∀ b x y, (b, x, y) ∈ Bs → Box 26 w1 b x y := by
    intro b x y hb'
    have hbb := (hB _ hb').2.2.kept gA
    exact hbb.by g1 (gr.box_ne hw gr.ty1 hbb)
  refine ⟨⟨hb1.c1, hb1.f 1, ?_⟩, hr, hc, set_by hg1 hc, fun b hb' => ⟨(hB b hb').1, (hB b hb').2.1, ?_⟩, some ⟨g, 0, none⟩, cap', ?_, ?_⟩
  · rw [hk1 r hr]
    exact (gA.block r (by omega) (fun e => by cases e)).symm
  · exact (hB1 b.1 b.2.1 b.2.2 hb').setO (fun e => (hB b hb').2.1 e.symm)
  · have := hb1.set1 (.slice (some ⟨g, 0, none⟩) (M.length + 1) cap')
    rw [List.length_append]
    exact this
  · rw [cf.size_set, List.length_append]
    exact gr.ownS_set h1 hb1
end Go.Proofs.YtfokbkaommfnoaaGreatDoor.ln
