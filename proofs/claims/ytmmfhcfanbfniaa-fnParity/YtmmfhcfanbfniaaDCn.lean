/- What the laws draw of formulas: a formula in memory of the call's own, whatever the bytes, within named bounds; nothing old but the cursor is written. -/
import Derived.Test.YtmmfhcfanbfniaaDVa
import Derived.Deep.LoopGhost
import Derived.Deep.CutRange
namespace Go.Proofs.Ytmmfhcfanbfniaa.dcn
open Go.ChangeShapes Go.WideShapes Go.ChangeAt Go.RowKit
open Go.Proofs.Ytmmfhcfanbfniaa.sl (Sl Own ints hide unhide grown_refl grown_trans grown_trans' of_below below_of grown_drewN)
open Go.Proofs.Ytmmfhcfanbfniaa.css (Sls OwnS tot)
open Go.Proofs.Ytmmfhcfanbfniaa.cf (Box)
open Go.Proofs.Ytmmfhcfanbfniaa.draw (Cur Bs I64 newCur grown_new)
open Go.Proofs.Ytmmfhcfanbfniaa.dcls (MadeC MadeC.start appendC)
set_option linter.unusedVariables false

/-- lists of the call's own stay while the cursor, which is older, turns -/
theorem ownS_turn {lo hi c : Nat} {w w1 : World} {v : Value} {M : List (List Int)} (h : OwnS lo hi w v M) (hc : c < lo) (g : w.grownBy w1 (some c)) : OwnS lo hi w1 v M := by
  have kp : ∀ (t : TypeId) (p : Value) (n : Nat) (xs : List Value), w.ownsRow lo t 1 p n xs → w1.ownsRow lo t 1 p n xs := fun t p n xs h => h.kept g (by
    cases e : p.ownBlock with
    | none => exact .inl rfl
    | some k => exact .inr (fun e' => by cases e'; have := (h.lt _ e).1; omega))
  obtain ⟨D, e, ho, hb, hin, hp⟩ := h
  exact ⟨D, e, kp _ _ _ _ ho, hb, fun p hp => ⟨kp _ _ _ _ (hin p hp).1, (hin p hp).2⟩, hp⟩
/-- a struct variable of the call's own (block b) that holds n and the lists M, which lie below hi; the cursor in block c may have turned since w; beside it others, that stay -/
def MidD (c : Nat) (w wr : World) (b : Nat) (n : Int) (M : List (List Int)) (Bs : List (Nat × Value × Value)) (hi : Nat) : Prop :=
  w.heap.size ≤ b ∧ c < w.heap.size ∧ w.grownBy wr (some c) ∧ Cur wr c ∧ hi ≤ wr.heap.size ∧ (∀ p ∈ Bs, p.1 ≠ b ∧ p.1 ≠ c ∧ Box 52 wr p.1 p.2.1 p.2.2) ∧ ∃ a cap, Box 52 wr b (.int .i64 n) (.slice a M.length cap) ∧ OwnS w.heap.size hi wr (.slice a M.length cap) M
theorem MidD.turn {c : Nat} {w wr w1 : World} {b : Nat} {n : Int} {M : List (List Int)} {Bs : List (Nat × Value × Value)} {hi : Nat} (h : MidD c w wr b n M Bs hi) (g : wr.grownBy w1 (some c)) (hcur : Cur w1 c) : MidD c w w1 b n M Bs hi := by
  obtain ⟨hb, hc, hg, _, hh, hB, a, cap, bx, ho⟩ := h
  exact ⟨hb, hc, grown_trans' hg g, hcur, Nat.le_trans hh g.size, fun p hp => ⟨(hB p hp).1, (hB p hp).2.1, (hB p hp).2.2.by g (fun e => (hB p hp).2.1 (by cases e; rfl))⟩, a, cap, bx.by g (fun e => by cases e; omega), ownS_turn ho hc g⟩
theorem MidD.cur {c : Nat} {w wr : World} {b : Nat} {n : Int} {M : List (List Int)} {Bs : List (Nat × Value × Value)} {hi : Nat} (h : MidD c w wr b n M Bs hi) : Cur wr c := h.2.2.2.1
theorem MidD.grown {c : Nat} {w wr : World} {b : Nat} {n : Int} {M : List (List Int)} {Bs : List (Nat × Value × Value)} {hi : Nat} (h : MidD c w wr b n M Bs hi) : w.grownBy wr (some c) := h.2.2.1
theorem MidD.c0 {c : Nat} {w wr : World} {b : Nat} {n : Int} {M : List (List Int)} {Bs : List (Nat × Value × Value)} {hi : Nat} (h : MidD c w wr b n M Bs hi) : wr.cell? ⟨b, 0, none⟩ = some (.int .i64 n) := by
  obtain ⟨_, _, _, _, _, _, a, cap, bx, _⟩ := h
  exact bx.c0
/-- one slice more -/
theorem MidD.step {c : Nat} {w wr w1 : World} {b : Nat} {n : Int} {M : List (List Int)} {Bs : List (Nat × Value × Value)} {hi : Nat} {L : List Int} {a : Option Addr} {cap g cap' : Nat} {u : Value}
    (hb : w.heap.size ≤ b) (hc : c < w.heap.size) (hg : w.grownBy wr (some c)) (hcur : Cur wr c) (hB : ∀ p ∈ Bs, p.1 ≠ b ∧ p.1 ≠ c ∧ Box 52 wr p.1 p.2.1 p.2.2) (bx : Box 52 wr b (.int .i64 n) (.slice a M.length cap)) (ho : OwnS w.heap.size hi wr (.slice a M.length cap) M)
    (h1 : OwnS w.heap.size w1.heap.size w1 (.slice (some ⟨g, 0, none⟩) (M.length + 1) cap') (M ++ [L])) (g1 : (wr.alloc (.cells #[u] 24)).grownBy w1 (Value.slice a M.length cap).ownBlock) :
    (w1.cell? ⟨b, 1, none⟩ = some (.slice a M.length cap) ∧ w1.frozen? ⟨b, 1, none⟩ = false) ∧ MidD c w (w1.setCell ⟨b, 1, none⟩ (.slice (some ⟨g, 0, none⟩) (M.length + 1) cap')) b n (M ++ [L]) Bs w1.heap.size := by
  have gA := World.grownBy_alloc wr (.cells #[u] 24) none
  have hb2 := bx.kept gA
  obtain ⟨D, e, hw, hbb, hin, hp⟩ := ho.kept gA
  have hb1 := hb2.by g1 (gr.box_ne hw gr.ty1 hb2)
  have hg1 : w.grownBy w1 (some c) := ⟨g1.os.trans (gA.os.trans hg.os), g1.tape.trans (gA.tape.trans hg.tape), g1.output.trans (gA.output.trans hg.output), Nat.le_trans hg.size (Nat.le_trans gA.size g1.size), fun k hk hne => by
    rw [g1.block k (Nat.lt_of_lt_of_le hk (Nat.le_trans hg.size gA.size)) (fun e => by have := (hw.lt k e.symm).1; omega), gA.block k (Nat.lt_of_lt_of_le hk hg.size) (fun e => by cases e)]
    exact hg.block k hk hne⟩
  have hcur1 : Cur w1 c := (hcur.kept gA (fun r e => by cases e)).kept g1 (fun r e => by have := (hw.lt r e).1; omega)
  have hB1 : ∀ p ∈ Bs, Box 52 w1 p.1 p.2.1 p.2.2 := by
    intro p hp'
    have hbb := (hB _ hp').2.2.kept gA
    exact hbb.by g1 (gr.box_ne hw gr.ty1 hbb)
  have gS := sl.grown_setCell w1 b 1 (.slice (some ⟨g, 0, none⟩) (M.length + 1) cap')
  refine ⟨⟨hb1.c1, hb1.f 1⟩, hb, hc, ?_, hcur1.kept gS (fun r e => by cases e; omega), by rw [cf.size_set]; exact Nat.le_refl _, fun p hp' => ⟨(hB p hp').1, (hB p hp').2.1, (hB1 p hp').setO (fun e => (hB p hp').1 e.symm)⟩, some ⟨g, 0, none⟩, cap', ?_, ?_⟩
  · exact ⟨gS.os.trans hg1.os, gS.tape.trans hg1.tape, gS.output.trans hg1.output, Nat.le_trans hg1.size gS.size, fun k hk hne => (gS.block k (Nat.lt_of_lt_of_le hk hg1.size) (fun e => by cases e; omega)).trans (hg1.block k hk hne)⟩
  · have := hb1.set1 (.slice (some ⟨g, 0, none⟩) (M.length + 1) cap')
    rw [List.length_append]
    exact this
  · rw [List.length_append]
    exact gr.ownS_set h1 hb1
/-- 'f.N = x' -/
theorem MidD.setN {c : Nat} {w wr : World} {b : Nat} {n : Int} {M : List (List Int)} {Bs : List (Nat × Value × Value)} {hi : Nat} (h : MidD c w wr b n M Bs hi) (x : Int) : MidD c w (wr.setCell ⟨b, 0, none⟩ (.int .i64 x)) b x M Bs hi := by
  obtain ⟨hb, hc, hg, hcur, hh, hB, a, cap, bx, ho⟩ := h
  have gS := sl.grown_setCell wr b 0 (.int .i64 x)
  exact ⟨hb, hc, ⟨gS.os.trans hg.os, gS.tape.trans hg.tape, gS.output.trans hg.output, Nat.le_trans hg.size gS.size, fun k hk hne => (gS.block k (Nat.lt_of_lt_of_le hk hg.size) (fun e => by cases e; omega)).trans (hg.block k hk hne)⟩,
    hcur.kept gS (fun r e => by cases e; omega), by rw [cf.size_set]; exact hh, fun p hp => ⟨(hB p hp).1, (hB p hp).2.1, (hB p hp).2.2.setO (fun e => (hB p hp).1 e.symm)⟩, a, cap, bx.set0 _, gr.ownS_set ho bx⟩
/-- a drawn formula: n and the lists, in memory made since w, while the cursor turned -/
def Drawn (c : Nat) (w w' : World) (v : Value) (M : List (List Int)) : Prop := OwnS w.heap.size w'.heap.size w' v M ∧ w.grownBy w' (some c) ∧ Cur w' c

/-- what a right drawn clause is -/
def good (n : Int) (L : List Int) : Bool := decide (L.length ≤ 4) && L.all fun x => decide (x ≠ 0 ∧ -n ≤ x ∧ x ≤ n)
/-- .. a right one -/
def Right (c : Nat) (w w' : World) (most n : Int) (v : Value) (M : List (List Int)) : Prop := (1 ≤ n ∧ n ≤ most) ∧ (M.length : Int) ≤ 4 * n + 2 ∧ M.all (good n) = true ∧ Drawn c w w' v M
theorem new_some {a b d : World} {c r : Nat} (h : a.grownBy b (some c)) (k : b.grownBy d (some r)) (hr : a.heap.size ≤ r) : a.grownBy d (some c) :=
  ⟨k.os.trans h.os, k.tape.trans h.tape, k.output.trans h.output, Nat.le_trans h.size k.size, fun i hi hn => (k.block i (Nat.lt_of_lt_of_le hi h.size) (fun e => by cases e; omega)).trans (h.block i hi hn)⟩
theorem good_nil (n : Int) : good n [] = true := by simp [good]
theorem good_all {n : Int} {N : List Int} (hl : N.length ≤ 4) (h : N.all (fun x => decide (x ≠ 0 ∧ -n ≤ x ∧ x ≤ n)) = true) : good n N = true := by
  unfold good
  rw [h, decide_eq_true hl]
  rfl
theorem all_snoc {n : Int} {N : List Int} {y : Int} (h : N.all (fun x => decide (x ≠ 0 ∧ -n ≤ x ∧ x ≤ n)) = true) (hy : y ≠ 0 ∧ -n ≤ y ∧ y ≤ n) : (N ++ [y]).all (fun x => decide (x ≠ 0 ∧ -n ≤ x ∧ x ≤ n)) = true := by
  rw [List.all_append, h]
  simp [hy]
theorem allG_snoc {n : Int} {M : List (List Int)} {L : List Int} (h : M.all (good n) = true) (hy : good n L = true) : (M ++ [L]).all (good n) = true := by
  rw [List.all_append, h]
  simp [hy]
theorem midD_start {c : Nat} {w w1 : World} {n : Int} (hlt : c < w.heap.size) (hc1 : Cur w1 c) (g1 : (w.alloc (.cells #[.int .i64 0, .slice none 0 0] 52)).grownBy w1 (some c)) :
    MidD c w (w1.alloc (.cells #[.int .i64 n, .slice none 0 0] 52)) w1.heap.size n [] [(w.heap.size, .int .i64 0, .slice none 0 0)] (w1.heap.size + 1) := by
  have g0 := World.grownBy_alloc w (.cells #[.int .i64 0, .slice none 0 0] 52) (some c)
  have hb := (Box.new 52 w (.int .i64 0) (.slice none 0 0)).by g1 (fun e => by cases e; omega)
  have gA := World.grownBy_alloc w1 (.cells #[.int .i64 n, .slice none 0 0] 52)
  have hs := (grown_trans' g0 g1).size
  refine ⟨hs, hlt, grown_trans' (grown_trans' g0 g1) (gA _), hc1.kept (gA none) (fun r e => by cases e), by rw [World.size_alloc]; exact Nat.le_refl _, fun p hp => ?_, none, 0, Box.new _ _ _ _, ?_⟩
  · rw [List.mem_singleton] at hp
    subst hp
    exact ⟨fun e => by have := hb.lt; have e' : w.heap.size = w1.heap.size := e; omega, fun e => by have e' : w.heap.size = c := e; omega, hb.kept (gA none)⟩
  · exact ⟨[], rfl, World.ownsRow_nil _ _ _ _, fun k e => (by cases e), fun p hp => (by cases hp), .nil⟩

end Go.Proofs.Ytmmfhcfanbfniaa.dcn
