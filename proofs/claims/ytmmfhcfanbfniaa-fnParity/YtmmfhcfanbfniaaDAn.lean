/- What the laws draw of formulas, right or not (l02Any): a formula in memory of the call's own, whatever the bytes, within named bounds; nothing old but the cursor is written. -/
import Derived.Test.YtmmfhcfanbfniaaDCn
import Derived.Deep.CutBlock
namespace Go.Proofs.Ytmmfhcfanbfniaa.dcn
open Go.ChangeShapes Go.WideShapes Go.ChangeAt Go.RowKit
open Go.Proofs.Ytmmfhcfanbfniaa.sl (Sl Own ints hide unhide grown_refl grown_trans grown_trans' of_below below_of grown_drewN)
open Go.Proofs.Ytmmfhcfanbfniaa.css (Sls OwnS tot)
open Go.Proofs.Ytmmfhcfanbfniaa.cf (Box)
open Go.Proofs.Ytmmfhcfanbfniaa.draw (Cur Bs I64 newCur grown_new)
open Go.Proofs.Ytmmfhcfanbfniaa.dcls (MadeC MadeC.start appendC)
set_option linter.unusedVariables false

/-- literals of seven variables at most -/
def Low (L : List Int) : Prop := ∀ x ∈ L, x ≠ 0 ∧ -7 ≤ x ∧ x ≤ 7
/-- the bounds of a drawn formula -/
def Bd (n : Int) (M : List (List Int)) (k : Nat) : Prop := (-1 ≤ n ∧ n ≤ 25) ∧ M.length ≤ k ∧ (∀ L ∈ M, L.length ≤ 49) ∧ (n ≤ 7 ∨ ∀ L ∈ M, Low L)
theorem low_good {n : Int} {M : List (List Int)} (hn : n ≤ 6) (h : M.all (good n) = true) : ∀ L ∈ M, Low L := by
  intro L hL x hx
  have := List.all_eq_true.1 h L hL
  unfold good at this
  rw [Bool.and_eq_true, List.all_eq_true] at this
  have := of_decide_eq_true (this.2 x hx)
  omega
theorem bd_good {n : Int} {M : List (List Int)} (hn : 1 ≤ n ∧ n ≤ 6) (hl : (M.length : Int) ≤ 4 * n + 2) (h : M.all (good n) = true) : Bd n M 26 := by
  refine ⟨by omega, by omega, fun L hL => ?_, .inl (by omega)⟩
  have := List.all_eq_true.1 h L hL
  unfold good at this
  rw [Bool.and_eq_true, decide_eq_true_iff] at this
  omega
theorem Bd.snoc {n : Int} {M : List (List Int)} {k : Nat} {L : List Int} (h : Bd n M k) (hL : L.length ≤ 49) (hf : n ≤ 7 ∨ Low L) : Bd n (M ++ [L]) (k + 1) := by
  refine ⟨h.1, by rw [List.length_append]; have := h.2.1; simp; omega, fun K hK => ?_, ?_⟩
  · rw [List.mem_append, List.mem_singleton] at hK
    rcases hK with hK | rfl
    · exact h.2.2.1 K hK
    · exact hL
  · rcases h.2.2.2 with q | q
    · exact .inl q
    · rcases hf with f | f
      · exact .inl f
      · refine .inr fun K hK => ?_
        rw [List.mem_append, List.mem_singleton] at hK
        rcases hK with hK | rfl
        · exact q K hK
        · exact f
theorem low_nil : Low [] := fun x hx => by cases hx
theorem low_one : Low [1] := fun x hx => by rw [List.mem_singleton] at hx; omega
theorem Bd.more {n : Int} {M : List (List Int)} {k k' : Nat} (h : Bd n M k) (hk : k ≤ k') : Bd n M k' := ⟨h.1, Nat.le_trans h.2.1 hk, h.2.2⟩
theorem Bd.setN {n n' : Int} {M : List (List Int)} {k : Nat} (h : Bd n M k) (hn : -1 ≤ n' ∧ n' ≤ 25) (hf : ∀ L ∈ M, Low L) : Bd n' M k := ⟨hn, h.2.1, h.2.2.1, .inr hf⟩
/-- the struct variable in the middle -/
def Any (c : Nat) (w wr : World) (b k : Nat) : Prop := ∃ n M hi, Bd n M k ∧ MidD c w wr b n M [(w.heap.size, .int .i64 0, .slice none 0 0)] hi
/-- what comes -/
def Came (c : Nat) (w w' : World) (n : Int) (v : Value) (M : List (List Int)) : Prop := Bd n M 121 ∧ Drawn c w w' v M
theorem midD_of {c : Nat} {w w1 : World} {n : Int} {a : Option Addr} {cap : Nat} {M : List (List Int)} (hlt : c < w.heap.size) (d : Drawn c (w.alloc (.cells #[.int .i64 0, .slice none 0 0] 52)) w1 (.slice a M.length cap) M) :
    MidD c w (w1.alloc (.cells #[.int .i64 n, .slice a M.length cap] 52)) w1.heap.size n M [(w.heap.size, .int .i64 0, .slice none 0 0)] w1.heap.size := by
  obtain ⟨ho, g1, hc1⟩ := d
  have g0 := World.grownBy_alloc w (.cells #[.int .i64 0, .slice none 0 0] 52) (some c)
  have hb := (Box.new 52 w (.int .i64 0) (.slice none 0 0)).by g1 (fun e => by cases e; omega)
  have gA := World.grownBy_alloc w1 (.cells #[.int .i64 n, .slice a M.length cap] 52)
  have hs := (grown_trans' g0 g1).size
  refine ⟨hs, hlt, grown_trans' (grown_trans' g0 g1) (gA _), hc1.kept (gA none) (fun r e => by cases e), by rw [World.size_alloc]; omega, fun p hp => ?_, a, cap, Box.new _ _ _ _, ?_⟩
  · rw [List.mem_singleton] at hp
    subst hp
    exact ⟨fun e => by have := hb.lt; have e' : w.heap.size = w1.heap.size := e; omega, fun e => by have e' : w.heap.size = c := e; omega, hb.kept (gA none)⟩
  · exact (ho.kept (gA none)).sub (by rw [World.size_alloc]; omega) (Nat.le_refl _)

theorem wr120 {x : Int} (h0 : 0 ≤ x) (h1 : x < 2) : IntKind.i64.wrap (120 + x) = 120 + x := by
  have : x = 0 ∨ x = 1 := by omega
  rcases this with rfl | rfl <;> rfl
/-- the formula stored into the result's variable -/
theorem Drawn.stored {c : Nat} {w wr : World} {hi : Nat} {a : Option Addr} {cap : Nat} {M : List (List Int)} {x y : Value} (hlt : c < w.heap.size) (qg : w.grownBy wr (some c)) (qcur : Cur wr c) (qh : hi ≤ wr.heap.size) (ho : OwnS w.heap.size hi wr (.slice a M.length cap) M) (br : Box 52 wr w.heap.size x y) (n : Int) :
    Drawn c w ((wr.setCell ⟨w.heap.size, 0, none⟩ (.int .i64 n)).setCell ⟨w.heap.size, 1, none⟩ (.slice a M.length cap)) (.slice a M.length cap) M := by
  have g1 := sl.grown_setCell wr w.heap.size 0 (.int .i64 n)
  have g2 := sl.grown_setCell (wr.setCell ⟨w.heap.size, 0, none⟩ (.int .i64 n)) w.heap.size 1 (.slice a M.length cap)
  refine ⟨?_, new_some (new_some qg g1 (Nat.le_refl _)) g2 (Nat.le_refl _), (qcur.kept g1 (fun r e => by cases e; exact hlt)).kept g2 (fun r e => by cases e; exact hlt)⟩
  have := gr.ownS_set (i := 1) (u := .slice a M.length cap) (gr.ownS_set (i := 0) (u := .int .i64 n) ho br) (br.set0 (.int .i64 n))
  exact this.sub (Nat.le_refl _) (by rw [cf.size_set, cf.size_set]; exact qh)

end Go.Proofs.Ytmmfhcfanbfniaa.dcn
