/- What the laws' own comparisons of lists answer at lists that are alike, and what DrawFix draws; whatever the bytes. -/
import Derived.Test.YtlpgnaedhijdpaaDAn
namespace Go.Proofs.Ytlpgnaedhijdpaa.df
open Go.ChangeShapes Go.WideShapes Go.ChangeAt Go.RowKit
open Go.Proofs.Ytlpgnaedhijdpaa.sl (Sl Own ints hide unhide grown_refl grown_trans grown_trans' of_below below_of grown_drewN)
open Go.Proofs.Ytlpgnaedhijdpaa.css (Sls OwnS tot)
open Go.Proofs.Ytlpgnaedhijdpaa.cf (Box)
open Go.Proofs.Ytlpgnaedhijdpaa.draw (Cur Bs I64 newCur grown_new)
open Go.Proofs.Ytlpgnaedhijdpaa.dcn (Came Bd Drawn)
set_option linter.unusedVariables false

theorem Sl.drewN {w : World} {v : Value} {L : List Int} (h : Sl w v L) (n : Nat) : Sl (w.drewN n) v L := h.kept (grown_drewN w n) (.inl rfl)

theorem tot_bd {n : Int} {M : List (List Int)} {k : Nat} (h : Bd n M k) (hk : k ≤ 121) : tot M ≤ 6050 := by
  unfold css.tot
  have h2 : (M.map List.length).sum ≤ 49 * M.length := by
    have := h.2.2
    clear h
    induction M with
    | nil => simp
    | cons L l ih =>
      rw [List.map_cons, List.sum_cons, List.length_cons]
      have := ih (fun K hK => this K (List.mem_cons_of_mem _ hK))
      have := (by assumption : ∀ K ∈ L :: l, K.length ≤ 49) L (List.mem_cons_self ..)
      omega
  have := h.2.1
  omega

/-- a store into a slice of the call's own -/
theorem stored {w w6 : World} {g cap : Nat} {X : List Int} (i : Nat) (y : Int) (h : wo.Made w w6 (.slice (some ⟨g, 0, none⟩) X.length cap) X) (hi : i < X.length) :
    (∃ u, w6.cell? ⟨g, i, none⟩ = some u) ∧ w6.frozen? ⟨g, i, none⟩ = false ∧ wo.Made w (w6.setCell ⟨g, i, none⟩ (.int .i64 y)) (.slice (some ⟨g, 0, none⟩) (X.set i y).length cap) (X.set i y) ∧ css.Outs w.heap.size w6.heap.size w6 (w6.setCell ⟨g, i, none⟩ (.int .i64 y)) := by
  have hg := h.1.lt g rfl
  have gs := sl.grown_setCell w6 g i (.int .i64 y)
  refine ⟨?_, h.1.frozenAt i, ⟨?_, ?_⟩, css.outs_by gs (fun k e => by cases e; exact hg)⟩
  · rw [h.1.cellAt i (by omega)]
    exact ⟨_, List.getElem?_eq_getElem (by rw [sl.ints_length]; exact hi)⟩
  · have e : (ints X).set i (.int .i64 y) = ints (X.set i y) := by
      unfold sl.ints
      rw [List.map_set]
    rw [List.length_set, ← e]
    exact (h.1.stored i _).1
  · exact grown_new h.2 gs hg.1
theorem outs_trans {lo hi : Nat} {a b c : World} (h : css.Outs lo hi a b) (k : css.Outs lo hi b c) : css.Outs lo hi a c :=
  ⟨k.os.trans h.os, k.tape.trans h.tape, k.output.trans h.output, Nat.le_trans h.size k.size, fun i hi' d => (k.block i (Nat.lt_of_lt_of_le hi' h.size) d).trans (h.block i hi' d)⟩
theorem made_some {w w6 : World} {v : Value} {X : List Int} (h : wo.Made w w6 v X) (hX : 0 < X.length) : ∃ g cap, v = .slice (some ⟨g, 0, none⟩) X.length cap := by
  obtain ⟨⟨_, h2⟩, _⟩ := h
  rcases h2 with ⟨rfl, h0⟩ | ⟨g, cap, cur, rfl, _⟩
  · omega
  · exact ⟨g, cap, rfl⟩
/-- a formula and a number, drawn: in memory made since w -/
def Got (w w' : World) (n : Int) (v : Value) (M : List (List Int)) : Prop := Bd n M 121 ∧ OwnS w.heap.size w'.heap.size w' v M ∧ w.grownBy w' none

end Go.Proofs.Ytlpgnaedhijdpaa.df
