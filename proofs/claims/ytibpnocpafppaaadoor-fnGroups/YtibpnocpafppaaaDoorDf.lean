/- What the laws' own comparisons of lists answer at lists that are alike, and what DrawFix draws; whatever the bytes. -/
import Derived.Test.YtibpnocpafppaaaDoorDAn
namespace Go.Proofs.YtibpnocpafppaaaDoor.df
open Go.ChangeShapes Go.WideShapes Go.ChangeAt Go.RowKit
open Go.Proofs.YtibpnocpafppaaaDoor.sl (Sl Own ints hide unhide grown_refl grown_trans grown_trans' of_below below_of grown_drewN)
open Go.Proofs.YtibpnocpafppaaaDoor.css (Sls OwnS tot)
open Go.Proofs.YtibpnocpafppaaaDoor.cf (Box)
open Go.Proofs.YtibpnocpafppaaaDoor.draw (Cur Bs I64 newCur grown_new)
open Go.Proofs.YtibpnocpafppaaaDoor.dcn (Came Bd Drawn)
set_option linter.unusedVariables false

theorem sameQ (v u : Value) (L : List Int) (w : World) (hL : L.length ≤ 1048576) (hv : Sl w v L) (hu : Sl w u L) :
    Calls Tryd.prog 62 #[v, u] w fun e w' => e = .returned (.bool true) ∧ ∃ m, w' = w.drewN m := by
  obtain ⟨a, cap, rfl, ha⟩ := hv
  obtain ⟨c, cap', rfl, hc⟩ := hu
  rcases ha with rfl | ⟨b, off, rfl, hb, hcb⟩
  · go_enter Tryd.func62, Tryd.ntmps62
    go_wp2
    refine wp_loop_rounds 1 ?_
    rw [rounds_succ]
    go_wp2
    go_ret
    exact ⟨rfl, 0, rfl⟩
  · rcases hc with rfl | ⟨d, off', rfl, hd, hcd⟩
    · go_enter Tryd.func62, Tryd.ntmps62
      go_wp2
      refine wp_loop_rounds 1 ?_
      rw [rounds_succ]
      go_wp2
      go_ret
      exact ⟨rfl, 0, rfl⟩
    · have HB := hide hcb
      have HD := hide hcd
      clear hcb hcd
      go_enter Tryd.func62, Tryd.ntmps62
      go_wp2
      go_loopw [5] (fun i wr => ∃ k : Nat, k ≤ L.length ∧ i = .int .i64 k ∧ ∃ m, Hid (wr = w.drewN m)) (fun i _ => L.length - (intOf i).toNat)
      case atStart => exact ⟨0, Nat.zero_le _, rfl, 0, rfl⟩
      case round =>
        obtain ⟨k, hk, rfl, m, hg⟩ := hrel
        have hg' := unhide hg
        clear hg
        subst hg'
        by_cases hlt : k < L.length
        · have c1 : w.cell? ⟨b, off + k, none⟩ = some (.int .i64 (L.getD k 0)) := unhide HB k hlt
          have c2 : w.cell? ⟨d, off' + k, none⟩ = some (.int .i64 (L.getD k 0)) := unhide HD k hlt
          have hi : (k : Int) < (L.length : Int) := by omega
          generalize L.getD k 0 = x at *
          go_wp2
          go_quiet (fail)
          go_wp2
          go_roundw
          case rel => exact ⟨k + 1, by omega, by go_num, _, rfl⟩
          case measure => simp [intOf]; omega
        · have hi : ¬ (k : Int) < (L.length : Int) := by omega
          go_wp2
          go_ret
          exact ⟨rfl, m, rfl⟩
theorem Sl.drewN {w : World} {v : Value} {L : List Int} (h : Sl w v L) (n : Nat) : Sl (w.drewN n) v L := h.kept (grown_drewN w n) (.inl rfl)

/-- equal lists of lists: sameList says yes -/
theorem sameList (v u : Value) (LL : List (List Int)) (w : World) (hn : LL.length ≤ 1048576) (hin : ∀ i, (LL.getD i []).length ≤ 1048576) (hv : Sls w v LL) (hu : Sls w u LL) :
    Calls Tryd.prog 17 #[v, u] w fun e w' => e = .returned (.bool true) ∧ w.grownBy w' none := by
  obtain ⟨a, cap, rfl, ha⟩ := hv
  obtain ⟨c, cap', rfl, hc⟩ := hu
  have HA := hide ha
  have HC := hide hc
  clear ha hc
  go_enter Tryd.func17, Tryd.ntmps17
  go_wp2
  go_loopw [5] (fun i wr => ∃ k : Nat, k ≤ LL.length ∧ i = .int .i64 k ∧ w.grownBy wr none) (fun i _ => LL.length - (intOf i).toNat)
  case atStart => exact ⟨0, Nat.zero_le _, rfl, grown_refl _⟩
  case round =>
    obtain ⟨k, hk, rfl, hg⟩ := hrel
    by_cases hlt : k < LL.length
    · rcases unhide HA with h | ⟨b, off, rfl, hb, hcb⟩
      · rw [h] at hlt
        simp at hlt
      · rcases unhide HC with h | ⟨d, off', rfl, hd, hcd⟩
        · rw [h] at hlt
          simp at hlt
        · obtain ⟨x, hx, sx⟩ := hcb k hlt
          obtain ⟨y, hy, sy⟩ := hcd k hlt
          have c1 : wr.cell? ⟨b, off + k, none⟩ = some x := hg.cell hx (fun e => by cases e)
          have c2 : wr.cell? ⟨d, off' + k, none⟩ = some y := hg.cell hy (fun e => by cases e)
          have hL := hin k
          generalize LL.getD k [] = L at *
          have C := hide (fun n => sameQ x y L (wr.drewN n) hL ((sx.kept hg (.inl rfl)).kept (grown_drewN wr n) (.inl rfl)) ((sy.kept hg (.inl rfl)).kept (grown_drewN wr n) (.inl rfl)))
          have hi : (k : Int) < (LL.length : Int) := by omega
          have G := hide hg
          clear hg hcb hcd HA HC hx hy sx sy
          go_wp2
          go_quiet (first | (go_at_call 62; exact Calls.quiet_of (unhide C _)))
          go_wp2
          go_roundw
          case rel => exact ⟨k + 1, by omega, by go_num, grown_trans (unhide G) (grown_drewN _ _)⟩
          case measure => simp [intOf]; omega
    · have hi : ¬ (k : Int) < (LL.length : Int) := by omega
      have G := hide hg
      clear hg HA HC
      go_wp2
      go_ret
      exact ⟨rfl, unhide G⟩


theorem tot_bd {n : Int} {M : List (List Int)} {k : Nat} (h : Bd n M k) (hk : k ≤ 121) : tot M ≤ 6050 := by
  unfold css.tot
  have h2 : (M.map List.length).sum ≤ 49 * M.length := by
    have := h.2.2.1
    clear h
    induction M with
    | nil => simp
    | cons L l ih =>
      rw [List.map_cons, List.sum_cons, List.length_cons]
      have := ih (fun K hK => this K (List.mem_cons_of_mem _ hK))
      have := (by assumption : ∀ K ∈ L :: l, K.length ≤ 49) L (List.mem_cons_self ..)
      omega
  have := h.2.1
  omega

/-- a store into a slice of the call's own -/
theorem stored {w w6 : World} {g cap : Nat} {X : List Int} (i : Nat) (y : Int) (h : wo.Made w w6 (.slice (some ⟨g, 0, none⟩) X.length cap) X) (hi : i < X.length) :
    (∃ u, w6.cell? ⟨g, i, none⟩ = some u) ∧ w6.frozen? ⟨g, i, none⟩ = false ∧ wo.Made w (w6.setCell ⟨g, i, none⟩ (.int .i64 y)) (.slice (some ⟨g, 0, none⟩) (X.set i y).length cap) (X.set i y) ∧ css.Outs w.heap.size w6.heap.size w6 (w6.setCell ⟨g, i, none⟩ (.int .i64 y)) := by
  have hg := h.1.lt g rfl
  have gs := sl.grown_setCell w6 g i (.int .i64 y)
  refine ⟨?_, h.1.frozenAt i, ⟨?_, ?_⟩, css.outs_by gs (fun k e => by cases e; exact hg)⟩
  · rw [h.1.cellAt i (by omega)]
    exact ⟨_, List.getElem?_eq_getElem (by rw [sl.ints_length]; exact hi)⟩
  · have e : (ints X).set i (.int .i64 y) = ints (X.set i y) := by
      unfold sl.ints
      rw [List.map_set]
    rw [List.length_set, ← e]
    exact (h.1.stored i _).1
  · exact grown_new h.2 gs hg.1
theorem outs_trans {lo hi : Nat} {a b c : World} (h : css.Outs lo hi a b) (k : css.Outs lo hi b c) : css.Outs lo hi a c :=
  ⟨k.os.trans h.os, k.tape.trans h.tape, k.output.trans h.output, Nat.le_trans h.size k.size, fun i hi' d => (k.block i (Nat.lt_of_lt_of_le hi' h.size) d).trans (h.block i hi' d)⟩
theorem made_some {w w6 : World} {v : Value} {X : List Int} (h : wo.Made w w6 v X) (hX : 0 < X.length) : ∃ g cap, v = .slice (some ⟨g, 0, none⟩) X.length cap := by
  obtain ⟨⟨_, h2⟩, _⟩ := h
  rcases h2 with ⟨rfl, h0⟩ | ⟨g, cap, cur, rfl, _⟩
  · omega
  · exact ⟨g, cap, rfl⟩
/-- a formula and a number, drawn: in memory made since w -/
def Got (w w' : World) (n : Int) (v : Value) (M : List (List Int)) : Prop := Bd n M 121 ∧ OwnS w.heap.size w'.heap.size w' v M ∧ w.grownBy w' none

end Go.Proofs.YtibpnocpafppaaaDoor.df
