/- Rows: what rowOf answers: the set's literals in order, noughts behind them. -/
import Derived.Test.YtibpnocpafppaaaDoorRo
import Derived.Laws.Tables
namespace Go.Proofs.YtibpnocpafppaaaDoor.ro
open Go.ChangeShapes Go.WideShapes Go.ChangeAt Go.RowKit
open Go.Proofs.YtibpnocpafppaaaDoor.sl (Sl Own ints hide unhide grown_refl grown_trans grown_drewN below_of of_below)
open Go.Proofs.YtibpnocpafppaaaDoor.wo (Made)
open Go.Proofs.YtibpnocpafppaaaDoor.srt (srt okTo srt_yes srt_no okTo_succ litI Tab)
set_option linter.unusedVariables false

theorem srt_half (S k : Nat) (h : okTo S k = true) : (srt S (2 * k)).length ≤ k := by
  induction k with
  | zero => exact Nat.le_refl _
  | succ k ih =>
    rw [okTo_succ, Bool.and_eq_true] at h
    have i := ih h.1
    have h2 := h.2
    rw [show 2 * (k + 1) = 2 * k + 1 + 1 by omega]
    cases h0 : S.testBit (2 * k)
    · cases h1 : S.testBit (2 * k + 1)
      · rw [srt_no h1, srt_no h0]; omega
      · rw [srt_yes h1, srt_no h0, List.length_append]; simp only [List.length_cons, List.length_nil]; omega
    · cases h1 : S.testBit (2 * k + 1)
      · rw [srt_no h1, srt_yes h0, List.length_append]; simp only [List.length_cons, List.length_nil]; omega
      · rw [h0, h1] at h2
        simp at h2
/-- a list with noughts behind it -/
def pad (L : List Int) : List Int := L ++ List.replicate (24 - L.length) 0
theorem pad_len {L : List Int} (h : L.length ≤ 24) : (pad L).length = 24 := by simp [pad]; omega
theorem pad_step (L : List Int) (k : Nat) (h : k < L.length) (h24 : L.length ≤ 24) : (cells8 (pad (L.take k))).setIfInBounds k (.int .i8 (L.getD k 0)) = cells8 (pad (L.take (k + 1))) := by
  apply Array.ext'
  simp only [cells8, Array.toList_setIfInBounds]
  rw [← List.map_set]
  congr 1
  apply List.ext_getElem
  · simp [pad]; omega
  · intro j h1 h2
    simp only [pad, List.getElem_set, List.getElem_append, List.length_take, List.getElem_take, List.getElem_replicate]
    have hk : L.getD k 0 = L[k] := by simp [h]
    rw [hk]
    by_cases hj : k = j
    · subst hj
      simp [show k < min (k + 1) L.length by omega]
    · simp only [hj, if_false]
      by_cases hjk : j < k
      · simp [show j < min k L.length by omega, show j < min (k + 1) L.length by omega]
      · simp [show ¬ j < min k L.length by omega, show ¬ j < min (k + 1) L.length by omega]

theorem srt_bd (S k : Nat) (h : k < (srt S 48).length) : -24 ≤ (srt S 48).getD k 0 ∧ (srt S 48).getD k 0 ≤ 24 := by
  have hm : (srt S 48).getD k 0 ∈ srt S 48 := by
    rw [show (srt S 48).getD k 0 = (srt S 48)[k] by simp [h]]
    exact List.getElem_mem h
  generalize (srt S 48).getD k 0 = x at *
  unfold srt at hm
  obtain ⟨p, hp, rfl⟩ := List.mem_map.1 hm
  rw [List.mem_filter, List.mem_range] at hp
  exact srt.litI_bd p hp.1

theorem one8 (R : List Int) : (cells8 R).all (·.oneCell') = true := by
  rw [Array.all_eq_true_iff_forall_mem]
  intro v hv
  simp only [cells8, List.mem_toArray, List.mem_map] at hv
  obtain ⟨x, _, rfl⟩ := hv
  rfl
/-- the row in the middle of its making -/
def RMid (b : Nat) (w wr : World) (R : List Int) : Prop := wr.heap[b]? = some (.cells (cells8 R) 69) ∧ w.grownBy wr (some b)
theorem RMid.cell {b : Nat} {w wr : World} {R : List Int} (h : RMid b w wr R) (k : Nat) (hk : k < R.length) : wr.cell? ⟨b, k, none⟩ = some (.int .i8 (R.getD k 0)) := by
  rw [cell_of_row _ _ k _ _ _ h.1, at8 R k hk]
theorem RMid.froz {b : Nat} {w wr : World} {R : List Int} (h : RMid b w wr R) (k : Nat) : wr.frozen? ⟨b, k, none⟩ = false := by
  simp [World.frozen?, h.1]
theorem RMid.set {b : Nat} {w wr : World} {R R' : List Int} (h : RMid b w wr R) (k : Nat) (x : Int) (e : (cells8 R).setIfInBounds k (.int .i8 x) = cells8 R') : RMid b w (wr.setCell ⟨b, k, none⟩ (.int .i8 x)) R' := by
  refine ⟨?_, sl.grown_trans' h.2 (sl.grown_setCell wr b k _)⟩
  rw [setCell_eq_setRow wr b k (cells8 R) _ _ _ h.1, e]
  exact setRow_heap wr b (cells8 R) _ _ _ h.1

set_option maxRecDepth 10000 in
set_option maxHeartbeats 800000 in
theorem rowOf (S : Nat) (w : World) (hT : Tab w) (hS : S < 2 ^ 48) (hok : okTo S 24 = true) :
    Calls Tryd.prog 121 #[.int .u64 S] w fun e w' => e = .returned (.agg (cells8 (pad (srt S 48)))) ∧ w.grownBy w' none := by
  have hl : (srt S 48).length ≤ 24 := srt_half S 24 hok
  have hbd := srt_bd S
  have CL := fun w' (h : Tab w') => srt.list S w' h hS
  generalize srt S 48 = L at *
  have HB := hide hbd
  have C1 := hide CL
  have HT := hide hT
  clear hbd CL hT hok
  go_enter Tryd.func121, Tryd.ntmps121
  go_wp2_with fail
  have gA := World.grownBy_alloc w (.cells (cells8 (pad [])) 69) none
  have gB := World.grownBy_alloc (w.alloc (.cells (cells8 (pad [])) 69)) (.cells (cells8 (pad [])) 69) none
  refine (unhide C1 ((w.alloc (.cells (cells8 (pad [])) 69)).alloc (.cells (cells8 (pad [])) 69)) ((unhide HT).kept (grown_trans (r := none) gA gB))).mono ?_; rintro e w2 ⟨u, rfl, ho, g2⟩
  have hsz : ((w.alloc (.cells (cells8 (pad [])) 69)).alloc (.cells (cells8 (pad [])) 69)).heap.size = w.heap.size + 2 := by rw [World.size_alloc, World.size_alloc]
  rw [hsz] at ho
  have G2 := hide (grown_trans (r := none) (grown_trans (r := none) gA gB) g2)
  have hr : w2.heap[w.heap.size]? = some (.cells (cells8 (pad [])) 69) := (g2.block w.heap.size (by rw [hsz]; omega) (fun e => by cases e)).trans ((Go.heap_alloc_old _ _ (by simp)).trans (Go.heap_alloc_new w (.cells (cells8 (pad [])) 69)))
  have hx := Go.heap_alloc_new (w.alloc (.cells (cells8 (pad [])) 69)) (.cells (cells8 (pad [])) 69)
  rw [World.size_alloc] at hx
  have ST : Hid (RMid (w.heap.size + 1) w2 w2 (pad (L.take 0))) := ⟨(g2.block (w.heap.size + 1) (by rw [hsz]; omega) (fun e => by cases e)).trans hx, ⟨rfl, rfl, rfl, Nat.le_refl _, fun _ _ _ => rfl⟩⟩
  have HR := hide hr
  obtain ⟨a, cap, rfl, HA⟩ : ∃ a cap, u = .slice a L.length cap ∧ Hid (L = [] ∨ ∃ g, a = some ⟨g, 0, none⟩ ∧ w.heap.size + 2 ≤ g ∧ g < w2.heap.size ∧ ∀ k, k < L.length → w2.cell? ⟨g, k, none⟩ = some (.int .i64 (L.getD k 0))) := by
    have hc := fun g => ho.cells (g := g)
    have hlt := ho.lt
    rcases ho.2 with ⟨rfl, hn⟩ | ⟨g, cap, cur, rfl, hbg, hg, _⟩
    · exact ⟨none, 0, by rw [hn], .inl (List.eq_nil_of_length_eq_zero hn)⟩
    · refine ⟨_, _, rfl, .inr ⟨g, rfl, hbg, (hlt g rfl).2, fun k hk => ?_⟩⟩
      have := hc g rfl k (.int .i64 (L.getD k 0)) (by simp [ints, hk])
      rwa [show (⟨g, 0, none⟩ : Addr).add k = ⟨g, k, none⟩ by unfold Addr.add; split <;> simp_all] at this
  clear ho gA gB g2 hr hx hsz C1 HT
  go_wp2_with fail
  go_loopw [9] (fun i wr => ∃ k : Nat, k ≤ L.length ∧ i = .int .i64 k ∧ Hid (RMid (w.heap.size + 1) w2 wr (pad (L.take k)))) (fun i _ => L.length - (intOf i).toNat)
  case atStart => exact ⟨0, Nat.zero_le _, rfl, ST⟩
  case round =>
    obtain ⟨k, hk, rfl, hm⟩ := hrel
    clear ST
    by_cases hlt : k < L.length
    · rcases unhide HA with h | ⟨g, rfl, hg0, hg1, hcb⟩
      · rw [h] at hlt
        simp at hlt
      · have c1 : wr.cell? ⟨g, k, none⟩ = some (.int .i64 (L.getD k 0)) := (unhide hm).2.cell (hcb k hlt) (fun e => absurd (Option.some.inj e) (by show g ≠ _; omega))
        have hp : (pad (L.take k)).length = 24 := pad_len (by rw [List.length_take]; omega)
        have c2 := (unhide hm).cell k (by omega)
        have c3 := (unhide hm).froz k
        have hi' : (k : Int) < (L.length : Int) := by omega
        have hk24 : (k : Int) < 24 := by omega
        have hx := unhide HB k hlt
        have N := hide ((unhide hm).set k (L.getD k 0) (pad_step L k hlt hl))
        generalize L.getD k 0 = x at *
        generalize (pad (L.take k)).getD k 0 = y at *
        obtain ⟨x0, x1⟩ := hx
        clear hcb HA hp HB HR
        go_wp2_with fail
        go_roundw
        case rel => exact ⟨k + 1, by omega, by go_num, N⟩
        case measure => simp [intOf]; omega
    · have hi' : ¬ (k : Int) < (L.length : Int) := by omega
      have e : L.take k = L := List.take_of_length_le (by omega)
      rw [e] at hm
      have hsz := infoRow
      have h24 : (cells8 (pad L)).size = 24 := by rw [size8, pad_len hl]
      rw [← h24] at hsz
      have hg := (unhide hm).1
      have hr : wr.heap[w.heap.size]? = some (.cells (cells8 (pad [])) 69) := ((unhide hm).2.block w.heap.size (Array.getElem?_eq_some_iff.1 (unhide HR)).1 (fun e => absurd (Option.some.inj e) (by omega))).trans (unhide HR)
      have hone : (cells8 (pad L)).all (·.oneCell') = true := one8 (pad L)
      have GE : Hid (w.grownBy (wr.setRow w.heap.size (cells8 (pad L))) none) := by
        have g2 := unhide G2
        have g3 := (unhide hm).2
        refine ⟨g3.os.trans g2.os, g3.tape.trans g2.tape, g3.output.trans g2.output, by have := Nat.le_trans g2.size g3.size; simpa using this, fun j hj _ => ?_⟩
        have a1 : j ≠ w.heap.size := by omega
        exact (setRow_other wr w.heap.size j _ a1).trans ((g3.block j (Nat.lt_of_lt_of_le hj g2.size) (fun e => absurd (Option.some.inj e) (by omega))).trans (g2.block j hj (fun e => by cases e)))
      clear HA e HB
      generalize hC : cells8 (pad L) = C at *
      have HC := hide hC
      clear hC
      go_wp2_with (first | refine wpList_load_row rfl 69 _ rfl (w.heap.size + 1) rfl 69 C (0, 0) _ hg Tryd.underlying69 rfl hsz ?_ | refine wpList_store_row rfl 69 _ _ rfl w.heap.size C rfl rfl 69 _ hr hsz ?_ ?_ ?_)
      · rw [size8]
        rfl
      · rw [← h24]
        exact hone
      · have hr' := hide (setRow_heap wr w.heap.size _ C _ _ hr)
        clear hr hg
        go_wp2_with fail
        refine bodyPost_ret (results_cell_row (p := 2) (ty := 69) rfl _ _ w.heap.size 69 C (0, 0) _ rfl (unhide hr') Tryd.underlying69 rfl hsz) rfl ?_
        exact ⟨by rw [unhide HC], unhide GE⟩
end Go.Proofs.YtibpnocpafppaaaDoor.ro
