/- Slices of integers in memory, as the walks here speak of them, and what the small helpers on them (a copy, an equality, marks) do; no condition but that a list has at most 2^20 elements. -/
import Derived.Test.YtnlllcgcaddhmaaGreatDoorRows
import Derived.WalkKit
import Derived.ProofKit
import Derived.OpenShut
import Derived.ChangeOld
import Derived.Below
import Derived.BigQuiet
import Derived.Deep.QuietTactic
namespace Go.Proofs.YtnlllcgcaddhmaaGreatDoor.sl
open Go.ChangeShapes Go.WideShapes Go.ChangeAt Go.RowKit
set_option linter.unusedVariables false
theorem hide {p : Prop} (h : p) : Hid p := h
theorem unhide {p : Prop} (h : Hid p) : p := h
theorem ret_int {k : IntKind} {a b : Int} (h : a = b) : Ending.returned (.int k a) = .returned (.int k b) := by rw [h]
theorem ret_bool {a b : Bool} (h : a = b) : Ending.returned (.bool a) = .returned (.bool b) := by rw [h]
def ints (L : List Int) : List Value := L.map (Value.int .i64)
theorem ints_length (L : List Int) : (ints L).length = L.length := by simp [ints]
def Sl (w : World) (v : Value) (L : List Int) : Prop :=
 ∃ a cap, v = .slice a L.length cap ∧ (L = [] ∨ ∃ b off, a = some ⟨b, off, none⟩ ∧ b < w.heap.size ∧ ∀ i, i < L.length → w.cell? ⟨b, off + i, none⟩ = some (.int .i64 (L.getD i 0)))
theorem Sl.kept {w w' : World} {v : Value} {L : List Int} {row : Option Nat} (h : Sl w v L) (g : w.grownBy w' row) (hr : row = none ∨ v.ownBlock ≠ row) : Sl w' v L := by
 obtain ⟨a, cap, rfl, h⟩ := h
 refine ⟨a, cap, rfl, ?_⟩
 rcases h with h | ⟨b, off, rfl, hb, hc⟩
 ·exact .inl h
 ·refine .inr ⟨b, off, rfl, Nat.lt_of_lt_of_le hb g.size, fun i hi => ?_⟩
  have e : w'.heap[b]? = w.heap[b]? := g.block b hb (by cases hr with
   | inl h => rw [h]; exact fun h => by cases h
   | inr h => exact h)
  rw [← hc i hi]
  exact World.cell?_of_block (a := ⟨b, off + i, none⟩) e
theorem Sl.of_own {w : World} {base : Nat} {e : TypeId} {v : Value} {L : List Int} (h : w.ownsRow base e 1 v L.length (ints L)) : Sl w v L := by
 have h' := h
 obtain ⟨_, h⟩ := h
 rcases h with ⟨rfl, h0⟩ | ⟨g, cap, cur, rfl, hg, hh, hn, hm, hs, ht⟩
 ·have : L = [] := List.eq_nil_of_length_eq_zero h0
  subst this
  exact ⟨none, 0, rfl, .inl rfl⟩
 ·refine ⟨_, cap, rfl, .inr ⟨g, 0, rfl, ?_, fun i hi => ?_⟩⟩
  ·exact (Array.getElem?_eq_some_iff.1 hh).1
  ·rw [Nat.zero_add, h'.cellAt i (by omega)]
   simp [ints, hi]
theorem grown_refl (w : World) : w.grownBy w none := ⟨rfl, rfl, rfl, Nat.le_refl _, fun _ _ _ => rfl⟩
theorem grown_trans {a b c : World} {r : Option Nat} (h : a.grownBy b none) (k : b.grownBy c none) : a.grownBy c r :=
 ⟨k.os.trans h.os, k.tape.trans h.tape, k.output.trans h.output, Nat.le_trans h.size k.size, fun i hi _ => (k.block i (Nat.lt_of_lt_of_le hi h.size) (fun e => by cases e)).trans (h.block i hi (fun e => by cases e))⟩
theorem grown_trans' {a b c : World} {r : Option Nat} (h : a.grownBy b r) (k : b.grownBy c r) : a.grownBy c r :=
 ⟨k.os.trans h.os, k.tape.trans h.tape, k.output.trans h.output, Nat.le_trans h.size k.size, fun i hi hr => (k.block i (Nat.lt_of_lt_of_le hi h.size) hr).trans (h.block i hi hr)⟩
theorem grown_drewN (w : World) (n : Nat) : w.grownBy (w.drewN n) none := ⟨rfl, rfl, rfl, Nat.le_refl _, fun _ _ _ => rfl⟩
theorem below_of {w w' : World} (h : w.grownBy w' none) : Below w.heap.size w w' := ⟨h.os, h.tape, h.output, h.size, fun k hk => h.block k hk (fun e => by cases e)⟩
theorem of_below {w w' : World} (h : Below w.heap.size w w') : w.grownBy w' none := ⟨h.os, h.tape, h.output, h.size, fun k hk _ => h.block k hk⟩
theorem eqIntS (v u : Value) (L : List Int) (w : World) (hL : L.length ≤ 1048576) (hv : Sl w v L) (hu : Sl w u L) :
  Calls Tryz.prog 53 #[v, u] w fun e w' => e = .returned (.bool true) ∧ w.grownBy w' none := by
 obtain ⟨a, cap, rfl, ha⟩ := hv
 obtain ⟨c, cap', rfl, hc⟩ := hu
 rcases ha with rfl | ⟨b, off, rfl, hb, hcb⟩
 ·go_enter Tryz.func53, Tryz.ntmps53
  go_wp2
  refine wp_loop_rounds 1 ?_
  rw [rounds_succ]
  go_wp2
  go_ret
  exact ⟨rfl, grown_refl _⟩
 ·rcases hc with rfl | ⟨d, off', rfl, hd, hcd⟩
  ·go_enter Tryz.func53, Tryz.ntmps53
   go_wp2
   refine wp_loop_rounds 1 ?_
   rw [rounds_succ]
   go_wp2
   go_ret
   exact ⟨rfl, grown_refl _⟩
  ·have HB := hide hcb
   have HD := hide hcd
   clear hcb hcd
   go_enter Tryz.func53, Tryz.ntmps53
   go_wp2
   go_loopw [5] (fun i wr => ∃ k : Nat, k ≤ L.length ∧ i = .int .i64 k ∧ w.grownBy wr none) (fun i _ => L.length - (intOf i).toNat)
   case atStart => exact ⟨0, Nat.zero_le _, rfl, grown_refl _⟩
   case round =>
    obtain ⟨k, hk, rfl, hg⟩ := hrel
    by_cases hlt : k < L.length
    ·have c1 : wr.cell? ⟨b, off + k, none⟩ = some (.int .i64 (L.getD k 0)) := hg.cell (unhide HB k hlt) (fun e => by cases e)
     have c2 : wr.cell? ⟨d, off' + k, none⟩ = some (.int .i64 (L.getD k 0)) := hg.cell (unhide HD k hlt) (fun e => by cases e)
     have hi : (k : Int) < (L.length : Int) := by omega
     have G := hide hg
     clear hg
     go_wp2
     go_quiet (fail)
     go_wp2
     go_roundw
     case rel => exact ⟨k + 1, by omega, by go_num, grown_trans (unhide G) (grown_drewN _ _)⟩
     case measure => simp [intOf]; omega
    ·have hi : ¬ (k : Int) < (L.length : Int) := by omega
     have G := hide hg
     clear hg
     go_wp2
     go_ret
     exact ⟨rfl, unhide G⟩
theorem info3 : (Tryz.prog.info? 3).map (fun i => (i.zero, i.size, i.bytes)) = some (some (.int .i64 0), 1, 8) := by kernel_rfl
def part (L : List Int) (k : Nat) : List Int := L.take k ++ List.replicate (L.length - k) 0
theorem part_length (L : List Int) (k : Nat) (h : k ≤ L.length) : (part L k).length = L.length := by simp [part]; omega
theorem part_zero (L : List Int) : part L 0 = List.replicate L.length 0 := by simp [part]
theorem part_all (L : List Int) : part L L.length = L := by simp [part]
theorem part_set (L : List Int) (k : Nat) (h : k < L.length) : (ints (part L k)).set k (.int .i64 (L.getD k 0)) = ints (part L (k + 1)) := by
 have e1 : L.length - k = (L.length - (k + 1)) + 1 := by omega
 have e2 : L.getD k 0 = L[k] := by simp [h]
 have e3 : ints (part L k) = ints (L.take k) ++ (.int .i64 0 :: ints (List.replicate (L.length - (k + 1)) 0)) := by
  unfold part ints
  rw [e1, List.replicate_succ, List.map_append, List.map_cons]
 have e4 : ints (part L (k + 1)) = ints (L.take k) ++ (.int .i64 L[k] :: ints (List.replicate (L.length - (k + 1)) 0)) := by
  unfold part ints
  rw [List.take_succ_eq_append_getElem h, List.map_append, List.map_append]
  simp
 rw [e3, e4, e2, List.set_append_right _ _ (by rw [ints_length, List.length_take]; omega)]
 rw [show k - (ints (L.take k)).length = 0 from by rw [ints_length, List.length_take]; omega]
 rfl
theorem own_stored {w : World} {base g cap : Nat} {e : TypeId} {L M : List Int} (n : Nat) (hn : L.length = n) (hm : M.length = n) (h : w.ownsRow base e 1 (.slice (some ⟨g, 0, none⟩) n cap) n (ints L)) (j : Nat) (x : Int) (hx : (ints L).set j (.int .i64 x) = ints M) :
  (w.setCell ⟨g, j, none⟩ (.int .i64 x)).ownsRow base e 1 (.slice (some ⟨g, 0, none⟩) n cap) n (ints M) := by
 rw [← hx]
 exact (h.stored j _).1
theorem grown_setCell (w : World) (g j : Nat) (u : Value) : w.grownBy (w.setCell ⟨g, j, none⟩ u) (some g) :=
 ⟨rfl, rfl, rfl, by simp [World.setCell], fun k hk hr => Below.heap_setCell _ _ _ _ (fun e => hr (by rw [e]))⟩
theorem toIntS (v : Value) (L : List Int) (w : World) (hL : L.length ≤ 1048576) (hv : Sl w v L) :
  Calls Tryz.prog 96 #[v] w fun e w' => e = .returned (.slice (some ⟨w.heap.size, 0, none⟩) L.length L.length) ∧ w'.ownsRow w.heap.size 3 1 (.slice (some ⟨w.heap.size, 0, none⟩) L.length L.length) L.length (ints L) ∧ w.grownBy w' none := by
 obtain ⟨a, cap, rfl, ha⟩ := hv
 obtain ⟨i0, hi, hz0, hz1, hz2⟩ := info_parts info3
 have zero : ∀ w' : World, w'.ownsRow w.heap.size 3 1 (.slice (some ⟨w.heap.size, 0, none⟩) L.length L.length) L.length (madeCells #[Value.int .i64 0] L.length).toList → w'.ownsRow w.heap.size 3 1 (.slice (some ⟨w.heap.size, 0, none⟩) L.length L.length) L.length (ints (part L 0)) := by
  intro w' h
  have e : (madeCells #[Value.int .i64 0] L.length).toList = ints (part L 0) := by
   rw [part_zero, toList_madeCells_one]
   simp [ints]
  rw [e] at h
  exact h
 have Z := hide zero
 clear zero
 go_enter Tryz.func96, Tryz.ntmps96
 go_wp2_with (first | (at_make; refine wpList_make_full _ rfl _ _ 34 rfl w.heap.size 3 i0 (.int .i64 0) 1 Tryz.underlying34 hi hz0 hz1 _ _ _ _ L.length rfl rfl (by rfl) (by rfl) ?b1 ?b2 ?b3 ?_) | go_in)
 case b1 => rw [hz2]; omega
 case b2 => unfold maxLen; omega
 case b3 => exact Nat.le_refl _
 intro w1 hown hgrow
 have O := hide (unhide Z w1 hown)
 have G := hide hgrow
 clear hown hgrow Z
 go_wp2
 go_loopw [4] (fun i wr => ∃ k : Nat, k ≤ L.length ∧ i = .int .i64 k ∧ wr.ownsRow w.heap.size 3 1 (.slice (some ⟨w.heap.size, 0, none⟩) L.length L.length) L.length (ints (part L k)) ∧ w.grownBy wr none) (fun i _ => L.length - (intOf i).toNat)
 case atStart => exact ⟨0, Nat.zero_le _, rfl, unhide O, unhide G⟩
 case round =>
  obtain ⟨k, hk, rfl, hown, hg⟩ := hrel
  by_cases hlt : k < L.length
  ·rcases ha with rfl | ⟨b, off, rfl, hb, hcb⟩
   ·simp at hlt
   ·have c1 : wr.cell? ⟨b, off + k, none⟩ = some (.int .i64 (L.getD k 0)) := hg.cell (hcb k hlt) (fun e => by cases e)
    have c2 : wr.cell? ⟨w.heap.size, k, none⟩ = (ints (part L k))[k]? := hown.cellAt k (by omega)
    obtain ⟨x, hx⟩ : ∃ x, (ints (part L k))[k]? = some x := ⟨_, List.getElem?_eq_getElem (by rw [ints_length, part_length _ _ hk]; exact hlt)⟩
    rw [hx] at c2
    have c3 : wr.frozen? ⟨w.heap.size, k, none⟩ = false := hown.frozenAt k
    have hi' : (k : Int) < (L.length : Int) := by omega
    generalize hxx : L.getD k 0 = x1 at c1
    have O' := hide (own_stored L.length (part_length L k hk) (part_length L (k + 1) hlt) hown k x1 (by rw [← hxx]; exact part_set L k hlt))
    have G' : Hid (w.grownBy (wr.setCell ⟨w.heap.size, k, none⟩ (.int .i64 x1)) none) := ⟨hg.os, hg.tape, hg.output, by simpa [World.setCell] using hg.size, fun j hj _ => (Below.heap_setCell _ _ _ _ (by show j ≠ w.heap.size; omega)).trans (hg.block j hj (fun e => by cases e))⟩
    clear hown hg hcb hx O G hxx
    go_wp2
    go_roundw
    case rel => exact ⟨k + 1, by omega, by go_num, unhide O', unhide G'⟩
    case measure => simp [intOf]; omega
  ·have hi' : ¬ (k : Int) < (L.length : Int) := by omega
   have hkl : k = L.length := by omega
   rw [hkl, part_all] at hown
   have O' := hide hown
   have G' := hide hg
   clear hown hg hkl O G
   go_wp2
   go_ret
   exact ⟨rfl, unhide O', unhide G'⟩
def marks (k : Int) (n : Nat) : List Int := (List.range n).map fun (i : Nat) => k + (i : Int)
theorem marks_length (k : Int) (n : Nat) : (marks k n).length = n := by simp [marks]
theorem marks_getD (k : Int) (n j : Nat) (h : j < n) : (marks k n).getD j 0 = k + (j : Int) := by simp [marks, h]
def marked (L : List Int) (k : Int) (j : Nat) : List Int := marks k j ++ L.drop j
theorem marked_length (L : List Int) (k : Int) (j : Nat) (h : j ≤ L.length) : (marked L k j).length = L.length := by simp [marked, marks]; omega
theorem marked_zero (L : List Int) (k : Int) : marked L k 0 = L := by simp [marked, marks]
theorem marked_all (L : List Int) (k : Int) : marked L k L.length = marks k L.length := by simp [marked]
theorem marked_set (L : List Int) (k : Int) (j : Nat) (h : j < L.length) : (ints (marked L k j)).set j (.int .i64 (k + (j : Int))) = ints (marked L k (j + 1)) := by
 have e3 : ints (marked L k j) = ints (marks k j) ++ (.int .i64 L[j] :: ints (L.drop (j + 1))) := by
  unfold marked ints
  rw [List.map_append, List.drop_eq_getElem_cons h, List.map_cons]
 have e4 : ints (marked L k (j + 1)) = ints (marks k j) ++ (.int .i64 (k + (j : Int)) :: ints (L.drop (j + 1))) := by
  unfold marked marks ints
  rw [List.range_succ]
  simp
 rw [e3, e4, List.set_append_right _ _ (by rw [ints_length, marks_length]; exact Nat.le_refl _)]
 rw [show j - (ints (marks k j)).length = 0 from by rw [ints_length, marks_length]; omega]
 rfl
theorem markIntS (v : Value) (L : List Int) (k : Int) (base : Nat) (w : World) (hL : L.length ≤ 1048576) (k0 : 0 ≤ k) (k1 : k ≤ 1099511627776) (ho : w.ownsRow base 3 1 v L.length (ints L)) :
  Calls Tryz.prog 57 #[v, .int .i64 k] w fun e w' => e = .returned (.int .i64 (k + (L.length : Int))) ∧ w'.ownsRow base 3 1 v L.length (ints (marks k L.length)) ∧ w.grownBy w' v.ownBlock := by
 have ho' := ho
 obtain ⟨_, h⟩ := ho'
 rcases h with ⟨rfl, h0⟩ | ⟨g, cap, cur, rfl, _, _, _, _, _, _⟩
 ·have hl : L = [] := List.eq_nil_of_length_eq_zero h0
  subst hl
  have O := hide ho
  clear ho h0
  go_enter Tryz.func57, Tryz.ntmps57
  go_wp2
  refine wp_loop_rounds 1 ?_
  rw [rounds_succ]
  go_wp2
  go_ret
  exact ⟨by simp, unhide O, grown_refl _⟩
 ·have O := hide ho
  clear ho
  go_enter Tryz.func57, Tryz.ntmps57
  go_wp2
  go_loopw [1, 5] (fun q i wr => ∃ j : Nat, j ≤ L.length ∧ i = .int .i64 j ∧ q = .int .i64 (k + (j : Int)) ∧ wr.ownsRow base 3 1 (.slice (some ⟨g, 0, none⟩) L.length cap) L.length (ints (marked L k j)) ∧ w.grownBy wr (some g)) (fun _ i _ => L.length - (intOf i).toNat)
  case atStart => exact ⟨0, Nat.zero_le _, rfl, by simp, by rw [marked_zero]; exact unhide O, ⟨rfl, rfl, rfl, Nat.le_refl _, fun _ _ _ => rfl⟩⟩
  case round =>
   obtain ⟨j, hj, rfl, rfl, hown, hg⟩ := hrel
   by_cases hlt : j < L.length
   ·have c2 : wr.cell? ⟨g, j, none⟩ = (ints (marked L k j))[j]? := hown.cellAt j (by omega)
    obtain ⟨x, hx⟩ : ∃ x, (ints (marked L k j))[j]? = some x := ⟨_, List.getElem?_eq_getElem (by rw [ints_length, marked_length _ _ _ hj]; exact hlt)⟩
    rw [hx] at c2
    have c3 : wr.frozen? ⟨g, j, none⟩ = false := hown.frozenAt j
    have hi' : (j : Int) < (L.length : Int) := by omega
    have O' := hide (own_stored L.length (marked_length L k j hj) (marked_length L k (j + 1) hlt) hown j _ (marked_set L k j hlt))
    have G' := hide (grown_trans' hg (grown_setCell wr g j (.int .i64 (k + (j : Int)))))
    clear hown hg hx O
    go_wp2
    go_roundw
    case rel => exact ⟨j + 1, by omega, by go_num, by go_num, unhide O', unhide G'⟩
    case measure => simp [intOf]; omega
   ·have hi' : ¬ (j : Int) < (L.length : Int) := by omega
    have hkl : j = L.length := by omega
    rw [hkl, marked_all] at hown
    have O' := hide hown
    have G' := hide hg
    have HK := hide hkl
    clear hown hg hkl O
    go_wp2
    go_ret
    exact ⟨ret_int (by rw [unhide HK]), unhide O', unhide G'⟩
theorem heldIntS (v : Value) (n : Nat) (k : Int) (w : World) (hn : n ≤ 1048576) (k0 : 0 ≤ k) (k1 : k ≤ 1099511627776) (hv : Sl w v (marks k n)) :
  Calls Tryz.prog 59 #[v, .int .i64 k] w fun e w' => e = .returned (.int .i64 (k + (n : Int))) ∧ w' = w := by
 obtain ⟨a, cap, rfl, ha⟩ := hv
 rw [marks_length]
 have HA := hide ha
 clear ha
 go_enter Tryz.func59, Tryz.ntmps59
 go_wp2
 go_loop [1, 5] (fun q i => ∃ j : Nat, j ≤ n ∧ i = .int .i64 j ∧ q = .int .i64 (k + (j : Int))) (fun _ i => n - (intOf i).toNat)
 case atStart => exact ⟨0, Nat.zero_le _, rfl, by simp⟩
 case round =>
  obtain ⟨j, hj, rfl, rfl⟩ := hrel
  by_cases hlt : j < n
  ·rcases unhide HA with h | ⟨b, off, rfl, hb, hcb⟩
   ·have := marks_length k n
    rw [h] at this
    simp at this
    omega
   ·have c1 : w.cell? ⟨b, off + j, none⟩ = some (.int .i64 (k + (j : Int))) := by
     have := hcb j (by rw [marks_length]; exact hlt)
     rw [marks_getD k n j hlt] at this
     exact this
    have hi' : (j : Int) < (n : Int) := by omega
    clear hcb HA
    go_wp2
    go_round
    case rel => exact ⟨j + 1, by omega, by go_num, by go_num⟩
    case measure => simp [intOf]; omega
  ·have hi' : ¬ (j : Int) < (n : Int) := by omega
   have HK : Hid (j = n) := by show j = n; omega
   clear HA
   go_wp2
   go_ret
   exact ⟨ret_int (by rw [unhide HK]), rfl⟩
theorem of_row {w : World} {a : Option Addr} {len cap : Nat} {zs : List Int}
  (h : (a = none ∧ len = 0 ∧ cap = 0 ∧ zs = []) ∨ ∃ x, a = some x ∧ len ≤ cap ∧ cap ≤ maxLen ∧ zs.length = cap ∧ (∀ i, i < zs.length → w.cell? (x.add i) = some (.int .i64 (zs.getD i 0))) ∧ ∀ n ∈ zs, (Lit.int .i64 n).wf = true) :
  ∃ L : List Int, L.length = len ∧ Sl w (.slice a len cap) L ∧ (∀ n ∈ L, (Lit.int .i64 n).wf = true) := by
 rcases h with ⟨rfl, rfl, rfl, rfl⟩ | ⟨x, rfl, hl, hm, hz, hc, hw⟩
 ·exact ⟨[], rfl, ⟨none, 0, rfl, .inl rfl⟩, fun n hn => by cases hn⟩
 ·refine ⟨zs.take len, by rw [List.length_take]; omega, ⟨some x, cap, by rw [List.length_take, Nat.min_eq_left (by omega)], ?_⟩, fun n hn => hw n (List.mem_of_mem_take hn)⟩
  by_cases h0 : len = 0
  ·exact .inl (by rw [h0]; rfl)
  ·obtain ⟨b, off, spot⟩ := x
   have h1 := hc 0 (by omega)
   have hs : spot = none := by simpa [Addr.add] using World.cell?_spot h1
   subst hs
   refine .inr ⟨b, off, rfl, World.block_lt_of_cell? w _ h1, fun i hi => ?_⟩
   rw [List.length_take] at hi
   have h2 := hc i (by omega)
   rw [Addr.add_lit] at h2
   rw [h2]
   congr 2
   simp [List.getD, show i < len by omega]
def Own (lo hi : Nat) (w : World) (v : Value) (L : List Int) : Prop := w.ownsRow lo 3 1 v L.length (ints L) ∧ ∀ k, v.ownBlock = some k → k < hi
theorem Own.of {lo : Nat} {w : World} {v : Value} {L : List Int} (h : w.ownsRow lo 3 1 v L.length (ints L)) : Own lo w.heap.size w v L := ⟨h, fun k e => (h.lt k e).2⟩
theorem Own.sl {lo hi : Nat} {w : World} {v : Value} {L : List Int} (h : Own lo hi w v L) : Sl w v L := Sl.of_own h.1
theorem Own.kept {lo hi : Nat} {w w' : World} {v : Value} {L : List Int} (h : Own lo hi w v L) (g : w.grownBy w' none) : Own lo hi w' v L :=
 ⟨h.1.kept g (by cases v.ownBlock with
  | none => exact .inl rfl
  | some k => exact .inr (fun e => by cases e)), h.2⟩
theorem Own.kept_by {lo hi lo' hi' : Nat} {w w' : World} {v u : Value} {L M : List Int} (h : Own lo hi w v L) (k : Own lo' hi' w u M) (d : hi ≤ lo' ∨ hi' ≤ lo) (g : w.grownBy w' u.ownBlock) : Own lo hi w' v L := by
 refine ⟨h.1.kept g ?_, h.2⟩
 cases e : v.ownBlock with
 | none => exact .inl rfl
 | some i =>
  refine .inr (fun e' => ?_)
  have h1 := (h.1.lt i e).1
  have h2 := h.2 i e
  have k1 := (k.1.lt i e'.symm).1
  have k2 := k.2 i e'.symm
  omega
theorem below_none {a w w' : World} (b : Below a.heap.size a w) (g : w.grownBy w' none) : Below a.heap.size a w' := b.grown g b.size (fun k e => by cases e)
end Go.Proofs.YtnlllcgcaddhmaaGreatDoor.sl
