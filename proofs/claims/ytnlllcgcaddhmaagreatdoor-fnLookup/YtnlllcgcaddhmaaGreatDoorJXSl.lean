/- Slices of integers in memory, as the walks here speak of them, and what the small helpers on them (a copy, an equality, marks) do; no condition but that a list has at most 2^20 elements. -/
import Derived.Test.YtnlllcgcaddhmaaGreatDoorRows
import Derived.WalkKit
import Derived.ProofKit
import Derived.OpenShut
import Derived.ChangeOld
import Derived.Below
import Derived.BigQuiet
import Derived.Deep.QuietTactic
namespace Go.Proofs.YtnlllcgcaddhmaaGreatDoor.sl
open Go.ChangeShapes Go.WideShapes Go.ChangeAt Go.RowKit
set_option linter.unusedVariables false
theorem hide {p : Prop} (h : p) : Hid p := h
theorem unhide {p : Prop} (h : Hid p) : p := h
theorem ret_int {k : IntKind} {a b : Int} (h : a = b) : Ending.returned (.int k a) = .returned (.int k b) := by rw [h]
theorem ret_bool {a b : Bool} (h : a = b) : Ending.returned (.bool a) = .returned (.bool b) := by rw [h]
def ints (L : List Int) : List Value := L.map (Value.int .i64)
theorem ints_length (L : List Int) : (ints L).length = L.length := by simp [ints]
def Sl (w : World) (v : Value) (L : List Int) : Prop :=
 ∃ a cap, v = .slice a L.length cap ∧ (L = [] ∨ ∃ b off, a = some ⟨b, off, none⟩ ∧ b < w.heap.size ∧ ∀ i, i < L.length → w.cell? ⟨b, off + i, none⟩ = some (.int .i64 (L.getD i 0)))
theorem Sl.kept {w w' : World} {v : Value} {L : List Int} {row : Option Nat} (h : Sl w v L) (g : w.grownBy w' row) (hr : row = none ∨ v.ownBlock ≠ row) : Sl w' v L := by
 obtain ⟨a, cap, rfl, h⟩ := h
 refine ⟨a, cap, rfl, ?_⟩
 rcases h with h | ⟨b, off, rfl, hb, hc⟩
 ·exact .inl h
 ·refine .inr ⟨b, off, rfl, Nat.lt_of_lt_of_le hb g.size, fun i hi => ?_⟩
  have e : w'.heap[b]? = w.heap[b]? := g.block b hb (by cases hr with
   | inl h => rw [h]; exact fun h => by cases h
   | inr h => exact h)
  rw [← hc i hi]
  exact World.cell?_of_block (a := ⟨b, off + i, none⟩) e
theorem Sl.of_own {w : World} {base : Nat} {e : TypeId} {v : Value} {L : List Int} (h : w.ownsRow base e 1 v L.length (ints L)) : Sl w v L := by
 have h' := h
 obtain ⟨_, h⟩ := h
 rcases h with ⟨rfl, h0⟩ | ⟨g, cap, cur, rfl, hg, hh, hn, hm, hs, ht⟩
 ·have : L = [] := List.eq_nil_of_length_eq_zero h0
  subst this
  exact ⟨none, 0, rfl, .inl rfl⟩
 ·refine ⟨_, cap, rfl, .inr ⟨g, 0, rfl, ?_, fun i hi => ?_⟩⟩
  ·exact (Array.getElem?_eq_some_iff.1 hh).1
  ·rw [Nat.zero_add, h'.cellAt i (by omega)]
   simp [ints, hi]
theorem grown_refl (w : World) : w.grownBy w none := ⟨rfl, rfl, rfl, Nat.le_refl _, fun _ _ _ => rfl⟩
theorem grown_trans {a b c : World} {r : Option Nat} (h : a.grownBy b none) (k : b.grownBy c none) : a.grownBy c r :=
 ⟨k.os.trans h.os, k.tape.trans h.tape, k.output.trans h.output, Nat.le_trans h.size k.size, fun i hi _ => (k.block i (Nat.lt_of_lt_of_le hi h.size) (fun e => by cases e)).trans (h.block i hi (fun e => by cases e))⟩
theorem grown_trans' {a b c : World} {r : Option Nat} (h : a.grownBy b r) (k : b.grownBy c r) : a.grownBy c r :=
 ⟨k.os.trans h.os, k.tape.trans h.tape, k.output.trans h.output, Nat.le_trans h.size k.size, fun i hi hr => (k.block i (Nat.lt_of_lt_of_le hi h.size) hr).trans (h.block i hi hr)⟩
theorem grown_drewN (w : World) (n : Nat) : w.grownBy (w.drewN n) none := ⟨rfl, rfl, rfl, Nat.le_refl _, fun _ _ _ => rfl⟩
theorem below_of {w w' : World} (h : w.grownBy w' none) : Below w.heap.size w w' := ⟨h.os, h.tape, h.output, h.size, fun k hk => h.block k hk (fun e => by cases e)⟩
theorem of_below {w w' : World} (h : Below w.heap.size w w') : w.grownBy w' none := ⟨h.os, h.tape, h.output, h.size, fun k hk _ => h.block k hk⟩
theorem info3 : (Tryz.prog.info? 3).map (fun i => (i.zero, i.size, i.bytes)) = some (some (.int .i64 0), 1, 8) := by kernel_rfl
def part (L : List Int) (k : Nat) : List Int := L.take k ++ List.replicate (L.length - k) 0
theorem part_length (L : List Int) (k : Nat) (h : k ≤ L.length) : (part L k).length = L.length := by simp [part]; omega
theorem part_zero (L : List Int) : part L 0 = List.replicate L.length 0 := by simp [part]
theorem part_all (L : List Int) : part L L.length = L := by simp [part]
theorem part_set (L : List Int) (k : Nat) (h : k < L.length) : (ints (part L k)).set k (.int .i64 (L.getD k 0)) = ints (part L (k + 1)) := by
 have e1 : L.length - k = (L.length - (k + 1)) + 1 := by omega
 have e2 : L.getD k 0 = L[k] := by simp [h]
 have e3 : ints (part L k) = ints (L.take k) ++ (.int .i64 0 :: ints (List.replicate (L.length - (k + 1)) 0)) := by
  unfold part ints
  rw [e1, List.replicate_succ, List.map_append, List.map_cons]
 have e4 : ints (part L (k + 1)) = ints (L.take k) ++ (.int .i64 L[k] :: ints (List.replicate (L.length - (k + 1)) 0)) := by
  unfold part ints
  rw [List.take_succ_eq_append_getElem h, List.map_append, List.map_append]
  simp
 rw [e3, e4, e2, List.set_append_right _ _ (by rw [ints_length, List.length_take]; omega)]
 rw [show k - (ints (L.take k)).length = 0 from by rw [ints_length, List.length_take]; omega]
 rfl
theorem own_stored {w : World} {base g cap : Nat} {e : TypeId} {L M : List Int} (n : Nat) (hn : L.length = n) (hm : M.length = n) (h : w.ownsRow base e 1 (.slice (some ⟨g, 0, none⟩) n cap) n (ints L)) (j : Nat) (x : Int) (hx : (ints L).set j (.int .i64 x) = ints M) :
  (w.setCell ⟨g, j, none⟩ (.int .i64 x)).ownsRow base e 1 (.slice (some ⟨g, 0, none⟩) n cap) n (ints M) := by
 rw [← hx]
 exact (h.stored j _).1
theorem grown_setCell (w : World) (g j : Nat) (u : Value) : w.grownBy (w.setCell ⟨g, j, none⟩ u) (some g) :=
 ⟨rfl, rfl, rfl, by simp [World.setCell], fun k hk hr => Below.heap_setCell _ _ _ _ (fun e => hr (by rw [e]))⟩
def Own (lo hi : Nat) (w : World) (v : Value) (L : List Int) : Prop := w.ownsRow lo 3 1 v L.length (ints L) ∧ ∀ k, v.ownBlock = some k → k < hi
theorem Own.of {lo : Nat} {w : World} {v : Value} {L : List Int} (h : w.ownsRow lo 3 1 v L.length (ints L)) : Own lo w.heap.size w v L := ⟨h, fun k e => (h.lt k e).2⟩
theorem Own.sl {lo hi : Nat} {w : World} {v : Value} {L : List Int} (h : Own lo hi w v L) : Sl w v L := Sl.of_own h.1
theorem Own.kept {lo hi : Nat} {w w' : World} {v : Value} {L : List Int} (h : Own lo hi w v L) (g : w.grownBy w' none) : Own lo hi w' v L :=
 ⟨h.1.kept g (by cases v.ownBlock with
  | none => exact .inl rfl
  | some k => exact .inr (fun e => by cases e)), h.2⟩
theorem Own.kept_by {lo hi lo' hi' : Nat} {w w' : World} {v u : Value} {L M : List Int} (h : Own lo hi w v L) (k : Own lo' hi' w u M) (d : hi ≤ lo' ∨ hi' ≤ lo) (g : w.grownBy w' u.ownBlock) : Own lo hi w' v L := by
 refine ⟨h.1.kept g ?_, h.2⟩
 cases e : v.ownBlock with
 | none => exact .inl rfl
 | some i =>
  refine .inr (fun e' => ?_)
  have h1 := (h.1.lt i e).1
  have h2 := h.2 i e
  have k1 := (k.1.lt i e'.symm).1
  have k2 := k.2 i e'.symm
  omega
end Go.Proofs.YtnlllcgcaddhmaaGreatDoor.sl
