/- What the program's CountTrue answers at every formula that holds at most 2^20 values; no other condition. -/
import Derived.Test.YtgmbahbdepllnaaIt
namespace Go.Proofs.Ytgmbahbdepllnaa.cu
open Go.ChangeShapes Go.WideShapes Go.ChangeAt Go.RowKit Go.Shelf
open Go.Proofs.Ytgmbahbdepllnaa.sl (Sl Own ints hide unhide ret_int ret_bool grown_refl grown_trans grown_drewN below_of of_below)
open Go.Proofs.Ytgmbahbdepllnaa.css (Sls tot)
open Go.Proofs.Ytgmbahbdepllnaa.cf (Box)
open Go.Proofs.Ytgmbahbdepllnaa.ok (cnfB clB)
open Go.Proofs.Ytgmbahbdepllnaa.tr (cnfT clT)
open Go.Proofs.Ytgmbahbdepllnaa.cnt (cntR le ev sp)
open Go.Proofs.Ytgmbahbdepllnaa.at_ (at_)
open Go.Proofs.Ytgmbahbdepllnaa.bset (setOf)
open Go.Proofs.Ytgmbahbdepllnaa.su (MadeU words meets)
open Go.Proofs.Ytgmbahbdepllnaa.ct (countI countN)
set_option linter.unusedVariables false
attribute [local go_sem] Oper.semAt_some

/-- how many of some numbers have a property -/
def cntL (g : Nat → Bool) (l : List Nat) : Nat := (l.filter g).length
theorem cntL_snoc (g : Nat → Bool) (l : List Nat) (x : Nat) : cntL g (l ++ [x]) = cntL g l + (if g x then 1 else 0) := by
  unfold cntL
  rw [List.filter_append, List.length_append]
  cases h : g x <;> simp [h]
theorem cntL_le (g : Nat → Bool) (l : List Nat) : cntL g l ≤ l.length := List.length_filter_le _ _

theorem form {w w1 : World} {v : Value} {S : List Nat} (h : MadeU w w1 v S) : ∃ a c, v = .slice a S.length c := by
  obtain ⟨⟨_, h2⟩, _⟩ := h
  rcases h2 with ⟨rfl, h0⟩ | ⟨g, cap, cur, rfl, _⟩
  · exact ⟨none, 0, by rw [h0]⟩
  · exact ⟨_, cap, rfl⟩

theorem grow0 (a : World) (r : Option Nat) : a.grownBy a r := ⟨rfl, rfl, rfl, Nat.le_refl _, fun _ _ _ => rfl⟩
theorem grow1 {a b c : World} {r : Nat} (h : a.grownBy b none) (k : b.grownBy c (some r)) (hr : a.heap.size ≤ r) : a.grownBy c none :=
  ⟨k.os.trans h.os, k.tape.trans h.tape, k.output.trans h.output, Nat.le_trans h.size k.size, fun i hi _ => (k.block i (Nat.lt_of_lt_of_le hi h.size) (fun e => by cases e; omega)).trans (h.block i hi (fun e => by cases e))⟩
theorem grow2 {a b c : World} {r : Nat} {row : Option Nat} (h : a.grownBy b (some r)) (k : b.grownBy c row) (hr : ∀ r', row = some r' → a.heap.size ≤ r' ∨ r' = r) : a.grownBy c (some r) :=
  ⟨k.os.trans h.os, k.tape.trans h.tape, k.output.trans h.output, Nat.le_trans h.size k.size, fun i hi hn => (k.block i (Nat.lt_of_lt_of_le hi h.size) (fun e => by
    rcases hr i e.symm with h' | h'
    · omega
    · exact hn (by rw [h']))).trans (h.block i hi hn)⟩

end Go.Proofs.Ytgmbahbdepllnaa.cu
