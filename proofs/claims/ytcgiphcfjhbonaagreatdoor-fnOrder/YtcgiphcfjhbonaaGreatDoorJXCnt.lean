/- Plain mathematics of counting: all lists of n bits, told lowest first or highest first, are as many that have a property; how a set of every other bit is counted up by a borrow; no condition. -/
import Derived.Test.YtcgiphcfjhbonaaGreatDoorJXTr
namespace Go.Proofs.YtcgiphcfjhbonaaGreatDoor.cnt
open Go.RowKit
def cntR (m : Nat) (g : Nat → Bool) : Nat := ((List.range m).filter g).length
def asg : Nat → Nat → List Int → List Int
 | 0, _, out => out
 | n + 1, k, out => asg n (k / 2) (((k % 2 : Nat) : Int) :: out)
def ev : Nat → Nat
 | 0 => 0
 | n + 1 => 4 * ev n + 1
theorem ev_lt (n M : Nat) (h : 2 * n ≤ M) : ev n < 2 ^ M := by
 induction n generalizing M with
 | zero => exact Nat.two_pow_pos M
 | succ n ih =>
  obtain ⟨M', rfl⟩ : ∃ M', M = M' + 2 := ⟨M - 2, by omega⟩
  have := ih M' (by omega)
  simp only [ev]
  rw [Nat.pow_add]
  omega
end Go.Proofs.YtcgiphcfjhbonaaGreatDoor.cnt
