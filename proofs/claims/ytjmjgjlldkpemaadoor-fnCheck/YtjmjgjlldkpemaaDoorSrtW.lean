/- What ClauseSort (of the program and of its model) and the functions under it answer, at every list of at most 2^20 numbers, where the library's table of places lies as its text lays it. -/
import Derived.Test.YtjmjgjlldkpemaaDoorOp
import Derived.Test.YtjmjgjlldkpemaaDoorWo
namespace Go.Proofs.YtjmjgjlldkpemaaDoor.srt
open Go.ChangeShapes Go.WideShapes Go.ChangeAt Go.RowKit
open Go.Proofs.YtjmjgjlldkpemaaDoor.lits (okB placeI okB_iff okB_yes okB_no)
open Go.Proofs.YtjmjgjlldkpemaaDoor.bset (setOf placeN setOf_has setOf_lt)
open Go.Proofs.YtjmjgjlldkpemaaDoor.cls (hasB okAll)
open Go.Proofs.YtjmjgjlldkpemaaDoor.sl (Sl ints hide unhide ret_int ret_bool grown_refl grown_trans)
set_option linter.unusedVariables false

/-- the library's table in its variable -/
def Tab (w : World) : Prop := ∀ j, j < 64 → w.cell? ⟨1, j, none⟩ = some (.int .u8 (Lib.deBruijn64tab.getD j 0 : Nat))
theorem Tab.kept {w w' : World} (h : Tab w) (g : w.grownBy w' none) : Tab w' :=
  fun j hj => g.cell (h j hj) (fun e => by cases e)
theorem Tab.below {w w' : World} (h : Tab w) (b : Below w.heap.size w w') : Tab w' := h.kept (sl.of_below b)

theorem tz_key (x a : Nat) (hx : x < 18446744073709551616) (hx0 : x ≠ 0) (hlow : x &&& (18446744073709551616 - x) = a) :
    IntKind.u64.wrap (bits BinOp.and IntKind.u64 (x : Int) (IntKind.u64.wrap (-(x : Int))) * 285870213051353865) / 288230376151711744 = ((a * 285870213051353865 % 18446744073709551616 / 288230376151711744 : Nat) : Int) := by
  have e1 : IntKind.u64.wrap (-(x : Int)) = ((18446744073709551616 - x : Nat) : Int) := by rw [IntKind.wrap_u64]; omega
  rw [e1, u64_and_nat x _ hx (by omega), hlow, IntKind.wrap_u64]
  omega
set_option maxHeartbeats 1000000 in
theorem tz_core (x k idx : Nat) (w : World) (hx0 : ((x : Int) == 0) = false)
    (key : IntKind.u64.wrap (bits BinOp.and IntKind.u64 (x : Int) (IntKind.u64.wrap (-(x : Int))) * 285870213051353865) / 288230376151711744 = (idx : Int))
    (hi : idx < 64) (hk : k < 64) (hcell : w.cell? ⟨1, idx, none⟩ = some (.int .u8 k)) :
    Calls Tryd.prog 108 #[.int .u64 x] w fun e w' => e = .returned (.int .i64 k) ∧ w' = w := by
  go_enter Tryd.func108, Tryd.ntmps108
  go_wp2_with (simp only [key])
  go_ret
  exact ⟨rfl, rfl⟩
theorem tz (x : Nat) (w : World) (hT : Tab w) (h0 : 0 < x) (h : x < 2 ^ 48) :
    Calls Tryd.prog 108 #[.int .u64 x] w fun e w' => e = .returned (.int .i64 (Lib.ctz 64 x : Nat)) ∧ w' = w := by
  have h64 : x < 2 ^ 64 := Nat.lt_of_lt_of_le h (by decide)
  obtain ⟨hlow, hk⟩ := Lib.lowest_bit 64 x (by omega) h64
  obtain ⟨hi, htab⟩ := Lib.deBruijn64_at _ hk
  have hcell := hT _ hi
  rw [htab] at hcell
  exact tz_core x _ _ w (by simp; omega) (tz_key x _ h64 (by omega) hlow) hi hk hcell

theorem and127_bd (n : Int) : 0 ≤ bits .and .i64 n 127 ∧ bits .and .i64 n 127 ≤ 127 := by
  rw [i64_and127]
  omega
theorem litAt (p : Nat) (w : World) (h : p < 48) : Calls Tryd.prog 107 #[.int .i64 p] w fun e w' => e = .returned (.int .i8 (litI p)) ∧ w' = w := by
  obtain ⟨k, hk | hk⟩ : ∃ k, p = 2 * k ∨ p = 2 * k + 1 := ⟨p / 2, by omega⟩
  · subst hk
    rw [litI_even]
    have e1 : ((2 * k : Nat) : Int) / 2 = (k : Int) := by omega
    have e2 : ((((2 * k : Nat) : Int) % 2) == 1) = false := by rw [show ((2 * k : Nat) : Int) % 2 = 0 from by omega]; rfl
    have hk : k < 24 := by omega
    generalize hp : ((2 * k : Nat) : Int) = q at *
    have q0 : 0 ≤ q := by omega
    have q1 : q < 48 := by omega
    clear hp h
    go_enter Tryd.func107, Tryd.ntmps107
    go_wp2
    go_ret
    exact ⟨rfl, rfl⟩
  · subst hk
    rw [litI_odd]
    have e1 : ((2 * k + 1 : Nat) : Int) / 2 = (k : Int) := by omega
    have e2 : ((((2 * k + 1 : Nat) : Int) % 2) == 1) = true := by rw [show ((2 * k + 1 : Nat) : Int) % 2 = 1 from by omega]; rfl
    have hk : k < 24 := by omega
    generalize hp : ((2 * k + 1 : Nat) : Int) = q at *
    have q0 : 0 ≤ q := by omega
    have q1 : q < 48 := by omega
    clear hp h
    go_enter Tryd.func107, Tryd.ntmps107
    go_wp2
    go_ret
    exact ⟨rfl, rfl⟩

/-- the first literal of a set -/
def fstI (S : Nat) : Int := litI (Lib.ctz 64 S)
theorem first (S : Nat) (w : World) (hT : Tab w) (h0 : 0 < S) (h : S < 2 ^ 48) : Calls Tryd.prog 79 #[.int .u64 S] w fun e w' => e = .returned (.int .i8 (fstI S)) ∧ w' = w := by
  obtain ⟨t, m, et, ht, es⟩ := low h0 h
  have C := tz S w hT h0 h
  have D := litAt t w ht
  unfold fstI
  rw [← et] at C ⊢
  have CT := hide C
  have CL := hide D
  clear C D et es hT
  have hb := litI_bd t ht
  generalize litI t = y at *
  go_enter Tryd.func79, Tryd.ntmps79
  go_wp2_with fail
  refine (unhide CT).mono ?_; rintro e w2 ⟨rfl, hw⟩; have hw' := hw.symm; clear hw; subst hw'
  go_wp2_with fail
  refine (unhide CL).mono ?_; rintro e w2 ⟨rfl, hw⟩; have hw' := hw.symm; clear hw; subst hw'
  go_wp2_with fail
  go_ret
  exact ⟨rfl, rfl⟩

theorem and_pred (s : Nat) (h0 : 0 < s) (h : s < 2 ^ 48) : bits .and .u64 (s : Int) ((s : Int) - 1) = ((s &&& (s - 1) : Nat) : Int) := by
  rw [show ((s : Int) - 1) = ((s - 1 : Nat) : Int) from by omega]
  exact u64_and_nat s (s - 1) (by omega) (by omega)

end Go.Proofs.YtjmjgjlldkpemaaDoor.srt
