/- Sets of clauses as the program keeps them, two words of 64 bits: with and union; no condition but on the numbers. -/
import Derived.Test.YtnlllcgcaddhmaaGreatDoorJOc
import Derived.Test.YtnlllcgcaddhmaaGreatDoorJOn
import Derived.Deep.RegionLaw
namespace Go.Proofs.YtnlllcgcaddhmaaGreatDoor.kc
open Go.ChangeShapes Go.WideShapes Go.ChangeAt Go.RowKit
open cf (Box)
open sl (hide unhide grown_refl grown_trans)
set_option linter.unusedVariables false
def lo (X : Nat) : Nat := X % 2 ^ 64
def hi (X : Nat) : Nat := X / 2 ^ 64
def cset (X : Nat) : Value := .agg #[.int .u64 (lo X : Int), .int .u64 (hi X : Int)]
theorem lo_lt (X : Nat) : lo X < 18446744073709551616 := Nat.mod_lt _ (by decide)
theorem hi_lt {X : Nat} (h : X < 2 ^ 128) : hi X < 18446744073709551616 := Nat.div_lt_of_lt_mul (by rw [show (2 : Nat) ^ 64 * 18446744073709551616 = 2 ^ 128 by decide]; exact h)
theorem lo_bit (X i : Nat) : (lo X).testBit i = (decide (i < 64) && X.testBit i) := by unfold lo; rw [Nat.testBit_mod_two_pow]
theorem hi_bit (X i : Nat) : (hi X).testBit i = X.testBit (64 + i) := by unfold hi; rw [Nat.testBit_div_two_pow, Nat.add_comm]
theorem lo_or (X Y : Nat) : lo (X ||| Y) = lo X ||| lo Y := by
 apply Nat.eq_of_testBit_eq
 intro i
 rw [lo_bit, Nat.testBit_or, Nat.testBit_or, lo_bit, lo_bit]
 cases decide (i < 64) <;> simp
theorem hi_or (X Y : Nat) : hi (X ||| Y) = hi X ||| hi Y := by
 apply Nat.eq_of_testBit_eq
 intro i
 rw [hi_bit, Nat.testBit_or, Nat.testBit_or, hi_bit, hi_bit]
theorem lo_pow {i : Nat} (h : i < 64) : lo (2 ^ i) = 2 ^ i := Nat.mod_eq_of_lt (Nat.pow_lt_pow_right (by decide) h)
theorem hi_pow {i : Nat} (h : i < 64) : hi (2 ^ i) = 0 := Nat.div_eq_of_lt (Nat.pow_lt_pow_right (by decide) h)
theorem lo_pow' (i : Nat) : lo (2 ^ (64 + i)) = 0 := by unfold lo; rw [Nat.pow_add]; exact Nat.mul_mod_right _ _
theorem hi_pow' (i : Nat) : hi (2 ^ (64 + i)) = 2 ^ i := by unfold hi; rw [Nat.pow_add]; exact Nat.mul_div_cancel_left _ (by decide)
theorem or_lt {X Y n : Nat} (hX : X < 2 ^ n) (hY : Y < 2 ^ n) : X ||| Y < 2 ^ n := Nat.or_lt_two_pow hX hY
theorem or_pow (s p : Nat) (hp : p ≤ 63) (hs : s < 18446744073709551616) : bits .or .u64 (s : Int) (IntKind.u64.wrap (2 ^ p)) = ((s ||| 2 ^ p : Nat) : Int) := by
 have h2 : 2 ^ p < 18446744073709551616 := Nat.lt_of_lt_of_le (Nat.pow_lt_pow_right (by decide) (show p < 64 by omega)) (by decide)
 rw [IntKind.wrap_u64]
 have e : ((2 : Int) ^ p) % 18446744073709551616 = ((2 ^ p : Nat) : Int) := by
  have : ((2 : Int) ^ p) = ((2 ^ p : Nat) : Int) := by simp
  rw [this]
  clear this
  generalize 2 ^ p = q at *
  omega
 rw [e]
 exact u64_or_nat s (2 ^ p) hs h2
theorem sizeCS : (Tryz.prog.info? 165).map (·.size) = some 2 := by kernel_rfl
theorem ret_set {fn : Func} {p : Tmp} {tmps : Array Value} {w : World} {c : Nat} {x y : Value} (h : fn.results = #[.cell p 165]) (hp : tmps.getD p undef = .pointer (some ⟨c, 0, none⟩)) (hb : Box 165 w c x y) :
  (results fn tmps).run Tryz.prog w = .ok (.agg #[x, y]) w := by
 have h1 := run_loadVar_row (P := Tryz.prog) w c 165 165 #[x, y] (0, 0) _ hb Tryz.underlying165 rfl sizeCS
 have h3 : (results fn tmps).run Tryz.prog w = ((asAddr (tmps.getD p undef)).run Tryz.prog w).andThen fun a w₁ => (loadVar 165 a).run Tryz.prog w₁ := by
  simp only [results, h]
  simp [Sem.run_bind, Result.andThen]
 rw [h3, hp]
 simp only [asAddr, Sem.run_pure, Result.andThen_ok, h1]
set_option maxHeartbeats 800000 in
theorem union (X Y : Nat) (w : World) (hX : X < 2 ^ 128) (hY : Y < 2 ^ 128) : Calls Tryz.prog 158 #[cset X, cset Y] w fun e w' => e = .returned (cset (X ||| Y)) ∧ w.grownBy w' none := by
 have e0 := u64_or_nat (lo X) (lo Y) (lo_lt X) (lo_lt Y)
 have e1 := u64_or_nat (hi X) (hi Y) (hi_lt hX) (hi_lt hY)
 unfold cset
 rw [lo_or, hi_or]
 have E0 := hide e0
 have E1 := hide e1
 clear e0 e1
 generalize lo X = a at *
 generalize lo Y = b at *
 generalize hi X = c at *
 generalize hi Y = d at *
 go_enter Tryz.func158, Tryz.ntmps158
 go_wp2
 have hb := Box.new 165 ((w.alloc (.cells #[.int .u64 (a : Int), .int .u64 (c : Int)] 165)).alloc (.cells #[.int .u64 (b : Int), .int .u64 (d : Int)] 165)) (.int .u64 (bits .or .u64 (a : Int) (b : Int))) (.int .u64 (bits .or .u64 (c : Int) (d : Int)))
 rw [World.size_alloc, World.size_alloc] at hb
 refine bodyPost_ret (ret_set rfl rfl hb) rfl ⟨?_, grown_trans (grown_trans (r := none) (World.grownBy_alloc _ _ none) (World.grownBy_alloc _ _ none)) (World.grownBy_alloc _ _ none)⟩
 rw [unhide E0, unhide E1]
set_option maxHeartbeats 1600000 in
theorem withLo (a c i : Nat) (w : World) (hi : i < 64) (ha : a < 18446744073709551616) : Calls Tryz.prog 167 #[.agg #[.int .u64 (a : Int), .int .u64 (c : Int)], .int .i64 (i : Int)] w fun e w' => e = .returned (.agg #[.int .u64 ((a ||| 2 ^ i : Nat) : Int), .int .u64 (c : Int)]) ∧ w.grownBy w' none := by
 have E := hide (or_pow a i (by omega) ha)
 have q0 : (i : Int).tdiv 64 = 0 := by rw [Int.tdiv_eq_ediv_of_nonneg (by omega)]; omega
 have q1 : (i : Int).tmod 64 = (i : Int) := by rw [Int.tmod_eq_emod_of_nonneg (by omega)]; omega
 go_enter Tryz.func167, Tryz.ntmps167
 go_wp2
 go_region
 go_wp2
 have hb := Box.new 165 (w.alloc (.cells #[(.int .u64 (bits .or .u64 (a : Int) (IntKind.u64.wrap (2 ^ i)))), .int .u64 (c : Int)] 165)) ((.int .u64 (bits .or .u64 (a : Int) (IntKind.u64.wrap (2 ^ i))))) (.int .u64 (c : Int))
 rw [World.size_alloc] at hb
 refine bodyPost_ret (ret_set rfl rfl (hb.kept (cf.grown_drew _ none))) rfl ⟨?_, grown_trans (grown_trans (r := none) (World.grownBy_alloc _ _ none) (World.grownBy_alloc _ _ none)) (cf.grown_drew _ none)⟩
 rw [unhide E]
set_option maxHeartbeats 1600000 in
theorem withHi (a c i : Nat) (w : World) (hi : i < 64) (hc : c < 18446744073709551616) : Calls Tryz.prog 167 #[.agg #[.int .u64 (a : Int), .int .u64 (c : Int)], .int .i64 ((64 + i : Nat) : Int)] w fun e w' => e = .returned (.agg #[.int .u64 (a : Int), .int .u64 ((c ||| 2 ^ i : Nat) : Int)]) ∧ w.grownBy w' none := by
 have E := hide (or_pow c i (by omega) hc)
 have q0 : ((64 + i : Nat) : Int).tdiv 64 = 1 := by rw [Int.tdiv_eq_ediv_of_nonneg (by omega)]; omega
 have q1 : ((64 + i : Nat) : Int).tmod 64 = (i : Int) := by rw [Int.tmod_eq_emod_of_nonneg (by omega)]; omega
 have q2 : (0 : Int) ≤ ((64 + i : Nat) : Int) := by omega
 generalize ((64 + i : Nat) : Int) = j at *
 go_enter Tryz.func167, Tryz.ntmps167
 go_wp2
 go_region
 go_wp2
 have hb := Box.new 165 (w.alloc (.cells #[.int .u64 (a : Int), (.int .u64 (bits .or .u64 (c : Int) (IntKind.u64.wrap (2 ^ i))))] 165)) (.int .u64 (a : Int)) ((.int .u64 (bits .or .u64 (c : Int) (IntKind.u64.wrap (2 ^ i)))))
 rw [World.size_alloc] at hb
 refine bodyPost_ret (ret_set rfl rfl (hb.kept (cf.grown_drew _ none))) rfl ⟨?_, grown_trans (grown_trans (r := none) (World.grownBy_alloc _ _ none) (World.grownBy_alloc _ _ none)) (cf.grown_drew _ none)⟩
 rw [unhide E]
theorem with_ (X i : Nat) (w : World) (hX : X < 2 ^ 128) (h : i < 128) : Calls Tryz.prog 167 #[cset X, .int .i64 (i : Int)] w fun e w' => e = .returned (cset (X ||| 2 ^ i)) ∧ w.grownBy w' none := by
 unfold cset
 rw [lo_or, hi_or]
 by_cases hi' : i < 64
 ·rw [lo_pow hi', hi_pow hi', Nat.or_zero]
  exact withLo _ _ i w hi' (lo_lt X)
 ·obtain ⟨j, rfl⟩ : ∃ j, i = 64 + j := ⟨i - 64, by omega⟩
  rw [lo_pow', hi_pow', Nat.or_zero]
  exact withHi _ _ j w (by omega) (hi_lt hX)
end Go.Proofs.YtnlllcgcaddhmaaGreatDoor.kc
