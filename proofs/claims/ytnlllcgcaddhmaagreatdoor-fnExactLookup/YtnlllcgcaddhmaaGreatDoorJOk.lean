/- The program's solver as it lies in memory; what lost tells of it. -/
import Derived.Test.YtnlllcgcaddhmaaGreatDoorJXKc
import Derived.Test.YtnlllcgcaddhmaaGreatDoorJOc
import Derived.Test.YtnlllcgcaddhmaaGreatDoorJXSu
import Derived.Deep.QuietTactic
import Derived.BigQuiet
import Derived.Test.YtnlllcgcaddhmaaGreatDoorJXLq
import Derived.Test.YtnlllcgcaddhmaaGreatDoorJXNs
import Derived.RangeFuncNested
import Derived.RangeFuncBound
import Derived.RangeFuncCalls
import Derived.RangeFuncLeaves
import Derived.Shelf.Abstract
import Derived.Shelf.RegionOpen
import Derived.WalkKit
import Derived.OwnWalkIn
import Derived.TacticsInMore
import Derived.LoopNIn
import Derived.LoopIn
import Derived.Stop.RegionWithIn
import Derived.Deep.RegionHeld3
import Derived.Laws.EntriesVeiled
namespace Go.Proofs.YtnlllcgcaddhmaaGreatDoor.kd
open Go.ChangeShapes Go.WideShapes Go.ChangeAt Go.RowKit
open cf (Box)
open srt (Tab)
open su (words MadeU)
open kc (cset lo hi lo_bit hi_bit lo_lt hi_lt)
open sl (hide unhide grown_refl grown_trans)
set_option linter.unusedVariables false
structure SV where
 n : Nat
 V : Value
 Ss : List Nat
 H : Nat → Nat
 E : Nat → Nat
def SV.at (s : SV) (k : Nat) : Value :=
 if k = 0 then .int .i64 (s.n : Int) else if k = 1 then s.V else if k < 98 then (if k % 2 = 0 then .int .u64 (lo (s.H ((k - 2) / 2)) : Int) else .int .u64 (hi (s.H ((k - 2) / 2)) : Int))
 else (if k % 2 = 0 then .int .u64 (lo (s.E ((k - 98) / 2)) : Int) else .int .u64 (hi (s.E ((k - 98) / 2)) : Int))
def SV.cells (s : SV) : List Value := (List.range 148).map s.at
structure Slv (w : World) (c : Nat) (s : SV) : Prop where
 blk : w.heap[c]? = some (.cells s.cells.toArray 191 (0, 0))
 cl : w.ownsRow 0 153 1 s.V s.Ss.length (words s.Ss)
 m : s.Ss.length ≤ 120
 h : ∀ p, s.H p < 2 ^ s.Ss.length
 e : ∀ v, s.E v < 2 ^ s.Ss.length
theorem cells_len (s : SV) : s.cells.length = 148 := by simp [SV.cells]
theorem cells_at (s : SV) {k : Nat} (h : k < 148) : s.cells[k]? = some (s.at k) := by simp [SV.cells, h]
theorem Slv.cell {w : World} {c : Nat} {s : SV} (h : Slv w c s) {k : Nat} (hk : k < 148) : w.cell? ⟨c, k, none⟩ = some (s.at k) := by
 simp only [World.cell?, h.blk, List.getElem?_toArray, cells_at s hk]
 rfl
theorem Slv.lt {w : World} {c : Nat} {s : SV} (h : Slv w c s) : c < w.heap.size := (Array.getElem?_eq_some_iff.1 h.blk).1
theorem at0 (s : SV) : s.at 0 = .int .i64 (s.n : Int) := rfl
theorem at1 (s : SV) : s.at 1 = s.V := rfl
theorem atH0 (s : SV) {p : Nat} (h : p < 48) : s.at (2 + 2 * p) = .int .u64 (lo (s.H p) : Int) := by
 unfold SV.at
 rw [if_neg (by omega), if_neg (by omega), if_pos (by omega), if_pos (by omega), show (2 + 2 * p - 2) / 2 = p by omega]
theorem atH1 (s : SV) {p : Nat} (h : p < 48) : s.at (2 + 2 * p + 1) = .int .u64 (hi (s.H p) : Int) := by
 unfold SV.at
 rw [if_neg (by omega), if_neg (by omega), if_pos (by omega), if_neg (by omega), show (2 + 2 * p + 1 - 2) / 2 = p by omega]
theorem atE0 (s : SV) {v : Nat} (h : v < 25) : s.at (98 + 2 * v) = .int .u64 (lo (s.E v) : Int) := by
 unfold SV.at
 rw [if_neg (by omega), if_neg (by omega), if_neg (by omega), if_pos (by omega), show (98 + 2 * v - 98) / 2 = v by omega]
theorem atE1 (s : SV) {v : Nat} (h : v < 25) : s.at (98 + 2 * v + 1) = .int .u64 (hi (s.E v) : Int) := by
 unfold SV.at
 rw [if_neg (by omega), if_neg (by omega), if_neg (by omega), if_neg (by omega), show (98 + 2 * v + 1 - 98) / 2 = v by omega]
theorem Slv.kept {w w' : World} {c : Nat} {s : SV} (h : Slv w c s) (g : w.grownBy w' none) : Slv w' c s :=
 ⟨by rw [g.block c h.lt (fun e => by cases e)]; exact h.blk, h.cl.kept g (by
  cases s.V.ownBlock with
  | none => exact .inl rfl
  | some k => exact .inr (by simp)), h.m, h.h, h.e⟩
theorem lt128 {x m : Nat} (h : x < 2 ^ m) (hm : m ≤ 120) : x < 2 ^ 128 := Nat.lt_of_lt_of_le h (Nat.pow_le_pow_right (by decide) (by omega))
theorem bit_lt {x m i : Nat} (h : x < 2 ^ m) (hi : x.testBit i = true) : i < m := by
 rcases Nat.lt_or_ge i m with q | q
 ·exact q
 ·rw [Nat.testBit_lt_two_pow (Nat.lt_of_lt_of_le h (Nat.pow_le_pow_right (by decide) q))] at hi
  cases hi
theorem tz64 (x : Nat) (w : World) (hT : Tab w) (h0 : 0 < x) (h64 : x < 2 ^ 64) :
  Calls Tryz.prog 195 #[.int .u64 x] w fun e w' => e = .returned (.int .i64 (Lib.ctz 64 x : Nat)) ∧ w' = w := by
 obtain ⟨hlow, hk⟩ := Lib.lowest_bit 64 x (by omega) h64
 obtain ⟨hi, htab⟩ := Lib.deBruijn64_at _ hk
 have hcell := hT _ hi
 rw [htab] at hcell
 exact srt.tz_core x _ _ w (by simp; omega) (srt.tz_key x _ h64 (by omega) hlow) hi hk hcell
theorem ctz_bit {x : Nat} (h0 : 0 < x) (h64 : x < 2 ^ 64) : Lib.ctz 64 x < 64 ∧ x.testBit (Lib.ctz 64 x) = true := by
 obtain ⟨m, e, ht⟩ := Lib.ctzFrom_spec 64 x h0 h64
 have ec : Lib.ctz 64 x = Lib.ctzFrom 64 x := if_neg (by omega)
 rw [ec]
 refine ⟨ht, ?_⟩
 generalize Lib.ctzFrom 64 x = t at *
 rw [Nat.testBit_eq_decide_div_mod_eq, decide_eq_true_iff, e, Nat.mul_div_cancel_left _ (Nat.two_pow_pos t)]
 omega
def anN (a b : Nat) : Nat := a &&& (18446744073709551615 - b)
theorem anN_bit (a b i : Nat) (ha : a < 2 ^ 64) (hb : b < 2 ^ 64) : (anN a b).testBit i = (a.testBit i && !b.testBit i) := by
 unfold anN
 rw [Nat.testBit_and, show 18446744073709551615 - b = 2 ^ 64 - (b + 1) by omega, Nat.testBit_two_pow_sub_succ hb]
 by_cases h : i < 64
 ·rw [decide_eq_true h, Bool.true_and]
 ·rw [Nat.testBit_lt_two_pow (Nat.lt_of_lt_of_le ha (Nat.pow_le_pow_right (by decide) (by omega)))]
  rfl
theorem anN_lt (a b : Nat) (ha : a < 2 ^ 64) : anN a b < 2 ^ 64 := Nat.lt_of_le_of_lt Nat.and_le_left ha
theorem anN_zero {a b : Nat} (ha : a < 2 ^ 64) (hb : b < 2 ^ 64) (h : anN a b = 0) : ∀ i, a.testBit i = true → b.testBit i = true := by
 intro i hi
 have := anN_bit a b i ha hb
 rw [h, Nat.zero_testBit, hi, Bool.true_and] at this
 cases hb' : b.testBit i with
 | true => rfl
 | false => rw [hb'] at this; cases this
def LostE (w : World) (s : SV) (v X : Nat) (e : Ending) (w' : World) : Prop := w.grownBy w' none ∧
 ((∃ i, i < s.Ss.length ∧ (s.E v).testBit i = true ∧ X.testBit i = false ∧ e = .returned (.tuple #[.int .u64 (s.Ss.getD i 0 : Int), .bool true])) ∨
  ((∀ i, (s.E v).testBit i = true → X.testBit i = true) ∧ e = .returned (.tuple #[.int .u64 0, .bool false])))
theorem lo_open {E X : Nat} (h0 : anN (lo E) (lo X) ≠ 0) : E.testBit (Lib.ctz 64 (anN (lo E) (lo X))) = true ∧ X.testBit (Lib.ctz 64 (anN (lo E) (lo X))) = false ∧ Lib.ctz 64 (anN (lo E) (lo X)) < 64 := by
 obtain ⟨h1, h2⟩ := ctz_bit (Nat.pos_of_ne_zero h0) (anN_lt _ _ (lo_lt E))
 rw [anN_bit _ _ _ (lo_lt E) (lo_lt X), Bool.and_eq_true, lo_bit, lo_bit, decide_eq_true h1, Bool.true_and, Bool.true_and] at h2
 exact ⟨h2.1, by simpa using h2.2, h1⟩
theorem hi_open {E X : Nat} (hE : E < 2 ^ 128) (hX : X < 2 ^ 128) (h0 : anN (hi E) (hi X) ≠ 0) : E.testBit (64 + Lib.ctz 64 (anN (hi E) (hi X))) = true ∧ X.testBit (64 + Lib.ctz 64 (anN (hi E) (hi X))) = false ∧ Lib.ctz 64 (anN (hi E) (hi X)) < 64 := by
 obtain ⟨h1, h2⟩ := ctz_bit (Nat.pos_of_ne_zero h0) (anN_lt _ _ (hi_lt hE))
 rw [anN_bit _ _ _ (hi_lt hE) (hi_lt hX), Bool.and_eq_true, hi_bit, hi_bit] at h2
 exact ⟨h2.1, by simpa using h2.2, h1⟩
theorem all_closed {E X : Nat} (hE : E < 2 ^ 128) (hX : X < 2 ^ 128) (h0 : anN (lo E) (lo X) = 0) (h1 : anN (hi E) (hi X) = 0) : ∀ i, E.testBit i = true → X.testBit i = true := by
 intro i hi'
 by_cases h : i < 64
 ·have := anN_zero (lo_lt E) (lo_lt X) h0 i (by rw [lo_bit, hi', decide_eq_true h]; rfl)
  rw [lo_bit, Bool.and_eq_true] at this
  exact this.2
 ·have := anN_zero (hi_lt hE) (hi_lt hX) h1 (i - 64) (by rw [hi_bit, show 64 + (i - 64) = i by omega]; exact hi')
  rw [hi_bit, show 64 + (i - 64) = i by omega] at this
  exact this
theorem row_at {w : World} {c : Nat} {s : SV} (h : Slv w c s) {i : Nat} (hi : i < s.Ss.length) : ∃ g cap, s.V = .slice (some ⟨g, 0, none⟩) s.Ss.length cap ∧ w.cell? ⟨g, i, none⟩ = some (.int .u64 (s.Ss.getD i 0 : Int)) := by
 have hcl := h.cl
 rcases hcl.2 with ⟨hv, h0⟩ | ⟨g, cap, cur, hv, _⟩
 ·omega
 ·rw [hv] at hcl
  refine ⟨g, cap, hv, ?_⟩
  rw [hcl.cellAt i (by omega)]
  simp [su.words, hi]
set_option maxRecDepth 100000 in
set_option maxHeartbeats 4000000 in
theorem lost (c : Nat) (s : SV) (v X : Nat) (w : World) (hT : Tab w) (h : Slv w c s) (hv : v < 25) (hX : X < 2 ^ 128) :
  Calls Tryz.prog 210 #[.pointer (some ⟨c, 0, none⟩), .int .i64 (v : Int), cset X] w fun e w' => LostE w s v X e w' := by
 have gA := World.grownBy_alloc w (.cells #[.int .u64 (lo X : Int), .int .u64 (hi X : Int)] 165) none
 have hA := h.kept gA
 have hE := lt128 (h.e v) h.m
 have c0 := hA.cell (k := 98 + v * 2) (by omega)
 have c1 := hA.cell (k := 98 + v * 2 + 1) (by omega)
 rw [show 98 + v * 2 = 98 + 2 * v by omega, atE0 s hv] at c0
 rw [show 98 + v * 2 + 1 = 98 + 2 * v + 1 by omega, atE1 s hv] at c1
 rw [show 98 + 2 * v = 98 + v * 2 by omega] at c0 c1
 have cV := hA.cell (k := 1) (by decide)
 rw [at1] at cV
 have hlt := h.lt
 have a0 := u64_andNot_nat (lo (s.E v)) (lo X) (lo_lt _) (lo_lt _)
 have a1 := u64_andNot_nat (hi (s.E v)) (hi X) (hi_lt hE) (hi_lt hX)
 have TA := hide (show Tab (w.alloc (.cells #[.int .u64 (lo X : Int), .int .u64 (hi X : Int)] 165)) from hT.below (sl.below_of gA))
 have i0 : ∀ (a b : Value) w, (Instr.index 165 (.agg #[a, b]) (.int .i64 0)).run Tryz.prog w = .ok a w := fun a b _ => by kernel_rfl
 have i1 : ∀ (a b : Value) w, (Instr.index 165 (.agg #[a, b]) (.int .i64 1)).run Tryz.prog w = .ok b w := fun a b _ => by kernel_rfl
 have L0 := lo_open (E := s.E v) (X := X)
 have L1 := hi_open hE hX
 have LC := hide (all_closed hE hX)
 have HA := hide hA
 have GA := hide gA
 unfold anN at L0 L1 LC
 obtain ⟨d0, hd0⟩ : ∃ d0, lo (s.E v) &&& (18446744073709551615 - lo X) = d0 := ⟨_, rfl⟩
 obtain ⟨d1, hd1⟩ : ∃ d1, hi (s.E v) &&& (18446744073709551615 - hi X) = d1 := ⟨_, rfl⟩
 have hb0 : d0 < 2 ^ 64 := by rw [← hd0]; exact anN_lt _ _ (lo_lt _)
 have hb1 : d1 < 2 ^ 64 := by rw [← hd1]; exact anN_lt _ _ (hi_lt hE)
 rw [hd0] at a0 L0 LC
 rw [hd1] at a1 L1 LC
 unfold cset
 have M0 := hide L0
 have M1 := hide L1
 have hsm := h.m
 have hel := hide (h.e v)
 clear hd0 hd1 L0 L1 hA gA h hT
 generalize lo (s.E v) = e0 at *
 generalize hi (s.E v) = e1 at *
 generalize lo X = x0 at *
 generalize hi X = x1 at *
 go_enter Tryz.func210, Tryz.ntmps210
 go_wp2
 go_loop [17] (fun i => (i = .int .i64 0) ∨ (i = .int .i64 1 ∧ Hid (d0 = 0)) ∨ (i = .int .i64 2 ∧ Hid (d0 = 0) ∧ Hid (d1 = 0))) (fun i => 2 - (intOf i).toNat)
 case atStart => exact .inl rfl
 case round =>
  rcases hrel with rfl | ⟨rfl, z0⟩ | ⟨rfl, z0, z1⟩
  ·by_cases hz : d0 = 0
   ·have hzb : ((d0 : Int) != 0) = false := by simp [hz]
    go_wp2
    go_round
    case rel => exact .inr (.inl ⟨rfl, hz⟩)
    case measure => simp [intOf]
   ·have hzb : ((d0 : Int) != 0) = true := by simp [hz]
    obtain ⟨b1, b2, b3⟩ := unhide M0 hz
    have hil := bit_lt (unhide hel) b1
    obtain ⟨g, cap, hV, hcell⟩ := row_at (unhide HA) hil
    rw [hV] at cV
    have TZ := hide (fun n => tz64 d0 ((w.alloc (.cells #[.int .u64 (x0 : Int), .int .u64 (x1 : Int)] 165)).drewN n) ((unhide TA).below (sl.below_of (sl.grown_drewN _ n))) (Nat.pos_of_ne_zero hz) hb0)
    have FIN := hide (fun n => (show LostE w s v X (.returned (.tuple #[.int .u64 (s.Ss.getD (Lib.ctz 64 d0) 0 : Int), .bool true])) ((w.alloc (.cells #[.int .u64 (x0 : Int), .int .u64 (x1 : Int)] 165)).drewN n) from ⟨grown_trans (unhide GA) (sl.grown_drewN _ n), .inl ⟨Lib.ctz 64 d0, hil, b1, b2, rfl⟩⟩))
    generalize s.Ss.getD (Lib.ctz 64 d0) 0 = y at *
    generalize Lib.ctz 64 d0 = t at *
    have q1 : (t : Int) < (s.Ss.length : Int) := by omega
    go_wp2
    go_quiet (first | (go_at_call 195; exact Calls.quiet_of_same (unhide TZ _)))
    go_wp2
    go_ret2
    exact unhide FIN _
  ·by_cases hz : d1 = 0
   ·have hzb : ((d1 : Int) != 0) = false := by simp [hz]
    go_wp2
    go_round
    case rel => exact .inr (.inr ⟨rfl, z0, hz⟩)
    case measure => simp [intOf]
   ·have hzb : ((d1 : Int) != 0) = true := by simp [hz]
    obtain ⟨b1, b2, b3⟩ := unhide M1 hz
    have hil := bit_lt (unhide hel) b1
    obtain ⟨g, cap, hV, hcell⟩ := row_at (unhide HA) hil
    rw [hV] at cV
    have TZ := hide (fun n => tz64 d1 ((w.alloc (.cells #[.int .u64 (x0 : Int), .int .u64 (x1 : Int)] 165)).drewN n) ((unhide TA).below (sl.below_of (sl.grown_drewN _ n))) (Nat.pos_of_ne_zero hz) hb1)
    have FIN := hide (fun n => (show LostE w s v X (.returned (.tuple #[.int .u64 (s.Ss.getD (64 + Lib.ctz 64 d1) 0 : Int), .bool true])) ((w.alloc (.cells #[.int .u64 (x0 : Int), .int .u64 (x1 : Int)] 165)).drewN n) from ⟨grown_trans (unhide GA) (sl.grown_drewN _ n), .inl ⟨64 + Lib.ctz 64 d1, hil, b1, b2, rfl⟩⟩))
    generalize s.Ss.getD (64 + Lib.ctz 64 d1) 0 = y at *
    generalize Lib.ctz 64 d1 = t at *
    have q1 : 64 + (t : Int) < (s.Ss.length : Int) := by omega
    go_wp2
    go_quiet (first | (go_at_call 195; exact Calls.quiet_of_same (unhide TZ _)))
    go_wp2
    go_ret2
    exact unhide FIN _
  ·go_wp2
   go_ret2
   exact ⟨unhide GA, .inr ⟨unhide LC (unhide z0) (unhide z1), rfl⟩⟩
end Go.Proofs.YtnlllcgcaddhmaaGreatDoor.kd
namespace Go.Proofs.YtnlllcgcaddhmaaGreatDoor.km
open srt (swp swp_swp)
open lq (Bits bits_app bits_cons lst lst_none lst_some lst_congr)
set_option linter.unusedVariables false
def plc (j : Nat) (x : Int) : Nat := if x = 1 then 2 * j else 2 * j + 1
def wdB (A : List Int) (b : Nat) : Bool := decide (b / 2 < A.length) && decide (plc (b / 2) (A.getD (b / 2) 0) = b)
theorem swp_div (b : Nat) : swp b / 2 = b / 2 := by
 unfold srt.swp
 split <;> omega
theorem swp_ne (b : Nat) : swp b ≠ b := by
 unfold srt.swp
 split <;> omega
theorem plc_div (j : Nat) (x : Int) : plc j x / 2 = j := by
 unfold plc
 split <;> omega
theorem plc_swp (j : Nat) : swp (plc j 0) = plc j 1 ∧ swp (plc j 1) = plc j 0 := by
 unfold srt.swp plc
 simp
theorem plc_two (b : Nat) : plc (b / 2) 0 = b ∨ plc (b / 2) 1 = b := by
 unfold plc
 simp
 omega
theorem wd_one {A : List Int} (hA : ∀ x ∈ A, x = 0 ∨ x = 1) {b : Nat} (h : wdB A b = true) : wdB A (swp b) = false := by
 unfold wdB at *
 rw [Bool.and_eq_true, decide_eq_true_iff, decide_eq_true_iff] at h
 rw [swp_div, decide_eq_true h.1, Bool.true_and, decide_eq_false_iff_not, h.2]
 exact fun e => swp_ne b e.symm
theorem wd_some {A : List Int} (hA : ∀ x ∈ A, x = 0 ∨ x = 1) {b : Nat} (h : b / 2 < A.length) : wdB A b = true ∨ wdB A (swp b) = true := by
 have hx : A.getD (b / 2) 0 = 0 ∨ A.getD (b / 2) 0 = 1 := by
  rw [show A.getD (b / 2) 0 = A[b / 2] by simp [h]]
  exact hA _ (List.getElem_mem h)
 unfold wdB
 rw [swp_div, decide_eq_true h, Bool.true_and, Bool.true_and, decide_eq_true_iff, decide_eq_true_iff]
 have p := plc_swp (b / 2)
 rcases plc_two b with e | e <;> rcases hx with z | z <;> rw [z]
 ·exact .inl e
 ·exact .inr (by rw [← p.1, e])
 ·exact .inr (by rw [← p.2, e])
 ·exact .inl e
theorem wd_pre {pre l : List Int} {b : Nat} (h : wdB pre b = true) : wdB (pre ++ l) b = true := by
 unfold wdB at *
 rw [Bool.and_eq_true, decide_eq_true_iff, decide_eq_true_iff] at *
 rw [lq.getD_pre h.1, List.length_append]
 exact ⟨by omega, h.2⟩
theorem wd_last (pre : List Int) (x : Int) (l : List Int) : wdB (pre ++ x :: l) (plc pre.length x) = true := by
 unfold wdB
 rw [plc_div, lq.getD_app, Bool.and_eq_true, decide_eq_true_iff, decide_eq_true_iff, List.length_append, List.length_cons]
 exact ⟨by omega, rfl⟩
theorem wd_snoc (pre : List Int) (x : Int) (b : Nat) : wdB (pre ++ [x]) b = (wdB pre b || decide (b = plc pre.length x)) := by
 rw [Bool.eq_iff_iff, Bool.or_eq_true, decide_eq_true_iff]
 constructor
 ·intro h
  by_cases hl : b / 2 < pre.length
  ·refine .inl ?_
   unfold wdB at *
   rw [Bool.and_eq_true, decide_eq_true_iff, decide_eq_true_iff] at *
   rw [lq.getD_pre hl] at h
   exact ⟨hl, h.2⟩
  ·refine .inr ?_
   unfold wdB at h
   rw [Bool.and_eq_true, decide_eq_true_iff, decide_eq_true_iff, List.length_append, List.length_singleton] at h
   have e : b / 2 = pre.length := by omega
   rw [e, lq.getD_app] at h
   exact h.2.symm
 ·rintro (h | rfl)
  ·exact wd_pre h
  ·exact wd_last pre x []
def Sat (Ss : List Nat) (W : Nat) (A : List Int) : Prop := (∀ S ∈ Ss, ∃ b, S.testBit b = true ∧ wdB A b = true) ∧ ∀ b, W.testBit b = true → wdB A b = true
def Conf (n : Nat) (Ss : List Nat) (W : Nat) (c : Nat) (pre : List Int) : Prop := (∀ b, c.testBit b = true → wdB pre (swp b) = true) ∧ ∀ A, Bits n A → Sat Ss W A → ∃ b, c.testBit b = true ∧ wdB A b = true
theorem conf_none {n : Nat} {Ss : List Nat} {W c : Nat} {pre l : List Int} (h : Conf n Ss W c pre) (hb : Bits n (pre ++ l)) : ¬ Sat Ss W (pre ++ l) := by
 intro hs
 obtain ⟨b, h1, h2⟩ := h.2 _ hb hs
 have h3 := wd_pre (l := l) (h.1 b h1)
 rw [wd_one hb.2 h2] at h3
 cases h3
theorem conf_lost {n : Nat} {Ss : List Nat} {W S : Nat} {pre : List Int} (hp : ∀ x ∈ pre, x = 0 ∨ x = 1) (hS : S ∈ Ss) (hv : ∀ b, S.testBit b = true → b / 2 < pre.length) (ho : ∀ b, S.testBit b = true → wdB pre b = false) : Conf n Ss W S pre := by
 refine ⟨fun b hb => ?_, fun A _ hs => hs.1 S hS⟩
 rcases wd_some hp (hv b hb) with h | h
 ·rw [ho b hb] at h
  cases h
 ·exact h
theorem conf_jump {n : Nat} {Ss : List Nat} {W c : Nat} {pre : List Int} {x : Int} (h : Conf n Ss W c (pre ++ [x])) (hc : c.testBit (swp (plc pre.length x)) = false) : Conf n Ss W c pre := by
 refine ⟨fun b hb => ?_, h.2⟩
 have := h.1 b hb
 rw [wd_snoc, Bool.or_eq_true, decide_eq_true_iff] at this
 rcases this with q | q
 ·exact q
 ·rw [← q, swp_swp, hb] at hc
  cases hc
theorem conf_part {n : Nat} {Ss : List Nat} {W c : Nat} {pre : List Int} {x : Int} (h : Conf n Ss W c (pre ++ [x])) {b : Nat} (hb : c.testBit b = true) (hne : b ≠ swp (plc pre.length x)) : wdB pre (swp b) = true := by
 have := h.1 b hb
 rw [wd_snoc, Bool.or_eq_true, decide_eq_true_iff] at this
 rcases this with q | q
 ·exact q
 ·exact absurd (by rw [← q, swp_swp]) hne
theorem conf_both {n : Nat} {Ss : List Nat} {W c0 c1 c : Nat} {pre : List Int} (h0 : Conf n Ss W c0 (pre ++ [0])) (h1 : Conf n Ss W c1 (pre ++ [1]))
  (hc : ∀ b, c.testBit b = ((c0.testBit b && !decide (b = plc pre.length 1)) || (c1.testBit b && !decide (b = plc pre.length 0)))) : Conf n Ss W c pre := by
 have p := plc_swp pre.length
 refine ⟨fun b hb => ?_, fun A hA hs => ?_⟩
 ·rw [hc b, Bool.or_eq_true, Bool.and_eq_true, Bool.and_eq_true] at hb
  rcases hb with ⟨q, r⟩ | ⟨q, r⟩
  ·exact conf_part h0 q (by rw [p.1]; simpa using r)
  ·exact conf_part h1 q (by rw [p.2]; simpa using r)
 ·obtain ⟨b0, q0, r0⟩ := h0.2 A hA hs
  obtain ⟨b1, q1, r1⟩ := h1.2 A hA hs
  by_cases e0 : b0 = plc pre.length 1
  ·refine ⟨b1, ?_, r1⟩
   rw [hc, q1]
   have : b1 ≠ plc pre.length 0 := fun e => by
    have := wd_one hA.2 r0
    rw [e0, p.2, ← e, r1] at this
    cases this
   simp [this]
  ·refine ⟨b0, ?_, r0⟩
   rw [hc, q0]
   simp [e0]
theorem conf_one {n : Nat} {Ss : List Nat} {W c1 c : Nat} {pre : List Int} {x : Int} (hx : x = 0 ∨ x = 1) (hw : W.testBit (plc pre.length x) = true) (h1 : Conf n Ss W c1 (pre ++ [x]))
  (hc : ∀ b, c.testBit b = (c1.testBit b && !decide (b = swp (plc pre.length x)))) : Conf n Ss W c pre := by
 refine ⟨fun b hb => ?_, fun A hA hs => ?_⟩
 ·rw [hc b, Bool.and_eq_true] at hb
  exact conf_part h1 hb.1 (by simpa using hb.2)
 ·obtain ⟨b1, q1, r1⟩ := h1.2 A hA hs
  refine ⟨b1, ?_, r1⟩
  have : b1 ≠ swp (plc pre.length x) := fun e => by
   have := wd_one hA.2 (hs.2 _ hw)
   rw [← e, r1] at this
   cases this
  rw [hc, q1]
  simp [this]
theorem conf_zero {n : Nat} {Ss : List Nat} {W : Nat} {pre : List Int} (h0 : W.testBit (plc pre.length 0) = true) (h1 : W.testBit (plc pre.length 1) = true) : Conf n Ss W 0 pre := by
 refine ⟨fun b hb => (by rw [Nat.zero_testBit] at hb; cases hb), fun A hA hs => ?_⟩
 have := wd_one hA.2 (hs.2 _ h0)
 rw [(plc_swp pre.length).1, hs.2 _ h1] at this
 cases this
structure Path (n : Nat) (Ss : List Nat) (W : Nat) (E : Nat → Nat) (pre : List Int) : Prop where
 len : pre.length ≤ n
 bit : ∀ x ∈ pre, x = 0 ∨ x = 1
 ok : ∀ b, wdB pre b = true → W.testBit (swp b) = false
 cl : ∀ u, u < pre.length → ∀ i, (E u).testBit i = true → ∃ b, (Ss.getD i 0).testBit b = true ∧ wdB pre b = true
theorem path_end {n : Nat} {Ss : List Nat} {W : Nat} {E : Nat → Nat} {pre : List Int} (h : Path n Ss W E pre) (hl : pre.length = n) (hW : ∀ b, W.testBit b = true → b / 2 < n)
  (hE : ∀ i, i < Ss.length → ∃ u, u ≤ n ∧ (E u).testBit i = true) (hn : ∀ i, (E n).testBit i = true → ∃ b, (Ss.getD i 0).testBit b = true ∧ wdB pre b = true) : Sat Ss W pre := by
 refine ⟨fun S hS => ?_, fun b hb => ?_⟩
 ·obtain ⟨i, hi, rfl⟩ := List.getElem_of_mem hS
  obtain ⟨u, hu, hub⟩ := hE i hi
  have key : ∃ b, (Ss.getD i 0).testBit b = true ∧ wdB pre b = true := by
   by_cases e : u = n
   ·exact hn i (e ▸ hub)
   ·exact h.cl u (by omega) i hub
  rw [show Ss.getD i 0 = Ss[i] by simp [hi]] at key
  exact key
 ·rcases wd_some h.bit (by rw [hl]; exact hW b hb) with q | q
  ·exact q
  ·have := h.ok _ q
   rw [swp_swp, hb] at this
   cases this
theorem path_snoc {n : Nat} {Ss : List Nat} {W : Nat} {E : Nat → Nat} {pre : List Int} {x : Int} (h : Path n Ss W E pre) (hl : pre.length < n) (hx : x = 0 ∨ x = 1) (hw : W.testBit (swp (plc pre.length x)) = false)
  (hc : ∀ i, (E pre.length).testBit i = true → ∃ b, (Ss.getD i 0).testBit b = true ∧ wdB pre b = true) : Path n Ss W E (pre ++ [x]) := by
 refine ⟨by rw [List.length_append, List.length_singleton]; omega, fun y hy => ?_, fun b hb => ?_, fun u hu i hi => ?_⟩
 ·rcases List.mem_append.1 hy with hy | hy
  ·exact h.bit y hy
  ·rw [List.mem_singleton] at hy
   rw [hy]
   exact hx
 ·rw [wd_snoc, Bool.or_eq_true, decide_eq_true_iff] at hb
  rcases hb with q | rfl
  ·exact h.ok b q
  ·exact hw
 ·rw [List.length_append, List.length_singleton] at hu
  have key : ∃ b, (Ss.getD i 0).testBit b = true ∧ wdB pre b = true := by
   by_cases e : u = pre.length
   ·exact hc i (e ▸ hi)
   ·exact h.cl u (by omega) i hi
  obtain ⟨b, h1, h2⟩ := key
  exact ⟨b, h1, wd_pre h2⟩
end Go.Proofs.YtnlllcgcaddhmaaGreatDoor.km
namespace Go.Proofs.YtnlllcgcaddhmaaGreatDoor.km
open lits (okB varI okB_iff varI_yes)
open bset (placeN setOf setOf_has setOf_bit placeN_inj)
open cls (hasB)
open ok (cnfB clB litIn)
open tr (litT clT cnfT)
open as_ (litAt)
open srt (swp swp_swp)
open lq (Bits bits_app bits_cons lst lst_none lst_some lst_congr holds litT_at litIn_parts)
set_option linter.unusedVariables false
theorem place_at {j : Nat} (h : j < 24) {x : Int} (hx : x = 0 ∨ x = 1) : placeN (litAt j x) = plc j x := by
 unfold bset.placeN lits.placeI plc as_.litAt
 rcases hx with rfl | rfl
 ·simp
  rw [if_pos (by omega)]
  omega
 ·simp
  rw [if_neg (by omega)]
  omega
theorem lit_form {n : Nat} {x : Int} (h : litIn (n : Int) x = true) : ∃ (j : Nat) (y : Int), j < n ∧ (y = 0 ∨ y = 1) ∧ litAt j y = x := by
 obtain ⟨ok, hv⟩ := litIn_parts h
 obtain ⟨b0, b1, b2⟩ := okB_iff.1 ok
 rw [varI_yes (okB_iff.1 ok)] at hv
 by_cases hneg : x < 0
 ·rw [if_pos hneg] at hv
  refine ⟨(-x - 1).toNat, 0, by omega, .inl rfl, ?_⟩
  unfold as_.litAt
  rw [if_neg (by decide)]
  omega
 ·rw [if_neg hneg] at hv
  refine ⟨(x - 1).toNat, 1, by omega, .inr rfl, ?_⟩
  unfold as_.litAt
  rw [if_pos rfl]
  omega
theorem wd_lit {n : Nat} {A : List Int} (hA : Bits n A) (h24 : n ≤ 24) {x : Int} (hx : litIn (n : Int) x = true) : wdB A (placeN x) = litT A x := by
 obtain ⟨j, y, hj, hy, rfl⟩ := lit_form hx
 have hjl : j < A.length := by rw [hA.1]; exact hj
 have hb : A.getD j 0 = 0 ∨ A.getD j 0 = 1 := by
  rw [show A.getD j 0 = A[j] by simp [hjl]]
  exact hA.2 _ (List.getElem_mem hjl)
 rw [place_at (by omega) hy, litT_at hjl (by omega) hy hb]
 unfold wdB
 rw [plc_div, decide_eq_true hjl, Bool.true_and, Bool.eq_iff_iff, decide_eq_true_iff, decide_eq_true_iff]
 unfold plc
 rcases hb with z | z <;> rcases hy with rfl | rfl <;> rw [z] <;> simp
theorem place_div {n : Nat} (h24 : n ≤ 24) {x : Int} (hx : litIn (n : Int) x = true) : placeN x / 2 < n := by
 obtain ⟨j, y, hj, hy, rfl⟩ := lit_form hx
 rw [place_at (by omega) hy, plc_div]
 exact hj
theorem set_lit {L : List Int} {b : Nat} (h : (setOf L).testBit b = true) : ∃ x ∈ L, okB x = true ∧ placeN x = b := by
 rw [setOf_bit, List.any_eq_true] at h
 obtain ⟨x, hx, h2⟩ := h
 rw [Bool.and_eq_true, decide_eq_true_iff] at h2
 exact ⟨x, hx, h2.1, h2.2⟩
theorem lit_set {L : List Int} {x : Int} (hx : x ∈ L) (ho : okB x = true) : (setOf L).testBit (placeN x) = true := by
 rw [setOf_has L x ho]
 exact decide_eq_true hx
theorem sat_iff {n : Nat} {LL : List (List Int)} {a A : List Int} (hA : Bits n A) (h24 : n ≤ 24) (hc : ∀ c ∈ LL, ∀ x ∈ c, litIn (n : Int) x = true) (ha : ∀ x ∈ a, litIn (n : Int) x = true) : holds LL a A = true ↔ Sat (LL.map setOf) (setOf a) A := by
 unfold lq.holds Sat
 rw [Bool.and_eq_true]
 constructor
 ·rintro ⟨h1, h2⟩
  unfold tr.cnfT at h1
  rw [List.all_eq_true] at h1 h2
  refine ⟨fun S hS => ?_, fun b hb => ?_⟩
  ·obtain ⟨L, hL, rfl⟩ := List.mem_map.1 hS
   have := h1 L hL
   unfold tr.clT at this
   obtain ⟨x, hx, ht⟩ := List.any_eq_true.1 this
   have hin := hc L hL x hx
   exact ⟨placeN x, lit_set hx (litIn_parts hin).1, by rw [wd_lit hA h24 hin]; exact ht⟩
  ·obtain ⟨x, hx, ho, rfl⟩ := set_lit hb
   rw [wd_lit hA h24 (ha x hx)]
   exact h2 x hx
 ·rintro ⟨h1, h2⟩
  unfold tr.cnfT
  rw [List.all_eq_true, List.all_eq_true]
  refine ⟨fun L hL => ?_, fun x hx => ?_⟩
  ·obtain ⟨b, hb, hw⟩ := h1 _ (List.mem_map_of_mem hL)
   obtain ⟨x, hx, ho, rfl⟩ := set_lit hb
   unfold tr.clT
   rw [wd_lit hA h24 (hc L hL x hx)] at hw
   exact List.any_eq_true.2 ⟨x, hx, hw⟩
  ·rw [← wd_lit hA h24 (ha x hx)]
   exact h2 _ (lit_set hx (litIn_parts (ha x hx)).1)
def left_ (n : Nat) (LL : List (List Int)) (a pre : List Int) : Option (List Int) := lst (n - pre.length) (fun l => holds LL a (pre ++ l))
theorem left_conf {n : Nat} {LL : List (List Int)} {a pre : List Int} {c : Nat} (h24 : n ≤ 24) (hl : pre.length ≤ n) (hb : ∀ x ∈ pre, x = 0 ∨ x = 1) (hc : ∀ c ∈ LL, ∀ x ∈ c, litIn (n : Int) x = true) (ha : ∀ x ∈ a, litIn (n : Int) x = true) (h : Conf n (LL.map setOf) (setOf a) c pre) : left_ n LL a pre = none := by
 unfold left_
 rw [lst_none]
 intro l hl'
 have hB : Bits n (pre ++ l) := by
  have := bits_app (m := pre.length) (k := n - pre.length) ⟨rfl, hb⟩ hl'
  rw [show pre.length + (n - pre.length) = n by omega] at this
  exact this
 cases q : holds LL a (pre ++ l) with
 | false => rfl
 | true => exact absurd ((sat_iff hB h24 hc ha).1 q) (conf_none h hB)
theorem left_step {n : Nat} {LL : List (List Int)} {a pre : List Int} (hl : pre.length < n) : left_ n LL a pre = match left_ n LL a (pre ++ [0]) with
  | some l => some (0 :: l)
  | none => (left_ n LL a (pre ++ [1])).map (1 :: ·) := by
 unfold left_
 obtain ⟨m, hm⟩ : ∃ m, n - pre.length = m + 1 := ⟨n - pre.length - 1, by omega⟩
 have e : ∀ x, (fun l => holds LL a (pre ++ [x] ++ l)) = fun l => holds LL a (pre ++ x :: l) := fun x => funext fun l => by rw [List.append_assoc]; rfl
 rw [hm, List.length_append, List.length_append, List.length_singleton, List.length_singleton, show n - (pre.length + 1) = m by omega, e 0, e 1]
 rfl
theorem left_end {n : Nat} {LL : List (List Int)} {a pre : List Int} (hl : pre.length = n) (h : holds LL a pre = true) : left_ n LL a pre = some [] := by
 unfold left_
 rw [hl, Nat.sub_self]
 unfold lst
 show (if holds LL a (pre ++ []) = true then _ else _) = _
 rw [List.append_nil, if_pos h]
theorem left_skip {n : Nat} {LL : List (List Int)} {a pre : List Int} {x : Int} (h24 : n ≤ 24) (hl : pre.length < n) (hb : ∀ x ∈ pre, x = 0 ∨ x = 1) (hx : x = 0 ∨ x = 1) (hc : ∀ c ∈ LL, ∀ x ∈ c, litIn (n : Int) x = true) (ha : ∀ x ∈ a, litIn (n : Int) x = true) (hw : (setOf a).testBit (swp (plc pre.length x)) = true) : left_ n LL a (pre ++ [x]) = none := by
 unfold left_
 rw [lst_none]
 intro l hl'
 rw [List.length_append, List.length_singleton] at hl'
 have hB : Bits n (pre ++ [x] ++ l) := by
  have := bits_app (m := pre.length + 1) (k := n - (pre.length + 1)) (a := pre ++ [x]) ⟨by simp, fun y hy => by
   rcases List.mem_append.1 hy with hy | hy
   ·exact hb y hy
   ·rw [List.mem_singleton] at hy; rw [hy]; exact hx⟩ hl'
  rw [show pre.length + 1 + (n - (pre.length + 1)) = n by omega] at this
  exact this
 cases q : holds LL a (pre ++ [x] ++ l) with
 | false => rfl
 | true =>
  exfalso
  have h1 := ((sat_iff hB h24 hc ha).1 q).2 _ hw
  have h2 : wdB (pre ++ [x] ++ l) (plc pre.length x) = true := by
   rw [List.append_assoc]
   exact wd_last pre x l
  rw [wd_one hB.2 h2] at h1
  cases h1
end Go.Proofs.YtnlllcgcaddhmaaGreatDoor.km
namespace Go.Proofs.YtnlllcgcaddhmaaGreatDoor.ks
open Go.RowKit
open srt (Tab swp oppN)
open bset (placeN setOf)
open kc (cset)
open kd (SV Slv)
open km (wdB plc)
open sl (hide unhide grown_refl grown_trans)
set_option linter.unusedVariables false
structure Right (n : Nat) (LL : List (List Int)) (s : SV) : Prop where
 n24 : n ≤ 24
 sn : s.n = n
 ss : s.Ss = LL.map setOf
 hv : ∀ p i, (s.H p).testBit i = (decide (i < s.Ss.length) && (s.Ss.getD i 0).testBit p)
 e1 : ∀ u i, (s.E u).testBit i = true → ∀ b, (s.Ss.getD i 0).testBit b = true → b / 2 < u
 e2 : ∀ i, i < s.Ss.length → ∃ u, u ≤ n ∧ (s.E u).testBit i = true
 e3 : ∀ u i, (s.E u).testBit i = true → u = 0 ∨ ∃ b, (s.Ss.getD i 0).testBit b = true ∧ b / 2 + 1 = u
 li : ∀ c ∈ LL, ∀ x ∈ c, ok.litIn (n : Int) x = true
def Closed (Ss : List Nat) (pre : List Int) (X : Nat) : Prop := X < 2 ^ 128 ∧ ∀ i, X.testBit i = true ↔ i < Ss.length ∧ ∃ b, (Ss.getD i 0).testBit b = true ∧ wdB pre b = true
def Word (pre : List Int) (P : Nat) : Prop := P < 2 ^ 48 ∧ ∀ b, P.testBit b = wdB pre b
theorem Right.lt {n : Nat} {LL : List (List Int)} {s : SV} (h : Right n LL s) {i : Nat} (hi : i < s.Ss.length) : s.Ss.getD i 0 < 2 ^ 48 := by
 have hm : s.Ss.getD i 0 ∈ s.Ss := by
  rw [show s.Ss.getD i 0 = s.Ss[i] by simp [hi]]
  exact List.getElem_mem hi
 rw [h.ss] at hm
 obtain ⟨L, _, e⟩ := List.mem_map.1 hm
 rw [h.ss, ← e]
 exact bset.setOf_lt L
theorem word_snoc {pre : List Int} {P : Nat} {x y : Int} (h : Word pre P) (ho : lits.okB y = true) (hp : placeN y = plc pre.length x) : Word (pre ++ [x]) (bset.withN P y) :=
 ⟨bset.withN_lt h.1 ho, fun b => by
  rw [bset.withN_bit, h.2, hp, km.wd_snoc]
  congr 1
  rw [Bool.eq_iff_iff, decide_eq_true_iff, decide_eq_true_iff]
  exact ⟨fun e => e.symm, fun e => e.symm⟩⟩
theorem closed_snoc {n : Nat} {LL : List (List Int)} {pre : List Int} {s : SV} {X p : Nat} {x : Int} (h : Right n LL s) (hm : s.Ss.length ≤ 120) (hX : Closed s.Ss pre X) (hp : p = plc pre.length x) : Closed s.Ss (pre ++ [x]) (X ||| s.H p) := by
 have hH : s.H p < 2 ^ 128 := by
  refine Nat.lt_of_lt_of_le (Nat.lt_pow_two_of_testBit (n := s.Ss.length) _ (fun i hi => ?_)) (Nat.pow_le_pow_right (by decide) (by omega))
  rw [h.hv, decide_eq_false (by omega), Bool.false_and]
 refine ⟨kc.or_lt hX.1 hH, fun i => ?_⟩
 rw [Nat.testBit_or, Bool.or_eq_true, hX.2, h.hv, Bool.and_eq_true, decide_eq_true_iff]
 constructor
 ·rintro (⟨h1, b, h2, h3⟩ | ⟨h1, h2⟩)
  ·exact ⟨h1, b, h2, km.wd_pre h3⟩
  ·exact ⟨h1, p, h2, by rw [hp]; exact km.wd_last pre x []⟩
 ·rintro ⟨h1, b, h2, h3⟩
  rw [km.wd_snoc, Bool.or_eq_true, decide_eq_true_iff] at h3
  rcases h3 with q | q
  ·exact .inl ⟨h1, b, h2, q⟩
  ·exact .inr ⟨h1, by rw [hp, ← q]; exact h2⟩
theorem toGrown {f : Nat} {args : Array Value} {w : World} {v : Value} (h : Calls Tryz.prog f args w fun e w' => e = .returned v ∧ w' = w) : Calls Tryz.prog f args w fun e w' => e = .returned v ∧ w.grownBy w' none :=
 h.mono fun e w' ⟨h1, h2⟩ => ⟨h1, by rw [h2]; exact grown_refl _⟩
end Go.Proofs.YtnlllcgcaddhmaaGreatDoor.ks
namespace Go.Proofs.YtnlllcgcaddhmaaGreatDoor.ks
open Go.ChangeShapes Go.WideShapes Go.ChangeAt Go.RowKit
open kd (SV Slv cells_len cells_at atH0 atH1 atE0 atE1)
open kc (cset lo hi)
open sl (hide unhide grown_refl grown_trans)
set_option linter.unusedVariables false
def setH (s : SV) (p X : Nat) : SV := { s with H := fun q => if q = p then X else s.H q }
def setE (s : SV) (u X : Nat) : SV := { s with E := fun q => if q = u then X else s.E q }
theorem setH_at (s : SV) {p X k : Nat} (hp : p < 48) : (setH s p X).at k = if k = 2 + 2 * p then .int .u64 (lo X : Int) else if k = 2 + 2 * p + 1 then .int .u64 (hi X : Int) else s.at k := by
 by_cases h0 : k = 2 + 2 * p
 ·subst h0
  rw [if_pos rfl, atH0 _ hp]
  simp [setH]
 ·by_cases h1 : k = 2 + 2 * p + 1
  ·subst h1
   rw [if_neg h0, if_pos rfl, atH1 _ hp]
   simp [setH]
  ·rw [if_neg h0, if_neg h1]
   unfold SV.at setH
   by_cases a : k = 0
   ·rw [if_pos a, if_pos a]
   ·by_cases b : k = 1
    ·rw [if_neg a, if_neg a, if_pos b, if_pos b]
    ·rw [if_neg a, if_neg a, if_neg b, if_neg b]
     by_cases c : k < 98
     ·have hne : ¬ (k - 2) / 2 = p := by omega
      rw [if_pos c, if_pos c]
      simp only [if_neg hne]
     ·rw [if_neg c, if_neg c]
theorem setE_at (s : SV) {u X k : Nat} (hu : u < 25) (hk : k < 148) : (setE s u X).at k = if k = 98 + 2 * u then .int .u64 (lo X : Int) else if k = 98 + 2 * u + 1 then .int .u64 (hi X : Int) else s.at k := by
 by_cases h0 : k = 98 + 2 * u
 ·subst h0
  rw [if_pos rfl, atE0 _ hu]
  simp [setE]
 ·by_cases h1 : k = 98 + 2 * u + 1
  ·subst h1
   rw [if_neg h0, if_pos rfl, atE1 _ hu]
   simp [setE]
  ·rw [if_neg h0, if_neg h1]
   unfold SV.at setE
   by_cases a : k = 0
   ·rw [if_pos a, if_pos a]
   ·by_cases b : k = 1
    ·rw [if_neg a, if_neg a, if_pos b, if_pos b]
    ·rw [if_neg a, if_neg a, if_neg b, if_neg b]
     by_cases c : k < 98
     ·rw [if_pos c, if_pos c]
     ·have hne : ¬ (k - 98) / 2 = u := by omega
      rw [if_neg c, if_neg c]
      simp only [if_neg hne]
theorem set2 {A B : List Value} {o : Nat} {x y : Value} (hA : A.length = 148) (hB : B.length = 148) (ho : o + 1 < 148) (h : ∀ k, k < 148 → B[k]? = if k = o then some x else if k = o + 1 then some y else A[k]?) : (A.set o x).set (o + 1) y = B := by
 apply List.ext_getElem?
 intro k
 by_cases hk : k < 148
 ·rw [h k hk, List.getElem?_set, List.length_set, List.getElem?_set, hA]
  by_cases h1 : o + 1 = k
  ·subst h1
   simp
   omega
  ·rw [if_neg h1]
   by_cases h0 : o = k
   ·subst h0
    rw [if_pos rfl, if_pos rfl, if_pos (by omega)]
   ·rw [if_neg h0, if_neg (fun e => h0 e.symm), if_neg (fun e => h1 e.symm)]
 ·rw [List.getElem?_eq_none (by simp; omega), List.getElem?_eq_none (by omega)]
theorem blk_set2 {w : World} {c o : Nat} {L : List Value} {t : TypeId} {x y : Value} (hb : w.heap[c]? = some (.cells L.toArray t (0, 0))) (hl : o + 1 < L.length) :
  (w.setCells c o [x, y]).heap[c]? = some (.cells ((L.set o x).set (o + 1) y).toArray t (0, 0)) := by
 show ((w.setCell ⟨c, o, none⟩ x).setCell ⟨c, o + 1, none⟩ y).heap[c]? = _
 rw [heap_setCell_same _ c (o + 1) _ t y (heap_setCell_same w c o _ t x hb)]
 simp
theorem grown_set2 (w : World) (c o : Nat) (x y : Value) : w.grownBy (w.setCells c o [x, y]) (some c) :=
 ⟨rfl, rfl, rfl, by simp [World.setCells, World.setCell], fun k hk hr => (Below.heap_setCell (w.setCell ⟨c, o, none⟩ x) ⟨c, o + 1, none⟩ y k (fun e => hr (by rw [e]))).trans (Below.heap_setCell w ⟨c, o, none⟩ x k (fun e => hr (by rw [e])))⟩
theorem cellsH (s : SV) {p X : Nat} (hp : p < 48) : (s.cells.set (2 + 2 * p) (.int .u64 (lo X : Int))).set (2 + 2 * p + 1) (.int .u64 (hi X : Int)) = (setH s p X).cells := by
 refine set2 (cells_len s) (cells_len _) (by omega) fun k hk => ?_
 rw [cells_at _ hk, cells_at _ hk, setH_at s hp]
 split
 ·rfl
 ·split <;> rfl
theorem cellsE (s : SV) {u X : Nat} (hu : u < 25) : (s.cells.set (98 + 2 * u) (.int .u64 (lo X : Int))).set (98 + 2 * u + 1) (.int .u64 (hi X : Int)) = (setE s u X).cells := by
 refine set2 (cells_len s) (cells_len _) (by omega) fun k hk => ?_
 rw [cells_at _ hk, cells_at _ hk, setE_at s hu hk]
 split
 ·rfl
 ·split <;> rfl
theorem Slv.setH {w : World} {c : Nat} {s : SV} {p X : Nat} (h : Slv w c s) (hp : p < 48) (hX : X < 2 ^ s.Ss.length) (hV : s.V.ownBlock ≠ some c) :
  Slv (w.setCells c (2 + 2 * p) [.int .u64 (lo X : Int), .int .u64 (hi X : Int)]) c (setH s p X) := by
 refine ⟨?_, ?_, h.m, ?_, h.e⟩
 ·rw [blk_set2 h.blk (by rw [cells_len]; omega), cellsH s hp]
 ·refine h.cl.kept (grown_set2 w c _ _ _) ?_
  cases e : s.V.ownBlock with
  | none => exact .inl rfl
  | some k => exact .inr (by rw [← e]; exact hV)
 ·intro q
  show (if q = p then X else s.H q) < _
  split
  ·exact hX
  ·exact h.h q
theorem Slv.setE {w : World} {c : Nat} {s : SV} {u X : Nat} (h : Slv w c s) (hu : u < 25) (hX : X < 2 ^ s.Ss.length) (hV : s.V.ownBlock ≠ some c) :
  Slv (w.setCells c (98 + 2 * u) [.int .u64 (lo X : Int), .int .u64 (hi X : Int)]) c (setE s u X) := by
 refine ⟨?_, ?_, h.m, h.h, ?_⟩
 ·rw [blk_set2 h.blk (by rw [cells_len]; omega), cellsE s hu]
 ·refine h.cl.kept (grown_set2 w c _ _ _) ?_
  cases e : s.V.ownBlock with
  | none => exact .inl rfl
  | some k => exact .inr (by rw [← e]; exact hV)
 ·intro q
  show (if q = u then X else s.E q) < _
  split
  ·exact hX
  ·exact h.e q
theorem grow1 {w w1 w2 : World} {b : Nat} (h : w.grownBy w1 none) (g : w1.grownBy w2 (some b)) (hb : w.heap.size ≤ b) : w.grownBy w2 none :=
 ⟨g.os.trans h.os, g.tape.trans h.tape, g.output.trans h.output, Nat.le_trans h.size g.size, fun i hi _ => (g.block i (Nat.lt_of_lt_of_le hi h.size) (fun e => by cases e; omega)).trans (h.block i hi (fun e => by cases e))⟩
structure Got (n : Nat) (Ss : List Nat) (i q : Nat) (s : SV) : Prop where
 hv : ∀ p j, (s.H p).testBit j = ((decide (j < i) || (decide (j = i) && decide (p < q))) && (Ss.getD j 0).testBit p)
 e0 : ∀ u j, (s.E u).testBit j = true → j < i
 e1 : ∀ u j, (s.E u).testBit j = true → ∀ b, (Ss.getD j 0).testBit b = true → b / 2 < u
 e2 : ∀ j, j < i → ∃ u, u ≤ n ∧ (s.E u).testBit j = true
 e3 : ∀ u j, (s.E u).testBit j = true → u = 0 ∨ ∃ b, (Ss.getD j 0).testBit b = true ∧ b / 2 + 1 = u
theorem Got.start {n : Nat} {Ss : List Nat} {s : SV} (h : ∀ p, s.H p = 0) (e : ∀ u, s.E u = 0) : Got n Ss 0 0 s :=
 ⟨fun p j => by rw [h p]; simp, fun u j hj => by rw [e u] at hj; simp at hj, fun u j hj => by rw [e u] at hj; simp at hj, fun j hj => by omega, fun u j hj => by rw [e u] at hj; simp at hj⟩
theorem Got.step {n : Nat} {Ss : List Nat} {i q t : Nat} {s : SV} (h : Got n Ss i q s) (hq : q ≤ t) (hn : ∀ b, q ≤ b → b < t → (Ss.getD i 0).testBit b = false) (ht : (Ss.getD i 0).testBit t = true) :
  Got n Ss i (t + 1) (setH s t (s.H t ||| 2 ^ i)) := by
 refine ⟨fun p j => ?_, h.e0, h.e1, h.e2, h.e3⟩
 show (if p = t then s.H t ||| 2 ^ i else s.H p).testBit j = _
 by_cases hp : p = t
 ·subst hp
  rw [if_pos rfl, Nat.testBit_or, h.hv, Nat.testBit_two_pow]
  by_cases hj : j = i
  ·subst hj
   simp only [ht, Bool.and_true, decide_eq_true (Nat.lt_succ_self p)]
   simp
  ·have hj' : ¬ i = j := fun e => hj e.symm
   simp only [decide_eq_false hj, decide_eq_false hj', Bool.false_and, Bool.or_false]
 ·rw [if_neg hp, h.hv]
  by_cases hj : j = i
  ·subst hj
   by_cases h1 : p < q
   ·simp [h1, show p < t + 1 by omega]
   ·by_cases h2 : p < t
    ·rw [hn p (by omega) h2]
     simp
    ·simp [h1, show ¬ p < t + 1 by omega]
  ·simp [hj]
theorem Got.fin {n : Nat} {Ss : List Nat} {i q u : Nat} {s : SV} (h : Got n Ss i q s) (hq : ∀ b, (Ss.getD i 0).testBit b = true → b < q) (hu : ∀ b, (Ss.getD i 0).testBit b = true → b / 2 < u) (hn : u ≤ n) (h3 : u = 0 ∨ ∃ b, (Ss.getD i 0).testBit b = true ∧ b / 2 + 1 = u) :
  Got n Ss (i + 1) 0 (setE s u (s.E u ||| 2 ^ i)) := by
 have eb : ∀ v j, ((setE s u (s.E u ||| 2 ^ i)).E v).testBit j = ((s.E v).testBit j || (decide (v = u) && decide (i = j))) := by
  intro v j
  show (if v = u then s.E u ||| 2 ^ i else s.E v).testBit j = _
  by_cases hv : v = u
  ·subst hv
   rw [if_pos rfl, Nat.testBit_or, Nat.testBit_two_pow]
   simp
  ·rw [if_neg hv]
   simp [hv]
 refine ⟨fun p j => ?_, fun v j hj => ?_, fun v j hj => ?_, fun j hj => ?_, fun v j hj => ?_⟩
 ·show (s.H p).testBit j = _
  rw [h.hv]
  by_cases hj : j = i
  ·subst hj
   cases hb : (Ss.getD j 0).testBit p with
   | false => simp
   | true => simp [hq p hb]
  ·have : decide (j < i + 1) = decide (j < i) := by rw [decide_eq_decide]; omega
   simp [hj, this]
 ·rw [eb, Bool.or_eq_true] at hj
  rcases hj with hj | hj
  ·have := h.e0 v j hj; omega
  ·simp at hj; omega
 ·rw [eb, Bool.or_eq_true] at hj
  rcases hj with hj | hj
  ·exact h.e1 v j hj
  ·simp at hj
   obtain ⟨rfl, rfl⟩ := hj
   exact hu
 ·by_cases hl : j < i
  ·obtain ⟨v, h1, h2⟩ := h.e2 j hl
   exact ⟨v, h1, by rw [eb, h2]; rfl⟩
  ·exact ⟨u, hn, by rw [eb]; simp; right; omega⟩
 ·rw [eb, Bool.or_eq_true] at hj
  rcases hj with hj | hj
  ·exact h.e3 v j hj
  ·simp at hj
   obtain ⟨rfl, rfl⟩ := hj
   exact h3
theorem Got.right {n : Nat} {LL : List (List Int)} {s : SV} (hn : n ≤ 24) (hs : s.n = n) (hS : s.Ss = LL.map bset.setOf) (h : Got n s.Ss s.Ss.length 0 s) (hl : ∀ c ∈ LL, ∀ x ∈ c, ok.litIn (n : Int) x = true) : Right n LL s :=
 ⟨hn, hs, hS, fun p i => by rw [h.hv]; simp, h.e1, h.e2, h.e3, hl⟩
end Go.Proofs.YtnlllcgcaddhmaaGreatDoor.ks
namespace Go.Proofs.YtnlllcgcaddhmaaGreatDoor.ks
open Go.ChangeShapes Go.WideShapes Go.ChangeAt Go.RowKit
open kd (SV Slv cells_len cells_at atH0 atH1 atE0 atE1)
open kc (cset lo hi)
open srt (Tab fstI litI)
open lits (okB)
open bset (setOf setOf_lt placeN)
open css (Sls tot)
open su (MadeU words)
open sl (hide unhide grown_refl grown_trans)
set_option linter.unusedVariables false
theorem row_nec {w : World} {b n z c : Nat} {e t : TypeId} {fz : Nat × Nat} {v : Value} {xs : List Value} {cs : Array Value} (h : w.ownsRow b e z v n xs) (hc : w.heap[c]? = some (.cells cs t fz)) (he : (e : Nat) ≠ t) : v.ownBlock = none ∨ v.ownBlock ≠ some c := by
 cases q : v.ownBlock with
 | none => exact .inl rfl
 | some g =>
  right
  intro q'
  cases q'
  obtain ⟨c', fz', hc'⟩ := css.own_kind h c q
  rw [hc'] at hc
  simp only [Option.some.injEq, Obj.cells.injEq] at hc
  exact he hc.2.1
theorem Slv.fz {w : World} {c : Nat} {s : SV} (h : Slv w c s) (k : Nat) : w.frozen? ⟨c, k, none⟩ = false := by
 simp [World.frozen?, h.blk]
theorem lit_place {t : Nat} (h : t < 48) : okB (litI t) = true ∧ placeN (litI t) = t ∧ (if litI t < 0 then -litI t else litI t) = ((t / 2 + 1 : Nat) : Int) := by
 rcases Nat.mod_two_eq_zero_or_one t with e | e
 ·obtain ⟨k, rfl⟩ : ∃ k, t = 2 * k := ⟨t / 2, by omega⟩
  rw [srt.litI_even]
  have := srt.place_pos k (by omega)
  refine ⟨this.1, this.2, ?_⟩
  rw [if_neg (by omega)]
  omega
 ·obtain ⟨k, rfl⟩ : ∃ k, t = 2 * k + 1 := ⟨t / 2, by omega⟩
  rw [srt.litI_odd]
  have := srt.place_neg k (by omega)
  refine ⟨this.1, this.2, ?_⟩
  rw [if_pos (by omega)]
  omega
def Sof (n : Nat) (LL : List (List Int)) (w w' : World) (c : Nat) (s : SV) : Prop := Slv w' c s ∧ Right n LL s ∧ w.grownBy w' none
def zeroSV (n : Nat) (u : Value) (Ss : List Nat) : SV := ⟨n, u, Ss, fun _ => 0, fun _ => 0⟩
set_option maxRecDepth 100000 in
theorem zero_cells (n : Nat) (u : Value) (Ss : List Nat) : (Tryz.zeroCells191.setIfInBounds 0 (.int .i64 (n : Int))).setIfInBounds 1 u = (zeroSV n u Ss).cells.toArray := by kernel_rfl
structure Way (n : Nat) (Ss : List Nat) (u : Value) (w wr : World) (c k q : Nat) (s : SV) : Prop where
 sl : Slv wr c s
 sn : s.n = n
 sv : s.V = u
 ss : s.Ss = Ss
 got : Got n Ss k q s
 g : w.grownBy wr none
 hc : w.heap.size ≤ c
theorem Way.start {n : Nat} {Ss : List Nat} {u : Value} {w w1 W0 : World} (hm : Ss.length ≤ 120) (g : w.grownBy w1 none) (ho : w1.ownsRow w.heap.size 153 1 u Ss.length (words Ss))
  (hW : W0 = w1.alloc (.cells ((Tryz.zeroCells191.setIfInBounds 0 (.int .i64 (n : Int))).setIfInBounds 1 u) 191)) : Way n Ss u w W0 w1.heap.size 0 0 (zeroSV n u Ss) := by
 rw [zero_cells n u Ss] at hW
 subst hW
 refine ⟨⟨?_, (css.own_mono ho (Nat.zero_le _)).alloc _, hm, fun _ => Nat.two_pow_pos _, fun _ => Nat.two_pow_pos _⟩, rfl, rfl, rfl, Got.start (fun _ => rfl) (fun _ => rfl), grown_trans g (World.grownBy_alloc _ _ _), g.size⟩
 show (w1.heap.push _)[w1.heap.size]? = _
 rw [Array.getElem?_push, if_pos rfl]
theorem Way.own {n : Nat} {Ss : List Nat} {u : Value} {w wr : World} {c k q : Nat} {s : SV} (h : Way n Ss u w wr c k q s) : s.V.ownBlock ≠ some c := by
 rcases row_nec h.sl.cl h.sl.blk (by decide) with e | e
 ·rw [e]; exact fun z => by cases z
 ·exact e
theorem or_lt {X i m : Nat} (h : X < 2 ^ m) (hi : i < m) : X ||| 2 ^ i < 2 ^ m := Nat.or_lt_two_pow h (Nat.pow_lt_pow_right (by decide) hi)
theorem Way.kept {n : Nat} {Ss : List Nat} {u : Value} {w wr w' : World} {c k q : Nat} {s : SV} (h : Way n Ss u w wr c k q s) (g : wr.grownBy w' none) : Way n Ss u w w' c k q s :=
 ⟨h.sl.kept g, h.sn, h.sv, h.ss, h.got, grown_trans h.g g, h.hc⟩
theorem Way.put {n : Nat} {Ss : List Nat} {u : Value} {w wr : World} {c k q t : Nat} {s : SV} (h : Way n Ss u w wr c k q s) (hk : k < Ss.length) (ht : t < 48) (hq : q ≤ t) (hn : ∀ b, q ≤ b → b < t → (Ss.getD k 0).testBit b = false) (hb : (Ss.getD k 0).testBit t = true) :
  Way n Ss u w ((wr.setCell ⟨c, 2 + t * 2, none⟩ (.int .u64 (lo (s.H t ||| 2 ^ k) : Int))).setCell ⟨c, 2 + t * 2 + 1, none⟩ (.int .u64 (hi (s.H t ||| 2 ^ k) : Int))) c k (t + 1) (setH s t (s.H t ||| 2 ^ k)) := by
 have h1 := h.ss
 rw [Nat.mul_comm t 2]
 exact ⟨Slv.setH h.sl ht (or_lt (h.sl.h t) (by rw [h1]; exact hk)) h.own, h.sn, h.sv, h1, h.got.step hq hn hb, grow1 h.g (grown_set2 _ _ _ _ _) h.hc, h.hc⟩
theorem Way.fin {n : Nat} {Ss : List Nat} {u : Value} {w wr : World} {c k q v : Nat} {s : SV} (h : Way n Ss u w wr c k q s) (hk : k < Ss.length) (hv : v < 25) (hq : ∀ b, (Ss.getD k 0).testBit b = true → b < q) (hu : ∀ b, (Ss.getD k 0).testBit b = true → b / 2 < v) (hn : v ≤ n) (h3 : v = 0 ∨ ∃ b, (Ss.getD k 0).testBit b = true ∧ b / 2 + 1 = v) :
  Way n Ss u w ((wr.setCell ⟨c, 98 + v * 2, none⟩ (.int .u64 (lo (s.E v ||| 2 ^ k) : Int))).setCell ⟨c, 98 + v * 2 + 1, none⟩ (.int .u64 (hi (s.E v ||| 2 ^ k) : Int))) c (k + 1) 0 (setE s v (s.E v ||| 2 ^ k)) := by
 have h1 := h.ss
 rw [Nat.mul_comm v 2]
 exact ⟨Slv.setE h.sl hv (or_lt (h.sl.e v) (by rw [h1]; exact hk)) h.own, h.sn, h.sv, h1, h.got.fin hq hu hn h3, grow1 h.g (grown_set2 _ _ _ _ _) h.hc, h.hc⟩
structure Rst (n S T q e : Nat) : Prop where
 b : ∀ i, T.testBit i = (S.testBit i && decide (q ≤ i))
 lt : T < 2 ^ 48
 q48 : q ≤ 48
 e1 : ∀ i, i < q → S.testBit i = true → i / 2 < e
 en : e ≤ n
 e3 : e = 0 ∨ ∃ b, S.testBit b = true ∧ b / 2 + 1 = e
theorem Rst.next {n S T q e : Nat} (h : Rst n S T q e) (h0 : 0 < T) (hn : ∀ b, S.testBit b = true → b / 2 < n) :
  ∃ t, t = Lib.ctz 64 T ∧ t < 48 ∧ q ≤ t ∧ (∀ b, q ≤ b → b < t → S.testBit b = false) ∧ S.testBit t = true ∧ Rst n S (T &&& (T - 1)) (t + 1) (t / 2 + 1) := by
 obtain ⟨t, m, et, ht, es⟩ := srt.low h0 h.lt
 have hbt : S.testBit t = true ∧ q ≤ t := by
  have h1 := h.b t
  rw [es, srt.low_bit, if_pos (by omega), decide_eq_true rfl] at h1
  have h2 := Bool.and_eq_true_iff.1 h1.symm
  exact ⟨h2.1, of_decide_eq_true h2.2⟩
 refine ⟨t, et, ht, hbt.2, fun i h1 h2 => ?_, hbt.1, fun i => ?_, ?_, ht, fun i h1 h2 => by omega, ?_, .inr ⟨t, hbt.1, rfl⟩⟩
 ·have h3 := h.b i
  rw [es, srt.low_bit, if_pos (by omega), decide_eq_false (by omega), decide_eq_true h1, Bool.and_true] at h3
  exact h3.symm
 ·rw [srt.next_bit es, h.b i]
  by_cases h1 : t + 1 ≤ i
  ·rw [decide_eq_true h1, decide_eq_true (p := q ≤ i) (by omega), Bool.and_true]
  ·rw [decide_eq_false h1, Bool.and_false, Bool.and_false]
 ·exact Nat.lt_of_le_of_lt Nat.and_le_left h.lt
 ·have := hn t hbt.1
  omega
theorem Rst.done {n S q e : Nat} (h : Rst n S 0 q e) : (∀ b, S.testBit b = true → b < q) ∧ ∀ b, S.testBit b = true → b / 2 < e := by
 have a : ∀ b, S.testBit b = true → b < q := fun b hb => by
  have := h.b b
  rw [Nat.zero_testBit, hb, Bool.true_and] at this
  have := of_decide_eq_false this.symm
  omega
 exact ⟨a, fun b hb => h.e1 b (a b hb) hb⟩
set_option maxRecDepth 100000 in
set_option maxHeartbeats 8000000 in
theorem solverOf (v : Value) (n : Nat) (LL : List (List Int)) (w : World) (hT : Tab w) (h24 : n ≤ 24) (hm : LL.length ≤ 120) (ht : tot LL ≤ 1048576) (hl : ∀ c ∈ LL, ∀ x ∈ c, ok.litIn (n : Int) x = true) (hv : Sls w v LL) :
  Calls Tryz.prog 125 #[.agg #[.int .i64 (n : Int), v]] w fun e w' => ∃ c s, e = .returned (.pointer (some ⟨c, 0, none⟩)) ∧ Sof n LL w w' c s := by
 have gA := World.grownBy_alloc w (.cells #[.int .i64 (n : Int), v] 26) none
 have CS := hide (fun (w1 : World) (g : w.grownBy w1 none) => su.setsOf v LL w1 ht (hv.kept g))
 have HT := hide hT
 obtain ⟨va, vc, rfl, _⟩ := hv
 have GX := hide (grown_trans (r := none) gA (cf.grown_drew (w.alloc (.cells #[.int .i64 (n : Int), .slice va LL.length vc] 26)) none))
 clear hT
 go_enter Tryz.func125, Tryz.ntmps125
 go_wp2_with fail
 have q0 : (w.alloc (.cells #[.int .i64 (n : Int), .slice va LL.length vc] 26)).cell? ⟨w.heap.size, 0, none⟩ = some (.int .i64 (n : Int)) := by simp
 have q1 : (w.alloc (.cells #[.int .i64 (n : Int), .slice va LL.length vc] 26)).cell? ⟨w.heap.size, 1, none⟩ = some (.slice va LL.length vc) := by simp
 go_region_held3 (fun w' => w'.cell? ⟨w.heap.size, 0, none⟩ = some (.int .i64 (n : Int)) ∧ w'.cell? ⟨w.heap.size, 1, none⟩ = some (.slice va LL.length vc)) (go_keep) (first | (go_at_call 165; refine (unhide CS _ (unhide GX)).mono ?_; rintro e w1 ⟨u, rfl, m1⟩; obtain ⟨ua, uc, rfl⟩ := row_form m1.1; have M1 := hide m1; have c2 := m1.2.cell q0 (fun e => by cases e); have c3 := m1.2.cell q1 (fun e => by cases e); clear m1))
 have wy : Way n (LL.map setOf) (.slice ua LL.length uc) w (w1.alloc (.cells ((Tryz.zeroCells191.setIfInBounds 0 (.int .i64 (n : Int))).setIfInBounds 1 (.slice ua LL.length uc)) 191)) w1.heap.size 0 0 (zeroSV n (.slice ua LL.length uc) (LL.map setOf)) := by
  have m := unhide M1
  have e : (LL.map setOf).length = LL.length := List.length_map ..
  rw [e] at m
  refine Way.start (by rw [e]; exact hm) (grown_trans (unhide GX) m.2) ?_ rfl
  rw [e]
  exact css.own_mono (by have := m.1; rw [e] at this; exact this) (unhide GX).size
 generalize hcW : w1.heap.size = c at *
 generalize hW0 : w1.alloc (.cells ((Tryz.zeroCells191.setIfInBounds 0 (.int .i64 (n : Int))).setIfInBounds 1 (.slice ua LL.length uc)) 191) = W0 at *
 clear hcW hW0 M1 c2 c3 q0 q1 gA GX CS
 have x1 : W0.cell? ⟨c, 1, none⟩ = some (.slice ua LL.length uc) := wy.sl.cell (k := 1) (by decide)
 have st := hide wy
 clear wy
 have HL : Hid (∀ k, k < LL.length → ∀ b, ((LL.map setOf).getD k 0).testBit b = true → b / 2 < n) := by
  intro k hk b hb
  have e : (LL.map setOf).getD k 0 = setOf LL[k] := by simp [hk]
  rw [e] at hb
  obtain ⟨x, hx, ho, rfl⟩ := km.set_lit hb
  exact km.place_div h24 (hl _ (List.getElem_mem hk) x hx)
 have HS : Hid (∀ k, k < LL.length → (LL.map setOf).getD k 0 < 2 ^ 48) := by
  intro k hk
  have e : (LL.map setOf).getD k 0 = setOf LL[k] := by simp [hk]
  rw [e]
  exact setOf_lt _
 have HR := hide (fun (wr : World) (s : SV) (h : Way n (LL.map setOf) (.slice ua LL.length uc) w wr c LL.length 0 s) => (⟨h.sl, Got.right (LL := LL) h24 h.sn h.ss (by have g := h.got; rw [← h.ss] at g; rw [h.ss, List.length_map, ← h.ss]; exact g) hl, h.g⟩ : Sof n LL w wr c s))
 have HLE : Hid ((LL.map setOf).length = LL.length) := List.length_map ..
 clear hl ht
 generalize LL.map setOf = Ss at *
 go_wp2_with fail
 clear x1
 go_loopw [20] (fun iv wr => ∃ (k : Nat) (s : SV), k ≤ LL.length ∧ iv = .int .i64 (k : Int) ∧ Hid (Way n Ss (.slice ua LL.length uc) w wr c k 0 s)) (fun iv _ => LL.length - (intOf iv).toNat)
 case atStart => exact ⟨0, _, Nat.zero_le _, rfl, st⟩
 case round =>
  obtain ⟨k, s, hk, rfl, hw⟩ := hrel
  clear st
  by_cases hlt : k < LL.length
  ·have ww := unhide hw
   have e1 := ww.ss
   have e2 := unhide HLE
   obtain ⟨g, cap, hV, hcl⟩ := kd.row_at ww.sl (i := k) (by rw [e1, e2]; exact hlt)
   rw [ww.sv] at hV
   rw [Value.slice.injEq] at hV
   obtain ⟨rfl, hz, rfl⟩ := hV
   clear hz
   rw [e1] at hcl
   have hi' : (k : Int) < (LL.length : Int) := by omega
   have hSl := unhide HS k hlt
   have hSn := unhide HL k hlt
   have hkS : k < Ss.length := by rw [e2]; exact hlt
   have r0 : Hid (Rst n (Ss.getD k 0) (Ss.getD k 0) 0 0) := ⟨fun i => by simp, hSl, by omega, fun i h => by omega, Nat.zero_le _, .inl rfl⟩
   have HSN := hide hSn
   clear hSn ww e1 e2
   generalize hS : Ss.getD k 0 = S at *
   go_wp2_with fail
   go_loopw [5, 6] (fun cv ev w2 => ∃ (T q e : Nat) (s2 : SV), cv = .int .u64 (T : Int) ∧ ev = .int .i64 (e : Int) ∧ Hid (Rst n S T q e) ∧ Hid (Way n Ss (.slice (some ⟨g, 0, none⟩) LL.length uc) w w2 c k q s2)) (fun cv _ _ => (intOf cv).toNat)
   case atStart => exact ⟨S, 0, 0, s, rfl, rfl, r0, hw⟩
   case round =>
    obtain ⟨T, q, e, s2, rfl, rfl, hr, hw2⟩ := hrel
    clear r0 hcl hw
    by_cases h0 : T = 0
    ·subst h0
     have rr := unhide hr
     have w2' := unhide hw2
     have he : e < 25 := by have := rr.en; omega
     have hc0 := w2'.sl.cell (k := 98 + e * 2) (by omega)
     have hc1 := w2'.sl.cell (k := 98 + e * 2 + 1) (by omega)
     rw [Nat.mul_comm, atE0 _ he] at hc0
     rw [Nat.mul_comm, atE1 _ he] at hc1
     rw [Nat.mul_comm] at hc0 hc1
     have hf0 := Slv.fz w2'.sl (98 + e * 2)
     have hf1 := Slv.fz w2'.sl (98 + e * 2 + 1)
     have hElt := kd.lt128 (w2'.sl.e e) w2'.sl.m
     have FIN := hide (fun (w3 : World) (gg : wr.grownBy w3 none) => (w2'.kept gg).fin hkS he (by rw [hS]; exact rr.done.1) (by rw [hS]; exact rr.done.2) rr.en (by rw [hS]; exact rr.e3))
     have CK := hide (fun (w3 : World) (gg : wr.grownBy w3 none) => And.intro (gg.cell hc0 (fun e => by cases e)) (And.intro (gg.cell hc1 (fun e => by cases e)) (And.intro (Slv.fz (w2'.kept gg).sl (98 + e * 2)) (Slv.fz (w2'.kept gg).sl (98 + e * 2 + 1)))))
     have CW := hide (fun w3 => kc.with_ (s2.E e) k w3 hElt (by omega))
     have hei : (e : Int) < 25 := by omega
     unfold kc.cset at CW
     clear rr w2'
     go_wp2_with fail
     have GX := hide (cf.grown_drew wr none)
     go_region_with (first
      | (go_at_call 167; refine (unhide CW _).mono ?_; rintro e w8 ⟨rfl, g8⟩; replace GX := hide (grown_trans (r := none) (unhide GX) g8); obtain ⟨k1, k2, k3, k4⟩ := unhide CK _ (unhide GX); have F8 := hide (unhide FIN _ (unhide GX)); clear g8))
     all_goals
      go_wp2_with fail
      go_roundw
      case rel => exact ⟨k + 1, _, by omega, by go_num, unhide F8⟩
      case measure => simp [intOf]; omega
    ·have rr := unhide hr
     have w2' := unhide hw2
     obtain ⟨t, et, ht, hqt, hnb, hbt, hnx⟩ := rr.next (by omega) (unhide HSN)
     have cfi := srt.first T wr ((unhide HT).kept w2'.g) (by omega) rr.lt
     unfold fstI at cfi
     rw [← et] at cfi
     obtain ⟨l1, l2, l3⟩ := lit_place ht
     have lb := srt.litI_bd t ht
     have CP := (fun w3 => bset.placeC (litI t) w3 l1)
     rw [l2] at CP
     have CV := (fun w3 => lits.litVariable (litI t) w3 lb.1 lb.2)
     rw [l3] at CV
     have hc0 := w2'.sl.cell (k := 2 + t * 2) (by omega)
     have hc1 := w2'.sl.cell (k := 2 + t * 2 + 1) (by omega)
     rw [Nat.mul_comm, atH0 _ ht] at hc0
     rw [Nat.mul_comm, atH1 _ ht] at hc1
     rw [Nat.mul_comm] at hc0 hc1
     have hHlt := kd.lt128 (w2'.sl.h t) w2'.sl.m
     have FIN := hide (fun (w3 : World) (gg : wr.grownBy w3 none) => (w2'.kept gg).put hkS ht hqt (by rw [hS]; exact hnb) (by rw [hS]; exact hbt))
     have CK := hide (fun (w3 : World) (gg : wr.grownBy w3 none) => And.intro (gg.cell hc0 (fun e => by cases e)) (And.intro (gg.cell hc1 (fun e => by cases e)) (And.intro (Slv.fz (w2'.kept gg).sl (2 + t * 2)) (Slv.fz (w2'.kept gg).sl (2 + t * 2 + 1)))))
     have CW := hide (fun w3 => kc.with_ (s2.H t) k w3 hHlt (by omega))
     unfold kc.cset at CW
     have hti : (t : Int) < 48 := by omega
     have EA := hide (srt.and_pred T (by omega) rr.lt)
     have NS := hide (srt.next_lt (s := T) (by omega))
     have hne : ((T : Int) != 0) = true := by simp; omega
     have hT1 : 1 ≤ T := by omega
     have CF := hide cfi
     have CP' := hide (fun w3 => toGrown (CP w3))
     have CV' := hide CV
     have HNX := hide hnx
     have hT64 : (T : Int) < 18446744073709551616 := by have := rr.lt; omega
     clear cfi CP CV hnx hbt hnb l1 l2 l3 lb rr w2' et h0 hqt hr
     generalize litI t = y at *
     go_wp2_with fail
     refine (unhide CF).mono ?_
     rintro e w3 ⟨rfl, hw⟩
     have hw' := hw.symm
     clear hw
     subst hw'
     go_wp2_with fail
     have GX := hide (cf.grown_drew wr none)
     go_region_with (first
      | (go_at_call 155; refine (unhide CP' _).mono ?_; rintro e w8 ⟨rfl, g8⟩; replace GX := hide (grown_trans (r := none) (unhide GX) g8); obtain ⟨k1, k2, k3, k4⟩ := unhide CK _ (unhide GX); clear g8)
      | (go_at_call 167; refine (unhide CW _).mono ?_; rintro e w8 ⟨rfl, g8⟩; replace GX := hide (grown_trans (r := none) (unhide GX) g8); obtain ⟨k1, k2, k3, k4⟩ := unhide CK _ (unhide GX); have F8 := hide (unhide FIN _ (unhide GX)); clear g8))
     all_goals
      go_wp2_with fail
      refine (unhide CV' _).mono ?_
      rintro e w9 ⟨rfl, hw⟩
      have hw' := hw.symm
      clear hw
      subst hw'
      go_wp2_with fail
      go_roundw
      case rel => exact ⟨T &&& (T - 1), t + 1, t / 2 + 1, _, by rw [unhide EA], rfl, unhide HNX, unhide F8⟩
      case measure => rw [unhide EA]; have := unhide NS; simp [intOf]; omega
  ·have hk' : k = LL.length := by omega
   subst hk'
   have R := hide (unhide HR _ _ (unhide hw))
   clear hw HR HL HS HLE
   go_wp2_with fail
   go_ret
   exact ⟨c, s, rfl, unhide R⟩
end Go.Proofs.YtnlllcgcaddhmaaGreatDoor.ks
namespace Go.Proofs.YtnlllcgcaddhmaaGreatDoor.ks
open Go.RowKit Go.Shelf
open srt (Tab swp oppN)
open bset (placeN setOf)
open kc (cset)
open kd (SV Slv LostE lost)
open km (wdB plc Sat Conf Path left_)
open lq (holds)
open sl (hide unhide grown_refl grown_trans)
set_option linter.unusedVariables false
attribute [local go_sem] Oper.semAt_some
structure Bxs where
 s : Nat
 y : Nat
 l : Nat
 w : Nat
 f : Nat
def fnV (B : Bxs) : Value := .func (.func 209) #[] #[.pointer (some ⟨B.s, 0, none⟩), .pointer (some ⟨B.y, 0, none⟩), .pointer (some ⟨B.l, 0, none⟩), .pointer (some ⟨B.w, 0, none⟩), .pointer (some ⟨B.f, 0, none⟩)]
structure Env (W : World) (B : Bxs) (c lp : Nat) (s : SV) (Wn : Nat) (lf : Bool) : Prop where
 bs : Boxed W B.s 163 (.pointer (some ⟨c, 0, none⟩))
 by_ : Boxed W B.y 229 (.func (.yield lp) #[] #[])
 bl : Boxed W B.l 4 (.bool lf)
 bw : Boxed W B.w 153 (.int .u64 (Wn : Int))
 bf : Boxed W B.f 230 (fnV B)
 sl : Slv W c s
 tb : Tab W
theorem Env.kept {W W' : World} {B : Bxs} {c lp : Nat} {s : SV} {Wn : Nat} {lf : Bool} (h : Env W B c lp s Wn lf) (g : W.grownBy W' none) : Env W' B c lp s Wn lf :=
 ⟨h.bs.kept g (fun e => by cases e), h.by_.kept g (fun e => by cases e), h.bl.kept g (fun e => by cases e), h.bw.kept g (fun e => by cases e), h.bf.kept g (fun e => by cases e), h.sl.kept g, h.tb.below (sl.below_of g)⟩
def Kept (z c : Nat) (B : Bxs) (W W' : World) : Prop := ∀ k, (z ≤ k ∨ k = B.s ∨ k = c) → k ≠ B.l → k < W.heap.size → W'.heap[k]? = W.heap[k]?
theorem Kept.of {z c : Nat} {B : Bxs} {W W' W2 : World} (g : W.grownBy W' none) (h : Kept z c B W' W2) : Kept z c B W W2 :=
 fun k h1 h2 h3 => (h k h1 h2 (Nat.lt_of_lt_of_le h3 g.size)).trans (g.block k h3 (fun e => by cases e))
def SrchE (W : World) (z c : Nat) (n : Nat) (LL : List (List Int)) (a pre : List Int) (B : Bxs) (Jx : List Int → World → Prop) (e : Ending) (W' : World) : Prop :=
 ∃ r : Nat, r < 2 ^ 48 ∧ e = .returned (.int .u64 (r : Int)) ∧
  ((left_ n LL a pre = none ∧ Conf n (LL.map setOf) (setOf a) r pre ∧ W.grownBy W' none) ∨ (∃ l, left_ n LL a pre = some l ∧ Jx (pre ++ l) W' ∧ Boxed W' B.l 4 (.bool true) ∧ Kept z c B W W'))
theorem conf_at {n : Nat} {LL : List (List Int)} {pre : List Int} {s : SV} {X i W : Nat} (h : Right n LL s) (hP : Path n (LL.map setOf) W s.E pre) (hX : Closed s.Ss pre X) (hi : i < s.Ss.length) (h1 : (s.E pre.length).testBit i = true) (h2 : X.testBit i = false) : Conf n (LL.map setOf) W (s.Ss.getD i 0) pre := by
 have hm : s.Ss.getD i 0 ∈ LL.map setOf := by
  rw [← h.ss, show s.Ss.getD i 0 = s.Ss[i] by simp [hi]]
  exact List.getElem_mem hi
 refine km.conf_lost hP.bit hm (h.e1 _ i h1) (fun b hb => ?_)
 cases q : wdB pre b with
 | false => rfl
 | true =>
  have := (hX.2 i).2 ⟨hi, b, hb, q⟩
  rw [h2] at this
  cases this
theorem closed_at {n : Nat} {LL : List (List Int)} {pre : List Int} {s : SV} {X : Nat} (h : Right n LL s) (hX : Closed s.Ss pre X) (hc : ∀ i, (s.E pre.length).testBit i = true → X.testBit i = true) : ∀ i, (s.E pre.length).testBit i = true → ∃ b, ((LL.map setOf).getD i 0).testBit b = true ∧ wdB pre b = true := by
 intro i hi
 rw [← h.ss]
 exact ((hX.2 i).1 (hc i hi)).2
theorem end_at {n : Nat} {LL : List (List Int)} {a pre : List Int} {s : SV} (h : Right n LL s) (hP : Path n (LL.map setOf) (setOf a) s.E pre) (hn : pre.length = n) (ha : ∀ x ∈ a, ok.litIn (n : Int) x = true) (hc : ∀ i, (s.E pre.length).testBit i = true → ∃ b, ((LL.map setOf).getD i 0).testBit b = true ∧ wdB pre b = true) : holds LL a pre = true := by
 refine (km.sat_iff ⟨hn, hP.bit⟩ h.n24 h.li ha).2 (km.path_end hP hn (fun b hb => ?_) (fun i hi => h.e2 i (by rw [h.ss]; exact hi)) (by rw [← hn]; exact hc))
 obtain ⟨x, hx, ho, rfl⟩ := km.set_lit hb
 exact km.place_div h.n24 (ha x hx)
theorem srch_none {m f : Nat} {args : Array Value} {W : World} {n : Nat} {LL : List (List Int)} {a pre : List Int} {B : Bxs} {z c : Nat} {Jx : List Int → World → Prop} (h : CallsIn Fence.wide m Tryz.prog f args W fun e W' => SrchE W z c n LL a pre B Jx e W') (hL : left_ n LL a pre = none) :
  Calls Tryz.prog f args W fun e W' => ∃ r : Nat, r < 2 ^ 48 ∧ e = .returned (.int .u64 (r : Int)) ∧ Conf n (LL.map setOf) (setOf a) r pre ∧ W.grownBy W' none := by
 refine (callsIn_wide.1 h).mono ?_
 rintro e W' ⟨r, h1, h2, ⟨_, h3, h4⟩ | ⟨l, h3, _⟩⟩
 ·exact ⟨r, h1, h2, h3, h4⟩
 ·rw [hL] at h3
  cases h3
theorem srch_some {m f : Nat} {args : Array Value} {W : World} {n : Nat} {LL : List (List Int)} {a pre l : List Int} {B : Bxs} {z c : Nat} {Jx : List Int → World → Prop} (h : CallsIn Fence.wide m Tryz.prog f args W fun e W' => SrchE W z c n LL a pre B Jx e W') (hL : left_ n LL a pre = some l) :
  Calls Tryz.prog f args W fun e W' => ∃ r : Nat, r < 2 ^ 48 ∧ e = .returned (.int .u64 (r : Int)) ∧ Jx (pre ++ l) W' ∧ Boxed W' B.l 4 (.bool true) ∧ Kept z c B W W' := by
 refine (callsIn_wide.1 h).mono ?_
 rintro e W' ⟨r, h1, h2, ⟨h3, _⟩ | ⟨l', h3, h4, h5⟩⟩
 ·rw [hL] at h3
  cases h3
 ·rw [hL] at h3
  cases h3
  exact ⟨r, h1, h2, h4, h5⟩
def Boxed2 (W : World) (b x y : Nat) : Prop := W.heap[b]? = some (.cells #[.int .u64 (x : Int), .int .u64 (y : Int)] 165 (0, 0))
theorem Boxed2.kept {W W' : World} {b x y : Nat} (h : Boxed2 W b x y) (g : W.grownBy W' none) : Boxed2 W' b x y := (g.block b (Array.getElem?_eq_some_iff.1 h).1 (fun e => by cases e)).trans h
theorem Boxed2.c0 {W : World} {b x y : Nat} (h : Boxed2 W b x y) : W.cell? ⟨b, 0, none⟩ = some (.int .u64 (x : Int)) := by simp [World.cell?, show W.heap[b]? = _ from h]
theorem Boxed2.c1 {W : World} {b x y : Nat} (h : Boxed2 W b x y) : W.cell? ⟨b, 1, none⟩ = some (.int .u64 (y : Int)) := by simp [World.cell?, show W.heap[b]? = _ from h]
theorem held {wr w' : World} {B : Bxs} {c lp b x y p : Nat} {s : SV} {Wn : Nat} {lf : Bool} (hE : Env wr B c lp s Wn lf) (hb : Boxed2 wr b x y) (hp : p < 48) (g : wr.grownBy w' none) :
  w'.cell? ⟨B.f, 0, none⟩ = some (.func (.func 209) #[] #[.pointer (some ⟨B.s, 0, none⟩), .pointer (some ⟨B.y, 0, none⟩), .pointer (some ⟨B.l, 0, none⟩), .pointer (some ⟨B.w, 0, none⟩), .pointer (some ⟨B.f, 0, none⟩)]) ∧ w'.cell? ⟨B.s, 0, none⟩ = some (.pointer (some ⟨c, 0, none⟩)) ∧ w'.cell? ⟨b, 0, none⟩ = some (.int .u64 (x : Int)) ∧ w'.cell? ⟨b, 1, none⟩ = some (.int .u64 (y : Int)) ∧ w'.cell? ⟨c, 2 + p * 2, none⟩ = some (.int .u64 (kc.lo (s.H p) : Int)) ∧ w'.cell? ⟨c, 2 + p * 2 + 1, none⟩ = some (.int .u64 (kc.hi (s.H p) : Int)) := by
 have e := hE.kept g
 have b' := hb.kept g
 have h0 := e.sl.cell (k := 2 + 2 * p) (by omega)
 have h1 := e.sl.cell (k := 2 + 2 * p + 1) (by omega)
 rw [kd.atH0 _ hp] at h0
 rw [kd.atH1 _ hp] at h1
 rw [Nat.mul_comm p 2]
 exact ⟨e.bf.cell, e.bs.cell, b'.c0, b'.c1, h0, h1⟩
theorem or_zero (d : Nat) (h : d < 2 ^ 48) : bits .or .u64 0 (d : Int) = (d : Int) := by
 have := u64_or_nat 0 d (by decide) (by omega)
 rw [Nat.zero_or] at this
 exact this
theorem wo_bit {r p : Nat} {x : Int} (h : r < 2 ^ 48) (hx : lits.okB x = true) (hp : placeN x = p) (b : Nat) : (srt.woN r x).testBit b = (r.testBit b && !decide (b = p)) := by
 rw [srt.woN_bit r x b h hx, hp]
 congr 2
 rw [Bool.eq_iff_iff, decide_eq_true_iff, decide_eq_true_iff]
 exact ⟨fun e => e.symm, fun e => e.symm⟩
theorem held_kept {wr w' : World} {B : Bxs} {c lp b x y p z : Nat} {s : SV} {Wn : Nat} {lf : Bool} (hE : Env wr B c lp s Wn lf) (hb : Boxed2 wr b x y) (hp : p < 48) (k : Kept z c B wr w') (hf : z ≤ B.f) (nf : B.f ≠ B.l) (ns : B.s ≠ B.l) (nc : c ≠ B.l) (hzb : z ≤ b) (hlb : B.l < b) :
  w'.cell? ⟨B.f, 0, none⟩ = some (.func (.func 209) #[] #[.pointer (some ⟨B.s, 0, none⟩), .pointer (some ⟨B.y, 0, none⟩), .pointer (some ⟨B.l, 0, none⟩), .pointer (some ⟨B.w, 0, none⟩), .pointer (some ⟨B.f, 0, none⟩)]) ∧ w'.cell? ⟨B.s, 0, none⟩ = some (.pointer (some ⟨c, 0, none⟩)) ∧ w'.cell? ⟨b, 0, none⟩ = some (.int .u64 (x : Int)) ∧ w'.cell? ⟨b, 1, none⟩ = some (.int .u64 (y : Int)) ∧ w'.cell? ⟨c, 2 + p * 2, none⟩ = some (.int .u64 (kc.lo (s.H p) : Int)) ∧ w'.cell? ⟨c, 2 + p * 2 + 1, none⟩ = some (.int .u64 (kc.hi (s.H p) : Int)) := by
 obtain ⟨h1, h2, h3, h4, h5, h6⟩ := held hE hb hp (grown_refl wr)
 have e1 := k B.f (.inl hf) nf hE.bf.lt
 have e2 := k B.s (.inr (.inl rfl)) ns hE.bs.lt
 have e3 := k b (.inl hzb) (by omega) (Array.getElem?_eq_some_iff.1 hb).1
 have e4 := k c (.inr (.inr rfl)) nc hE.sl.lt
 exact ⟨(World.cell?_of_block (a := ⟨B.f, 0, none⟩) e1).trans h1, (World.cell?_of_block (a := ⟨B.s, 0, none⟩) e2).trans h2, (World.cell?_of_block (a := ⟨b, 0, none⟩) e3).trans h3, (World.cell?_of_block (a := ⟨b, 1, none⟩) e3).trans h4, (World.cell?_of_block (a := ⟨c, 2 + p * 2, none⟩) e4).trans h5, (World.cell?_of_block (a := ⟨c, 2 + p * 2 + 1, none⟩) e4).trans h6⟩
def Half (n : Nat) (LL : List (List Int)) (a pre : List Int) (d : Nat) : Prop := left_ n LL a (pre ++ [0]) = none ∧
 (((setOf a).testBit (plc pre.length 1) = true ∧ d = 0) ∨ ∃ c0, Conf n (LL.map setOf) (setOf a) c0 (pre ++ [0]) ∧ ∀ b, d.testBit b = (c0.testBit b && !decide (b = plc pre.length 1)))
theorem half_skip {n : Nat} {LL : List (List Int)} {a pre : List Int} {d : Nat} (h24 : n ≤ 24) (hl : pre.length ≤ n) (hb : ∀ x ∈ pre, x = 0 ∨ x = 1) (hc : ∀ c ∈ LL, ∀ x ∈ c, ok.litIn (n : Int) x = true) (ha : ∀ x ∈ a, ok.litIn (n : Int) x = true) (h : Half n LL a pre d) (hw : (setOf a).testBit (plc pre.length 0) = true) :
  left_ n LL a pre = none ∧ Conf n (LL.map setOf) (setOf a) d pre := by
 have key : Conf n (LL.map setOf) (setOf a) d pre := by
  rcases h.2 with ⟨h1, rfl⟩ | ⟨c0, h1, h2⟩
  ·exact km.conf_zero hw h1
  ·exact km.conf_one (.inl rfl) hw h1 (fun b => by rw [h2, (km.plc_swp _).1])
 exact ⟨km.left_conf h24 hl hb hc ha key, key⟩
theorem half_both {n : Nat} {LL : List (List Int)} {a pre : List Int} {d r q : Nat} (h24 : n ≤ 24) (hl : pre.length ≤ n) (hb : ∀ x ∈ pre, x = 0 ∨ x = 1) (hc : ∀ c ∈ LL, ∀ x ∈ c, ok.litIn (n : Int) x = true) (ha : ∀ x ∈ a, ok.litIn (n : Int) x = true) (h : Half n LL a pre d) (hr : Conf n (LL.map setOf) (setOf a) r (pre ++ [1])) (hq : ∀ b, q.testBit b = (r.testBit b && !decide (b = plc pre.length 0))) :
  left_ n LL a pre = none ∧ Conf n (LL.map setOf) (setOf a) (d ||| q) pre := by
 have key : Conf n (LL.map setOf) (setOf a) (d ||| q) pre := by
  rcases h.2 with ⟨h1, rfl⟩ | ⟨c0, h1, h2⟩
  ·rw [Nat.zero_or]
   exact km.conf_one (.inr rfl) h1 hr (fun b => by rw [hq, (km.plc_swp _).2])
  ·exact km.conf_both h1 hr (fun b => by rw [Nat.testBit_or, h2, hq])
 exact ⟨km.left_conf h24 hl hb hc ha key, key⟩
theorem place1 {j : Nat} (h : j < 24) : placeN ((j : Int) + 1) = plc j 1 := by
 rw [← km.place_at h (.inr rfl)]
 rfl
theorem place0 {j : Nat} (h : j < 24) : placeN (-((j : Int) + 1)) = plc j 0 := by
 rw [← km.place_at h (.inl rfl), show as_.litAt j 0 = -((j : Int) + 1) from by unfold as_.litAt; rw [if_neg (by decide)]; omega]
set_option maxRecDepth 100000 in
set_option maxHeartbeats 4000000 in
theorem search (n : Nat) (LL : List (List Int)) (a : List Int) (s : SV) (B : Bxs) (c lp : Nat) (hR : Right n LL s) (ha : ∀ x ∈ a, ok.litIn (n : Int) x = true) (W0 : World) (Jx : List Int → World → Prop)
  (hJ : ∀ x A A', Jx x A → Below W0.heap.size A A' → Jx x A') (hl0 : W0.heap.size ≤ B.l) (hf0 : W0.heap.size ≤ B.f) (nf : B.f ≠ B.l) (ns : B.s ≠ B.l) (nc : c ≠ B.l)
  (hY : ∀ m x P W1, Word x P → holds LL a x = true → Below W0.heap.size W0 W1 → YieldAt Fence.wide m Tryz.prog lp #[.int .u64 (P : Int)] W1 fun e W' =>
   e = .returned (.bool false) ∧ Jx x W' ∧ (∀ k, (W0.heap.size ≤ k ∨ k = B.s ∨ k = c) → k < W1.heap.size → W'.heap[k]? = W1.heap[k]?)) (K : Nat) :
  ∀ (m : Nat) (pre : List Int) (P X : Nat) (W : World), n - pre.length < K → Path n (LL.map setOf) (setOf a) s.E pre → Word pre P → Closed s.Ss pre X → Below W0.heap.size W0 W → Env W B c lp s (setOf a) false →
   CallsIn Fence.wide m Tryz.prog 209 #[.int .i64 (pre.length : Int), .int .u64 (P : Int), cset X, .pointer (some ⟨B.s, 0, none⟩), .pointer (some ⟨B.y, 0, none⟩), .pointer (some ⟨B.l, 0, none⟩), .pointer (some ⟨B.w, 0, none⟩), .pointer (some ⟨B.f, 0, none⟩)] W fun e W' => SrchE W W0.heap.size c n LL a pre B Jx e W' := by
 induction K with
 | zero =>
  intro m pre P X W h
  exact absurd h (Nat.not_lt_zero _)
 | succ K ih =>
  intro m pre P X W hK hP hW hX hB hE
  have hpl := hP.len
  have hWl : B.l < W.heap.size := hE.bl.lt
  have h24 := hR.n24
  have gA := World.grownBy_alloc W (.cells #[.int .u64 (kc.lo X : Int), .int .u64 (kc.hi X : Int)] 165) none
  have eA := hE.kept gA
  have CL := hide ((callsIn_wide (n := m - 1)).2 (lost c s pre.length X _ eA.tb eA.sl (by omega) hX.1))
  have y1 := eA.bs.cell
  have EA := hide eA
  have bA : Boxed2 (W.alloc (.cells #[.int .u64 (kc.lo X : Int), .int .u64 (kc.hi X : Int)] 165)) W.heap.size (kc.lo X) (kc.hi X) := World.alloc_heap_new W _
  have BA0 := hide bA
  clear bA
  have GA := hide gA
  have IH := hide ih
  have HY := hide hY
  have HP := hide hP
  have HX := hide hX
  clear eA gA ih hY hP hX hE
  refine callsIn_of_wp Tryz.func209 rfl trivial ?_ rfl
  simp only [Tryz.ntmps209, List.size_toArray, List.length_cons, List.length_nil, Nat.reduceAdd, Nat.reduceSub, Array.replicate_succ, Array.replicate_zero, List.push_toArray, List.append_toArray, List.nil_append, List.cons_append]
  unfold cset at *
  gi_wp2_with fail
  refine ⟨trivial, (fun h => by cases h), ?_⟩
  refine (unhide CL).mono ?_
  rintro e w1 ⟨g1, ⟨i, hi1, hi2, hi3, rfl⟩ | ⟨hcl, rfl⟩⟩
  ·have hlt : s.Ss.getD i 0 < 2 ^ 48 := Right.lt hR hi1
   have CF : Hid (SrchE W W0.heap.size c n LL a pre B Jx (.returned (.int .u64 (s.Ss.getD i 0 : Int))) w1) := by
    have cf := conf_at hR (unhide HP) (unhide HX) hi1 hi2 hi3
    exact ⟨_, hlt, rfl, .inl ⟨km.left_conf h24 hpl (unhide HP).bit hR.li ha cf, cf, grown_trans (unhide GA) g1⟩⟩
   generalize s.Ss.getD i 0 = y at *
   clear CL y1 IH HY
   gi_wp2
   go_ret
   exact unhide CF
  ·have E1 := hide ((unhide EA).kept g1)
   have G1 := hide (grown_trans (r := none) (unhide GA) g1)
   have z1 := (unhide E1).bs.cell
   have z2 := (unhide E1).sl.cell (k := 0) (by decide)
   rw [kd.at0, hR.sn] at z2
   have BA := hide ((unhide BA0).kept g1)
   have HCL := hide (closed_at hR (unhide HX) hcl)
   clear CL y1 EA GA g1 hcl
   by_cases hn : pre.length = n
   ·have hnb : ((pre.length : Int) == (n : Int)) = true := by rw [hn]; simp
    have hS := end_at hR (unhide HP) hn ha (unhide HCL)
    have y3 := (unhide E1).by_.cell
    have y4 := (unhide E1).bl.cell
    have y5 := (unhide E1).bl.frozen
    obtain ⟨fn, tmps, assign, body, hy, hRd⟩ := unhide HY (m - 1) pre P w1 hW hS (hB.trans (sl.below_of (unhide G1) |>.mono hB.size))
    have HRD := hide hRd
    have LE := hide (km.left_end (LL := LL) (a := a) hn hS)
    clear hRd HY IH hn
    gi_wp2_with fail
    refine ⟨(fun h => by cases h), (unhide HRD).mono ?_⟩
    rintro e w2 ⟨rfl, hJ2, hk2⟩
    have b2 : Boxed w2 B.l 4 (.bool false) := (hk2 B.l (.inl hl0) (unhide E1).bl.lt).trans (unhide E1).bl
    have CO := hide (fun w' => (callsIn_wide (n := m - 1)).2 (srt.opposites P w' hW.1))
    have FIN : Hid (SrchE W W0.heap.size c n LL a pre B Jx (.returned (.int .u64 (oppN P : Int))) (w2.setCell ⟨B.l, 0, none⟩ (.bool true))) :=
     ⟨_, srt.oppN_lt P, rfl, .inr ⟨[], unhide LE, by rw [List.append_nil]; exact hJ _ _ _ hJ2 ((Below.refl _ w2).setCell (p := ⟨B.l, 0, none⟩) hl0 _), b2.set _, Kept.of (unhide G1) (fun k h1 h2 h3 => ((sl.grown_setCell w2 B.l 0 (.bool true)).block k (by rcases Nat.lt_or_ge k w2.heap.size with q | q; exact q; exact absurd (hk2 k h1 h3) (by rw [Array.getElem?_eq_none q, Array.getElem?_eq_getElem h3]; simp)) (fun e => h2 (Option.some.inj e))).trans (hk2 k h1 h3))⟩⟩
    have q1 := b2.cell
    have q2 := b2.frozen
    clear hJ2 hk2 HRD LE y3 y4 y5 z1 z2 b2 hy
    gi_wp2_with fail
    refine ⟨trivial, (fun h => by cases h), ?_⟩
    refine (unhide CO _).mono ?_
    rintro e w3 ⟨rfl, hw⟩
    have hw' := hw.symm
    clear hw
    subst hw'
    gi_wp2
    go_ret
    exact unhide FIN
   ·have hnb : ((pre.length : Int) == (n : Int)) = false := by rw [beq_eq_false_iff_ne]; omega
    have hlt : pre.length < n := by omega
    have i0 : ∀ (a b : Value) w, (Instr.index 232 (.agg #[a, b]) (.int .i64 0)).run Tryz.prog w = .ok a w := fun a b _ => by kernel_rfl
    have i1 : ∀ (a b : Value) w, (Instr.index 232 (.agg #[a, b]) (.int .i64 1)).run Tryz.prog w = .ok b w := fun a b _ => by kernel_rfl
    have BC : Hid (∀ wr, w1.grownBy wr none → Boxed2 wr W.heap.size (kc.lo X) (kc.hi X)) := hide (fun wr g => (unhide BA).kept g)
    clear hn HY BA
    gi_wp2_with fail
    clear z1 z2
    refine wpIn_wide.2 ?_
    go_loopw [14, 47] (fun q k wr => Hid (w1.grownBy wr none) ∧ ∃ d : Nat, q = .int .u64 (d : Int) ∧ d < 2 ^ 48 ∧ ((k = .int .i64 0 ∧ d = 0) ∨ (k = .int .i64 1 ∧ Hid (Half n LL a pre d)) ∨ (k = .int .i64 2 ∧ Hid (left_ n LL a pre = none ∧ Conf n (LL.map setOf) (setOf a) d pre)))) (fun _ k _ => 2 - (intOf k).toNat)
    case atStart => exact ⟨grown_refl _, 0, rfl, by decide, .inl ⟨rfl, rfl⟩⟩
    case round =>
     obtain ⟨hg, d, rfl, hd, ⟨rfl, rfl⟩ | ⟨rfl, hh⟩ | ⟨rfl, hh⟩⟩ := hrel
     ·have ER := hide ((unhide E1).kept (unhide hg))
      have r1 := (unhide ER).bw.cell
      have okx : lits.okB ((pre.length : Int) + 1) = true := lits.okB_iff.2 ⟨by omega, by omega, by omega⟩
      have CH := (fun w' => (bset.hasC (setOf a) ((pre.length : Int) + 1) w' (bset.setOf_lt a) okx))
      rw [show placeN ((pre.length : Int) + 1) = plc pre.length 1 from place1 (by omega)] at CH
      cases hw1 : (setOf a).testBit (plc pre.length 1)
      ·rw [hw1] at CH
       have C := hide CH
       have okn : lits.okB (-((pre.length : Int) + 1)) = true := lits.okB_iff.2 ⟨by omega, by omega, by omega⟩
       have hp0 : placeN (-((pre.length : Int) + 1)) = plc pre.length 0 := place0 (by omega)
       have hp48 : plc pre.length 0 < 48 := by unfold km.plc; simp; omega
       have hPt := km.path_snoc (unhide HP) hlt (.inl rfl) (by rw [(km.plc_swp _).1]; exact hw1) (unhide HCL)
       have hWd := word_snoc hW okn hp0
       have hCl := closed_snoc hR (unhide ER).sl.m (unhide HX) (p := plc pre.length 0) (x := 0) rfl
       have hc0 := (unhide ER).sl.cell (k := 2 + plc pre.length 0 * 2) (by omega)
       have hc1 := (unhide ER).sl.cell (k := 2 + plc pre.length 0 * 2 + 1) (by omega)
       rw [Nat.mul_comm, kd.atH0 _ hp48] at hc0
       rw [Nat.mul_comm, kd.atH1 _ hp48] at hc1
       rw [Nat.mul_comm] at hc0 hc1
       have hHlt := kd.lt128 ((unhide ER).sl.h (plc pre.length 0)) (unhide ER).sl.m
       have CI := hide (fun w5 (g : wr.grownBy w5 none) => unhide IH 0 (pre ++ [0]) _ _ w5 (by rw [List.length_append, List.length_singleton]; omega) hPt hWd hCl (hB.trans (sl.below_of (grown_trans (r := none) (grown_trans (r := none) (unhide G1) (unhide hg)) g) |>.mono hB.size)) ((unhide ER).kept g))
       have CW := hide (fun w' => toGrown (bset.withC P (-((pre.length : Int) + 1)) w' hW.1 okn))
       have CP := (fun w' => toGrown (bset.placeC (-((pre.length : Int) + 1)) w' okn))
       have CU := hide (fun w' => (kc.union X (s.H (plc pre.length 0)) w' (unhide HX).1 hHlt))
       rw [hp0] at CP
       have CQ := hide CP
       clear CP
       have r7 := (unhide ER).bf.cell
       unfold fnV at r7
       have r3 := (unhide ER).bs.cell
       have b0 := (unhide BC wr (unhide hg)).c0
       have b1 := (unhide BC wr (unhide hg)).c1
       clear CH hw1 hPt hWd hCl
       unfold cset at CU CI
       go_wp2_with fail
       refine (unhide C _).mono ?_
       rintro e w3 ⟨rfl, hw⟩
       have hw' := hw.symm
       clear hw
       subst hw'
       go_wp2_with fail
       cases hL : left_ n LL a (pre ++ [0])
       ·have CN := hide (fun w5 g => srch_none (unhide CI w5 g) hL)
        have HL := hide hL
        clear CI hL
        rw [List.length_append, List.length_singleton] at CN
        have CK := hide (fun w' (g : wr.grownBy w' none) => held (unhide ER) (unhide BC wr (unhide hg)) hp48 g)
        have GX := hide (cf.grown_drew wr none)
        have hp48i : ((plc pre.length 0 : Nat) : Int) < 48 := by omega
        generalize plc pre.length 0 = p0 at *
        go_region_held3 (fun w' => w'.cell? ⟨B.f, 0, none⟩ = some (.func (.func 209) #[] #[.pointer (some ⟨B.s, 0, none⟩), .pointer (some ⟨B.y, 0, none⟩), .pointer (some ⟨B.l, 0, none⟩), .pointer (some ⟨B.w, 0, none⟩), .pointer (some ⟨B.f, 0, none⟩)]) ∧ w'.cell? ⟨B.s, 0, none⟩ = some (.pointer (some ⟨c, 0, none⟩)) ∧ w'.cell? ⟨W.heap.size, 0, none⟩ = some (.int .u64 (kc.lo X : Int)) ∧ w'.cell? ⟨W.heap.size, 1, none⟩ = some (.int .u64 (kc.hi X : Int)) ∧ w'.cell? ⟨c, 2 + p0 * 2, none⟩ = some (.int .u64 (kc.lo (s.H p0) : Int)) ∧ w'.cell? ⟨c, 2 + p0 * 2 + 1, none⟩ = some (.int .u64 (kc.hi (s.H p0) : Int))) (go_keep) (first
         | (go_at_call 152; refine (unhide CW _).mono ?_; rintro e w8 ⟨rfl, g8⟩; replace GX := hide (grown_trans (r := none) (unhide GX) g8); obtain ⟨k1, k2, k3, k4, k5, k6⟩ := unhide CK _ (unhide GX); clear g8)
         | (go_at_call 155; refine (unhide CQ _).mono ?_; rintro e w8 ⟨rfl, g8⟩; replace GX := hide (grown_trans (r := none) (unhide GX) g8); obtain ⟨k1, k2, k3, k4, k5, k6⟩ := unhide CK _ (unhide GX); clear g8)
         | (go_at_call 158; refine (unhide CU _).mono ?_; rintro e w8 ⟨rfl, g8⟩; replace GX := hide (grown_trans (r := none) (unhide GX) g8); obtain ⟨k1, k2, k3, k4, k5, k6⟩ := unhide CK _ (unhide GX); clear g8)
         | (go_at_call 209; refine (unhide CN _ (unhide GX)).mono ?_; rintro e w8 ⟨r, hr, rfl, hcf, g8⟩; have HR := hide hr; have HCF := hide hcf; replace GX := hide (grown_trans (r := none) (unhide GX) g8); obtain ⟨k1, k2, k3, k4, k5, k6⟩ := unhide CK _ (unhide GX); clear g8 hr hcf))
        have q1 := ((unhide ER).kept (unhide GX)).bl.cell
        have CB := fun w' => bset.hasC r ((pre.length : Int) + 1) w' (unhide HR) okx
        rw [show placeN ((pre.length : Int) + 1) = plc pre.length 1 from place1 (by omega)] at CB
        have GW := hide (grown_trans (r := none) (unhide hg) (unhide GX))
        clear k1 k2 k3 k4 k5 k6
        cases hbit : r.testBit (plc pre.length 1)
        ·rw [hbit] at CB
         have C2 := hide CB
         have FIN : Hid (SrchE W W0.heap.size c n LL a pre B Jx (.returned (.int .u64 (r : Int))) w8) := by
          have cj := km.conf_jump (unhide HCF) (by rw [(km.plc_swp _).1]; exact hbit)
          exact ⟨r, unhide HR, rfl, .inl ⟨km.left_conf h24 hpl (unhide HP).bit hR.li ha cj, cj, grown_trans (unhide G1) (unhide GW)⟩⟩
         clear CB hbit
         go_wp2_with fail
         refine (unhide C2 _).mono ?_
         rintro e w9 ⟨rfl, hw⟩
         have hw' := hw.symm
         clear hw
         subst hw'
         go_wp2
         gi_wp2
         go_ret
         exact unhide FIN
        ·rw [hbit] at CB
         have C2 := hide CB
         have CO := hide (fun w' => srt.without r ((pre.length : Int) + 1) w' (unhide HR) okx)
         have EO := hide (or_zero (srt.woN r ((pre.length : Int) + 1)) (srt.woN_lt (unhide HR)))
         have HF : Hid (Half n LL a pre (srt.woN r ((pre.length : Int) + 1))) := ⟨unhide HL, .inr ⟨r, unhide HCF, fun b => wo_bit (unhide HR) okx (place1 (by omega)) b⟩⟩
         have hdl := srt.woN_lt (S := r) (x := (pre.length : Int) + 1) (unhide HR)
         clear CB hbit
         generalize srt.woN r ((pre.length : Int) + 1) = d at *
         go_wp2_with fail
         refine (unhide C2 _).mono ?_
         rintro e w9 ⟨rfl, hw⟩
         have hw' := hw.symm
         clear hw
         subst hw'
         go_wp2_with fail
         refine (unhide CO _).mono ?_
         rintro e w9 ⟨rfl, hw⟩
         have hw' := hw.symm
         clear hw
         subst hw'
         go_wp2_with fail
         go_roundw
         case rel => exact ⟨GW, d, by rw [unhide EO], hdl, .inr (.inl ⟨rfl, HF⟩)⟩
         case measure => simp [intOf]
       ·rename_i l
        have CN := hide (fun w5 g => srch_some (unhide CI w5 g) hL)
        have HL := hide hL
        clear CI hL
        rw [List.length_append, List.length_singleton] at CN
        have CK := hide (fun w' (g : wr.grownBy w' none) => held (unhide ER) (unhide BC wr (unhide hg)) hp48 g)
        have CM := hide (fun w' (k : Kept W0.heap.size c B wr w') => held_kept (unhide ER) (unhide BC wr (unhide hg)) hp48 k hf0 nf ns nc (Nat.le_trans hB.size (Nat.le_refl _)) hWl)
        have GX := hide (cf.grown_drew wr none)
        have hp48i : ((plc pre.length 0 : Nat) : Int) < 48 := by omega
        generalize plc pre.length 0 = p0 at *
        go_region_held3 (fun w' => w'.cell? ⟨B.f, 0, none⟩ = some (.func (.func 209) #[] #[.pointer (some ⟨B.s, 0, none⟩), .pointer (some ⟨B.y, 0, none⟩), .pointer (some ⟨B.l, 0, none⟩), .pointer (some ⟨B.w, 0, none⟩), .pointer (some ⟨B.f, 0, none⟩)]) ∧ w'.cell? ⟨B.s, 0, none⟩ = some (.pointer (some ⟨c, 0, none⟩)) ∧ w'.cell? ⟨W.heap.size, 0, none⟩ = some (.int .u64 (kc.lo X : Int)) ∧ w'.cell? ⟨W.heap.size, 1, none⟩ = some (.int .u64 (kc.hi X : Int)) ∧ w'.cell? ⟨c, 2 + p0 * 2, none⟩ = some (.int .u64 (kc.lo (s.H p0) : Int)) ∧ w'.cell? ⟨c, 2 + p0 * 2 + 1, none⟩ = some (.int .u64 (kc.hi (s.H p0) : Int))) (go_keep) (first
         | (go_at_call 152; refine (unhide CW _).mono ?_; rintro e w8 ⟨rfl, g8⟩; replace GX := hide (grown_trans (r := none) (unhide GX) g8); obtain ⟨k1, k2, k3, k4, k5, k6⟩ := unhide CK _ (unhide GX); clear g8)
         | (go_at_call 155; refine (unhide CQ _).mono ?_; rintro e w8 ⟨rfl, g8⟩; replace GX := hide (grown_trans (r := none) (unhide GX) g8); obtain ⟨k1, k2, k3, k4, k5, k6⟩ := unhide CK _ (unhide GX); clear g8)
         | (go_at_call 158; refine (unhide CU _).mono ?_; rintro e w8 ⟨rfl, g8⟩; replace GX := hide (grown_trans (r := none) (unhide GX) g8); obtain ⟨k1, k2, k3, k4, k5, k6⟩ := unhide CK _ (unhide GX); clear g8)
         | (go_at_call 209; refine (unhide CN _ (unhide GX)).mono ?_; rintro e w8 ⟨r, hr, rfl, hj, hbx, hkp⟩; have HR := hide hr; have HJ := hide hj; have HBX := hide hbx; have HKP := hide (Kept.of (unhide GX) hkp); obtain ⟨k1, k2, k3, k4, k5, k6⟩ := unhide CM w8 (unhide HKP); clear hr hj hbx hkp))
        have q1 := (unhide HBX).cell
        have LS := hide (km.left_step (LL := LL) (a := a) hlt)
        have FIN : Hid (SrchE W W0.heap.size c n LL a pre B Jx (.returned (.int .u64 (r : Int))) w8) := by
         refine ⟨r, unhide HR, rfl, .inr ⟨0 :: l, ?_, ?_, unhide HBX, Kept.of (grown_trans (r := none) (unhide G1) (unhide hg)) (unhide HKP)⟩⟩
         ·rw [unhide LS, unhide HL]
         ·have := unhide HJ
          rw [List.append_assoc] at this
          exact this
        go_wp2
        gi_wp2
        go_ret
        exact unhide FIN
      ·rw [hw1] at CH
       have C := hide CH
       have HF : Hid (Half n LL a pre 0) := ⟨km.left_skip h24 hlt (unhide HP).bit (.inl rfl) hR.li ha (by rw [(km.plc_swp _).1]; exact hw1), .inl ⟨hw1, rfl⟩⟩
       clear CH hw1
       go_wp2_with fail
       refine (unhide C _).mono ?_
       rintro e w3 ⟨rfl, hw⟩
       have hw' := hw.symm
       clear hw
       subst hw'
       go_wp2_with fail
       go_roundw
       case rel => exact ⟨hg, 0, rfl, by decide, .inr (.inl ⟨rfl, HF⟩)⟩
       case measure => simp [intOf]
     ·have ER := hide ((unhide E1).kept (unhide hg))
      have r1 := (unhide ER).bw.cell
      have okx : lits.okB (-((pre.length : Int) + 1)) = true := lits.okB_iff.2 ⟨by omega, by omega, by omega⟩
      have CH := (fun w' => (bset.hasC (setOf a) (-((pre.length : Int) + 1)) w' (bset.setOf_lt a) okx))
      rw [show placeN (-((pre.length : Int) + 1)) = plc pre.length 0 from place0 (by omega)] at CH
      cases hw1 : (setOf a).testBit (plc pre.length 0)
      ·rw [hw1] at CH
       have C := hide CH
       have okn : lits.okB ((pre.length : Int) + 1) = true := lits.okB_iff.2 ⟨by omega, by omega, by omega⟩
       have hp0 : placeN ((pre.length : Int) + 1) = plc pre.length 1 := place1 (by omega)
       have hp48 : plc pre.length 1 < 48 := by unfold km.plc; simp; omega
       have hPt := km.path_snoc (unhide HP) hlt (.inr rfl) (by rw [(km.plc_swp _).2]; exact hw1) (unhide HCL)
       have hWd := word_snoc hW okn hp0
       have hCl := closed_snoc hR (unhide ER).sl.m (unhide HX) (p := plc pre.length 1) (x := 1) rfl
       have hc0 := (unhide ER).sl.cell (k := 2 + plc pre.length 1 * 2) (by omega)
       have hc1 := (unhide ER).sl.cell (k := 2 + plc pre.length 1 * 2 + 1) (by omega)
       rw [Nat.mul_comm, kd.atH0 _ hp48] at hc0
       rw [Nat.mul_comm, kd.atH1 _ hp48] at hc1
       rw [Nat.mul_comm] at hc0 hc1
       have hHlt := kd.lt128 ((unhide ER).sl.h (plc pre.length 1)) (unhide ER).sl.m
       have CI := hide (fun w5 (g : wr.grownBy w5 none) => unhide IH 0 (pre ++ [1]) _ _ w5 (by rw [List.length_append, List.length_singleton]; omega) hPt hWd hCl (hB.trans (sl.below_of (grown_trans (r := none) (grown_trans (r := none) (unhide G1) (unhide hg)) g) |>.mono hB.size)) ((unhide ER).kept g))
       have CW := hide (fun w' => toGrown (bset.withC P ((pre.length : Int) + 1) w' hW.1 okn))
       have CP := (fun w' => toGrown (bset.placeC ((pre.length : Int) + 1) w' okn))
       have CU := hide (fun w' => (kc.union X (s.H (plc pre.length 1)) w' (unhide HX).1 hHlt))
       rw [hp0] at CP
       have CQ := hide CP
       clear CP
       have r7 := (unhide ER).bf.cell
       unfold fnV at r7
       have r3 := (unhide ER).bs.cell
       have b0 := (unhide BC wr (unhide hg)).c0
       have b1 := (unhide BC wr (unhide hg)).c1
       clear CH hw1 hPt hWd hCl
       unfold cset at CU CI
       go_wp2_with fail
       refine (unhide C _).mono ?_
       rintro e w3 ⟨rfl, hw⟩
       have hw' := hw.symm
       clear hw
       subst hw'
       go_wp2_with fail
       cases hL : left_ n LL a (pre ++ [1])
       ·have CN := hide (fun w5 g => srch_none (unhide CI w5 g) hL)
        have HL := hide hL
        clear CI hL
        rw [List.length_append, List.length_singleton] at CN
        have CK := hide (fun w' (g : wr.grownBy w' none) => held (unhide ER) (unhide BC wr (unhide hg)) hp48 g)
        have GX := hide (cf.grown_drew wr none)
        have hp48i : ((plc pre.length 1 : Nat) : Int) < 48 := by omega
        generalize plc pre.length 1 = p0 at *
        go_region_held3 (fun w' => w'.cell? ⟨B.f, 0, none⟩ = some (.func (.func 209) #[] #[.pointer (some ⟨B.s, 0, none⟩), .pointer (some ⟨B.y, 0, none⟩), .pointer (some ⟨B.l, 0, none⟩), .pointer (some ⟨B.w, 0, none⟩), .pointer (some ⟨B.f, 0, none⟩)]) ∧ w'.cell? ⟨B.s, 0, none⟩ = some (.pointer (some ⟨c, 0, none⟩)) ∧ w'.cell? ⟨W.heap.size, 0, none⟩ = some (.int .u64 (kc.lo X : Int)) ∧ w'.cell? ⟨W.heap.size, 1, none⟩ = some (.int .u64 (kc.hi X : Int)) ∧ w'.cell? ⟨c, 2 + p0 * 2, none⟩ = some (.int .u64 (kc.lo (s.H p0) : Int)) ∧ w'.cell? ⟨c, 2 + p0 * 2 + 1, none⟩ = some (.int .u64 (kc.hi (s.H p0) : Int))) (go_keep) (first
         | (go_at_call 152; refine (unhide CW _).mono ?_; rintro e w8 ⟨rfl, g8⟩; replace GX := hide (grown_trans (r := none) (unhide GX) g8); obtain ⟨k1, k2, k3, k4, k5, k6⟩ := unhide CK _ (unhide GX); clear g8)
         | (go_at_call 155; refine (unhide CQ _).mono ?_; rintro e w8 ⟨rfl, g8⟩; replace GX := hide (grown_trans (r := none) (unhide GX) g8); obtain ⟨k1, k2, k3, k4, k5, k6⟩ := unhide CK _ (unhide GX); clear g8)
         | (go_at_call 158; refine (unhide CU _).mono ?_; rintro e w8 ⟨rfl, g8⟩; replace GX := hide (grown_trans (r := none) (unhide GX) g8); obtain ⟨k1, k2, k3, k4, k5, k6⟩ := unhide CK _ (unhide GX); clear g8)
         | (go_at_call 209; refine (unhide CN _ (unhide GX)).mono ?_; rintro e w8 ⟨r, hr, rfl, hcf, g8⟩; have HR := hide hr; have HCF := hide hcf; replace GX := hide (grown_trans (r := none) (unhide GX) g8); obtain ⟨k1, k2, k3, k4, k5, k6⟩ := unhide CK _ (unhide GX); clear g8 hr hcf))
        have q1 := ((unhide ER).kept (unhide GX)).bl.cell
        have CB := fun w' => bset.hasC r (-((pre.length : Int) + 1)) w' (unhide HR) okx
        rw [show placeN (-((pre.length : Int) + 1)) = plc pre.length 0 from place0 (by omega)] at CB
        have GW := hide (grown_trans (r := none) (unhide hg) (unhide GX))
        clear k1 k2 k3 k4 k5 k6
        cases hbit : r.testBit (plc pre.length 0)
        ·rw [hbit] at CB
         have C2 := hide CB
         have FIN : Hid (SrchE W W0.heap.size c n LL a pre B Jx (.returned (.int .u64 (r : Int))) w8) := by
          have cj := km.conf_jump (unhide HCF) (by rw [(km.plc_swp _).2]; exact hbit)
          exact ⟨r, unhide HR, rfl, .inl ⟨km.left_conf h24 hpl (unhide HP).bit hR.li ha cj, cj, grown_trans (unhide G1) (unhide GW)⟩⟩
         clear CB hbit
         go_wp2_with fail
         refine (unhide C2 _).mono ?_
         rintro e w9 ⟨rfl, hw⟩
         have hw' := hw.symm
         clear hw
         subst hw'
         go_wp2
         gi_wp2
         go_ret
         exact unhide FIN
        ·rw [hbit] at CB
         have C2 := hide CB
         have CO := hide (fun w' => srt.without r (-((pre.length : Int) + 1)) w' (unhide HR) okx)
         have EO := hide (u64_or_nat d (srt.woN r (-((pre.length : Int) + 1))) (by omega) (by have := srt.woN_lt (S := r) (x := -((pre.length : Int) + 1)) (unhide HR); omega))
         have HF : Hid (left_ n LL a pre = none ∧ Conf n (LL.map setOf) (setOf a) (d ||| srt.woN r (-((pre.length : Int) + 1))) pre) := half_both h24 hpl (unhide HP).bit hR.li ha (unhide hh) (unhide HCF) (fun b => wo_bit (unhide HR) okx (place0 (by omega)) b)
         have hdl : d ||| srt.woN r (-((pre.length : Int) + 1)) < 2 ^ 48 := kc.or_lt hd (srt.woN_lt (unhide HR))
         clear CB hbit
         generalize srt.woN r (-((pre.length : Int) + 1)) = d2 at *
         go_wp2_with fail
         refine (unhide C2 _).mono ?_
         rintro e w9 ⟨rfl, hw⟩
         have hw' := hw.symm
         clear hw
         subst hw'
         go_wp2_with fail
         refine (unhide CO _).mono ?_
         rintro e w9 ⟨rfl, hw⟩
         have hw' := hw.symm
         clear hw
         subst hw'
         go_wp2_with fail
         go_roundw
         case rel => exact ⟨GW, d ||| d2, by rw [unhide EO], hdl, .inr (.inr ⟨rfl, HF⟩)⟩
         case measure => simp [intOf]
       ·rename_i l
        have CN := hide (fun w5 g => srch_some (unhide CI w5 g) hL)
        have HL := hide hL
        clear CI hL
        rw [List.length_append, List.length_singleton] at CN
        have CK := hide (fun w' (g : wr.grownBy w' none) => held (unhide ER) (unhide BC wr (unhide hg)) hp48 g)
        have CM := hide (fun w' (k : Kept W0.heap.size c B wr w') => held_kept (unhide ER) (unhide BC wr (unhide hg)) hp48 k hf0 nf ns nc (Nat.le_trans hB.size (Nat.le_refl _)) hWl)
        have GX := hide (cf.grown_drew wr none)
        have hp48i : ((plc pre.length 1 : Nat) : Int) < 48 := by omega
        generalize plc pre.length 1 = p0 at *
        go_region_held3 (fun w' => w'.cell? ⟨B.f, 0, none⟩ = some (.func (.func 209) #[] #[.pointer (some ⟨B.s, 0, none⟩), .pointer (some ⟨B.y, 0, none⟩), .pointer (some ⟨B.l, 0, none⟩), .pointer (some ⟨B.w, 0, none⟩), .pointer (some ⟨B.f, 0, none⟩)]) ∧ w'.cell? ⟨B.s, 0, none⟩ = some (.pointer (some ⟨c, 0, none⟩)) ∧ w'.cell? ⟨W.heap.size, 0, none⟩ = some (.int .u64 (kc.lo X : Int)) ∧ w'.cell? ⟨W.heap.size, 1, none⟩ = some (.int .u64 (kc.hi X : Int)) ∧ w'.cell? ⟨c, 2 + p0 * 2, none⟩ = some (.int .u64 (kc.lo (s.H p0) : Int)) ∧ w'.cell? ⟨c, 2 + p0 * 2 + 1, none⟩ = some (.int .u64 (kc.hi (s.H p0) : Int))) (go_keep) (first
         | (go_at_call 152; refine (unhide CW _).mono ?_; rintro e w8 ⟨rfl, g8⟩; replace GX := hide (grown_trans (r := none) (unhide GX) g8); obtain ⟨k1, k2, k3, k4, k5, k6⟩ := unhide CK _ (unhide GX); clear g8)
         | (go_at_call 155; refine (unhide CQ _).mono ?_; rintro e w8 ⟨rfl, g8⟩; replace GX := hide (grown_trans (r := none) (unhide GX) g8); obtain ⟨k1, k2, k3, k4, k5, k6⟩ := unhide CK _ (unhide GX); clear g8)
         | (go_at_call 158; refine (unhide CU _).mono ?_; rintro e w8 ⟨rfl, g8⟩; replace GX := hide (grown_trans (r := none) (unhide GX) g8); obtain ⟨k1, k2, k3, k4, k5, k6⟩ := unhide CK _ (unhide GX); clear g8)
         | (go_at_call 209; refine (unhide CN _ (unhide GX)).mono ?_; rintro e w8 ⟨r, hr, rfl, hj, hbx, hkp⟩; have HR := hide hr; have HJ := hide hj; have HBX := hide hbx; have HKP := hide (Kept.of (unhide GX) hkp); obtain ⟨k1, k2, k3, k4, k5, k6⟩ := unhide CM w8 (unhide HKP); clear hr hj hbx hkp))
        have q1 := (unhide HBX).cell
        have LS := hide (km.left_step (LL := LL) (a := a) hlt)
        have FIN : Hid (SrchE W W0.heap.size c n LL a pre B Jx (.returned (.int .u64 (r : Int))) w8) := by
         refine ⟨r, unhide HR, rfl, .inr ⟨1 :: l, ?_, ?_, unhide HBX, Kept.of (grown_trans (r := none) (unhide G1) (unhide hg)) (unhide HKP)⟩⟩
         ·rw [unhide LS, (unhide hh).1, unhide HL]
          rfl
         ·have := unhide HJ
          rw [List.append_assoc] at this
          exact this
        go_wp2
        gi_wp2
        go_ret
        exact unhide FIN
      ·rw [hw1] at CH
       have C := hide CH
       have HF : Hid (left_ n LL a pre = none ∧ Conf n (LL.map setOf) (setOf a) d pre) := half_skip h24 hpl (unhide HP).bit hR.li ha (unhide hh) hw1
       clear CH hw1
       go_wp2_with fail
       refine (unhide C _).mono ?_
       rintro e w3 ⟨rfl, hw⟩
       have hw' := hw.symm
       clear hw
       subst hw'
       go_wp2_with fail
       go_roundw
       case rel => exact ⟨hg, d, rfl, hd, .inr (.inr ⟨rfl, HF⟩)⟩
       case measure => simp [intOf]
     ·obtain ⟨hL, hC⟩ := unhide hh
      have FIN : Hid (SrchE W W0.heap.size c n LL a pre B Jx (.returned (.int .u64 (d : Int))) wr) := ⟨d, hd, rfl, .inl ⟨hL, hC, grown_trans (unhide G1) (unhide hg)⟩⟩
      clear hL hC hh
      go_wp2
      gi_wp2
      go_ret
      exact unhide FIN
end Go.Proofs.YtnlllcgcaddhmaaGreatDoor.ks
namespace Go.Proofs.YtnlllcgcaddhmaaGreatDoor.ks
open Go.RowKit Go.Shelf
open srt (Tab swp oppN)
open bset (placeN setOf)
open kc (cset)
open kd (SV Slv LostE lost)
open km (wdB plc Sat Conf Path left_)
open lq (holds)
open sl (hide unhide grown_refl grown_trans)
set_option linter.unusedVariables false
attribute [local go_sem] Oper.semAt_some
theorem path_nil (n : Nat) (Ss : List Nat) (W : Nat) (E : Nat → Nat) : Path n Ss W E [] := ⟨Nat.zero_le _, fun x hx => (by cases hx), fun b hb => (by simp [km.wdB] at hb), fun u hu => absurd hu (Nat.not_lt_zero _)⟩
theorem word_nil : Word [] 0 := ⟨by decide, fun b => by simp [km.wdB]⟩
theorem closed_nil (Ss : List Nat) : Closed Ss [] 0 := ⟨by decide, fun i => by simp [km.wdB]⟩
set_option maxRecDepth 100000 in
set_option maxHeartbeats 4000000 in
theorem iter (n : Nat) (LL : List (List Int)) (a : List Int) (s : SV) (Bs Bw c lp m : Nat) (hR : Right n LL s) (ha : ∀ x ∈ a, ok.litIn (n : Int) x = true) (W : World) (Jx : List Int → World → Prop)
  (hJ : ∀ x A A', Jx x A → Below W.heap.size A A' → Jx x A')
  (hY : ∀ m x P W1, Word x P → holds LL a x = true → Below W.heap.size W W1 → YieldAt Fence.wide m Tryz.prog lp #[.int .u64 (P : Int)] W1 fun e W' =>
   e = .returned (.bool false) ∧ Jx x W' ∧ (∀ k, (W.heap.size ≤ k ∨ k = Bs ∨ k = c) → k < W1.heap.size → W'.heap[k]? = W1.heap[k]?))
  (hs : Boxed W Bs 163 (.pointer (some ⟨c, 0, none⟩))) (hw : Boxed W Bw 153 (.int .u64 (setOf a : Int))) (hS : Slv W c s) (hT : Tab W) :
  CallsIn Fence.wide m Tryz.prog 208 #[.func (.yield lp) #[] #[], .pointer (some ⟨Bs, 0, none⟩), .pointer (some ⟨Bw, 0, none⟩)] W fun e W' => (∃ v, e = .returned v) ∧
   ((left_ n LL a [] = none ∧ W.grownBy W' none) ∨ ∃ l, left_ n LL a [] = some l ∧ Jx l W') := by
 obtain ⟨B, hBd⟩ : ∃ B : Bxs, B = ⟨Bs, W.heap.size, W.heap.size + 1, Bw, W.heap.size + 1 + 1⟩ := ⟨_, rfl⟩
 have g3 : W.grownBy (((W.alloc (.cells #[.func (.yield lp) #[] #[]] 229)).alloc (.cells #[.bool false] 4)).alloc (.cells #[fnV B] 230)) none := grown_trans (grown_trans (r := none) (World.grownBy_alloc _ _ none) (World.grownBy_alloc _ _ none)) (World.grownBy_alloc _ _ none)
 have b1 := ((Boxed.new W 229 (.func (.yield lp) #[] #[])).alloc (.cells #[.bool false] 4)).alloc (.cells #[fnV B] 230)
 have b2 := (Boxed.new (W.alloc (.cells #[.func (.yield lp) #[] #[]] 229)) 4 (.bool false)).alloc (.cells #[fnV B] 230)
 rw [World.size_alloc] at b2
 have b3 := Boxed.new ((W.alloc (.cells #[.func (.yield lp) #[] #[]] 229)).alloc (.cells #[.bool false] 4)) 230 (fnV B)
 rw [World.size_alloc, World.size_alloc] at b3
 have hE : Env (((W.alloc (.cells #[.func (.yield lp) #[] #[]] 229)).alloc (.cells #[.bool false] 4)).alloc (.cells #[fnV B] 230)) B c lp s (setOf a) false := by
  subst hBd
  exact ⟨hs.kept g3 (fun e => by cases e), b1, b2, hw.kept g3 (fun e => by cases e), b3, hS.kept g3, hT.below (sl.below_of g3)⟩
 have hsl := hs.lt
 have hcl := hS.lt
 have C := search n LL a s B c lp hR ha W Jx hJ (by rw [hBd]; show W.heap.size ≤ W.heap.size + 1; omega) (by rw [hBd]; show W.heap.size ≤ W.heap.size + 1 + 1; omega) (by rw [hBd]; show W.heap.size + 1 + 1 ≠ W.heap.size + 1; omega) (by rw [hBd]; show Bs ≠ W.heap.size + 1; omega) (by rw [hBd]; show c ≠ W.heap.size + 1; omega)
  (by rw [hBd]; exact hY) (n + 1) (m - 1) [] 0 0 _ (by show n - 0 < n + 1; omega) (path_nil _ _ _ _) word_nil (closed_nil _) (sl.below_of g3) hE
 subst hBd
 have hmf : ∀ (fn : Fn) (first cap : Array Value) (w : World), (Instr.makeFunc fn first cap).run Tryz.prog w = .ok (.func fn first cap) w := fun _ _ _ _ => rfl
 have n0 := Boxed.new ((W.alloc (.cells #[.func (.yield lp) #[] #[]] 229)).alloc (.cells #[.bool false] 4)) 230 .nilFunc
 rw [World.size_alloc, World.size_alloc] at n0
 have n1 := n0.cell
 have n2 := n0.frozen
 clear n0
 have CC := hide C
 have G3 := hide g3
 clear C hE b1 b2 b3 hY g3 hs hw hS hT
 refine callsIn_of_wp Tryz.func208 rfl trivial ?_ rfl
 simp only [Tryz.ntmps208, List.size_toArray, List.length_cons, List.length_nil, Nat.reduceAdd, Nat.reduceSub, Array.replicate_succ, Array.replicate_zero, List.push_toArray, List.append_toArray, List.nil_append, List.cons_append]
 have FIN : ∀ (e : Ending) (w5 : World), SrchE (((W.alloc (.cells #[.func (.yield lp) #[] #[]] 229)).alloc (.cells #[.bool false] 4)).alloc (.cells #[fnV ⟨Bs, W.heap.size, W.heap.size + 1, Bw, W.heap.size + 1 + 1⟩] 230)) W.heap.size c n LL a [] ⟨Bs, W.heap.size, W.heap.size + 1, Bw, W.heap.size + 1 + 1⟩ Jx e w5 →
   ∃ v, e = .returned v ∧ Hid ((left_ n LL a [] = none ∧ W.grownBy w5 none) ∨ ∃ l, left_ n LL a [] = some l ∧ Jx l w5) := by
  rintro e w5 ⟨r, hr, rfl, hh⟩
  refine ⟨_, rfl, ?_⟩
  rcases hh with ⟨h1, -, h3⟩ | ⟨l, h1, h2, -⟩
  ·exact .inl ⟨h1, grown_trans (unhide G3) h3⟩
  ·exact .inr ⟨l, h1, by simpa using h2⟩
 have FI := hide FIN
 clear FIN
 gi_wp2_with fail
 refine ⟨trivial, (fun h => by cases h), ?_⟩
 refine (unhide CC).mono ?_
 intro e w5 hse
 obtain ⟨v, rfl, FF⟩ := unhide FI e w5 hse
 clear hse
 gi_wp2
 first
  | exact end0 rfl rfl ⟨⟨_, rfl⟩, unhide FF⟩
  | (go_end0; exact ⟨⟨_, rfl⟩, unhide FF⟩)
end Go.Proofs.YtnlllcgcaddhmaaGreatDoor.ks
namespace Go.Proofs.YtnlllcgcaddhmaaGreatDoor.ks
open Go.RowKit Go.Shelf
set_option linter.unusedVariables false
theorem answers (c u : Nat) (w : World) : Calls Tryz.prog 196 #[.pointer (some ⟨c, 0, none⟩), .int .u64 (u : Int)] w fun e w' =>
  e = .returned (.func (.func 208) #[] #[.pointer (some ⟨w.heap.size, 0, none⟩), .pointer (some ⟨w.heap.size + 1, 0, none⟩)]) ∧
   w' = (w.alloc (.cells #[.pointer (some ⟨c, 0, none⟩)] 163)).alloc (.cells #[.int .u64 (u : Int)] 153) := by
 go_enter Tryz.func196, Tryz.ntmps196
 go_wp2_with fail
 go_ret
 exact ⟨rfl, by rfl⟩
end Go.Proofs.YtnlllcgcaddhmaaGreatDoor.ks
