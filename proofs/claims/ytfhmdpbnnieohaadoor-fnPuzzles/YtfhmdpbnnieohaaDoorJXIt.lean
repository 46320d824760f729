/- The iterator that trueSets answers, as a contract: it yields the words at_ m 0, at_ m 1, .. of all 2^m assignments, in this order, until a round says 'no more'; m at most 14, and the rounds keep what lay below. -/
import Derived.RangeFuncNested
import Derived.RangeFuncBound
import Derived.RangeFuncCalls
import Derived.RangeFuncLeaves
import Derived.Shelf.Abstract
import Derived.Shelf.RegionOpen
import Derived.WalkKit
import Derived.OwnWalkIn
import Derived.TacticsInMore
import Derived.LoopNIn
import Derived.LoopIn
import Derived.Laws.BitsAllLaws
import Derived.Test.YtfhmdpbnnieohaaDoorJXTs
namespace Go.Proofs.YtfhmdpbnnieohaaDoor.it
open Go.RowKit Go.Shelf
open sl (hide unhide)
open cnt (ev sp)
open at_ (at_)
set_option linter.unusedVariables false
attribute [local go_sem] Oper.semAt_some
theorem or4 (a b x y : Nat) (hx : x < 4) (hy : y < 4) : (4 * a + x) ||| (4 * b + y) = 4 * (a ||| b) + (x ||| y) := by
 have hxy : x ||| y < 4 := Nat.or_lt_two_pow (n := 2) hx hy
 apply Nat.eq_of_testBit_eq
 intro i
 rw [Nat.testBit_or, at_.bit4 a x i hx, at_.bit4 b y i hy, at_.bit4 (a ||| b) (x ||| y) i hxy]
 split
 ·rw [Nat.testBit_or]
 ·rw [Nat.testBit_or]
theorem ev_not (n : Nat) : ∀ (M j : Nat), 2 * n ≤ M → ev n &&& (2 ^ M - 1 - sp n j) = ev n - sp n j := by
 induction n with
 | zero =>
  intro M j _
  simp [cnt.ev]
 | succ n ih =>
  intro M j hM
  obtain ⟨M', rfl⟩ : ∃ M', M = M' + 2 := ⟨M - 2, by omega⟩
  have i := ih M' (j / 2) (by omega)
  have lt := cnt.ev_lt n M' (by omega)
  have sl := cnt.sp_le n (j / 2)
  have hr : j % 2 = 0 ∨ j % 2 = 1 := by omega
  simp only [cnt.sp, cnt.ev]
  rw [Nat.pow_add, show (2 : Nat) ^ 2 = 4 by rfl]
  generalize hP : 2 ^ M' = P at *
  rcases hr with r | r
  ·rw [r, show P * 4 - 1 - (4 * sp n (j / 2) + 0) = 4 * (P - 1 - sp n (j / 2)) + 3 by omega, cnt.and4 _ _ 1 3 (by decide) (by decide), i]
   show 4 * _ + 1 = _
   omega
  ·rw [r, show P * 4 - 1 - (4 * sp n (j / 2) + 1) = 4 * (P - 1 - sp n (j / 2)) + 2 by omega, cnt.and4 _ _ 1 2 (by decide) (by decide), i]
   show 4 * _ + 0 = _
   omega
theorem or_at (n : Nat) : ∀ j, sp n j ||| 2 * (ev n - sp n j) = at_ n j := by
 induction n with
 | zero => intro j; simp [cnt.sp, cnt.ev, at_.at_]
 | succ n ih =>
  intro j
  have i := ih (j / 2)
  have sl := cnt.sp_le n (j / 2)
  have hr : j % 2 = 0 ∨ j % 2 = 1 := by omega
  simp only [cnt.sp, cnt.ev, at_.at_]
  rcases hr with r | r
  ·rw [r, show 2 * (4 * ev n + 1 - (4 * sp n (j / 2) + 0)) = 4 * (2 * (ev n - sp n (j / 2))) + 2 by omega, or4 _ _ 0 2 (by decide) (by decide), i]
   rfl
  ·rw [r, show 2 * (4 * ev n + 1 - (4 * sp n (j / 2) + 1)) = 4 * (2 * (ev n - sp n (j / 2))) + 0 by omega, or4 _ _ 1 0 (by decide) (by decide), i]
   rfl
theorem sp_up (n : Nat) : ∀ j, j + 1 < 2 ^ n → sp n j < sp n (j + 1) := by
 induction n with
 | zero => intro j h; have : j + 1 < 1 := h; omega
 | succ n ih =>
  intro j h
  rw [Nat.pow_succ] at h
  simp only [cnt.sp]
  by_cases r : j % 2 = 0
  ·rw [show (j + 1) / 2 = j / 2 by omega]
   omega
  ·have := ih (j / 2) (by omega)
   rw [show (j + 1) / 2 = j / 2 + 1 by omega]
   omega
theorem word (m j : Nat) (hm : m ≤ 14) : bits .or .u64 (sp m j : Int) (IntKind.u64.wrap (bits .andNot .u64 (ev m : Int) (sp m j : Int) * 2)) = (at_ m j : Int) := by
 have h1 := cnt.sp_le m j
 have h2 := cnt.ev_lt m 28 (by omega)
 have e := ev_not m 64 j (by omega)
 rw [u64_andNot_nat _ _ (by omega) (by omega), IntKind.wrap_u64]
 have e' : ev m &&& (18446744073709551615 - sp m j) = ev m - sp m j := e
 rw [e', show ((ev m - sp m j : Nat) : Int) * 2 % 18446744073709551616 = ((2 * (ev m - sp m j) : Nat) : Int) by omega, u64_or_nat _ _ (by omega) (by omega), or_at]
theorem nextS (m j : Nat) (hm : m ≤ 14) : bits .and .u64 (IntKind.u64.wrap ((sp m j : Int) - (ev m : Int))) (ev m : Int) = (sp m (j + 1) : Int) := by
 have h1 := cnt.sp_le m j
 have h2 := cnt.ev_lt m 28 (by omega)
 have e := (cnt.step m 64 j (by omega)).1
 have h3 : ((sp m j : Int) - (ev m : Int)) % 18446744073709551616 = (((sp m j + 2 ^ 64 - ev m) % 2 ^ 64 : Nat) : Int) := by omega
 rw [IntKind.wrap_u64, h3, u64_and_nat _ _ (by omega) (by omega), e]
def Kp (Bn : Nat) (W W' : World) : Prop := W'.cell? ⟨Bn, 0, none⟩ = W.cell? ⟨Bn, 0, none⟩
theorem kp_t {Bn : Nat} {A B C : World} (h : Kp Bn A B) (k : Kp Bn B C) : Kp Bn A C := k.trans h
theorem kp_b {Bn : Nat} {w : World} (hn : Bn < w.heap.size) (W : World) (l : Nat) (o o' : Obj) (hl : w.heap.size ≤ l) (h : W.heap[l]? = some o) (_ : o.isCells = false) (_ : o.isWalk = false) : Kp Bn W (W.putObj l o') := by
 have e : (W.putObj l o').heap[Bn]? = W.heap[Bn]? := World.putObj_heap_other (by omega)
 exact World.cell?_of_block (a := ⟨Bn, 0, none⟩) e
set_option maxRecDepth 100000 in
set_option maxHeartbeats 2000000 in
theorem seq1 (F : Fence) (n : Nat) (hf : F.fn 57) (hro : F.round = none) (hn : 1 ≤ n) (l Bn m : Nat) (hm : m ≤ 14) (J Jx : List Nat → World → Prop)
  (hY : ∀ pre x W, J pre W → pre.length < 2 ^ m → YieldAt F (n - 1) Tryd.prog l #[.int .u64 (at_ m x : Int)] W fun e W' =>
   (e = .returned (.bool true) ∧ J (pre ++ [x]) W' ∧ Kp Bn W W') ∨ (e = .returned (.bool false) ∧ Jx (pre ++ [x]) W'))
  (W : World) (hBn : W.cell? ⟨Bn, 0, none⟩ = some (.int .u64 (ev m : Int))) (h0 : J [] W) :
  CallsIn F n Tryd.prog 57 #[.func (.yield l) #[] #[], .pointer (some ⟨Bn, 0, none⟩)] W fun e W' => (∃ v, e = .returned v) ∧
   ((∃ ys, ys = List.range (2 ^ m) ∧ J ys W') ∨ (∃ pre, pre <+: List.range (2 ^ m) ∧ Jx pre W')) := by
 have HY := hide hY
 clear hY
 refine callsIn_of_wp Tryd.func57 rfl hf ?_ hro
 simp only [Tryd.ntmps57, List.size_toArray, List.length_cons, List.length_nil, Nat.reduceAdd, Nat.reduceSub, Array.replicate_succ, Array.replicate_zero, List.push_toArray, List.append_toArray, List.nil_append, List.cons_append]
 gi_wp2
 gi_loopw [3] (fun s wr => ∃ j : Nat, j < 2 ^ m ∧ s = .int .u64 (sp m j : Int) ∧ wr.cell? ⟨Bn, 0, none⟩ = some (.int .u64 (ev m : Int)) ∧ Hid (J (List.range j) wr)) (fun s _ => ev m - (intOf s).toNat)
 case atStart => exact ⟨0, Nat.two_pow_pos m, by rw [cnt.sp_zero]; rfl, hBn, h0⟩
 case round =>
  obtain ⟨j, hj, rfl, hc, hJ⟩ := hrel
  obtain ⟨fn, tmps, assign, body, hy, hR⟩ := unhide HY (List.range j) j wr (unhide hJ) (by rw [List.length_range]; exact hj)
  have HW := hide (word m j hm)
  have HN := hide (nextS m j hm)
  have HR := hide hR
  clear hR h0 hBn
  gi_wp2
  rw [unhide HW, hy]
  gi_wp2
  refine (unhide HR).mono ?_
  rintro e W3 (⟨rfl, hJ3, hk3⟩ | ⟨rfl, hJx3⟩)
  ·have hq3 : W3.cell? ⟨Bn, 0, none⟩ = some (.int .u64 (ev m : Int)) := hk3.trans hc
   have e1 : List.range j ++ [j] = List.range (j + 1) := List.range_succ.symm
   rw [e1] at hJ3
   have J3 := hide hJ3
   clear hk3 hJ3 HR HW hy hc hJ HY
   by_cases hl : j + 1 < 2 ^ m
   ·have hz := cnt.sp_pos m (j + 1) (by omega) hl
    have ez : (bits .and .u64 (IntKind.u64.wrap ((sp m j : Int) - (ev m : Int))) (ev m : Int) == 0) = false := by
     rw [unhide HN, beq_eq_false_iff_ne]
     omega
    have up := sp_up m j hl
    have le := cnt.sp_le m (j + 1)
    gi_wp2
    go_roundw
    case rel => exact ⟨j + 1, hl, by rw [unhide HN], hq3, J3⟩
    case measure => simp [intOf, unhide HN]; omega
   ·have hj' : j + 1 = 2 ^ m := by omega
    have ez : (bits .and .u64 (IntKind.u64.wrap ((sp m j : Int) - (ev m : Int))) (ev m : Int) == 0) = true := by
     rw [unhide HN, hj', cnt.sp_top]
     rfl
    rw [hj'] at J3
    gi_wp2
    refine bodyPost_ret (results_none rfl _ _ _) rfl ?_
    exact ⟨⟨_, rfl⟩, .inl ⟨_, rfl, unhide J3⟩⟩
  ·have e1 : List.range j ++ [j] = List.range (j + 1) := List.range_succ.symm
   rw [e1] at hJx3
   have hpre : List.range (j + 1) <+: List.range (2 ^ m) := by
    obtain ⟨d, hd⟩ : ∃ d, 2 ^ m = j + 1 + d := ⟨2 ^ m - (j + 1), by omega⟩
    rw [hd, List.range_add (n := j + 1) (m := d)]
    exact List.prefix_append _ _
   clear HR HW hy hc hJ HY HN
   gi_wp2
   refine bodyPost_ret (results_none rfl _ _ _) rfl ?_
   exact ⟨⟨_, rfl⟩, .inr ⟨_, hpre, hJx3⟩⟩
theorem seq (F : Fence) (n : Nat) (hf : F.fn 57) (hro : F.round = none) (hn : 1 ≤ n) (Bn m : Nat) (hm : m ≤ 14) (w : World) (hB : Bn < w.heap.size) (hc : w.cell? ⟨Bn, 0, none⟩ = some (.int .u64 (ev m : Int))) :
  SeqStopsK F n Tryd.prog 57 #[.pointer (some ⟨Bn, 0, none⟩)] (fun x : Nat => #[Value.int .u64 (at_ m x : Int)]) (Kp Bn) (fun ys => ys = List.range (2 ^ m)) (fun pre => pre <+: List.range (2 ^ m)) (2 ^ m) w := fun l J Jx W hW _ _ hY h0 =>
 seq1 F n hf hro hn l Bn m hm J Jx hY W ((hW.cell (p := ⟨Bn, 0, none⟩) hB).trans hc) h0
end Go.Proofs.YtfhmdpbnnieohaaDoor.it
