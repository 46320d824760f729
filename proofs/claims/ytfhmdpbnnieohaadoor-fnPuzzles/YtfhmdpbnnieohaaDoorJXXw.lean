/- What the model's l06Walk and Refute answer; no condition but on the sizes. -/
import Derived.Test.YtfhmdpbnnieohaaDoorJXWz
import Derived.Deep.QuietTactic
import Derived.BigQuiet
import Derived.Deep.RegionHeld3
import Derived.Deep.RegionLaw
import Derived.WalkMore
import Derived.ArgAppend
import Derived.Test.YtfhmdpbnnieohaaDoorJPc
import Derived.Test.YtfhmdpbnnieohaaDoorJXFm
import Derived.Test.YtfhmdpbnnieohaaDoorJXVt
import Derived.Deep.RegionWith
import Derived.Test.YtfhmdpbnnieohaaDoorJPn
import Derived.Test.YtfhmdpbnnieohaaDoorJPs
import Derived.Test.YtfhmdpbnnieohaaDoorJXNs
import Derived.Deep.DeepCutAuto
namespace Go.Proofs.YtfhmdpbnnieohaaDoor.xw
open Go.ChangeShapes Go.WideShapes Go.ChangeAt Go.RowKit
open lits (okB okB_iff)
open bset (setOf setOf_lt placeN)
open css (Sls OwnS tot own_mono)
open cf (Box)
open ok (cnfB litIn)
open fm (freeL freeN)
open wm (frc)
open wo (Made)
open sp (negL)
open rq (nilS sub_own)
open sl (Sl Own ints hide unhide ret_int ret_bool grown_refl grown_trans grown_drewN)
set_option linter.unusedVariables false
def wlk (n : Int) (LL : List (List Int)) (m : Nat) (d : List Int) : List (List Int) × Bool :=
 match m with
 | 0 => ([], false)
 | m + 1 =>
  if (frc (LL.map setOf) 49 (setOf d) d).2 = false then ([negL d], true)
  else match freeL n LL (frc (LL.map setOf) 49 (setOf d) d).1 with
   | [] => ([], false)
   | x :: _ =>
    if (wlk n LL m (d ++ [-x])).2 = false then ([], false)
    else if (wlk n LL (m - (wlk n LL m (d ++ [-x])).1.length) (d ++ [x])).2 = false then ([], false)
    else ((wlk n LL m (d ++ [-x])).1 ++ (wlk n LL (m - (wlk n LL m (d ++ [-x])).1.length) (d ++ [x])).1 ++ [negL d], true)
theorem wlk_zero (n : Int) (LL : List (List Int)) (d : List Int) : wlk n LL 0 d = ([], false) := by rw [wlk]
theorem wlk_stop {n : Int} {LL : List (List Int)} {m : Nat} {d : List Int} (h : (frc (LL.map setOf) 49 (setOf d) d).2 = false) : wlk n LL (m + 1) d = ([negL d], true) := by
 rw [wlk, if_pos h]
theorem wlk_end {n : Int} {LL : List (List Int)} {m : Nat} {d : List Int} (h : (frc (LL.map setOf) 49 (setOf d) d).2 = true) (h0 : freeL n LL (frc (LL.map setOf) 49 (setOf d) d).1 = []) : wlk n LL (m + 1) d = ([], false) := by
 rw [wlk, if_neg (by rw [h]; simp), h0]
theorem wlk_more {n : Int} {LL : List (List Int)} {m : Nat} {d : List Int} {x : Int} {r : List Int} (h : (frc (LL.map setOf) 49 (setOf d) d).2 = true) (h0 : freeL n LL (frc (LL.map setOf) 49 (setOf d) d).1 = x :: r) :
  wlk n LL (m + 1) d = if (wlk n LL m (d ++ [-x])).2 = false then ([], false)
    else if (wlk n LL (m - (wlk n LL m (d ++ [-x])).1.length) (d ++ [x])).2 = false then ([], false)
    else ((wlk n LL m (d ++ [-x])).1 ++ (wlk n LL (m - (wlk n LL m (d ++ [-x])).1.length) (d ++ [x])).1 ++ [negL d], true) := by
 rw [wlk, if_neg (by rw [h]; simp), h0]
theorem wlk_len (n : Int) (LL : List (List Int)) : ∀ (K m : Nat) (d : List Int), m < K → (wlk n LL m d).1.length ≤ m := by
 intro K
 induction K with
 | zero => intro m d h; omega
 | succ K ih =>
  intro m d h
  cases m with
  | zero => rw [wlk_zero]; exact Nat.le_refl _
  | succ m =>
   cases hf : (frc (LL.map setOf) 49 (setOf d) d).2
   ·rw [wlk_stop hf]; simp
   ·cases h0 : freeL n LL (frc (LL.map setOf) 49 (setOf d) d).1 with
    | nil => rw [wlk_end hf h0]; simp
    | cons x r =>
     rw [wlk_more hf h0]
     have h1 := ih m (d ++ [-x]) (by omega)
     have h2 := ih (m - (wlk n LL m (d ++ [-x])).1.length) (d ++ [x]) (by omega)
     split
     ·simp
     ·split
      ·simp
      ·simp only [List.length_append, List.length_singleton]
       omega
theorem len_le (n : Int) (LL : List (List Int)) (m : Nat) (d : List Int) : (wlk n LL m d).1.length ≤ m := wlk_len n LL (m + 1) m d (Nat.lt_succ_self _)
theorem free_ok {n : Int} {LL : List (List Int)} {L r : List Int} {x : Int} (h : freeL n LL L = x :: r) : okB x = true ∧ okB (-x) = true := by
 have hx : x ∈ freeL n LL L := by rw [h]; exact List.mem_cons_self ..
 unfold fm.freeL at hx
 split at hx
 ·unfold srt.srt at hx
  rw [List.mem_map] at hx
  obtain ⟨i, hi, rfl⟩ := hx
  rw [List.mem_filter, List.mem_range] at hi
  have := (wm.litI_spec hi.1).1
  exact ⟨this, wm.opp_ok this⟩
 ·cases hx
def WalkE (w : World) (P : List (List Int) × Bool) (e : Ending) (w' : World) : Prop := ∃ r, e = .returned (.tuple #[r, .bool P.2]) ∧ OwnS w.heap.size w'.heap.size w' r P.1 ∧ w.grownBy w' none
theorem wrap_in {x : Int} (h1 : -9223372036854775808 ≤ x) (h2 : x < 9223372036854775808) : IntKind.i64.wrap x = x := by
 rw [IntKind.wrap_i64]
 omega
theorem lit_wrap {x : Int} (h : okB x = true) : IntKind.i64.wrap (-x) = -x := by
 have := okB_iff.1 h
 exact wrap_in (by omega) (by omega)
end Go.Proofs.YtfhmdpbnnieohaaDoor.xw
