/- Rows (arrays of 24 small numbers): what row.list and row.ahead answer. -/
import Derived.Test.YtnlllcgcaddhmaaJOc
import Derived.Laws.Rows
import Derived.Laws.Tables
import Derived.Test.YtnlllcgcaddhmaaJOn
import Derived.Test.YtnlllcgcaddhmaaJXLits
import Derived.WideKeyEntry
import Derived.DeepKeys4
import Derived.Deep.RegionLaw
import Derived.Deep.RegionHeld3
import Derived.Great.BuildSlice
import Derived.Laws.OwnMore
import Derived.Deep.QuietTactic
import Derived.BigQuiet
import Derived.Deep.DeepCutAuto
import Derived.Deep.RegionWith
import Derived.Deep.Cut
import Derived.Deep.Matrix
import Derived.Test.YtnlllcgcaddhmaaJXFm
namespace Go.Proofs.Ytnlllcgcaddhmaa.ro
open Go.ChangeShapes Go.WideShapes Go.ChangeAt Go.RowKit
open sl (Sl Own ints hide unhide grown_refl grown_trans grown_drewN below_of)
open wo (Made)
set_option linter.unusedVariables false
def cells8 (R : List Int) : Array Value := (R.map fun x => Value.int .i8 x).toArray
end Go.Proofs.Ytnlllcgcaddhmaa.ro
namespace Go.Proofs.Ytnlllcgcaddhmaa.ro
open Go.ChangeShapes Go.WideShapes Go.ChangeAt Go.RowKit
open sl (Sl Own ints hide unhide grown_refl grown_trans grown_drewN below_of)
open wo (Made)
open srt (srt okTo srt_yes srt_no okTo_succ litI)
set_option linter.unusedVariables false
theorem srt_half (S k : Nat) (h : okTo S k = true) : (srt S (2 * k)).length ≤ k := by
 induction k with
 | zero => exact Nat.le_refl _
 | succ k ih =>
  rw [okTo_succ, Bool.and_eq_true] at h
  have i := ih h.1
  have h2 := h.2
  rw [show 2 * (k + 1) = 2 * k + 1 + 1 by omega]
  cases h0 : S.testBit (2 * k)
  ·cases h1 : S.testBit (2 * k + 1)
   ·rw [srt_no h1, srt_no h0]; omega
   ·rw [srt_yes h1, srt_no h0, List.length_append]; simp only [List.length_cons, List.length_nil]; omega
  ·cases h1 : S.testBit (2 * k + 1)
   ·rw [srt_no h1, srt_yes h0, List.length_append]; simp only [List.length_cons, List.length_nil]; omega
   ·rw [h0, h1] at h2
    simp at h2
def pad (L : List Int) : List Int := L ++ List.replicate (24 - L.length) 0
end Go.Proofs.Ytnlllcgcaddhmaa.ro
namespace Go.Proofs.Ytnlllcgcaddhmaa.le
open Go.ChangeShapes Go.WideShapes Go.ChangeAt Go.RowKit
open sl (Sl hide unhide ret_bool grown_refl grown_trans grown_drewN below_of)
open lits (befB)
set_option linter.unusedVariables false
theorem same_hit {L M : List Int} {k : Nat} (h : k < L.length) (h' : k < M.length) (hx : ¬ L.getD k 0 = M.getD k 0) : decide (L = M) = false := by
 rw [decide_eq_false_iff_not]
 intro e
 rw [e] at hx
 exact hx rfl
theorem same_step {L M : List Int} {k : Nat} (h : k < L.length) (h' : k < M.length) (hx : L.getD k 0 = M.getD k 0) (ht : L.take k = M.take k) : L.take (k + 1) = M.take (k + 1) := by
 rw [List.take_succ_eq_append_getElem h, List.take_succ_eq_append_getElem h', ht]
 congr 2
 simpa [h, h'] using hx
set_option maxHeartbeats 800000 in
theorem l02Same (v u : Value) (L M : List Int) (w : World) (hL : L.length ≤ 1048576) (hM : M.length ≤ 1048576) (hv : Sl w v L) (hu : Sl w u M) :
  Calls Try.prog 50 #[v, u] w fun e w' => e = .returned (.bool (decide (L = M))) ∧ w.grownBy w' none := by
 obtain ⟨a, cap, rfl, ha⟩ := hv
 obtain ⟨c, cap', rfl, hc⟩ := hu
 have HA := hide ha
 have HC := hide hc
 clear ha hc
 by_cases hll : L.length = M.length
 ·have hle : ((L.length : Int) != (M.length : Int)) = false := by simp [hll]
  have HLL := hide hll
  clear hll
  go_enter Try.func50, Try.ntmps50
  go_wp2
  go_loopw [5] (fun i wr => ∃ k : Nat, k ≤ L.length ∧ i = .int .i64 k ∧ Hid (L.take k = M.take k) ∧ ∃ m, Hid (wr = w.drewN m)) (fun i _ => L.length - (intOf i).toNat)
  case atStart => exact ⟨0, Nat.zero_le _, rfl, (by show _ = _; simp), 0, rfl⟩
  case round =>
   obtain ⟨k, hk, rfl, ht, m, hg⟩ := hrel
   have hg' := unhide hg
   clear hg
   subst hg'
   have hml := unhide HLL
   by_cases hlt : k < L.length
   ·rcases unhide HA with h | ⟨b, off, rfl, hb, hcb⟩
    ·rw [h] at hlt
     simp at hlt
    rcases unhide HC with h | ⟨d, off', rfl, hd, hcd⟩
    ·rw [hml, h] at hlt
     simp at hlt
    have c1 := hcb k hlt
    have c2 := hcd k (by omega)
    have hi : (k : Int) < (L.length : Int) := by omega
    have hj : (k : Int) < (M.length : Int) := by omega
    have h1 := fun h => same_hit (L := L) (M := M) hlt (by omega) h
    have h2 := fun h => same_step (L := L) (M := M) hlt (by omega) h (unhide ht)
    clear hml hcb hcd HA HC ht hle
    generalize L.getD k 0 = x at *
    generalize M.getD k 0 = y at *
    by_cases he : x = y
    ·have HS := hide (h2 he)
     subst he
     clear h1 h2
     go_wp2
     go_quiet (fail)
     go_wp2
     go_roundw
     case rel => exact ⟨k + 1, by omega, by go_num, HS, _, rfl⟩
     case measure => simp [intOf]; omega
    ·have HS := hide (h1 he)
     have he' : (x != y) = true := by simp [he]
     clear h1 h2 he
     go_wp2
     go_quiet (fail)
     go_wp2
     go_ret
     exact ⟨ret_bool (unhide HS).symm, grown_trans (grown_drewN w m) (grown_drewN _ _)⟩
   ·have hi : ¬ (k : Int) < (L.length : Int) := by omega
    have HS := hide (show decide (L = M) = true by
     have e := unhide ht
     rw [List.take_of_length_le (by omega), List.take_of_length_le (by omega)] at e
     exact decide_eq_true e)
    clear hml HA HC ht hle
    go_wp2
    go_ret
    exact ⟨ret_bool (unhide HS).symm, grown_drewN w m⟩
 ·have hle : ((L.length : Int) != (M.length : Int)) = true := by simp; omega
  have HS := hide (show decide (L = M) = false by rw [decide_eq_false_iff_not]; intro e; exact hll (by rw [e]))
  clear hll HA HC
  go_enter Try.func50, Try.ntmps50
  go_wp2
  go_ret
  exact ⟨ret_bool (unhide HS).symm, grown_refl w⟩
def lessL : List Int → List Int → Bool
 | x :: a, y :: b => if x = y then lessL a b else befB x y
 | [], b => decide (0 < b.length)
 | _ :: _, [] => false
theorem less_step (L M : List Int) (k : Nat) (h : k < L.length) (h' : k < M.length) : lessL (L.drop k) (M.drop k) = if L.getD k 0 = M.getD k 0 then lessL (L.drop (k + 1)) (M.drop (k + 1)) else befB (L.getD k 0) (M.getD k 0) := by
 rw [List.drop_eq_getElem_cons h, List.drop_eq_getElem_cons h', lessL, show L.getD k 0 = L[k] by simp [h], show M.getD k 0 = M[k] by simp [h']]
theorem less_end (L M : List Int) (k : Nat) (h : k ≤ L.length) (h' : k ≤ M.length) (he : ¬ (k < L.length ∧ k < M.length)) : lessL (L.drop k) (M.drop k) = decide (L.length < M.length) := by
 by_cases hk : k < L.length
 ·rw [List.drop_eq_getElem_cons hk, List.drop_eq_nil_of_le (show M.length ≤ k by omega), lessL]
  exact (decide_eq_false (by omega)).symm
 ·rw [List.drop_eq_nil_of_le (show L.length ≤ k by omega), lessL, List.length_drop]
  have e : (0 < M.length - k) = (L.length < M.length) := propext ⟨fun _ => by omega, fun _ => by omega⟩
  simp only [e]
set_option maxHeartbeats 800000 in
theorem l02Less (v u : Value) (L M : List Int) (w : World) (hL : L.length ≤ 1048576) (hM : M.length ≤ 1048576) (hv : Sl w v L) (hu : Sl w u M) :
  Calls Try.prog 49 #[v, u] w fun e w' => e = .returned (.bool (lessL L M)) ∧ w.grownBy w' none := by
 obtain ⟨a, cap, rfl, ha⟩ := hv
 obtain ⟨c, cap', rfl, hc⟩ := hu
 have HA := hide ha
 have HC := hide hc
 clear ha hc
 go_enter Try.func49, Try.ntmps49
 go_wp2
 go_loopw [5] (fun i wr => ∃ k : Nat, k ≤ L.length ∧ k ≤ M.length ∧ i = .int .i64 k ∧ Hid (lessL L M = lessL (L.drop k) (M.drop k)) ∧ ∃ m, Hid (wr = w.drewN m)) (fun i _ => L.length - (intOf i).toNat)
 case atStart => exact ⟨0, Nat.zero_le _, Nat.zero_le _, rfl, rfl, 0, rfl⟩
 case round =>
  obtain ⟨k, hk, hk', rfl, ht, m, hg⟩ := hrel
  have hg' := unhide hg
  clear hg
  subst hg'
  by_cases hlt : k < L.length
  ·have hi : (k : Int) < (L.length : Int) := by omega
   by_cases hlt' : k < M.length
   ·rcases unhide HA with h | ⟨b, off, rfl, hb, hcb⟩
    ·rw [h] at hlt
     simp at hlt
    rcases unhide HC with h | ⟨d, off', rfl, hd, hcd⟩
    ·rw [h] at hlt'
     simp at hlt'
    have c1 := hcb k hlt
    have c2 := hcd k hlt'
    have hj : (k : Int) < (M.length : Int) := by omega
    have hst := (unhide ht).trans (less_step L M k hlt hlt')
    clear hcb hcd HA HC ht
    generalize L.getD k 0 = x at *
    generalize M.getD k 0 = y at *
    by_cases he : x = y
    ·have HS := hide (hst.trans (if_pos he))
     subst he
     clear hst
     go_wp2
     go_quiet (fail)
     go_wp2
     go_roundw
     case rel => exact ⟨k + 1, by omega, by omega, by go_num, HS, _, rfl⟩
     case measure => simp [intOf]; omega
    ·have HS := hide (hst.trans (if_neg he))
     have he' : (x != y) = true := by simp [he]
     have CB := hide (fun w' => lits.specLitBefore x y w')
     clear hst he
     go_wp2
     go_quiet (fail)
     go_wp2
     go_quiet (first | (go_at_call 70; exact (unhide CB _).mono (fun _ _ h => ⟨h.1, _, h.2⟩)))
     go_wp2
     go_ret
     exact ⟨ret_bool (unhide HS).symm, grown_trans (grown_trans (r := none) (grown_drewN w m) (grown_drewN _ _)) (grown_drewN _ _)⟩
   ·have hj : ¬ (k : Int) < (M.length : Int) := by omega
    have HS := hide ((unhide ht).trans (less_end L M k hk hk' (by omega)))
    clear HA HC ht
    go_wp2
    go_ret
    exact ⟨ret_bool (by rw [unhide HS]), grown_drewN w m⟩
  ·have hi : ¬ (k : Int) < (L.length : Int) := by omega
   have HS := hide ((unhide ht).trans (less_end L M k hk hk' (by omega)))
   clear HA HC ht
   go_wp2
   go_ret
   exact ⟨ret_bool (by rw [unhide HS]), grown_drewN w m⟩
end Go.Proofs.Ytnlllcgcaddhmaa.le
namespace Go.Proofs.Ytnlllcgcaddhmaa.cs
open lits (okB okB_iff placeI befB)
open le (lessL)
open bset (setOf)
open srt (srt litI okTo)
set_option linter.unusedVariables false
structure Ord {α : Type} (lt : α → α → Bool) (P : α → Prop) : Prop where
 irr : ∀ x, lt x x = false
 tr : ∀ x y z, P x → P y → P z → lt x y = true → lt y z = true → lt x z = true
 tot : ∀ x y, P x → P y → x ≠ y → lt x y = true ∨ lt y x = true
def at_ {α : Type} (lt : α → α → Bool) (M : List α) (c : α) : Nat := (M.takeWhile (lt · c)).length
def ins {α : Type} [DecidableEq α] (lt : α → α → Bool) (M : List α) (c : α) : List α :=
 if M[at_ lt M c]? = some c then M else M.take (at_ lt M c) ++ c :: M.drop (at_ lt M c)
theorem tk {α : Type} (lt : α → α → Bool) (M : List α) (c : α) : M.take (at_ lt M c) = M.takeWhile (lt · c) := by
 unfold at_
 induction M with
 | nil => rfl
 | cons x M ih =>
  rw [List.takeWhile_cons]
  split
  ·rw [List.length_cons, List.take_succ_cons, ih]
  ·rfl
theorem at_le {α : Type} (lt : α → α → Bool) (M : List α) (c : α) : at_ lt M c ≤ M.length := by
 unfold at_
 exact (List.takeWhile_sublist _).length_le
theorem ahead {α : Type} {lt : α → α → Bool} {M : List α} {c : α} {x : α} (h : x ∈ M.take (at_ lt M c)) : lt x c = true := by
 rw [tk] at h
 have := List.all_takeWhile (p := (lt · c)) (l := M)
 rw [List.all_eq_true] at this
 exact this x h
theorem not_ahead {α : Type} {lt : α → α → Bool} {M : List α} {c : α} {x : α} (h : M[at_ lt M c]? = some x) : lt x c = false := by
 unfold at_ at h
 induction M with
 | nil => cases h
 | cons y M ih =>
  rw [List.takeWhile_cons] at h
  split at h
  ·rw [List.length_cons, List.getElem?_cons_succ] at h
   exact ih h
  ·rename_i hy
   simp at h
   subst h
   simpa using hy
theorem at_go {α : Type} {lt : α → α → Bool} {M : List α} {c : α} {k : Nat} (h : k ≤ at_ lt M c) (hk : k < M.length) : lt M[k] c = true ↔ k + 1 ≤ at_ lt M c := by
 constructor
 ·intro e
  apply Classical.byContradiction
  intro hn
  have ek : k = at_ lt M c := by omega
  have : M[at_ lt M c]? = some M[k] := by rw [← ek]; simp [hk]
  rw [not_ahead this] at e
  cases e
 ·intro e
  apply ahead (M := M)
  rw [List.mem_take_iff_getElem]
  exact ⟨k, by have := at_le lt M c; omega, rfl⟩
theorem ins_mem {α : Type} [DecidableEq α] {lt : α → α → Bool} {M : List α} {c x : α} : x ∈ ins lt M c ↔ x ∈ M ∨ x = c := by
 unfold ins
 split
 ·rename_i h
  constructor
  ·exact .inl
  ·rintro (h' | rfl)
   ·exact h'
   ·exact List.mem_of_getElem? h
 ·have e : x ∈ M ↔ x ∈ M.take (at_ lt M c) ∨ x ∈ M.drop (at_ lt M c) := by
   rw [← List.mem_append, List.take_append_drop]
  rw [List.mem_append, List.mem_cons, e]
  constructor
  ·rintro (h | h | h)
   ·exact .inl (.inl h)
   ·exact .inr h
   ·exact .inl (.inr h)
  ·rintro ((h | h) | h)
   ·exact .inl h
   ·exact .inr (.inr h)
   ·exact .inr (.inl h)
def insAll {α : Type} [DecidableEq α] (lt : α → α → Bool) (M L : List α) : List α := L.foldl (ins lt) M
theorem insAll_mem {α : Type} [DecidableEq α] {lt : α → α → Bool} {x : α} (L : List α) : ∀ M, x ∈ insAll lt M L ↔ x ∈ M ∨ x ∈ L := by
 induction L with
 | nil => intro M; simp [insAll]
 | cons c L ih =>
  intro M
  have := ih (ins lt M c)
  unfold insAll at this ⊢
  rw [List.foldl_cons, this, ins_mem, List.mem_cons]
  constructor
  ·rintro ((h | h) | h)
   ·exact .inl h
   ·exact .inr (.inl h)
   ·exact .inr (.inr h)
  ·rintro (h | h | h)
   ·exact .inl (.inl h)
   ·exact .inl (.inr h)
   ·exact .inr h
def good (LL : List (List Int)) : List (List Int) := (LL.filter fun c => okTo (setOf c) 24).map fun c => srt (setOf c) 48
theorem good_yes {LL : List (List Int)} {k : Nat} (h : k < LL.length) (ho : okTo (setOf (LL.getD k [])) 24 = true) : good (LL.take (k + 1)) = good (LL.take k) ++ [srt (setOf (LL.getD k [])) 48] := by
 rw [List.take_succ_eq_append_getElem h]
 have e : LL.getD k [] = LL[k] := by simp [h]
 rw [e] at ho ⊢
 unfold good
 rw [List.filter_append, List.map_append, List.filter_cons, if_pos ho]
 rfl
theorem good_no {LL : List (List Int)} {k : Nat} (h : k < LL.length) (ho : okTo (setOf (LL.getD k [])) 24 = false) : good (LL.take (k + 1)) = good (LL.take k) := by
 rw [List.take_succ_eq_append_getElem h]
 have e : LL.getD k [] = LL[k] := by simp [h]
 rw [e] at ho
 unfold good
 rw [List.filter_append, List.map_append, List.filter_cons, if_neg (by rw [ho]; decide)]
 simp
theorem good_len (LL : List (List Int)) : (good LL).length ≤ LL.length := by
 unfold good
 rw [List.length_map]
 exact List.length_filter_le _ _
theorem good_24 {LL : List (List Int)} {c : List Int} (h : c ∈ good LL) : c.length ≤ 24 := by
 unfold good at h
 obtain ⟨d, hd, rfl⟩ := List.mem_map.1 h
 rw [List.mem_filter] at hd
 exact ro.srt_half _ 24 hd.2
def cnfS (LL : List (List Int)) : List (List Int) := insAll lessL [] (good LL)
theorem cnfS_step (G : List (List Int)) (c : List Int) : insAll lessL [] (G ++ [c]) = ins lessL (insAll lessL [] G) c := by
 unfold insAll
 rw [List.foldl_append]
 rfl
theorem cnfS_mem {LL : List (List Int)} {x : List Int} : x ∈ cnfS LL ↔ x ∈ good LL := by
 unfold cnfS
 rw [insAll_mem]
 simp
theorem ins_len {M : List (List Int)} {c : List Int} : (ins lessL M c).length ≤ M.length + 1 := by
 unfold ins
 split
 ·omega
 ·rw [List.length_append, List.length_cons, List.length_take, List.length_drop]
  omega
theorem insAll_len (L : List (List Int)) : ∀ M : List (List Int), (insAll lessL M L).length ≤ M.length + L.length := by
 induction L with
 | nil => intro M; exact Nat.le_refl _
 | cons c L ih =>
  intro M
  have := ih (ins lessL M c)
  have h2 := ins_len (M := M) (c := c)
  unfold insAll at this ⊢
  rw [List.foldl_cons, List.length_cons]
  omega
theorem cnfS_len (LL : List (List Int)) : (cnfS LL).length ≤ LL.length := by
 have := insAll_len (good LL) []
 have := good_len LL
 unfold cnfS
 simp at *
 omega
end Go.Proofs.Ytnlllcgcaddhmaa.cs
namespace Go.Proofs.Ytnlllcgcaddhmaa.mk
open Go.ChangeShapes Go.WideShapes Go.ChangeAt Go.RowKit Go.MapKept
open sl (hide unhide)
open ro (cells8 pad)
open lits (okB okB_iff)
set_option linter.unusedVariables false
def key (L : List Int) : Value := .agg (cells8 (pad L))
def Fine (L : List Int) : Prop := L.length ≤ 24 ∧ ∀ x ∈ L, okB x = true
structure Tells (es : Array MapEntry) (clock : Nat) (G : List (List Int)) : Prop where
 stamped : Stamped es clock
 entry : ∀ e ∈ es.toList, ∃ L ∈ G, e.key = key L ∧ e.val = .int .i64 (G.count L : Nat)
 all : ∀ L ∈ G, ∃ e ∈ es.toList, e.key = key L
 fine : ∀ L ∈ G, Fine L
end Go.Proofs.Ytnlllcgcaddhmaa.mk
namespace Go.Proofs.Ytnlllcgcaddhmaa.rws
open Go.ChangeShapes Go.WideShapes Go.ChangeAt Go.RowKit
open sl (Sl Own ints hide unhide grown_refl grown_trans grown_drewN below_of)
open css (Sls tot)
open ro (cells8 pad)
open mk (Fine Tells key)
open cs (good)
open bset (setOf)
open srt (srt okTo)
set_option linter.unusedVariables false
theorem row_kept {w w' : World} {lo n z : Nat} {t : TypeId} {v : Value} {xs : List Value} (h : w.ownsRow lo t z v n xs) (g : w.grownBy w' none) : w'.ownsRow lo t z v n xs := h.kept g (by
 cases hv : v.ownBlock
 ·exact .inl rfl
 ·exact .inr (fun e => by cases e))
end Go.Proofs.Ytnlllcgcaddhmaa.rws
namespace Go.Proofs.Ytnlllcgcaddhmaa.pio
open Go.ChangeShapes Go.WideShapes Go.ChangeAt Go.RowKit
open sl (hide unhide grown_refl grown_trans grown_drewN below_of)
open ro (cells8 pad)
open mk (Fine)
open cs (Ord)
open le (lessL)
open rws (row_kept)
set_option linter.unusedVariables false
theorem grown_wide {w w' : World} {r : Option Nat} (h : w.grownBy w' none) : w.grownBy w' r := grown_trans (grown_refl w) h
end Go.Proofs.Ytnlllcgcaddhmaa.pio
namespace Go.Proofs.Ytnlllcgcaddhmaa.cso
open Go.ChangeShapes Go.WideShapes Go.ChangeAt Go.RowKit
open sl (Sl Own ints hide unhide grown_refl grown_trans grown_drewN below_of)
open css (Sls OwnS tot)
open cf (Box)
open gr (MidF)
open ok (cnfB)
open ro (cells8 pad)
open mk (Fine)
open cs (good cnfS cnfS_len good_24 good_len)
open le (lessL)
open rws (row_kept)
set_option linter.unusedVariables false
attribute [local go_sem ↓] Go.wp_at_zero Go.wp_at_succ
def srtB (n : Int) (LL : List (List Int)) : Bool := cnfB n LL
def srtN (n : Int) (LL : List (List Int)) : Int := if cnfB n LL then n else 0
def srtR (n : Int) (LL : List (List Int)) : List (List Int) := if cnfB n LL then cnfS LL else []
theorem srt_no {n : Int} {LL : List (List Int)} (h : cnfB n LL = false) : srtN n LL = 0 ∧ srtR n LL = [] ∧ srtB n LL = false := by
 unfold srtN srtR srtB
 rw [h]
 exact ⟨rfl, rfl, rfl⟩
theorem srt_yes {n : Int} {LL : List (List Int)} (h : cnfB n LL = true) : srtN n LL = n ∧ srtR n LL = cnfS LL ∧ srtB n LL = true := by
 unfold srtN srtR srtB
 rw [h]
 exact ⟨rfl, rfl, rfl⟩
theorem ownS_nil (lo hi : Nat) (w : World) : OwnS lo hi w (.slice none 0 0) [] :=
 ⟨[], rfl, World.ownsRow_nil .., (fun k e => by cases e), (fun p hp => by cases hp), .nil⟩
def ini (w : World) (n : Int) (v : Value) : World := (w.alloc (.cells #[.int .i64 n, v] 62)).alloc (.cells #[.int .i64 0, .slice none 0 0] 62)
theorem ini_grown (w : World) (n : Int) (v : Value) : w.grownBy (ini w n v) none := grown_trans (World.grownBy_alloc _ _ _) (World.grownBy_alloc _ _ _)
theorem ini_box0 (w : World) (n : Int) (v : Value) : Box 62 (ini w n v) w.heap.size (.int .i64 n) v := (Box.new 62 w (.int .i64 n) v).kept (World.grownBy_alloc _ _ _)
theorem ini_box1 (w : World) (n : Int) (v : Value) : Box 62 (ini w n v) (w.heap.size + 1) (.int .i64 0) (.slice none 0 0) := by
 have := Box.new 62 (w.alloc (.cells #[.int .i64 n, v] 62)) (.int .i64 0) (.slice none 0 0)
 rw [World.size_alloc] at this
 exact this
theorem ret_no {fn : Func} {p u : Tmp} {a : Act} {w w1 : World} {n : Int} {LL : List (List Int)} (hb : Box 62 w1 (w.heap.size + 1) (.int .i64 0) (.slice none 0 0)) (g : w.grownBy w1 none) (h : cnfB n LL = false)
  (hr : fn.results = #[.cell p 62, .tmp u]) (hp : a.tmps.getD p undef = .pointer (some ⟨w.heap.size + 1, 0, none⟩)) (hu : a.tmps.getD u undef = .bool false) (hd : a.defers = []) :
  bodyPost Try.prog fn (fun e w' => ∃ q, e = .returned (.tuple #[.agg #[.int .i64 (srtN n LL), q], .bool (srtB n LL)]) ∧ OwnS w.heap.size w'.heap.size w' q (srtR n LL) ∧ w.grownBy w' none) Exit.ret a ((w1.setCell ⟨w.heap.size + 1, 0, none⟩ (.int .i64 0)).setCell ⟨w.heap.size + 1, 1, none⟩ (.slice none 0 0)) := by
 refine bodyPost_ret (cf.ret_box2 hr hp ((hb.set0 (.int .i64 0)).set1 (.slice none 0 0))) hd ⟨.slice none 0 0, ?_, ?_, cf.grown_set (cf.grown_set g (by omega)) (by omega)⟩
 ·rw [hu, (srt_no h).1, (srt_no h).2.2]
 ·rw [(srt_no h).2.1]
  exact ownS_nil _ _ _
theorem grown_own {w w1 w2 : World} {v : Value} {lo n z : Nat} {xs : List Value} {t : TypeId} (g : w.grownBy w1 none) (h : w1.ownsRow lo t z v n xs) (hlo : w.heap.size ≤ lo) (g1 : w1.grownBy w2 v.ownBlock) : w.grownBy w2 none :=
 ⟨g1.os.trans g.os, g1.tape.trans g.tape, g1.output.trans g.output, Nat.le_trans g.size g1.size, fun k hk _ => by
  rw [g1.block k (Nat.lt_of_lt_of_le hk g.size) (fun e => by have := (h.lt k e.symm).1; omega)]
  exact g.block k hk (fun e => by cases e)⟩
end Go.Proofs.Ytnlllcgcaddhmaa.cso
namespace Go.Proofs.Ytnlllcgcaddhmaa.cso
open Go.ChangeShapes Go.WideShapes Go.ChangeAt Go.RowKit
open sl (Sl Own ints hide unhide grown_refl grown_trans grown_drewN below_of)
open css (Sls OwnS tot own_ne' own_mono Apart)
open cf (Box)
open gr (MidF box_ne ty1)
open ok (cnfB)
open cs (ins insAll at_ at_le at_go good good_yes good_no cnfS cnfS_step insAll_len good_len)
open le (lessL)
open bset (setOf)
open srt (srt okTo)
open pio (grown_wide)
set_option linter.unusedVariables false
attribute [local go_sem ↓] Go.wp_at_zero Go.wp_at_succ
theorem apart_symm {a b : Value × List Int} (h : Apart a b) : Apart b a := fun g e e' => h g e' e
theorem outer {lo mid : Nat} {W : World} {v : Value} {M : List (List Int)} (h : OwnS lo mid W v M) : ∃ xs : List Value, xs.length = M.length ∧ W.ownsRow lo 27 1 v M.length xs ∧ (∀ x ∈ xs, x.oneCell' = true) ∧
  (∀ j, j < M.length → ∃ y, xs[j]? = some y ∧ Sl W y (M.getD j [])) ∧
  ∀ (at0 : Nat) (u : Value) (L : List Int) (w9 : World) (v9 : Value), Own mid W.heap.size W u L → lo ≤ mid → mid ≤ W.heap.size → w9.ownsRow lo 27 1 v9 (M.length + 1) (xs.take at0 ++ u :: xs.drop at0) → W.grownBy w9 v.ownBlock →
   OwnS lo w9.heap.size w9 v9 (M.take at0 ++ L :: M.drop at0) := by
 obtain ⟨D, rfl, hw, hb, hin, hp⟩ := h
 refine ⟨D.map (·.1), by simp, by rw [List.length_map]; exact hw, fun x hx => ?_, fun j hj => ?_, fun at0 u L w9 v9 hu hlo hmid h9 hg => ?_⟩
 ·obtain ⟨p, hp1, rfl⟩ := List.mem_map.1 hx
  exact gr.own_one (hin p hp1)
 ·rw [List.length_map] at hj
  refine ⟨D[j].1, by simp [hj], ?_⟩
  rw [css.map2_getD hj]
  exact (hin D[j] (List.getElem_mem hj)).sl
 ·have sz := hg.size
  have kp : ∀ (p : Value) (n : Nat) (xs : List Value), W.ownsRow lo 3 1 p n xs → w9.ownsRow lo 3 1 p n xs := fun p n xs h => h.kept hg (own_ne' hw h)
  refine ⟨D.take at0 ++ (u, L) :: D.drop at0, by simp, ?_, fun k e => (h9.lt k e).2, ?_, ?_⟩
  ·have e1 : (D.take at0 ++ (u, L) :: D.drop at0).length = D.length + 1 := by
    simp only [List.length_append, List.length_take, List.length_cons, List.length_drop]
    omega
   rw [e1]
   rw [List.length_map] at h9
   simpa using h9
  ·intro p hp'
   have hcase : p ∈ D ∨ p = (u, L) := by
    rcases List.mem_append.1 hp' with q | q
    ·exact .inl (List.mem_of_mem_take q)
    ·rcases List.mem_cons.1 q with q | q
     ·exact .inr q
     ·exact .inl (List.mem_of_mem_drop q)
   rcases hcase with q | rfl
   ·exact ⟨kp _ _ _ (hin p q).1, fun k e => by have := (hin p q).2 k e; omega⟩
   ·exact ⟨kp _ _ _ (own_mono hu.1 hlo), fun k e => by have := hu.2 k e; omega⟩
  ·have hap : ∀ p ∈ D, Apart p (u, L) := fun p hp1 k e e' => by
    have h1 := (hin p hp1).2 k e
    have h2 := (hu.1.lt k e').1
    omega
   have hs : (D.take at0 ++ D.drop at0).Pairwise Apart := by rw [List.take_append_drop]; exact hp
   obtain ⟨p1, p2, p3⟩ := List.pairwise_append.1 hs
   refine List.pairwise_append.2 ⟨p1, List.pairwise_cons.2 ⟨fun p hp1 => apart_symm (hap p (List.mem_of_mem_drop hp1)), p2⟩, fun p hp1 q hq => ?_⟩
   rcases List.mem_cons.1 hq with rfl | hq
   ·exact hap p (List.mem_of_mem_take hp1)
   ·exact p3 p hp1 q hq
theorem own_take {w : World} {lo g n cap k : Nat} {t : TypeId} {xs : List Value} (h : w.ownsRow lo t 1 (.slice (some ⟨g, 0, none⟩) n cap) n xs) (hk : k ≤ n) : w.ownsRow lo t 1 (.slice (some ⟨g, 0, none⟩) k cap) k (xs.take k) := by
 obtain ⟨hl, h2⟩ := h
 refine ⟨by rw [List.length_take]; omega, ?_⟩
 rcases h2 with ⟨e, _⟩ | ⟨g', cap', cur, e, hb, hg, hn, hm, hc, ht⟩
 ·cases e
 ·injection e with e1 e2 e3
  injection e1 with e1
  injection e1 with e1
  subst e1
  subst e3
  refine .inr ⟨g, cap, cur, rfl, hb, hg, by omega, hm, hc, ?_⟩
  rw [← ht, List.take_take]
  congr 1
  omega
theorem grown_skip {a b c : World} {r : Nat} {g : Option Nat} (h : a.grownBy b g) (k : b.grownBy c (some r)) (hr : g = some r ∨ a.heap.size ≤ r) : a.grownBy c g :=
 ⟨k.os.trans h.os, k.tape.trans h.tape, k.output.trans h.output, Nat.le_trans h.size k.size, fun j hj hne => by
  rw [k.block j (Nat.lt_of_lt_of_le hj h.size) (fun e => by
   injection e with e
   rcases hr with q | q
   ·exact hne (by rw [q, e])
   ·omega)]
  exact h.block j hj hne⟩
theorem tailA {ops : Array Oper} {rest : List Oper} {o : Oper} {a : Act} {Q : Exit → Act → World → Prop} {W : World} {lo g n cap k cc : Nat} {ad : Addr} {xs : List Value}
  (hrow : W.ownsRow lo 27 1 (.slice (some ⟨g, 0, none⟩) n cap) n xs) (hone : ∀ x ∈ xs, x.oneCell' = true) (hk : k ≤ n) (hn : n ≤ 1048576) (had : ad = ⟨g, k, none⟩ ∨ n ≤ k) (hgd : o.guard = none) (s x : Operand)
  (ho : o.op = .call { callee := .builtin .append, args := #[s, x], argTypes := #[60, 60] }) (hs : a.eval s = .slice (some ⟨W.heap.size, 0, none⟩) 0 0) (hx : a.eval x = .slice (some ad) (n - k) cc)
  (h : ∀ t ct w', w'.ownsRow W.heap.size 27 1 (.slice (some ⟨t, 0, none⟩) (n - k) ct) (n - k) (xs.drop k) → W.grownBy w' none → wpList Try.prog ops Q rest (a.put o.dst (.slice (some ⟨t, 0, none⟩) (n - k) ct)) w') :
  wpList Try.prog ops Q (o :: rest) a (W.alloc (.cells #[] 27)) := by
 obtain ⟨i0, hi, hz0, hz1, hz2⟩ := info_parts css.infoSl
 have h0 : (W.alloc (.cells #[] 27)).ownsRow W.heap.size 27 1 (.slice (some ⟨W.heap.size, 0, none⟩) 0 0) 0 [] := World.ownsRow_lit W #[] 0 (Nat.le_refl _) (Nat.zero_le _) rfl
 have hl : xs.length = n := by have := hrow.1; omega
 refine wpList_append_own _ hgd s x 60 ho W.heap.size 27 i0 (.slice none 0 0) 1 24 Try.underlying60 hi hz0 hz1 hz2 rfl (by decide) _ 0 [] hs h0 ad (n - k) cc (xs.drop k) hx (by rw [List.length_drop, hl]; omega) ?_ ?_ ?_ ?_ ?_ ?_
 ·intro j u hj
  rcases had with e | e
  ·subst e
   rw [Addr.add_mid]
   have hjl : k + j < n := by
    have := (List.getElem?_eq_some_iff.1 hj).1
    rw [List.length_drop, hl] at this
    omega
   rw [(hrow.alloc (.cells #[] 27)).cellAt (k + j) (by omega), ← hj, List.getElem?_drop]
  ·have := (List.getElem?_eq_some_iff.1 hj).1
   rw [List.length_drop, hl] at this
   omega
 ·exact fun u hu => hone u (List.mem_of_mem_drop hu)
 ·unfold maxLen
  omega
 ·omega
 ·simp
 ·intro v' w' h1 hg hnil
  rw [Nat.zero_add, List.nil_append] at h1
  rcases h1.2 with ⟨e, _⟩ | ⟨t, ct, cur, e, hr⟩
  ·have := (hnil.1 e).1
   cases this
  ·subst e
   refine h t ct w' h1 ?_
   have g0 := World.grownBy_alloc W (.cells #[] 27) none
   exact grown_skip g0 hg (.inr (Nat.le_refl _))
theorem tailN {ops : Array Oper} {rest : List Oper} {o : Oper} {a : Act} {Q : Exit → Act → World → Prop} {W : World} (hgd : o.guard = none) (s x : Operand)
  (ho : o.op = .call { callee := .builtin .append, args := #[s, x], argTypes := #[60, 60] }) (hs : a.eval s = .slice (some ⟨W.heap.size, 0, none⟩) 0 0) (hx : a.eval x = .slice none 0 0)
  (h : ∀ w', w'.ownsRow W.heap.size 27 1 (.slice (some ⟨W.heap.size, 0, none⟩) 0 0) 0 [] → W.grownBy w' none → W.heap.size < w'.heap.size → wpList Try.prog ops Q rest (a.put o.dst (.slice (some ⟨W.heap.size, 0, none⟩) 0 0)) w') : wpList Try.prog ops Q (o :: rest) a (W.alloc (.cells #[] 27)) := by
 obtain ⟨i0, hi, hz0, hz1, hz2⟩ := info_parts css.infoSl
 have h0 : (W.alloc (.cells #[] 27)).ownsRow W.heap.size 27 1 (.slice (some ⟨W.heap.size, 0, none⟩) 0 0) 0 [] := World.ownsRow_lit W #[] 0 (Nat.le_refl _) (Nat.zero_le _) rfl
 exact wpList_plain hgd fun K hK => app.wp_none s x 60 ho W.heap.size 27 i0 1 Try.underlying60 hi _ 0 [] hs h0 hx (hK _ _ (h _ h0 (World.grownBy_alloc _ _ _) (by simp)))
theorem tailZ {ops : Array Oper} {rest : List Oper} {o : Oper} {a : Act} {Q : Exit → Act → World → Prop} {W : World} {ad : Addr} {cc : Nat} (hgd : o.guard = none) (s x : Operand)
  (ho : o.op = .call { callee := .builtin .append, args := #[s, x], argTypes := #[60, 60] }) (hs : a.eval s = .slice (some ⟨W.heap.size, 0, none⟩) 0 0) (hx : a.eval x = .slice (some ad) 0 cc)
  (h : ∀ t ct w', w'.ownsRow W.heap.size 27 1 (.slice (some ⟨t, 0, none⟩) 0 ct) 0 [] → W.grownBy w' none → wpList Try.prog ops Q rest (a.put o.dst (.slice (some ⟨t, 0, none⟩) 0 ct)) w') : wpList Try.prog ops Q (o :: rest) a (W.alloc (.cells #[] 27)) := by
 obtain ⟨i0, hi, hz0, hz1, hz2⟩ := info_parts css.infoSl
 have h0 : (W.alloc (.cells #[] 27)).ownsRow W.heap.size 27 1 (.slice (some ⟨W.heap.size, 0, none⟩) 0 0) 0 [] := World.ownsRow_lit W #[] 0 (Nat.le_refl _) (Nat.zero_le _) rfl
 refine wpList_append_own _ hgd s x 60 ho W.heap.size 27 i0 (.slice none 0 0) 1 24 Try.underlying60 hi hz0 hz1 hz2 rfl (by decide) _ 0 [] hs h0 ad 0 cc [] hx rfl (fun j u hj => by simp at hj) (fun u hu => by cases hu) (by unfold maxLen; omega) (by omega) (by simp) ?_
 intro v' w' h1 hg hnil
 rcases h1.2 with ⟨e, _⟩ | ⟨t, ct, cur, e, hr⟩
 ·have := (hnil.1 e).1
  cases this
 ·subst e
  exact h t ct w' h1 (grown_skip (World.grownBy_alloc W (.cells #[] 27) none) hg (.inr (Nat.le_refl _)))
theorem headA {ops : Array Oper} {rest : List Oper} {o : Oper} {a : Act} {Q : Exit → Act → World → Prop} {W : World} {lo k : Nat} {v u : Value} {ys : List Value}
  (hrow : W.ownsRow lo 27 1 v k ys) (hu : u.oneCell' = true) (hk : k ≤ 1048576) (hlo : lo ≤ W.heap.size) (hgd : o.guard = none) (s x : Operand)
  (ho : o.op = .call { callee := .builtin .append, args := #[s, x], argTypes := #[60, 60] }) (hs : a.eval s = v) (hx : a.eval x = .slice (some ⟨W.heap.size, 0, none⟩) 1 1)
  (h : ∀ g cap w', w'.ownsRow lo 27 1 (.slice (some ⟨g, 0, none⟩) (k + 1) cap) (k + 1) (ys ++ [u]) → W.grownBy w' v.ownBlock → (v.ownBlock = some g ∨ W.heap.size ≤ g) → wpList Try.prog ops Q rest (a.put o.dst (.slice (some ⟨g, 0, none⟩) (k + 1) cap)) w') :
  wpList Try.prog ops Q (o :: rest) a (W.alloc (.cells #[u] 27)) := by
 obtain ⟨i0, hi, hz0, hz1, hz2⟩ := info_parts css.infoSl
 refine wpList_append_lies _ hgd s x 60 ho lo 27 i0 (.slice none 0 0) 1 24 Try.underlying60 hi hz0 hz1 hz2 rfl (by decide) v k ys hs (hrow.alloc _) ⟨W.heap.size, 0, none⟩ 1 1 [u] hx rfl ?_ ?_ (by decide) ?_ ?_ ?_ (W.heap.size + 1) (World.size_alloc ..) ?_
 ·intro j y hj
  match j, hj with
  | 0, hj => simp at hj; subst hj; simp [Addr.add]
 ·intro y hy
  simp at hy
  subst hy
  exact hu
 ·unfold maxLen; omega
 ·omega
 ·simp; omega
 ·intro g cap w1 h1 hg hat _
  have g0 := World.grownBy_alloc W (.cells #[u] 27) v.ownBlock
  refine h g cap w1 h1 (sl.grown_trans' g0 hg) ?_
  rcases hat with q | q
  ·exact .inl q
  ·exact .inr (by omega)
theorem joinA {ops : Array Oper} {rest : List Oper} {o : Oper} {a : Act} {Q : Exit → Act → World → Prop} {W : World} {lo lo' g k cap t m ct : Nat} {ys zs : List Value}
  (hrow : W.ownsRow lo 27 1 (.slice (some ⟨g, 0, none⟩) k cap) k ys) (htail : W.ownsRow lo' 27 1 (.slice (some ⟨t, 0, none⟩) m ct) m zs) (hone : ∀ x ∈ zs, x.oneCell' = true) (hk : k + m ≤ 2097152) (hlo : lo ≤ W.heap.size) (hgd : o.guard = none) (s x : Operand)
  (ho : o.op = .call { callee := .builtin .append, args := #[s, x], argTypes := #[60, 60] }) (hs : a.eval s = .slice (some ⟨g, 0, none⟩) k cap) (hx : a.eval x = .slice (some ⟨t, 0, none⟩) m ct)
  (h : ∀ g' cap' w', w'.ownsRow lo 27 1 (.slice (some ⟨g', 0, none⟩) (k + m) cap') (k + m) (ys ++ zs) → W.grownBy w' (some g) → wpList Try.prog ops Q rest (a.put o.dst (.slice (some ⟨g', 0, none⟩) (k + m) cap')) w') :
  wpList Try.prog ops Q (o :: rest) a W := by
 obtain ⟨i0, hi, hz0, hz1, hz2⟩ := info_parts css.infoSl
 have hl : zs.length = m := by have := htail.1; omega
 refine wpList_append_own _ hgd s x 60 ho lo 27 i0 (.slice none 0 0) 1 24 Try.underlying60 hi hz0 hz1 hz2 rfl (by decide) _ k ys hs hrow ⟨t, 0, none⟩ m ct zs hx (by rw [hl]; omega) ?_ hone ?_ ?_ hlo ?_
 ·intro j u hj
  rw [Addr.add_lit, Nat.zero_add]
  have hjl : j < m := by
   have := (List.getElem?_eq_some_iff.1 hj).1
   omega
  rw [htail.cellAt j (by omega)]
  exact hj
 ·unfold maxLen
  omega
 ·omega
 ·intro v' w' h1 hg hnil
  rcases h1.2 with ⟨e, _⟩ | ⟨g', cap', cur, e, hr⟩
  ·have := (hnil.1 e).1
   cases this
  ·subst e
   exact h g' cap' w' h1 hg
theorem mid_ins {w W w9 : World} {c : Nat} {n : Int} {M M' : List (List Int)} {Bs : List (Nat × Value × Value)} {a : Option Addr} {cap g cap' m : Nat} {xs : List Value} (hc : w.heap.size ≤ c) (hg : w.grownBy W none) (hB : ∀ b ∈ Bs, b.1 ≠ c ∧ Box 62 W b.1 b.2.1 b.2.2) (hb : Box 62 W c (.int .i64 n) (.slice a M.length cap))
  (hw : W.ownsRow w.heap.size 27 1 (.slice a M.length cap) M.length xs) (h9 : OwnS w.heap.size w9.heap.size w9 (.slice (some ⟨g, 0, none⟩) m cap') M') (hm : m = M'.length) (g1 : W.grownBy w9 (Value.slice a M.length cap).ownBlock) :
  (w9.cell? ⟨c, 1, none⟩ = some (.slice a M.length cap) ∧ w9.frozen? ⟨c, 1, none⟩ = false) ∧ MidF w (w9.setCell ⟨c, 1, none⟩ (.slice (some ⟨g, 0, none⟩) m cap')) c n M' Bs := by
 subst hm
 have hb1 := hb.by g1 (box_ne hw ty1 hb)
 have hg1 : w.grownBy w9 none := grown_own hg hw (Nat.le_refl _) g1
 have hB1 : ∀ b x y, (b, x, y) ∈ Bs → Box 62 w9 b x y := by
  intro b x y hb'
  have hbb := (hB _ hb').2
  exact hbb.by g1 (box_ne hw ty1 hbb)
 refine ⟨⟨hb1.c1, hb1.f 1⟩, hc, cf.grown_set hg1 hc, fun b hb' => ⟨(hB b hb').1, ?_⟩, some ⟨g, 0, none⟩, cap', ?_, ?_⟩
 ·exact (hB1 b.1 b.2.1 b.2.2 hb').setO (fun e => (hB b hb').1 e.symm)
 ·exact hb1.set1 (.slice (some ⟨g, 0, none⟩) M'.length cap')
 ·rw [cf.size_set]
  exact gr.ownS_set h9 hb1
theorem mid_start {w w2 : World} {n : Int} {Bs : List (Nat × Value × Value)} (g : w.grownBy w2 none) (hB : ∀ b ∈ Bs, Box 62 w2 b.1 b.2.1 b.2.2) : MidF w (w2.alloc (.cells #[.int .i64 n, .slice none 0 0] 62)) w2.heap.size n [] Bs := by
 have g1 := World.grownBy_alloc w2 (.cells #[.int .i64 n, .slice none 0 0] 62) none
 refine ⟨g.size, grown_trans g g1, fun b hb => ⟨?_, (hB b hb).kept g1⟩, none, 0, Box.new 62 w2 (.int .i64 n) (.slice none 0 0), ownS_nil _ _ _⟩
 have := (hB b hb).lt
 omega
set_option maxRecDepth 10000 in
set_option maxHeartbeats 4000000 in
theorem specCnfSort (v : Value) (n : Int) (LL : List (List Int)) (w : World) (hn : tot LL ≤ 1048576) (hv : Sls w v LL) :
  Calls Try.prog 40 #[.agg #[.int .i64 n, v]] w fun e w' => ∃ u, e = .returned (.tuple #[.agg #[.int .i64 (srtN n LL), u], .bool (srtB n LL)]) ∧ OwnS w.heap.size w'.heap.size w' u (srtR n LL) ∧ w.grownBy w' none := by
 have hl := Nat.le_trans (css.tot_len LL) hn
 have cc := ok.specCnfOk v n LL (ini w n v) hn (hv.kept (ini_grown w n v))
 have I0 := hide (ini_grown w n v)
 have I1 := hide (ini_box0 w n v)
 have I2 := hide (ini_box1 w n v)
 unfold ini at cc I0 I1 I2
 cases hb : cnfB n LL
 ·rw [hb] at cc
  have CC := hide cc
  have E := hide hb
  clear cc hb hv
  go_enter Try.func40, Try.ntmps40
  go_wp2_with fail
  refine (unhide CC).mono ?_; rintro e w2 ⟨rfl, g2⟩
  have b2 := (unhide I2).kept g2
  have r0 := b2.c0
  have r1 := b2.c1
  have f0 := b2.f 0
  have f1 := b2.f 1
  have B2 := hide b2
  have G2 := hide (grown_trans (r := none) (unhide I0) g2)
  clear b2 g2
  go_wp2_with fail
  (try simp only [Exit.inBlock, Exit.then])
  exact ret_no (unhide B2) (unhide G2) (unhide E) rfl (by rfl) (by rfl) (by rfl)
 ·rw [hb] at cc
  have CC := hide cc
  have SR := hide (srt_yes hb)
  obtain ⟨a, cap, rfl, ha⟩ := hv
  have HA := hide ha
  clear cc hb ha
  go_enter Try.func40, Try.ntmps40
  go_wp2_with fail
  refine (unhide CC).mono ?_; rintro e w2 ⟨rfl, g2⟩
  have b1 := (unhide I1).kept g2
  have b2 := (unhide I2).kept g2
  have k0 := b1.c0
  have G2 := hide (grown_trans (r := none) (unhide I0) g2)
  have ST := hide (mid_start (n := n) (Bs := [(w.heap.size, Value.int .i64 n, Value.slice a LL.length cap), (w.heap.size + 1, Value.int .i64 0, Value.slice none 0 0)]) (unhide G2) (by
   intro b hb
   simp only [List.mem_cons, List.not_mem_nil, or_false] at hb
   rcases hb with rfl | rfl
   ·exact b1
   ·exact b2))
  clear b1 b2 g2 CC I0 I1 I2
  go_wp2_with fail
  generalize w2.heap.size = c at *
  go_loopw [5] (fun i wr => ∃ k : Nat, k ≤ LL.length ∧ i = .int .i64 k ∧ Hid (MidF w wr c n (insAll lessL [] (good (LL.take k))) [(w.heap.size, Value.int .i64 n, Value.slice a LL.length cap), (w.heap.size + 1, Value.int .i64 0, Value.slice none 0 0)])) (fun i _ => LL.length - (intOf i).toNat)
  case atStart => exact ⟨0, Nat.zero_le _, rfl, ST⟩
  case round =>
   obtain ⟨k, hk, rfl, hm⟩ := hrel
   clear ST k0
   have bf := (unhide hm).box w.heap.size (.int .i64 n) (.slice a LL.length cap) (by simp)
   have z0 := bf.c0
   have z1 := bf.c1
   by_cases hlt : k < LL.length
   ·rcases unhide HA with h | ⟨b, off, rfl, hb, hcb⟩
    ·rw [h] at hlt
     simp at hlt
    ·obtain ⟨u, hu, hs⟩ := hcb k hlt
     have hg := (unhide hm).grown
     have c1 : wr.cell? ⟨b, off + k, none⟩ = some u := hg.cell hu (fun e => by cases e)
     have hi' : (k : Int) < (LL.length : Int) := by omega
     have gy := good_yes (LL := LL) hlt
     have gn := good_no (LL := LL) hlt
     have gl : (insAll lessL [] (good (LL.take k))).length ≤ k := by
      have h1 := insAll_len (good (LL.take k)) []
      have h2 := good_len (LL.take k)
      rw [List.length_take] at h2
      simp at h1
      omega
     have hL := Nat.le_trans (css.tot_in LL k) hn
     generalize LL.getD k [] = L at *
     have C := hide (srt.l01Sort u L wr hL (hs.kept hg (.inl rfl)))
     clear hcb HA hs hu hg bf
     cases ho : okTo (setOf L) 24
     ·have HG := hide (gn ho)
      rw [ho] at C
      clear gy gn
      go_wp2_with fail
      refine (unhide C).mono ?_; rintro e w3 ⟨u3, rfl, o3, g3⟩
      have M3 := hide ((unhide hm).kept g3)
      clear C o3 g3 hm z0 z1
      go_wp2_with fail
      go_roundw
      case rel => exact ⟨k + 1, by omega, by go_num, by rw [unhide HG]; exact unhide M3⟩
      case measure => simp [intOf]; omega
     ·have HG := hide ((congrArg (insAll lessL []) (gy ho)).trans (cnfS_step _ _))
      rw [ho] at C
      have hcl : (srt (setOf L) 48).length ≤ 48 := srt.srt_len _ _
      clear gy gn
      have HML : Hid (∀ x ∈ insAll lessL [] (good (LL.take k)), x.length ≤ 24) := fun x hx => cs.good_24 (((cs.insAll_mem _ _).1 hx).resolve_left (by simp))
      generalize srt (setOf L) 48 = d at *
      generalize insAll lessL [] (good (LL.take k)) = M at *
      go_wp2_with fail
      refine (unhide C).mono ?_; rintro e w3 ⟨u3, rfl, o3, g3⟩
      obtain ⟨ya, yc, rfl⟩ : ∃ xa xc, u3 = .slice xa d.length xc := by
       obtain ⟨xa, xc, e, _⟩ := sl.Sl.of_own o3
       exact ⟨xa, xc, e⟩
      obtain ⟨q0, q1, q2, oa, ocap, q3, q4⟩ := unhide hm
      have Q0 := hide q0
      have Q1 := hide (grown_trans (r := none) q1 g3)
      have Q2 := hide (fun b hb => And.intro (q2 b hb).1 ((q2 b hb).2.kept g3))
      have Q3 := hide (q3.kept g3)
      have Q4 := hide (q4.kept g3)
      have U3 := hide (sl.Own.of o3)
      have hmid : w.heap.size ≤ wr.heap.size := q1.size
      have HMD := hide (And.intro q1.size g3.size)
      have hMl : M.length ≤ 1048576 := by omega
      clear C o3 g3 hm z0 z1 q0 q1 q2 q3 q4 c1 hmid
      generalize wr.heap.size = mid at *
      go_wp2_with fail
      obtain ⟨xs, hxl, hrow, hone, hel, hins⟩ := outer (unhide Q4)
      have HROW := hide hrow
      have HONE := hide hone
      have HEL := hide hel
      have HINS := hide hins
      have HXL := hide hxl
      clear hrow hone hel hins hxl
      have o1 := (unhide Q3).c1
      go_loopw [8] (fun i wq => ∃ j : Nat, j ≤ at_ lessL M d ∧ i = .int .i64 j ∧ Hid (w3.grownBy wq none)) (fun i _ => M.length - (intOf i).toNat)
      case atStart => exact ⟨0, Nat.zero_le _, rfl, grown_refl _⟩
      case round =>
       obtain ⟨j, hj, rfl, hgq⟩ := hrel
       have hal := at_le lessL M d
       have o2 := ((unhide Q3).kept (unhide hgq)).c1
       clear o1
       by_cases hjl : j < M.length
       ·have hji : (j : Int) < (M.length : Int) := by omega
        obtain ⟨y, hy, hsy⟩ := unhide HEL j hjl
        have hgo := at_go hj hjl
        rw [show M[j] = M.getD j [] by simp [hjl]] at hgo
        have hdl : d.length ≤ 1048576 := by omega
        have hyl : (M.getD j []).length ≤ 1048576 := Nat.le_trans (unhide HML _ (by rw [show M.getD j [] = M[j] by simp [hjl]]; exact List.getElem_mem hjl)) (by decide)
        have cl := le.l02Less y (.slice ya d.length yc) (M.getD j []) d wr hyl hdl (hsy.kept (unhide hgq) (.inl rfl)) ((unhide U3).kept (unhide hgq)).sl
        have cell : ∃ g, oa = some ⟨g, 0, none⟩ ∧ wr.cell? ⟨g, j, none⟩ = some y := by
         have hr := unhide HROW
         rcases hr.2 with ⟨e, h0⟩ | ⟨g, cap', cur, e, _⟩
         ·omega
         ·injection e with e1 e2 e3
          subst e1
          refine ⟨g, rfl, (unhide hgq).cell ?_ (fun e => by cases e)⟩
          rw [(unhide HROW).cellAt j (by omega)]
          exact hy
        obtain ⟨g, rfl, cy⟩ := cell
        cases hb : lessL (M.getD j []) d
        ·rw [hb] at cl hgo
         have CL := hide cl
         have hje : j = at_ lessL M d := by
          have : ¬ (j + 1 ≤ at_ lessL M d) := fun h => by have := hgo.2 h; cases this
          omega
         have cs' := fun (w' : World) (gg : wr.grownBy w' none) => le.l02Same y (.slice ya d.length yc) (M.getD j []) d w' hyl hdl ((hsy.kept (unhide hgq) (.inl rfl)).kept gg (.inl rfl)) (((unhide U3).kept (unhide hgq)).kept gg).sl
         have hget : M[j]? = some (M.getD j []) := by simp [hjl]
         have hI := show ins lessL M d = if M.getD j [] = d then M else M.take j ++ d :: M.drop j by
          unfold cs.ins
          rw [← hje, hget]
          simp
         generalize M.getD j [] = z at *
         by_cases hz : z = d
         ·have HI := hide (show ins lessL M d = M by rw [hI, if_pos hz])
          simp only [decide_eq_true hz] at cs'
          subst hz
          have CS := hide cs'
          clear cs' cl hgo hb hsy hy hI hget hje
          go_wp2_with fail
          refine (unhide CL).mono ?_; rintro e w5 ⟨rfl, g5⟩
          have G5 := hide (grown_trans (r := none) (unhide hgq) g5)
          have o5 := ((unhide Q3).kept (unhide G5)).c1
          have c5 : w5.cell? ⟨g, j, none⟩ = some y := g5.cell cy (fun e => by cases e)
          have C5 := hide (unhide CS w5 g5)
          clear g5 CL hgq o2 cy CS
          go_wp2_with fail
          refine (unhide C5).mono ?_; rintro e w6 ⟨rfl, g6⟩
          have G6 := hide (grown_trans (r := none) (unhide G5) g6)
          clear g6 C5 o5 c5
          go_wp2_with fail
          go_roundw
          case rel => exact ⟨k + 1, by omega, by go_num, by rw [unhide HG, unhide HI]; exact ⟨unhide Q0, grown_trans (unhide Q1) (unhide G6), fun b hb => ⟨(unhide Q2 b hb).1, (unhide Q2 b hb).2.kept (unhide G6)⟩, _, ocap, (unhide Q3).kept (unhide G6), ((unhide Q4).kept (unhide G6)).sub (Nat.le_refl _) (Nat.le_trans (unhide HMD).2 (unhide G6).size)⟩⟩
          case measure => simp [intOf]; omega
         ·have HI := hide (show ins lessL M d = M.take j ++ d :: M.drop j by rw [hI, if_neg hz])
          simp only [decide_eq_false hz] at cs'
          have CS := hide cs'
          have HZ := hide hz
          clear cs' cl hgo hb hsy hy hI hget hje hz
          go_wp2_with fail
          refine (unhide CL).mono ?_; rintro e w5 ⟨rfl, g5⟩
          have G5 := hide (grown_trans (r := none) (unhide hgq) g5)
          have o5 := ((unhide Q3).kept (unhide G5)).c1
          have c5 : w5.cell? ⟨g, j, none⟩ = some y := g5.cell cy (fun e => by cases e)
          have C5 := hide (unhide CS w5 g5)
          clear g5 CL hgq o2 cy CS
          go_wp2_with fail
          refine (unhide C5).mono ?_; rintro e w6 ⟨rfl, g6⟩
          have G6 := hide (grown_trans (r := none) (unhide G5) g6)
          clear g6 C5 o5 c5 HZ
          have q0 := unhide Q0
          have q1 := grown_trans (r := none) (unhide Q1) (unhide G6)
          have q2 := fun b hb => And.intro (unhide Q2 b hb).1 ((unhide Q2 b hb).2.kept (unhide G6))
          have q3 := (unhide Q3).kept (unhide G6)
          have q4 := (unhide Q4).kept (unhide G6)
          have uu := (unhide U3).kept (unhide G6)
          have hu1 : (Value.slice ya d.length yc).oneCell' = true := rfl
          have hmm := unhide HMD
          have hWs := (unhide G6).size
          clear HROW HONE HEL HINS HXL
          obtain ⟨xs, hxl, hrow, hone, hel, hins⟩ := outer q4
          have o4 := (q3.kept (World.grownBy_alloc w6 (.cells #[] 27) none)).c1
          have l1 : (0 : Int) ≤ (j : Int) := by omega
          have l2 : (j : Int) ≤ (M.length : Int) := by omega
          have hcap : M.length ≤ ocap := by
           rcases hrow.2 with ⟨e, _⟩ | ⟨g', cap', cur, e, _, _, h3, _⟩
           ·cases e
           ·injection e with e1 e2 e3
            omega
          have l3 : (M.length : Int) ≤ (ocap : Int) := by omega
          have l4 : (j : Int) ≤ (ocap : Int) := by omega
          have hgb : g < w6.heap.size := (hrow.lt g rfl).2
          have hglo : w.heap.size ≤ g := (hrow.lt g rfl).1
          have GT := hide (fun t ct (w' : World) (h1 : w'.ownsRow w6.heap.size 27 1 (.slice (some ⟨t, 0, none⟩) (M.length - j) ct) (M.length - j) (xs.drop j)) (h2 : w6.grownBy w' none) => And.intro h1 h2)
          have HR := hide hrow
          have HO := hide hone
          have HI2 := hide hins
          have HQ := hide (And.intro q0 (And.intro q1 (And.intro q2 q3)))
          have UU := hide uu
          have HX := hide hxl
          clear q0 q1 q2 q3 q4 uu hrow hone hins hel hxl GT
          go_upto_region 13 with fail
          go_wp2_with (at_builtin; refine tailA (W := w6) (k := j) (unhide HR) (unhide HO) (by omega) (by omega) (.inl rfl) (by rfl) (.tmp 65) (.tmp 69) (by rfl) (by rfl) rfl ?_)
          intro t ct w7 ht7 g7
          have q3' := (unhide HQ).2.2.2.kept g7
          have o7 := q3'.c1
          have HT7 := hide ht7
          have G7 := hide g7
          have htb : w6.heap.size ≤ t := (ht7.lt t rfl).1
          have htb2 : t < w7.heap.size := (ht7.lt t rfl).2
          have hr7 := hide (own_take (k := j) (rws.row_kept (unhide HR) g7) (by omega))
          have hs7 := g7.size
          have lo7 : w.heap.size ≤ w7.heap.size := by omega
          clear ht7 g7 q3' o4
          go_wp2_with (at_builtin; refine headA (W := w7) (unhide hr7) (by rfl) (by omega) lo7 rfl _ _ rfl rfl rfl ?_)
          intro g8 cap8 w8 h8 gr8 at8
          have H8 := hide h8
          have ht8 : w8.ownsRow w6.heap.size 27 1 (.slice (some ⟨t, 0, none⟩) (M.length - j) ct) (M.length - j) (xs.drop j) := (unhide HT7).kept gr8 (.inr (fun e => by injection e with e; dsimp only at e; omega))
          have HT8 := hide ht8
          have G8 := hide gr8
          have hg8 : g8 = g ∨ w7.heap.size ≤ g8 := at8.imp (fun e => by injection e with e; exact e.symm) id
          have hs8 := gr8.size
          have lo8 : w.heap.size ≤ w8.heap.size := by omega
          clear h8 ht8 gr8 at8 hr7
          go_wp2_with (at_builtin; refine joinA (W := w8) (unhide H8) (unhide HT8) (fun x hx => unhide HO x (List.mem_of_mem_drop hx)) (by omega) lo8 rfl _ _ rfl rfl rfl ?_)
          intro g9 cap9 w9 h9 gr9
          have e9 : j + 1 + (M.length - j) = M.length + 1 := by omega
          have gW : w6.grownBy w9 (some g) := grown_skip (grown_skip (grown_wide (unhide G7)) (unhide G8) (.inl rfl)) gr9 (hg8.imp (fun e => by rw [e]) (fun h => by omega))
          rw [e9] at h9
          have s9 := unhide HI2 j _ d w9 _ (css.own_sub (unhide UU) (Nat.le_refl _) hWs) hmm.1 (by omega) h9 gW
          have f9 := mid_ins (unhide HQ).1 (unhide HQ).2.1 (unhide HQ).2.2.1 (unhide HQ).2.2.2 (unhide HR) s9 (by simp; omega) gW
          rw [← e9] at f9
          have F9 := hide f9
          have p1 := f9.1.1
          have p2 := f9.1.2
          clear f9 h9 gr9 s9 gW H8 HT8 G8 e9 o7
          go_wp2_with fail
          go_roundw
          case rel => exact ⟨k + 1, by omega, by go_num, by rw [unhide HG, unhide HI]; exact (unhide F9).2⟩
          case measure => simp [intOf]; omega
        ·rw [hb] at cl hgo
         have CL := hide cl
         have hj1 := hgo.1 rfl
         clear cl hgo hb hsy hy
         go_wp2_with fail
         refine (unhide CL).mono ?_; rintro e w5 ⟨rfl, g5⟩
         have G5 := hide (grown_trans (r := none) (unhide hgq) g5)
         clear g5 CL hgq o2 cy
         go_wp2_with fail
         go_roundw
         case rel => exact ⟨j + 1, hj1, by go_num, G5⟩
         case measure => simp [intOf]; omega
       ·have hji : ¬ (j : Int) < (M.length : Int) := by omega
        have hje : j = at_ lessL M d := by omega
        have hI : ins lessL M d = M.take j ++ d :: M.drop j := by
         unfold cs.ins
         rw [← hje, List.getElem?_eq_none (by omega)]
         simp
        have HI := hide hI
        clear hI hje
        have hway : (oa = none ∧ ocap = 0 ∧ M = []) ∨ ∃ g, oa = some ⟨g, 0, none⟩ := by
         rcases (unhide HROW).2 with ⟨e, h0⟩ | ⟨g, cap', cur, e, _⟩
         ·injection e with e1 e2 e3
          exact .inl ⟨e1, e3, List.eq_nil_of_length_eq_zero h0⟩
         ·injection e with e1 e2 e3
          exact .inr ⟨g, e1⟩
        rcases hway with ⟨rfl, rfl, rfl⟩ | ⟨g, rfl⟩
        ·have ej : j = 0 := by
          have : ([] : List (List Int)).length = 0 := rfl
          omega
         subst ej
         have q0 := unhide Q0
         have q1 := grown_trans (r := none) (unhide Q1) (unhide hgq)
         have q2 := fun b hb => And.intro (unhide Q2 b hb).1 ((unhide Q2 b hb).2.kept (unhide hgq))
         have q3 := (unhide Q3).kept (unhide hgq)
         have q4 := (unhide Q4).kept (unhide hgq)
         have uu := (unhide U3).kept (unhide hgq)
         have hu1 : (Value.slice ya d.length yc).oneCell' = true := rfl
         have hmm := unhide HMD
         have hWs := (unhide hgq).size
         clear HROW HONE HEL HINS HXL
         obtain ⟨xs, hxl, hrow, hone, hel, hins⟩ := outer q4
         have o4 := (q3.kept (World.grownBy_alloc wr (.cells #[] 27) none)).c1
         have ex : xs = [] := List.eq_nil_of_length_eq_zero hxl
         subst ex
         have HR := hide hrow
         have HI2 := hide hins
         have HQ := hide (And.intro q0 (And.intro q1 (And.intro q2 q3)))
         have UU := hide uu
         clear q0 q1 q2 q3 q4 uu hrow hone hins hel hxl
         go_upto_region 13 with fail
         go_wp2_with (at_builtin; refine tailN (W := wr) (by rfl) (.tmp 65) (.tmp 69) (by rfl) (by rfl) (by rfl) ?_)
         intro w7 h7 g7 hs7
         have o7 := ((unhide HQ).2.2.2.kept g7).c1
         have H7 := hide h7
         have G7 := hide g7
         have hrn := hide (World.ownsRow_nil w7 w.heap.size 27 1)
         have lo7 : w.heap.size ≤ w7.heap.size := by omega
         clear h7 g7 o4
         go_wp2_with (at_builtin; refine headA (W := w7) (unhide hrn) (by rfl) (by decide) lo7 rfl _ _ rfl rfl rfl ?_)
         intro g8 cap8 w8 h8 gr8 at8
         have H8 := hide h8
         have gr8' : w7.grownBy w8 none := gr8
         have ht8 := rws.row_kept (unhide H7) gr8'
         have HT8 := hide ht8
         have G8 := hide gr8'
         have hg8 : w7.heap.size ≤ g8 := at8.resolve_left (fun e => by cases e)
         have hs8 := gr8.size
         have lo8 : w.heap.size ≤ w8.heap.size := by omega
         clear h8 ht8 gr8 gr8' at8
         go_wp2_with (at_builtin; refine joinA (W := w8) (unhide H8) (unhide HT8) (fun x hx => by cases hx) (by decide) lo8 rfl _ _ rfl rfl rfl ?_)
         intro g9 cap9 w9 h9 gr9
         have gW : wr.grownBy w9 none := grown_skip (grown_trans (r := none) (unhide G7) (unhide G8)) gr9 (.inr (by omega))
         have s9 := unhide HI2 0 _ d w9 _ (css.own_sub (unhide UU) (Nat.le_refl _) hWs) hmm.1 (by omega) h9 gW
         have f9 := mid_ins (M := []) (unhide HQ).1 (unhide HQ).2.1 (unhide HQ).2.2.1 (unhide HQ).2.2.2 (unhide HR) s9 rfl gW
         have F9 := hide f9
         have p1 := f9.1.1
         have p2 := f9.1.2
         clear f9 h9 gr9 s9 gW H8 HT8 G8
         go_wp2_with fail
         go_roundw
         case rel => exact ⟨k + 1, by omega, by go_num, by rw [unhide HG, unhide HI]; exact (unhide F9).2⟩
         case measure => simp [intOf]; omega
        ·by_cases hcj : ocap = j
         ·subst hcj
          have q0 := unhide Q0
          have q1 := grown_trans (r := none) (unhide Q1) (unhide hgq)
          have q2 := fun b hb => And.intro (unhide Q2 b hb).1 ((unhide Q2 b hb).2.kept (unhide hgq))
          have q3 := (unhide Q3).kept (unhide hgq)
          have q4 := (unhide Q4).kept (unhide hgq)
          have uu := (unhide U3).kept (unhide hgq)
          have hu1 : (Value.slice ya d.length yc).oneCell' = true := rfl
          have hmm := unhide HMD
          have hWs := (unhide hgq).size
          clear HROW HONE HEL HINS HXL
          obtain ⟨xs, hxl, hrow, hone, hel, hins⟩ := outer q4
          have o4 := (q3.kept (World.grownBy_alloc wr (.cells #[] 27) none)).c1
          have l1 : (0 : Int) ≤ (ocap : Int) := by omega
          have hcap : M.length ≤ ocap := by
           rcases hrow.2 with ⟨e, _⟩ | ⟨g', cap', cur, e, _, _, h3, _⟩
           ·cases e
           ·injection e with e1 e2 e3
            omega
          have l3 : (M.length : Int) ≤ (ocap : Int) := by omega
          have eM : M.length = ocap := by omega
          have EM := hide eM
          clear eM
          have hgb : g < wr.heap.size := (hrow.lt g rfl).2
          have hglo : w.heap.size ≤ g := (hrow.lt g rfl).1
          have HR := hide hrow
          have HO := hide hone
          have HI2 := hide hins
          have HQ := hide (And.intro q0 (And.intro q1 (And.intro q2 q3)))
          have UU := hide uu
          have HX := hide hxl
          clear q0 q1 q2 q3 q4 uu hrow hone hins hel hxl
          go_upto_region 13 with fail
          go_wp2_with (at_builtin; refine tailZ (W := wr) (by rfl) (.tmp 65) (.tmp 69) (by rfl) (by rfl) rfl ?_)
          intro t ct w7 ht7 g7
          have q3' := (unhide HQ).2.2.2.kept g7
          have o7 := q3'.c1
          have HT7 := hide ht7
          have G7 := hide g7
          have htb : wr.heap.size ≤ t := (ht7.lt t rfl).1
          have htb2 : t < w7.heap.size := (ht7.lt t rfl).2
          have hr7 := hide (own_take (k := ocap) (rws.row_kept (unhide HR) g7) (by rw [unhide EM]; exact Nat.le_refl _))
          have hs7 := g7.size
          have lo7 : w.heap.size ≤ w7.heap.size := by omega
          clear ht7 g7 q3' o4
          go_wp2_with (at_builtin; refine headA (W := w7) (unhide hr7) (by rfl) (by have := unhide EM; omega) lo7 rfl _ _ rfl rfl rfl ?_)
          intro g8 cap8 w8 h8 gr8 at8
          have H8 := hide h8
          have ht8 : w8.ownsRow wr.heap.size 27 1 (.slice (some ⟨t, 0, none⟩) 0 ct) 0 [] := (unhide HT7).kept gr8 (.inr (fun e => by injection e with e; dsimp only at e; omega))
          have HT8 := hide ht8
          have G8 := hide gr8
          have hg8 : g8 = g ∨ w7.heap.size ≤ g8 := at8.imp (fun e => by injection e with e; exact e.symm) id
          have hs8 := gr8.size
          have lo8 : w.heap.size ≤ w8.heap.size := by omega
          clear h8 ht8 gr8 at8 hr7
          go_wp2_with (at_builtin; refine joinA (W := w8) (unhide H8) (unhide HT8) (fun x hx => by cases hx) (by have := unhide EM; omega) lo8 rfl _ _ rfl rfl rfl ?_)
          intro g9 cap9 w9 h9 gr9
          have gW : wr.grownBy w9 (some g) := grown_skip (grown_skip (grown_wide (unhide G7)) (unhide G8) (.inl rfl)) gr9 (hg8.imp (fun e => by rw [e]) (fun h => by omega))
          have h9' : w9.ownsRow w.heap.size 27 1 (.slice (some ⟨g9, 0, none⟩) (ocap + 1) cap9) (M.length + 1) (xs.take ocap ++ (Value.slice ya d.length yc) :: xs.drop ocap) := by
           rw [unhide EM, List.drop_eq_nil_of_le (by rw [unhide HX, unhide EM]; exact Nat.le_refl _)]
           exact h9
          have s9 := unhide HI2 ocap _ d w9 _ (css.own_sub (unhide UU) (Nat.le_refl _) hWs) hmm.1 (by omega) h9' gW
          have f9 := mid_ins (unhide HQ).1 (unhide HQ).2.1 (unhide HQ).2.2.1 (unhide HQ).2.2.2 (unhide HR) s9 (by have := unhide EM; simp; omega) gW
          have F9 := hide f9
          have p1 := f9.1.1
          have p2 := f9.1.2
          clear f9 h9 h9' gr9 s9 gW H8 HT8 G8 o7
          go_wp2_with fail
          go_roundw
          case rel => exact ⟨k + 1, by omega, by go_num, by rw [unhide HG, unhide HI]; exact (unhide F9).2⟩
          case measure => simp [intOf]; omega
         ·have q0 := unhide Q0
          have q1 := grown_trans (r := none) (unhide Q1) (unhide hgq)
          have q2 := fun b hb => And.intro (unhide Q2 b hb).1 ((unhide Q2 b hb).2.kept (unhide hgq))
          have q3 := (unhide Q3).kept (unhide hgq)
          have q4 := (unhide Q4).kept (unhide hgq)
          have uu := (unhide U3).kept (unhide hgq)
          have hu1 : (Value.slice ya d.length yc).oneCell' = true := rfl
          have hmm := unhide HMD
          have hWs := (unhide hgq).size
          clear HROW HONE HEL HINS HXL
          obtain ⟨xs, hxl, hrow, hone, hel, hins⟩ := outer q4
          have o4 := (q3.kept (World.grownBy_alloc wr (.cells #[] 27) none)).c1
          have l1 : (0 : Int) ≤ (j : Int) := by omega
          have l2 : (j : Int) ≤ (M.length : Int) := by omega
          have hcap : M.length ≤ ocap := by
           rcases hrow.2 with ⟨e, _⟩ | ⟨g', cap', cur, e, _, _, h3, _⟩
           ·cases e
           ·injection e with e1 e2 e3
            omega
          have l3 : (M.length : Int) ≤ (ocap : Int) := by omega
          have l4 : (j : Int) ≤ (ocap : Int) := by omega
          have hgb : g < wr.heap.size := (hrow.lt g rfl).2
          have hglo : w.heap.size ≤ g := (hrow.lt g rfl).1
          have GT := hide (fun t ct (w' : World) (h1 : w'.ownsRow wr.heap.size 27 1 (.slice (some ⟨t, 0, none⟩) (M.length - j) ct) (M.length - j) (xs.drop j)) (h2 : wr.grownBy w' none) => And.intro h1 h2)
          have HR := hide hrow
          have HO := hide hone
          have HI2 := hide hins
          have HQ := hide (And.intro q0 (And.intro q1 (And.intro q2 q3)))
          have UU := hide uu
          have HX := hide hxl
          clear q0 q1 q2 q3 q4 uu hrow hone hins hel hxl GT
          go_upto_region 13 with fail
          go_wp2_with (at_builtin; refine tailA (W := wr) (k := j) (unhide HR) (unhide HO) (by omega) (by omega) (.inl rfl) (by rfl) (.tmp 65) (.tmp 69) (by rfl) (by rfl) rfl ?_)
          intro t ct w7 ht7 g7
          have q3' := (unhide HQ).2.2.2.kept g7
          have o7 := q3'.c1
          have HT7 := hide ht7
          have G7 := hide g7
          have htb : wr.heap.size ≤ t := (ht7.lt t rfl).1
          have htb2 : t < w7.heap.size := (ht7.lt t rfl).2
          have hr7 := hide (own_take (k := j) (rws.row_kept (unhide HR) g7) (by omega))
          have hs7 := g7.size
          have lo7 : w.heap.size ≤ w7.heap.size := by omega
          clear ht7 g7 q3' o4
          go_wp2_with (at_builtin; refine headA (W := w7) (unhide hr7) (by rfl) (by omega) lo7 rfl _ _ rfl rfl rfl ?_)
          intro g8 cap8 w8 h8 gr8 at8
          have H8 := hide h8
          have ht8 : w8.ownsRow wr.heap.size 27 1 (.slice (some ⟨t, 0, none⟩) (M.length - j) ct) (M.length - j) (xs.drop j) := (unhide HT7).kept gr8 (.inr (fun e => by injection e with e; dsimp only at e; omega))
          have HT8 := hide ht8
          have G8 := hide gr8
          have hg8 : g8 = g ∨ w7.heap.size ≤ g8 := at8.imp (fun e => by injection e with e; exact e.symm) id
          have hs8 := gr8.size
          have lo8 : w.heap.size ≤ w8.heap.size := by omega
          clear h8 ht8 gr8 at8 hr7
          go_wp2_with (at_builtin; refine joinA (W := w8) (unhide H8) (unhide HT8) (fun x hx => unhide HO x (List.mem_of_mem_drop hx)) (by omega) lo8 rfl _ _ rfl rfl rfl ?_)
          intro g9 cap9 w9 h9 gr9
          have e9 : j + 1 + (M.length - j) = M.length + 1 := by omega
          have gW : wr.grownBy w9 (some g) := grown_skip (grown_skip (grown_wide (unhide G7)) (unhide G8) (.inl rfl)) gr9 (hg8.imp (fun e => by rw [e]) (fun h => by omega))
          rw [e9] at h9
          have s9 := unhide HI2 j _ d w9 _ (css.own_sub (unhide UU) (Nat.le_refl _) hWs) hmm.1 (by omega) h9 gW
          have f9 := mid_ins (unhide HQ).1 (unhide HQ).2.1 (unhide HQ).2.2.1 (unhide HQ).2.2.2 (unhide HR) s9 (by simp; omega) gW
          rw [← e9] at f9
          have F9 := hide f9
          have p1 := f9.1.1
          have p2 := f9.1.2
          clear f9 h9 gr9 s9 gW H8 HT8 G8 e9 o7
          go_wp2_with fail
          go_roundw
          case rel => exact ⟨k + 1, by omega, by go_num, by rw [unhide HG, unhide HI]; exact (unhide F9).2⟩
          case measure => simp [intOf]; omega
   ·have hi' : ¬ (k : Int) < (LL.length : Int) := by omega
    have e : LL.take k = LL := List.take_of_length_le (by omega)
    rw [e] at hm
    have br := (unhide hm).box (w.heap.size + 1) (.int .i64 0) (.slice none 0 0) (by simp)
    have hX : insAll lessL [] (good LL) = cnfS LL := rfl
    rw [hX] at hm
    generalize cnfS LL = X at *
    obtain ⟨q0, q1, q2, oa, ocap, q3, q4⟩ := unhide hm
    have r0 := br.c0
    have r1 := br.c1
    have rf0 := br.f 0
    have rf1 := br.f 1
    have o0 := q3.c0
    have o1 := q3.c1
    have BR := hide br
    have Q1 := hide q1
    have Q4 := hide q4
    clear HA hm e q0 q1 q2 q3 q4 br bf hX
    go_wp2
    (try simp only [Exit.inBlock, Exit.then])
    refine bodyPost_ret (cf.ret_box2 rfl rfl (((unhide BR).set0 (.int .i64 n)).set1 (.slice oa X.length ocap))) rfl ⟨.slice oa X.length ocap, ?_, ?_, ?_⟩
    ·rw [(unhide SR).1, (unhide SR).2.2]
     rfl
    ·rw [(unhide SR).2.1, cf.size_set, cf.size_set]
     exact gr.ownS_set (gr.ownS_set (unhide Q4) (unhide BR)) ((unhide BR).set0 (.int .i64 n))
    ·exact cf.grown_set (cf.grown_set (unhide Q1) (by omega)) (by omega)
end Go.Proofs.Ytnlllcgcaddhmaa.cso
namespace Go.Proofs.Ytnlllcgcaddhmaa.cso
open css (Sls OwnS tot)
open ok (cnfB)
open cs (cnfS cnfS_len cnfS_mem good_24)
set_option linter.unusedVariables false
theorem sum_le (M : List (List Int)) (h : ∀ L ∈ M, L.length ≤ 24) : (M.map List.length).sum ≤ M.length * 24 := by
 induction M with
 | nil => exact Nat.zero_le _
 | cons L M ih =>
  have a := h L (by simp)
  have b := ih (fun x hx => h x (by simp [hx]))
  rw [List.map_cons, List.sum_cons, List.length_cons]
  omega
theorem srt_tot (n : Int) (LL : List (List Int)) : tot (srtR n LL) ≤ 3000 := by
 unfold srtR
 split
 ·rename_i h
  have hl := (fm.cnf_facts h).2.2.1
  have a := cnfS_len LL
  have b := sum_le (cnfS LL) (fun L hL => good_24 (cnfS_mem.1 hL))
  unfold css.tot
  omega
 ·exact Nat.zero_le _
end Go.Proofs.Ytnlllcgcaddhmaa.cso
