/- The laws' own functions on lists of numbers (eqIntS, markIntS, heldIntS) and the model's ClauseHas, at lists of at most 2^21 numbers; no other condition. -/
import Derived.Test.YtibpnocpafppaaaDoorJSc
import Derived.Test.YtibpnocpafppaaaDoorJXWz
import Derived.Deep.QuietTactic
import Derived.BigQuiet
import Derived.Deep.RegionHeld3
import Derived.Deep.RegionLaw
import Derived.WalkMore
import Derived.ArgAppend
import Derived.Test.YtibpnocpafppaaaDoorJXFm
import Derived.Test.YtibpnocpafppaaaDoorJXCnt
import Derived.Test.YtibpnocpafppaaaDoorJXApp
namespace Go.Proofs.YtibpnocpafppaaaDoor.slw
open Go.ChangeShapes Go.WideShapes Go.ChangeAt Go.RowKit
open Go.Proofs.YtibpnocpafppaaaDoor.sl
open cls (hasB)
set_option linter.unusedVariables false
theorem specClauseHas (v : Value) (L : List Int) (x : Int) (w : World) (hL : L.length ≤ 2097152) (hv : Sl w v L) :
  Calls Tryd.prog 76 #[v, .int .i64 x] w fun e w' => e = .returned (.bool (hasB L x)) ∧ w' = w := by
 obtain ⟨a, cap, rfl, ha⟩ := hv
 have HA := hide ha
 clear ha
 go_enter Tryd.func76, Tryd.ntmps76
 go_wp2
 go_loop [5] (fun i => ∃ k : Nat, k ≤ L.length ∧ i = .int .i64 k ∧ Hid (¬ x ∈ L.take k)) (fun i => L.length - (intOf i).toNat)
 case atStart => exact ⟨0, Nat.zero_le _, rfl, by show ¬ _; simp⟩
 case round =>
  obtain ⟨k, hk, rfl, hall⟩ := hrel
  by_cases hlt : k < L.length
  ·rcases unhide HA with h | ⟨b, off, rfl, hb, hcb⟩
   ·rw [h] at hlt
    simp at hlt
   ·have c1 := hcb k hlt
    have hi' : (k : Int) < (L.length : Int) := by omega
    have h1 := cls.has_hit L k x hlt
    have h2 := cls.has_step L k x hlt (unhide hall)
    generalize L.getD k 0 = y at *
    by_cases hx : y = x
    ·have H := hide (h1 hx)
     have hb' : (y == x) = true := by simpa using hx
     clear h1 h2 hx hcb HA
     go_wp2
     go_ret
     exact ⟨ret_bool (unhide H).symm, rfl⟩
    ·have H := hide (h2 hx)
     have hb' : (y == x) = false := by simpa using hx
     clear h1 h2 hx hcb HA
     go_wp2
     go_round
     case rel => exact ⟨k + 1, by omega, by go_num, H⟩
     case measure => simp [intOf]; omega
  ·have hi' : ¬ (k : Int) < (L.length : Int) := by omega
   have HR := hide (cls.has_no L k x hlt (unhide hall))
   clear HA
   go_wp2
   go_ret
   exact ⟨ret_bool (unhide HR).symm, rfl⟩
end Go.Proofs.YtibpnocpafppaaaDoor.slw
namespace Go.Proofs.YtibpnocpafppaaaDoor.sp
open Go.ChangeShapes Go.WideShapes Go.ChangeAt Go.RowKit
open lits (okB varI okB_iff)
open bset (placeN placeN_le placeN_inj setOf setOf_lt setOf_has setOf_bit)
open cls (hasB)
open css (Sls tot)
open cf (Box)
open ok (cnfB litIn all_hit all_step all_end)
open wo (Made)
open Go.Proofs.YtibpnocpafppaaaDoor.wm
open srt (woN fstI andN_lt)
open sl (Sl Own ints hide unhide ret_int ret_bool grown_refl grown_trans grown_drewN)
set_option linter.unusedVariables false
theorem closed_iff {c A : List Int} (hc : ∀ x ∈ c, okB x = true) : clsd (setOf c) (setOf A) = c.any (hasB A) := by
 rw [Bool.eq_iff_iff, List.any_eq_true]
 constructor
 ·intro h
  apply Classical.byContradiction
  intro hn
  have : clsd (setOf c) (setOf A) = false := clsd_no.2 (fun b hb => by
   obtain ⟨h1, h2⟩ := hb
   rw [setOf_bit, List.any_eq_true] at h1
   obtain ⟨x, hx, e⟩ := h1
   rw [Bool.and_eq_true, decide_eq_true_iff] at e
   exact hn ⟨x, hx, by rw [← setOf_has A x e.1, e.2]; exact h2⟩)
  rw [h] at this
  cases this
 ·rintro ⟨x, hx, hA⟩
  cases h : clsd (setOf c) (setOf A)
  ·exfalso
   refine clsd_no.1 h (placeN x) ⟨?_, ?_⟩
   ·rw [setOf_has c x (hc x hx)]
    exact decide_eq_true hx
   ·rw [setOf_has A x (hc x hx)]
    exact hA
  ·rfl
theorem open_iff {c A : List Int} {x : Int} (hx : okB x = true) : (opn (setOf c) (setOf A)).testBit (placeN x) = (hasB c x && !hasB A (-x)) := by
 rw [opn_bit _ _ _ (setOf_lt c), swp_place hx, setOf_has c x hx, setOf_has A (-x) (opp_ok hx)]
theorem open_lit {c A : List Int} {b : Nat} (hb : (opn (setOf c) (setOf A)).testBit b = true) : ∃ x, x ∈ c ∧ okB x = true ∧ hasB A (-x) = false ∧ placeN x = b := by
 obtain ⟨x, hx, e⟩ := bit_lit (andN_lt _ _ (setOf_lt c)) hb
 rw [← e, open_iff hx, Bool.and_eq_true, Bool.not_eq_true'] at hb
 exact ⟨x, of_decide_eq_true hb.1, hx, hb.2, e⟩
theorem cl_closed {c A : List Int} {x : Int} (hc : ∀ x ∈ c, okB x = true) (hx : x ∈ c) (hA : hasB A x = true) : clauseN (setOf c) (setOf A) = 0 :=
 clauseN_closed (by rw [closed_iff hc, List.any_eq_true]; exact ⟨x, hx, hA⟩)
theorem cl_two {c A : List Int} {x y : Int} (hc : ∀ x ∈ c, okB x = true) (hn : c.any (hasB A) = false) (hx : x ∈ c) (hy : y ∈ c) (ox : hasB A (-x) = false) (oy : hasB A (-y) = false) (hxy : x ≠ y) : clauseN (setOf c) (setOf A) = 0 := by
 have bx : (opn (setOf c) (setOf A)).testBit (placeN x) = true := by rw [open_iff (hc x hx), ox, show hasB c x = true from decide_eq_true hx]; rfl
 have by' : (opn (setOf c) (setOf A)).testBit (placeN y) = true := by rw [open_iff (hc y hy), oy, show hasB c y = true from decide_eq_true hy]; rfl
 have ho : opn (setOf c) (setOf A) ≠ 0 := fun e => by rw [e, Nat.zero_testBit] at bx; cases bx
 refine clauseN_two (by rw [closed_iff hc]; exact hn) ho (fun e => ?_)
 exact hxy (placeN_inj (hc x hx) (hc y hy) ((one_iff (andN_lt _ _ (setOf_lt c)) ho).1 e _ _ bx by'))
theorem cl_one {c A : List Int} {y : Int} (hc : ∀ x ∈ c, okB x = true) (hn : c.any (hasB A) = false) (hy : y ∈ c) (oy : hasB A (-y) = false) (hall : ∀ x ∈ c, hasB A (-x) = true ∨ x = y) : clauseN (setOf c) (setOf A) = y := by
 have by' : (opn (setOf c) (setOf A)).testBit (placeN y) = true := by rw [open_iff (hc y hy), oy, show hasB c y = true from decide_eq_true hy]; rfl
 have ho : opn (setOf c) (setOf A) ≠ 0 := fun e => by rw [e, Nat.zero_testBit] at by'; cases by'
 have on : ∀ b, (opn (setOf c) (setOf A)).testBit b = true → b = placeN y := by
  intro b hb
  obtain ⟨x, hx, okx, ox, e⟩ := open_lit hb
  rcases hall x hx with q | q
  ·rw [ox] at q
   cases q
  ·rw [← e, q]
 have hr := (one_iff (andN_lt _ _ (setOf_lt c)) ho).2 (fun a b ha hb => (on a ha).trans (on b hb).symm)
 rw [clauseN_one (by rw [closed_iff hc]; exact hn) ho hr]
 have fs := fst_spec (Nat.pos_of_ne_zero ho) (andN_lt _ _ (setOf_lt c))
 exact placeN_inj fs.1 (hc y hy) (on _ fs.2)
theorem cl_none {c A : List Int} (hc : ∀ x ∈ c, okB x = true) (hn : c.any (hasB A) = false) (hall : ∀ x ∈ c, hasB A (-x) = true) : clauseN (setOf c) (setOf A) = -100 := by
 refine clauseN_empty (by rw [closed_iff hc]; exact hn) (zero_of fun b => ?_)
 cases hb : (opn (setOf c) (setOf A)).testBit b
 ·rfl
 ·obtain ⟨x, hx, okx, ox, e⟩ := open_lit hb
  rw [hall x hx] at ox
  cases ox
def Sofar (A c : List Int) (k : Nat) (o : Int) : Prop := (o = 0 ∧ ∀ x ∈ c.take k, hasB A (-x) = true) ∨ (o ∈ c.take k ∧ hasB A (-o) = false ∧ ∀ x ∈ c.take k, hasB A (-x) = true ∨ x = o)
theorem take_mem {c : List Int} {k : Nat} (h : k < c.length) {x : Int} : x ∈ c.take (k + 1) ↔ x ∈ c.take k ∨ x = c.getD k 0 := by
 rw [wm.take_snoc c k h, List.mem_append, List.mem_singleton]
set_option maxRecDepth 100000 in
set_option maxHeartbeats 4000000 in
theorem l04Clause (v u : Value) (c A : List Int) (w : World) (hC : c.length ≤ 1048576) (hA : A.length ≤ 2097152) (hc : ∀ x ∈ c, okB x = true) (hv : Sl w v c) (hu : Sl w u A) :
  Calls Tryd.prog 155 #[v, u] w fun e w' => e = .returned (.int .i64 (clauseN (setOf c) (setOf A))) ∧ w' = w := by
 have CH := hide (fun x => slw.specClauseHas u A x w hA hu)
 have HC := hide hc
 obtain ⟨a, cap, rfl, ha⟩ := hv
 have HV := hide ha
 clear ha hu hc
 go_enter Tryd.func155, Tryd.ntmps155
 go_wp2
 go_loop [6] (fun i => ∃ k : Nat, k ≤ c.length ∧ i = .int .i64 k ∧ Hid ((c.take k).any (hasB A) = false)) (fun i => c.length - (intOf i).toNat)
 case atStart => exact ⟨0, Nat.zero_le _, rfl, by show _ = _; simp⟩
 case round =>
  obtain ⟨k, hk, rfl, hall⟩ := hrel
  by_cases hlt : k < c.length
  ·rcases unhide HV with h | ⟨b, off, rfl, hb, hcb⟩
   ·rw [h] at hlt
    simp at hlt
   ·have c1 := hcb k hlt
    have hi' : (k : Int) < (c.length : Int) := by omega
    have h2 := tr.any_step (hasB A) c k 0 hlt (unhide hall)
    have hm : c.getD k 0 ∈ c := by rw [show c.getD k 0 = c[k] by simp [hlt]]; exact List.getElem_mem hlt
    generalize c.getD k 0 = x at *
    have ch := unhide CH x
    cases hx : hasB A x
    ·rw [hx] at ch
     have C2 := hide ch
     have H := hide (h2 hx)
     clear ch h2 hx hcb hall HV CH hm
     go_wp2_with (go_at_call 76; refine (unhide C2).mono ?_; rintro e w' ⟨rfl, rfl⟩)
     go_round
     case rel => exact ⟨k + 1, by omega, by go_num, H⟩
     case measure => simp [intOf]; omega
    ·rw [hx] at ch
     have C2 := hide ch
     have H := hide (cl_closed (unhide HC) hm hx)
     clear ch h2 hx hcb hall HV CH hm
     go_wp2_with (go_at_call 76; refine (unhide C2).mono ?_; rintro e w' ⟨rfl, rfl⟩)
     go_ret
     exact ⟨ret_int (unhide H).symm, rfl⟩
  ·have hi' : ¬ (k : Int) < (c.length : Int) := by omega
   have HN := hide (tr.any_end (hasB A) c k hlt (unhide hall))
   clear hall
   go_wp2
   clear hi' hlt hk
   go_loop [5, 7] (fun o i => ∃ (k : Nat) (y : Int), k ≤ c.length ∧ i = .int .i64 k ∧ o = .int .i64 y ∧ -24 ≤ y ∧ y ≤ 24 ∧ Hid (Sofar A c k y)) (fun _ i => c.length - (intOf i).toNat)
   case atStart => exact ⟨0, 0, Nat.zero_le _, rfl, rfl, by decide, by decide, .inl ⟨rfl, fun x hx => by simp at hx⟩⟩
   case round =>
    obtain ⟨k, y, hk, rfl, rfl, y1, y2, hall⟩ := hrel
    by_cases hlt : k < c.length
    ·rcases unhide HV with h | ⟨b, off, rfl, hb, hcb⟩
     ·rw [h] at hlt
      simp at hlt
     ·have c1 := hcb k hlt
      have hi' : (k : Int) < (c.length : Int) := by omega
      have hm : c.getD k 0 ∈ c := by rw [show c.getD k 0 = c[k] by simp [hlt]]; exact List.getElem_mem hlt
      have tm := fun z => take_mem hlt (x := z)
      generalize c.getD k 0 = x at *
      have okx := unhide HC x hm
      have bd := okB_iff.1 okx
      have ch := unhide CH (-x)
      obtain ⟨b0, b1, b2⟩ := bd
      cases hx : hasB A (-x)
      ·rw [hx] at ch
       have C2 := hide ch
       by_cases hxy : x = y
       ·have H : Hid (Sofar A c (k + 1) y) := by
         rcases unhide hall with ⟨q1, q2⟩ | ⟨q1, q2, q3⟩
         ·omega
         ·exact .inr ⟨(tm y).2 (.inl q1), q2, fun z hz => by
           rcases (tm z).1 hz with e | e
           ·exact q3 z e
           ·exact .inr (e.trans hxy)⟩
        subst hxy
        have he : (x == x) = true := by simp
        clear ch hx hcb hall HV CH hm tm okx
        go_wp2_with (go_at_call 76; refine (unhide C2).mono ?_; rintro e w' ⟨rfl, rfl⟩)
        go_round
        case rel => exact ⟨k + 1, x, by omega, by go_num, rfl, y1, y2, H⟩
        case measure => simp [intOf]; omega
       ·have he : (x == y) = false := by simpa using hxy
        by_cases hy0 : y = 0
        ·subst hy0
         have H : Hid (Sofar A c (k + 1) x) := by
          rcases unhide hall with ⟨q1, q2⟩ | ⟨q1, q2, q3⟩
          ·exact .inr ⟨(tm x).2 (.inr rfl), hx, fun z hz => by
            rcases (tm z).1 hz with e | e
            ·exact .inl (q2 z e)
            ·exact .inr e⟩
          ·have := okB_iff.1 (unhide HC 0 (List.mem_of_mem_take q1))
           omega
         clear ch hx hcb hall HV CH hm tm okx hxy
         go_wp2_with (go_at_call 76; refine (unhide C2).mono ?_; rintro e w' ⟨rfl, rfl⟩)
         go_round
         case rel => exact ⟨k + 1, x, by omega, by go_num, rfl, b1, b2, H⟩
         case measure => simp [intOf]; omega
        ·have hy0' : (y != 0) = true := by simpa using hy0
         have H : Hid (clauseN (setOf c) (setOf A) = 0) := by
          rcases unhide hall with ⟨q1, q2⟩ | ⟨q1, q2, q3⟩
          ·exact absurd q1 hy0
          ·exact cl_two (unhide HC) (unhide HN) hm (List.mem_of_mem_take q1) hx q2 hxy
         clear ch hx hcb hall HV CH hm tm okx hxy
         go_wp2_with (go_at_call 76; refine (unhide C2).mono ?_; rintro e w' ⟨rfl, rfl⟩)
         go_ret
         exact ⟨ret_int (unhide H).symm, rfl⟩
      ·rw [hx] at ch
       have C2 := hide ch
       have H : Hid (Sofar A c (k + 1) y) := by
        rcases unhide hall with ⟨q1, q2⟩ | ⟨q1, q2, q3⟩
        ·exact .inl ⟨q1, fun z hz => by
          rcases (tm z).1 hz with e | e
          ·exact q2 z e
          ·rw [e]; exact hx⟩
        ·exact .inr ⟨(tm y).2 (.inl q1), q2, fun z hz => by
          rcases (tm z).1 hz with e | e
          ·exact q3 z e
          ·rw [e]; exact .inl hx⟩
       clear ch hx hcb hall HV CH hm tm okx
       go_wp2_with (go_at_call 76; refine (unhide C2).mono ?_; rintro e w' ⟨rfl, rfl⟩)
       go_round
       case rel => exact ⟨k + 1, y, by omega, by go_num, rfl, y1, y2, H⟩
       case measure => simp [intOf]; omega
    ·have hi' : ¬ (k : Int) < (c.length : Int) := by omega
     have et : c.take k = c := List.take_of_length_le (by omega)
     have hs := unhide hall
     unfold Sofar at hs
     rw [et] at hs
     by_cases hy0 : y = 0
     ·subst hy0
      have H : Hid (clauseN (setOf c) (setOf A) = -100) := by
       rcases hs with ⟨q1, q2⟩ | ⟨q1, q2, q3⟩
       ·exact cl_none (unhide HC) (unhide HN) q2
       ·have := okB_iff.1 (unhide HC 0 q1)
        omega
      clear HV CH hall hs et
      go_wp2
      go_ret
      exact ⟨ret_int (unhide H).symm, rfl⟩
     ·have hy0' : (y == 0) = false := by simpa using hy0
      have H : Hid (clauseN (setOf c) (setOf A) = y) := by
       rcases hs with ⟨q1, q2⟩ | ⟨q1, q2, q3⟩
       ·exact absurd q1 hy0
       ·exact cl_one (unhide HC) (unhide HN) q1 q2 q3
      clear HV CH hall hs et
      go_wp2
      go_ret
      exact ⟨ret_int (unhide H).symm, rfl⟩
end Go.Proofs.YtibpnocpafppaaaDoor.sp
namespace Go.Proofs.YtibpnocpafppaaaDoor.sp
open Go.ChangeShapes Go.WideShapes Go.ChangeAt Go.RowKit
open lits (okB varI okB_iff)
open bset (placeN placeN_le placeN_inj setOf setOf_lt setOf_has setOf_bit withN setOf_snoc)
open cls (hasB)
open css (Sls tot)
open cf (Box)
open ok (cnfB litIn all_hit all_step all_end)
open wo (Made)
open Go.Proofs.YtibpnocpafppaaaDoor.wm
open sl (Sl Own ints hide unhide ret_int ret_bool grown_refl grown_trans grown_drewN)
set_option linter.unusedVariables false
theorem firstN_snoc (l : List Int) (x : Int) : firstN (l ++ [x]) = if firstN l = 0 then x else firstN l := by
 unfold firstN
 rw [List.find?_append]
 cases h : l.find? (fun x => x != 0) with
 | none =>
  simp only [Option.none_or, Option.getD_none, if_pos]
  by_cases hx : x = 0
  ·subst hx
   rfl
  ·rw [List.find?_cons_of_pos (by simpa using hx)]
   rfl
 | some y =>
  have hy : y ≠ 0 := by simpa using List.find?_some h
  simp only [Option.some_or, Option.getD_some]
  rw [if_neg hy]
def Met (T : Nat) (LL : List (List Int)) (k : Nat) (f : Int) : Prop := f = firstN ((LL.take k).map fun c => clauseN (setOf c) T) ∧ ((LL.take k).map fun c => clauseN (setOf c) T).any (· == -100) = false
theorem unit_hit {T : Nat} {LL : List (List Int)} {k : Nat} (h : k < LL.length) (hx : clauseN (setOf (LL.getD k [])) T = -100) : unitN (LL.map setOf) T = (0, false) := by
 unfold unitN
 rw [if_pos]
 rw [List.any_eq_true]
 refine ⟨_, List.mem_map.2 ⟨setOf (LL.getD k []), List.mem_map.2 ⟨LL.getD k [], ?_, rfl⟩, rfl⟩, ?_⟩
 ·rw [show LL.getD k [] = LL[k] by simp [h]]
  exact List.getElem_mem h
 ·rw [hx]
  rfl
theorem met_step {T : Nat} {LL : List (List Int)} {k : Nat} {f : Int} (h : k < LL.length) (hm : Met T LL k f) (hx : clauseN (setOf (LL.getD k [])) T ≠ -100) : Met T LL (k + 1) (if f = 0 then clauseN (setOf (LL.getD k [])) T else f) := by
 unfold Met at *
 rw [css.take_snoc LL k h, List.map_append, List.any_append, hm.2]
 refine ⟨?_, ?_⟩
 ·show _ = firstN (_ ++ [_])
  rw [firstN_snoc, ← hm.1]
 ·have : (clauseN (setOf (LL.getD k [])) T == -100) = false := by simpa using hx
  simp only [List.map_cons, List.map_nil, List.any_cons, List.any_nil, Bool.false_or, Bool.or_false]
  exact this
theorem met_end {T : Nat} {LL : List (List Int)} {k : Nat} {f : Int} (h : ¬ k < LL.length) (hm : Met T LL k f) : unitN (LL.map setOf) T = (f, true) := by
 unfold Met at hm
 rw [List.take_of_length_le (by omega)] at hm
 unfold unitN
 rw [List.map_map]
 rw [if_neg (by
  have := hm.2
  show ¬ ((LL.map fun c => clauseN (setOf c) T).any _) = true
  rw [this]
  simp)]
 rw [hm.1]
 rfl
set_option maxRecDepth 100000 in
set_option maxHeartbeats 2000000 in
theorem l04Unit (v u : Value) (n : Int) (LL : List (List Int)) (A : List Int) (w : World) (hn : tot LL ≤ 1048576) (hA : A.length ≤ 2097152) (hc : ∀ c ∈ LL, ∀ x ∈ c, okB x = true) (hv : Sls w v LL) (hu : Sl w u A) :
  Calls Tryd.prog 118 #[.agg #[.int .i64 n, v], u] w fun e w' => e = .returned (.tuple #[.int .i64 (unitN (LL.map setOf) (setOf A)).1, .bool (unitN (LL.map setOf) (setOf A)).2]) ∧ w.grownBy w' none := by
 have g0 := World.grownBy_alloc w (.cells #[.int .i64 n, v] 26) none
 have F0 := hide (Box.new 26 w (.int .i64 n) v)
 have G0 := hide g0
 have HU := hide (hu.kept g0 (.inl rfl))
 have hv' := hv.kept g0
 have HC := hide hc
 have hl := Nat.le_trans (css.tot_len LL) hn
 obtain ⟨a, cap, rfl, _⟩ := hv
 have HV := hide hv'
 clear hu g0 hc hv'
 have y0 := (unhide F0).c0
 have y1 := (unhide F0).c1
 go_enter Tryd.func118, Tryd.ntmps118
 go_wp2
 go_loop [6, 7] (fun f i => ∃ (k : Nat) (x : Int), k ≤ LL.length ∧ i = .int .i64 k ∧ f = .int .i64 x ∧ Hid (Met (setOf A) LL k x)) (fun _ i => LL.length - (intOf i).toNat)
 case atStart => exact ⟨0, 0, Nat.zero_le _, rfl, rfl, rfl, rfl⟩
 case round =>
  obtain ⟨k, f, hk, rfl, rfl, hm⟩ := hrel
  by_cases hlt : k < LL.length
  ·have hs := unhide HV
   obtain ⟨a', c', e', hcells⟩ := hs
   simp only [Value.slice.injEq] at e'
   obtain ⟨rfl, _, rfl⟩ := e'
   rcases hcells with h | ⟨b, off, rfl, hb, hcb⟩
   ·rw [h] at hlt
    simp at hlt
   ·obtain ⟨cu, hcu, hsl⟩ := hcb k hlt
    have hi' : (k : Int) < (LL.length : Int) := by omega
    have hLk := Nat.le_trans (css.tot_in LL k) hn
    have hmem : LL.getD k [] ∈ LL := by rw [show LL.getD k [] = LL[k] by simp [hlt]]; exact List.getElem_mem hlt
    have CC := hide (l04Clause cu u (LL.getD k []) A _ hLk hA (unhide HC _ hmem) hsl (unhide HU))
    have uh := unit_hit (T := setOf A) hlt
    have ms := met_step hlt (unhide hm)
    generalize clauseN (setOf (LL.getD k [])) (setOf A) = x at *
    by_cases hx : x = -100
    ·have E := hide (uh hx)
     subst hx
     clear uh ms hm hcb hsl hmem HV HC HU
     go_wp2_with fail
     refine (unhide CC).mono ?_; rintro e w' ⟨rfl, hw⟩; have hw' := hw.symm; clear hw; subst hw'
     go_wp2_with fail
     go_ret2
     exact ⟨by rw [unhide E]; rfl, unhide G0⟩
    ·have hx' : (x == -100) = false := by simpa using hx
     by_cases hf : f = 0
     ·have E : Hid (Met (setOf A) LL (k + 1) x) := by
       have := ms hx
       rw [if_pos hf] at this
       exact this
      subst hf
      clear uh ms hm hcb hsl hmem HC
      go_wp2_with fail
      refine (unhide CC).mono ?_; rintro e w' ⟨rfl, hw⟩; have hw' := hw.symm; clear hw; subst hw'
      go_wp2_with fail
      go_round
      case rel => exact ⟨k + 1, x, by omega, by go_num, rfl, E⟩
      case measure => simp [intOf]; omega
     ·have hf' : (f == 0) = false := by simpa using hf
      have E : Hid (Met (setOf A) LL (k + 1) f) := by
       have := ms hx
       rw [if_neg hf] at this
       exact this
      clear uh ms hm hcb hsl hmem HC
      go_wp2_with fail
      refine (unhide CC).mono ?_; rintro e w' ⟨rfl, hw⟩; have hw' := hw.symm; clear hw; subst hw'
      go_wp2_with fail
      go_round
      case rel => exact ⟨k + 1, f, by omega, by go_num, rfl, E⟩
      case measure => simp [intOf]; omega
  ·have hi' : ¬ (k : Int) < (LL.length : Int) := by omega
   have E := hide (met_end hlt (unhide hm))
   clear hm
   go_wp2
   go_ret2
   exact ⟨by rw [unhide E]; rfl, unhide G0⟩
end Go.Proofs.YtibpnocpafppaaaDoor.sp
namespace Go.Proofs.YtibpnocpafppaaaDoor.ff
open Go.ChangeShapes Go.WideShapes Go.ChangeAt Go.RowKit
open lits (okB okB_iff okB_yes)
open sl (Sl Own ints hide unhide ret_int ret_bool grown_refl grown_trans grown_drewN)
open css (Sls tot)
open cf (Box)
open cls (hasB)
open bset (setOf setOf_lt)
open ok (cnfB)
open wo (Made)
open srt (srt Tab oppN oppN_lt andN andN_eq orN_eq or_lt)
open fm (cnf_facts)
set_option linter.unusedVariables false
theorem Made.up {w w1 w2 : World} {v : Value} {L : List Int} (h : Made w w1 v L) (g : w1.grownBy w2 none) : Made w w2 v L :=
 ⟨h.1.kept g (by cases v.ownBlock with | none => exact .inl rfl | some k => exact .inr (by simp)), grown_trans h.2 g⟩
end Go.Proofs.YtibpnocpafppaaaDoor.ff
namespace Go.Proofs.YtibpnocpafppaaaDoor.sp
open Go.ChangeShapes Go.WideShapes Go.ChangeAt Go.RowKit
open lits (okB varI okB_iff)
open bset (placeN placeN_le placeN_inj setOf setOf_lt setOf_has setOf_bit withN setOf_snoc)
open css (Sls tot)
open cf (Box)
open ok (cnfB litIn)
open wo (Made)
open Go.Proofs.YtibpnocpafppaaaDoor.wm
open sl (Sl Own ints hide unhide ret_int ret_bool grown_refl grown_trans grown_drewN)
set_option linter.unusedVariables false
def Fat (Ss : List Nat) (wB w : World) (pv : Value) (F : List Int × Bool) (m n : Nat) (p : List Int) : Prop := Made wB w pv p ∧ frc Ss n (setOf p) p = F ∧ p.length + n = m ∧ 49 ≤ n + pc (setOf p)
set_option maxRecDepth 100000 in
set_option maxHeartbeats 2000000 in
theorem l04Force (v u : Value) (n : Int) (LL : List (List Int)) (L : List Int) (lo hi : Nat) (w : World) (hn : tot LL ≤ 1048576) (hL : L.length ≤ 1048576) (hc : ∀ c ∈ LL, ∀ x ∈ c, okB x = true) (hv : Sls w v LL) (hu : Own lo hi w u L) :
  Calls Tryd.prog 59 #[.agg #[.int .i64 n, v], u] w fun e w' => ∃ r, e = .returned (.tuple #[r, .bool (frc (LL.map setOf) 49 (setOf L) L).2]) ∧ Made w w' r (frc (LL.map setOf) 49 (setOf L) L).1 := by
 have g0 := World.grownBy_alloc w (.cells #[.int .i64 n, v] 26) none
 have F0 := hide (Box.new 26 w (.int .i64 n) v)
 have G0 := hide g0
 have mn := hide (app.made_nil (w.alloc (.cells #[.int .i64 n, v] 26)))
 have U0 := hide ((hu.kept g0).kept (unhide mn).2)
 have HV := hide (hv.kept g0)
 have HC := hide hc
 obtain ⟨ua, uc, eu, _⟩ := hu.sl
 subst eu
 generalize hF : frc (LL.map setOf) 49 (setOf L) L = F at *
 have HF := hide hF
 clear hv hu g0 hc hF
 simp only [World.size_alloc] at mn
 go_enter Tryd.func59, Tryd.ntmps59
 go_wp2_with (at_builtin; refine app.appendI (w := w.alloc (.cells #[.int .i64 n, v] 26)) (A := []) (unhide mn).2 (unhide mn).1 (unhide U0) (by show 0 + L.length ≤ 4194304; omega) rfl _ _ rfl rfl rfl ?_)
 intro y w3 m3 g3
 have st : Hid (Fat (LL.map setOf) (w.alloc (.cells #[.int .i64 n, v] 26)) w3 y F (L.length + 49) 49 L) := ⟨m3, unhide HF, rfl, by omega⟩
 obtain ⟨ya, yc, ey, _⟩ := Sl.of_own (show w3.ownsRow _ 3 1 y L.length (ints L) from m3.1)
 subst ey
 clear m3 g3 mn U0
 generalize hm : L.length + 49 = m at *
 have hm' : m ≤ 1048700 := by omega
 have hmL : L.length + 49 = m := hm
 clear hm
 go_wp2_with fail
 go_loopw [6] (fun pv wr => ∃ (q : Nat) (p : List Int), slLen pv + q = m ∧ Hid (Fat (LL.map setOf) (w.alloc (.cells #[.int .i64 n, v] 26)) wr pv F m q p)) (fun pv _ => m - slLen pv)
 case atStart => exact ⟨49, L, hmL, st⟩
 case round =>
  obtain ⟨q, p, hq, ha⟩ := hrel
  clear st
  obtain ⟨md, f1, f2, f3⟩ := unhide ha
  have hq0 : q ≠ 0 := fun e => by
   have := pc_le (setOf p)
   omega
  obtain ⟨q', rfl⟩ : ∃ q', q = q' + 1 := ⟨q - 1, by omega⟩
  have F1 := hide ((unhide F0).kept md.2)
  have y0 := (unhide F1).c0
  have y1 := (unhide F1).c1
  have hp : p.length ≤ 2097152 := by omega
  have sl := sl.Sl.of_own md.1
  have CU := hide (l04Unit v _ n LL p _ hn hp (unhide HC) ((unhide HV).kept md.2) sl)
  obtain ⟨pa, pcap, ep, _⟩ := sl
  have un := unit_new (Ss := LL.map setOf) (T := setOf p) (set_bd LL)
  have MD := hide md
  cases hok : (unitN (LL.map setOf) (setOf p)).2
  ·have eF : Hid (F = (p, false)) := by
    show F = _
    rw [← f1]
    exact frc_stop hok
   rw [hok] at CU
   clear un f1 f2 f3 ha hok md HC HV
   subst ep
   generalize (unitN (LL.map setOf) (setOf p)).1 = x at *
   go_wp2_with fail
   refine (unhide CU).mono ?_; rintro e w4 ⟨rfl, g4⟩
   have M4 := hide (made_low (unhide G0) (ff.Made.up (unhide MD) g4))
   clear CU g4 y0 y1 F1 MD
   go_wp2_with fail
   go_ret2
   exact ⟨_, by rw [unhide eF]; rfl, by rw [unhide eF]; exact unhide M4⟩
  ·rw [hok] at CU
   by_cases hx0 : (unitN (LL.map setOf) (setOf p)).1 = 0
   ·have eF : Hid (F = (p, true)) := by
     show F = _
     rw [← f1]
     exact frc_end hok hx0
    rw [hx0] at CU
    clear un f1 f2 f3 ha hok md HC HV hx0
    subst ep
    go_wp2_with fail
    refine (unhide CU).mono ?_; rintro e w4 ⟨rfl, g4⟩
    have M4 := hide (made_low (unhide G0) (ff.Made.up (unhide MD) g4))
    clear CU g4 y0 y1 F1 MD
    go_wp2_with fail
    go_ret2
    exact ⟨_, by rw [unhide eF]; rfl, by rw [unhide eF]; exact unhide M4⟩
   ·have un' := un hok hx0
    have eF := frc_more (n := q') (p := p) hok hx0
    rw [f1] at eF
    have hset : setOf (p ++ [(unitN (LL.map setOf) (setOf p)).1]) = withN (setOf p) (unitN (LL.map setOf) (setOf p)).1 := by rw [setOf_snoc, un'.1]; rfl
    have hpc := pc_with un'.1 un'.2.1
    generalize (unitN (LL.map setOf) (setOf p)).1 = x at *
    rw [← hset] at eF hpc
    have FX := hide eF
    have HP := hide (And.intro f2 (And.intro f3 hpc))
    have hxz : (x == 0) = false := by simpa using hx0
    clear un un' f1 f2 f3 ha hok md HC HV hx0 eF hset hpc
    subst ep
    have hpl : p.length ≤ 2097152 := hp
    go_wp2_with fail
    refine (unhide CU).mono ?_; rintro e w4 ⟨rfl, g4⟩
    have M4 := ff.Made.up (unhide MD) g4
    have m40 := M4.1
    have m41 := M4.2
    have HM := hide M4
    clear CU g4 y0 y1 F1 MD M4
    go_wp2_with (at_builtin; refine wo.append1 m41 m40 (by omega) rfl _ _ rfl rfl rfl ?_)
    intro v5 w5 R5
    have M5 := hide R5
    clear m40 m41 R5 HM
    obtain ⟨va, vc, ev, _⟩ := Sl.of_own (unhide M5).1
    rw [List.length_append] at ev
    have ev' : v5 = .slice va (p.length + 1) vc := ev
    subst ev'
    have hk := unhide HP
    go_wp2_with fail
    go_roundw
    case rel => exact ⟨q', p ++ [x], by show p.length + 1 + q' = m; omega, unhide M5, (unhide FX).symm, by rw [List.length_append]; show p.length + 1 + q' = m; omega, by omega⟩
    case measure => show m - (p.length + 1) < m - p.length; omega
end Go.Proofs.YtibpnocpafppaaaDoor.sp
