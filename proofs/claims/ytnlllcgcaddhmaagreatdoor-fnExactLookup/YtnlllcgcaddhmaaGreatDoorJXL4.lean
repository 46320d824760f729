/- What the model's l04Lits, l04Clause (whether a clause is empty) and l05Open answer; no condition but that the clauses hold literals, and on the sizes. -/
import Derived.Test.YtnlllcgcaddhmaaGreatDoorJOn
import Derived.Test.YtnlllcgcaddhmaaGreatDoorJXSlw
import Derived.Deep.QuietTactic
import Derived.BigQuiet
namespace Go.Proofs.YtnlllcgcaddhmaaGreatDoor.l4
open Go.ChangeShapes Go.WideShapes Go.ChangeAt Go.RowKit
open lits (okB varI okB_iff)
open cls (hasB)
open css (Sls tot)
open cf (Box)
open ok (cnfB clB litIn all_hit all_step all_end)
open sl (Sl Own ints hide unhide ret_int ret_bool grown_refl grown_trans grown_drewN)
set_option linter.unusedVariables false
set_option maxRecDepth 100000 in
set_option maxHeartbeats 4000000 in
theorem l04Lits (v u : Value) (n : Int) (L : List Int) (w : World) (hL : L.length ≤ 1048576) (hu : Sl w u L) :
  Calls Tryz.prog 138 #[.agg #[.int .i64 n, v], u] w fun e w' => e = .returned (.bool (L.all (litIn n))) ∧ w.grownBy w' none := by
 have g0 := World.grownBy_alloc w (.cells #[.int .i64 n, v] 26) none
 have F0 := hide (Box.new 26 w (.int .i64 n) v)
 have G0 := hide g0
 have HU := hide (hu.kept g0 (.inl rfl))
 obtain ⟨a, cap, rfl, _⟩ := hu
 clear g0
 go_enter Tryz.func138, Tryz.ntmps138
 go_wp2
 go_loopw [5] (fun i wr => ∃ k : Nat, k ≤ L.length ∧ i = .int .i64 k ∧ Hid ((L.take k).all (litIn n) = true) ∧ Hid ((w.alloc (.cells #[.int .i64 n, v] 26)).grownBy wr none)) (fun i _ => L.length - (intOf i).toNat)
 case atStart => exact ⟨0, Nat.zero_le _, rfl, (by show _ = _; simp), grown_refl _⟩
 case round =>
  obtain ⟨k, hk, rfl, hall, hg⟩ := hrel
  have GW := hide (grown_trans (r := none) (unhide G0) (unhide hg))
  have F1 := hide ((unhide F0).kept (unhide hg))
  have y0 := (unhide F1).c0
  have y1 := (unhide F1).c1
  by_cases hlt : k < L.length
  ·have hs := (unhide HU).kept (unhide hg) (.inl rfl)
   obtain ⟨a', c', e', hcells⟩ := hs
   simp only [Value.slice.injEq] at e'
   obtain ⟨rfl, _, rfl⟩ := e'
   rcases hcells with h | ⟨b, off, rfl, hb, hcb⟩
   ·rw [h] at hlt
    simp at hlt
   ·have c1 := hcb k hlt
    have hi' : (k : Int) < (L.length : Int) := by omega
    have h1 := all_hit (litIn n) L k 0 hlt
    have h2 := all_step (litIn n) L k 0 hlt (unhide hall)
    generalize L.getD k 0 = x at *
    have cx := lits.specLitOk x
    have cv := lits.specLitVar x
    cases hx : okB x
    ·rw [hx] at cx
     have CX := hide cx
     have H := hide (h1 (by unfold ok.litIn; rw [hx]; rfl))
     clear cx cv h1 h2 hx hcb hall F0 F1 HU
     go_wp2
     go_quiet (first | (go_at_call 175; refine Calls.quiet_of_same (unhide CX _)))
     go_wp2
     go_ret
     exact ⟨ret_bool (unhide H).symm, grown_trans (unhide GW) (grown_drewN _ _)⟩
    ·rw [hx] at cx
     have CX := hide cx
     have CV := hide cv
     by_cases hq : varI x ≤ n
     ·have H := hide (h2 (by unfold ok.litIn; rw [hx, decide_eq_true hq]; rfl))
      clear cx cv h1 h2 hx hcb hall F1 HU
      generalize varI x = y at *
      have hq' : decide (n < y) = false := decide_eq_false (by omega)
      go_wp2
      go_quiet (first | (go_at_call 175; exact (unhide CX _).mono (fun _ _ h => ⟨h.1, _, h.2⟩)) | (go_at_call 176; exact (unhide CV _).mono (fun _ _ h => ⟨h.1, _, h.2⟩)))
      go_wp2
      go_roundw
      case rel => exact ⟨k + 1, by omega, by go_num, H, grown_trans (unhide hg) (grown_drewN _ _)⟩
      case measure => simp [intOf]; omega
     ·have H := hide (h1 (by unfold ok.litIn; rw [decide_eq_false hq, Bool.and_false]))
      clear cx cv h1 h2 hx hcb hall F1 HU
      generalize varI x = y at *
      have hq' : n < y := by omega
      go_wp2
      go_quiet (first | (go_at_call 175; exact (unhide CX _).mono (fun _ _ h => ⟨h.1, _, h.2⟩)) | (go_at_call 176; exact (unhide CV _).mono (fun _ _ h => ⟨h.1, _, h.2⟩)))
      go_wp2
      go_ret
      exact ⟨ret_bool (unhide H).symm, grown_trans (unhide GW) (grown_drewN _ _)⟩
  ·have hi' : ¬ (k : Int) < (L.length : Int) := by omega
   have HR := hide (all_end (litIn n) L k hlt (unhide hall))
   clear HU hall
   go_wp2
   go_ret
   exact ⟨ret_bool (unhide HR).symm, unhide GW⟩
def emptyB (A c : List Int) : Bool := c.all (fun x => hasB A (-x)) && !c.any (hasB A)
theorem em_closed {A c : List Int} {x : Int} (hx : x ∈ c) (h : hasB A x = true) : emptyB A c = false := by
 unfold emptyB
 rw [show c.any (hasB A) = true from List.any_eq_true.2 ⟨x, hx, h⟩]
 simp
theorem em_open {A c : List Int} {x : Int} (hx : x ∈ c) (h : hasB A (-x) = false) : emptyB A c = false := by
 unfold emptyB
 rw [show c.all (fun x => hasB A (-x)) = false from List.all_eq_false.2 ⟨x, hx, by rw [h]; decide⟩]
 rfl
theorem em_none {A c : List Int} (hn : c.any (hasB A) = false) (h : ∀ x ∈ c, hasB A (-x) = true) : emptyB A c = true := by
 unfold emptyB
 rw [hn, List.all_eq_true.2 h]
 rfl
def Sofar (A c : List Int) (k : Nat) (o : Int) : Prop := (o = 0 ∧ ∀ x ∈ c.take k, hasB A (-x) = true) ∨ (o ∈ c.take k ∧ hasB A (-o) = false ∧ ∀ x ∈ c.take k, hasB A (-x) = true ∨ x = o)
theorem take_mem {c : List Int} {k : Nat} (h : k < c.length) {x : Int} : x ∈ c.take (k + 1) ↔ x ∈ c.take k ∨ x = c.getD k 0 := by
 rw [List.take_succ_eq_append_getElem h, List.mem_append, List.mem_singleton, show c.getD k 0 = c[k] by simp [h]]
set_option maxRecDepth 100000 in
set_option maxHeartbeats 4000000 in
theorem l04Clause (v u : Value) (c A : List Int) (w : World) (hC : c.length ≤ 1048576) (hA : A.length ≤ 2097152) (hc : ∀ x ∈ c, okB x = true) (hv : Sl w v c) (hu : Sl w u A) :
  Calls Tryz.prog 198 #[v, u] w fun e w' => ∃ r : Int, e = .returned (.int .i64 r) ∧ ((r == -100) = emptyB A c) ∧ w' = w := by
 have CH := hide (fun x => slw.specClauseHas u A x w hA hu)
 have HC := hide hc
 obtain ⟨a, cap, rfl, ha⟩ := hv
 have HV := hide ha
 clear ha hu hc
 go_enter Tryz.func198, Tryz.ntmps198
 go_wp2
 go_loop [6] (fun i => ∃ k : Nat, k ≤ c.length ∧ i = .int .i64 k ∧ Hid ((c.take k).any (hasB A) = false)) (fun i => c.length - (intOf i).toNat)
 case atStart => exact ⟨0, Nat.zero_le _, rfl, by show _ = _; simp⟩
 case round =>
  obtain ⟨k, hk, rfl, hall⟩ := hrel
  by_cases hlt : k < c.length
  ·rcases unhide HV with h | ⟨b, off, rfl, hb, hcb⟩
   ·rw [h] at hlt
    simp at hlt
   ·have c1 := hcb k hlt
    have hi' : (k : Int) < (c.length : Int) := by omega
    have h2 := tr.any_step (hasB A) c k 0 hlt (unhide hall)
    have hm : c.getD k 0 ∈ c := by rw [show c.getD k 0 = c[k] by simp [hlt]]; exact List.getElem_mem hlt
    generalize c.getD k 0 = x at *
    have ch := unhide CH x
    cases hx : hasB A x
    ·rw [hx] at ch
     have C2 := hide ch
     have H := hide (h2 hx)
     clear ch h2 hx hcb hall HV CH hm
     go_wp2_with (go_at_call 134; refine (unhide C2).mono ?_; rintro e w' ⟨rfl, rfl⟩)
     go_round
     case rel => exact ⟨k + 1, by omega, by go_num, H⟩
     case measure => simp [intOf]; omega
    ·rw [hx] at ch
     have C2 := hide ch
     have H := hide (em_closed hm hx)
     clear ch h2 hx hcb hall HV CH hm
     go_wp2_with (go_at_call 134; refine (unhide C2).mono ?_; rintro e w' ⟨rfl, rfl⟩)
     go_ret
     exact ⟨0, rfl, by rw [unhide H]; rfl, rfl⟩
  ·have hi' : ¬ (k : Int) < (c.length : Int) := by omega
   have HN := hide (tr.any_end (hasB A) c k hlt (unhide hall))
   clear hall
   go_wp2
   clear hi' hlt hk
   go_loop [5, 7] (fun o i => ∃ (k : Nat) (y : Int), k ≤ c.length ∧ i = .int .i64 k ∧ o = .int .i64 y ∧ -24 ≤ y ∧ y ≤ 24 ∧ Hid (Sofar A c k y)) (fun _ i => c.length - (intOf i).toNat)
   case atStart => exact ⟨0, 0, Nat.zero_le _, rfl, rfl, by decide, by decide, .inl ⟨rfl, fun x hx => by simp at hx⟩⟩
   case round =>
    obtain ⟨k, y, hk, rfl, rfl, y1, y2, hall⟩ := hrel
    by_cases hlt : k < c.length
    ·rcases unhide HV with h | ⟨b, off, rfl, hb, hcb⟩
     ·rw [h] at hlt
      simp at hlt
     ·have c1 := hcb k hlt
      have hi' : (k : Int) < (c.length : Int) := by omega
      have hm : c.getD k 0 ∈ c := by rw [show c.getD k 0 = c[k] by simp [hlt]]; exact List.getElem_mem hlt
      have tm := fun z => take_mem hlt (x := z)
      generalize c.getD k 0 = x at *
      have okx := unhide HC x hm
      have bd := okB_iff.1 okx
      have ch := unhide CH (-x)
      obtain ⟨b0, b1, b2⟩ := bd
      cases hx : hasB A (-x)
      ·rw [hx] at ch
       have C2 := hide ch
       by_cases hxy : x = y
       ·have H : Hid (Sofar A c (k + 1) y) := by
         rcases unhide hall with ⟨q1, q2⟩ | ⟨q1, q2, q3⟩
         ·omega
         ·exact .inr ⟨(tm y).2 (.inl q1), q2, fun z hz => by
           rcases (tm z).1 hz with e | e
           ·exact q3 z e
           ·exact .inr (e.trans hxy)⟩
        subst hxy
        have he : (x == x) = true := by simp
        clear ch hx hcb hall HV CH hm tm okx
        go_wp2_with (go_at_call 134; refine (unhide C2).mono ?_; rintro e w' ⟨rfl, rfl⟩)
        go_round
        case rel => exact ⟨k + 1, x, by omega, by go_num, rfl, y1, y2, H⟩
        case measure => simp [intOf]; omega
       ·have he : (x == y) = false := by simpa using hxy
        by_cases hy0 : y = 0
        ·subst hy0
         have H : Hid (Sofar A c (k + 1) x) := by
          rcases unhide hall with ⟨q1, q2⟩ | ⟨q1, q2, q3⟩
          ·exact .inr ⟨(tm x).2 (.inr rfl), hx, fun z hz => by
            rcases (tm z).1 hz with e | e
            ·exact .inl (q2 z e)
            ·exact .inr e⟩
          ·have := okB_iff.1 (unhide HC 0 (List.mem_of_mem_take q1))
           omega
         clear ch hx hcb hall HV CH hm tm okx hxy
         go_wp2_with (go_at_call 134; refine (unhide C2).mono ?_; rintro e w' ⟨rfl, rfl⟩)
         go_round
         case rel => exact ⟨k + 1, x, by omega, by go_num, rfl, b1, b2, H⟩
         case measure => simp [intOf]; omega
        ·have hy0' : (y != 0) = true := by simpa using hy0
         have H : Hid (emptyB A c = false) := em_open hm hx
         clear ch hx hcb hall HV CH hm tm okx hxy
         go_wp2_with (go_at_call 134; refine (unhide C2).mono ?_; rintro e w' ⟨rfl, rfl⟩)
         go_ret
         exact ⟨0, rfl, by rw [unhide H]; rfl, rfl⟩
      ·rw [hx] at ch
       have C2 := hide ch
       have H : Hid (Sofar A c (k + 1) y) := by
        rcases unhide hall with ⟨q1, q2⟩ | ⟨q1, q2, q3⟩
        ·exact .inl ⟨q1, fun z hz => by
          rcases (tm z).1 hz with e | e
          ·exact q2 z e
          ·rw [e]; exact hx⟩
        ·exact .inr ⟨(tm y).2 (.inl q1), q2, fun z hz => by
          rcases (tm z).1 hz with e | e
          ·exact q3 z e
          ·rw [e]; exact .inl hx⟩
       clear ch hx hcb hall HV CH hm tm okx
       go_wp2_with (go_at_call 134; refine (unhide C2).mono ?_; rintro e w' ⟨rfl, rfl⟩)
       go_round
       case rel => exact ⟨k + 1, y, by omega, by go_num, rfl, y1, y2, H⟩
       case measure => simp [intOf]; omega
    ·have hi' : ¬ (k : Int) < (c.length : Int) := by omega
     have et : c.take k = c := List.take_of_length_le (by omega)
     have hs := unhide hall
     unfold Sofar at hs
     rw [et] at hs
     by_cases hy0 : y = 0
     ·subst hy0
      have H : Hid (emptyB A c = true) := by
       rcases hs with ⟨q1, q2⟩ | ⟨q1, q2, q3⟩
       ·exact em_none (unhide HN) q2
       ·have := okB_iff.1 (unhide HC 0 q1)
        omega
      clear HV CH hall hs et
      go_wp2
      go_ret
      exact ⟨-100, rfl, by rw [unhide H]; rfl, rfl⟩
     ·have hy0' : (y == 0) = false := by simpa using hy0
      have H : Hid (emptyB A c = false) := by
       rcases hs with ⟨q1, q2⟩ | ⟨q1, q2, q3⟩
       ·exact absurd q1 hy0
       ·exact em_open q1 q2
      clear HV CH hall hs et
      go_wp2
      go_ret
      exact ⟨y, rfl, by rw [unhide H]; exact beq_eq_false_iff_ne.2 (by omega), rfl⟩
def openB (LL : List (List Int)) (A : List Int) : Bool := LL.all fun c => !emptyB A c
set_option maxRecDepth 100000 in
set_option maxHeartbeats 4000000 in
theorem l05Open (v u : Value) (n : Int) (LL : List (List Int)) (A : List Int) (w : World) (hn : tot LL ≤ 1048576) (hA : A.length ≤ 2097152) (hc : ∀ c ∈ LL, ∀ x ∈ c, okB x = true) (hv : Sls w v LL) (hu : Sl w u A) :
  Calls Tryz.prog 177 #[.agg #[.int .i64 n, v], u] w fun e w' => e = .returned (.bool (openB LL A)) ∧ w.grownBy w' none := by
 have hl := Nat.le_trans (css.tot_len LL) hn
 have hin : ∀ i, (LL.getD i []).length ≤ 1048576 := fun i => Nat.le_trans (css.tot_in LL i) hn
 have g0 := World.grownBy_alloc w (.cells #[.int .i64 n, v] 26) none
 have F0 := hide (Box.new 26 w (.int .i64 n) v)
 have HU := hide (hu.kept g0 (.inl rfl))
 have HV := hide (hv.kept g0)
 have HC := hide hc
 have HI := hide hin
 have G0 := hide g0
 obtain ⟨a, cap, rfl, _⟩ := hv
 clear g0 hu hc hin
 go_enter Tryz.func177, Tryz.ntmps177
 go_wp2
 go_loop [5] (fun i => ∃ k : Nat, k ≤ LL.length ∧ i = .int .i64 k ∧ Hid ((LL.take k).all (fun c => !emptyB A c) = true)) (fun i => LL.length - (intOf i).toNat)
 case atStart => exact ⟨0, Nat.zero_le _, rfl, by show _ = _; simp⟩
 case round =>
  obtain ⟨k, hk, rfl, hall⟩ := hrel
  have y0 := (unhide F0).c0
  have y1 := (unhide F0).c1
  by_cases hlt : k < LL.length
  ·obtain ⟨a', cap', e', ha⟩ := unhide HV
   simp only [Value.slice.injEq] at e'
   obtain ⟨rfl, _, rfl⟩ := e'
   rcases ha with h | ⟨b, off, rfl, hb, hcb⟩
   ·rw [h] at hlt
    simp at hlt
   ·obtain ⟨q, hq, hs⟩ := hcb k hlt
    have hi' : (k : Int) < (LL.length : Int) := by omega
    have h1 := all_hit (fun c => !emptyB A c) LL k [] hlt
    have h2 := all_step (fun c => !emptyB A c) LL k [] hlt (unhide hall)
    have hm : LL.getD k [] ∈ LL := by rw [show LL.getD k [] = LL[k] by simp [hlt]]; exact List.getElem_mem hlt
    have hL := unhide HI k
    have okc := unhide HC _ hm
    generalize LL.getD k [] = L at *
    have C := hide (l04Clause q u L A _ hL hA okc hs (unhide HU))
    clear hcb hall HV HU hs okc hm HC HI
    cases hb : emptyB A L
    ·have H := hide (h2 (by rw [hb]; rfl))
     rw [hb] at C
     clear h1 h2 hb
     go_wp2_with fail
     refine (unhide C).mono ?_; rintro e w' ⟨r, rfl, hr, hw⟩; have hw' := hw.symm; clear hw; subst hw'
     go_wp2_with fail
     go_round
     case rel => exact ⟨k + 1, by omega, by go_num, H⟩
     case measure => simp [intOf]; omega
    ·have H := hide (h1 (by rw [hb]; rfl))
     rw [hb] at C
     clear h1 h2 hb
     go_wp2_with fail
     refine (unhide C).mono ?_; rintro e w' ⟨r, rfl, hr, hw⟩; have hw' := hw.symm; clear hw; subst hw'
     go_wp2_with fail
     go_ret
     exact ⟨ret_bool (unhide H).symm, unhide G0⟩
  ·have hi' : ¬ (k : Int) < (LL.length : Int) := by omega
   have H := hide (all_end (fun c => !emptyB A c) LL k hlt (unhide hall))
   clear hall HV HU
   go_wp2
   go_ret
   exact ⟨ret_bool (unhide H).symm, unhide G0⟩
end Go.Proofs.YtnlllcgcaddhmaaGreatDoor.l4
