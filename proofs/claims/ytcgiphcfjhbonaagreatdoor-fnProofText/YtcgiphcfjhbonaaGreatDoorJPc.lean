/- Plain mathematics of the walk that refutes a formula, and of clauses that follow at once; no condition. How long a proof is that is found; no condition. What Fix (of the program and of its model) answers at every formula that holds at most 2^20 values and every number; no other condition. What Fix (of the program and of its model) answers at every formula that holds at most 2^20 values and every number, with the clauses in memory of their own; no other condition. What CnfJoin (of the program and of its model) answers at every two formulas of the call's own that hold at most 2^20 values each; no other condition. What the model's l06Bad and FirstBad answer; no condition but on the sizes. What FirstBad and Check (of the program and of its model) answer; no condition but on the sizes and that the library's table of places lies as its text lays it. Plain mathematics of trimming a proof; no condition. What the model's Trim answers; no condition but on the sizes. -/
import Derived.Test.YtcgiphcfjhbonaaGreatDoorJIb
import Derived.Test.YtcgiphcfjhbonaaGreatDoorJIw
import Derived.Test.YtcgiphcfjhbonaaGreatDoorGr
import Derived.Deep.RegionHeld3
import Derived.Test.YtcgiphcfjhbonaaGreatDoorOk
import Derived.Test.YtcgiphcfjhbonaaGreatDoorWo
import Derived.Test.YtcgiphcfjhbonaaGreatDoorApp
import Derived.Test.YtcgiphcfjhbonaaGreatDoorNs
namespace Go.Proofs.YtcgiphcfjhbonaaGreatDoor.xw
open Go.RowKit
open lits (okB okB_iff)
open bset (placeN placeN_le placeN_inj setOf setOf_lt setOf_has setOf_snoc withN withN_bit)
open srt (fstI oppN oppN_bit oppN_lt swp hi_bit litI)
open cls (hasB)
open css (tot)
open ok (cnfB clB litIn)
open fm (freeL freeN)
open wm (frc frt unitN unit_new failB leftN failN pc pc_le pc_with litI_spec swp_place opp_ok set_bd)
open sp (negL)
set_option linter.unusedVariables false
theorem bits_eq {S T : Nat} (hS : S < 2 ^ 48) (hT : T < 2 ^ 48) (h : ∀ x, okB x = true → S.testBit (placeN x) = T.testBit (placeN x)) : S = T := by
 apply Nat.eq_of_testBit_eq
 intro b
 by_cases hb : b < 48
 ·have k := litI_spec hb
  have := h (litI b) k.1
  rw [k.2] at this
  exact this
 ·rw [hi_bit hS (by omega), hi_bit hT (by omega)]
theorem set_neg (L : List Int) : setOf (negL L) = oppN (setOf L) := by
 refine bits_eq (setOf_lt _) (oppN_lt _) fun x hx => ?_
 have hp := placeN_le hx
 rw [setOf_has _ x hx, oppN_bit, decide_eq_true (show placeN x < 48 by omega), Bool.true_and, swp_place hx, setOf_has L (-x) (opp_ok hx)]
 unfold cls.hasB
 congr 1
 apply propext
 unfold sp.negL
 rw [List.mem_map]
 constructor
 ·rintro ⟨y, hy, rfl⟩
  rwa [Int.neg_neg]
 ·intro h
  exact ⟨-x, h, Int.neg_neg x⟩
theorem frc_snd (Ss : List Nat) : ∀ (n T : Nat) (p q : List Int), (frc Ss n T p).2 = (frc Ss n T q).2 := by
 intro n
 induction n with
 | zero => intro T p q; rfl
 | succ n ih =>
  intro T p q
  cases h : (unitN Ss T).2
  ·rw [wm.frc_stop h, wm.frc_stop h]
  ·by_cases h0 : (unitN Ss T).1 = 0
   ·rw [wm.frc_end h h0, wm.frc_end h h0]
   ·rw [wm.frc_more h h0, wm.frc_more h h0]
    exact ih _ _ _
theorem frc_set {Ss : List Nat} (hS : ∀ S ∈ Ss, S < 2 ^ 48) : ∀ (n : Nat) (p : List Int), setOf (frc Ss n (setOf p) p).1 = frt Ss n (setOf p) := by
 intro n
 induction n with
 | zero => intro p; rfl
 | succ n ih =>
  intro p
  cases h : (unitN Ss (setOf p)).2
  ·rw [wm.frc_stop h, wm.frt_stop h]
  ·by_cases h0 : (unitN Ss (setOf p)).1 = 0
   ·rw [wm.frc_end h h0, wm.frt_end h0]
   ·have hx := (unit_new hS h h0).1
    have e : withN (setOf p) (unitN Ss (setOf p)).1 = setOf (p ++ [(unitN Ss (setOf p)).1]) := by rw [setOf_snoc, if_pos hx]
    rw [wm.frc_more h h0, wm.frt_more h h0, e]
    exact ih _
theorem frc_sub (Ss : List Nat) : ∀ (n T : Nat) (p : List Int), ∃ r, (frc Ss n T p).1 = p ++ r := by
 intro n
 induction n with
 | zero => intro T p; exact ⟨[], (List.append_nil p).symm⟩
 | succ n ih =>
  intro T p
  cases h : (unitN Ss T).2
  ·rw [wm.frc_stop h]; exact ⟨[], (List.append_nil p).symm⟩
  ·by_cases h0 : (unitN Ss T).1 = 0
   ·rw [wm.frc_end h h0]; exact ⟨[], (List.append_nil p).symm⟩
   ·rw [wm.frc_more h h0]
    obtain ⟨r, e⟩ := ih (withN T (unitN Ss T).1) (p ++ [(unitN Ss T).1])
    exact ⟨(unitN Ss T).1 :: r, by rw [e, List.append_assoc]; rfl⟩
theorem srt_head {S : Nat} (h0 : 0 < S) (h : S < 2 ^ 48) : ∃ r, srt.srt S 48 = fstI S :: r := by
 obtain ⟨t, m, et, ht, es⟩ := srt.low h0 h
 have lo : ∀ i, 0 ≤ i → i < t → S.testBit i = false := fun i _ hi => by
  rw [es, srt.low_bit, if_pos (by omega), decide_eq_false (by omega)]
 have hit : S.testBit t = true := by rw [es, srt.low_bit, if_pos (by omega), decide_eq_true rfl]
 have e1 : srt.srt S (t + 1) = [litI t] := by
  rw [srt.srt_yes hit, srt.srt_skip (Nat.zero_le t) lo]
  rfl
 have more : ∀ k, ∃ r, srt.srt S (t + 1 + k) = litI t :: r := by
  intro k
  induction k with
  | zero => exact ⟨[], e1⟩
  | succ k ih =>
   obtain ⟨r, e⟩ := ih
   rw [show t + 1 + (k + 1) = t + 1 + k + 1 by omega]
   cases hb : S.testBit (t + 1 + k)
   ·rw [srt.srt_no hb]; exact ⟨r, e⟩
   ·rw [srt.srt_yes hb, e]; exact ⟨r ++ [litI (t + 1 + k)], rfl⟩
 have := more (48 - (t + 1))
 rw [show t + 1 + (48 - (t + 1)) = 48 by omega] at this
 unfold srt.fstI
 rw [← et]
 exact this
theorem srt_none (S : Nat) (h : S = 0) : srt.srt S 48 = [] := by
 subst h
 rw [srt.srt_skip (p := 0) (Nat.zero_le 48) (fun i _ _ => Nat.zero_testBit i)]
 rfl
def full (n : Int) (LL : List (List Int)) : Nat → List Int → Option (List (List Int))
 | 0, _ => none
 | k + 1, d =>
  if (frc (LL.map setOf) 49 (setOf d) d).2 = false then some [negL d]
  else match freeL n LL (frc (LL.map setOf) 49 (setOf d) d).1 with
   | [] => none
   | x :: _ => (full n LL k (d ++ [-x])).bind fun A => (full n LL k (d ++ [x])).map fun B => A ++ B ++ [negL d]
theorem full_stop {n : Int} {LL : List (List Int)} {k : Nat} {d : List Int} (h : (frc (LL.map setOf) 49 (setOf d) d).2 = false) : full n LL (k + 1) d = some [negL d] := by
 rw [full, if_pos h]
theorem full_end {n : Int} {LL : List (List Int)} {k : Nat} {d : List Int} (h : (frc (LL.map setOf) 49 (setOf d) d).2 = true) (h0 : freeL n LL (frc (LL.map setOf) 49 (setOf d) d).1 = []) : full n LL (k + 1) d = none := by
 rw [full, if_neg (by rw [h]; simp), h0]
theorem full_more {n : Int} {LL : List (List Int)} {k : Nat} {d : List Int} {x : Int} {r : List Int} (h : (frc (LL.map setOf) 49 (setOf d) d).2 = true) (h0 : freeL n LL (frc (LL.map setOf) 49 (setOf d) d).1 = x :: r) :
  full n LL (k + 1) d = (full n LL k (d ++ [-x])).bind fun A => (full n LL k (d ++ [x])).map fun B => A ++ B ++ [negL d] := by
 rw [full, if_neg (by rw [h]; simp), h0]
theorem full_pos {n : Int} {LL : List (List Int)} {k : Nat} {d : List Int} {C : List (List Int)} (h : full n LL k d = some C) : 0 < C.length := by
 cases k with
 | zero => cases h
 | succ k =>
  cases hf : (frc (LL.map setOf) 49 (setOf d) d).2
  ·rw [full_stop hf] at h
   cases h
   exact Nat.one_pos
  ·cases h0 : freeL n LL (frc (LL.map setOf) 49 (setOf d) d).1 with
   | nil => rw [full_end hf h0] at h; cases h
   | cons x r =>
    rw [full_more hf h0] at h
    cases ha : full n LL k (d ++ [-x]) with
    | none => rw [ha] at h; cases h
    | some A =>
     cases hb : full n LL k (d ++ [x]) with
     | none => rw [ha, hb] at h; cases h
     | some B =>
      rw [ha, hb] at h
      cases h
      simp
      omega
theorem free_new {n : Int} {LL : List (List Int)} {Ss : List Nat} {d r : List Int} {x : Int} (h : freeL n LL (frc Ss 49 (setOf d) d).1 = x :: r) : (setOf d).testBit (placeN x) = false ∧ (setOf d).testBit (placeN (-x)) = false := by
 obtain ⟨q, eq⟩ := frc_sub Ss 49 (setOf d) d
 have hx : x ∈ freeL n LL (frc Ss 49 (setOf d) d).1 := by rw [h]; exact List.mem_cons_self ..
 have hc : cnfB n LL = true := by
  cases hb : cnfB n LL
  ·unfold fm.freeL at hx
   rw [hb] at hx
   cases hx
  ·rfl
 have hf := fm.cnf_facts hc
 unfold fm.freeL at hx
 rw [hc, if_pos rfl] at hx
 unfold srt.srt at hx
 rw [List.mem_map] at hx
 obtain ⟨i, hi, rfl⟩ := hx
 rw [List.mem_filter, List.mem_range] at hi
 have k := litI_spec hi.1
 have hb := hi.2
 rw [fm.freeN_bit _ _ _ (by omega), Bool.and_eq_true, Bool.not_eq_true', Bool.or_eq_false_iff, eq, fm.setOf_append, Nat.testBit_or, Nat.testBit_or, Bool.or_eq_false_iff, Bool.or_eq_false_iff] at hb
 rw [← swp_place k.1, k.2]
 exact ⟨hb.2.1.1, hb.2.2.1⟩
theorem free_pc {n : Int} {LL : List (List Int)} {Ss : List Nat} {d r : List Int} {x : Int} (h : freeL n LL (frc Ss 49 (setOf d) d).1 = x :: r) : pc (setOf d) + 1 ≤ pc (setOf (d ++ [-x])) ∧ pc (setOf d) + 1 ≤ pc (setOf (d ++ [x])) := by
 have ok := free_ok h
 have nw := free_new h
 rw [setOf_snoc, if_pos ok.2, setOf_snoc, if_pos ok.1]
 exact ⟨pc_with ok.2 nw.2, pc_with ok.1 nw.1⟩
def cnt (O : Option (List (List Int))) (m : Nat) : List (List Int) × Bool := match O with
 | some C => if C.length ≤ m then (C, true) else ([], false)
 | none => ([], false)
theorem wlk_full (n : Int) (LL : List (List Int)) : ∀ (k m : Nat) (d : List Int), 49 ≤ k + pc (setOf d) → wlk n LL m d = cnt (full n LL k d) m := by
 intro k
 induction k with
 | zero =>
  intro m d h
  have := pc_le (setOf d)
  omega
 | succ k ih =>
  intro m d h
  cases m with
  | zero =>
   rw [wlk_zero]
   cases hf : full n LL (k + 1) d with
   | none => rfl
   | some C =>
    have := full_pos hf
    show _ = (if C.length ≤ 0 then (C, true) else ([], false))
    rw [if_neg (by omega)]
  | succ m =>
   cases hf : (frc (LL.map setOf) 49 (setOf d) d).2
   ·rw [wlk_stop hf, full_stop hf]
    show _ = (if ([negL d]).length ≤ m + 1 then ([negL d], true) else ([], false))
    rw [if_pos (by simp)]
   ·cases h0 : freeL n LL (frc (LL.map setOf) 49 (setOf d) d).1 with
    | nil => rw [wlk_end hf h0, full_end hf h0]; rfl
    | cons x r =>
     have hp := free_pc h0
     rw [wlk_more hf h0, full_more hf h0, ih m (d ++ [-x]) (by omega)]
     cases ha : full n LL k (d ++ [-x]) with
     | none => rfl
     | some A =>
      show (if (if A.length ≤ m then (A, true) else (([] : List (List Int)), false)).2 = false then _ else _) = cnt ((full n LL k (d ++ [x])).map fun B => A ++ B ++ [negL d]) (m + 1)
      have e1 : cnt (some A) m = if A.length ≤ m then (A, true) else ([], false) := rfl
      rw [e1]
      by_cases hA : A.length ≤ m
      ·rw [if_pos hA, if_neg (by simp), ih (m - A.length) (d ++ [x]) (by omega)]
       cases hb : full n LL k (d ++ [x]) with
       | none => rfl
       | some B =>
        have e2 : cnt (some B) (m - A.length) = if B.length ≤ m - A.length then (B, true) else ([], false) := rfl
        have e3 : cnt (some (A ++ B ++ [negL d])) (m + 1) = if (A ++ B ++ [negL d]).length ≤ m + 1 then (A ++ B ++ [negL d], true) else ([], false) := rfl
        show _ = cnt (some (A ++ B ++ [negL d])) (m + 1)
        rw [e2, e3]
        by_cases hB : B.length ≤ m - A.length
        ·rw [if_pos hB, if_neg (by simp), if_pos (by simp; omega)]
        ·rw [if_neg hB, if_pos rfl, if_neg (by simp; omega)]
      ·rw [if_neg hA, if_pos rfl]
       cases hb : full n LL k (d ++ [x]) with
       | none => rfl
       | some B =>
        show _ = (if (A ++ B ++ [negL d]).length ≤ m + 1 then (A ++ B ++ [negL d], true) else ([], false))
        rw [if_neg (by simp; omega)]
theorem fail_set (LL : List (List Int)) (d : List Int) : failB (LL.map setOf) (setOf d) = !(frc (LL.map setOf) 49 (setOf d) d).2 := by
 unfold wm.failB
 rw [frc_snd _ _ _ [] d]
theorem left_set {n : Nat} {LL : List (List Int)} {d : List Int} (h : (frc (LL.map setOf) 49 (setOf d) d).2 = true) : failN n (LL.map setOf) (setOf d) = freeN n (frc (LL.map setOf) 49 (setOf d) d).1 := by
 unfold wm.failN
 rw [fail_set, h]
 show leftN n (frt (LL.map setOf) 49 (setOf d)) = _
 rw [← frc_set (set_bd LL)]
 rfl
theorem free_fst {n : Nat} {LL : List (List Int)} {L : List Int} (hc : cnfB (n : Int) LL = true) : (freeN n L = 0 → freeL (n : Int) LL L = []) ∧ (freeN n L ≠ 0 → ∃ r, freeL (n : Int) LL L = fstI (freeN n L) :: r) := by
 have hf := fm.cnf_facts hc
 have e : freeL (n : Int) LL L = srt.srt (freeN n L) 48 := by unfold fm.freeL; rw [hc]; rfl
 rw [e]
 exact ⟨fun h => srt_none _ h, fun h => srt_head (Nat.pos_of_ne_zero h) (fm.freeN_lt L (by omega))⟩
theorem fail_neg (M : List (List Int)) (L : List Int) : failB (M.map setOf) (oppN (setOf L)) = !(frc (M.map setOf) 49 (setOf (negL L)) (negL L)).2 := by
 rw [← set_neg]
 exact fail_set M (negL L)
theorem tot_small {M : List (List Int)} (h : ∀ L ∈ M, L.length ≤ 48) : tot M ≤ 49 * M.length := by
 have := fm.flat_len h
 unfold css.tot
 rw [List.length_flatten] at this
 omega
end Go.Proofs.YtcgiphcfjhbonaaGreatDoor.xw
namespace Go.Proofs.YtcgiphcfjhbonaaGreatDoor.xp
open Go.ChangeShapes Go.WideShapes Go.ChangeAt Go.RowKit
open bset (setOf setOf_lt)
open css (tot Sls OwnS)
open ok (cnfB)
open wm (pc)
open xw (full wlk wlk_full cnt)
set_option linter.unusedVariables false
theorem pc0 : 49 ≤ 49 + pc (setOf []) := Nat.le_add_right _ _
theorem full_l48 (n : Int) (LL : List (List Int)) : ∀ (k : Nat) (d : List Int) (C : List (List Int)), d.length ≤ pc (setOf d) → full n LL k d = some C → ∀ L ∈ C, L.length ≤ 48 := by
 intro k
 induction k with
 | zero => intro d C _ h; cases h
 | succ k ih =>
  intro d C hd h L hL
  have hp := wm.pc_le (setOf d)
  have hneg : (sp.negL d).length ≤ 48 := by unfold sp.negL; rw [List.length_map]; omega
  cases hf : (wm.frc (LL.map setOf) 49 (setOf d) d).2
  ·rw [xw.full_stop hf] at h
   cases h
   rw [List.mem_singleton] at hL
   rw [hL]
   exact hneg
  ·cases h0 : fm.freeL n LL (wm.frc (LL.map setOf) 49 (setOf d) d).1 with
   | nil => rw [xw.full_end hf h0] at h; cases h
   | cons x r =>
    have hpc := xw.free_pc h0
    rw [xw.full_more hf h0] at h
    cases ha : full n LL k (d ++ [-x]) with
    | none => rw [ha] at h; cases h
    | some A =>
     cases hb : full n LL k (d ++ [x]) with
     | none => rw [ha, hb] at h; cases h
     | some B =>
      rw [ha, hb] at h
      cases h
      rcases List.mem_append.1 hL with q | q
      ·rcases List.mem_append.1 q with q | q
       ·exact ih (d ++ [-x]) A (by rw [List.length_append, List.length_singleton]; omega) ha L q
       ·exact ih (d ++ [x]) B (by rw [List.length_append, List.length_singleton]; omega) hb L q
      ·rw [List.mem_singleton] at q
       rw [q]
       exact hneg
theorem wlk_tot (n : Int) (LL : List (List Int)) : tot (if cnfB n LL then wlk n LL 700 [] else ([], false)).1 ≤ 34300 := by
 split
 ·have hl := xw.len_le n LL 700 []
  have h48 : ∀ L ∈ (wlk n LL 700 []).1, L.length ≤ 48 := by
   rw [wlk_full n LL 49 700 [] pc0]
   intro L hL
   cases hf : full n LL 49 [] with
   | none => rw [hf] at hL; cases hL
   | some C =>
    rw [hf] at hL
    have e : cnt (some C) 700 = if C.length ≤ 700 then (C, true) else ([], false) := rfl
    rw [e] at hL
    split at hL
    ·exact full_l48 n LL 49 [] C (Nat.zero_le _) hf L hL
    ·cases hL
  have := xw.tot_small h48
  omega
 ·decide
end Go.Proofs.YtcgiphcfjhbonaaGreatDoor.xp
namespace Go.Proofs.YtcgiphcfjhbonaaGreatDoor.fx
open Go.ChangeShapes Go.WideShapes Go.ChangeAt Go.RowKit
open lits (okB varI)
open cls (hasB)
open wo (woL)
open sl (Sl Own ints marks hide unhide ret_int ret_bool grown_refl grown_trans grown_drewN below_of of_below)
open css (Sls OwnS Outs tot sumLen marksS)
open cf (Box)
open gr (MidF)
open ok (cnfB litIn)
set_option linter.unusedVariables false
attribute [local go_sem ↓] Go.wp_at_zero Go.wp_at_succ

def fixL (x : Int) (LL : List (List Int)) : List (List Int) := (LL.filter fun L => !hasB L x).map fun L => woL L (-x)
def fixB (n : Int) (LL : List (List Int)) (x : Int) : Bool := cnfB n LL && litIn n x
theorem fixL_keep (x : Int) (LL : List (List Int)) (k : Nat) (h : k < LL.length) (e : hasB (LL.getD k []) x = false) : fixL x (LL.take (k + 1)) = fixL x (LL.take k) ++ [woL (LL.getD k []) (-x)] := by
 rw [css.take_snoc LL k h]
 generalize LL.getD k [] = L at *
 unfold fixL
 rw [List.filter_append, List.map_append]
 simp [e]
theorem fixL_drop (x : Int) (LL : List (List Int)) (k : Nat) (h : k < LL.length) (e : hasB (LL.getD k []) x = true) : fixL x (LL.take (k + 1)) = fixL x (LL.take k) := by
 rw [css.take_snoc LL k h]
 generalize LL.getD k [] = L at *
 unfold fixL
 rw [List.filter_append, List.map_append]
 simp [e]
theorem fixL_len (x : Int) (LL : List (List Int)) : (fixL x LL).length ≤ LL.length := by
 unfold fixL
 rw [List.length_map]
 exact List.length_filter_le _ _
theorem litIn_bd {n x : Int} (h : litIn n x = true) : x ≠ 0 ∧ -24 ≤ x ∧ x ≤ 24 := by
 unfold litIn at h
 rw [Bool.and_eq_true] at h
 exact lits.okB_iff.1 h.1

theorem wrap_neg {x : Int} (h : -24 ≤ x ∧ x ≤ 24) : IntKind.i64.wrap (-x) = -x := by
 rw [IntKind.wrap_i64]
 omega
end Go.Proofs.YtcgiphcfjhbonaaGreatDoor.fx
namespace Go.Proofs.YtcgiphcfjhbonaaGreatDoor.fx
open Go.ChangeShapes Go.WideShapes Go.ChangeAt Go.RowKit
open lits (okB varI)
open cls (hasB)
open wo (woL)
open sl (Sl Own ints marks hide unhide ret_int ret_bool grown_refl grown_trans grown_drewN below_of of_below)
open css (Sls OwnS Outs tot sumLen marksS)
open cf (Box)
open gr (MidF)
open ok (cnfB litIn)
set_option linter.unusedVariables false
attribute [local go_sem ↓] Go.wp_at_zero Go.wp_at_succ

def fixN (n : Int) (LL : List (List Int)) (x : Int) : Int := if fixB n LL x then n else 0
def fixR (n : Int) (LL : List (List Int)) (x : Int) : List (List Int) := if fixB n LL x then fixL x LL else []
theorem fix_no {n x : Int} {LL : List (List Int)} (h : fixB n LL x = false) : fixN n LL x = 0 ∧ fixR n LL x = [] := by
 unfold fixN fixR
 rw [h]
 exact ⟨rfl, rfl⟩
theorem fix_yes {n x : Int} {LL : List (List Int)} (h : fixB n LL x = true) : fixN n LL x = n ∧ fixR n LL x = fixL x LL := by
 unfold fixN fixR
 rw [h]
 exact ⟨rfl, rfl⟩
theorem ownS_nil (lo hi : Nat) (w : World) : OwnS lo hi w (.slice none 0 0) [] :=
 ⟨[], rfl, World.ownsRow_nil .., (fun k e => by cases e), (fun p hp => by cases hp), .nil⟩
def ini (w : World) (n : Int) (v : Value) : World := (w.alloc (.cells #[.int .i64 n, v] 32)).alloc (.cells #[.int .i64 0, .slice none 0 0] 32)
theorem ini_grown (w : World) (n : Int) (v : Value) : w.grownBy (ini w n v) none := grown_trans (World.grownBy_alloc _ _ _) (World.grownBy_alloc _ _ _)
theorem ini_box0 (w : World) (n : Int) (v : Value) : Box 32 (ini w n v) w.heap.size (.int .i64 n) v := (Box.new 32 w (.int .i64 n) v).kept (World.grownBy_alloc _ _ _)
theorem ini_box1 (w : World) (n : Int) (v : Value) : Box 32 (ini w n v) (w.heap.size + 1) (.int .i64 0) (.slice none 0 0) := by
 have := Box.new 32 (w.alloc (.cells #[.int .i64 n, v] 32)) (.int .i64 0) (.slice none 0 0)
 rw [World.size_alloc] at this
 exact this

theorem ret_no {fn : Func} {p u : Tmp} {tmps : Array Value} {w w1 : World} (hr : fn.results = #[.cell p 32, .tmp u]) (hp : tmps.getD p undef = .pointer (some ⟨w.heap.size + 1, 0, none⟩)) (hu : tmps.getD u undef = .bool false) (hb : Box 32 w1 (w.heap.size + 1) (.int .i64 0) (.slice none 0 0)) (g : w.grownBy w1 none)
  {n x : Int} {LL : List (List Int)} (h : fixB n LL x = false) :
  ∃ e, (results fn tmps).run Tryz.prog ((w1.setCell ⟨w.heap.size + 1, 0, none⟩ (.int .i64 0)).setCell ⟨w.heap.size + 1, 1, none⟩ (.slice none 0 0)) = .ok e ((w1.setCell ⟨w.heap.size + 1, 0, none⟩ (.int .i64 0)).setCell ⟨w.heap.size + 1, 1, none⟩ (.slice none 0 0)) ∧
   ∃ q, Ending.returned e = .returned (.tuple #[.agg #[.int .i64 (fixN n LL x), q], .bool (fixB n LL x)]) ∧ OwnS w.heap.size ((w1.setCell ⟨w.heap.size + 1, 0, none⟩ (.int .i64 0)).setCell ⟨w.heap.size + 1, 1, none⟩ (.slice none 0 0)).heap.size ((w1.setCell ⟨w.heap.size + 1, 0, none⟩ (.int .i64 0)).setCell ⟨w.heap.size + 1, 1, none⟩ (.slice none 0 0)) q (fixR n LL x) ∧
   w.grownBy ((w1.setCell ⟨w.heap.size + 1, 0, none⟩ (.int .i64 0)).setCell ⟨w.heap.size + 1, 1, none⟩ (.slice none 0 0)) none := by
 refine ⟨_, cf.ret_box2 hr hp ((hb.set0 (.int .i64 0)).set1 (.slice none 0 0)), .slice none 0 0, ?_, ?_, cf.grown_set (cf.grown_set g (by omega)) (by omega)⟩
 ·rw [hu, (fix_no h).1, h]
 ·rw [(fix_no h).2]
  exact ownS_nil _ _ _

theorem ret_no' {fn : Func} {p u : Tmp} {a : Act} {w w1 : World} {n x : Int} {LL : List (List Int)} (hb : Box 32 w1 (w.heap.size + 1) (.int .i64 0) (.slice none 0 0)) (g : w.grownBy w1 none) (h : fixB n LL x = false)
  (hr : fn.results = #[.cell p 32, .tmp u]) (hp : a.tmps.getD p undef = .pointer (some ⟨w.heap.size + 1, 0, none⟩)) (hu : a.tmps.getD u undef = .bool false) (hd : a.defers = []) :
  bodyPost Tryz.prog fn (fun e w' => ∃ q, e = .returned (.tuple #[.agg #[.int .i64 (fixN n LL x), q], .bool (fixB n LL x)]) ∧ OwnS w.heap.size w'.heap.size w' q (fixR n LL x) ∧ w.grownBy w' none) Exit.ret a ((w1.setCell ⟨w.heap.size + 1, 0, none⟩ (.int .i64 0)).setCell ⟨w.heap.size + 1, 1, none⟩ (.slice none 0 0)) := by
 obtain ⟨e, he, hq⟩ := ret_no hr hp hu hb g h
 exact bodyPost_ret he hd hq

end Go.Proofs.YtcgiphcfjhbonaaGreatDoor.fx
namespace Go.Proofs.YtcgiphcfjhbonaaGreatDoor.jn
open Go.ChangeShapes Go.WideShapes Go.ChangeAt Go.RowKit
open sl (Sl Own ints marks hide unhide ret_int ret_bool grown_refl grown_trans grown_drewN below_of of_below)
open css (Sls OwnS Outs tot sumLen marksS)
open cf (Box)
open gr (MidF)
open ok (cnfB)
open wo (Made)
open app (stepI stepJ own_at made_nil)
set_option linter.unusedVariables false
attribute [local go_sem ↓] Go.wp_at_zero Go.wp_at_succ

set_option maxHeartbeats 4000000 in
theorem l02Copy (v : Value) (n : Int) (LL : List (List Int)) (lo hi : Nat) (w : World) (hn : tot LL ≤ 1048576) (hv : OwnS lo hi w v LL) (hhi : hi ≤ w.heap.size) :
  Calls Tryz.prog 191 #[.agg #[.int .i64 n, v]] w fun e w' => ∃ u, e = .returned (.agg #[.int .i64 n, u]) ∧ OwnS w.heap.size w'.heap.size w' u LL ∧ w.grownBy w' none := by
 have hl := Nat.le_trans (css.tot_len LL) hn
 have st : Hid (MidF w (((w.alloc (.cells #[.int .i64 n, v] 32)).alloc (.cells #[.int .i64 0, .slice none 0 0] 32)).alloc (.cells #[.int .i64 n, .slice none 0 0] 32)) (w.heap.size + 1 + 1) n [] [(w.heap.size, .int .i64 n, v), (w.heap.size + 1, .int .i64 0, .slice none 0 0)]) := by
  refine ⟨by omega, grown_trans (grown_trans (World.grownBy_alloc _ _ _) (World.grownBy_alloc _ _ _)) (World.grownBy_alloc _ _ _), ?_, none, 0, ?_, fx.ownS_nil _ _ _⟩
  ·intro b hb
   simp only [List.mem_cons, List.not_mem_nil, or_false] at hb
   rcases hb with rfl | rfl
   ·exact ⟨by show w.heap.size ≠ w.heap.size + 1 + 1; omega, ((Box.new 32 w (.int .i64 n) v).kept (World.grownBy_alloc _ _ _)).kept (World.grownBy_alloc _ _ _)⟩
   ·have := (Box.new 32 (w.alloc (.cells #[.int .i64 n, v] 32)) (.int .i64 0) (.slice none 0 0)).kept (World.grownBy_alloc _ (.cells #[.int .i64 n, .slice none 0 0] 32) none)
    rw [World.size_alloc] at this
    exact ⟨by show w.heap.size + 1 ≠ w.heap.size + 1 + 1; omega, this⟩
  ·have := Box.new 32 ((w.alloc (.cells #[.int .i64 n, v] 32)).alloc (.cells #[.int .i64 0, .slice none 0 0] 32)) (.int .i64 n) (.slice none 0 0)
   rw [World.size_alloc, World.size_alloc] at this
   exact this
 obtain ⟨a, cap, rfl⟩ := hv.len
 have HV := hide hv
 clear hv
 go_enter Tryz.func191, Tryz.ntmps191
 go_wp2
 go_loopw [4] (fun i wr => ∃ k : Nat, k ≤ LL.length ∧ i = .int .i64 k ∧ Hid (MidF w wr (w.heap.size + 1 + 1) n (LL.take k) [(w.heap.size, .int .i64 n, .slice a LL.length cap), (w.heap.size + 1, .int .i64 0, .slice none 0 0)])) (fun i _ => LL.length - (intOf i).toNat)
 case atStart => exact ⟨0, Nat.zero_le _, rfl, st⟩
 case round =>
  obtain ⟨k, hk, rfl, hm⟩ := hrel
  have bf := (unhide hm).box w.heap.size (.int .i64 n) (.slice a LL.length cap) (by simp)
  have f0 := bf.c0
  have f1 := bf.c1
  clear st
  by_cases hlt : k < LL.length
  ·have fa := (bf.kept (World.grownBy_alloc wr (.cells #[] 3) none)).c1
   obtain ⟨g, cap', u', e, hgl, c1, hu0⟩ := own_at ((unhide HV).kept (unhide hm).grown) k hlt
   simp only [Value.slice.injEq] at e
   obtain ⟨rfl, _, rfl⟩ := e
   have hi' : (k : Int) < (LL.length : Int) := by omega
   have hL := Nat.le_trans (css.tot_in LL k) hn
   have hts := css.take_snoc LL k hlt
   have hM : (LL.take k).length ≤ 1048576 := by rw [List.length_take]; omega
   generalize LL.getD k [] = L at *
   obtain ⟨q0, q1, q2, oa, ocap, q3, q4⟩ := unhide hm
   generalize LL.take k = M at *
   have HT := hide hts
   obtain ⟨ua, uc, e1, _⟩ := hu0.sl
   subst e1
   have mn := made_nil wr
   have c2 := mn.2.cell c1 (fun e => by cases e)
   have o1 := q3.c1
   have of1 := q3.f 1
   have o2 := (q3.kept mn.2).c1
   have U0 := hide ((hu0.kept mn.2).kept (cf.grown_drew _ none))
   have MN := hide (And.intro (mn.1.drew) (grown_trans (r := none) mn.2 (cf.grown_drew _ none)))
   have Q0 := hide q0
   have Q1 := hide q1
   have Q2 := hide q2
   have Q3 := hide q3
   have Q4 := hide q4
   clear hu0 hts HV mn hm bf q0 q1 q2 q3 q4
   go_wp2_with fail
   go_region_law
    (first
     | (refine stepI (A := []) (unhide MN).2 (unhide MN).1 (unhide U0) (by show 0 + L.length ≤ 4194304; omega) (by rfl) _ _ (by rfl) (by rfl) (by rfl) ?_; intro y w1 m1 g1; have m1' : Made wr w1 y L := m1; obtain ⟨ya, yc, e3, _⟩ := sl.Sl.of_own m1'.1; subst e3; have Y1 := hide (Own.of m1'.1); have G1 := hide m1'.2; have k1 := ((unhide Q3).kept (unhide G1)).c1; have k2 := ((unhide Q3).kept (unhide G1)).f 1; have k9 := (((unhide Q3).kept (unhide G1)).kept (World.grownBy_alloc w1 (.cells #[.slice ya L.length yc] 43) none)).c1; clear m1 m1' g1)
     | (refine gr.stepR ((unhide Q4).kept (unhide G1)) (unhide Y1) (unhide Q1).size (unhide G1).size hM (by rfl) _ _ (by rfl) (by rfl) (by rfl) ?_; intro g3 cap3 w3 h3 g3'; have R3 := hide (gr.MidF.step (unhide Q0) (unhide Q1) (unhide Q2) (unhide Q3) (unhide Q4) (unhide G1) h3 g3'); have k3 := (unhide R3).1.1; have k4 := (unhide R3).1.2.1; clear h3 g3'))
   all_goals
    go_wp2_with fail
    go_roundw
    case rel => exact ⟨k + 1, by omega, by go_num, by rw [unhide HT]; exact (unhide R3).2⟩
    case measure => simp [intOf]; omega
  ·have hi' : ¬ (k : Int) < (LL.length : Int) := by omega
   have e : LL.take k = LL := List.take_of_length_le (by omega)
   rw [e] at hm
   have br := (unhide hm).box (w.heap.size + 1) (.int .i64 0) (.slice none 0 0) (by simp)
   obtain ⟨q0, q1, q2, oa, ocap, q3, q4⟩ := unhide hm
   have r0 := br.c0
   have r1 := br.c1
   have rf0 := br.f 0
   have rf1 := br.f 1
   have o0 := q3.c0
   have o1 := q3.c1
   have BR := hide br
   have Q1 := hide q1
   have Q4 := hide q4
   clear HV hm e q0 q1 q2 q3 q4 br bf
   go_wp2
   have bb := ((unhide BR).set0 (.int .i64 n)).set1 (.slice oa LL.length ocap)
   (try simp only [Exit.inBlock, Exit.then])
   refine bodyPost_ret (cf.ret_box rfl rfl bb) rfl ⟨_, rfl, ?_, ?_⟩
   ·rw [cf.size_set, cf.size_set]
    exact gr.ownS_set (gr.ownS_set (unhide Q4) (unhide BR)) ((unhide BR).set0 (.int .i64 n))
   ·exact cf.grown_set (cf.grown_set (unhide Q1) (by omega)) (by omega)
end Go.Proofs.YtcgiphcfjhbonaaGreatDoor.jn
namespace Go.Proofs.YtcgiphcfjhbonaaGreatDoor.xd
open Go.ChangeShapes Go.WideShapes Go.ChangeAt Go.RowKit
open lits (okB okB_iff)
open bset (setOf setOf_lt)
open srt (Tab oppN)
open css (tot Sls OwnS)
open cf (Box)
open ok (cnfB clB)
open gr (MidF)
open wo (Made)
open sp (negL)
open wm (frc failB badN BadAt)
open app (stepI stepJ own_at made_nil)
open sl (Sl Own ints hide unhide grown_refl grown_trans grown_drewN)
set_option linter.unusedVariables false
attribute [local go_sem ↓] Go.wp_at_zero Go.wp_at_succ
structure Ahd (n : Int) (LL PP : List (List Int)) (k : Nat) : Prop where
 ok : ∀ c ∈ LL ++ PP.take k, ∀ x ∈ c, okB x = true
 l48 : ∀ c ∈ LL ++ PP.take k, c.length ≤ 48
theorem Ahd.start {n : Int} {LL PP : List (List Int)} (h : cnfB n LL = true) : Ahd n LL PP 0 := by
 have hf := fm.cnf_facts h
 refine ⟨?_, ?_⟩
 ·rw [List.take_zero, List.append_nil]
  exact sp.okU_facts h
 ·rw [List.take_zero, List.append_nil]
  exact fun c hc => (hf.2.2.2 c hc).1
theorem Ahd.next {n : Int} {LL PP : List (List Int)} {k : Nat} (h : Ahd n LL PP k) (hk : k < PP.length) (hb : clB n (PP.getD k []) = true) : Ahd n LL PP (k + 1) := by
 have e : LL ++ PP.take (k + 1) = (LL ++ PP.take k) ++ [PP.getD k []] := by rw [css.take_snoc PP k hk, List.append_assoc]
 have h48 : (PP.getD k []).length ≤ 48 := by
  unfold ok.clB at hb
  rw [Bool.and_eq_true, decide_eq_true_iff] at hb
  exact hb.2
 refine ⟨fun c hc => ?_, fun c hc => ?_⟩
 ·rw [e] at hc
  rcases List.mem_append.1 hc with q | q
  ·exact h.ok c q
  ·rw [List.mem_singleton] at q
   rw [q]
   exact sp.cl_ok hb
 ·rw [e] at hc
  rcases List.mem_append.1 hc with q | q
  ·exact h.l48 c q
  ·rw [List.mem_singleton] at q
   rw [q]
   exact h48
theorem Ahd.tot {n : Int} {LL PP : List (List Int)} {k : Nat} (h : Ahd n LL PP k) (hl : LL.length ≤ 120) (hp : PP.length ≤ 700) : tot (LL ++ PP.take k) ≤ 1048576 := by
 have := xw.tot_small h.l48
 rw [List.length_append, List.length_take] at this
 omega
set_option maxRecDepth 100000 in
set_option maxHeartbeats 8000000 in
theorem l06Bad (v u : Value) (n : Int) (LL PP : List (List Int)) (lo hi lo2 hi2 : Nat) (w : World) (hc : cnfB n LL = true) (hn : tot LL ≤ 1048576) (hp : PP.length ≤ 700) (ht : tot PP ≤ 1048576) (hv : OwnS lo hi w v LL) (hhi : hi ≤ w.heap.size) (hu : OwnS lo2 hi2 w u PP) :
  Calls Tryz.prog 159 #[.agg #[.int .i64 n, v], u] w fun e w' => e = .returned (.int .i64 (badN n (LL.map setOf) PP : Int)) ∧ w.grownBy w' none := by
 have B0 := hide (BadAt.start n (LL.map setOf) PP)
 generalize badN n (LL.map setOf) PP = R at *
 have hf := fm.cnf_facts hc
 have hll : LL.length ≤ 120 := hf.2.2.1
 have A0 := hide (Ahd.start (PP := PP) hc)
 have g0 := World.grownBy_alloc w (.cells #[.int .i64 n, v] 32) none
 have F0 := hide (Box.new 32 w (.int .i64 n) v)
 have CC := hide (jn.l02Copy v n LL lo hi _ hn (hv.kept g0) (Nat.le_trans hhi g0.size))
 have x0 := (unhide F0).c0
 have x1 := (unhide F0).c1
 have G0 := hide g0
 have HU := hide hu
 obtain ⟨ua, uc, rfl⟩ := hu.len
 clear hv hu g0 hf
 go_enter Tryz.func159, Tryz.ntmps159
 go_wp2_with fail
 refine (unhide CC).mono ?_; rintro e w1 ⟨u1, rfl, o1, g1⟩
 obtain ⟨a1, c1, rfl⟩ := o1.len
 have st : Hid (MidF w (w1.alloc (.cells #[.int .i64 n, .slice a1 LL.length c1] 32)) w1.heap.size n (LL ++ PP.take 0) [(w.heap.size, .int .i64 n, v)]) := by
  have ga := World.grownBy_alloc w1 (.cells #[.int .i64 n, .slice a1 LL.length c1] 32) none
  have gg := grown_trans (r := none) (unhide G0) g1
  rw [List.take_zero, List.append_nil]
  refine ⟨gg.size, grown_trans gg ga, ?_, a1, c1, Box.new 32 w1 _ _, ((o1.kept ga).sub (by rw [World.size_alloc]; omega) ga.size)⟩
  intro b hb
  simp only [List.mem_singleton] at hb
  subst hb
  exact ⟨by have := ((unhide F0).kept g1).lt; show w.heap.size ≠ w1.heap.size; omega, ((unhide F0).kept g1).kept ga⟩
 clear o1 g1 x0 x1 CC F0
 go_wp2_with fail
 generalize w1.alloc (.cells #[.int .i64 n, .slice a1 LL.length c1] 32) = W1 at *
 generalize w1.heap.size = c at *
 go_loopw [6] (fun i wr => ∃ k : Nat, k ≤ PP.length ∧ i = .int .i64 (k : Int) ∧ Hid (MidF w wr c n (LL ++ PP.take k) [(w.heap.size, .int .i64 n, v)]) ∧ Hid (Ahd n LL PP k) ∧ Hid (BadAt n (LL.map setOf) PP R k)) (fun i _ => PP.length - (intOf i).toNat)
 case atStart => exact ⟨0, Nat.zero_le _, rfl, st, A0, B0⟩
 case round =>
  obtain ⟨k, hk, rfl, hm, hA, hB⟩ := hrel
  clear st A0 B0
  by_cases hlt : k < PP.length
  ·have hi' : (k : Int) < (PP.length : Int) := by omega
   have hgw := (unhide hm).grown
   obtain ⟨g, cap', u', e, hgl, y1, hu0⟩ := own_at ((unhide HU).kept hgw) k hlt
   simp only [Value.slice.injEq] at e
   obtain ⟨rfl, _, rfl⟩ := e
   have bf := (unhide hm).box w.heap.size (.int .i64 n) v (by simp)
   have f0 := bf.c0
   have hL := Nat.le_trans (css.tot_in PP k) ht
   have CL := hide (fun nq => ok.specClause u' (PP.getD k []) n (wr.drewN nq) hL (hu0.kept (grown_drewN wr nq)).sl)
   have htt := (unhide hA).tot hll hp
   have ST := hide (fun hx => (unhide hB).stop hlt hx)
   have NB := hide (fun hx => (unhide hB).next hlt hx)
   have NA := hide (fun hx => (unhide hA).next hlt hx)
   have hts := css.take_snoc PP k hlt
   have hML : (LL ++ PP.take k).length ≤ 1048576 := by rw [List.length_append, List.length_take]; omega
   have HTS : Hid (LL ++ PP.take (k + 1) = (LL ++ PP.take k) ++ [PP.getD k []]) := by show _ = _; rw [hts, List.append_assoc]
   have EFB := hide (xw.fail_neg (LL ++ PP.take k) (PP.getD k []))
   rw [List.map_append] at EFB
   have GW := hide hgw
   obtain ⟨ea, ec, ee, _⟩ := hu0.sl
   have U0 := hide hu0
   subst ee
   have HML := hide hML
   have HTT := hide htt
   clear hgw bf hu0 hts hB hML htt
   generalize PP.getD k [] = L at *
   cases hcl : clB n L
   ·rw [hcl] at CL
    have R1 := hide (unhide ST (by rw [hcl]; rfl))
    clear ST NB NA EFB hcl
    go_wp2_with fail
    go_quiet (first | (go_at_call 146; exact Calls.quiet_of_same (unhide CL _)))
    go_wp2_with fail
    go_ret
    exact ⟨by rw [unhide R1]; rfl, grown_trans (unhide GW) (grown_drewN _ _)⟩
   ·rw [hcl] at CL ST NB
    have hok := sp.cl_ok hcl
    have NA' := hide (unhide NA hcl)
    clear NA hcl
    go_wp2_with fail
    go_quiet (first | (go_at_call 146; exact Calls.quiet_of_same (unhide CL _)))
    have EB : Hid (failB (LL.map setOf ++ (PP.take k).map setOf) (oppN (setOf L)) = !(frc ((LL ++ PP.take k).map setOf) 49 (setOf (negL L)) (negL L)).2) := by
     show _ = _
     rw [← List.map_append]
     exact xw.fail_neg (LL ++ PP.take k) L
    have hokA := (unhide hA).ok
    obtain ⟨q0, q1, q2, oa, ocap, q3, q4⟩ := unhide hm
    have GQ := hide (fun m => grown_trans (r := none) (grown_drewN wr m) (cf.grown_drew (wr.drewN m) none))
    have CO := hide (fun wz (gz : wr.grownBy wz none) => sp.l04Opposite _ L wz hL hok ((unhide U0).kept gz).sl)
    have hnl : (negL L).length ≤ 1048576 := by unfold sp.negL; rw [List.length_map]; exact hL
    have CF := hide (fun wz (gz : wr.grownBy wz none) r lo' hi' (o : Own lo' hi' wz r (negL L)) => sp.l04Force _ r n (LL ++ PP.take k) (negL L) lo' hi' wz (unhide HTT) hnl hokA (q4.kept gz).sls o)
    have SK : Hid (∀ wz, wr.grownBy wz none → wz.cell? ⟨c, 0, none⟩ = some (.int .i64 n) ∧ wz.cell? ⟨c, 1, none⟩ = some (.slice oa (LL ++ PP.take k).length ocap) ∧ wz.cell? ⟨g, k, none⟩ = some (.slice ea L.length ec)) := fun wz gz => ⟨(q3.kept gz).c0, (q3.kept gz).c1, gz.cell y1 (fun e => by cases e)⟩
    have HM := hide (fun w3 (g3 : wr.grownBy w3 none) => And.intro q0 (And.intro (grown_trans (r := none) q1 g3) (And.intro (fun b hb => And.intro (q2 b hb).1 ((q2 b hb).2.kept g3)) (And.intro (q3.kept g3) ((q4.kept g3).sub (Nat.le_refl _) g3.size)))))
    clear hm hA q0 q1 q2 q3 q4 hokA hok EFB CL
    generalize hfb : (frc ((LL ++ PP.take k).map setOf) 49 (setOf (negL L)) (negL L)).2 = fb at *
    generalize hfl : (frc ((LL ++ PP.take k).map setOf) 49 (setOf (negL L)) (negL L)).1 = fl at *
    generalize hMM : LL ++ PP.take k = M at *
    clear hfb hfl
    go_wp2_with fail
    go_region_held3 (fun w' => w'.cell? ⟨c, 0, none⟩ = some (.int .i64 n) ∧ w'.cell? ⟨c, 1, none⟩ = some (.slice oa M.length ocap) ∧ w'.cell? ⟨g, k, none⟩ = some (.slice ea L.length ec)) (first | exact unhide SK _ (unhide G3) | exact unhide SK _ (unhide G2) | exact unhide SK _ (unhide GQ _) | go_keep) (first
     | (go_at_call 136; refine (unhide CO _ (unhide GQ _)).mono ?_; rintro e w2 ⟨r2, rfl, m2⟩; obtain ⟨ra, rc, er, _⟩ := Sl.of_own m2.1; subst er; have G2 := hide (grown_trans (r := none) (unhide GQ _) m2.2); have CF2 := hide (unhide CF w2 (unhide G2) _ _ _ (Own.of m2.1)); clear m2)
     | (go_at_call 147; refine (unhide CF2).mono ?_; rintro e w3 ⟨r3, rfl, m3⟩; have G3 := hide (grown_trans (r := none) (unhide G2) m3.2); clear m3))
    have GW3 := hide (grown_trans (r := none) (unhide GW) (unhide G3))
    cases fb
    ·have RB := hide (unhide NB (by rw [unhide EB]; rfl))
     have m3 := unhide HM w3 (unhide G3)
     have y3 := (unhide G3).cell y1 (fun e => by cases e)
     have u3 := (unhide U0).kept (unhide G3)
     have hM := unhide HML
     clear ST NB EB SK CO CF CF2 G2 GQ HM U0 y1 f0
     obtain ⟨q0, q1, q2, q3, q4⟩ := m3
     have mn := made_nil w3
     have c2 := mn.2.cell y3 (fun e => by cases e)
     have o1 := q3.c1
     have of1 := q3.f 1
     have o2 := (q3.kept mn.2).c1
     have U0 := hide ((u3.kept mn.2).kept (cf.grown_drew _ none))
     have MN := hide (And.intro (mn.1.drew) (grown_trans (r := none) mn.2 (cf.grown_drew _ none)))
     have Q0 := hide q0
     have Q1 := hide q1
     have Q2 := hide q2
     have Q3 := hide q3
     have Q4 := hide q4
     clear u3 mn q0 q1 q2 q3 q4 hMM
     go_wp2_with fail
     go_region_law
      (first
       | (refine stepI (A := []) (unhide MN).2 (unhide MN).1 (unhide U0) (by show 0 + L.length ≤ 4194304; omega) (by rfl) _ _ (by rfl) (by rfl) (by rfl) ?_; intro y w1 m1 g1; have m1' : Made w3 w1 y L := m1; obtain ⟨ya, yc, e3, _⟩ := sl.Sl.of_own m1'.1; subst e3; have Y1 := hide (Own.of m1'.1); have G1 := hide m1'.2; have k1 := ((unhide Q3).kept (unhide G1)).c1; have k2 := ((unhide Q3).kept (unhide G1)).f 1; have k9 := (((unhide Q3).kept (unhide G1)).kept (World.grownBy_alloc w1 (.cells #[.slice ya L.length yc] 43) none)).c1; clear m1 m1' g1)
       | (refine gr.stepR ((unhide Q4).kept (unhide G1)) (unhide Y1) (unhide Q1).size (unhide G1).size hM (by rfl) _ _ (by rfl) (by rfl) (by rfl) ?_; intro g3 cap3 w3 h3 g3'; have R3 := hide (gr.MidF.step (unhide Q0) (unhide Q1) (unhide Q2) (unhide Q3) (unhide Q4) (unhide G1) h3 g3'); have k3 := (unhide R3).1.1; have k4 := (unhide R3).1.2.1; clear h3 g3'))
     all_goals
      go_wp2_with fail
      go_roundw
      case rel => exact ⟨k + 1, by omega, by go_num, by rw [unhide HTS]; exact (unhide R3).2, unhide NA', unhide RB⟩
      case measure => simp [intOf]; omega
    ·have R1 := hide (unhide ST (by rw [unhide EB]; rfl))
     clear ST NB EB SK CO CF CF2 G2 GQ HM U0
     go_wp2_with fail
     go_ret
     exact ⟨by rw [unhide R1]; rfl, unhide GW3⟩
  ·have hi' : ¬ (k : Int) < (PP.length : Int) := by omega
   have R1 := hide ((unhide hB).fin hlt hk)
   have GW := hide (unhide hm).grown
   clear hB hm hA
   go_wp2_with fail
   go_ret
   exact ⟨by rw [unhide R1]; rfl, unhide GW⟩
end Go.Proofs.YtcgiphcfjhbonaaGreatDoor.xd
namespace Go.Proofs.YtcgiphcfjhbonaaGreatDoor.xe
open Go.ChangeShapes Go.WideShapes Go.ChangeAt Go.RowKit
open bset (setOf setOf_lt)
open srt (Tab)
open css (tot Sls OwnS)
open cf (Box)
open ok (cnfB)
open wm (badN bad_le set_bd)
open sl (Sl Own ints hide unhide grown_refl grown_trans grown_drewN)
set_option linter.unusedVariables false
def badB (n : Int) (LL PP : List (List Int)) : Int := if cnfB n LL && decide (PP.length ≤ 700) then (badN n (LL.map setOf) PP : Int) else -1
theorem bad_no {n : Int} {LL PP : List (List Int)} (h : cnfB n LL = false) : badB n LL PP = -1 := by unfold badB; rw [h]; rfl
theorem bad_long {n : Int} {LL PP : List (List Int)} (h : ¬ PP.length ≤ 700) : badB n LL PP = -1 := by unfold badB; rw [decide_eq_false h, Bool.and_false]; rfl
theorem bad_yes {n : Int} {LL PP : List (List Int)} (h : cnfB n LL = true) (hl : PP.length ≤ 700) : badB n LL PP = (badN n (LL.map setOf) PP : Int) := by unfold badB; rw [h, decide_eq_true hl]; rfl
theorem bad_bd (n : Int) (LL PP : List (List Int)) : -1 ≤ badB n LL PP ∧ badB n LL PP ≤ PP.length := by
 unfold badB
 split
 ·have := bad_le n PP (LL.map setOf)
  omega
 ·omega
set_option maxRecDepth 100000 in
set_option maxHeartbeats 4000000 in
theorem specFirstBad (v u : Value) (n : Int) (LL PP : List (List Int)) (lo hi lo2 hi2 : Nat) (w : World) (hn : tot LL ≤ 1048576) (ht : tot PP ≤ 1048576) (hv : OwnS lo hi w v LL) (hhi : hi ≤ w.heap.size) (hu : OwnS lo2 hi2 w u PP) :
  Calls Tryz.prog 122 #[.agg #[.int .i64 n, v], u] w fun e w' => e = .returned (.int .i64 (badB n LL PP)) ∧ w.grownBy w' none := by
 have g0 := World.grownBy_alloc w (.cells #[.int .i64 n, v] 32) none
 have cc := ok.specCnfOk v n LL _ hn (hv.kept g0).sls
 have F0 := hide (Box.new 32 w (.int .i64 n) v)
 have CB := hide (fun hc hp w1 (g : w.grownBy w1 none) => xd.l06Bad v u n LL PP lo hi lo2 hi2 w1 hc hn hp ht (hv.kept g) (Nat.le_trans hhi g.size) (hu.kept g))
 have G0 := hide g0
 have x0 := (unhide F0).c0
 have x1 := (unhide F0).c1
 obtain ⟨ua, uc, rfl⟩ := hu.len
 clear hv hu g0
 cases hb : cnfB n LL
 ·rw [hb] at cc
  have CC := hide cc
  rw [bad_no hb]
  clear cc hb CB
  go_enter Tryz.func122, Tryz.ntmps122
  go_wp2_with fail
  refine (unhide CC).mono ?_; rintro e w2 ⟨rfl, g2⟩
  have G2 := hide (grown_trans (r := none) (unhide G0) g2)
  clear g2
  go_wp2_with fail
  go_ret
  exact ⟨rfl, unhide G2⟩
 ·rw [hb] at cc
  have CC := hide cc
  by_cases hl : PP.length ≤ 700
  ·have hi' : ¬ (700 : Int) < (PP.length : Int) := by omega
   have CB1 := hide (unhide CB hb hl)
   rw [bad_yes hb hl]
   generalize badN n (LL.map setOf) PP = R at *
   clear cc hb CB hl
   go_enter Tryz.func122, Tryz.ntmps122
   go_wp2_with fail
   refine (unhide CC).mono ?_; rintro e w2 ⟨rfl, g2⟩
   have G2 := hide (grown_trans (r := none) (unhide G0) g2)
   have b2 := (unhide F0).kept g2
   have y0 := b2.c0
   have y1 := b2.c1
   clear g2 b2 x0 x1
   go_wp2_with fail
   refine (unhide CB1 w2 (unhide G2)).mono ?_; rintro e w3 ⟨rfl, g3⟩
   have G3 := hide (grown_trans (r := none) (unhide G2) g3)
   clear g3
   go_wp2_with fail
   go_ret
   exact ⟨rfl, unhide G3⟩
  ·have hi' : (700 : Int) < (PP.length : Int) := by omega
   rw [bad_long hl]
   clear cc hb CB hl
   go_enter Tryz.func122, Tryz.ntmps122
   go_wp2_with fail
   refine (unhide CC).mono ?_; rintro e w2 ⟨rfl, g2⟩
   have G2 := hide (grown_trans (r := none) (unhide G0) g2)
   clear g2
   go_wp2_with fail
   go_ret
   exact ⟨rfl, unhide G2⟩
set_option maxRecDepth 100000 in
set_option maxHeartbeats 4000000 in
theorem implFirstBad (v u : Value) (n : Int) (LL PP : List (List Int)) (w : World) (hT : Tab w) (hn : tot LL ≤ 1048576) (ht : tot PP ≤ 1048576) (hv : Sls w v LL) (hu : Sls w u PP) :
  Calls Tryz.prog 272 #[.agg #[.int .i64 n, v], u] w fun e w' => e = .returned (.int .i64 (badB n LL PP)) ∧ w.grownBy w' none := by
 have g0 := World.grownBy_alloc w (.cells #[.int .i64 n, v] 32) none
 have cc := ok.implCnfOk v n LL _ hn (hv.kept g0)
 have F0 := hide (Box.new 32 w (.int .i64 n) v)
 have CK := hide (fun (hl : LL.length + ([] : List Nat).length ≤ 1048576) w2 (g : w.grownBy w2 none) => wm.checkerOf v (.slice none 0 0) n LL [] 0 w2 (hT.kept g) hn (hv.kept g) (World.ownsRow_nil _ _ _ _) (fun S h => by cases h) hl)
 rw [List.append_nil] at CK
 have CB := hide (fun (m : Nat) (hm : m ≤ 24) (hN : (LL.map setOf).length + PP.length ≤ 1048576) w2 (g : w.grownBy w2 none) w3 c s (h : wm.Wof (LL.map setOf) 213 [.int .i64 (m : Int)] w2 w3 c s) => wm.firstBad u PP h (hT.kept g) hm hN (set_bd LL) ht (hu.kept g))
 have G0 := hide g0
 have x0 := (unhide F0).c0
 have x1 := (unhide F0).c1
 obtain ⟨ua, uc, rfl, _⟩ := id hu
 clear hv hu g0 hT
 cases hb : cnfB n LL
 ·rw [hb] at cc
  have CC := hide cc
  rw [bad_no hb]
  clear cc hb CB CK
  go_enter Tryz.func272, Tryz.ntmps272
  go_wp2_with fail
  refine (unhide CC).mono ?_; rintro e w2 ⟨rfl, g2⟩
  have G2 := hide (grown_trans (r := none) (unhide G0) g2)
  clear g2
  go_wp2_with fail
  go_ret
  exact ⟨rfl, unhide G2⟩
 ·have hf := fm.cnf_facts hb
  obtain ⟨m, rfl⟩ := Int.eq_ofNat_of_zero_le hf.1
  rw [hb] at cc
  have CC := hide cc
  by_cases hl : PP.length ≤ 700
  ·have hi' : ¬ (700 : Int) < (PP.length : Int) := by omega
   have CK1 := hide (unhide CK (by simp; omega))
   have CB1 := hide (unhide CB m (by omega) (by rw [List.length_map]; omega))
   rw [bad_yes hb hl]
   generalize badN (m : Int) (LL.map setOf) PP = R at *
   clear cc hb CB CK hl hf
   go_enter Tryz.func272, Tryz.ntmps272
   go_wp2_with fail
   refine (unhide CC).mono ?_; rintro e w2 ⟨rfl, g2⟩
   have G2 := hide (grown_trans (r := none) (unhide G0) g2)
   have b2 := (unhide F0).kept g2
   have y0 := b2.c0
   have y1 := b2.c1
   clear g2 b2 x0 x1
   go_wp2_with fail
   refine (unhide CK1 w2 (unhide G2)).mono ?_; rintro e w3 ⟨c, s, rfl, h3⟩
   have CB3 := hide (unhide CB1 w2 (unhide G2) w3 c s h3)
   clear h3 CB1 CK1
   go_wp2_with fail
   refine (unhide CB3).mono ?_; rintro e w4 ⟨rfl, g4⟩
   have G4 := hide (grown_trans (r := none) (unhide G2) g4)
   clear g4
   go_wp2_with fail
   go_ret
   exact ⟨rfl, unhide G4⟩
  ·have hi' : (700 : Int) < (PP.length : Int) := by omega
   rw [bad_long hl]
   clear cc hb CB CK hl hf
   go_enter Tryz.func272, Tryz.ntmps272
   go_wp2_with fail
   refine (unhide CC).mono ?_; rintro e w2 ⟨rfl, g2⟩
   have G2 := hide (grown_trans (r := none) (unhide G0) g2)
   clear g2
   go_wp2_with fail
   go_ret
   exact ⟨rfl, unhide G2⟩
def checkB (n : Int) (LL PP : List (List Int)) : Bool := decide (badB n LL PP = (PP.length : Int)) && decide (0 < PP.length) && decide ((PP.getD (PP.length - 1) []).length = 0)
theorem check_nil {n : Int} {LL PP : List (List Int)} (h : PP.length = 0) : checkB n LL PP = false := by unfold checkB; rw [h]; simp
set_option maxRecDepth 100000 in
set_option maxHeartbeats 4000000 in
theorem specCheck (v u : Value) (n : Int) (LL PP : List (List Int)) (lo hi lo2 hi2 : Nat) (w : World) (hn : tot LL ≤ 1048576) (ht : tot PP ≤ 1048576) (hv : OwnS lo hi w v LL) (hhi : hi ≤ w.heap.size) (hu : OwnS lo2 hi2 w u PP) :
  Calls Tryz.prog 73 #[.agg #[.int .i64 n, v], u] w fun e w' => e = .returned (.bool (checkB n LL PP)) ∧ w.grownBy w' none := by
 have g0 := World.grownBy_alloc w (.cells #[.int .i64 n, v] 32) none
 have F0 := hide (Box.new 32 w (.int .i64 n) v)
 have CB := hide (specFirstBad v u n LL PP lo hi lo2 hi2 _ hn ht (hv.kept g0) (Nat.le_trans hhi g0.size) (hu.kept g0))
 have G0 := hide g0
 have x0 := (unhide F0).c0
 have x1 := (unhide F0).c1
 by_cases h0 : PP.length = 0
 ·rw [check_nil h0]
  obtain ⟨ua, uc, rfl⟩ := hu.len
  have hlz : ((PP.length : Int)) = 0 := by omega
  clear hv hu g0 CB
  generalize PP.length = N at *
  subst h0
  go_enter Tryz.func73, Tryz.ntmps73
  go_wp2_with fail
  go_ret
  exact ⟨rfl, unhide G0⟩
 ·obtain ⟨g, cap, u', e, hgl, c1, hu0⟩ := app.own_at hu (PP.length - 1) (by omega)
  subst e
  obtain ⟨ea, ec, ee, _⟩ := hu0.sl
  subst ee
  have EC : Hid (checkB n LL PP = (decide (badB n LL PP = (PP.length : Int)) && decide ((PP.getD (PP.length - 1) []).length = 0))) := by
   show _ = _
   unfold checkB
   rw [decide_eq_true (show 0 < PP.length by omega), Bool.and_true]
  have hbd := bad_bd n LL PP
  have C1 := hide c1
  have hlt := Nat.le_trans (css.tot_in PP (PP.length - 1)) ht
  have hpl := Nat.le_trans (css.tot_len PP) ht
  clear hv hu g0 hu0 c1
  generalize PP.getD (PP.length - 1) [] = L at *
  generalize badB n LL PP = B at *
  generalize PP.length = N at *
  obtain ⟨K, rfl⟩ : ∃ K, N = K + 1 := ⟨N - 1, by omega⟩
  rw [show K + 1 - 1 = K by omega] at C1
  have c1 := unhide C1
  have q1 : (0 : Int) ≤ (K : Int) := by omega
  have q2 : (K : Int) < ((K + 1 : Nat) : Int) := by omega
  generalize L.length = l at *
  go_enter Tryz.func73, Tryz.ntmps73
  go_wp2_with fail
  refine (unhide CB).mono ?_; rintro e w2 ⟨rfl, g2⟩
  have G2 := hide (grown_trans (r := none) (unhide G0) g2)
  have y1 := g2.cell ((World.grownBy_alloc w (.cells #[.int .i64 n, v] 32) none).cell c1 (fun e => by cases e)) (fun e => by cases e)
  clear g2 CB c1 C1 x0 x1 F0
  by_cases hB : B = ((K + 1 : Nat) : Int)
  ·have EC2 : Hid (checkB n LL PP = decide (l = 0)) := by show _ = _; rw [unhide EC, decide_eq_true hB, Bool.true_and]
   have hB' : (B == (K : Int) + 1) = true := by rw [beq_iff_eq]; omega
   have hlz : ((l : Int) == 0) = decide (l = 0) := by
    rw [Bool.eq_iff_iff, beq_iff_eq, decide_eq_true_iff]
    omega
   clear hB EC hbd
   go_wp2_with fail
   go_ret
   exact ⟨by rw [unhide EC2]; rfl, unhide G2⟩
  ·have EC2 : Hid (checkB n LL PP = false) := by show _ = _; rw [unhide EC, decide_eq_false hB, Bool.false_and]
   have hB' : (B == (K : Int) + 1) = false := by rw [beq_eq_false_iff_ne]; omega
   clear hB EC hbd
   go_wp2_with fail
   go_ret
   exact ⟨by rw [unhide EC2]; rfl, unhide G2⟩
set_option maxRecDepth 100000 in
set_option maxHeartbeats 4000000 in
theorem implCheck (v u : Value) (n : Int) (LL PP : List (List Int)) (w : World) (hT : Tab w) (hn : tot LL ≤ 1048576) (ht : tot PP ≤ 1048576) (hv : Sls w v LL) (hu : Sls w u PP) :
  Calls Tryz.prog 271 #[.agg #[.int .i64 n, v], u] w fun e w' => e = .returned (.bool (checkB n LL PP)) ∧ w.grownBy w' none := by
 have g0 := World.grownBy_alloc w (.cells #[.int .i64 n, v] 32) none
 have F0 := hide (Box.new 32 w (.int .i64 n) v)
 have CB := hide (implFirstBad v u n LL PP _ (hT.kept g0) hn ht (hv.kept g0) (hu.kept g0))
 have G0 := hide g0
 have x0 := (unhide F0).c0
 have x1 := (unhide F0).c1
 obtain ⟨ua, uc, rfl, ha⟩ := hu
 by_cases h0 : PP.length = 0
 ·rw [check_nil h0]
  clear hv ha g0 CB hT
  generalize PP.length = N at *
  subst h0
  go_enter Tryz.func271, Tryz.ntmps271
  go_wp2_with fail
  go_ret
  exact ⟨rfl, unhide G0⟩
 ·rcases ha with h | ⟨b, off, rfl, hbb, hcb⟩
  ·rw [h] at h0
   simp at h0
  obtain ⟨u', c1, hs⟩ := hcb (PP.length - 1) (by omega)
  obtain ⟨ea, ec, ee, _⟩ := hs
  subst ee
  have EC : Hid (checkB n LL PP = (decide (badB n LL PP = (PP.length : Int)) && decide ((PP.getD (PP.length - 1) []).length = 0))) := by
   show _ = _
   unfold checkB
   rw [decide_eq_true (show 0 < PP.length by omega), Bool.and_true]
  have hbd := bad_bd n LL PP
  have C1 := hide (g0.cell c1 (fun e => by cases e))
  have hlt := Nat.le_trans (css.tot_in PP (PP.length - 1)) ht
  have hpl := Nat.le_trans (css.tot_len PP) ht
  clear hv g0 c1 hcb hbb hT
  generalize PP.getD (PP.length - 1) [] = L at *
  generalize badB n LL PP = B at *
  generalize PP.length = N at *
  obtain ⟨K, rfl⟩ : ∃ K, N = K + 1 := ⟨N - 1, by omega⟩
  rw [show K + 1 - 1 = K by omega] at C1
  have c1 := unhide C1
  have q1 : (0 : Int) ≤ (K : Int) := by omega
  have q2 : (K : Int) < ((K + 1 : Nat) : Int) := by omega
  by_cases hL : L.length = 0
  ·have EC2 : Hid (checkB n LL PP = decide (B = ((K + 1 : Nat) : Int))) := by show _ = _; rw [unhide EC, decide_eq_true hL, Bool.and_true]
   have hB' : (B == (K : Int) + 1) = decide (B = ((K + 1 : Nat) : Int)) := by
    rw [Bool.eq_iff_iff, beq_iff_eq, decide_eq_true_iff]
    omega
   have hlz : ((L.length : Int) == 0) = true := by rw [beq_iff_eq]; omega
   clear EC hbd hL
   go_enter Tryz.func271, Tryz.ntmps271
   go_wp2_with fail
   refine (unhide CB).mono ?_; rintro e w2 ⟨rfl, g2⟩
   have G2 := hide (grown_trans (r := none) (unhide G0) g2)
   clear g2 CB c1 C1 x0 x1 F0
   go_wp2_with fail
   go_ret
   exact ⟨by rw [unhide EC2]; rfl, unhide G2⟩
  ·have EC2 : Hid (checkB n LL PP = false) := by show _ = _; rw [unhide EC, decide_eq_false hL, Bool.and_false]
   have hlz : ((L.length : Int) == 0) = false := by rw [beq_eq_false_iff_ne]; omega
   clear EC hbd hL CB
   go_enter Tryz.func271, Tryz.ntmps271
   go_wp2_with fail
   go_ret
   exact ⟨by rw [unhide EC2]; rfl, unhide G0⟩
theorem bothF (n : Int) (LL PP : List (List Int)) (hn : tot LL ≤ 1048576) (ht : tot PP ≤ 1048576) : ∃ b : Int,
  (∀ v u lo hi lo2 hi2 w, OwnS lo hi w v LL → hi ≤ w.heap.size → OwnS lo2 hi2 w u PP → Calls Tryz.prog 122 #[.agg #[.int .i64 n, v], u] w fun e w' => e = .returned (.int .i64 b) ∧ w.grownBy w' none) ∧
  (∀ v u w, Tab w → Sls w v LL → Sls w u PP → Calls Tryz.prog 272 #[.agg #[.int .i64 n, v], u] w fun e w' => e = .returned (.int .i64 b) ∧ w.grownBy w' none) :=
 ⟨_, fun v u lo hi lo2 hi2 w h k q => specFirstBad v u n LL PP lo hi lo2 hi2 w hn ht h k q, fun v u w t h q => implFirstBad v u n LL PP w t hn ht h q⟩
theorem bothC (n : Int) (LL PP : List (List Int)) (hn : tot LL ≤ 1048576) (ht : tot PP ≤ 1048576) : ∃ b : Bool,
  (∀ v u lo hi lo2 hi2 w, OwnS lo hi w v LL → hi ≤ w.heap.size → OwnS lo2 hi2 w u PP → Calls Tryz.prog 73 #[.agg #[.int .i64 n, v], u] w fun e w' => e = .returned (.bool b) ∧ w.grownBy w' none) ∧
  (∀ v u w, Tab w → Sls w v LL → Sls w u PP → Calls Tryz.prog 271 #[.agg #[.int .i64 n, v], u] w fun e w' => e = .returned (.bool b) ∧ w.grownBy w' none) :=
 ⟨_, fun v u lo hi lo2 hi2 w h k q => specCheck v u n LL PP lo hi lo2 hi2 w hn ht h k q, fun v u w t h q => implCheck v u n LL PP w t hn ht h q⟩
end Go.Proofs.YtcgiphcfjhbonaaGreatDoor.xe
namespace Go.Proofs.YtcgiphcfjhbonaaGreatDoor.xt
open Go.RowKit
open bset (setOf)
open css (tot)
open ok (cnfB clB)
open wm (badN bad_le failB)
open xe (badB checkB)
set_option linter.unusedVariables false
theorem bad_cons (n : Int) (Ss : List Nat) (L : List Int) (LL : List (List Int)) : badN n Ss (L :: LL) = if clB n L && failB Ss (srt.oppN (setOf L)) then badN n (Ss ++ [setOf L]) LL + 1 else 0 := rfl
theorem bad_app (n : Int) (A B : List (List Int)) : ∀ Ss, badN n Ss (A ++ B) = if badN n Ss A = A.length then A.length + badN n (Ss ++ A.map setOf) B else badN n Ss A := by
 induction A with
 | nil =>
  intro Ss
  have e : badN n Ss [] = 0 := rfl
  rw [List.nil_append, e, if_pos (show (0 : Nat) = ([] : List (List Int)).length from rfl), List.map_nil, List.append_nil, List.length_nil, Nat.zero_add]
 | cons L A ih =>
  intro Ss
  rw [List.cons_append, bad_cons, bad_cons]
  cases hb : clB n L && failB Ss (srt.oppN (setOf L))
  ·rw [if_neg (by simp), if_neg (by rw [if_neg (by simp), List.length_cons]; omega), if_neg (by simp)]
  ·rw [if_pos rfl, if_pos rfl, ih]
   by_cases h : badN n (Ss ++ [setOf L]) A = A.length
   ·rw [if_pos h, if_pos (by rw [List.length_cons, h]), List.length_cons, List.map_cons, List.append_assoc]
    show A.length + badN n (Ss ++ (setOf L :: A.map setOf)) B + 1 = A.length + 1 + badN n (Ss ++ (setOf L :: A.map setOf)) B
    omega
   ·rw [if_neg h, if_neg (by rw [List.length_cons]; omega)]
theorem bad_pre {n : Int} {Ss : List Nat} {A B : List (List Int)} (h : badN n Ss (A ++ B) = (A ++ B).length) : badN n Ss A = A.length := by
 rw [bad_app, List.length_append] at h
 by_cases h1 : badN n Ss A = A.length
 ·exact h1
 ·rw [if_neg h1] at h
  have := bad_le n A Ss
  omega
theorem bad_both {n : Int} {Ss : List Nat} {A B : List (List Int)} (h : badN n Ss A = A.length) : badN n Ss (A ++ B) = (A ++ B).length ↔ ¬ badN n (Ss ++ A.map setOf) B < B.length := by
 rw [bad_app, if_pos h, List.length_append]
 have := bad_le n B (Ss ++ A.map setOf)
 omega
def trm (n : Int) (Ss : List Nat) : List (List Int) → List (List Int) → List (List Int)
 | K, [] => K
 | K, L :: B => if B.length = 0 ∨ badN n (Ss ++ K.map setOf) B < B.length then trm n Ss (K ++ [L]) B else trm n Ss K B
def trimB (n : Int) (LL PP : List (List Int)) : List (List Int) × Bool := if checkB n LL PP then (trm n (LL.map setOf) [] PP, true) else ([], false)
theorem trm_keep {n : Int} {Ss : List Nat} {K B : List (List Int)} {L : List Int} (h : B.length = 0 ∨ badN n (Ss ++ K.map setOf) B < B.length) : trm n Ss K (L :: B) = trm n Ss (K ++ [L]) B := by
 rw [trm, if_pos h]
theorem trm_drop {n : Int} {Ss : List Nat} {K B : List (List Int)} {L : List Int} (h0 : B.length ≠ 0) (h : ¬ badN n (Ss ++ K.map setOf) B < B.length) : trm n Ss K (L :: B) = trm n Ss K B := by
 rw [trm, if_neg (fun q => q.elim h0 h)]
theorem trm_len (n : Int) (Ss : List Nat) (B : List (List Int)) : ∀ K, (trm n Ss K B).length ≤ K.length + B.length := by
 induction B with
 | nil => exact fun K => Nat.le_refl _
 | cons L B ih =>
  intro K
  unfold trm
  split
  ·have := ih (K ++ [L])
   rw [List.length_append, List.length_singleton] at this
   rw [List.length_cons]
   omega
  ·have := ih K
   rw [List.length_cons]
   omega
theorem trm_mem (n : Int) (Ss : List Nat) (B : List (List Int)) : ∀ K L, L ∈ trm n Ss K B → L ∈ K ∨ L ∈ B := by
 induction B with
 | nil => exact fun K L h => .inl h
 | cons M B ih =>
  intro K L h
  unfold trm at h
  split at h
  ·rcases ih _ _ h with q | q
   ·rcases List.mem_append.1 q with z | z
    ·exact .inl z
    ·rw [List.mem_singleton] at z
     exact .inr (by rw [z]; exact List.mem_cons_self ..)
   ·exact .inr (List.mem_cons_of_mem _ q)
  ·rcases ih _ _ h with q | q
   ·exact .inl q
   ·exact .inr (List.mem_cons_of_mem _ q)
theorem trm_sum (n : Int) (Ss : List Nat) (B : List (List Int)) : ∀ K, ((trm n Ss K B).map List.length).sum ≤ (K.map List.length).sum + (B.map List.length).sum := by
 induction B with
 | nil => intro K; exact Nat.le_add_right _ _
 | cons M B ih =>
  intro K
  unfold trm
  rw [List.map_cons, List.sum_cons]
  split
  ·have := ih (K ++ [M])
   rw [List.map_append, List.sum_append] at this
   simp only [List.map_cons, List.map_nil, List.sum_cons, List.sum_nil] at this
   omega
  ·have := ih K
   omega
theorem trm_tot (n : Int) (Ss : List Nat) (PP : List (List Int)) : tot (trm n Ss [] PP) ≤ tot PP := by
 have h1 := trm_len n Ss PP []
 have h2 := trm_sum n Ss PP []
 unfold css.tot
 simp only [List.length_nil, List.map_nil, List.sum_nil] at h1 h2
 omega
theorem check_facts {n : Int} {LL PP : List (List Int)} (h : checkB n LL PP = true) : cnfB n LL = true ∧ PP.length ≤ 700 ∧ badN n (LL.map setOf) PP = PP.length ∧ 0 < PP.length ∧ (PP.getD (PP.length - 1) []).length = 0 := by
 unfold xe.checkB at h
 rw [Bool.and_eq_true, Bool.and_eq_true, decide_eq_true_iff, decide_eq_true_iff, decide_eq_true_iff] at h
 obtain ⟨⟨h1, h2⟩, h3⟩ := h
 have hc : cnfB n LL = true := by
  cases hb : cnfB n LL
  ·rw [xe.bad_no hb] at h1
   omega
  ·rfl
 have hl : PP.length ≤ 700 := by
  rcases Nat.lt_or_ge 700 PP.length with q | q
  ·rw [xe.bad_long (by omega)] at h1
   omega
  ·exact q
 rw [xe.bad_yes hc hl] at h1
 exact ⟨hc, hl, by omega, h2, h3⟩
theorem check_of {n : Int} {LL PP : List (List Int)} (hc : cnfB n LL = true) (hl : PP.length ≤ 700) (hb : badN n (LL.map setOf) PP = PP.length) (h0 : 0 < PP.length) (hz : (PP.getD (PP.length - 1) []).length = 0) : checkB n LL PP = true := by
 unfold xe.checkB
 rw [xe.bad_yes hc hl, hb, decide_eq_true rfl, decide_eq_true h0, decide_eq_true hz]
 rfl
theorem last_app {A B : List (List Int)} (h : 0 < B.length) : (A ++ B).getD ((A ++ B).length - 1) [] = B.getD (B.length - 1) [] := by
 rw [List.length_append, List.getD, List.getD, List.getElem?_append_right (by omega)]
 congr 2
 omega
structure Mod (n : Int) (LL : List (List Int)) (R K D : List (List Int)) : Prop where
 ck : checkB n LL (K ++ D) = true
 ne : 0 < D.length
 eq : trm n (LL.map setOf) K D = R
theorem Mod.end_ {n : Int} {LL R K D : List (List Int)} (h : Mod n LL R K D) (h1 : ¬ 1 < D.length) : K ++ D = R := by
 match D, h with
 | [], h => have := h.ne; simp at this
 | [L], h => rw [← h.eq, trm_keep (.inl rfl)]; rfl
 | _ :: _ :: _, _ => simp at h1
theorem Mod.cond {n : Int} {LL R K B : List (List Int)} {L : List Int} (h : Mod n LL R K (L :: B)) (h1 : 0 < B.length) : checkB n LL (K ++ B) = !decide (badN n (LL.map setOf ++ K.map setOf) B < B.length) := by
 obtain ⟨hc, hl, hb, _, hz⟩ := check_facts h.ck
 have hK := bad_pre hb
 have bb := bad_both (B := B) hK
 rw [List.length_append, List.length_cons] at hl
 by_cases q : badN n (LL.map setOf ++ K.map setOf) B < B.length
 ·rw [decide_eq_true q]
  cases hx : checkB n LL (K ++ B)
  ·rfl
  ·exact absurd q (bb.1 (check_facts hx).2.2.1)
 ·rw [decide_eq_false q]
  refine check_of hc (by rw [List.length_append]; omega) (bb.2 q) (by rw [List.length_append]; omega) ?_
  rw [last_app h1]
  have e := last_app (A := K ++ [L]) h1
  rw [List.append_assoc, List.singleton_append] at e
  rw [← e]
  exact hz
theorem Mod.drop {n : Int} {LL R K B : List (List Int)} {L : List Int} (h : Mod n LL R K (L :: B)) (h1 : 0 < B.length) (hc : checkB n LL (K ++ B) = true) : Mod n LL R K B := by
 have e := h.cond h1
 rw [hc] at e
 refine ⟨hc, h1, ?_⟩
 rw [← h.eq, trm_drop (by omega) (fun q => by rw [decide_eq_true q] at e; cases e)]
theorem Mod.keep {n : Int} {LL R K B : List (List Int)} {L : List Int} (h : Mod n LL R K (L :: B)) (h1 : 0 < B.length) (hc : checkB n LL (K ++ B) = false) : Mod n LL R (K ++ [L]) B := by
 have e := h.cond h1
 rw [hc] at e
 refine ⟨by rw [List.append_assoc]; exact h.ck, h1, ?_⟩
 rw [← h.eq, trm_keep (.inr ?_)]
 rcases Nat.lt_or_ge (badN n (LL.map setOf ++ K.map setOf) B) B.length with q | q
 ·exact q
 ·rw [decide_eq_false (by omega)] at e
  cases e
end Go.Proofs.YtcgiphcfjhbonaaGreatDoor.xt
namespace Go.Proofs.YtcgiphcfjhbonaaGreatDoor.xt
open Go.ChangeShapes Go.WideShapes Go.ChangeAt Go.RowKit
open bset (setOf)
open css (tot Sls OwnS Apart own_mono infoSl)
open cf (Box)
open wo (Made)
open xe (checkB)
open rq (nilS sub_own)
open app (made_nil own_at)
open sl (Sl Own ints hide unhide grown_refl grown_trans grown_drewN)
set_option linter.unusedVariables false
def Lss (wr w1 : World) (v : Value) (E : List (Value × List Int)) : Prop := w1.ownsRow wr.heap.size 43 1 v E.length (E.map (·.1)) ∧ wr.grownBy w1 none
theorem Lss.nil (wr : World) : Lss wr ((wr.alloc (.cells #[] 43)).drew) (.slice (some ⟨wr.heap.size, 0, none⟩) 0 0) [] :=
 ⟨(World.ownsRow_lit wr #[] 0 (Nat.le_refl _) (Nat.zero_le _) rfl).drew, grown_trans (World.grownBy_alloc _ _ none) (cf.grown_drew _ none)⟩
theorem stepV {ops : Array Oper} {X : Prop} {o : Oper} {a : Act} {K : Act → World → Prop} {Q : Exit → Act → World → Prop} {wr wx : World} {va : Value} {E F : List (Value × List Int)} {ad : Addr} {n m c : Nat}
  (hA : Lss wr wx va E) (hB : ∀ j p, F[j]? = some p → wx.cell? (ad.add j) = some p.1) (h1 : ∀ p ∈ F, p.1.oneCell' = true) (hn : n = E.length) (hm : m = F.length) (hl : E.length + F.length ≤ 1048576) (hgd : o.guard = none) (s x : Operand)
  (ho : o.op = .call { callee := .builtin .append, args := #[s, x], argTypes := #[24, 24] }) (hs : a.eval s = va) (hx : a.eval x = .slice (some ad) m c)
  (h : ∀ ad' cap' w1, Lss wr w1 (.slice ad' (n + m) cap') (E ++ F) → K (a.put o.dst (.slice ad' (n + m) cap')) w1) :
  if Region.wanted o (yielded ops a.tmps) = true then Oper.wp Tryz.prog o a wx K Q else X := by
 rw [if_pos (by simp [Region.wanted, hgd])]
 obtain ⟨i0, hi, hz0, hz1, hz2⟩ := info_parts infoSl
 subst hn hm
 obtain ⟨v', w', hr, h2, h3, _, _⟩ := run_append_own_at (P := Tryz.prog) wx wr.heap.size 24 o.type 43 i0 (.slice none 0 0) 1 24 Tryz.underlying24 hi hz0 hz1 hz2 rfl (by decide) va E.length (E.map (·.1)) hA.1 ad F.length c (F.map (·.1)) (by rw [List.length_map]; omega) (by
  intro j u hj
  rw [List.getElem?_map] at hj
  cases hq : F[j]? with
  | none => rw [hq] at hj; cases hj
  | some p =>
   rw [hq] at hj
   cases hj
   exact hB j p hq) (by
  intro u hu
  rw [List.mem_map] at hu
  obtain ⟨p, hp, rfl⟩ := hu
  exact h1 p hp) (by unfold maxLen; omega) (by omega) hA.2.size
 obtain ⟨ad', cp, ev⟩ : ∃ ad' cp, v' = .slice ad' (E.length + F.length) cp := by
  rcases h2.2 with ⟨hv, h0⟩ | ⟨g, cap, cur, hv, _⟩
  ·exact ⟨none, 0, by rw [hv, h0]⟩
  ·exact ⟨_, cap, hv⟩
 subst ev
 unfold Oper.wp execOp
 simp only [ho, resolve, invoke, builtin, Sem.run_bind, Sem.run_pure, Result.andThen_ok, List.map_toArray, List.map_cons, List.map_nil, hs, hx, hr]
 refine h ad' cp w' ⟨?_, ?_⟩
 ·rw [List.length_append, List.map_append]
  exact h2
 ·exact ⟨h3.os.trans hA.2.os, h3.tape.trans hA.2.tape, h3.output.trans hA.2.output, Nat.le_trans hA.2.size h3.size, fun k hk _ => (h3.block k (Nat.lt_of_lt_of_le hk hA.2.size) (fun e => by have := (hA.1.lt k e.symm).1; omega)).trans (hA.2.block k hk (fun e => by cases e))⟩
theorem lss_own {lo : Nat} {wr w1 : World} {v : Value} {D E : List (Value × List Int)} (h : Lss wr w1 v E) (hs : E.Sublist D) (hin : ∀ p ∈ D, Own lo wr.heap.size wr p.1 p.2) (hp : D.Pairwise Apart) (hlo : lo ≤ wr.heap.size) : OwnS lo w1.heap.size w1 v (E.map (·.2)) :=
 ⟨E, rfl, own_mono h.1 hlo, fun k e => (h.1.lt k e).2, fun p hp' => ⟨((hin p (hs.subset hp')).kept h.2).1, fun k e => Nat.lt_of_lt_of_le ((hin p (hs.subset hp')).2 k e) h.2.size⟩, hp.sublist hs⟩
theorem one_slice {lo hi : Nat} {w : World} {v : Value} {L : List Int} (h : Own lo hi w v L) : v.oneCell' = true := by
 obtain ⟨a, c, e, _⟩ := h.sl
 subst e
 rfl
structure Gone (lo : Nat) (wr : World) (g cap : Nat) (K B : List (List Int)) (L : List Int) (E F D : List (Value × List Int)) : Prop where
 e1 : ∀ j p, E[j]? = some p → wr.cell? ⟨g, j, none⟩ = some p.1
 e2 : ∀ j p, F[j]? = some p → wr.cell? ⟨g, K.length + 1 + j, none⟩ = some p.1
 l1 : E.length = K.length
 l2 : F.length = B.length
 o1 : ∀ p ∈ E, p.1.oneCell' = true
 o2 : ∀ p ∈ F, p.1.oneCell' = true
 sub : (E ++ F).Sublist D
 inn : ∀ p ∈ D, Own lo wr.heap.size wr p.1 p.2
 ap : D.Pairwise Apart
 eq : (E ++ F).map (·.2) = K ++ B
 cp : K.length + 1 + B.length ≤ cap
theorem gone_of {lo : Nat} {wr : World} {v : Value} {K B : List (List Int)} {L : List Int} (h : OwnS lo wr.heap.size wr v (K ++ L :: B)) : ∃ g cap E F D, v = .slice (some ⟨g, 0, none⟩) (K.length + 1 + B.length) cap ∧ Gone lo wr g cap K B L E F D := by
 obtain ⟨D, e, ho, hb, hin, hp⟩ := h
 have hlen : D.length = K.length + 1 + B.length := by
  have := congrArg List.length e
  simp at this
  omega
 obtain ⟨g, cap, ev, hcap⟩ := ho.form (by omega)
 have hcell : ∀ j p, D[j]? = some p → wr.cell? ⟨g, j, none⟩ = some p.1 := by
  intro j p hj
  have hjl := (List.getElem?_eq_some_iff.1 hj).1
  have ho' := ho
  rw [ev] at ho'
  rw [ho'.cellAt j (by omega), List.getElem?_map, hj]
  rfl
 refine ⟨g, cap, D.take K.length, D.drop (K.length + 1), D, by rw [ev, hlen], ?_⟩
 refine ⟨fun j p hj => ?_, fun j p hj => ?_, by rw [List.length_take]; omega, by rw [List.length_drop]; omega, fun p hp' => one_slice (hin p (List.mem_of_mem_take hp')), fun p hp' => one_slice (hin p (List.mem_of_mem_drop hp')), ?_, hin, hp, ?_, ?_⟩
 ·have hjl := (List.getElem?_eq_some_iff.1 hj).1
  rw [List.length_take] at hjl
  rw [List.getElem?_take_of_lt (by omega)] at hj
  exact hcell j p hj
 ·rw [List.getElem?_drop] at hj
  exact hcell _ p hj
 ·rw [← List.eraseIdx_eq_take_drop_succ]
  exact List.eraseIdx_sublist ..
 ·rw [List.map_append, List.map_take, List.map_drop, e, List.take_left, List.drop_append]
  simp
 ·have ho' := ho
  rw [ev] at ho'
  rcases ho'.2 with ⟨hz, _⟩ | ⟨g', cap', cur, hv, _, _, hn, _⟩
  ·cases hz
  ·rw [Value.slice.injEq] at hv
   obtain ⟨_, _, rfl⟩ := hv
   omega
def TrimE (w : World) (P : List (List Int) × Bool) (e : Ending) (w' : World) : Prop := ∃ r, e = .returned (.tuple #[r, .bool P.2]) ∧ OwnS w.heap.size w'.heap.size w' r P.1 ∧ w.grownBy w' none
def slen : Value → Nat
 | .slice _ n _ => n
 | _ => 0
theorem tot_less (K B : List (List Int)) (L : List Int) : tot (K ++ B) ≤ tot (K ++ L :: B) := by
 unfold css.tot
 simp only [List.length_append, List.length_cons, List.map_append, List.map_cons, List.sum_append, List.sum_cons]
 omega
theorem more4 {w w3 w4 : World} {v x y : Value} {o : Obj} {M : List (List Int)} {hi : Nat} (h : OwnS w.heap.size hi w3 v M) (G3 : w.grownBy w3 none) (b : Box 32 w3 w.heap.size x y) (g4 : (w3.alloc o).grownBy w4 v.ownBlock) : w.grownBy w4 none ∧ Box 32 w4 w.heap.size x y := by
 have ga := World.grownBy_alloc w3 o none
 obtain ⟨D, e, ho, _⟩ := h.kept ga
 have b4 := b.kept ga
 have gA := grown_trans (r := none) G3 ga
 exact ⟨⟨g4.os.trans gA.os, g4.tape.trans gA.tape, g4.output.trans gA.output, Nat.le_trans gA.size g4.size, fun k hk _ => (g4.block k (Nat.lt_of_lt_of_le hk gA.size) (fun e => by have := (ho.lt k e.symm).1; omega)).trans (gA.block k hk (fun e => by cases e))⟩, b4.by g4 (gr.box_ne ho gr.ty1 b4)⟩
end Go.Proofs.YtcgiphcfjhbonaaGreatDoor.xt
