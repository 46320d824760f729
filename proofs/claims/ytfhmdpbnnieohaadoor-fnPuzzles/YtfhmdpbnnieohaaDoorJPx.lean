/- Plain mathematics of the walk that refutes a formula, and of clauses that follow at once; no condition. -/
import Derived.Test.YtfhmdpbnnieohaaDoorJPb
import Derived.Test.YtfhmdpbnnieohaaDoorJXXw
import Derived.Test.YtfhmdpbnnieohaaDoorJXWz
import Derived.Deep.QuietTactic
import Derived.BigQuiet
import Derived.Deep.RegionHeld3
import Derived.Deep.RegionLaw
import Derived.WalkMore
import Derived.ArgAppend
import Derived.Test.YtfhmdpbnnieohaaDoorJPc
import Derived.Test.YtfhmdpbnnieohaaDoorJXFm
import Derived.Test.YtfhmdpbnnieohaaDoorJXVt
import Derived.Deep.RegionWith
import Derived.Test.YtfhmdpbnnieohaaDoorJPn
import Derived.Test.YtfhmdpbnnieohaaDoorJPs
import Derived.Test.YtfhmdpbnnieohaaDoorJXCk
namespace Go.Proofs.YtfhmdpbnnieohaaDoor.xw
open Go.RowKit
open lits (okB okB_iff)
open bset (placeN placeN_le placeN_inj setOf setOf_lt setOf_has setOf_snoc withN withN_bit)
open srt (fstI oppN oppN_bit oppN_lt swp hi_bit litI)
open cls (hasB)
open css (tot)
open ok (cnfB clB litIn)
open fm (freeL freeN)
open wm (frc frt unitN unit_new failB leftN failN pc pc_le pc_with litI_spec swp_place opp_ok set_bd)
open sp (negL)
set_option linter.unusedVariables false
theorem bits_eq {S T : Nat} (hS : S < 2 ^ 48) (hT : T < 2 ^ 48) (h : ∀ x, okB x = true → S.testBit (placeN x) = T.testBit (placeN x)) : S = T := by
 apply Nat.eq_of_testBit_eq
 intro b
 by_cases hb : b < 48
 ·have k := litI_spec hb
  have := h (litI b) k.1
  rw [k.2] at this
  exact this
 ·rw [hi_bit hS (by omega), hi_bit hT (by omega)]
theorem set_neg (L : List Int) : setOf (negL L) = oppN (setOf L) := by
 refine bits_eq (setOf_lt _) (oppN_lt _) fun x hx => ?_
 have hp := placeN_le hx
 rw [setOf_has _ x hx, oppN_bit, decide_eq_true (show placeN x < 48 by omega), Bool.true_and, swp_place hx, setOf_has L (-x) (opp_ok hx)]
 unfold cls.hasB
 congr 1
 apply propext
 unfold sp.negL
 rw [List.mem_map]
 constructor
 ·rintro ⟨y, hy, rfl⟩
  rwa [Int.neg_neg]
 ·intro h
  exact ⟨-x, h, Int.neg_neg x⟩
theorem frc_snd (Ss : List Nat) : ∀ (n T : Nat) (p q : List Int), (frc Ss n T p).2 = (frc Ss n T q).2 := by
 intro n
 induction n with
 | zero => intro T p q; rfl
 | succ n ih =>
  intro T p q
  cases h : (unitN Ss T).2
  ·rw [wm.frc_stop h, wm.frc_stop h]
  ·by_cases h0 : (unitN Ss T).1 = 0
   ·rw [wm.frc_end h h0, wm.frc_end h h0]
   ·rw [wm.frc_more h h0, wm.frc_more h h0]
    exact ih _ _ _
theorem frc_set {Ss : List Nat} (hS : ∀ S ∈ Ss, S < 2 ^ 48) : ∀ (n : Nat) (p : List Int), setOf (frc Ss n (setOf p) p).1 = frt Ss n (setOf p) := by
 intro n
 induction n with
 | zero => intro p; rfl
 | succ n ih =>
  intro p
  cases h : (unitN Ss (setOf p)).2
  ·rw [wm.frc_stop h, wm.frt_stop h]
  ·by_cases h0 : (unitN Ss (setOf p)).1 = 0
   ·rw [wm.frc_end h h0, wm.frt_end h0]
   ·have hx := (unit_new hS h h0).1
    have e : withN (setOf p) (unitN Ss (setOf p)).1 = setOf (p ++ [(unitN Ss (setOf p)).1]) := by rw [setOf_snoc, if_pos hx]
    rw [wm.frc_more h h0, wm.frt_more h h0, e]
    exact ih _
theorem frc_sub (Ss : List Nat) : ∀ (n T : Nat) (p : List Int), ∃ r, (frc Ss n T p).1 = p ++ r := by
 intro n
 induction n with
 | zero => intro T p; exact ⟨[], (List.append_nil p).symm⟩
 | succ n ih =>
  intro T p
  cases h : (unitN Ss T).2
  ·rw [wm.frc_stop h]; exact ⟨[], (List.append_nil p).symm⟩
  ·by_cases h0 : (unitN Ss T).1 = 0
   ·rw [wm.frc_end h h0]; exact ⟨[], (List.append_nil p).symm⟩
   ·rw [wm.frc_more h h0]
    obtain ⟨r, e⟩ := ih (withN T (unitN Ss T).1) (p ++ [(unitN Ss T).1])
    exact ⟨(unitN Ss T).1 :: r, by rw [e, List.append_assoc]; rfl⟩
theorem srt_head {S : Nat} (h0 : 0 < S) (h : S < 2 ^ 48) : ∃ r, srt.srt S 48 = fstI S :: r := by
 obtain ⟨t, m, et, ht, es⟩ := srt.low h0 h
 have lo : ∀ i, 0 ≤ i → i < t → S.testBit i = false := fun i _ hi => by
  rw [es, srt.low_bit, if_pos (by omega), decide_eq_false (by omega)]
 have hit : S.testBit t = true := by rw [es, srt.low_bit, if_pos (by omega), decide_eq_true rfl]
 have e1 : srt.srt S (t + 1) = [litI t] := by
  rw [srt.srt_yes hit, srt.srt_skip (Nat.zero_le t) lo]
  rfl
 have more : ∀ k, ∃ r, srt.srt S (t + 1 + k) = litI t :: r := by
  intro k
  induction k with
  | zero => exact ⟨[], e1⟩
  | succ k ih =>
   obtain ⟨r, e⟩ := ih
   rw [show t + 1 + (k + 1) = t + 1 + k + 1 by omega]
   cases hb : S.testBit (t + 1 + k)
   ·rw [srt.srt_no hb]; exact ⟨r, e⟩
   ·rw [srt.srt_yes hb, e]; exact ⟨r ++ [litI (t + 1 + k)], rfl⟩
 have := more (48 - (t + 1))
 rw [show t + 1 + (48 - (t + 1)) = 48 by omega] at this
 unfold srt.fstI
 rw [← et]
 exact this
theorem srt_none (S : Nat) (h : S = 0) : srt.srt S 48 = [] := by
 subst h
 rw [srt.srt_skip (p := 0) (Nat.zero_le 48) (fun i _ _ => Nat.zero_testBit i)]
 rfl
def full (n : Int) (LL : List (List Int)) : Nat → List Int → Option (List (List Int))
 | 0, _ => none
 | k + 1, d =>
  if (frc (LL.map setOf) 49 (setOf d) d).2 = false then some [negL d]
  else match freeL n LL (frc (LL.map setOf) 49 (setOf d) d).1 with
   | [] => none
   | x :: _ => (full n LL k (d ++ [-x])).bind fun A => (full n LL k (d ++ [x])).map fun B => A ++ B ++ [negL d]
theorem full_stop {n : Int} {LL : List (List Int)} {k : Nat} {d : List Int} (h : (frc (LL.map setOf) 49 (setOf d) d).2 = false) : full n LL (k + 1) d = some [negL d] := by
 rw [full, if_pos h]
theorem full_end {n : Int} {LL : List (List Int)} {k : Nat} {d : List Int} (h : (frc (LL.map setOf) 49 (setOf d) d).2 = true) (h0 : freeL n LL (frc (LL.map setOf) 49 (setOf d) d).1 = []) : full n LL (k + 1) d = none := by
 rw [full, if_neg (by rw [h]; simp), h0]
theorem full_more {n : Int} {LL : List (List Int)} {k : Nat} {d : List Int} {x : Int} {r : List Int} (h : (frc (LL.map setOf) 49 (setOf d) d).2 = true) (h0 : freeL n LL (frc (LL.map setOf) 49 (setOf d) d).1 = x :: r) :
  full n LL (k + 1) d = (full n LL k (d ++ [-x])).bind fun A => (full n LL k (d ++ [x])).map fun B => A ++ B ++ [negL d] := by
 rw [full, if_neg (by rw [h]; simp), h0]
theorem full_pos {n : Int} {LL : List (List Int)} {k : Nat} {d : List Int} {C : List (List Int)} (h : full n LL k d = some C) : 0 < C.length := by
 cases k with
 | zero => cases h
 | succ k =>
  cases hf : (frc (LL.map setOf) 49 (setOf d) d).2
  ·rw [full_stop hf] at h
   cases h
   exact Nat.one_pos
  ·cases h0 : freeL n LL (frc (LL.map setOf) 49 (setOf d) d).1 with
   | nil => rw [full_end hf h0] at h; cases h
   | cons x r =>
    rw [full_more hf h0] at h
    cases ha : full n LL k (d ++ [-x]) with
    | none => rw [ha] at h; cases h
    | some A =>
     cases hb : full n LL k (d ++ [x]) with
     | none => rw [ha, hb] at h; cases h
     | some B =>
      rw [ha, hb] at h
      cases h
      simp
      omega
theorem free_new {n : Int} {LL : List (List Int)} {Ss : List Nat} {d r : List Int} {x : Int} (h : freeL n LL (frc Ss 49 (setOf d) d).1 = x :: r) : (setOf d).testBit (placeN x) = false ∧ (setOf d).testBit (placeN (-x)) = false := by
 obtain ⟨q, eq⟩ := frc_sub Ss 49 (setOf d) d
 have hx : x ∈ freeL n LL (frc Ss 49 (setOf d) d).1 := by rw [h]; exact List.mem_cons_self ..
 have hc : cnfB n LL = true := by
  cases hb : cnfB n LL
  ·unfold fm.freeL at hx
   rw [hb] at hx
   cases hx
  ·rfl
 have hf := fm.cnf_facts hc
 unfold fm.freeL at hx
 rw [hc, if_pos rfl] at hx
 unfold srt.srt at hx
 rw [List.mem_map] at hx
 obtain ⟨i, hi, rfl⟩ := hx
 rw [List.mem_filter, List.mem_range] at hi
 have k := litI_spec hi.1
 have hb := hi.2
 rw [fm.freeN_bit _ _ _ (by omega), Bool.and_eq_true, Bool.not_eq_true', Bool.or_eq_false_iff, eq, fm.setOf_append, Nat.testBit_or, Nat.testBit_or, Bool.or_eq_false_iff, Bool.or_eq_false_iff] at hb
 rw [← swp_place k.1, k.2]
 exact ⟨hb.2.1.1, hb.2.2.1⟩
theorem free_pc {n : Int} {LL : List (List Int)} {Ss : List Nat} {d r : List Int} {x : Int} (h : freeL n LL (frc Ss 49 (setOf d) d).1 = x :: r) : pc (setOf d) + 1 ≤ pc (setOf (d ++ [-x])) ∧ pc (setOf d) + 1 ≤ pc (setOf (d ++ [x])) := by
 have ok := free_ok h
 have nw := free_new h
 rw [setOf_snoc, if_pos ok.2, setOf_snoc, if_pos ok.1]
 exact ⟨pc_with ok.2 nw.2, pc_with ok.1 nw.1⟩
def cnt (O : Option (List (List Int))) (m : Nat) : List (List Int) × Bool := match O with
 | some C => if C.length ≤ m then (C, true) else ([], false)
 | none => ([], false)
theorem wlk_full (n : Int) (LL : List (List Int)) : ∀ (k m : Nat) (d : List Int), 49 ≤ k + pc (setOf d) → wlk n LL m d = cnt (full n LL k d) m := by
 intro k
 induction k with
 | zero =>
  intro m d h
  have := pc_le (setOf d)
  omega
 | succ k ih =>
  intro m d h
  cases m with
  | zero =>
   rw [wlk_zero]
   cases hf : full n LL (k + 1) d with
   | none => rfl
   | some C =>
    have := full_pos hf
    show _ = (if C.length ≤ 0 then (C, true) else ([], false))
    rw [if_neg (by omega)]
  | succ m =>
   cases hf : (frc (LL.map setOf) 49 (setOf d) d).2
   ·rw [wlk_stop hf, full_stop hf]
    show _ = (if ([negL d]).length ≤ m + 1 then ([negL d], true) else ([], false))
    rw [if_pos (by simp)]
   ·cases h0 : freeL n LL (frc (LL.map setOf) 49 (setOf d) d).1 with
    | nil => rw [wlk_end hf h0, full_end hf h0]; rfl
    | cons x r =>
     have hp := free_pc h0
     rw [wlk_more hf h0, full_more hf h0, ih m (d ++ [-x]) (by omega)]
     cases ha : full n LL k (d ++ [-x]) with
     | none => rfl
     | some A =>
      show (if (if A.length ≤ m then (A, true) else (([] : List (List Int)), false)).2 = false then _ else _) = cnt ((full n LL k (d ++ [x])).map fun B => A ++ B ++ [negL d]) (m + 1)
      have e1 : cnt (some A) m = if A.length ≤ m then (A, true) else ([], false) := rfl
      rw [e1]
      by_cases hA : A.length ≤ m
      ·rw [if_pos hA, if_neg (by simp), ih (m - A.length) (d ++ [x]) (by omega)]
       cases hb : full n LL k (d ++ [x]) with
       | none => rfl
       | some B =>
        have e2 : cnt (some B) (m - A.length) = if B.length ≤ m - A.length then (B, true) else ([], false) := rfl
        have e3 : cnt (some (A ++ B ++ [negL d])) (m + 1) = if (A ++ B ++ [negL d]).length ≤ m + 1 then (A ++ B ++ [negL d], true) else ([], false) := rfl
        show _ = cnt (some (A ++ B ++ [negL d])) (m + 1)
        rw [e2, e3]
        by_cases hB : B.length ≤ m - A.length
        ·rw [if_pos hB, if_neg (by simp), if_pos (by simp; omega)]
        ·rw [if_neg hB, if_pos rfl, if_neg (by simp; omega)]
      ·rw [if_neg hA, if_pos rfl]
       cases hb : full n LL k (d ++ [x]) with
       | none => rfl
       | some B =>
        show _ = (if (A ++ B ++ [negL d]).length ≤ m + 1 then (A ++ B ++ [negL d], true) else ([], false))
        rw [if_neg (by simp; omega)]
theorem fail_set (LL : List (List Int)) (d : List Int) : failB (LL.map setOf) (setOf d) = !(frc (LL.map setOf) 49 (setOf d) d).2 := by
 unfold wm.failB
 rw [frc_snd _ _ _ [] d]
theorem left_set {n : Nat} {LL : List (List Int)} {d : List Int} (h : (frc (LL.map setOf) 49 (setOf d) d).2 = true) : failN n (LL.map setOf) (setOf d) = freeN n (frc (LL.map setOf) 49 (setOf d) d).1 := by
 unfold wm.failN
 rw [fail_set, h]
 show leftN n (frt (LL.map setOf) 49 (setOf d)) = _
 rw [← frc_set (set_bd LL)]
 rfl
theorem free_fst {n : Nat} {LL : List (List Int)} {L : List Int} (hc : cnfB (n : Int) LL = true) : (freeN n L = 0 → freeL (n : Int) LL L = []) ∧ (freeN n L ≠ 0 → ∃ r, freeL (n : Int) LL L = fstI (freeN n L) :: r) := by
 have hf := fm.cnf_facts hc
 have e : freeL (n : Int) LL L = srt.srt (freeN n L) 48 := by unfold fm.freeL; rw [hc]; rfl
 rw [e]
 exact ⟨fun h => srt_none _ h, fun h => srt_head (Nat.pos_of_ne_zero h) (fm.freeN_lt L (by omega))⟩
theorem tot_small {M : List (List Int)} (h : ∀ L ∈ M, L.length ≤ 48) : tot M ≤ 49 * M.length := by
 have := fm.flat_len h
 unfold css.tot
 rw [List.length_flatten] at this
 omega
end Go.Proofs.YtfhmdpbnnieohaaDoor.xw
namespace Go.Proofs.YtfhmdpbnnieohaaDoor.xe
open Go.ChangeShapes Go.WideShapes Go.ChangeAt Go.RowKit
open bset (setOf setOf_lt)
open srt (Tab)
open css (tot Sls OwnS)
open cf (Box)
open ok (cnfB)
open wm (badN bad_le set_bd)
open sl (Sl Own ints hide unhide grown_refl grown_trans grown_drewN)
set_option linter.unusedVariables false
def badB (n : Int) (LL PP : List (List Int)) : Int := if cnfB n LL && decide (PP.length ≤ 700) then (badN n (LL.map setOf) PP : Int) else -1
theorem bad_no {n : Int} {LL PP : List (List Int)} (h : cnfB n LL = false) : badB n LL PP = -1 := by unfold badB; rw [h]; rfl
theorem bad_long {n : Int} {LL PP : List (List Int)} (h : ¬ PP.length ≤ 700) : badB n LL PP = -1 := by unfold badB; rw [decide_eq_false h, Bool.and_false]; rfl
theorem bad_yes {n : Int} {LL PP : List (List Int)} (h : cnfB n LL = true) (hl : PP.length ≤ 700) : badB n LL PP = (badN n (LL.map setOf) PP : Int) := by unfold badB; rw [h, decide_eq_true hl]; rfl
theorem bad_bd (n : Int) (LL PP : List (List Int)) : -1 ≤ badB n LL PP ∧ badB n LL PP ≤ PP.length := by
 unfold badB
 split
 ·have := bad_le n PP (LL.map setOf)
  omega
 ·omega
set_option maxRecDepth 100000 in
set_option maxHeartbeats 4000000 in
theorem implFirstBad (v u : Value) (n : Int) (LL PP : List (List Int)) (w : World) (hT : Tab w) (hn : tot LL ≤ 1048576) (ht : tot PP ≤ 1048576) (hv : Sls w v LL) (hu : Sls w u PP) :
  Calls Tryd.prog 25 #[.agg #[.int .i64 n, v], u] w fun e w' => e = .returned (.int .i64 (badB n LL PP)) ∧ w.grownBy w' none := by
 have g0 := World.grownBy_alloc w (.cells #[.int .i64 n, v] 27) none
 have cc := ok.implCnfOk v n LL _ hn (hv.kept g0)
 have F0 := hide (Box.new 27 w (.int .i64 n) v)
 have CK := hide (fun (hl : LL.length + ([] : List Nat).length ≤ 1048576) w2 (g : w.grownBy w2 none) => wm.checkerOf v (.slice none 0 0) n LL [] 0 w2 (hT.kept g) hn (hv.kept g) (World.ownsRow_nil _ _ _ _) (fun S h => by cases h) hl)
 rw [List.append_nil] at CK
 have CB := hide (fun (m : Nat) (hm : m ≤ 24) (hN : (LL.map setOf).length + PP.length ≤ 1048576) w2 (g : w.grownBy w2 none) w3 c s (h : wm.Wof (LL.map setOf) 92 [.int .i64 (m : Int)] w2 w3 c s) => wm.firstBad u PP h (hT.kept g) hm hN (set_bd LL) ht (hu.kept g))
 have G0 := hide g0
 have x0 := (unhide F0).c0
 have x1 := (unhide F0).c1
 obtain ⟨ua, uc, rfl, _⟩ := id hu
 clear hv hu g0 hT
 cases hb : cnfB n LL
 ·rw [hb] at cc
  have CC := hide cc
  rw [bad_no hb]
  clear cc hb CB CK
  go_enter Tryd.func25, Tryd.ntmps25
  go_wp2_with fail
  refine (unhide CC).mono ?_; rintro e w2 ⟨rfl, g2⟩
  have G2 := hide (grown_trans (r := none) (unhide G0) g2)
  clear g2
  go_wp2_with fail
  go_ret
  exact ⟨rfl, unhide G2⟩
 ·have hf := fm.cnf_facts hb
  obtain ⟨m, rfl⟩ := Int.eq_ofNat_of_zero_le hf.1
  rw [hb] at cc
  have CC := hide cc
  by_cases hl : PP.length ≤ 700
  ·have hi' : ¬ (700 : Int) < (PP.length : Int) := by omega
   have CK1 := hide (unhide CK (by simp; omega))
   have CB1 := hide (unhide CB m (by omega) (by rw [List.length_map]; omega))
   rw [bad_yes hb hl]
   generalize badN (m : Int) (LL.map setOf) PP = R at *
   clear cc hb CB CK hl hf
   go_enter Tryd.func25, Tryd.ntmps25
   go_wp2_with fail
   refine (unhide CC).mono ?_; rintro e w2 ⟨rfl, g2⟩
   have G2 := hide (grown_trans (r := none) (unhide G0) g2)
   have b2 := (unhide F0).kept g2
   have y0 := b2.c0
   have y1 := b2.c1
   clear g2 b2 x0 x1
   go_wp2_with fail
   refine (unhide CK1 w2 (unhide G2)).mono ?_; rintro e w3 ⟨c, s, rfl, h3⟩
   have CB3 := hide (unhide CB1 w2 (unhide G2) w3 c s h3)
   clear h3 CB1 CK1
   go_wp2_with fail
   refine (unhide CB3).mono ?_; rintro e w4 ⟨rfl, g4⟩
   have G4 := hide (grown_trans (r := none) (unhide G2) g4)
   clear g4
   go_wp2_with fail
   go_ret
   exact ⟨rfl, unhide G4⟩
  ·have hi' : (700 : Int) < (PP.length : Int) := by omega
   rw [bad_long hl]
   clear cc hb CB CK hl hf
   go_enter Tryd.func25, Tryd.ntmps25
   go_wp2_with fail
   refine (unhide CC).mono ?_; rintro e w2 ⟨rfl, g2⟩
   have G2 := hide (grown_trans (r := none) (unhide G0) g2)
   clear g2
   go_wp2_with fail
   go_ret
   exact ⟨rfl, unhide G2⟩
def checkB (n : Int) (LL PP : List (List Int)) : Bool := decide (badB n LL PP = (PP.length : Int)) && decide (0 < PP.length) && decide ((PP.getD (PP.length - 1) []).length = 0)
theorem check_nil {n : Int} {LL PP : List (List Int)} (h : PP.length = 0) : checkB n LL PP = false := by unfold checkB; rw [h]; simp
set_option maxRecDepth 100000 in
set_option maxHeartbeats 4000000 in
theorem implCheck (v u : Value) (n : Int) (LL PP : List (List Int)) (w : World) (hT : Tab w) (hn : tot LL ≤ 1048576) (ht : tot PP ≤ 1048576) (hv : Sls w v LL) (hu : Sls w u PP) :
  Calls Tryd.prog 9 #[.agg #[.int .i64 n, v], u] w fun e w' => e = .returned (.bool (checkB n LL PP)) ∧ w.grownBy w' none := by
 have g0 := World.grownBy_alloc w (.cells #[.int .i64 n, v] 27) none
 have F0 := hide (Box.new 27 w (.int .i64 n) v)
 have CB := hide (implFirstBad v u n LL PP _ (hT.kept g0) hn ht (hv.kept g0) (hu.kept g0))
 have G0 := hide g0
 have x0 := (unhide F0).c0
 have x1 := (unhide F0).c1
 obtain ⟨ua, uc, rfl, ha⟩ := hu
 by_cases h0 : PP.length = 0
 ·rw [check_nil h0]
  clear hv ha g0 CB hT
  generalize PP.length = N at *
  subst h0
  go_enter Tryd.func9, Tryd.ntmps9
  go_wp2_with fail
  go_ret
  exact ⟨rfl, unhide G0⟩
 ·rcases ha with h | ⟨b, off, rfl, hbb, hcb⟩
  ·rw [h] at h0
   simp at h0
  obtain ⟨u', c1, hs⟩ := hcb (PP.length - 1) (by omega)
  obtain ⟨ea, ec, ee, _⟩ := hs
  subst ee
  have EC : Hid (checkB n LL PP = (decide (badB n LL PP = (PP.length : Int)) && decide ((PP.getD (PP.length - 1) []).length = 0))) := by
   show _ = _
   unfold checkB
   rw [decide_eq_true (show 0 < PP.length by omega), Bool.and_true]
  have hbd := bad_bd n LL PP
  have C1 := hide (g0.cell c1 (fun e => by cases e))
  have hlt := Nat.le_trans (css.tot_in PP (PP.length - 1)) ht
  have hpl := Nat.le_trans (css.tot_len PP) ht
  clear hv g0 c1 hcb hbb hT
  generalize PP.getD (PP.length - 1) [] = L at *
  generalize badB n LL PP = B at *
  generalize PP.length = N at *
  obtain ⟨K, rfl⟩ : ∃ K, N = K + 1 := ⟨N - 1, by omega⟩
  rw [show K + 1 - 1 = K by omega] at C1
  have c1 := unhide C1
  have q1 : (0 : Int) ≤ (K : Int) := by omega
  have q2 : (K : Int) < ((K + 1 : Nat) : Int) := by omega
  by_cases hL : L.length = 0
  ·have EC2 : Hid (checkB n LL PP = decide (B = ((K + 1 : Nat) : Int))) := by show _ = _; rw [unhide EC, decide_eq_true hL, Bool.and_true]
   have hB' : (B == (K : Int) + 1) = decide (B = ((K + 1 : Nat) : Int)) := by
    rw [Bool.eq_iff_iff, beq_iff_eq, decide_eq_true_iff]
    omega
   have hlz : ((L.length : Int) == 0) = true := by rw [beq_iff_eq]; omega
   clear EC hbd hL
   go_enter Tryd.func9, Tryd.ntmps9
   go_wp2_with fail
   refine (unhide CB).mono ?_; rintro e w2 ⟨rfl, g2⟩
   have G2 := hide (grown_trans (r := none) (unhide G0) g2)
   clear g2 CB c1 C1 x0 x1 F0
   go_wp2_with fail
   go_ret
   exact ⟨by rw [unhide EC2]; rfl, unhide G2⟩
  ·have EC2 : Hid (checkB n LL PP = false) := by show _ = _; rw [unhide EC, decide_eq_false hL, Bool.and_false]
   have hlz : ((L.length : Int) == 0) = false := by rw [beq_eq_false_iff_ne]; omega
   clear EC hbd hL CB
   go_enter Tryd.func9, Tryd.ntmps9
   go_wp2_with fail
   go_ret
   exact ⟨by rw [unhide EC2]; rfl, unhide G0⟩
end Go.Proofs.YtfhmdpbnnieohaaDoor.xe
namespace Go.Proofs.YtfhmdpbnnieohaaDoor.ck
open Go.ChangeShapes Go.WideShapes Go.ChangeAt Go.RowKit
open css (OwnS Mid)
open sl (ints hide unhide grown_refl grown_trans)
set_option linter.unusedVariables false
theorem set_comm (w : World) {a g i : Nat} (u : Value) (cs : Array Value) (h : a ≠ g) : (w.setCell ⟨a, i, none⟩ u).setRow g cs = (w.setRow g cs).setCell ⟨a, i, none⟩ u := by
 unfold World.setCell World.setRow
 congr 1
 apply Array.ext_getElem?
 intro k
 simp only [Array.getElem?_modify]
 by_cases e1 : g = k
 ·by_cases e2 : a = k
  ·omega
  ·rw [if_pos e1, if_neg e2, if_neg e2, if_pos e1]
 ·rw [if_neg e1]
  by_cases e2 : a = k
  ·rw [if_pos e2, if_pos e2, if_neg e1]
  ·rw [if_neg e2, if_neg e2, if_neg e1]
theorem flat_step {LL : List (List Int)} {k : Nat} (h : k < LL.length) : (LL.take (k + 1)).flatten.length = (LL.take k).flatten.length + (LL.getD k []).length := by
 rw [css.take_snoc LL k h]
 simp
theorem flat_le (LL : List (List Int)) (k : Nat) : (LL.take k).flatten.length ≤ LL.flatten.length := by
 have e : LL.flatten = (LL.take k).flatten ++ (LL.drop k).flatten := by rw [← List.flatten_append, List.take_append_drop]
 rw [e, List.length_append]
 omega
theorem flat_at {LL : List (List Int)} {k j : Nat} (h : k < LL.length) (hj : j < (LL.getD k []).length) : LL.flatten[(LL.take k).flatten.length + j]? = (LL.getD k [])[j]? := by
 have e : LL.flatten = (LL.take k).flatten ++ ((LL.getD k []) ++ (LL.drop (k + 1)).flatten) := by
  have h1 : LL = LL.take k ++ (LL.getD k [] :: LL.drop (k + 1)) := by
   conv => lhs; rw [← List.take_append_drop k LL, List.drop_eq_getElem_cons h]
   rw [List.getD_eq_getElem?_getD, List.getElem?_eq_getElem h]
   rfl
  conv => lhs; rw [h1]
  rw [List.flatten_append, List.flatten_cons]
 rw [e, List.getElem?_append_right (by omega), Nat.add_sub_cancel_left, List.getElem?_append_left hj]
theorem fill {w wr w2 : World} {n : Nat} {M : List (List Int)} {L : List Int} (hm : Mid w wr n M) (hk : M.length < n) (g2 : wr.grownBy w2 none)
  (ho : w2.ownsRow wr.heap.size 3 1 (.slice (some ⟨wr.heap.size, 0, none⟩) L.length L.length) L.length (ints (List.replicate L.length 0))) :
  Mid w ((w2.setCell ⟨w.heap.size, M.length, none⟩ (.slice (some ⟨wr.heap.size, 0, none⟩) L.length L.length)).setRow wr.heap.size (ints L).toArray) n (M ++ [L]) := by
 have hsz := hm.grown.size
 have hlt : w.heap.size < wr.heap.size := by
  obtain ⟨D, _, o, _⟩ := hm
  exact (o.lt w.heap.size rfl).2
 rw [set_comm w2 _ _ (by omega)]
 refine hm.step hk ?_ ?_
 ·refine ⟨g2.os, g2.tape, g2.output, ?_, fun j hj hr => ?_⟩
  ·show wr.heap.size ≤ (w2.setRow wr.heap.size _).heap.size
   have : (w2.setRow wr.heap.size (ints L).toArray).heap.size = w2.heap.size := by simp [World.setRow]
   rw [this]
   exact g2.size
  ·rw [setRow_other w2 wr.heap.size j _ (by omega)]
   exact g2.block j hj hr
 ·rcases ho.2 with ⟨e, _⟩ | ⟨g', cap', cur, e, hb, hh, hn, hm', hs, ht⟩
  ·cases e
  ·rw [Value.slice.injEq] at e
   obtain ⟨e1, _, rfl⟩ := e
   have eg : wr.heap.size = g' := by simpa using e1
   subst eg
   refine ⟨by rw [sl.ints_length]; omega, .inr ⟨wr.heap.size, L.length, (ints L).toArray, rfl, Nat.le_refl _, setRow_heap w2 _ _ _ _ _ hh, hn, hm', by simp [sl.ints_length], ?_⟩⟩
   rw [Nat.mul_one]
   show List.take L.length (ints L) = ints L
   exact List.take_of_length_le (by rw [sl.ints_length]; exact Nat.le_refl _)
set_option maxRecDepth 100000 in
set_option maxHeartbeats 8000000 in
theorem lists {t : TypeId} {pr : List Value} {o : Nat} (c : Nat) {W0 : World} {va ve : Value} {LL : List (List Int)} (w : World) (hL : LL.length ≤ 1048576) (hF : LL.flatten.length ≤ 4194304) (h : Cl t pr o W0 w c va ve LL) :
  Calls Tryd.prog 24 #[.pointer (some ⟨c, o, none⟩)] w fun e w' => ∃ r, e = .returned r ∧ OwnS w.heap.size w'.heap.size w' r LL ∧ w.grownBy w' none := by
 have x0 := h.bx.c0
 have x1 := h.bx.c1
 obtain ⟨ea, ec, ee⟩ : ∃ a cap, ve = .slice a LL.length cap := by
  rcases h.e.2 with ⟨hv, h0⟩ | ⟨g, cap, cur, hv, _⟩
  ·exact ⟨none, 0, by rw [hv, h0]⟩
  ·exact ⟨_, cap, hv⟩
 obtain ⟨la, lc, el⟩ : ∃ a cap, va = .slice a LL.flatten.length cap := by
  rcases h.l.2 with ⟨hv, h0⟩ | ⟨g, cap, cur, hv, _⟩
  ·exact ⟨none, 0, by rw [hv, h0]⟩
  ·exact ⟨_, cap, hv⟩
 subst ee el
 obtain ⟨i0, hi, hz0, hz1, hz2⟩ := info_parts css.infoSl
 obtain ⟨j0, hj, hy0, hy1, hy2⟩ := info_parts sl.info3
 have HC := hide h
 have HF := hide hF
 obtain ⟨F, hF0⟩ : ∃ F, F = LL.flatten := ⟨_, rfl⟩
 obtain ⟨fl, hfl⟩ : ∃ fl, fl = LL.flatten.length := ⟨_, rfl⟩
 rw [← hfl] at x0
 have HFL := hide hfl
 clear h hF hfl hF0
 go_enter Tryd.func24, Tryd.ntmps24
 go_wp2_with (first | (at_make; refine wpList_make_full _ rfl _ _ 25 rfl w.heap.size 30 i0 (.slice none 0 0) 1 Tryd.underlying25 hi hz0 hz1 _ _ _ _ LL.length rfl rfl (by rfl) (by rfl) ?b1 ?b2 ?b3 ?_))
 case b1 => rw [hz2]; omega
 case b2 => unfold maxLen; omega
 case b3 => exact Nat.le_refl _
 intro w1 hown hgrow
 have y1 := ((unhide HC).bx.kept hgrow).c1
 have O := hide (Mid.start hown hgrow)
 clear hown hgrow x0 x1
 go_wp2_with fail
 clear y1
 go_loopw [4, 19] (fun sv iv wr => ∃ (k st : Nat), k ≤ LL.length ∧ sv = .int .i64 (st : Int) ∧ Hid (st = (LL.take k).flatten.length) ∧ iv = .int .i64 (k : Int) ∧ Hid (Mid w wr LL.length (LL.take k))) (fun _ iv _ => LL.length - (intOf iv).toNat)
 case atStart => exact ⟨0, 0, Nat.zero_le _, rfl, rfl, rfl, O⟩
 case round =>
  obtain ⟨k, st, hk, rfl, hst, rfl, hmid⟩ := hrel
  clear O
  by_cases hlt : k < LL.length
  ·have hg := (unhide hmid).grown
   have hc := (unhide HC).kept hg
   have c0 := hc.bx.c0
   rw [← unhide HFL] at c0
   have hi' : (k : Int) < (LL.length : Int) := by omega
   obtain ⟨eg, ecap, e, _⟩ := hc.e.form (by omega)
   rw [Value.slice.injEq] at e
   obtain ⟨rfl, hz, rfl⟩ := e
   clear hz
   have c1 : wr.cell? ⟨eg, k, none⟩ = some (.int .i64 (((LL.take (k + 1)).flatten.length : Nat) : Int)) := by
    rw [hc.e.cellAt k (by omega)]
    simp [sl.ints, ends_at hlt]
   have hfs := flat_step hlt
   have hfle := flat_le LL (k + 1)
   rw [← unhide hst] at hfs
   have hFu := unhide HF
   have htl : (LL.take k).length = k := by rw [List.length_take]; omega
   have hts := css.take_snoc LL k hlt
   obtain ⟨en, hen⟩ : ∃ en, en = (LL.take (k + 1)).flatten.length := ⟨_, rfl⟩
   rw [← hen] at c1 hfs hfle
   have HEN := hide hen
   rw [← unhide HFL] at hfle hFu
   have hin : en = st + (LL.getD k []).length := hfs
   have SRC : Hid (∀ lg, la = some ⟨lg, 0, none⟩ → ∀ w', wr.grownBy w' none → ∀ j y, (ints (LL.getD k []))[j]? = some y → w'.cell? ⟨lg, st + j, none⟩ = some y) := by
    intro lg e w' gg j y hj
    have hjl : j < (LL.getD k []).length := by
     have := (List.getElem?_eq_some_iff.1 hj).1
     rwa [sl.ints_length] at this
    have hl := hc.l
    rw [e] at hl
    have hfa := flat_at hlt hjl
    rw [← unhide hst] at hfa
    refine gg.cell ((hl.cellAt (st + j) (by rw [← unhide HFL]; omega)).trans ?_) (fun e => by cases e)
    rw [← hj]
    simp only [sl.ints, List.getElem?_map, hfa]
   have HTS := hide hts
   have HTL := hide htl
   clear hg hc hfs hen hts htl
   generalize LL.getD k [] = L at *
   have hLl : L.length ≤ 4194304 := by omega
   subst hin
   have hcap : fl ≤ lc := by
    rcases (unhide HC).l.2 with ⟨e, h0⟩ | ⟨g', cap', cur, e, _, _, hn', _⟩
    ·rw [unhide HFL, h0]; exact Nat.zero_le _
    ·rw [Value.slice.injEq] at e
     obtain ⟨_, _, rfl⟩ := e
     rw [unhide HFL]
     exact hn'
   have b1 : (0 : Int) ≤ (st : Int) := by omega
   have b3 : ((st + L.length : Nat) : Int) ≤ (lc : Int) := by omega
   have CM := hide (fun (w2 : World) (g2 : wr.grownBy w2 none) => (unhide hmid).cell (by rw [unhide HTL]; exact hlt) g2)
   rw [unhide HTL] at CM
   have EN : Hid (st + L.length = (LL.take (k + 1)).flatten.length) := unhide HEN
   have hfp : L.length ≤ fl := by omega
   clear HEN hfle hFu
   by_cases hL0 : L.length = 0
   ·have eL : L = [] := List.eq_nil_of_length_eq_zero hL0
    subst eL
    have b2 : ((st + ([] : List Int).length : Nat) : Int) = (st : Int) := by simp
    rw [b2] at c1 b3
    have NX : Hid (∀ w2 u, wr.grownBy w2 none → w2.ownsRow wr.heap.size 3 1 u 0 [] → Mid w (w2.setCell ⟨w.heap.size, k, none⟩ u) LL.length (LL.take (k + 1))) := by
     intro w2 u g2 o2
     have := (unhide hmid).step (by rw [unhide HTL]; exact hlt) g2 (L := []) o2
     rw [unhide HTL, ← unhide HTS] at this
     exact this
    clear hL0 b2 SRC hLl
    go_wp2_with (first | (at_make; refine wpList_make_full _ rfl _ _ 30 rfl wr.heap.size 3 j0 (.int .i64 0) 1 Tryd.underlying30 hj hy0 hy1 _ _ _ _ 0 rfl rfl (by rfl) (by rfl) ?b1 ?b2 ?b3 ?_))
    case b1 => rw [hy2]; omega
    case b2 => unfold maxLen; omega
    case b3 => exact Nat.le_refl _
    intro w2 o2 g2
    obtain ⟨⟨x, hx⟩, hf⟩ := unhide CM w2 g2
    have M2 := hide (unhide NX w2 _ g2 (by simpa [madeCells] using o2))
    have hcp : ∀ w', (Builtin.copy_ #[30, 30] 3 #[.slice (some ⟨wr.heap.size, 0, none⟩) 0 0, .slice la 0 0]).run Tryd.prog w' = .ok (goInt 0) w' := fun w' => run_copy_none (P := Tryd.prog) w' 30 30 3 3 _ _ _ _ _ _ Tryd.underlying30 (by rw [hj, Option.map_some, hy1]) rfl
    clear o2 g2 NX CM c0 c1
    go_wp2_with fail
    go_roundw
    case rel => exact ⟨k + 1, st, by omega, rfl, by show st = _; have := unhide EN; simpa using this, by go_num, unhide M2⟩
    case measure => simp [intOf]; omega
   ·obtain ⟨lg, lcap, e, _⟩ := (unhide HC).l.form (by rw [← unhide HFL]; omega)
    rw [Value.slice.injEq] at e
    obtain ⟨rfl, hz, rfl⟩ := e
    clear hz
    have b2 : (st : Int) ≤ ((st + L.length : Nat) : Int) := by omega
    have b4 : ¬ st + L.length = st := by omega
    have b5 : (0 : Int) ≤ ((st + L.length : Nat) : Int) := by omega
    have b6 : st + L.length - st = L.length := by omega
    obtain ⟨en, hen⟩ : ∃ en, en = st + L.length := ⟨_, rfl⟩
    rw [← hen] at c1 b2 b3 b4 b5 b6
    have NX : Hid (∀ w2, wr.grownBy w2 none → w2.ownsRow wr.heap.size 3 1 (.slice (some ⟨wr.heap.size, 0, none⟩) L.length L.length) L.length (ints (List.replicate L.length 0)) → Mid w ((w2.setCell ⟨w.heap.size, k, none⟩ (.slice (some ⟨wr.heap.size, 0, none⟩) L.length L.length)).setRow wr.heap.size (ints L).toArray) LL.length (LL.take (k + 1))) := by
     intro w2 g2 o2
     have := fill (unhide hmid) (by rw [unhide HTL]; exact hlt) g2 o2
     rw [unhide HTL, ← unhide HTS] at this
     exact this
    have SR := hide (unhide SRC lg rfl)
    have HEN := hide hen
    have hLw := (unhide hmid).grown.size
    clear hen SRC
    go_wp2_with (first | (at_make; refine wpList_make_full _ rfl _ _ 30 rfl wr.heap.size 3 j0 (.int .i64 0) 1 Tryd.underlying30 hj hy0 hy1 _ _ _ _ L.length rfl rfl (by rfl) (by rfl) ?b1 ?b2 ?b3 ?_))
    case b1 => rw [hy2]; omega
    case b2 => unfold maxLen; omega
    case b3 => exact Nat.le_refl _
    intro w2 o2 g2
    obtain ⟨⟨x, hx⟩, hf⟩ := unhide CM w2 g2
    have ez : (madeCells #[Value.int .i64 0] L.length).toList = ints (List.replicate L.length 0) := by
     rw [toList_madeCells_one]
     simp [sl.ints]
    rw [ez] at o2
    have M2 := hide (unhide NX w2 g2 o2)
    have hblk : w2.heap[wr.heap.size]? = some (.cells (ints (List.replicate L.length 0)).toArray 3 (0, 0)) := by
     rcases o2.2 with ⟨e, _⟩ | ⟨g', cap', cur, e, hb, hh, hn, hm', hs, ht⟩
     ·cases e
     ·rw [Value.slice.injEq] at e
      obtain ⟨e1, _, rfl⟩ := e
      have eg' : wr.heap.size = g' := by simpa using e1
      subst eg'
      rw [hh]
      congr 2
      rw [← ht, List.take_of_length_le (by simp; omega)]
    have hne : w.heap.size ≠ wr.heap.size := by
     obtain ⟨D, _, o, _⟩ := unhide hmid
     have := (o.lt w.heap.size rfl).2
     omega
    have hlw : ¬ w.heap.size = lg := by
     have := ((unhide HC).l.lt lg rfl).2
     omega
    have hcp := run_copy_row (P := Tryd.prog) (w2.setCell ⟨w.heap.size, k, none⟩ (.slice (some ⟨wr.heap.size, 0, none⟩) L.length L.length)) 30 30 3 3 wr.heap.size 0 L.length L.length ⟨lg, st, none⟩ L.length L.length (ints (List.replicate L.length 0)).toArray 3 (ints L) Tryd.underlying30 (by rw [hj, Option.map_some, hy1])
     (by rw [Below.heap_setCell _ _ _ _ (fun e => hne e.symm)]; exact hblk) (by rw [sl.ints_length]; exact (Nat.min_self _).symm)
     (by
      intro j y hjy
      rw [Addr.add_mid]
      have hcy := unhide SR w2 g2 j y hjy
      exact (World.cell?_setCell_other w2 _ _ _ (fun e => hlw (congrArg Addr.block e))).trans hcy)
     (by simp [sl.ints_length]) (ints_oneCell .i64 L)
    have erow : (List.take 0 (ints (List.replicate L.length 0)).toArray.toList ++ ints L ++ List.drop (0 + (ints L).length) (ints (List.replicate L.length 0)).toArray.toList).toArray = (ints L).toArray := by
     congr 1
     rw [List.take_zero, List.nil_append, Nat.zero_add, sl.ints_length]
     rw [List.drop_of_length_le (by simp [sl.ints_length]), List.append_nil]
    rw [erow] at hcp
    clear o2 g2 NX CM c0 c1 hblk ez erow
    go_wp2_with fail
    go_roundw
    case rel => exact ⟨k + 1, en, by omega, rfl, (unhide HEN).trans (unhide EN), by go_num, unhide M2⟩
    case measure => simp [intOf]; omega
  ·have hi' : ¬ (k : Int) < (LL.length : Int) := by omega
   have e : LL.take k = LL := List.take_of_length_le (by omega)
   rw [e] at hmid
   have R := hide ((unhide hmid).done rfl)
   clear hmid e
   go_wp2_with fail
   go_ret
   exact ⟨_, rfl, unhide R⟩
end Go.Proofs.YtfhmdpbnnieohaaDoor.ck
namespace Go.Proofs.YtfhmdpbnnieohaaDoor.xp
open Go.ChangeShapes Go.WideShapes Go.ChangeAt Go.RowKit
open wm (WS Wat Stp Foot Wof Far own_cut roomW)
open ck (Cl Bo Mv)
open srt (Tab)
open sl (Sl Own ints hide unhide grown_refl grown_trans)
set_option linter.unusedVariables false
theorem guard_off {ops : Array Oper} {rest : List Oper} {o : Oper} {a : Act} {w : World} {Q : Exit → Act → World → Prop} (hw : Region.wanted o (yielded ops a.tmps) = true) (h : wpList Tryd.prog ops Q ({ o with guard := none } :: rest) a w) : wpList Tryd.prog ops Q (o :: rest) a w := by
 unfold wpList at h ⊢
 rw [if_pos hw]
 rw [if_pos (by simp [Region.wanted])] at h
 exact h
structure Psh (B : Nat) (w : World) (dv : Value) (d : List Int) (x : Int) (dv' : Value) (w1 : World) : Prop where
 own : w1.ownsRow B 3 1 dv' (d ++ [x]).length (ints (d ++ [x]))
 gr : w.grownBy w1 dv.ownBlock
 at_ : ∀ g, dv'.ownBlock = some g → dv.ownBlock = some g ∨ w.heap.size ≤ g
 back : ∀ w2 : World, w2.ownsRow B 3 1 dv' (d ++ [x]).length (ints (d ++ [x])) → (∀ k, dv.ownBlock = some k → dv'.ownBlock ≠ some k → w2.heap[k]? = w1.heap[k]?) → w2.ownsRow B 3 1 dv d.length (ints d)
theorem take_set (cur : Array Value) (m : Nat) (x : Value) (h : m < cur.size) : (cur.set! m x).toList.take (m + 1) = cur.toList.take m ++ [x] := by
 have hlt : m < cur.toList.length := by rw [Array.length_toList]; exact h
 rw [Array.set!_eq_setIfInBounds, Array.toList_setIfInBounds, List.take_succ_eq_append_getElem (by rw [List.length_set]; exact hlt)]
 congr 1
 ·rw [List.take_set_of_le (Nat.le_refl _)]
 ·simp
theorem pushD {ops : Array Oper} {rest : List Oper} {o : Oper} {a : Act} {Q : Exit → Act → World → Prop} {w : World} {B b : Nat} {dv : Value} {d : List Int} {x : Int}
  (hd : w.ownsRow B 3 1 dv d.length (ints d)) (hb : w.cell? ⟨b, 0, none⟩ = some (.int .i64 x)) (hB : B ≤ w.heap.size) (hl : d.length ≤ 1000) (hgd : o.guard = none) (s y : Operand)
  (ho : o.op = .call { callee := .builtin .append, args := #[s, y], argTypes := #[30, 30] }) (hs : a.eval s = dv) (hx : a.eval y = .slice (some ⟨b, 0, none⟩) 1 1)
  (hK : ∀ g cap w1, Psh B w dv d x (.slice (some ⟨g, 0, none⟩) (d.length + 1) cap) w1 → wpList Tryd.prog ops Q rest (a.put o.dst (.slice (some ⟨g, 0, none⟩) (d.length + 1) cap)) w1) :
  wpList Tryd.prog ops Q (o :: rest) a w := by
 obtain ⟨i0, hi, hz0, hz1, hz2⟩ := info_parts sl.info3
 have el : (d ++ [x]).length = d.length + 1 := by simp
 have ei : ints (d ++ [x]) = ints d ++ [.int .i64 x] := app.ints_append d [x]
 have et : (ints (d ++ [x])).take d.length = ints d := by
  rw [ei, List.take_append_of_le_length (by rw [sl.ints_length]; exact Nat.le_refl _), List.take_of_length_le (by rw [sl.ints_length]; exact Nat.le_refl _)]
 obtain ⟨ao, cap, ev, hnone, hcell⟩ : ∃ ao cap, dv = .slice ao d.length cap ∧ (ao = none → d.length = 0 ∧ cap = 0) ∧ (∀ ad, ao = some ad → ∃ g, ad = ⟨g, 0, none⟩ ∧ d.length ≤ cap) := by
  rcases hd.2 with ⟨hv, h0⟩ | ⟨g, cap, cur, hv, hg, hh, hn, _⟩
  ·exact ⟨none, 0, by rw [hv, h0], (fun _ => ⟨h0, rfl⟩), (fun _ e => by cases e)⟩
  ·exact ⟨_, cap, hv, (fun e => by cases e), (fun ad e => by cases e; exact ⟨g, rfl, hn⟩)⟩
 subst ev
 by_cases hroom : d.length + 1 ≤ cap
 ·cases ao with
  | none => have := hnone rfl; omega
  | some ad =>
   obtain ⟨g, rfl, hn⟩ := hcell ad rfl
   have hr := hd.2
   rcases hr with ⟨hv, _⟩ | ⟨g', cap', cur, hv, hg, hh, hn', hm', hsz, ht⟩
   ·cases hv
   ·simp only [Value.slice.injEq, Option.some.injEq, Addr.mk.injEq, and_true, true_and] at hv
    obtain ⟨rfl, rfl⟩ := hv
    have hso : (w.cell? ⟨g, d.length, none⟩).isSome = true := by
     simp only [World.cell?, hh]
     rw [Array.getElem?_eq_getElem (by omega)]
     rfl
    refine roomW hb hroom hso (hd.frozenAt _) hgd s y ho hs hx ?_
    refine hK g cap _ ⟨?_, sl.grown_setCell w g d.length _, fun q e => .inl e, fun w2 h2 _ => ?_⟩
    ·refine ⟨by rw [sl.ints_length, el]; omega, .inr ⟨g, cap, cur.set! d.length (.int .i64 x), by rw [el], hg, ?_, by rw [el]; exact hroom, hm', by simp [hsz], ?_⟩⟩
     ·simp [World.setCell, Array.getElem?_modify, hh]
     ·rw [Nat.mul_one] at ht ⊢
      rw [el, ei, take_set cur d.length (.int .i64 x) (by omega), ht]
    ·have := own_cut (m := d.length) (by rw [el] at h2; exact h2) (by omega)
     rw [et] at this
     exact this
 ·refine wpList_append_grows w hgd s y 30 ho 3 i0 (.int .i64 0) 1 8 Tryd.underlying30 hi hz0 hz1 hz2 rfl (by decide) ao d.length cap (ints d) hs hnone (by rw [sl.ints_length]; omega) ?_ ⟨b, 0, none⟩ 1 1 [.int .i64 x] hx rfl ?_ ?_ (by omega) (by unfold maxLen; omega) (by omega) ?_
  ·intro ad e j u hj
   obtain ⟨g, rfl, hn⟩ := hcell ad e
   subst e
   have hjl : j < d.length := by
    have := (List.getElem?_eq_some_iff.1 hj).1
    rwa [sl.ints_length] at this
   rw [Addr.add_lit, Nat.zero_add, hd.cellAt j (by omega)]
   exact hj
  ·intro j u hj
   match j, hj with
   | 0, hj => simp at hj; subst hj; simpa [Addr.add] using hb
  ·intro u hu
   simp at hu
   subst hu
   rfl
  ·intro v' w' h1 h2
   obtain ⟨g, cap', ev⟩ : ∃ g cap', v' = .slice (some ⟨g, 0, none⟩) (d.length + 1) cap' := by
    rcases h1.2 with ⟨hv, h0⟩ | ⟨g, cap', cur, hv, _⟩
    ·omega
    ·exact ⟨g, cap', hv⟩
   subst ev
   have hlt := (h1.lt g rfl).1
   refine hK g cap' w' ⟨?_, ⟨h2.os, h2.tape, h2.output, h2.size, fun k hk _ => h2.block k hk (fun e => by cases e)⟩, fun q e => .inr ?_, fun w2 _ hb2 => ?_⟩
   ·rw [el, ei]
    exact css.own_mono h1 hB
   ·have e' : g = q := by simpa [Value.ownBlock] using e
    omega
   ·have hd1 := hd.kept h2 (ck.ne_none _)
    refine ⟨hd1.1, ?_⟩
    rcases hd1.2 with hz | ⟨g1, cap1, cur1, hv, hg1, hh1, rest1⟩
    ·exact .inl hz
    ·refine .inr ⟨g1, cap1, cur1, hv, hg1, ?_, rest1⟩
     have ho1 : (Value.slice ao d.length cap).ownBlock = some g1 := by rw [hv]; rfl
     rw [hb2 g1 ho1 (fun e => by
      have e' : g = g1 := by simpa [Value.ownBlock] using e
      have := (hd.lt g1 ho1).2
      omega)]
     exact hh1
structure Rf (Ss : List Nat) (n : Nat) (wB w : World) (r c : Nat) (s : WS) (va ve : Value) (T : List (List Int)) : Prop where
 ck : Wof Ss 92 [.int .i64 (n : Int)] wB w c s
 cl : Cl 57 [.pointer (some ⟨c, 0, none⟩)] 1 wB w r va ve T
 sp : ∀ k, Foot c s k → k ≠ r ∧ va.ownBlock ≠ some k ∧ ve.ownBlock ≠ some k
def FootR (r c : Nat) (s : WS) (va ve : Value) (k : Nat) : Prop := Foot c s k ∨ k = r ∨ va.ownBlock = some k ∨ ve.ownBlock = some k
theorem Rf.lt {Ss : List Nat} {n : Nat} {wB w : World} {r c : Nat} {s : WS} {va ve : Value} {T : List (List Int)} (h : Rf Ss n wB w r c s va ve T) {k : Nat} (f : FootR r c s va ve k) : wB.heap.size ≤ k ∧ k < w.heap.size := by
 rcases f with f | f | f | f
 ·exact ⟨h.ck.far k f, wm.foot_lt h.ck.wat f⟩
 ·subst f
  exact ⟨h.cl.hc, h.cl.bx.lt⟩
 ·exact h.cl.l.lt k f
 ·exact h.cl.e.lt k f
theorem bo_stp {t : TypeId} {pr : List Value} {o : Nat} {w w' : World} {c : Nat} {x y : Value} (h : Bo t pr o w c x y) (e : w'.heap[c]? = w.heap[c]?) : Bo t pr o w' c x y := ⟨by rw [e]; exact h.blk, h.ho, h.ty⟩
theorem row_stp {w w' : World} {b n : Nat} {v : Value} {xs : List Value} (h : w.ownsRow b 3 1 v n xs) (e : ∀ k, v.ownBlock = some k → w'.heap[k]? = w.heap[k]?) : w'.ownsRow b 3 1 v n xs := by
 refine ⟨h.1, ?_⟩
 rcases h.2 with hz | ⟨g, cap, cur, rfl, hb, hg, rest⟩
 ·exact .inl hz
 ·exact .inr ⟨g, cap, cur, rfl, hb, by rw [e g rfl]; exact hg, rest⟩
theorem Rf.check {Ss : List Nat} {n : Nat} {wB w w' : World} {r c : Nat} {s s' : WS} {va ve : Value} {T : List (List Int)} (h : Rf Ss n wB w r c s va ve T) (k : Wof Ss 92 [.int .i64 (n : Int)] wB w' c s') (st : Stp c s s' w w') : Rf Ss n wB w' r c s' va ve T := by
 have nf : ∀ q, FootR r c s va ve q → ¬ Foot c s q → w'.heap[q]? = w.heap[q]? := fun q f nf => st.block q (h.lt f).2 nf
 refine ⟨k, ⟨bo_stp h.cl.bx (nf r (.inr (.inl rfl)) (fun f => (h.sp r f).1 rfl)), row_stp h.cl.l (fun q e => nf q (.inr (.inr (.inl e))) (fun f => (h.sp q f).2.1 e)), row_stp h.cl.e (fun q e => nf q (.inr (.inr (.inr e))) (fun f => (h.sp q f).2.2 e)), h.cl.ap, k.g, h.cl.hc⟩, fun q f => ?_⟩
 rcases st.foot q f with f' | f'
 ·exact h.sp q f'
 ·refine ⟨fun e => ?_, fun e => ?_, fun e => ?_⟩
  ·have := h.cl.bx.lt
   omega
  ·have := (h.cl.l.lt q e).2
   omega
  ·have := (h.cl.e.lt q e).2
   omega
theorem Rf.by {Ss : List Nat} {n : Nat} {wB w w' : World} {r c : Nat} {s : WS} {va ve : Value} {T : List (List Int)} {q : Option Nat} (h : Rf Ss n wB w r c s va ve T) (g : w.grownBy w' q) (hq : ∀ k, q = some k → ¬ FootR r c s va ve k ∧ wB.heap.size ≤ k) : Rf Ss n wB w' r c s va ve T := by
 have hg : wB.grownBy w' none := ⟨g.os.trans h.ck.g.os, g.tape.trans h.ck.g.tape, g.output.trans h.ck.g.output, Nat.le_trans h.ck.g.size g.size, fun k hk _ => (g.block k (Nat.lt_of_lt_of_le hk h.ck.g.size) (fun e => by have := (hq k e.symm).2; omega)).trans (h.ck.g.block k hk (fun e => by cases e))⟩
 have nf : ∀ k, FootR r c s va ve k → w'.heap[k]? = w.heap[k]? := fun k f => g.block k (h.lt f).2 (fun e => (hq k e.symm).1 f)
 exact ⟨⟨h.ck.wat.by g (fun k e f => (hq k e).1 (.inl f)), hg, h.ck.far, h.ck.jn, h.ck.tk, h.ck.bd, h.ck.tx⟩, ⟨bo_stp h.cl.bx (nf r (.inr (.inl rfl))), row_stp h.cl.l (fun k e => nf k (.inr (.inr (.inl e)))), row_stp h.cl.e (fun k e => nf k (.inr (.inr (.inr e)))), h.cl.ap, hg, h.cl.hc⟩, h.sp⟩
theorem Rf.told {Ss : List Nat} {n : Nat} {wB w w' : World} {r c : Nat} {s : WS} {va ve va' ve' : Value} {T T' : List (List Int)} (h : Rf Ss n wB w r c s va ve T) (k : Cl 57 [.pointer (some ⟨c, 0, none⟩)] 1 wB w' r va' ve' T') (m : Mv r va ve va' ve' w w') : Rf Ss n wB w' r c s va' ve' T' := by
 have nf : ∀ q, Foot c s q → w'.heap[q]? = w.heap[q]? := fun q f => m.block q (wm.foot_lt h.ck.wat f) (h.sp q f).1 (h.sp q f).2.1 (h.sp q f).2.2
 have hw := h.ck.wat
 refine ⟨⟨⟨by rw [nf c (.inl rfl)]; exact hw.blk, hw.len, ?_, fun p hp => row_stp (hw.ls p hp) (fun q e => nf q (.inr (.inr ⟨p, hp, e⟩))), hw.ap, hw.ty⟩, k.g, h.ck.far, h.ck.jn, h.ck.tk, h.ck.bd, h.ck.tx⟩, k, fun q f => ?_⟩
 ·refine ⟨hw.cl.1, ?_⟩
  rcases hw.cl.2 with hz | ⟨g, cap, cur, e, hb, hg, rest⟩
  ·exact .inl hz
  ·exact .inr ⟨g, cap, cur, e, hb, by rw [nf g (.inr (.inl (by rw [e]; rfl)))]; exact hg, rest⟩
 ·have hl := wm.foot_lt hw f
  refine ⟨(h.sp q f).1, fun e => ?_, fun e => ?_⟩
  ·rcases m.fa q e with z | z
   ·exact (h.sp q f).2.1 z
   ·omega
  ·rcases m.fe q e with z | z
   ·exact (h.sp q f).2.2 z
   ·omega
structure Stq (dv : Value) (F F' : Nat → Prop) (w w' : World) : Prop where
 size : w.heap.size ≤ w'.heap.size
 block : ∀ k, k < w.heap.size → ¬ F k → dv.ownBlock ≠ some k → w'.heap[k]? = w.heap[k]?
 foot : ∀ k, F' k → F k ∨ w.heap.size ≤ k
theorem Stq.trans {dv : Value} {F F1 F2 : Nat → Prop} {w w1 w2 : World} (h : Stq dv F F1 w w1) (k : Stq dv F1 F2 w1 w2) : Stq dv F F2 w w2 :=
 ⟨Nat.le_trans h.size k.size, fun q hq hn hd => (k.block q (Nat.lt_of_lt_of_le hq h.size) (fun f => by
   rcases h.foot q f with z | z
   ·exact hn z
   ·omega) hd).trans (h.block q hq hn hd), fun q f => by
   rcases k.foot q f with z | z
   ·exact h.foot q z
   ·exact .inr (Nat.le_trans h.size z)⟩
theorem Stq.of_stp {dv : Value} {r c : Nat} {s s' : WS} {va ve : Value} {w w' : World} (st : Stp c s s' w w') : Stq dv (FootR r c s va ve) (FootR r c s' va ve) w w' :=
 ⟨st.size, fun k hk hn _ => st.block k hk (fun f => hn (.inl f)), fun k f => by
  rcases f with f | f
  ·rcases st.foot k f with z | z
   ·exact .inl (.inl z)
   ·exact .inr z
  ·exact .inl (.inr f)⟩
theorem Stq.of_grown {dv : Value} {F : Nat → Prop} {w w' : World} {q : Option Nat} (g : w.grownBy w' q) (hq : ∀ k, q = some k → dv.ownBlock = some k) : Stq dv F F w w' :=
 ⟨g.size, fun k hk _ hd => g.block k hk (fun e => hd (hq k e.symm)), fun _ h => .inl h⟩
theorem Stq.of_mv {dv : Value} {r c : Nat} {s : WS} {va ve va' ve' : Value} {w w' : World} (m : Mv r va ve va' ve' w w') : Stq dv (FootR r c s va ve) (FootR r c s va' ve') w w' :=
 ⟨m.size, fun k hk hn _ => m.block k hk (fun e => hn (.inr (.inl e))) (fun e => hn (.inr (.inr (.inl e)))) (fun e => hn (.inr (.inr (.inr e)))), fun k f => by
  rcases f with f | f | f | f
  ·exact .inl (.inl f)
  ·exact .inl (.inr (.inl f))
  ·rcases m.fa k f with z | z
   ·exact .inl (.inr (.inr (.inl z)))
   ·exact .inr z
  ·rcases m.fe k f with z | z
   ·exact .inl (.inr (.inr (.inr z)))
   ·exact .inr z⟩
end Go.Proofs.YtfhmdpbnnieohaaDoor.xp
namespace Go.Proofs.YtfhmdpbnnieohaaDoor.xp
open Go.ChangeShapes Go.WideShapes Go.ChangeAt Go.RowKit
open lits (okB okB_iff)
open bset (setOf setOf_lt)
open srt (Tab fstI)
open css (tot)
open ok (cnfB)
open fm (freeL freeN)
open wm (WS Wat Stp Foot Wof Far frc failB failN pc pc_le set_bd FailE)
open wo (Made)
open sp (negL)
open xw (full full_stop full_end full_more fail_set left_set free_fst free_ok free_pc lit_wrap)
open ck (Cl Bo Mv)
open sl (Sl Own ints hide unhide grown_refl grown_trans grown_drewN)
set_option linter.unusedVariables false
def Told (n : Int) (LL : List (List Int)) (K : Nat) (d : List Int) (T T' : List (List Int)) (ok : Bool) : Prop :=
 (ok = true → ∃ C, full n LL K d = some C ∧ T' = T ++ C) ∧ (ok = false → full n LL K d = none ∨ ∃ C, full n LL K d = some C ∧ 700 < T.length + C.length)
structure Fin_ (T : List (List Int)) : Prop where
 le : T.length ≤ 700
 l48 : ∀ L ∈ T, L.length ≤ 48
theorem Fin_.flat {T : List (List Int)} (h : Fin_ T) : T.flatten.length ≤ 33600 := by
 have := fm.flat_len h.l48
 have := h.le
 omega
def WkE (n : Nat) (LL : List (List Int)) (K : Nat) (d : List Int) (dv : Value) (wB : World) (r c : Nat) (s : WS) (va ve : Value) (T : List (List Int)) (w : World) (e : Ending) (w' : World) : Prop :=
 ∃ ok s' va' ve' T', e = .returned (.bool ok) ∧ Rf (LL.map setOf) n wB w' r c s' va' ve' T' ∧ Stq dv (FootR r c s va ve) (FootR r c s' va' ve') w w' ∧ w'.ownsRow wB.heap.size 3 1 dv d.length (ints d) ∧ Fin_ T' ∧ Told (n : Int) LL K d T T' ok
theorem Rf.c0 {Ss : List Nat} {n : Nat} {wB w : World} {r c : Nat} {s : WS} {va ve : Value} {T : List (List Int)} (h : Rf Ss n wB w r c s va ve T) : w.cell? ⟨r, 0, none⟩ = some (.pointer (some ⟨c, 0, none⟩)) := by
 simp [World.cell?, h.cl.bx.blk]
theorem told_stop {n : Int} {LL : List (List Int)} {K : Nat} {d : List Int} {T : List (List Int)} (h : (frc (LL.map setOf) 49 (setOf d) d).2 = false) : Told n LL (K + 1) d T (T ++ [negL d]) true ∧ (T.length = 700 → Told n LL (K + 1) d T T false) :=
 ⟨⟨fun _ => ⟨_, full_stop h, rfl⟩, (fun e => by cases e)⟩, fun h7 => ⟨(fun e => by cases e), fun _ => .inr ⟨_, full_stop h, by simp; omega⟩⟩⟩
theorem told_end {n : Int} {LL : List (List Int)} {K : Nat} {d : List Int} {T T' : List (List Int)} (h : (frc (LL.map setOf) 49 (setOf d) d).2 = true) (h0 : freeL n LL (frc (LL.map setOf) 49 (setOf d) d).1 = []) : Told n LL (K + 1) d T T' false :=
 ⟨(fun e => by cases e), fun _ => .inl (full_end h h0)⟩
theorem told_no1 {n : Int} {LL : List (List Int)} {K : Nat} {d r : List Int} {x : Int} {T T1 T' : List (List Int)} (h : (frc (LL.map setOf) 49 (setOf d) d).2 = true) (h0 : freeL n LL (frc (LL.map setOf) 49 (setOf d) d).1 = x :: r) (t : Told n LL K (d ++ [-x]) T T1 false) : Told n LL (K + 1) d T T' false := by
 refine ⟨(fun e => by cases e), fun _ => ?_⟩
 rw [full_more h h0]
 rcases t.2 rfl with q | ⟨A, q, hA⟩
 ·rw [q]
  exact .inl rfl
 ·rw [q]
  cases hb : full n LL K (d ++ [x]) with
  | none => exact .inl rfl
  | some B => exact .inr ⟨_, rfl, by simp; omega⟩
theorem told_no2 {n : Int} {LL : List (List Int)} {K : Nat} {d r : List Int} {x : Int} {T T1 T2 T' : List (List Int)} (h : (frc (LL.map setOf) 49 (setOf d) d).2 = true) (h0 : freeL n LL (frc (LL.map setOf) 49 (setOf d) d).1 = x :: r) (t : Told n LL K (d ++ [-x]) T T1 true) (u : Told n LL K (d ++ [x]) T1 T2 false) : Told n LL (K + 1) d T T' false := by
 refine ⟨(fun e => by cases e), fun _ => ?_⟩
 rw [full_more h h0]
 obtain ⟨A, q, rfl⟩ := t.1 rfl
 rw [q]
 rcases u.2 rfl with z | ⟨B, z, hB⟩
 ·rw [z]
  exact .inl rfl
 ·rw [z]
  rw [List.length_append] at hB
  exact .inr ⟨_, rfl, by simp; omega⟩
theorem told_yes {n : Int} {LL : List (List Int)} {K : Nat} {d r : List Int} {x : Int} {T T1 T2 : List (List Int)} (h : (frc (LL.map setOf) 49 (setOf d) d).2 = true) (h0 : freeL n LL (frc (LL.map setOf) 49 (setOf d) d).1 = x :: r) (t : Told n LL K (d ++ [-x]) T T1 true) (u : Told n LL K (d ++ [x]) T1 T2 true) : Told n LL (K + 1) d T (T2 ++ [negL d]) true ∧ (T2.length = 700 → ∀ T', Told n LL (K + 1) d T T' false) := by
 obtain ⟨A, q, rfl⟩ := t.1 rfl
 obtain ⟨B, z, rfl⟩ := u.1 rfl
 have e : full n LL (K + 1) d = some (A ++ B ++ [negL d]) := by rw [full_more h h0, q, z]; rfl
 refine ⟨⟨fun _ => ⟨_, e, by simp [List.append_assoc]⟩, (fun e => by cases e)⟩, fun h7 T' => ⟨(fun e => by cases e), fun _ => .inr ⟨_, e, ?_⟩⟩⟩
 simp only [List.length_append, List.length_singleton] at h7 ⊢
 omega
theorem Fin_.more {T : List (List Int)} {d : List Int} (h : Fin_ T) (h7 : T.length ≠ 700) (hd : d.length ≤ 48) : Fin_ (T ++ [negL d]) := by
 refine ⟨by have := h.le; rw [List.length_append, List.length_singleton]; omega, fun L hL => ?_⟩
 rcases List.mem_append.1 hL with q | q
 ·exact h.l48 L q
 ·rw [List.mem_singleton] at q
  rw [q]
  unfold sp.negL
  rw [List.length_map]
  exact hd
theorem og_opp {n : Nat} {d : List Int} {dv : Value} {w w' : World} {b : Nat} (hok : ∀ x ∈ d, okB x = true) (hd : d.length ≤ 48) (ho : w.ownsRow b 3 1 dv d.length (ints d)) (g : w.grownBy w' none) :
  Calls Tryd.prog 39 #[dv] w' fun e w1 => ∃ r, e = .returned r ∧ Made w' w1 r (negL d) :=
 sp.oppositesOf dv d w' (by omega) hok (Sl.of_own (ho.kept g (ck.ne_none _)))
theorem tail_put {Ss : List Nat} {n : Nat} {wB w w1 w3 : World} {r c : Nat} {s : WS} {va ve u dv : Value} {T : List (List Int)} {d : List Int} (h : Rf Ss n wB w r c s va ve T) (hO : w.ownsRow wB.heap.size 3 1 dv d.length (ints d)) (hap : ∀ k, dv.ownBlock = some k → ¬ FootR r c s va ve k) (g : w.grownBy w1 none) (m : Made w1 w3 u (negL d)) (h7 : T.length ≤ 700) (hf : T.flatten.length ≤ 33600) (hd : d.length ≤ 48) :
  Calls Tryd.prog 50 #[.pointer (some ⟨r, 1, none⟩), u] w3 fun e w' => e = .returned (.tuple #[]) ∧ ∃ va' ve', Rf Ss n wB w' r c s va' ve' (T ++ [negL d]) ∧ Stq dv (FootR r c s va ve) (FootR r c s va' ve') w w' ∧ w'.ownsRow wB.heap.size 3 1 dv d.length (ints d) := by
 have g3 := grown_trans (r := none) g m.2
 have h3 := h.by g3 (fun k e => by cases e)
 have hl : (negL d).length = d.length := by unfold sp.negL; rw [List.length_map]
 refine (ck.put r w3 (by omega) (by omega) h3.cl m.1).mono ?_
 rintro e w' ⟨rfl, va', ve', c', m'⟩
 have st : Stq dv (FootR r c s va ve) (FootR r c s va' ve') w w' := (Stq.of_grown g3 (fun k e => by cases e)).trans (Stq.of_mv m')
 refine ⟨rfl, va', ve', h3.told c' m', st, row_stp hO (fun k e => ?_)⟩
 have f := hap k e
 rw [m'.block k (Nat.lt_of_lt_of_le (hO.lt k e).2 g3.size) (fun z => f (.inr (.inl z))) (fun z => f (.inr (.inr (.inl z)))) (fun z => f (.inr (.inr (.inr z)))), g3.block k (hO.lt k e).2 (fun z => by cases z)]
def Bun (Ss : List Nat) (n : Nat) (wB : World) (r c : Nat) (dv : Value) (d : List Int) (F0 : Nat → Prop) (w0 : World) (s : WS) (va ve : Value) (T : List (List Int)) (w : World) : Prop :=
 Rf Ss n wB w r c s va ve T ∧ Stq dv F0 (FootR r c s va ve) w0 w ∧ w.ownsRow wB.heap.size 3 1 dv d.length (ints d) ∧ ∀ k, dv.ownBlock = some k → ¬ FootR r c s va ve k
def AgE (n : Nat) (LL : List (List Int)) (K : Nat) (d : List Int) (y : Int) (dv : Value) (wB : World) (r c : Nat) (F0 : Nat → Prop) (w0 : World) (T : List (List Int)) (e : Ending) (w' : World) : Prop :=
 ∃ ok s4 va4 ve4 T4, e = .returned (.bool ok) ∧ Bun (LL.map setOf) n wB r c dv d F0 w0 s4 va4 ve4 T4 w' ∧ Fin_ T4 ∧ Told (n : Int) LL K (d ++ [y]) T T4 ok
theorem again {n : Nat} {LL : List (List Int)} {K : Nat} {d : List Int} {y : Int} {dv dv' : Value} {wB w0 w2 w3 : World} {r c : Nat} {F0 : Nat → Prop} {s : WS} {va ve : Value} {T : List (List Int)} {o : Obj}
  (IH : ∀ (d : List Int) (dv : Value) (w : World) (s : WS) (va ve : Value) (T : List (List Int)),
   49 ≤ K + pc (setOf d) → d.length ≤ pc (setOf d) → (∀ x ∈ d, okB x = true) → Rf (LL.map setOf) n wB w r c s va ve T → Fin_ T → w.ownsRow wB.heap.size 3 1 dv d.length (ints d) → (∀ k, dv.ownBlock = some k → ¬ FootR r c s va ve k) →
   Calls Tryd.prog 23 #[.pointer (some ⟨r, 0, none⟩), dv] w fun e w' => WkE n LL K d dv wB r c s va ve T w e w')
  (b : Bun (LL.map setOf) n wB r c dv d F0 w0 s va ve T w2) (hF : Fin_ T) (hok : ∀ x ∈ d, okB x = true) (hy : okB y = true) (hpc : pc (setOf d) + 1 ≤ pc (setOf (d ++ [y]))) (hK : 49 ≤ K + 1 + pc (setOf d)) (hdl : d.length ≤ pc (setOf d)) (p : Psh wB.heap.size (w2.alloc o) dv d y dv' w3) :
  Calls Tryd.prog 23 #[.pointer (some ⟨r, 0, none⟩), dv'] w3 fun e w' => AgE n LL K d y dv wB r c F0 w0 T e w' := by
 obtain ⟨hR, hS, hO, hap⟩ := b
 have ga := World.grownBy_alloc w2 o none
 have hsa := ga.size
 have hs3 := p.gr.size
 have hRa := hR.by ga (fun k e => by cases e)
 have hR3 := hRa.by p.gr (fun k e => ⟨hap k e, (hO.lt k e).1⟩)
 have hap3 : ∀ k, dv'.ownBlock = some k → ¬ FootR r c s va ve k := fun k e f => by
  rcases p.at_ k e with z | z
  ·exact hap k z f
  ·have := (hR.lt f).2
   omega
 refine (IH (d ++ [y]) dv' w3 s va ve T (by omega) (by rw [List.length_append, List.length_singleton]; omega) (fun x hx => by
  rcases List.mem_append.1 hx with q | q
  ·exact hok x q
  ·rw [List.mem_singleton] at q
   rw [q]
   exact hy) hR3 hF p.own hap3).mono ?_
 rintro e w4 ⟨ok, s4, va4, ve4, T4, rfl, R4, S4, O4, F4, t4⟩
 have e43 : ∀ k, dv.ownBlock = some k → dv'.ownBlock ≠ some k → w4.heap[k]? = w3.heap[k]? := fun k e ne => S4.block k (by have := (hO.lt k e).2; omega) (hap k e) ne
 refine ⟨ok, s4, va4, ve4, T4, rfl, ⟨R4, hS.trans ⟨Nat.le_trans hsa (Nat.le_trans hs3 S4.size), fun k hk hn hd => ?_, fun k f => ?_⟩, p.back w4 O4 e43, fun k e f => ?_⟩, F4, t4⟩
 ·rw [S4.block k (by omega) hn (fun e => by
   rcases p.at_ k e with z | z
   ·exact hd z
   ·omega), p.gr.block k (by omega) (fun e => hd e.symm), ga.block k hk (fun e => by cases e)]
 ·rcases S4.foot k f with z | z
  ·exact .inl z
  ·exact .inr (by omega)
 ·rcases S4.foot k f with z | z
  ·exact hap k e z
  ·have := (hO.lt k e).2
   omega
theorem new_cell (w : World) (y : Int) : (w.alloc (.cells #[.int .i64 y] 3)).cell? ⟨w.heap.size, 0, none⟩ = some (.int .i64 y) := by simp
set_option maxRecDepth 100000 in
set_option maxHeartbeats 8000000 in
theorem walk (n : Nat) (LL : List (List Int)) (wB : World) (r c : Nat) (hc : cnfB (n : Int) LL = true) (htt : tot LL ≤ 1048576) (hT : Tab wB) : ∀ (K : Nat) (d : List Int) (dv : Value) (w : World) (s : WS) (va ve : Value) (T : List (List Int)),
  49 ≤ K + pc (setOf d) → d.length ≤ pc (setOf d) → (∀ x ∈ d, okB x = true) → Rf (LL.map setOf) n wB w r c s va ve T → Fin_ T → w.ownsRow wB.heap.size 3 1 dv d.length (ints d) → (∀ k, dv.ownBlock = some k → ¬ FootR r c s va ve k) →
  Calls Tryd.prog 23 #[.pointer (some ⟨r, 0, none⟩), dv] w fun e w' => WkE n LL K d dv wB r c s va ve T w e w' := by
 intro K
 induction K with
 | zero =>
  intro d dv w s va ve T hK
  have := pc_le (setOf d)
  omega
 | succ K IH =>
  intro d dv w s va ve T hK hdl hok hR hF hO hap
  have hpc := pc_le (setOf d)
  have hd48 : d.length ≤ 48 := by omega
  have hfc := fm.cnf_facts hc
  have hn : n ≤ 24 := by omega
  have hN : (LL.map setOf).length ≤ 1048576 := by rw [List.length_map]; exact Nat.le_trans (css.tot_len LL) htt
  obtain ⟨da, dc, ed⟩ : ∃ a c, dv = .slice a d.length c := by
   rcases hO.2 with ⟨hv, h0⟩ | ⟨g, cap, cur, hv, _⟩
   ·exact ⟨none, 0, by rw [hv, h0]⟩
   ·exact ⟨_, cap, hv⟩
  have gd := cf.grown_drew w none
  have hRd := hR.by gd (fun k e => by cases e)
  have CL := hide (bset.litsOf dv d w.drew (by omega) (Sl.of_own (hO.kept gd (ck.ne_none _))))
  have CF := hide (wm.fails (L := setOf d) hRd.ck hT hN (set_bd LL) hn (setOf_lt d))
  have x0 := hR.c0
  have X0 := hide hRd.c0
  have NX : Hid (∀ s1 w1, Wof (LL.map setOf) 92 [.int .i64 (n : Int)] wB w1 c s1 → Stp c s s1 w.drew w1 → Rf (LL.map setOf) n wB w1 r c s1 va ve T ∧ Stq dv (FootR r c s va ve) (FootR r c s1 va ve) w w1 ∧ w1.ownsRow wB.heap.size 3 1 dv d.length (ints d) ∧ (∀ k, dv.ownBlock = some k → ¬ FootR r c s1 va ve k)) := by
   intro s1 w1 q1 q2
   have st : Stq dv (FootR r c s va ve) (FootR r c s1 va ve) w w1 := (Stq.of_grown gd (fun k e => by cases e)).trans (Stq.of_stp q2)
   refine ⟨hRd.check q1 q2, st, row_stp hO (fun k e => ?_), fun k e f => ?_⟩
   ·have hk := (hO.lt k e).2
    exact q2.block k hk (fun f => hap k e (.inl f))
   ·rcases st.foot k f with z | z
    ·exact hap k e z
    ·have := (hO.lt k e).2
     omega
  have HC := hide hc
  have HOK := hide hok
  have HF := hide hF
  have HIH := hide IH
  subst ed
  clear hR hO hap hRd gd hok hF IH hN hfc
  cases hb : (frc (LL.map setOf) 49 (setOf d) d).2
  ·have hfb : failB (LL.map setOf) (setOf d) = true := by rw [fail_set, hb]; rfl
   have TD := hide (told_stop (n := (n : Int)) (K := K) (T := T) hb)
   go_enter Tryd.func23, Tryd.ntmps23
   go_wp2_with fail
   go_region_held3 (fun w' => w'.cell? ⟨r, 0, none⟩ = some (.pointer (some ⟨c, 0, none⟩))) (first | exact unhide X0 | exact X1 | go_keep) (first
    | (go_at_call 43; refine (unhide CL).mono ?_; rintro e w2 ⟨rfl, hw⟩; have hw' := hw.symm; clear hw; subst hw')
    | (go_at_call 47; refine (unhide CF).mono ?_; rintro e w2 ⟨s2, rfl, q1, q2⟩; have R2 := hide (unhide NX s2 w2 q1 q2); have X1 := (unhide R2).1.c0; clear q1 q2))
   have F2 := HF
   have TDY := hide (unhide TD).1
   have TD7 := hide (unhide TD).2
   clear X1 NX CF CL
   have R2u := unhide R2
   have h7u := (unhide F2).le
   have CFU := ck.full r w2 (by omega) R2u.1.cl
   have g2d := cf.grown_drew w2 none
   have CO := hide (og_opp (n := n) (unhide HOK) hd48 R2u.2.2.1 g2d)
   have hfl := (unhide F2).flat
   have PU : Hid (∀ u w3, Made w2.drew w3 u (negL d) → Calls Tryd.prog 50 #[.pointer (some ⟨r, 1, none⟩), u] w3 fun e w' => e = .returned (.tuple #[]) ∧ ∃ va' ve', Rf (LL.map setOf) n wB w' r c s2 va' ve' (T ++ [negL d]) ∧ Stq (.slice da d.length dc) (FootR r c s2 va ve) (FootR r c s2 va' ve') w2 w' ∧ w'.ownsRow wB.heap.size 3 1 (.slice da d.length dc) d.length (ints d)) := fun u w3 m => tail_put R2u.1 R2u.2.2.1 R2u.2.2.2 g2d m h7u hfl hd48
   have X3 := hide ((R2u.1.by g2d (fun k e => by cases e)).c0)
   have X2 := R2u.1.c0
   by_cases h7 : T.length = 700
   ·rw [decide_eq_true h7] at CFU
    have TN := hide (unhide TD7 h7)
    have CFUh := hide CFU
    clear CFU R2u CO PU TDY
    go_wp2_with fail
    refine (unhide CFUh).mono ?_; rintro e w3 ⟨rfl, hw⟩; have hw' := hw.symm; clear hw; subst hw'
    go_wp2_with fail
    go_ret
    exact ⟨false, s2, va, ve, T, rfl, (unhide R2).1, (unhide R2).2.1, (unhide R2).2.2.1, unhide F2, unhide TN⟩
   ·rw [decide_eq_false h7] at CFU
    have FM := hide ((unhide F2).more h7 hd48)
    have CFUh := hide CFU
    clear CFU R2u TD7
    go_wp2_with fail
    refine (unhide CFUh).mono ?_; rintro e w3 ⟨rfl, hw⟩; have hw' := hw.symm; clear hw; subst hw'
    go_wp2_with fail
    go_region_held3 (fun w' => w'.cell? ⟨r, 0, none⟩ = some (.pointer (some ⟨c, 0, none⟩))) (first | exact X5 | exact X4 | exact unhide X3 | go_keep) (first
     | (go_at_call 39; refine (unhide CO).mono ?_; rintro e w4 ⟨u4, rfl, m4⟩; obtain ⟨oa, oc, eo, _⟩ := Sl.of_own m4.1; subst eo; have PU4 := hide (unhide PU _ w4 m4); have X4 := ((unhide R2).1.by (grown_trans (r := none) g2d m4.2) (fun k e => by cases e)).c0; clear m4)
     | (go_at_call 50; refine (unhide PU4).mono ?_; rintro e w5 ⟨rfl, va5, ve5, q5⟩; have R5 := hide q5; have X5 := q5.1.c0; clear q5))
    go_wp2_with fail
    go_ret
    exact ⟨true, s2, va5, ve5, _, rfl, (unhide R5).1, (unhide R2).2.1.trans (unhide R5).2.1, (unhide R5).2.2, unhide FM, unhide TDY⟩
  ·have hfb : failB (LL.map setOf) (setOf d) = false := by rw [fail_set, hb]; rfl
   have hfn := left_set (n := n) hb
   have FF := free_fst (n := n) (L := (frc (LL.map setOf) 49 (setOf d) d).1) hc
   have TE := hide (fun (h0 : freeL (n : Int) LL (frc (LL.map setOf) 49 (setOf d) d).1 = []) T' => told_end (n := (n : Int)) (K := K) (T := T) (T' := T') hb h0)
   have N1 := hide (fun x q (h0 : freeL (n : Int) LL (frc (LL.map setOf) 49 (setOf d) d).1 = x :: q) T1 T' => told_no1 (n := (n : Int)) (K := K) (T := T) (T1 := T1) (T' := T') hb h0)
   have N2 := hide (fun x q (h0 : freeL (n : Int) LL (frc (LL.map setOf) 49 (setOf d) d).1 = x :: q) T1 T2 T' => told_no2 (n := (n : Int)) (K := K) (T := T) (T1 := T1) (T2 := T2) (T' := T') hb h0)
   have YY := hide (fun x q (h0 : freeL (n : Int) LL (frc (LL.map setOf) 49 (setOf d) d).1 = x :: q) T1 T2 => told_yes (n := (n : Int)) (K := K) (T := T) (T1 := T1) (T2 := T2) hb h0)
   have FPC := hide (fun x q (h0 : freeL (n : Int) LL (frc (LL.map setOf) 49 (setOf d) d).1 = x :: q) => free_pc h0)
   have FOK := hide (fun x q (h0 : freeL (n : Int) LL (frc (LL.map setOf) 49 (setOf d) d).1 = x :: q) => free_ok h0)
   generalize hP : (frc (LL.map setOf) 49 (setOf d) d).1 = P1 at *
   clear hP hb
   have hfl48 : freeN n P1 < 2 ^ 48 := fm.freeN_lt P1 hn
   by_cases h0 : freeN n P1 = 0
   ·have e0 := FF.1 h0
    have TN := hide (unhide TE e0 T)
    rw [h0] at hfn
    clear TE N1 N2 YY FPC FOK FF e0
    go_enter Tryd.func23, Tryd.ntmps23
    go_wp2_with fail
    go_region_held3 (fun w' => w'.cell? ⟨r, 0, none⟩ = some (.pointer (some ⟨c, 0, none⟩))) (first | exact unhide X0 | exact X1 | go_keep) (first
     | (go_at_call 43; refine (unhide CL).mono ?_; rintro e w2 ⟨rfl, hw⟩; have hw' := hw.symm; clear hw; subst hw')
     | (go_at_call 47; refine (unhide CF).mono ?_; rintro e w2 ⟨s2, rfl, q1, q2⟩; have R2 := hide (unhide NX s2 w2 q1 q2); have X1 := (unhide R2).1.c0; clear q1 q2))
    go_wp2_with fail
    go_ret
    exact ⟨false, s2, va, ve, T, rfl, (unhide R2).1, (unhide R2).2.1, (unhide R2).2.2.1, unhide HF, unhide TN⟩
   ·obtain ⟨q, hq⟩ := FF.2 h0
    have hnz : ((freeN n P1 : Int) == 0) = false := by simp [h0]
    have xok := unhide FOK _ _ hq
    have xpc := unhide FPC _ _ hq
    have M1 := hide (fun T1 T' => unhide N1 _ _ hq T1 T')
    have M2 := hide (fun T1 T2 T' => unhide N2 _ _ hq T1 T2 T')
    have MY := hide (fun T1 T2 => unhide YY _ _ hq T1 T2)
    have CFI := hide (fun w' (g : wB.grownBy w' none) => srt.first (freeN n P1) w' (hT.kept g) (Nat.pos_of_ne_zero h0) hfl48)
    generalize hx : fstI (freeN n P1) = x at *
    have wx := lit_wrap xok.1
    have bx := okB_iff.1 xok.1
    obtain ⟨bx0, bx1, bx2⟩ := bx
    have HXO := hide xok
    have HPC := hide xpc
    clear TE N1 N2 YY FPC FOK FF hq hx hfl48 xok xpc h0
    generalize freeN n P1 = fr at *
    go_enter Tryd.func23, Tryd.ntmps23
    go_wp2_with fail
    go_region_held3 (fun w' => w'.cell? ⟨r, 0, none⟩ = some (.pointer (some ⟨c, 0, none⟩))) (first | exact unhide X0 | exact X1 | go_keep) (first
     | (go_at_call 43; refine (unhide CL).mono ?_; rintro e w2 ⟨rfl, hw⟩; have hw' := hw.symm; clear hw; subst hw')
     | (go_at_call 47; refine (unhide CF).mono ?_; rintro e w2 ⟨s2, rfl, q1, q2⟩; have R2 := hide (unhide NX s2 w2 q1 q2); have X1 := (unhide R2).1.c0; clear q1 q2))
    have CFJ := hide (unhide CFI w2 (unhide R2).1.ck.g)
    clear X1 NX CF CL CFI
    go_wp2_with fail
    refine (unhide CFJ).mono ?_; rintro e w3 ⟨rfl, hw⟩; have hw' := hw.symm; clear hw; subst hw'
    have B2 : Hid (Bun (LL.map setOf) n wB r c (.slice da d.length dc) d (FootR r c s va ve) w s2 va ve T w2) := R2
    have F2 := HF
    clear CFJ R2
    have OW2 := hide ((unhide B2).2.2.1.kept (World.grownBy_alloc w2 (.cells #[.int .i64 (-x)] 3) none) (ck.ne_none _))
    have NC2 := hide (new_cell w2 (-x))
    have HB2 : Hid (wB.heap.size ≤ (w2.alloc (.cells #[.int .i64 (-x)] 3)).heap.size) := Nat.le_trans (unhide B2).1.ck.g.size (World.grownBy_alloc w2 (.cells #[.int .i64 (-x)] 3) none).size
    have AG2 := hide (fun dv' w3 p => again (y := -x) (o := .cells #[.int .i64 (-x)] 3) (dv' := dv') (w3 := w3) (unhide HIH) (unhide B2) (unhide F2) (unhide HOK) (unhide HXO).2 (unhide HPC).1 hK hdl p)
    go_wp2_with (at_builtin; refine pushD (unhide OW2) (unhide NC2) (unhide HB2) (by omega) rfl _ _ rfl rfl rfl ?_)
    intro g3 cap3 w3 p3
    have C3 := hide (unhide AG2 _ w3 p3)
    clear OW2 NC2 HB2 AG2 p3
    go_wp2_with fail
    refine (unhide C3).mono ?_; rintro e w4 ⟨ok4, s4, va4, ve4, T4, rfl, b4, f4, t4⟩
    have B4 := hide b4
    have F4 := hide f4
    clear C3 b4 f4
    cases ok4
    ·have TN := hide (unhide M1 T4 T4 t4)
     clear M1 M2 MY t4
     go_wp2_with fail
     go_ret
     exact ⟨false, s4, va4, ve4, T4, rfl, (unhide B4).1, (unhide B4).2.1, (unhide B4).2.2.1, unhide F4, unhide TN⟩
    ·have M4 := hide (fun T6 T' u => unhide M2 T4 T6 T' t4 u)
     have Y4 := hide (fun T6 u => unhide MY T4 T6 t4 u)
     clear M1 M2 MY t4
     have OW4 := hide ((unhide B4).2.2.1.kept (World.grownBy_alloc w4 (.cells #[.int .i64 (x)] 3) none) (ck.ne_none _))
     have NC4 := hide (new_cell w4 (x))
     have HB4 : Hid (wB.heap.size ≤ (w4.alloc (.cells #[.int .i64 (x)] 3)).heap.size) := Nat.le_trans (unhide B4).1.ck.g.size (World.grownBy_alloc w4 (.cells #[.int .i64 (x)] 3) none).size
     have AG4 := hide (fun dv' w3 p => again (y := x) (o := .cells #[.int .i64 (x)] 3) (dv' := dv') (w3 := w3) (unhide HIH) (unhide B4) (unhide F4) (unhide HOK) (unhide HXO).1 (unhide HPC).2 hK hdl p)
     go_wp2_with (at_builtin; refine guard_off (by rfl) ?_; refine pushD (unhide OW4) (unhide NC4) (unhide HB4) (by omega) rfl _ _ rfl rfl rfl ?_)
     intro g5 cap5 w5 p5
     have C5 := hide (unhide AG4 _ w5 p5)
     clear OW4 NC4 HB4 AG4 p5
     go_wp2_with fail
     refine (unhide C5).mono ?_; rintro e w6 ⟨ok6, s6, va6, ve6, T6, rfl, b6, f6, t6⟩
     have B6 := hide b6
     have F6 := hide f6
     clear C5 b6 f6
     cases ok6
     ·have TN := hide (unhide M4 T6 T6 t6)
      clear M4 Y4 t6
      go_wp2_with fail
      go_ret
      exact ⟨false, s6, va6, ve6, T6, rfl, (unhide B6).1, (unhide B6).2.1, (unhide B6).2.2.1, unhide F6, unhide TN⟩
     have R6 := B6
     have TDY := hide (unhide Y4 T6 t6).1
     have TD7 : Hid (T6.length = 700 → Told (n : Int) LL (K + 1) d T T6 false) := fun h => (unhide Y4 T6 t6).2 h T6
     clear M4 Y4 t6
     have R6u := unhide R6
     have h7u := (unhide F6).le
     have CFU := ck.full r w6 (by omega) R6u.1.cl
     have g6d := cf.grown_drew w6 none
     have CO := hide (og_opp (n := n) (unhide HOK) hd48 R6u.2.2.1 g6d)
     have hfl := (unhide F6).flat
     have PU : Hid (∀ u w3, Made w6.drew w3 u (negL d) → Calls Tryd.prog 50 #[.pointer (some ⟨r, 1, none⟩), u] w3 fun e w' => e = .returned (.tuple #[]) ∧ ∃ va6' ve6', Rf (LL.map setOf) n wB w' r c s6 va6' ve6' (T6 ++ [negL d]) ∧ Stq (.slice da d.length dc) (FootR r c s6 va6 ve6) (FootR r c s6 va6' ve6') w6 w' ∧ w'.ownsRow wB.heap.size 3 1 (.slice da d.length dc) d.length (ints d)) := fun u w3 m => tail_put R6u.1 R6u.2.2.1 R6u.2.2.2 g6d m h7u hfl hd48
     have X3 := hide ((R6u.1.by g6d (fun k e => by cases e)).c0)
     have X2 := R6u.1.c0
     by_cases h7 : T6.length = 700
     ·rw [decide_eq_true h7] at CFU
      have TN := hide (unhide TD7 h7)
      have CFUh := hide CFU
      clear CFU R6u CO PU TDY
      go_wp2_with fail
      refine (unhide CFUh).mono ?_; rintro e w3 ⟨rfl, hw⟩; have hw' := hw.symm; clear hw; subst hw'
      go_wp2_with fail
      go_ret
      exact ⟨false, s6, va6, ve6, T6, rfl, (unhide R6).1, (unhide R6).2.1, (unhide R6).2.2.1, unhide F6, unhide TN⟩
     ·rw [decide_eq_false h7] at CFU
      have FM := hide ((unhide F6).more h7 hd48)
      have CFUh := hide CFU
      clear CFU R6u TD7
      go_wp2_with fail
      refine (unhide CFUh).mono ?_; rintro e w3 ⟨rfl, hw⟩; have hw' := hw.symm; clear hw; subst hw'
      go_wp2_with fail
      go_region_held3 (fun w' => w'.cell? ⟨r, 0, none⟩ = some (.pointer (some ⟨c, 0, none⟩))) (first | exact X5 | exact X4 | exact unhide X3 | go_keep) (first
       | (go_at_call 39; refine (unhide CO).mono ?_; rintro e w4 ⟨u4, rfl, m4⟩; obtain ⟨oa, oc, eo, _⟩ := Sl.of_own m4.1; subst eo; have PU4 := hide (unhide PU _ w4 m4); have X4 := ((unhide R6).1.by (grown_trans (r := none) g6d m4.2) (fun k e => by cases e)).c0; clear m4)
       | (go_at_call 50; refine (unhide PU4).mono ?_; rintro e w5 ⟨rfl, va5, ve5, q5⟩; have R5 := hide q5; have X5 := q5.1.c0; clear q5))
      go_wp2_with fail
      go_ret
      exact ⟨true, s6, va5, ve5, _, rfl, (unhide R5).1, (unhide R6).2.1.trans (unhide R5).2.1, (unhide R5).2.2, unhide FM, unhide TDY⟩
end Go.Proofs.YtfhmdpbnnieohaaDoor.xp
namespace Go.Proofs.YtfhmdpbnnieohaaDoor.xp
open Go.ChangeShapes Go.WideShapes Go.ChangeAt Go.RowKit
open bset (setOf setOf_lt)
open css (tot Sls OwnS)
open ok (cnfB)
open wm (pc)
open xw (full wlk wlk_full cnt)
set_option linter.unusedVariables false
theorem pc0 : 49 ≤ 49 + pc (setOf []) := Nat.le_add_right _ _
theorem full_l48 (n : Int) (LL : List (List Int)) : ∀ (k : Nat) (d : List Int) (C : List (List Int)), d.length ≤ pc (setOf d) → full n LL k d = some C → ∀ L ∈ C, L.length ≤ 48 := by
 intro k
 induction k with
 | zero => intro d C _ h; cases h
 | succ k ih =>
  intro d C hd h L hL
  have hp := wm.pc_le (setOf d)
  have hneg : (sp.negL d).length ≤ 48 := by unfold sp.negL; rw [List.length_map]; omega
  cases hf : (wm.frc (LL.map setOf) 49 (setOf d) d).2
  ·rw [xw.full_stop hf] at h
   cases h
   rw [List.mem_singleton] at hL
   rw [hL]
   exact hneg
  ·cases h0 : fm.freeL n LL (wm.frc (LL.map setOf) 49 (setOf d) d).1 with
   | nil => rw [xw.full_end hf h0] at h; cases h
   | cons x r =>
    have hpc := xw.free_pc h0
    rw [xw.full_more hf h0] at h
    cases ha : full n LL k (d ++ [-x]) with
    | none => rw [ha] at h; cases h
    | some A =>
     cases hb : full n LL k (d ++ [x]) with
     | none => rw [ha, hb] at h; cases h
     | some B =>
      rw [ha, hb] at h
      cases h
      rcases List.mem_append.1 hL with q | q
      ·rcases List.mem_append.1 q with q | q
       ·exact ih (d ++ [-x]) A (by rw [List.length_append, List.length_singleton]; omega) ha L q
       ·exact ih (d ++ [x]) B (by rw [List.length_append, List.length_singleton]; omega) hb L q
      ·rw [List.mem_singleton] at q
       rw [q]
       exact hneg
theorem wlk_tot (n : Int) (LL : List (List Int)) : tot (if cnfB n LL then wlk n LL 700 [] else ([], false)).1 ≤ 34300 := by
 split
 ·have hl := xw.len_le n LL 700 []
  have h48 : ∀ L ∈ (wlk n LL 700 []).1, L.length ≤ 48 := by
   rw [wlk_full n LL 49 700 [] pc0]
   intro L hL
   cases hf : full n LL 49 [] with
   | none => rw [hf] at hL; cases hL
   | some C =>
    rw [hf] at hL
    have e : cnt (some C) 700 = if C.length ≤ 700 then (C, true) else ([], false) := rfl
    rw [e] at hL
    split at hL
    ·exact full_l48 n LL 49 [] C (Nat.zero_le _) hf L hL
    ·cases hL
  have := xw.tot_small h48
  omega
 ·decide
end Go.Proofs.YtfhmdpbnnieohaaDoor.xp
namespace Go.Proofs.YtfhmdpbnnieohaaDoor.xp
open Go.ChangeShapes Go.WideShapes Go.ChangeAt Go.RowKit
open lits (okB okB_iff)
open bset (setOf setOf_lt)
open srt (Tab)
open css (tot Sls OwnS)
open cf (Box)
open ok (cnfB)
open wm (WS Wat Stp Foot Wof Far pc set_bd)
open xw (full wlk wlk_full cnt WalkE)
open rq (nilS sub_own)
open ck (Cl Bo Mv)
open sl (Sl Own ints hide unhide grown_refl grown_trans grown_drewN)
set_option linter.unusedVariables false
theorem Rf.start {Ss : List Nat} {n : Nat} {wB w : World} {c : Nat} {s : WS} (h : Wof Ss 92 [.int .i64 (n : Int)] wB w c s) :
  Rf Ss n wB (w.alloc (.cells #[.pointer (some ⟨c, 0, none⟩), .slice none 0 0, .slice none 0 0] 57)) w.heap.size c s (.slice none 0 0) (.slice none 0 0) [] := by
 have ga := World.grownBy_alloc w (.cells #[.pointer (some ⟨c, 0, none⟩), .slice none 0 0, .slice none 0 0] 57) none
 refine ⟨⟨h.wat.kept ga, grown_trans h.g ga, h.far, h.jn, h.tk, h.bd, h.tx⟩, ⟨⟨wm.new_block _ _, rfl, by decide⟩, World.ownsRow_nil _ _ _ _, World.ownsRow_nil _ _ _ _, (fun k e => by cases e), grown_trans h.g ga, h.g.size⟩, fun k f => ⟨fun e => ?_, (fun e => by cases e), (fun e => by cases e)⟩⟩
 have := wm.foot_lt h.wat f
 omega
theorem told_end700 {n : Int} {LL T' : List (List Int)} {ok : Bool} (h : Told n LL 49 [] [] T' ok) (hF : Fin_ T') : (ok = true → wlk n LL 700 [] = (T', true)) ∧ (ok = false → wlk n LL 700 [] = ([], false)) := by
 rw [wlk_full n LL 49 700 [] pc0]
 constructor
 ·intro e
  obtain ⟨C, hC, hT⟩ := h.1 e
  rw [List.nil_append] at hT
  subst hT
  rw [hC]
  exact if_pos hF.le
 ·intro e
  rcases h.2 e with q | ⟨C, q, hC⟩
  ·rw [q]
   rfl
  ·rw [q]
   refine if_neg ?_
   rw [List.length_nil] at hC
   omega
set_option maxRecDepth 100000 in
set_option maxHeartbeats 8000000 in
theorem implRefute (v : Value) (n : Int) (LL : List (List Int)) (w : World) (hT : Tab w) (hn : tot LL ≤ 1048576) (hv : Sls w v LL) :
  Calls Tryd.prog 8 #[.agg #[.int .i64 n, v]] w fun e w' => WalkE w (if cnfB n LL then wlk n LL 700 [] else ([], false)) e w' := by
 have g0 := World.grownBy_alloc w (.cells #[.int .i64 n, v] 27) none
 have cc := ok.implCnfOk v n LL _ hn (hv.kept g0)
 have F0 := hide (Box.new 27 w (.int .i64 n) v)
 have G0 := hide g0
 have x0 := (unhide F0).c0
 have x1 := (unhide F0).c1
 have NO : Hid (∀ w1, w.grownBy w1 none → WalkE w ([], false) (.returned (.tuple #[.slice (some ⟨w1.heap.size, 0, none⟩) 0 0, .bool false])) (w1.alloc (.cells #[] 30))) := fun w1 g => ⟨_, rfl, sub_own g (nilS w1) (World.grownBy_alloc _ _ none)⟩
 cases hb : cnfB n LL
 ·rw [hb] at cc
  have CC := hide cc
  clear cc hb hv hT g0
  go_enter Tryd.func8, Tryd.ntmps8
  go_wp2_with fail
  refine (unhide CC).mono ?_; rintro e w2 ⟨rfl, g2⟩
  have R2 := hide (unhide NO w2 (grown_trans (r := none) (unhide G0) g2))
  clear g2 F0 x0 x1 NO
  go_wp2_with fail
  go_ret2
  exact unhide R2
 ·have hf := fm.cnf_facts hb
  obtain ⟨m, rfl⟩ := Int.eq_ofNat_of_zero_le hf.1
  rw [hb] at cc
  have CC := hide cc
  have hl : LL.length + ([] : List Nat).length ≤ 1048576 := by simp; omega
  have CK := hide (fun w2 (g : w.grownBy w2 none) => wm.checkerOf v (.slice none 0 0) (m : Int) LL [] 0 w2 (hT.kept g) hn (hv.kept g) (World.ownsRow_nil _ _ _ _) (fun S h => by cases h) hl)
  rw [List.append_nil] at CK
  have WK := hide (fun w2 (g : w.grownBy w2 none) w3 c s (h : Wof (LL.map setOf) 92 [.int .i64 (m : Int)] w2 w3 c s) => walk m LL w2 w3.heap.size c hb hn (hT.kept g) 49 [] (.slice none 0 0) _ s (.slice none 0 0) (.slice none 0 0) [] pc0 (Nat.zero_le _) (fun x hx => by cases hx) (Rf.start h) ⟨Nat.zero_le _, fun L h => by cases h⟩ (World.ownsRow_nil _ _ _ _) (fun k e => by cases e))
  obtain ⟨P, hP⟩ : ∃ P, P = wlk (m : Int) LL 700 [] := ⟨_, rfl⟩
  rw [if_pos rfl, ← hP]
  have HP := hide hP
  clear cc hv hT g0 hf hl hP
  go_enter Tryd.func8, Tryd.ntmps8
  go_wp2_with fail
  refine (unhide CC).mono ?_; rintro e w2 ⟨rfl, g2⟩
  have G2 := hide (grown_trans (r := none) (unhide G0) g2)
  have b2 := (unhide F0).kept g2
  have y0 := b2.c0
  have y1 := b2.c1
  clear x0 x1 CC
  go_wp2_with fail
  refine (unhide CK w2 (unhide G2)).mono ?_; rintro e w3 ⟨c, s, rfl, h3⟩
  have WK3 := hide (unhide WK w2 (unhide G2) w3 c s h3)
  clear h3 WK CK y0 y1 b2 g2 F0
  go_wp2_with fail
  refine (unhide WK3).mono ?_; rintro e w4 ⟨ok, s4, va4, ve4, T4, rfl, r4, _, _, f4, t4⟩
  have TD := told_end700 t4 f4
  have CLI := hide (ck.lists w3.heap.size w4 (by have := f4.le; omega) (by have := f4.flat; omega) r4.cl)
  have G4 := hide (grown_trans (r := none) (unhide G2) r4.ck.g)
  clear r4 t4 f4 WK3
  cases ok
  ·have EP := hide ((unhide HP).trans (TD.2 rfl))
   have R5 := hide (unhide NO w4 (unhide G4))
   clear TD NO CLI
   go_wp2_with fail
   go_ret2
   rw [unhide EP]
   exact unhide R5
  ·have EP := hide ((unhide HP).trans (TD.1 rfl))
   clear TD NO
   go_wp2_with fail
   refine (unhide CLI).mono ?_; rintro e w5 ⟨u, rfl, o5, g5⟩
   have R5 : Hid (WalkE w (T4, true) (.returned (.tuple #[u, .bool true])) w5) := ⟨_, rfl, sub_own (unhide G4) o5 g5⟩
   clear o5 g5 CLI
   go_wp2_with fail
   go_ret2
   rw [unhide EP]
   exact unhide R5
end Go.Proofs.YtfhmdpbnnieohaaDoor.xp
