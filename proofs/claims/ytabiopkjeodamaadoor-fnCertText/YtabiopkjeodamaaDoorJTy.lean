/- Assignments as texts: what trueLiterals, l03Lits and AssignText (of the program and of its model) answer at every list of at most 2^20 numbers, where the library's table of powers lies as its text lays it. What Clash (of the program and of its model) answers at every list of at most 2^20 numbers; no other condition. What the model's SolveWith and Solve answer at every formula of the call's own that holds at most 2^20 values and every list of the call's own of at most 2^20 numbers. Plain mathematics: which clause a text is the text of; words of a text; the number that a word spells. What spec.l01Num answers at every text of at most 2^20 bytes. What spec.l01Words answers at every text of at most 2^20 bytes: its words, in memory of its own. Plain mathematics of texts cut at a newline and split at blanks, as the library's functions do it; no condition. A plain bound on what the model's walk tells; no condition. Structs of four values in memory; what the small helpers on certificates (a size, a copy, an equality) do; no condition but on sizes. What Digest (of the program and of its model) answers; no condition but on the sizes and that the tables of the library and of the program lie as their texts lay them. What is signed of a certificate (by the program and by its model); no condition but on the sizes. What Issue answers, as plain mathematics; no condition. What Issue of the model answers; no condition but on the sizes. What CertText (of the program and of its model) answers; no condition but on the sizes. Plain mathematics of the text of a certificate: which certificate a text is that of; no condition. What ReadCert of the program answers at every text of at most 2^20 bytes; no condition but that a number of the library lies at its place. What ReadCert of the model answers at every text of at most 2^20 bytes, and that it is what the program answers; no condition but that a number of the library lies at its place. ReadCert of the program answers as that of the model; certificates that are equal are told to be; no condition but that a number of the library lies at its place. -/
import Derived.Test.YtabiopkjeodamaaDoorJTt
import Derived.Test.YtabiopkjeodamaaDoorTr
import Derived.Test.YtabiopkjeodamaaDoorApp
import Derived.Test.YtabiopkjeodamaaDoorTl
import Derived.Test.YtabiopkjeodamaaDoorFm
import Derived.Test.YtabiopkjeodamaaDoorLr
import Derived.Lib.AtoiAll
import Derived.Lib.IndexMore
import Derived.WalkSpells
import Derived.Test.YtabiopkjeodamaaDoorSl
import Derived.Lib.Split
import Derived.Test.YtabiopkjeodamaaDoorXw
import Derived.Test.YtabiopkjeodamaaDoorJTq
import Derived.Test.YtabiopkjeodamaaDoorJTz
import Derived.Test.YtabiopkjeodamaaDoorLq
import Derived.Test.YtabiopkjeodamaaDoorShq
import Derived.Deep.RegionHeld3
import Derived.Deep.RegionLaw
namespace Go.Proofs.YtabiopkjeodamaaDoor.as_
open Go.ChangeShapes Go.WideShapes Go.ChangeAt Go.RowKit
open sl (Sl Own ints hide unhide ret_int ret_bool grown_refl grown_trans grown_drewN below_of of_below)
open dec (str)
open tr (bitB)
open wo (Made)
open txt (Pow text)
set_option linter.unusedVariables false

def asText (A : List Int) : List UInt8 := if decide (A.length ≤ 24) && A.all bitB then text (tl 0 A) else []
theorem asText_no {A : List Int} (h : (decide (A.length ≤ 24) && A.all bitB) = false) : asText A = [] := by unfold asText; rw [h]; rfl
theorem asText_yes {A : List Int} (h1 : A.length ≤ 24) (h2 : A.all bitB = true) : asText A = text (tl 0 A) := by unfold asText; rw [decide_eq_true h1, h2]; rfl

theorem implAssignText (v : Value) (A : List Int) (w : World) (hT : Pow w) (hL : A.length ≤ 1048576) (hv : Sl w v A) :
  Calls Tryd.prog 17 #[v] w fun e w' => e = .returned (str (asText A)) ∧ w.grownBy w' none := by
 have CI := tr.isAssignment v A w hL hv
 have TL := hide (trueLiterals v A w hL hv)
 obtain ⟨a, cap, rfl, ha⟩ := hv
 have HT := hide hT
 clear ha hT
 by_cases h24 : A.length ≤ 24
 ·have h24' : ¬ (24 : Int) < (A.length : Int) := by omega
  cases hb : A.all bitB
  ·rw [hb] at CI
   have C1 := hide CI
   have E := hide (asText_no (A := A) (by rw [hb, Bool.and_false]))
   clear CI hb
   go_enter Tryd.func17, Tryd.ntmps17
   go_wp2_with (go_at_call 45; refine (unhide C1).mono ?_; rintro e w' ⟨rfl, hw⟩; have hw' := hw.symm; clear hw; subst hw')
   go_ret
   exact ⟨by rw [unhide E]; rfl, grown_refl _⟩
  ·rw [hb] at CI
   have C1 := hide CI
   have E := hide (asText_yes h24 hb)
   have hl : (tl 0 A).length ≤ 1048576 := by rw [tl_len]; omega
   clear CI hb
   go_enter Tryd.func17, Tryd.ntmps17
   go_wp2_with (go_at_call 45; refine (unhide C1).mono ?_; rintro e w' ⟨rfl, hw⟩; have hw' := hw.symm; clear hw; subst hw')
   go_wp2_with fail
   refine (unhide TL).mono ?_; rintro e w1 ⟨u1, rfl, m1⟩
   have CT := hide (txt.implClauseText u1 (tl 0 A) w1 ((unhide HT).kept m1.2) hl (Sl.of_own m1.1))
   have G1 := hide m1.2
   clear m1 TL C1
   go_wp2_with fail
   refine (unhide CT).mono ?_; rintro e w2 ⟨rfl, g2⟩
   have G2 := hide (grown_trans (r := none) (unhide G1) g2)
   clear g2 CT
   go_wp2_with fail
   go_ret
   exact ⟨by rw [unhide E]; rfl, unhide G2⟩
 ·have h24' : (24 : Int) < (A.length : Int) := by omega
  have E := hide (asText_no (A := A) (by rw [decide_eq_false h24]; rfl))
  clear CI TL
  go_enter Tryd.func17, Tryd.ntmps17
  go_wp2_with fail
  go_ret
  exact ⟨by rw [unhide E]; rfl, grown_refl _⟩

set_option maxHeartbeats 800000 in
theorem specAssignText (v : Value) (A : List Int) (w : World) (hL : A.length ≤ 1048576) (hv : Sl w v A) :
  Calls Tryd.prog 15 #[v] w fun e w' => e = .returned (str (asText A)) ∧ w.grownBy w' none := by
 have TL := hide (l03Lits v A w hL hv)
 obtain ⟨a, cap, rfl, ha⟩ := hv
 have HA := hide ha
 clear ha
 by_cases h24 : A.length ≤ 24
 ·have h24' : ¬ (24 : Int) < (A.length : Int) := by omega
  go_enter Tryd.func15, Tryd.ntmps15
  go_wp2
  go_loop [3] (fun i => ∃ k : Nat, k ≤ A.length ∧ i = .int .i64 k ∧ Hid ((A.take k).all bitB = true)) (fun i => A.length - (intOf i).toNat)
  case atStart => exact ⟨0, Nat.zero_le _, rfl, by show _ = _; simp⟩
  case round =>
   obtain ⟨k, hk, rfl, hall⟩ := hrel
   by_cases hlt : k < A.length
   ·rcases unhide HA with h | ⟨b, off, rfl, hb, hcb⟩
    ·rw [h] at hlt
     simp at hlt
    ·have c1 := hcb k hlt
     have hi' : (k : Int) < (A.length : Int) := by omega
     have h1 := ok.all_hit bitB A k 0 hlt
     have h2 := ok.all_step bitB A k 0 hlt (unhide hall)
     generalize A.getD k 0 = x at *
     have cx := fun w => ok.l01In x 0 1 w
     clear hcb HA hall
     cases hx : bitB x
     ·have hx' := hx
      unfold tr.bitB at hx'
      rw [hx'] at cx
      have CX := hide cx
      have E := hide (asText_no (A := A) (by rw [h1 hx, Bool.and_false]))
      clear h1 h2 hx hx' cx
      go_wp2_with (go_at_call 42; refine (unhide CX _).mono ?_; rintro e w' ⟨rfl, rfl⟩)
      go_ret
      exact ⟨by rw [unhide E]; rfl, grown_refl _⟩
     ·have hx' := hx
      unfold tr.bitB at hx'
      rw [hx'] at cx
      have CX := hide cx
      have H := hide (h2 hx)
      clear h1 h2 hx hx' cx
      go_wp2_with (go_at_call 42; refine (unhide CX _).mono ?_; rintro e w' ⟨rfl, rfl⟩)
      go_round
      case rel => exact ⟨k + 1, by omega, by go_num, H⟩
      case measure => simp [intOf]; omega
   ·have hi' : ¬ (k : Int) < (A.length : Int) := by omega
    have ha := ok.all_end bitB A k hlt (unhide hall)
    have E := hide (asText_yes h24 ha)
    have hl : (tl 0 A).length ≤ 1048576 := by rw [tl_len]; omega
    clear HA hall ha
    go_wp2_with fail
    refine (unhide TL).mono ?_; rintro e w1 ⟨u1, rfl, m1⟩
    have CT := hide (txt.specClauseText u1 (tl 0 A) w1 hl (Sl.of_own m1.1))
    have G1 := hide m1.2
    clear m1 TL
    go_wp2_with fail
    refine (unhide CT).mono ?_; rintro e w2 ⟨rfl, hw⟩; have hw' := hw.symm; clear hw; subst hw'
    clear CT
    go_wp2_with fail
    go_ret
    exact ⟨by rw [unhide E]; rfl, unhide G1⟩
 ·have h24' : (24 : Int) < (A.length : Int) := by omega
  have E := hide (asText_no (A := A) (by rw [decide_eq_false h24]; rfl))
  clear TL
  go_enter Tryd.func15, Tryd.ntmps15
  go_wp2_with fail
  go_ret
  exact ⟨by rw [unhide E]; rfl, grown_refl _⟩
end Go.Proofs.YtabiopkjeodamaaDoor.as_
namespace Go.Proofs.YtabiopkjeodamaaDoor.fc
open Go.ChangeShapes Go.WideShapes Go.ChangeAt Go.RowKit
open lits (okB okB_iff okB_yes)
open sl (Sl ints hide unhide ret_int ret_bool grown_refl grown_trans grown_drewN)
open cls (hasB)
open bset (setOf setOf_lt)
open fm (clashB clash_iff)
set_option linter.unusedVariables false

theorem specClash (v : Value) (L : List Int) (w : World) (hL : L.length ≤ 1048576) (hv : Sl w v L) :
  Calls Tryd.prog 151 #[v] w fun e w' => e = .returned (.bool (clashB L)) ∧ w' = w := by
 have CH := hide (fun x => cls.specClauseHas v L x w hL hv)
 obtain ⟨a, cap, rfl, ha⟩ := hv
 have HA := hide ha
 clear ha
 go_enter Tryd.func151, Tryd.ntmps151
 go_wp2
 go_loop [3] (fun i => ∃ k : Nat, k ≤ L.length ∧ i = .int .i64 k ∧ Hid ((L.take k).any (fun x => okB x && hasB L (-x)) = false)) (fun i => L.length - (intOf i).toNat)
 case atStart => exact ⟨0, Nat.zero_le _, rfl, by show _ = _; simp⟩
 case round =>
  obtain ⟨k, hk, rfl, hall⟩ := hrel
  by_cases hlt : k < L.length
  ·rcases unhide HA with h | ⟨b, off, rfl, hb, hcb⟩
   ·rw [h] at hlt
    simp at hlt
   ·have c1 := hcb k hlt
    have hi' : (k : Int) < (L.length : Int) := by omega
    have h1 := tr.any_hit (fun x => okB x && hasB L (-x)) L k 0 hlt
    have h2 := tr.any_step (fun x => okB x && hasB L (-x)) L k 0 hlt (unhide hall)
    generalize L.getD k 0 = x at *
    have cx := lits.specLitOk x
    have ch := unhide CH (-x)
    cases hx : okB x
    ·rw [hx] at cx
     have CX := hide cx
     have H := hide (h2 (by show (okB x && _) = _; rw [hx]; rfl))
     clear cx ch h1 h2 hx hcb HA hall CH
     go_wp2_with (go_at_call 76; refine (unhide CX _).mono ?_; rintro e w' ⟨rfl, rfl⟩)
     go_round
     case rel => exact ⟨k + 1, by omega, by go_num, H⟩
     case measure => simp [intOf]; omega
    ·rw [hx] at cx
     have CX := hide cx
     have hbd := okB_iff.1 hx
     obtain ⟨b0, b1, b2⟩ := hbd
     cases hh : hasB L (-x)
     ·rw [hh] at ch
      have C2 := hide ch
      have H := hide (h2 (by show (okB x && hasB L (-x)) = _; rw [hx, hh]; rfl))
      clear cx ch h1 h2 hx hh hcb HA hall CH
      go_wp2_with (first | (go_at_call 76; refine (unhide CX _).mono ?_; rintro e w' ⟨rfl, rfl⟩) | (go_at_call 115; refine (unhide C2).mono ?_; rintro e w' ⟨rfl, rfl⟩))
      go_round
      case rel => exact ⟨k + 1, by omega, by go_num, H⟩
      case measure => simp [intOf]; omega
     ·rw [hh] at ch
      have C2 := hide ch
      have H := hide (h1 (by show (okB x && hasB L (-x)) = _; rw [hx, hh]; rfl))
      clear cx ch h1 h2 hx hh hcb HA hall CH
      go_wp2_with (first | (go_at_call 76; refine (unhide CX _).mono ?_; rintro e w' ⟨rfl, rfl⟩) | (go_at_call 115; refine (unhide C2).mono ?_; rintro e w' ⟨rfl, rfl⟩))
      go_ret
      exact ⟨ret_bool (unhide H).symm, rfl⟩
  ·have hi' : ¬ (k : Int) < (L.length : Int) := by omega
   have HR := hide (tr.any_end (fun x => okB x && hasB L (-x)) L k hlt (unhide hall))
   clear HA hall CH
   go_wp2
   go_ret
   exact ⟨ret_bool (unhide HR).symm, rfl⟩

end Go.Proofs.YtabiopkjeodamaaDoor.fc
namespace Go.Proofs.YtabiopkjeodamaaDoor.lq
open Go.ChangeShapes Go.WideShapes Go.ChangeAt Go.RowKit
open lits (okB varI okB_iff varI_yes)
open cls (hasB)
open css (Sls OwnS tot own_mono)
open cf (Box)
open ok (cnfB clB litIn)
open fm (clashB)
open wo (Made)
open sl (Sl Own ints hide unhide ret_int ret_bool grown_refl grown_trans grown_drewN)
set_option linter.unusedVariables false
theorem solve_no {n : Int} {LL : List (List Int)} {a : List Int} (h : (cnfB n LL && a.all (litIn n)) = false) : solveL n LL a = none := by
 unfold solveL
 rw [h]
 rfl
theorem solve_clash {n : Int} {LL : List (List Int)} {a : List Int} (h : clashB a = true) : solveL n LL a = none := by
 unfold solveL
 split
 ·rw [lst_none]
  intro l _
  unfold fm.clashB at h
  obtain ⟨x, hx, h2⟩ := List.any_eq_true.1 h
  rw [Bool.and_eq_true] at h2
  cases hh : holds LL a l with
  | false => rfl
  | true =>
   have h3 := holds_lit hh hx
   have h4 := holds_lit hh (of_decide_eq_true h2.2)
   rw [litT_neg h2.1, h3] at h4
   cases h4
 ·rfl
theorem solve_bits (n : Int) (LL : List (List Int)) (a : List Int) : ∀ A, solveL n LL a = some A → A.length ≤ 24 := by
 intro A h
 unfold solveL at h
 split at h
 ·rename_i hc
  rw [Bool.and_eq_true] at hc
  have h24 : n.toNat ≤ 24 := by
   have := hc.1
   unfold ok.cnfB at this
   rw [Bool.and_eq_true, Bool.and_eq_true, decide_eq_true_iff] at this
   omega
  have := (lst_some h).1.1
  omega
 ·cases h
theorem ahead_start {n : Nat} {LL : List (List Int)} {a : List Int} (hc : cnfB (n : Int) LL = true) (ha : a.all (litIn (n : Int)) = true) (hn : clashB a = false) : Ahead n a [] ∧ rest n LL a [] = solveL (n : Int) LL a := by
 have h24 : n ≤ 24 := by
  unfold ok.cnfB at hc
  rw [Bool.and_eq_true, Bool.and_eq_true, decide_eq_true_iff] at hc
  omega
 have hl := List.all_eq_true.1 ha
 refine ⟨⟨h24, Nat.zero_le _, fun x hx => (by cases hx), fun j hj => absurd hj (Nat.not_lt_zero _), hl, fun x hx => ?_⟩, ?_⟩
 ·cases hb : hasB a (-x) with
  | false => rfl
  | true =>
   unfold fm.clashB at hn
   have : (a.any fun x => okB x && hasB a (-x)) = true := List.any_eq_true.2 ⟨x, hx, by rw [(litIn_parts (hl x hx)).1, hb]; rfl⟩
   rw [this] at hn
   cases hn
 ·unfold rest solveL
  rw [hc, ha, Bool.true_and, if_pos rfl]
  show (lst n (fun l => holds LL a l)).map (fun l => l) = lst n (holds LL a)
  cases lst n (holds LL a) <;> rfl
set_option maxRecDepth 100000 in
set_option maxHeartbeats 4000000 in
theorem specSolveWith (v u : Value) (n : Int) (LL : List (List Int)) (a : List Int) (lo hi : Nat) (w : World) (hn : tot LL ≤ 1048576) (ha : a.length ≤ 1048576) (hv : Sls w v LL) (hu : Own lo hi w u a) :
  Calls Tryd.prog 128 #[.agg #[.int .i64 n, v], u] w fun e w' => FromE w (solveL n LL a) e w' := by
 obtain ⟨O, hO⟩ : ∃ O, solveL n LL a = O := ⟨_, rfl⟩
 rw [hO]
 have HO := hide hO
 clear hO
 have g0 := World.grownBy_alloc w (.cells #[.int .i64 n, v] 47) none
 have C1 := ok.specCnfOk v n LL _ hn (hv.kept g0)
 have F0 := hide (Box.new 47 w (.int .i64 n) v)
 have HU := hide (hu.kept g0)
 have HV := hide (hv.kept g0)
 have G0 := hide g0
 obtain ⟨ua, uc, rfl, _⟩ := hu.sl
 have x0 := (unhide F0).c0
 have x1 := (unhide F0).c1
 clear g0 hv hu
 cases hc : cnfB n LL
 ·rw [hc] at C1
  have CC := hide C1
  have E := hide ((unhide HO).symm.trans (solve_no (n := n) (LL := LL) (a := a) (by rw [hc]; rfl)))
  clear C1 hc HV HU
  go_enter Tryd.func128, Tryd.ntmps128
  go_wp2_with fail
  refine (unhide CC).mono ?_; rintro e w1 ⟨rfl, g1⟩
  have G1 := hide (grown_trans (r := none) (unhide G0) g1)
  clear g1 CC x0 x1
  go_wp2_with fail
  go_ret2
  rw [unhide E]
  exact ⟨_, rfl, made_sub (unhide G1) (app.made_nil _)⟩
 rw [hc] at C1
 have CC := hide C1
 have HC := hide hc
 clear C1 hc
 go_enter Tryd.func128, Tryd.ntmps128
 go_wp2_with fail
 refine (unhide CC).mono ?_; rintro e w1 ⟨rfl, g1⟩
 have G1 := hide (grown_trans (r := none) (unhide G0) g1)
 have F1 := hide ((unhide F0).kept g1)
 have U1 := hide ((unhide HU).kept g1)
 have V1 := hide ((unhide HV).kept g1)
 have y0 := (unhide F1).c0
 have y1 := (unhide F1).c1
 have CL := l4.l04Lits v (.slice ua a.length uc) n a w1 ha (unhide U1).sl
 clear g1 CC x0 x1 G0 F0 HU HV
 cases hl : a.all (litIn n)
 ·rw [hl] at CL
  have C2 := hide CL
  have E := hide ((unhide HO).symm.trans (solve_no (n := n) (LL := LL) (a := a) (by rw [hl, Bool.and_false])))
  clear CL hl V1 U1 HC
  go_wp2_with fail
  refine (unhide C2).mono ?_; rintro e w2 ⟨rfl, g2⟩
  have G2 := hide (grown_trans (r := none) (unhide G1) g2)
  clear g2 C2 y0 y1
  go_wp2_with fail
  go_ret2
  rw [unhide E]
  exact ⟨_, rfl, made_sub (unhide G2) (app.made_nil _)⟩
 rw [hl] at CL
 have C2 := hide CL
 have HL := hide hl
 clear CL hl
 go_wp2_with fail
 refine (unhide C2).mono ?_; rintro e w2 ⟨rfl, g2⟩
 have G2 := hide (grown_trans (r := none) (unhide G1) g2)
 have F2 := hide ((unhide F1).kept g2)
 have U2 := hide ((unhide U1).kept g2)
 have V2 := hide ((unhide V1).kept g2)
 have CC := fc.specClash (.slice ua a.length uc) a w2 ha (unhide U2).sl
 clear g2 C2 y0 y1 G1 F1 U1 V1
 have z0 := (unhide F2).c0
 have z1 := (unhide F2).c1
 cases hx : clashB a
 ·rw [hx] at CC
  have C3 := hide CC
  have hn0 : 0 ≤ n := by
   have := unhide HC
   unfold ok.cnfB at this
   rw [Bool.and_eq_true, Bool.and_eq_true, decide_eq_true_iff] at this
   omega
  obtain ⟨m, rfl⟩ := Int.eq_ofNat_of_zero_le hn0
  obtain ⟨hA, hR⟩ := ahead_start (unhide HC) (unhide HL) hx
  have CF := from_ m LL hn (lits_in (unhide HC)) (m + 1) a [] v (.slice ua a.length uc) lo hi w2 hA (by show m - 0 < m + 1; omega) (by show a.length ≤ 1048576 + 0; omega) (unhide V2) (unhide U2)
  rw [hR, unhide HO] at CF
  have K4 : Hid (Calls Tryd.prog 152 #[.agg #[.int .i64 (m : Int), v], .slice ua a.length uc, .int .i64 1] w2 fun e w' => FromE w2 O e w') := CF
  clear CC hx hA hR CF
  go_wp2_with fail
  refine (unhide C3).mono ?_; rintro e w3 ⟨rfl, hw⟩; have hw' := hw.symm; clear hw; subst hw'
  go_wp2_with fail
  refine (unhide K4).mono ?_; rintro e w3 ⟨r, rfl, m3⟩
  have M3 := hide m3
  clear m3 K4 C3
  go_wp2_with fail
  go_ret2
  exact ⟨r, rfl, made_sub (unhide G2) (unhide M3)⟩
 ·rw [hx] at CC
  have C3 := hide CC
  have E := hide ((unhide HO).symm.trans (solve_clash (n := n) (LL := LL) hx))
  clear CC hx
  go_wp2_with fail
  refine (unhide C3).mono ?_; rintro e w3 ⟨rfl, hw⟩; have hw' := hw.symm; clear hw; subst hw'
  go_wp2_with fail
  go_ret2
  rw [unhide E]
  exact ⟨_, rfl, made_sub (unhide G2) (app.made_nil _)⟩
set_option maxRecDepth 100000 in
set_option maxHeartbeats 4000000 in
theorem specSolve (v : Value) (n : Int) (LL : List (List Int)) (w : World) (hn : tot LL ≤ 1048576) (hv : Sls w v LL) :
  Calls Tryd.prog 100 #[.agg #[.int .i64 n, v]] w fun e w' => FromE w (solveL n LL []) e w' := by
 have g0 := World.grownBy_alloc w (.cells #[.int .i64 n, v] 47) none
 have F0 := hide (Box.new 47 w (.int .i64 n) v)
 have mn := app.made_nil (w.alloc (.cells #[.int .i64 n, v] 47))
 have C := specSolveWith v (.slice (some ⟨(w.alloc (.cells #[.int .i64 n, v] 47)).heap.size, 0, none⟩) 0 0) n LL [] _ _ _ hn (Nat.zero_le _) ((hv.kept g0).kept mn.2) (Own.of mn.1)
 obtain ⟨O, hO⟩ : ∃ O, solveL n LL [] = O := ⟨_, rfl⟩
 rw [hO] at C ⊢
 rw [World.size_alloc] at C
 have G := hide (grown_trans (r := none) g0 mn.2)
 have CC := hide C
 have x0 := (unhide F0).c0
 have x1 := (unhide F0).c1
 clear C g0 mn hv hO
 go_enter Tryd.func100, Tryd.ntmps100
 go_wp2_with fail
 refine (unhide CC).mono ?_; rintro e w3 ⟨r, rfl, m3⟩
 have M3 := hide m3
 clear m3 CC
 go_wp2_with fail
 go_ret2
 exact ⟨r, rfl, made_sub (unhide G) (unhide M3)⟩
end Go.Proofs.YtabiopkjeodamaaDoor.lq
namespace Go.Proofs.YtabiopkjeodamaaDoor.rd
open Go.RowKit
open lits (okB okB_iff okB_yes)
open cls (okAll)
open txt (body text itoa_len)

/-! ### digits -/
theorem dec_mem (u : Nat) : ∀ c ∈ Lib.decDigits u, 48 ≤ c.toNat ∧ c.toNat ≤ 57 := by
 induction u using Nat.strongRecOn with
 | _ u ih =>
  intro c hc
  have one : ∀ d, d < 10 → 48 ≤ (UInt8.ofNat (48 + d)).toNat ∧ (UInt8.ofNat (48 + d)).toNat ≤ 57 := by decide
  by_cases h : u < 10
  ·rw [dec.dec_small h] at hc
   rw [List.mem_singleton] at hc
   rw [hc]
   exact one _ (Nat.mod_lt _ (by decide))
  ·rw [dec.dec_big h, List.mem_append] at hc
   rcases hc with hc | hc
   ·exact ih (u / 10) (by omega) c hc
   ·rw [List.mem_singleton] at hc
    rw [hc]
    exact one _ (Nat.mod_lt _ (by decide))
def val (l : List UInt8) : Nat := l.foldl (fun a c => 10 * a + (c.toNat - 48)) 0
theorem val_snoc (l : List UInt8) (c : UInt8) : val (l ++ [c]) = 10 * val l + (c.toNat - 48) := by simp [val]
theorem digit_val : ∀ d, d < 10 → (UInt8.ofNat (48 + d)).toNat - 48 = d := by decide
theorem val_dec (u : Nat) : val (Lib.decDigits u) = u := by
 induction u using Nat.strongRecOn with
 | _ u ih =>
  by_cases h : u < 10
  ·rw [dec.dec_small h]
   show 10 * 0 + ((UInt8.ofNat (48 + u % 10)).toNat - 48) = u
   rw [digit_val _ (Nat.mod_lt _ (by decide))]
   omega
  ·rw [dec.dec_big h, val_snoc, ih (u / 10) (by omega), digit_val _ (Nat.mod_lt _ (by decide))]
   omega
theorem dec_ne (u : Nat) : Lib.decDigits u ≠ [] := by
 intro h
 have := Lib.decDigits_length u
 rw [h] at this
 have := Lib.nDigits_pos u
 simp at *
 omega
theorem dec_head (u : Nat) : ∀ c r, Lib.decDigits u = c :: r → c ≠ 45 := by
 intro c r h e
 have := dec_mem u c (by rw [h]; exact List.mem_cons_self)
 rw [e] at this
 simp at this
theorem itoa_blank (x : Int) : (32 : UInt8) ∉ Lib.itoa x := by
 unfold Lib.itoa
 split
 ·intro h
  rcases List.mem_cons.1 h with h | h
  ·cases h
  ·have := dec_mem _ _ h
   simp at this
 ·intro h
  have := dec_mem _ _ h
  simp at this

/-! ### words -/
def scan (st : List (List UInt8) × List UInt8) (l : List UInt8) : List (List UInt8) × List UInt8 :=
 l.foldl (fun st c => if c = 32 then (st.1 ++ [st.2], []) else (st.1, st.2 ++ [c])) st
def words (l : List UInt8) : List (List UInt8) := (scan ([], []) l).1 ++ [(scan ([], []) l).2]
theorem scan_plain (st : List (List UInt8) × List UInt8) (a : List UInt8) (h : (32 : UInt8) ∉ a) : scan st a = (st.1, st.2 ++ a) := by
 induction a generalizing st with
 | nil => simp [scan]
 | cons c a ih =>
  rw [List.mem_cons, not_or] at h
  have e : scan st (c :: a) = scan (st.1, st.2 ++ [c]) a := by
   show scan (if c = 32 then _ else _) a = _
   rw [if_neg (fun e => h.1 e.symm)]
  rw [e, ih _ h.2]
  simp
theorem scan_append (st : List (List UInt8) × List UInt8) (a b : List UInt8) : scan st (a ++ b) = scan (scan st a) b := by simp [scan]
theorem scan_word (st : List (List UInt8) × List UInt8) (a r : List UInt8) (h : (32 : UInt8) ∉ a) : scan st (a ++ 32 :: r) = scan (st.1 ++ [st.2 ++ a], []) r := by
 rw [scan_append, scan_plain _ _ h]
 rfl
theorem body_cons (x : Int) (l : List Int) : body (x :: l) = Lib.itoa x ++ 32 :: body l := by simp [body]
theorem scan_body (d : List (List UInt8)) (L : List Int) : scan (d, []) (body L ++ [48]) = (d ++ L.map Lib.itoa, [48]) := by
 induction L generalizing d with
 | nil => simp [body, scan]
 | cons x l ih =>
  rw [body_cons, List.append_assoc, List.cons_append, scan_word _ _ _ (itoa_blank x), List.nil_append, ih]
  simp
theorem words_body (L : List Int) : words (body L ++ [48]) = L.map Lib.itoa ++ [[48]] := by
 unfold words
 rw [scan_body]
 simp

/-! ### a number out of a word -/
def numDig (s : List UInt8) : List UInt8 := if s.head? = some 45 then s.tail else s
def numOk (s : List UInt8) : Bool := decide (1 ≤ (numDig s).length ∧ (numDig s).length ≤ 9) && (numDig s).all fun c => decide (48 ≤ c.toNat ∧ c.toNat ≤ 57)
def numV (s : List UInt8) : Int := if (numDig s).length < s.length then -(val (numDig s) : Int) else (val (numDig s) : Int)
def num (s : List UInt8) : Int × Bool := if numOk s then (numV s, decide (Lib.itoa (numV s) = s)) else (0, false)
theorem dec_all (u : Nat) : (Lib.decDigits u).all (fun c => decide (48 ≤ c.toNat ∧ c.toNat ≤ 57)) = true := by
 rw [List.all_eq_true]
 intro c hc
 exact decide_eq_true (dec_mem u c hc)
theorem dec_len {u : Nat} (h : u < 10 ^ 9) : 1 ≤ (Lib.decDigits u).length ∧ (Lib.decDigits u).length ≤ 9 := by
 rw [Lib.decDigits_length]
 exact ⟨Lib.nDigits_pos u, dec.nDigits_le 9 u (by decide) h⟩
theorem dig_pos (u : Nat) : numDig (Lib.decDigits u) = Lib.decDigits u := by
 unfold numDig
 rw [if_neg]
 intro h
 cases e : Lib.decDigits u with
 | nil => exact dec_ne u e
 | cons c r =>
  rw [e] at h
  exact dec_head u c r e (Option.some.inj h)
theorem num_itoa {x : Int} (h1 : -1000000000 < x) (h2 : x < 1000000000) : num (Lib.itoa x) = (x, true) := by
 have key : numOk (Lib.itoa x) = true ∧ numV (Lib.itoa x) = x := by
  unfold numOk numV Lib.itoa
  split
  ·have e : numDig (45 :: Lib.decDigits x.natAbs) = Lib.decDigits x.natAbs := by simp [numDig]
   rw [e, dec_all, decide_eq_true (dec_len (by omega)), if_pos (by simp), val_dec]
   exact ⟨rfl, by omega⟩
  ·rw [dig_pos, dec_all, decide_eq_true (dec_len (by omega)), if_neg (by omega), val_dec]
   exact ⟨rfl, by omega⟩
 unfold num
 rw [key.1, key.2, decide_eq_true rfl]
 rfl

/-! ### a literal out of a word -/
def lit (s : List UInt8) : Option Int := match Lib.atoiAll s with
 | .ok v => if okB v && decide (Lib.itoa v = s) then some v else none
 | _ => none

/-! ### a clause out of a text -/
def cutW (s : List UInt8) : List UInt8 × List UInt8 × Bool := Lib.cut s [32]
def clause : Nat → List UInt8 → Option (List Int)
 | 0, s => if s = [48] then some [] else none
 | n + 1, s => if s = [48] then some [] else if (cutW s).2.2 then (match lit (cutW s).1 with
  | some x => (clause n (cutW s).2.1).map (x :: ·)
  | none => none) else none
theorem index_cons (b : UInt8) (l : List UInt8) : Lib.index (b :: l) [32] = if b = 32 then 0 else if Lib.index l [32] = -1 then -1 else Lib.index l [32] + 1 := by
 conv => lhs; unfold Lib.index
 by_cases h : b = 32
 ·rw [if_pos (by simp [h]), if_pos h]
 ·rw [if_neg (by simp; exact fun e => h e.symm), if_neg h]
  simp [beq_iff_eq]
theorem cut_spec (s : List UInt8) : (∃ a r, s = a ++ 32 :: r ∧ (32 : UInt8) ∉ a ∧ Lib.index s [32] = (a.length : Int)) ∨ ((32 : UInt8) ∉ s ∧ Lib.index s [32] = -1) := by
 induction s with
 | nil => exact .inr ⟨by simp, by simp [Lib.index]⟩
 | cons b l ih =>
  rw [index_cons]
  by_cases h : b = 32
  ·exact .inl ⟨[], l, by simp [h], by simp, by simp [h]⟩
  ·rw [if_neg h]
   rcases ih with ⟨a, r, e, ha, hi⟩ | ⟨ha, hi⟩
   ·refine .inl ⟨b :: a, r, by simp [e], ?_, ?_⟩
    ·rw [List.mem_cons, not_or]
     exact ⟨fun e => h e.symm, ha⟩
    ·rw [hi, if_neg (by omega)]
     simp
   ·refine .inr ⟨?_, by rw [hi]; rfl⟩
    rw [List.mem_cons, not_or]
    exact ⟨fun e => h e.symm, ha⟩
theorem blank_unique {a b r t : List UInt8} (ha : (32 : UInt8) ∉ a) (hb : (32 : UInt8) ∉ b) (h : a ++ 32 :: r = b ++ 32 :: t) : a = b ∧ r = t := by
 induction a generalizing b with
 | nil =>
  cases b with
  | nil => simp at h; exact ⟨rfl, h⟩
  | cons c b => simp at h; exact absurd h.1.symm (fun e => hb (by rw [e]; exact List.mem_cons_self))
 | cons d a ih =>
  cases b with
  | nil => simp at h; exact absurd h.1 (fun e => ha (by rw [e]; exact List.mem_cons_self))
  | cons c b =>
   simp at h
   rw [List.mem_cons, not_or] at ha hb
   have := ih ha.2 hb.2 h.2
   exact ⟨by rw [h.1, this.1], this.2⟩
theorem cut_word {a : List UInt8} (r : List UInt8) (ha : (32 : UInt8) ∉ a) : cutW (a ++ 32 :: r) = (a, r, true) := by
 rcases cut_spec (a ++ 32 :: r) with ⟨b, t, e, hb, hi⟩ | ⟨h, _⟩
 ·obtain ⟨rfl, rfl⟩ := blank_unique ha hb e
  unfold cutW Lib.cut
  rw [hi, if_pos (by omega)]
  simp
 ·exact absurd (by simp) h
theorem cut_sound {s : List UInt8} (h : (cutW s).2.2 = true) : s = (cutW s).1 ++ 32 :: (cutW s).2.1 ∧ (cutW s).2.1.length < s.length := by
 rcases cut_spec s with ⟨b, t, e, hb, hi⟩ | ⟨_, hi⟩
 ·rw [e, cut_word t hb]
  exact ⟨rfl, by simp; omega⟩
 ·unfold cutW Lib.cut at h
  rw [hi] at h
  simp at h

/-! ### a literal's text spells it -/
def dec2 (u : Nat) : List UInt8 := if u < 10 then [UInt8.ofNat (48 + u % 10)] else [UInt8.ofNat (48 + u / 10 % 10), UInt8.ofNat (48 + u % 10)]
theorem dec_dec2 {u : Nat} (h : u < 100) : Lib.decDigits u = dec2 u := by
 unfold dec2
 split
 ·exact dec.dec_small ‹_›
 ·rw [dec.dec_big ‹_›, dec.dec_small (by omega)]
  rfl
theorem atoi_pos : ∀ u : Fin 25, (match Lib.atoiAll (dec2 u.val) with | .ok v => decide (v = (u.val : Int)) | _ => false) = true := by decide
theorem atoi_neg : ∀ u : Fin 25, (match Lib.atoiAll (45 :: dec2 u.val) with | .ok v => decide (v = -(u.val : Int)) | _ => false) = true := by decide
theorem ok_of {e : Lib.NumEnd Int} {x : Int} (h : (match e with | .ok v => decide (v = x) | _ => false) = true) : e = .ok x := by
 cases e with
 | ok v => rw [of_decide_eq_true h]
 | _ => cases h
theorem atoi_lit {x : Int} (h : okB x = true) : Lib.atoiAll (Lib.itoa x) = .ok x := by
 have a := okB_iff.1 h
 unfold Lib.itoa
 split
 ·rw [dec_dec2 (by omega)]
  have := ok_of (atoi_neg ⟨x.natAbs, by omega⟩)
  rw [this]
  congr 1
  simp
  omega
 ·rw [dec_dec2 (by omega)]
  have := ok_of (atoi_pos ⟨x.toNat, by omega⟩)
  rw [this]
  congr 1
  simp
  omega
theorem lit_itoa {x : Int} (h : okB x = true) : lit (Lib.itoa x) = some x := by
 unfold lit
 rw [atoi_lit h]
 simp [h]
theorem lit_sound {s : List UInt8} {x : Int} (h : lit s = some x) : okB x = true ∧ Lib.itoa x = s := by
 unfold lit at h
 split at h
 ·split at h
  ·rename_i v _ hv
   rw [Bool.and_eq_true, decide_eq_true_iff] at hv
   obtain rfl := Option.some.inj h
   exact hv
  ·cases h
 ·cases h

theorem clause_sound {n : Nat} {s : List UInt8} {L : List Int} (h : clause n s = some L) : L.all okB = true ∧ L.length ≤ n ∧ body L ++ [48] = s := by
 induction n generalizing s L with
 | zero =>
  unfold clause at h
  split at h
  ·obtain rfl := Option.some.inj h
   exact ⟨rfl, Nat.le_refl _, by rw [‹s = [48]›]; rfl⟩
  ·cases h
 | succ n ih =>
  unfold clause at h
  split at h
  ·obtain rfl := Option.some.inj h
   exact ⟨rfl, Nat.zero_le _, by rw [‹s = [48]›]; rfl⟩
  ·split at h
   ·rename_i hf
    cases hl : lit (cutW s).1 with
    | none => rw [hl] at h; cases h
    | some x =>
     rw [hl] at h
     obtain ⟨l, hc, rfl⟩ := Option.map_eq_some_iff.1 h
     have h1 := ih hc
     have h2 := lit_sound hl
     have h3 := cut_sound hf
     refine ⟨by rw [List.all_cons, h2.1, h1.1]; rfl, by rw [List.length_cons]; omega, ?_⟩
     rw [body_cons, List.append_assoc, List.cons_append, h1.2.2, h2.2]
     exact h3.1.symm
   ·cases h
theorem clause_full {L : List Int} (hok : L.all okB = true) : ∀ n, L.length ≤ n → clause n (body L ++ [48]) = some L := by
 induction L with
 | nil => intro n _; cases n <;> rfl
 | cons x l ih =>
  intro n hn
  cases n with
  | zero => simp at hn
  | succ n =>
   rw [List.all_cons, Bool.and_eq_true] at hok
   have hw : cutW (body (x :: l) ++ [48]) = (Lib.itoa x, body l ++ [48], true) := by
    rw [body_cons, List.append_assoc, List.cons_append]
    exact cut_word _ (itoa_blank x)
   have hne : ¬ body (x :: l) ++ [48] = [48] := by
    intro e
    have : (32 : UInt8) ∈ body (x :: l) ++ [48] := by rw [body_cons]; simp
    rw [e] at this
    simp at this
   unfold clause
   rw [if_neg hne, hw]
   simp only [if_true, lit_itoa hok.1, ih hok.2 n (by simpa using hn), Option.map_some]

def read (s : List UInt8) : Option (List Int) := clause 48 s
def readL (s : List UInt8) : List Int := (read s).getD []
def readB (s : List UInt8) : Bool := (read s).isSome
theorem read_sound {s : List UInt8} {L : List Int} (h : read s = some L) : okAll L = true ∧ text L = s := by
 have h1 := clause_sound h
 have hok : okAll L = true := by
  unfold okAll
  rw [h1.1, decide_eq_true h1.2.1]
  rfl
 exact ⟨hok, by rw [txt.text_yes hok]; exact h1.2.2⟩
theorem read_full {L : List Int} (hok : okAll L = true) : read (text L) = some L := by
 rw [txt.text_yes hok]
 unfold okAll at hok
 rw [Bool.and_eq_true, decide_eq_true_iff] at hok
 exact clause_full hok.1 48 hok.2
theorem read_len (s : List UInt8) : (readL s).length ≤ 48 := by
 unfold readL
 cases h : read s with
 | none => exact Nat.zero_le _
 | some L => exact (clause_sound h).2.1
end Go.Proofs.YtabiopkjeodamaaDoor.rd
namespace Go.Proofs.YtabiopkjeodamaaDoor.rd
open Go.ChangeShapes Go.WideShapes Go.ChangeAt Go.RowKit
open dec (str)
open sl (hide unhide ret_bool ret_int)
set_option linter.unusedVariables false

def bytes (s : ByteArray) : List UInt8 := s.data.toList
theorem toList_bytes (s : ByteArray) : s.toList = bytes s := ByteArray.toList_eq s
theorem bytes_len (s : ByteArray) : (bytes s).length = s.size := by unfold bytes; rw [Array.length_toList]; rfl
theorem bytes_extract (s : ByteArray) (a b : Nat) : bytes (s.extract a b) = ((bytes s).take b).drop a := by
 unfold bytes
 rw [ByteArray.data_extract, Array.toList_extract, List.drop_take]
theorem bytes_take (s : ByteArray) (k : Nat) (h : k < s.size) : (bytes s).take (k + 1) = (bytes s).take k ++ [s[k]] := by
 unfold bytes
 rw [List.take_succ_eq_append_getElem (by rw [Array.length_toList]; exact h)]
 rfl
theorem bytes_mem (s : ByteArray) (k : Nat) (h : k < s.size) : s[k] ∈ bytes s := by
 unfold bytes
 exact Array.getElem_mem_toList (h := h)
theorem val_lt (l : List UInt8) (h : l.all (fun c => decide (48 ≤ c.toNat ∧ c.toNat ≤ 57)) = true) : val l < 10 ^ l.length := by
 have gen : ∀ (l : List UInt8) (a k : Nat), l.all (fun c => decide (48 ≤ c.toNat ∧ c.toNat ≤ 57)) = true → a < 10 ^ k → l.foldl (fun a c => 10 * a + (c.toNat - 48)) a < 10 ^ (k + l.length) := by
  intro l
  induction l with
  | nil => intro a k _ h; exact h
  | cons c l ih =>
   intro a k hl ha
   rw [List.all_cons, Bool.and_eq_true, decide_eq_true_iff] at hl
   rw [List.foldl_cons, List.length_cons, show k + (l.length + 1) = (k + 1) + l.length from by omega]
   refine ih _ _ hl.2 ?_
   rw [Nat.pow_succ]
   omega
 have := gen l 0 0 h (by decide)
 rwa [Nat.zero_add] at this

theorem inC (x : Int) (w : World) : Calls Tryd.prog 42 #[.int .i64 x, .int .i64 48, .int .i64 57] w fun e w' => e = .returned (.bool (decide (48 ≤ x ∧ x ≤ 57))) ∧ w' = w := by
 by_cases h1 : 48 ≤ x
 ·by_cases h2 : x ≤ 57
  ·rw [decide_eq_true ⟨h1, h2⟩]
   go_enter Tryd.func42, Tryd.ntmps42
   go_wp2
   go_ret
   exact ⟨rfl, rfl⟩
  ·rw [decide_eq_false (fun h => h2 h.2)]
   go_enter Tryd.func42, Tryd.ntmps42
   go_wp2
   go_ret
   exact ⟨rfl, rfl⟩
 ·rw [decide_eq_false (fun h => h1 h.1)]
  have h1' : decide (48 ≤ x) = false := decide_eq_false h1
  go_enter Tryd.func42, Tryd.ntmps42
  go_wp2
  go_ret
  exact ⟨rfl, rfl⟩

def dig (l : List UInt8) : Bool := l.all fun c => decide (48 ≤ c.toNat ∧ c.toNat ≤ 57)
theorem dig_hit (s : ByteArray) (k : Nat) (h : k < s.size) (hx : decide (48 ≤ (s[k].toNat : Int) ∧ (s[k].toNat : Int) ≤ 57) = false) : dig (bytes s) = false := by
 unfold dig
 rw [List.all_eq_false]
 refine ⟨s[k], bytes_mem s k h, ?_⟩
 rw [decide_eq_false_iff_not] at hx
 simp only [decide_eq_true_iff]
 omega
theorem dig_step (s : ByteArray) (k : Nat) (h : k < s.size) (hd : dig ((bytes s).take k) = true) (hx : decide (48 ≤ (s[k].toNat : Int) ∧ (s[k].toNat : Int) ≤ 57) = true) : dig ((bytes s).take (k + 1)) = true := by
 unfold dig at *
 rw [bytes_take s k h, List.all_append, hd]
 rw [decide_eq_true_iff] at hx
 simp only [List.all_cons, List.all_nil, Bool.and_true, Bool.true_and, decide_eq_true_iff]
 omega
theorem val_step (s : ByteArray) (k : Nat) (h : k < s.size) (hx : decide (48 ≤ (s[k].toNat : Int) ∧ (s[k].toNat : Int) ≤ 57) = true) : ((val ((bytes s).take (k + 1)) : Nat) : Int) = 10 * ((val ((bytes s).take k) : Nat) : Int) + (s[k].toNat : Int) - 48 := by
 rw [decide_eq_true_iff] at hx
 rw [bytes_take s k h, val_snoc]
 omega
theorem val_small (s : ByteArray) (k : Nat) (h9 : s.size ≤ 9) (hd : dig ((bytes s).take k) = true) : val ((bytes s).take k) < 1000000000 := by
 have h1 := val_lt _ hd
 have h2 : ((bytes s).take k).length ≤ 9 := by
  rw [List.length_take, bytes_len]
  omega
 have h3 : 10 ^ ((bytes s).take k).length ≤ 10 ^ 9 := Nat.pow_le_pow_right (by decide) h2
 omega
theorem ret_eq (n : Int) (q : List UInt8) (s : ByteArray) : Ending.returned (.tuple #[.int .i64 n, .bool (q == s.toList)]) = .returned (.tuple #[.int .i64 n, .bool (decide (q = bytes s))]) := by
 rw [show (q == s.toList) = decide (q = bytes s) from by rw [Bool.eq_iff_iff, beq_iff_eq, decide_eq_true_iff, toList_bytes]]
def fin (neg : Bool) (s d : List UInt8) : Int × Bool := if dig d then ((if neg then -((val d : Nat) : Int) else ((val d : Nat) : Int)), decide (Lib.itoa (if neg then -((val d : Nat) : Int) else ((val d : Nat) : Int)) = s)) else (0, false)
theorem fin_no {neg : Bool} {s d : List UInt8} (h : dig d = false) : fin neg s d = (0, false) := by unfold fin; rw [h]; rfl
theorem fin_neg {s d : List UInt8} (h : dig d = true) : fin true s d = (-((val d : Nat) : Int), decide (Lib.itoa (-((val d : Nat) : Int)) = s)) := by unfold fin; rw [h]; rfl
theorem fin_pos {s d : List UInt8} (h : dig d = true) : fin false s d = (((val d : Nat) : Int), decide (Lib.itoa ((val d : Nat) : Int) = s)) := by unfold fin; rw [h]; rfl

theorem num_fin {l : List UInt8} (h : decide (1 ≤ (numDig l).length ∧ (numDig l).length ≤ 9) = true) (neg : Bool) (hn : neg = decide ((numDig l).length < l.length)) : num l = fin neg l (numDig l) := by
 unfold num numOk numV fin
 rw [h, Bool.true_and, hn]
 show (if dig (numDig l) then _ else _) = _
 by_cases h2 : (numDig l).length < l.length
 ·rw [decide_eq_true h2, if_pos h2]
  rfl
 ·rw [decide_eq_false h2, if_neg h2]
  rfl
theorem num_no {l : List UInt8} (h : decide (1 ≤ (numDig l).length ∧ (numDig l).length ≤ 9) = false) : num l = (0, false) := by
 unfold num numOk
 rw [h]
 rfl

end Go.Proofs.YtabiopkjeodamaaDoor.rd
namespace Go.Proofs.YtabiopkjeodamaaDoor.rd
open Go.ChangeShapes Go.WideShapes Go.ChangeAt Go.RowKit
open sl (hide unhide grown_refl grown_trans)
set_option linter.unusedVariables false

theorem infoS : (Tryd.prog.info? 9).map (fun i => (i.zero, i.size, i.bytes)) = some (some (.string ⟨#[]⟩), 1, 16) := by kernel_rfl
def strs (D : List ByteArray) : List Value := D.map Value.string
def MadeS (w w1 : World) (v : Value) (D : List ByteArray) : Prop := w1.ownsRow w.heap.size 9 1 v D.length (strs D) ∧ w.grownBy w1 none
theorem strs_oneCell (D : List ByteArray) : ∀ u ∈ strs D, u.oneCell' = true := by
 intro u hu
 obtain ⟨_, _, rfl⟩ := List.mem_map.1 hu
 rfl
theorem appendS {ops : Array Oper} {rest : List Oper} {o : Oper} {a : Act} {Q : Exit → Act → World → Prop} {w wr : World} {v : Value} {D : List ByteArray} {y : ByteArray}
  (hm : MadeS w wr v D) (hM : D.length ≤ 4194304) (hgd : o.guard = none) (s x : Operand)
  (ho : o.op = .call { callee := .builtin .append, args := #[s, x], argTypes := #[57, 57] }) (hs : a.eval s = v) (hx : a.eval x = .slice (some ⟨wr.heap.size, 0, none⟩) 1 1)
  (h : ∀ v' w1, MadeS w w1 v' (D ++ [y]) → wpList Tryd.prog ops Q rest (a.put o.dst v') w1) :
  wpList Tryd.prog ops Q (o :: rest) a (wr.alloc (.cells #[.string y] 9)) := by
 obtain ⟨i0, hi, hz0, hz1, hz2⟩ := info_parts infoS
 obtain ⟨hown, hg⟩ := hm
 have hsz := hg.size
 refine wpList_append_own _ hgd s x 57 ho w.heap.size 9 i0 (.string ⟨#[]⟩) 1 16 Tryd.underlying57 hi hz0 hz1 hz2 rfl (by decide) v D.length (strs D) hs (hown.alloc _) ⟨wr.heap.size, 0, none⟩ 1 1 [.string y] hx rfl ?_ ?_ ?_ ?_ ?_ ?_
 ·intro j u hj
  match j, hj with
  | 0, hj => simp at hj; subst hj; simp [Addr.add]
 ·intro u hu
  simp at hu
  subst hu
  rfl
 ·unfold maxLen
  omega
 ·omega
 ·simp
  omega
 ·intro v' w1 hown' hgrow _
  refine h v' w1 ⟨?_, ⟨hgrow.os.trans hg.os, hgrow.tape.trans hg.tape, hgrow.output.trans hg.output, ?_, fun k hk _ => ?_⟩⟩
  ·have e1 : (D ++ [y]).length = D.length + 1 := by simp
   have e2 : strs (D ++ [y]) = strs D ++ [.string y] := by simp [strs]
   rw [e1, e2]
   exact hown'
  ·have h1 := hgrow.size
   simp at h1
   omega
  ·rw [hgrow.block k (by simp; omega) (fun e => by have := (hown.lt k e.symm).1; omega), Below.heap_alloc _ _ _ (by omega)]
   exact hg.block k hk (fun e => by cases e)

def MidS (s : ByteArray) (k f : Nat) (D : List ByteArray) : Prop := D.map bytes = (scan ([], []) ((bytes s).take k)).1 ∧ ((bytes s).take k).drop f = (scan ([], []) ((bytes s).take k)).2 ∧ f ≤ k ∧ D.length ≤ k
theorem midS_blank {s : ByteArray} {k f : Nat} {D : List ByteArray} (h : MidS s k f D) (hk : k < s.size) (hb : s[k] = 32) : MidS s (k + 1) (k + 1) (D ++ [s.extract f k]) := by
 obtain ⟨h1, h2, h3, h4⟩ := h
 have e : scan ([], []) ((bytes s).take (k + 1)) = ((scan ([], []) ((bytes s).take k)).1 ++ [(scan ([], []) ((bytes s).take k)).2], []) := by
  rw [bytes_take s k hk, scan_append, hb]
  rfl
 refine ⟨?_, ?_, Nat.le_refl _, by simp; omega⟩
 ·rw [e, List.map_append, h1, List.map_cons, List.map_nil, bytes_extract, h2]
 ·rw [e]
  exact List.drop_eq_nil_of_le (by rw [List.length_take]; omega)
theorem midS_other {s : ByteArray} {k f : Nat} {D : List ByteArray} (h : MidS s k f D) (hk : k < s.size) (hb : ¬ s[k] = 32) : MidS s (k + 1) f D := by
 obtain ⟨h1, h2, h3, h4⟩ := h
 have e : scan ([], []) ((bytes s).take (k + 1)) = ((scan ([], []) ((bytes s).take k)).1, (scan ([], []) ((bytes s).take k)).2 ++ [s[k]]) := by
  rw [bytes_take s k hk, scan_append]
  show (if s[k] = 32 then _ else _) = _
  rw [if_neg hb]
 refine ⟨by rw [e]; exact h1, ?_, by omega, by omega⟩
 rw [e, bytes_take s k hk, List.drop_append_of_le_length (by rw [List.length_take, bytes_len]; omega), h2]
theorem midS_end {s : ByteArray} {k f : Nat} {D : List ByteArray} (h : MidS s k f D) (hk : ¬ k < s.size) : (D ++ [s.extract f s.size]).map bytes = words (bytes s) ∧ (D ++ [s.extract f s.size]).length ≤ k + 1 := by
 obtain ⟨h1, h2, h3, h4⟩ := h
 have e : (bytes s).take k = bytes s := List.take_of_length_le (by rw [bytes_len]; omega)
 rw [e] at h1 h2
 refine ⟨?_, by simp; omega⟩
 unfold words
 rw [List.map_append, h1, List.map_cons, List.map_nil, bytes_extract, List.take_of_length_le (by rw [bytes_len]; exact Nat.le_refl _), h2]
theorem byte32 (c : UInt8) : ((c.toNat : Int) == 32) = decide (c = 32) := by
 rw [Bool.eq_iff_iff, beq_iff_eq, decide_eq_true_iff]
 constructor
 ·intro h
  apply UInt8.toNat_inj.1
  show c.toNat = 32
  omega
 ·intro h
  rw [h]
  rfl

set_option maxHeartbeats 800000 in
set_option maxRecDepth 100000 in
theorem l01Words (s : ByteArray) (w : World) (hmax : s.size ≤ 1048576) :
  Calls Tryd.prog 39 #[.string s] w fun e w' => ∃ u D, e = .returned u ∧ MadeS w w' u D ∧ D.map bytes = words (bytes s) ∧ D.length ≤ 1048577 := by
 have START : MadeS w (w.alloc (.cells #[] 9)) (.slice (some ⟨w.heap.size, 0, none⟩) 0 0) [] :=
  ⟨World.ownsRow_lit w #[] 0 (Nat.le_refl _) (Nat.zero_le _) rfl, World.grownBy_alloc _ _ _⟩
 go_enter Tryd.func39, Tryd.ntmps39
 go_wp2
 go_loopw [3, 4, 5] (fun u f i wr => ∃ (k q : Nat) (D : List ByteArray), k ≤ s.size ∧ i = .int .i64 k ∧ f = .int .i64 q ∧ q ≤ k ∧ D.length ≤ k ∧ MidS s k q D ∧ MadeS w wr u D) (fun _ _ i _ => s.size - (intOf i).toNat)
 case atStart => exact ⟨0, 0, [], Nat.zero_le _, rfl, rfl, Nat.le_refl _, Nat.le_refl _, ⟨rfl, rfl, Nat.le_refl _, Nat.le_refl _⟩, START⟩
 case round =>
  obtain ⟨k, q, D, hk, rfl, rfl, hqk, hDk, hm, hmade⟩ := hrel
  clear START
  by_cases hlt : k < s.size
  ·have hi' : (k : Int) < (s.size : Int) := by omega
   have hb := byte32 s[k]
   by_cases h32 : s[k] = 32
   ·rw [decide_eq_true h32] at hb
    have M := midS_blank hm hlt h32
    clear hm h32
    go_wp2_with (at_builtin; refine appendS hmade (by omega) rfl _ _ rfl rfl rfl ?_)
    intro v' w1 R
    clear hmade
    go_wp2
    go_roundw
    case rel => exact ⟨k + 1, k + 1, _, by omega, by go_num, by go_num, Nat.le_refl _, by simp; omega, M, R⟩
    case measure => simp [intOf]; omega
   ·rw [decide_eq_false h32] at hb
    have M := midS_other hm hlt h32
    clear hm h32
    go_wp2
    go_roundw
    case rel => exact ⟨k + 1, q, D, by omega, by go_num, rfl, by omega, by omega, M, hmade⟩
    case measure => simp [intOf]; omega
  ·have hi' : ¬ (k : Int) < (s.size : Int) := by omega
   have E := midS_end hm hlt
   have hkk : k ≤ 1048576 := by omega
   clear hm
   go_wp2_with (at_builtin; refine appendS hmade (by omega) rfl _ _ rfl rfl rfl ?_)
   intro v' w1 R
   clear hmade
   go_wp2
   go_ret
   exact ⟨_, _, rfl, R, E.1, by have := E.2; omega⟩
end Go.Proofs.YtabiopkjeodamaaDoor.rd
namespace Go.Proofs.YtabiopkjeodamaaDoor.rd
set_option linter.unusedVariables false
theorem scan_len (B : Nat) (l : List UInt8) (st : List (List UInt8) × List UInt8) (h1 : ∀ x ∈ st.1, x.length ≤ B) (h2 : st.2.length + l.length ≤ B) : (∀ x ∈ (scan st l).1, x.length ≤ B) ∧ (scan st l).2.length ≤ B := by
 induction l generalizing st with
 | nil => exact ⟨h1, by show st.2.length ≤ B; simpa using h2⟩
 | cons c l ih =>
  have e : scan st (c :: l) = scan (if c = 32 then (st.1 ++ [st.2], []) else (st.1, st.2 ++ [c])) l := rfl
  rw [e]
  rw [List.length_cons] at h2
  split
  ·refine ih _ ?_ (by simp; omega)
   intro x hx
   rcases List.mem_append.1 hx with hx | hx
   ·exact h1 x hx
   ·rw [List.mem_singleton] at hx
    rw [hx]
    omega
  ·exact ih _ h1 (by simp; omega)
theorem words_len (l : List UInt8) : ∀ x ∈ words l, x.length ≤ l.length := by
 have h := scan_len l.length l ([], []) (by simp) (by simp)
 intro x hx
 unfold words at hx
 rcases List.mem_append.1 hx with hx | hx
 ·exact h.1 x hx
 ·rw [List.mem_singleton] at hx
  rw [hx]
  exact h.2
theorem words_pos (l : List UInt8) : 1 ≤ (words l).length := by unfold words; simp
end Go.Proofs.YtabiopkjeodamaaDoor.rd
namespace Go.Proofs.YtabiopkjeodamaaDoor.ln
open rd (words scan)
set_option linter.unusedVariables false
theorem scan_front (d : List (List UInt8)) (p l : List UInt8) : scan (d, p) l = (d ++ (scan ([], p) l).1, (scan ([], p) l).2) := by
 induction l generalizing d p with
 | nil => simp [scan]
 | cons c l ih =>
  by_cases h : c = 32
  ·have e : ∀ d, scan (d, p) (c :: l) = scan (d ++ [p], []) l := fun d => by
    show scan (if c = 32 then _ else _) l = _
    rw [if_pos h]
   rw [e, e, ih, List.nil_append, ih [p]]
   simp
  ·have e : ∀ d, scan (d, p) (c :: l) = scan (d, p ++ [c]) l := fun d => by
    show scan (if c = 32 then _ else _) l = _
    rw [if_neg h]
   rw [e, e, ih]
theorem words_plain {s : List UInt8} (h : (32 : UInt8) ∉ s) : words s = [s] := by
 unfold words
 rw [rd.scan_plain _ _ h]
 rfl
theorem words_cons {a : List UInt8} (r : List UInt8) (h : (32 : UInt8) ∉ a) : words (a ++ 32 :: r) = a :: words r := by
 unfold words
 rw [rd.scan_word _ _ _ h, scan_front]
 simp
theorem split_words (s : List UInt8) : Lib.splitK [32] 0 (Lib.count s [32]) s = words s := by
 generalize hn : s.length = n
 induction n using Nat.strongRecOn generalizing s with
 | _ n ih =>
  rcases rd.cut_spec s with ⟨a, r, e, ha, hi⟩ | ⟨h, hi⟩
  ·have hd1 : s.drop (a.length + 1) = r := by rw [e]; simp
   have ht : s.take (a.length + 0) = a := by rw [e]; simp
   rw [Lib.count_hit (by decide) hi]
   show Lib.splitK [32] 0 (1 + Lib.count (s.drop (a.length + 1)) [32]) s = _
   rw [hd1, Nat.add_comm, Lib.splitK, hi, if_neg (by rw [beq_iff_eq]; omega)]
   show s.take (a.length + 0) :: Lib.splitK [32] 0 _ (s.drop (a.length + 1)) = _
   rw [hd1, ht, ih r.length (by rw [← hn, e]; simp; omega) r rfl, e, words_cons r ha]
  ·rw [Lib.count_miss hi, words_plain h]
   rfl
def pieces (s : ByteArray) : List ByteArray := Lib.splitB ⟨#[32]⟩ 0 (Lib.countB s ⟨#[32]⟩) s
theorem pieces_words (s : ByteArray) : (pieces s).map rd.bytes = words (rd.bytes s) := (Lib.splitB_data ⟨#[32]⟩ 0 _ s).trans (split_words _)
/-! ### cutting at the first newline -/
def cutL (s : List UInt8) : List UInt8 × List UInt8 × Bool := Lib.cut s [10]
theorem index_cons (b : UInt8) (l : List UInt8) : Lib.index (b :: l) [10] = if b = 10 then 0 else if Lib.index l [10] = -1 then -1 else Lib.index l [10] + 1 := by
 conv => lhs; unfold Lib.index
 by_cases h : b = 10
 ·rw [if_pos (by simp [h]), if_pos h]
 ·rw [if_neg (by simp; exact fun e => h e.symm), if_neg h]
  simp [beq_iff_eq]
theorem cut_spec (s : List UInt8) : (∃ a r, s = a ++ 10 :: r ∧ (10 : UInt8) ∉ a ∧ Lib.index s [10] = (a.length : Int)) ∨ ((10 : UInt8) ∉ s ∧ Lib.index s [10] = -1) := by
 induction s with
 | nil => exact .inr ⟨by simp, by simp [Lib.index]⟩
 | cons b l ih =>
  rw [index_cons]
  by_cases h : b = 10
  ·exact .inl ⟨[], l, by simp [h], by simp, by simp [h]⟩
  ·rw [if_neg h]
   rcases ih with ⟨a, r, e, ha, hi⟩ | ⟨ha, hi⟩
   ·refine .inl ⟨b :: a, r, by simp [e], ?_, ?_⟩
    ·rw [List.mem_cons, not_or]
     exact ⟨fun e => h e.symm, ha⟩
    ·rw [hi, if_neg (by omega)]
     simp
   ·refine .inr ⟨?_, by rw [hi]; rfl⟩
    rw [List.mem_cons, not_or]
    exact ⟨fun e => h e.symm, ha⟩
end Go.Proofs.YtabiopkjeodamaaDoor.ln
namespace Go.Proofs.YtabiopkjeodamaaDoor.xw
open bset (setOf)
open ok (cnfB)
open css (tot)
open wm (frc)
open fm (freeL)
open sp (negL)
set_option linter.unusedVariables false
theorem wlk_in (n : Int) (LL : List (List Int)) : ∀ (j m : Nat) (d : List Int), m < j → ∀ L ∈ (wlk n LL m d).1, L.length ≤ d.length + m := by
 intro j
 induction j with
 | zero => intro m d h; omega
 | succ j ih =>
  intro m d hm L hL
  cases m with
  | zero => rw [wlk_zero] at hL; cases hL
  | succ m =>
   rw [wlk] at hL
   split at hL
   ·rw [List.mem_singleton] at hL
    rw [hL]
    unfold sp.negL
    rw [List.length_map]
    omega
   ·split at hL
    ·cases hL
    ·rename_i x r _
     have len1 : ∀ y : Int, (d ++ [y]).length = d.length + 1 := fun y => by rw [List.length_append]; rfl
     split at hL
     ·cases hL
     ·split at hL
      ·cases hL
      ·rcases List.mem_append.1 hL with q | q
       ·rcases List.mem_append.1 q with q | q
        ·have := ih m (d ++ [-x]) (by omega) L q
         rw [len1] at this
         omega
        ·have := ih (m - (wlk n LL m (d ++ [-x])).1.length) (d ++ [x]) (by omega) L q
         rw [len1] at this
         omega
       ·rw [List.mem_singleton] at q
        rw [q]
        unfold sp.negL
        rw [List.length_map]
        omega
theorem sum_bd {k : Nat} : ∀ {C : List (List Int)}, (∀ L ∈ C, L.length ≤ k) → (C.map List.length).sum ≤ k * C.length
 | [], _ => Nat.zero_le _
 | L :: C, h => by
  have h1 := h L List.mem_cons_self
  have h2 := sum_bd (C := C) (fun M hM => h M (List.mem_cons_of_mem _ hM))
  rw [List.map_cons, List.sum_cons, List.length_cons, Nat.mul_succ]
  omega
theorem wlk_bd (n : Int) (LL : List (List Int)) : tot (if cnfB n LL then wlk n LL 700 [] else ([], false)).1 ≤ 500000 := by
 split
 ·have h1 := len_le n LL 700 []
  have h2 := sum_bd (k := 700) (C := (wlk n LL 700 []).1) (fun L hL => by
   have := wlk_in n LL 701 700 [] (by decide) L hL
   simpa using this)
  have h3 : 700 * (wlk n LL 700 []).1.length ≤ 700 * 700 := Nat.mul_le_mul_left _ h1
  unfold css.tot
  omega
 ·decide
end Go.Proofs.YtabiopkjeodamaaDoor.xw
namespace Go.Proofs.YtabiopkjeodamaaDoor.yb
open Go.ChangeShapes Go.WideShapes Go.ChangeAt Go.RowKit
open sl (hide unhide ret_int ret_bool grown_refl grown_trans grown_drewN)
set_option linter.unusedVariables false
def Box4 (t : TypeId) (w : World) (c : Nat) (a b p x : Value) : Prop := w.heap[c]? = some (.cells #[a, b, p, x] t (0, 0))
theorem Box4.c0 {t : TypeId} {w : World} {c : Nat} {a b p x : Value} (h : Box4 t w c a b p x) : w.cell? ⟨c, 0, none⟩ = some a := by
 unfold Box4 at h
 simp [World.cell?, h]
theorem Box4.c1 {t : TypeId} {w : World} {c : Nat} {a b p x : Value} (h : Box4 t w c a b p x) : w.cell? ⟨c, 1, none⟩ = some b := by
 unfold Box4 at h
 simp [World.cell?, h]
theorem Box4.c2 {t : TypeId} {w : World} {c : Nat} {a b p x : Value} (h : Box4 t w c a b p x) : w.cell? ⟨c, 2, none⟩ = some p := by
 unfold Box4 at h
 simp [World.cell?, h]
theorem Box4.c3 {t : TypeId} {w : World} {c : Nat} {a b p x : Value} (h : Box4 t w c a b p x) : w.cell? ⟨c, 3, none⟩ = some x := by
 unfold Box4 at h
 simp [World.cell?, h]
theorem Box4.f {t : TypeId} {w : World} {c : Nat} {a b p x : Value} (h : Box4 t w c a b p x) (i : Nat) : w.frozen? ⟨c, i, none⟩ = false := by
 unfold Box4 at h
 simp [World.frozen?, h]
theorem Box4.lt {t : TypeId} {w : World} {c : Nat} {a b p x : Value} (h : Box4 t w c a b p x) : c < w.heap.size := (Array.getElem?_eq_some_iff.1 h).1
theorem Box4.by {t : TypeId} {w w' : World} {c : Nat} {a b p x : Value} {r : Option Nat} (h : Box4 t w c a b p x) (g : w.grownBy w' r) (hr : r ≠ some c) : Box4 t w' c a b p x := by
 unfold Box4
 rw [g.block c h.lt (fun e => hr e.symm)]
 exact h
theorem Box4.kept {t : TypeId} {w w' : World} {c : Nat} {a b p x : Value} (h : Box4 t w c a b p x) (g : w.grownBy w' none) : Box4 t w' c a b p x := h.by g (fun e => by cases e)
theorem Box4.new (t : TypeId) (w : World) (a b p x : Value) : Box4 t (w.alloc (.cells #[a, b, p, x] t)) w.heap.size a b p x := by
 show (w.heap.push _)[w.heap.size]? = _
 simp
theorem Box4.set0 {t : TypeId} {w : World} {c : Nat} {a b p x : Value} (h : Box4 t w c a b p x) (u : Value) : Box4 t (w.setCell ⟨c, 0, none⟩ u) c u b p x := by
 unfold Box4 at *
 simp [World.setCell, Array.getElem?_modify, h]
theorem Box4.set1 {t : TypeId} {w : World} {c : Nat} {a b p x : Value} (h : Box4 t w c a b p x) (u : Value) : Box4 t (w.setCell ⟨c, 1, none⟩ u) c a u p x := by
 unfold Box4 at *
 simp [World.setCell, Array.getElem?_modify, h]
theorem Box4.set2 {t : TypeId} {w : World} {c : Nat} {a b p x : Value} (h : Box4 t w c a b p x) (u : Value) : Box4 t (w.setCell ⟨c, 2, none⟩ u) c a b u x := by
 unfold Box4 at *
 simp [World.setCell, Array.getElem?_modify, h]
theorem Box4.set3 {t : TypeId} {w : World} {c : Nat} {a b p x : Value} (h : Box4 t w c a b p x) (u : Value) : Box4 t (w.setCell ⟨c, 3, none⟩ u) c a b p u := by
 unfold Box4 at *
 simp [World.setCell, Array.getElem?_modify, h]
theorem Box4.setO {t : TypeId} {w : World} {c d i : Nat} {a b p x u : Value} (h : Box4 t w c a b p x) (hd : d ≠ c) : Box4 t (w.setCell ⟨d, i, none⟩ u) c a b p x :=
 h.by (sl.grown_setCell w d i u) (fun e => hd (by cases e; rfl))
theorem Box4.setA {t : TypeId} {w : World} {c : Nat} {a b p x : Value} (h : Box4 t w c a b p x) (a' b' p' x' : Value) : Box4 t ((((w.setCell ⟨c, 0, none⟩ a').setCell ⟨c, 1, none⟩ b').setCell ⟨c, 2, none⟩ p').setCell ⟨c, 3, none⟩ x') c a' b' p' x' := (((h.set0 a').set1 b').set2 p').set3 x'
theorem size_set (w : World) (a : Addr) (u : Value) : (w.setCell a u).heap.size = w.heap.size := by simp [World.setCell]
theorem grown_set {w w1 : World} {c i : Nat} {u : Value} (g : w.grownBy w1 none) (h : w.heap.size ≤ c) : w.grownBy (w1.setCell ⟨c, i, none⟩ u) none :=
 ⟨g.os, g.tape, g.output, by rw [size_set]; exact g.size, fun k hk _ => (Below.heap_setCell _ _ _ _ (by show k ≠ c; omega)).trans (g.block k hk (fun e => by cases e))⟩
theorem grown_setA {w w1 : World} {c : Nat} {a b p x : Value} (g : w.grownBy w1 none) (h : w.heap.size ≤ c) : w.grownBy ((((w1.setCell ⟨c, 0, none⟩ a).setCell ⟨c, 1, none⟩ b).setCell ⟨c, 2, none⟩ p).setCell ⟨c, 3, none⟩ x) none := grown_set (grown_set (grown_set (grown_set g h) h) h) h
theorem sizeQ : (Tryd.prog.info? 25).map (·.size) = some 4 := by kernel_rfl
theorem ret_box {fn : Func} {p : Tmp} {tmps : Array Value} {w : World} {c : Nat} {a b q x : Value} (h : fn.results = #[.cell p 25]) (hp : tmps.getD p undef = .pointer (some ⟨c, 0, none⟩)) (hb : Box4 25 w c a b q x) :
  (results fn tmps).run Tryd.prog w = .ok (.agg #[a, b, q, x]) w :=
 results_cell_row h tmps w c 25 #[a, b, q, x] (0, 0) _ hp hb Tryd.underlying25 rfl sizeQ
theorem ret_box2 {fn : Func} {p u : Tmp} {tmps : Array Value} {w : World} {c : Nat} {a b q x : Value} (h : fn.results = #[.cell p 25, .tmp u]) (hp : tmps.getD p undef = .pointer (some ⟨c, 0, none⟩)) (hb : Box4 25 w c a b q x) :
  (results fn tmps).run Tryd.prog w = .ok (.tuple #[.agg #[a, b, q, x], tmps.getD u undef]) w := by
 rw [results_cell_tmp h, hp]
 simp only [asAddr, Sem.run_pure, Result.andThen_ok]
 rw [run_loadVar_row w c 25 25 #[a, b, q, x] (0, 0) _ hb Tryd.underlying25 rfl sizeQ]
 rfl
abbrev Cr := ByteArray × Bool × ByteArray × ByteArray
def cellsC : Option Cr → Array Value
 | some c => #[.string c.1, .bool c.2.1, .string c.2.2.1, .string c.2.2.2]
 | none => #[.string ⟨#[]⟩, .bool false, .string ⟨#[]⟩, .string ⟨#[]⟩]
def CertE (w : World) (O : Option Cr) (e : Ending) (w' : World) : Prop := e = .returned (.tuple #[.agg (cellsC O), .bool O.isSome]) ∧ w.grownBy w' none
theorem wrap_in {x : Int} (h1 : -9223372036854775808 ≤ x) (h2 : x < 9223372036854775808) : IntKind.i64.wrap x = x := by
 rw [IntKind.wrap_i64]
 omega
end Go.Proofs.YtabiopkjeodamaaDoor.yb
namespace Go.Proofs.YtabiopkjeodamaaDoor.da
open Go.ChangeShapes Go.WideShapes Go.ChangeAt Go.RowKit
open srt (Tab)
open css (tot Sls OwnS)
open cf (Box)
open txt (Pow)
open dec (str)
open cx (cnfT whole)
open cso (srtN srtB srtR srt_tot)
open zo (sumT)
open zk (TabK TabS)
open sl (hide unhide grown_refl grown_trans)
set_option linter.unusedVariables false
def txtL (n : Int) (LL : List (List Int)) : List UInt8 := cnfT (srtN n LL) (srtR n LL)
def digT (n : Int) (LL : List (List Int)) : List UInt8 := if srtB n LL && !(txtL n LL).isEmpty then sumT ⟨(txtL n LL).toArray⟩ else []
theorem txt_len (n : Int) (LL : List (List Int)) : (txtL n LL).length ≤ 12000 := by
 unfold txtL cx.cnfT
 split
 ·rename_i h
  rw [Bool.and_eq_true, decide_eq_true_iff] at h
  exact h.2
 ·exact Nat.zero_le _
theorem empty_list (l : List UInt8) : ((⟨l.toArray⟩ : ByteArray).toList == []) = l.isEmpty := by
 have e : (⟨l.toArray⟩ : ByteArray).toList = l := by
  rw [ByteArray.toList_eq]
 rw [e]
 cases l <;> rfl
set_option maxRecDepth 100000 in
set_option maxHeartbeats 4000000 in
theorem specDigest (v : Value) (n : Int) (LL : List (List Int)) (w : World) (hn : tot LL ≤ 1048576) (hv : Sls w v LL) :
  Calls Tryd.prog 27 #[.agg #[.int .i64 n, v]] w fun e w' => e = .returned (str (digT n LL)) ∧ w.grownBy w' none := by
 have g0 := World.grownBy_alloc w (.cells #[.int .i64 n, v] 47) none
 have F0 := hide (Box.new 47 w (.int .i64 n) v)
 have CS := hide (cso.specCnfSort v n LL _ hn (hv.kept g0))
 have CT := hide (fun u w1 (g : w.grownBy w1 none) (h : Sls w1 u (srtR n LL)) => cx.specCnfText u (srtN n LL) (srtR n LL) w1 (Nat.le_trans (srt_tot n LL) (by decide)) h)
 have CM := hide (fun w1 (g : w.grownBy w1 none) => zp.specSum ⟨(txtL n LL).toArray⟩ w1 (by have := txt_len n LL; show (txtL n LL).toArray.size ≤ _; rw [List.size_toArray]; omega))
 have hE : (digT n LL = if srtB n LL && !(txtL n LL).isEmpty then sumT ⟨(txtL n LL).toArray⟩ else []) := rfl
 have hem := empty_list (txtL n LL)
 have G0 := hide g0
 have x0 := (unhide F0).c0
 have x1 := (unhide F0).c1
 change Hid (∀ u w1, w.grownBy w1 none → Sls w1 u (srtR n LL) → Calls Tryd.prog 57 #[.agg #[.int .i64 (srtN n LL), u]] w1 fun e w' => e = .returned (.string ⟨(txtL n LL).toArray⟩) ∧ w1.grownBy w' none) at CT
 clear hv g0
 generalize srtN n LL = NN at *
 generalize srtB n LL = bb at *
 generalize srtR n LL = RR at *
 generalize (⟨(txtL n LL).toArray⟩ : ByteArray) = BS at *
 generalize sumT BS = SS at *
 generalize txtL n LL = TT at *
 generalize digT n LL = DD at *
 have HE := hide hE
 clear hE
 cases bb
 ·have E0 : Hid (DD = []) := (unhide HE).trans rfl
  clear HE CM hem
  go_enter Tryd.func27, Tryd.ntmps27
  go_wp2_with fail
  refine (unhide CS).mono ?_; rintro e w2 ⟨u2, rfl, o2, g2⟩
  have GZ := grown_trans (r := none) (unhide G0) g2
  obtain ⟨ua, uc, rfl⟩ := o2.len
  have ga := World.grownBy_alloc w2 (.cells #[.int .i64 NN, .slice ua RR.length uc] 47) none
  have C2 := hide (unhide CT _ _ (grown_trans (r := none) GZ ga) (o2.kept ga).sls)
  have G2 := hide (grown_trans (r := none) GZ ga)
  clear o2 g2 ga GZ CT CS x0 x1
  go_wp2_with fail
  refine (unhide C2).mono ?_; rintro e w3 ⟨rfl, g3⟩
  have G3 := hide (grown_trans (r := none) (unhide G2) g3)
  clear g3 C2
  go_wp2_with fail
  go_ret
  exact ⟨by rw [unhide E0]; rfl, unhide G3⟩
 ·cases hT0 : TT.isEmpty
  ·have E0 : Hid (DD = SS) := by show _ = _; rw [unhide HE, hT0]; rfl
   rw [hT0] at hem
   clear HE hT0
   go_enter Tryd.func27, Tryd.ntmps27
   go_wp2_with fail
   refine (unhide CS).mono ?_; rintro e w2 ⟨u2, rfl, o2, g2⟩
   have GZ := grown_trans (r := none) (unhide G0) g2
   obtain ⟨ua, uc, rfl⟩ := o2.len
   have ga := World.grownBy_alloc w2 (.cells #[.int .i64 NN, .slice ua RR.length uc] 47) none
   have C2 := hide (unhide CT _ _ (grown_trans (r := none) GZ ga) (o2.kept ga).sls)
   have G2 := hide (grown_trans (r := none) GZ ga)
   clear o2 g2 ga GZ CT CS x0 x1
   go_wp2_with fail
   refine (unhide C2).mono ?_; rintro e w3 ⟨rfl, g3⟩
   have G3 := hide (grown_trans (r := none) (unhide G2) g3)
   clear g3 C2
   go_wp2_with fail
   refine (unhide CM w3 (unhide G3)).mono ?_; rintro e w4 ⟨rfl, g4⟩
   have G4 := hide (grown_trans (r := none) (unhide G3) g4)
   clear g4 CM
   go_wp2_with fail
   go_ret
   exact ⟨by rw [unhide E0]; rfl, unhide G4⟩
  ·have E0 : Hid (DD = []) := by show _ = _; rw [unhide HE, hT0]; rfl
   rw [hT0] at hem
   clear HE hT0 CM
   go_enter Tryd.func27, Tryd.ntmps27
   go_wp2_with fail
   refine (unhide CS).mono ?_; rintro e w2 ⟨u2, rfl, o2, g2⟩
   have GZ := grown_trans (r := none) (unhide G0) g2
   obtain ⟨ua, uc, rfl⟩ := o2.len
   have ga := World.grownBy_alloc w2 (.cells #[.int .i64 NN, .slice ua RR.length uc] 47) none
   have C2 := hide (unhide CT _ _ (grown_trans (r := none) GZ ga) (o2.kept ga).sls)
   have G2 := hide (grown_trans (r := none) GZ ga)
   clear o2 g2 ga GZ CT CS x0 x1
   go_wp2_with fail
   refine (unhide C2).mono ?_; rintro e w3 ⟨rfl, g3⟩
   have G3 := hide (grown_trans (r := none) (unhide G2) g3)
   clear g3 C2
   go_wp2_with fail
   go_ret
   exact ⟨by rw [unhide E0]; rfl, unhide G3⟩
set_option maxRecDepth 100000 in
set_option maxHeartbeats 4000000 in
theorem implDigest (v : Value) (n : Int) (LL : List (List Int)) (w : World) (hT : Tab w) (hP : Pow w) (hK : TabK w) (hS : TabS w) (hn : tot LL ≤ 1048576) (hv : Sls w v LL) :
  Calls Tryd.prog 29 #[.agg #[.int .i64 n, v]] w fun e w' => e = .returned (str (digT n LL)) ∧ w.grownBy w' none := by
 have g0 := World.grownBy_alloc w (.cells #[.int .i64 n, v] 47) none
 have F0 := hide (Box.new 47 w (.int .i64 n) v)
 have CS := hide (cso.implCnfSort v n LL _ (hT.kept g0) hn (hv.kept g0))
 have CT := hide (fun u w1 (g : w.grownBy w1 none) (h : Sls w1 u (srtR n LL)) => cx.implCnfText u (srtN n LL) (srtR n LL) w1 (hP.kept g) (Nat.le_trans (srt_tot n LL) (by decide)) h)
 have CM := hide (fun w1 (g : w.grownBy w1 none) => zo.implSum ⟨(txtL n LL).toArray⟩ w1 (by have := txt_len n LL; show (txtL n LL).toArray.size ≤ _; rw [List.size_toArray]; omega) (hK.kept g) (hS.kept g))
 have hE : (digT n LL = if srtB n LL && !(txtL n LL).isEmpty then sumT ⟨(txtL n LL).toArray⟩ else []) := rfl
 have hem := empty_list (txtL n LL)
 have G0 := hide g0
 have x0 := (unhide F0).c0
 have x1 := (unhide F0).c1
 change Hid (∀ u w1, w.grownBy w1 none → Sls w1 u (srtR n LL) → Calls Tryd.prog 60 #[.agg #[.int .i64 (srtN n LL), u]] w1 fun e w' => e = .returned (.string ⟨(txtL n LL).toArray⟩) ∧ w1.grownBy w' none) at CT
 clear hv g0 hT hP hK hS
 generalize srtN n LL = NN at *
 generalize srtB n LL = bb at *
 generalize srtR n LL = RR at *
 generalize (⟨(txtL n LL).toArray⟩ : ByteArray) = BS at *
 generalize sumT BS = SS at *
 generalize txtL n LL = TT at *
 generalize digT n LL = DD at *
 have HE := hide hE
 clear hE
 cases bb
 ·have E0 : Hid (DD = []) := (unhide HE).trans rfl
  clear HE CM hem
  go_enter Tryd.func29, Tryd.ntmps29
  go_wp2_with fail
  refine (unhide CS).mono ?_; rintro e w2 ⟨u2, rfl, o2, g2⟩
  have GZ := grown_trans (r := none) (unhide G0) g2
  obtain ⟨ua, uc, rfl⟩ := o2.len
  have ga := World.grownBy_alloc w2 (.cells #[.int .i64 NN, .slice ua RR.length uc] 47) none
  have C2 := hide (unhide CT _ _ (grown_trans (r := none) GZ ga) (o2.kept ga).sls)
  have G2 := hide (grown_trans (r := none) GZ ga)
  clear o2 g2 ga GZ CT CS x0 x1
  go_wp2_with fail
  refine (unhide C2).mono ?_; rintro e w3 ⟨rfl, g3⟩
  have G3 := hide (grown_trans (r := none) (unhide G2) g3)
  clear g3 C2
  go_wp2_with fail
  go_ret
  exact ⟨by rw [unhide E0]; rfl, unhide G3⟩
 ·cases hT0 : TT.isEmpty
  ·have E0 : Hid (DD = SS) := by show _ = _; rw [unhide HE, hT0]; rfl
   rw [hT0] at hem
   clear HE hT0
   go_enter Tryd.func29, Tryd.ntmps29
   go_wp2_with fail
   refine (unhide CS).mono ?_; rintro e w2 ⟨u2, rfl, o2, g2⟩
   have GZ := grown_trans (r := none) (unhide G0) g2
   obtain ⟨ua, uc, rfl⟩ := o2.len
   have ga := World.grownBy_alloc w2 (.cells #[.int .i64 NN, .slice ua RR.length uc] 47) none
   have C2 := hide (unhide CT _ _ (grown_trans (r := none) GZ ga) (o2.kept ga).sls)
   have G2 := hide (grown_trans (r := none) GZ ga)
   clear o2 g2 ga GZ CT CS x0 x1
   go_wp2_with fail
   refine (unhide C2).mono ?_; rintro e w3 ⟨rfl, g3⟩
   have G3 := hide (grown_trans (r := none) (unhide G2) g3)
   clear g3 C2
   go_wp2_with fail
   refine (unhide CM w3 (unhide G3)).mono ?_; rintro e w4 ⟨rfl, g4⟩
   have G4 := hide (grown_trans (r := none) (unhide G3) g4)
   clear g4 CM
   go_wp2_with fail
   go_ret
   exact ⟨by rw [unhide E0]; rfl, unhide G4⟩
  ·have E0 : Hid (DD = []) := by show _ = _; rw [unhide HE, hT0]; rfl
   rw [hT0] at hem
   clear HE hT0 CM
   go_enter Tryd.func29, Tryd.ntmps29
   go_wp2_with fail
   refine (unhide CS).mono ?_; rintro e w2 ⟨u2, rfl, o2, g2⟩
   have GZ := grown_trans (r := none) (unhide G0) g2
   obtain ⟨ua, uc, rfl⟩ := o2.len
   have ga := World.grownBy_alloc w2 (.cells #[.int .i64 NN, .slice ua RR.length uc] 47) none
   have C2 := hide (unhide CT _ _ (grown_trans (r := none) GZ ga) (o2.kept ga).sls)
   have G2 := hide (grown_trans (r := none) GZ ga)
   clear o2 g2 ga GZ CT CS x0 x1
   go_wp2_with fail
   refine (unhide C2).mono ?_; rintro e w3 ⟨rfl, g3⟩
   have G3 := hide (grown_trans (r := none) (unhide G2) g3)
   clear g3 C2
   go_wp2_with fail
   go_ret
   exact ⟨by rw [unhide E0]; rfl, unhide G3⟩
theorem belowK {w w' : World} (h : TabK w) (b : Below w.heap.size w w') : TabK w' := h.kept (sl.of_below b)
theorem belowS {w w' : World} (h : TabS w) (b : Below w.heap.size w w') : TabS w' := h.kept (sl.of_below b)
theorem bothD (n : Int) (LL : List (List Int)) (hn : tot LL ≤ 1048576) : ∃ s : ByteArray,
  (∀ v w, Sls w v LL → Calls Tryd.prog 27 #[.agg #[.int .i64 n, v]] w fun e w' => e = .returned (.string s) ∧ w.grownBy w' none) ∧
  (∀ v w, Tab w → Pow w → TabK w → TabS w → Sls w v LL → Calls Tryd.prog 29 #[.agg #[.int .i64 n, v]] w fun e w' => e = .returned (.string s) ∧ w.grownBy w' none) :=
 ⟨⟨(digT n LL).toArray⟩, fun v w h => specDigest v n LL w hn h, fun v w a b c d h => implDigest v n LL w a b c d hn h⟩
end Go.Proofs.YtabiopkjeodamaaDoor.da
namespace Go.Proofs.YtabiopkjeodamaaDoor.yg
open Go.ChangeShapes Go.WideShapes Go.ChangeAt Go.RowKit
open sl (hide unhide grown_refl grown_trans grown_drewN)
open yb (Box4)
set_option linter.unusedVariables false
def sgB (d : ByteArray) (sat : Bool) (b : ByteArray) : ByteArray := d ++ (if sat then ⟨#[1]⟩ else ⟨#[0]⟩) ++ b
theorem sg_size (d : ByteArray) (sat : Bool) (b : ByteArray) : (sgB d sat b).size = d.size + 1 + b.size := by
 unfold sgB
 rw [ByteArray.size_append, ByteArray.size_append]
 cases sat <;> rfl
theorem one_back (wr : World) (x : UInt8) (k : Nat) (hk : wr.heap.size = k) : (convert 22 9 (.slice (some ⟨k, 0, none⟩) 1 1)).run Tryd.prog (wr.alloc (.cells #[.int .u8 x.toNat] 5)) = .ok (.string ⟨#[x]⟩) (wr.alloc (.cells #[.int .u8 x.toNat] 5)) := by
 subst hk
 refine run_convert_bytes_back (P := Tryd.prog) _ 22 9 5 ⟨wr.heap.size, 0, none⟩ 1 [x] Tryd.underlying22 Tryd.underlying5 Tryd.underlying9 fun j hj => ze.one_at wr x j _ ?_
 obtain rfl : j = 0 := by simp only [List.length_cons, List.length_nil] at hj; omega
 rfl
set_option maxRecDepth 100000 in
theorem specSigned (d : ByteArray) (sat : Bool) (b m : ByteArray) (w : World) (hd : d.size ≤ 1048576) (hb : b.size ≤ 1048576) :
  Calls Tryd.prog 102 #[.agg #[.string d, .bool sat, .string b, .string m]] w fun e w' => e = .returned (.string (sgB d sat b)) ∧ w.grownBy w' none := by
 have n0 : ¬ 9223372036854775807 < d.size + 1 := by omega
 have n1 : ¬ 9223372036854775807 < d.size + 1 + b.size := by omega
 obtain ⟨W0, hW0⟩ : ∃ W0, W0 = w.alloc (.cells #[.string d, .bool sat, .string b, .string m] 25) := ⟨_, rfl⟩
 have G0 : Hid (w.grownBy W0 none) := by rw [hW0]; exact World.grownBy_alloc w _ none
 have hz : W0.heap.size = w.heap.size + 1 := by rw [hW0, World.size_alloc]
 have c1 := one_back W0 0 (w.heap.size + 1) hz
 have c2 := one_back (W0.alloc (.cells #[.int .u8 (0 : UInt8).toNat] 5)) 1 (w.heap.size + 1 + 1) (by rw [World.size_alloc, hz])
 rw [hW0] at c1 c2
 have G1 : Hid (W0.grownBy (W0.alloc (.cells #[.int .u8 0] 5)) none) := World.grownBy_alloc _ _ none
 have G2 : Hid (W0.grownBy ((W0.alloc (.cells #[.int .u8 0] 5)).alloc (.cells #[.int .u8 1] 5)) none) := grown_trans (World.grownBy_alloc _ _ none) (World.grownBy_alloc _ _ none)
 rw [hW0] at G0 G1 G2
 clear hW0 hz
 unfold sgB
 cases sat
 ·have C1 : (convert 22 9 (.slice (some ⟨w.heap.size + 1, 0, none⟩) 1 1)).run Tryd.prog ((w.alloc (.cells #[.string d, .bool false, .string b, .string m] 25)).alloc (.cells #[.int .u8 0] 5)) = .ok (.string ⟨#[0]⟩) ((w.alloc (.cells #[.string d, .bool false, .string b, .string m] 25)).alloc (.cells #[.int .u8 0] 5)) := c1
  clear c1 c2
  go_enter Tryd.func102, Tryd.ntmps102
  go_wp2
  go_ret
  exact ⟨rfl, grown_trans (r := none) (unhide G0) (unhide G1)⟩
 ·have C1 : (convert 22 9 (.slice (some ⟨w.heap.size + 1, 0, none⟩) 1 1)).run Tryd.prog ((w.alloc (.cells #[.string d, .bool true, .string b, .string m] 25)).alloc (.cells #[.int .u8 0] 5)) = .ok (.string ⟨#[0]⟩) ((w.alloc (.cells #[.string d, .bool true, .string b, .string m] 25)).alloc (.cells #[.int .u8 0] 5)) := c1
  have C2 : (convert 22 9 (.slice (some ⟨w.heap.size + 1 + 1, 0, none⟩) 1 1)).run Tryd.prog (((w.alloc (.cells #[.string d, .bool true, .string b, .string m] 25)).alloc (.cells #[.int .u8 0] 5)).alloc (.cells #[.int .u8 1] 5)) = .ok (.string ⟨#[1]⟩) (((w.alloc (.cells #[.string d, .bool true, .string b, .string m] 25)).alloc (.cells #[.int .u8 0] 5)).alloc (.cells #[.int .u8 1] 5)) := c2
  clear c1 c2
  go_enter Tryd.func102, Tryd.ntmps102
  go_wp2
  go_ret
  exact ⟨rfl, grown_trans (r := none) (unhide G0) (unhide G2)⟩
end Go.Proofs.YtabiopkjeodamaaDoor.yg
namespace Go.Proofs.YtabiopkjeodamaaDoor.yh
open ok (cnfB)
open lq (solveL)
open xw (wlk)
set_option linter.unusedVariables false
def refL (n : Int) (LL : List (List Int)) : List (List Int) × Bool := if cnfB n LL then wlk n LL 700 [] else ([], false)
def fnd (n : Int) (LL : List (List Int)) : (List Int ⊕ List (List Int)) × Bool := match solveL n LL [] with
 | some A => (.inl A, true)
 | none => (.inr (refL n LL).1, (refL n LL).2)
end Go.Proofs.YtabiopkjeodamaaDoor.yh
namespace Go.Proofs.YtabiopkjeodamaaDoor.yi
open lq (solveL)
open as_ (asText)
open pt (prf)
open da (digT)
open zr (macT)
open yb (Cr)
open yg (sgB)
open yh (refL fnd)
open css (tot)
set_option linter.unusedVariables false
theorem solve_len (n : Int) (LL : List (List Int)) (a : List Int) : ((solveL n LL a).getD []).length ≤ 24 := by
 unfold lq.solveL
 split
 ·rename_i h
  rw [Bool.and_eq_true] at h
  obtain ⟨m, rfl, h24⟩ : ∃ m : Nat, n = (m : Int) ∧ m ≤ 24 := by
   have h1 := h.1
   unfold ok.cnfB at h1
   simp only [Bool.and_eq_true, decide_eq_true_iff] at h1
   exact ⟨n.toNat, by omega, by omega⟩
  cases e : lq.lst ((m : Int)).toNat (lq.holds LL a) with
  | none => exact Nat.zero_le _
  | some l =>
   have := (lq.lst_some e).1.1
   show l.length ≤ 24
   omega
 ·exact Nat.zero_le _
def bodyB : List Int ⊕ List (List Int) → ByteArray
 | .inl A => ⟨(asText A).toArray⟩
 | .inr R => ⟨(prf R).toArray⟩
def satB : List Int ⊕ List (List Int) → Bool
 | .inl _ => true
 | .inr _ => false
def markB (key d : ByteArray) (sat : Bool) (b : ByteArray) : ByteArray := ⟨(macT key (sgB d sat b)).toArray⟩
def digB (n : Int) (LL : List (List Int)) : ByteArray := ⟨(digT n LL).toArray⟩
def issO (key : ByteArray) (n : Int) (LL : List (List Int)) : Option Cr :=
 if digT n LL = [] ∨ 64 < key.size ∨ (fnd n LL).2 = false then none
 else some (digB n LL, satB (fnd n LL).1, bodyB (fnd n LL).1, markB key (digB n LL) (satB (fnd n LL).1) (bodyB (fnd n LL).1))
theorem dig_size (n : Int) (LL : List (List Int)) : (digB n LL).size ≤ 1024 := by
 show (digT n LL).toArray.size ≤ _
 rw [List.size_toArray]
 unfold da.digT
 split
 ·exact Nat.le_trans (zr.sumT_len _) (by decide)
 ·exact Nat.zero_le _
theorem body_size (P : List Int ⊕ List (List Int)) : (bodyB P).size ≤ 400000 := by
 cases P with
 | inl A =>
  show (asText A).toArray.size ≤ _
  rw [List.size_toArray]
  unfold as_.asText
  split
  ·exact Nat.le_trans (cx.text_len _) (by decide)
  ·exact Nat.zero_le _
 | inr R =>
  show (prf R).toArray.size ≤ _
  rw [List.size_toArray]
  unfold pt.prf
  split
  ·rename_i h
   rw [Bool.and_eq_true, decide_eq_true_iff] at h
   have := cx.lines_len R
   omega
  ·exact Nat.zero_le _
end Go.Proofs.YtabiopkjeodamaaDoor.yi
namespace Go.Proofs.YtabiopkjeodamaaDoor.yi
open Go.ChangeShapes Go.WideShapes Go.ChangeAt Go.RowKit
open css (tot Sls OwnS)
open cf (Box)
open wo (Made)
open lq (solveL FromE)
open xw (wlk WalkE)
open as_ (asText)
open pt (prf)
open da (digT)
open zr (macT)
open yb (Box4 Cr cellsC CertE)
open yg (sgB)
open yh (refL fnd)
open sl (Sl hide unhide grown_refl grown_trans)
set_option linter.unusedVariables false
set_option maxRecDepth 100000 in
set_option maxHeartbeats 4000000 in
theorem specIssue (key : ByteArray) (v : Value) (n : Int) (LL : List (List Int)) (w : World) (hk : key.size ≤ 1048576) (hn : tot LL ≤ 1048576) (hv : Sls w v LL) :
  Calls Tryd.prog 62 #[.string key, .agg #[.int .i64 n, v]] w fun e w' => CertE w (issO key n LL) e w' := by
 have g0 := grown_trans (r := none) (World.grownBy_alloc w (.cells #[.int .i64 n, v] 47) none) (World.grownBy_alloc _ (.cells #[.string ⟨#[]⟩, .bool false, .string ⟨#[]⟩, .string ⟨#[]⟩] 25) none)
 have F0 := hide ((Box.new 47 w (.int .i64 n) v).kept (World.grownBy_alloc _ (.cells #[.string ⟨#[]⟩, .bool false, .string ⟨#[]⟩, .string ⟨#[]⟩] 25) none))
 have B0 := Box4.new 25 (w.alloc (.cells #[.int .i64 n, v] 47)) (.string ⟨#[]⟩) (.bool false) (.string ⟨#[]⟩) (.string ⟨#[]⟩)
 rw [World.size_alloc] at B0
 have HB0 := hide B0
 have CD := hide (fun w1 (g : w.grownBy w1 none) => da.specDigest v n LL w1 hn (hv.kept g))
 have CS := hide (fun w1 (g : w.grownBy w1 none) => lq.specSolve v n LL w1 hn (hv.kept g))
 have CR := hide (fun w1 (g : w.grownBy w1 none) => xw.specRefute v n LL w1 hn (hv.kept g))
 have G0 := hide g0
 obtain ⟨W0, hW0⟩ : ∃ W0, W0 = (w.alloc (.cells #[.int .i64 n, v] 47)).alloc (.cells #[.string ⟨#[]⟩, .bool false, .string ⟨#[]⟩, .string ⟨#[]⟩] 25) := ⟨_, rfl⟩
 rw [← hW0] at F0 HB0 G0
 have hls := solve_len n LL []
 have hlr := xw.wlk_bd n LL
 have hds := dig_size n LL
 have hem := da.empty_list (digT n LL)
 unfold dec.str at CD
 unfold lq.FromE at CS
 unfold xw.WalkE at CR
 change Hid (∀ w1, w.grownBy w1 none → Calls Tryd.prog 27 #[.agg #[.int .i64 n, v]] w1 fun e w' => e = .returned (.string (digB n LL)) ∧ w1.grownBy w' none) at CD
 change Hid (∀ w1, w.grownBy w1 none → Calls Tryd.prog 101 #[.agg #[.int .i64 n, v]] w1 fun e w' => ∃ r, e = .returned (.tuple #[r, .bool (refL n LL).2]) ∧ OwnS w1.heap.size w'.heap.size w' r (refL n LL).1 ∧ w1.grownBy w' none) at CR
 change tot (refL n LL).1 ≤ 500000 at hlr
 change ((digB n LL).toList == []) = _ at hem
 have HI : issO key n LL = if digT n LL = [] ∨ 64 < key.size ∨ (fnd n LL).2 = false then none
  else some (digB n LL, satB (fnd n LL).1, bodyB (fnd n LL).1, markB key (digB n LL) (satB (fnd n LL).1) (bodyB (fnd n LL).1)) := rfl
 have HF : fnd n LL = match solveL n LL [] with
  | some A => (.inl A, true)
  | none => (.inr (refL n LL).1, (refL n LL).2) := rfl
 generalize issO key n LL = O at *
 generalize digB n LL = D at *
 generalize hdt : digT n LL = DT at *
 generalize fnd n LL = FN at *
 generalize solveL n LL [] = SO at *
 generalize refL n LL = RO at *
 have x0 := (unhide F0).c0
 have x1 := (unhide F0).c1
 clear g0 B0 hdt
 go_enter Tryd.func62, Tryd.ntmps62
 go_upto_region 1 with fail
 rw [← hW0]
 clear hW0
 go_wp2_with fail
 refine (unhide CD W0 (unhide G0)).mono ?_; rintro e w1 ⟨rfl, g1⟩
 have hlt : w.heap.size + 1 < w1.heap.size := Nat.lt_of_lt_of_le (unhide HB0).lt g1.size
 obtain ⟨W1, hW1⟩ : ∃ W1, W1 = w1.alloc (.cells #[.string D, .bool false, .string ⟨#[]⟩, .string ⟨#[]⟩] 25) := ⟨_, rfl⟩
 have ga : w1.grownBy W1 none := by rw [hW1]; exact World.grownBy_alloc w1 _ none
 have C1 : Hid (Box4 25 W1 w1.heap.size (.string D) (.bool false) (.string ⟨#[]⟩) (.string ⟨#[]⟩)) := by rw [hW1]; exact Box4.new 25 w1 _ _ _ _
 have G1 := hide (grown_trans (r := none) (grown_trans (r := none) (unhide G0) g1) ga)
 have F1 := hide (((unhide F0).kept g1).kept ga)
 have B1 := hide (((unhide HB0).kept g1).kept ga)
 have h1 : w.heap.size ≤ w1.heap.size := by omega
 have hne : w1.heap.size ≠ w.heap.size + 1 := by omega
 clear g1 ga G0 F0 HB0 x0 x1 CD
 have HO := hide HI
 have HFN := hide HF
 clear HI HF
 go_upto_region 2 with fail
 rw [← hW1]
 clear hW1
 generalize w1.heap.size = c at *
 have q0 := (unhide C1).c0
 cases hE : DT.isEmpty
 ·rw [hE] at hem
  have hnt : DT ≠ [] := fun e => by rw [e] at hE; cases hE
  have NE := hide hnt
  clear hnt hE
  by_cases h64 : 64 < key.size
  ·have h64' : (64 : Int) < (key.size : Int) := by omega
   have EO : Hid (O = none) := (unhide HO).trans (if_pos (.inr (.inl h64)))
   have B5 := B1
   have G5 := G1
   have p0 := (unhide B5).c0
   have p1 := (unhide B5).c1
   have p2 := (unhide B5).c2
   have p3 := (unhide B5).c3
   have f0 := (unhide B5).f 0
   have f1 := (unhide B5).f 1
   have f2 := (unhide B5).f 2
   have f3 := (unhide B5).f 3
   clear h64 HO HFN NE CS CR B1 G1 F1 C1
   go_wp2_with fail
   (try simp only [Exit.inBlock, Exit.then])
   exact bodyPost_ret (yb.ret_box2 rfl rfl ((unhide B5).setA _ _ _ _)) rfl (by rw [unhide EO]; exact ⟨rfl, yb.grown_setA (unhide G5) (Nat.le_succ _)⟩)
  ·have h64' : ¬ (64 : Int) < (key.size : Int) := by omega
   have H64 := hide h64
   have x0 := (unhide F1).c0
   have x1 := (unhide F1).c1
   clear h64
   cases SO with
   | some A =>
    have hA : A.length ≤ 24 := hls
    have EO := hide ((unhide HO).trans (if_neg (fun h => by rw [unhide HFN] at h; rcases h with h | h | h; exact unhide NE h; exact unhide H64 h; cases h)))
    rw [unhide HFN] at EO
    clear HO HFN NE H64 CR hls hlr
    go_wp2_with fail
    refine (unhide CS W1 (unhide G1)).mono ?_; rintro e w2 ⟨r, rfl, m2⟩
    have m2' : Made W1 w2 r A := m2
    obtain ⟨ra, rc, er, hr⟩ := sl.Sl.of_own m2'.1
    subst er
    have G2 := hide (grown_trans (r := none) (unhide G1) m2'.2)
    have B2 := hide ((unhide B1).kept m2'.2)
    have C2 := hide ((unhide C1).kept m2'.2)
    have SR := hide (sl.Sl.of_own m2'.1)
    have RN : Hid ((Value.slice ra A.length rc).ownBlock ≠ some c) := fun e => by have h1 := (m2'.1.lt c e).1; have h2 := (unhide C1).lt; omega
    clear m2 m2' hr CS G1 B1 C1 F1 x0 x1 q0
    simp only [Option.isSome_some]
    have q1 := (unhide C2).c1
    have qf := (unhide C2).f 1
    obtain ⟨W2, hW2⟩ : ∃ W2, W2 = w2.setCell ⟨c, 1, none⟩ (.bool true) := ⟨_, rfl⟩
    have gs : w2.grownBy W2 (some c) := by rw [hW2]; exact sl.grown_setCell w2 c 1 _
    have CY := hide (as_.specAssignText (.slice ra A.length rc) A W2 (by omega) ((unhide SR).kept gs (.inr (unhide RN))))
    have C2' : Hid (Box4 25 W2 c (.string D) (.bool true) (.string ⟨#[]⟩) (.string ⟨#[]⟩)) := by rw [hW2]; exact (unhide C2).set1 _
    have B2' : Hid (Box4 25 W2 (w.heap.size + 1) (.string ⟨#[]⟩) (.bool false) (.string ⟨#[]⟩) (.string ⟨#[]⟩)) := by rw [hW2]; exact (unhide B2).setO hne
    have G2' : Hid (w.grownBy W2 none) := by rw [hW2]; exact yb.grown_set (unhide G2) h1
    clear gs SR C2 B2 G2
    go_upto_region 7 with fail
    rw [← hW2]
    clear hW2 q1 qf
    go_wp2_with fail
    refine (unhide CY).mono ?_; rintro e w3 ⟨rfl, g3⟩
    unfold dec.str
    have G3 := hide (grown_trans (r := none) (unhide G2') g3)
    have B3 := hide ((unhide B2').kept g3)
    have C3 := hide ((unhide C2').kept g3)
    clear g3 G2' B2' C2' CY
    have hbs : (⟨(asText A).toArray⟩ : ByteArray).size ≤ 400000 := body_size (.inl A)
    have EO' : Hid (O = some (D, true, ⟨(asText A).toArray⟩, markB key D true ⟨(asText A).toArray⟩)) := unhide EO
    generalize (⟨(asText A).toArray⟩ : ByteArray) = bb at *
    have CG := hide (fun w1 => yg.specSigned D true bb ⟨#[]⟩ w1 (by omega) (by omega))
    have hsz : (sgB D true bb).size ≤ 1048576 := by rw [yg.sg_size]; omega
    have CM := hide (fun w1 => zr.specMac key (sgB D true bb) w1 hk hsz)
    unfold dec.str at CM
    change Hid (∀ w1, Calls Tryd.prog 54 #[.string key, .string (sgB D true bb)] w1 fun e w' => e = .returned (.string (markB key D true bb)) ∧ w1.grownBy w' none) at CM
    generalize markB key D true bb = mk at *
    generalize sgB D true bb = sg at *
    clear EO hsz hbs hds hem
    have q2 := (unhide C3).c2
    have qf := (unhide C3).f 2
    obtain ⟨W4, hW4⟩ : ∃ W4, W4 = w3.setCell ⟨c, 2, none⟩ (.string bb) := ⟨_, rfl⟩
    have C4 : Hid (Box4 25 W4 c (.string D) (.bool true) (.string bb) (.string ⟨#[]⟩)) := by rw [hW4]; exact (unhide C3).set2 _
    have B4 : Hid (Box4 25 W4 (w.heap.size + 1) (.string ⟨#[]⟩) (.bool false) (.string ⟨#[]⟩) (.string ⟨#[]⟩)) := by rw [hW4]; exact (unhide B3).setO hne
    have G4 : Hid (w.grownBy W4 none) := by rw [hW4]; exact yb.grown_set (unhide G3) h1
    clear C3 B3 G3
    go_upto_region 12 with fail
    rw [← hW4]
    clear hW4 q2 qf
    have q0 := (unhide C4).c0
    have q1 := (unhide C4).c1
    have q2 := (unhide C4).c2
    have q3 := (unhide C4).c3
    go_wp2_with fail
    refine (unhide CG _).mono ?_; rintro e w5 ⟨rfl, g5⟩
    have G5 := hide (grown_trans (r := none) (unhide G4) g5)
    have B5 := hide ((unhide B4).kept g5)
    have C5 := hide ((unhide C4).kept g5)
    clear g5 G4 B4 C4 CG q0 q1 q2 q3
    go_wp2_with fail
    refine (unhide CM _).mono ?_; rintro e w6 ⟨rfl, g6⟩
    have G6 := hide (grown_trans (r := none) (unhide G5) g6)
    have B6 := hide ((unhide B5).kept g6)
    have C6 := hide ((unhide C5).kept g6)
    clear g6 G5 B5 C5 CM
    have q3 := (unhide C6).c3
    have qf := (unhide C6).f 3
    obtain ⟨W7, hW7⟩ : ∃ W7, W7 = w6.setCell ⟨c, 3, none⟩ (.string mk) := ⟨_, rfl⟩
    have C7 : Hid (Box4 25 W7 c (.string D) (.bool true) (.string bb) (.string mk)) := by rw [hW7]; exact (unhide C6).set3 _
    have B7 : Hid (Box4 25 W7 (w.heap.size + 1) (.string ⟨#[]⟩) (.bool false) (.string ⟨#[]⟩) (.string ⟨#[]⟩)) := by rw [hW7]; exact (unhide B6).setO hne
    have G7 : Hid (w.grownBy W7 none) := by rw [hW7]; exact yb.grown_set (unhide G6) h1
    clear G6 B6 C6
    go_upto_region 13 with fail
    rw [← hW7]
    clear hW7 q3 qf
    have q0 := (unhide C7).c0
    have q1 := (unhide C7).c1
    have q2 := (unhide C7).c2
    have q3 := (unhide C7).c3
    have p0 := (unhide B7).c0
    have p1 := (unhide B7).c1
    have p2 := (unhide B7).c2
    have p3 := (unhide B7).c3
    have f0 := (unhide B7).f 0
    have f1 := (unhide B7).f 1
    have f2 := (unhide B7).f 2
    have f3 := (unhide B7).f 3
    go_wp2_with fail
    (try simp only [Exit.inBlock, Exit.then])
    exact bodyPost_ret (yb.ret_box2 rfl rfl ((unhide B7).setA _ _ _ _)) rfl (by rw [unhide EO']; exact ⟨rfl, yb.grown_setA (unhide G7) (Nat.le_succ _)⟩)
   | none =>
    go_wp2_with fail
    refine (unhide CS W1 (unhide G1)).mono ?_; rintro e w2 ⟨r, rfl, m2⟩
    have m2' : Made W1 w2 r [] := m2
    obtain ⟨ra, rc, er, hr⟩ := sl.Sl.of_own m2'.1
    subst er
    have G2 := hide (grown_trans (r := none) (unhide G1) m2'.2)
    have B2 := hide ((unhide B1).kept m2'.2)
    have C2 := hide ((unhide C1).kept m2'.2)
    have F2 := hide ((unhide F1).kept m2'.2)
    clear m2 m2' hr CS G1 B1 C1 F1 x0 x1 q0 hls
    simp only [Option.isSome_none]
    have x0 := (unhide F2).c0
    have x1 := (unhide F2).c1
    obtain ⟨R, ok⟩ := RO
    have hR : tot R ≤ 500000 := hlr
    clear hlr
    go_wp2_with fail
    refine (unhide CR w2 (unhide G2)).mono ?_; rintro e w3 ⟨r2, rfl, o3, g3⟩
    obtain ⟨pa, pc, rfl⟩ := o3.len
    have G3 := hide (grown_trans (r := none) (unhide G2) g3)
    have B3 := hide ((unhide B2).kept g3)
    have C3 := hide ((unhide C2).kept g3)
    have O3 := hide o3
    clear o3 g3 G2 B2 C2 F2 CR x0 x1
    cases ok
    ·have EO : Hid (O = none) := (unhide HO).trans (if_pos (.inr (.inr (by rw [unhide HFN]))))
     have B5 := B3
     have G5 := G3
     have p0 := (unhide B5).c0
     have p1 := (unhide B5).c1
     have p2 := (unhide B5).c2
     have p3 := (unhide B5).c3
     have f0 := (unhide B5).f 0
     have f1 := (unhide B5).f 1
     have f2 := (unhide B5).f 2
     have f3 := (unhide B5).f 3
     clear H64 HO HFN NE B3 G3 C3 O3
     go_wp2_with fail
     (try simp only [Exit.inBlock, Exit.then])
     exact bodyPost_ret (yb.ret_box2 rfl rfl ((unhide B5).setA _ _ _ _)) rfl (by rw [unhide EO]; exact ⟨rfl, yb.grown_setA (unhide G5) (Nat.le_succ _)⟩)
    ·have EO := hide ((unhide HO).trans (if_neg (fun h => by rw [unhide HFN] at h; rcases h with h | h | h; exact unhide NE h; exact unhide H64 h; cases h)))
     rw [unhide HFN] at EO
     have CY := hide (pt.specProofText (.slice pa R.length pc) R w3 (by omega) (unhide O3).sls)
     clear HO HFN NE H64 O3
     go_wp2_with fail
     refine (unhide CY).mono ?_; rintro e w4 ⟨rfl, g4⟩
     unfold dec.str
     replace G3 := hide (grown_trans (r := none) (unhide G3) g4)
     replace B3 := hide ((unhide B3).kept g4)
     replace C3 := hide ((unhide C3).kept g4)
     clear g4 CY
     have hbs : (⟨(prf R).toArray⟩ : ByteArray).size ≤ 400000 := body_size (.inr R)
     have EO' : Hid (O = some (D, false, ⟨(prf R).toArray⟩, markB key D false ⟨(prf R).toArray⟩)) := unhide EO
     generalize (⟨(prf R).toArray⟩ : ByteArray) = bb at *
     have CG := hide (fun w1 => yg.specSigned D false bb ⟨#[]⟩ w1 (by omega) (by omega))
     have hsz : (sgB D false bb).size ≤ 1048576 := by rw [yg.sg_size]; omega
     have CM := hide (fun w1 => zr.specMac key (sgB D false bb) w1 hk hsz)
     unfold dec.str at CM
     change Hid (∀ w1, Calls Tryd.prog 54 #[.string key, .string (sgB D false bb)] w1 fun e w' => e = .returned (.string (markB key D false bb)) ∧ w1.grownBy w' none) at CM
     generalize markB key D false bb = mk at *
     generalize sgB D false bb = sg at *
     clear EO hsz hbs hds hem
     have q2 := (unhide C3).c2
     have qf := (unhide C3).f 2
     obtain ⟨W4, hW4⟩ : ∃ W4, W4 = w4.setCell ⟨c, 2, none⟩ (.string bb) := ⟨_, rfl⟩
     have C4 : Hid (Box4 25 W4 c (.string D) (.bool false) (.string bb) (.string ⟨#[]⟩)) := by rw [hW4]; exact (unhide C3).set2 _
     have B4 : Hid (Box4 25 W4 (w.heap.size + 1) (.string ⟨#[]⟩) (.bool false) (.string ⟨#[]⟩) (.string ⟨#[]⟩)) := by rw [hW4]; exact (unhide B3).setO hne
     have G4 : Hid (w.grownBy W4 none) := by rw [hW4]; exact yb.grown_set (unhide G3) h1
     clear C3 B3 G3
     go_upto_region 12 with fail
     rw [← hW4]
     clear hW4 q2 qf
     have q0 := (unhide C4).c0
     have q1 := (unhide C4).c1
     have q2 := (unhide C4).c2
     have q3 := (unhide C4).c3
     go_wp2_with fail
     refine (unhide CG _).mono ?_; rintro e w5 ⟨rfl, g5⟩
     have G5 := hide (grown_trans (r := none) (unhide G4) g5)
     have B5 := hide ((unhide B4).kept g5)
     have C5 := hide ((unhide C4).kept g5)
     clear g5 G4 B4 C4 CG q0 q1 q2 q3
     go_wp2_with fail
     refine (unhide CM _).mono ?_; rintro e w6 ⟨rfl, g6⟩
     have G6 := hide (grown_trans (r := none) (unhide G5) g6)
     have B6 := hide ((unhide B5).kept g6)
     have C6 := hide ((unhide C5).kept g6)
     clear g6 G5 B5 C5 CM
     have q3 := (unhide C6).c3
     have qf := (unhide C6).f 3
     obtain ⟨W7, hW7⟩ : ∃ W7, W7 = w6.setCell ⟨c, 3, none⟩ (.string mk) := ⟨_, rfl⟩
     have C7 : Hid (Box4 25 W7 c (.string D) (.bool false) (.string bb) (.string mk)) := by rw [hW7]; exact (unhide C6).set3 _
     have B7 : Hid (Box4 25 W7 (w.heap.size + 1) (.string ⟨#[]⟩) (.bool false) (.string ⟨#[]⟩) (.string ⟨#[]⟩)) := by rw [hW7]; exact (unhide B6).setO hne
     have G7 : Hid (w.grownBy W7 none) := by rw [hW7]; exact yb.grown_set (unhide G6) h1
     clear G6 B6 C6
     go_upto_region 13 with fail
     rw [← hW7]
     clear hW7 q3 qf
     have q0 := (unhide C7).c0
     have q1 := (unhide C7).c1
     have q2 := (unhide C7).c2
     have q3 := (unhide C7).c3
     have p0 := (unhide B7).c0
     have p1 := (unhide B7).c1
     have p2 := (unhide B7).c2
     have p3 := (unhide B7).c3
     have f0 := (unhide B7).f 0
     have f1 := (unhide B7).f 1
     have f2 := (unhide B7).f 2
     have f3 := (unhide B7).f 3
     go_wp2_with fail
     (try simp only [Exit.inBlock, Exit.then])
     exact bodyPost_ret (yb.ret_box2 rfl rfl ((unhide B7).setA _ _ _ _)) rfl (by rw [unhide EO']; exact ⟨rfl, yb.grown_setA (unhide G7) (Nat.le_succ _)⟩)
 ·rw [hE] at hem
  have EO : Hid (O = none) := (unhide HO).trans (if_pos (.inl (List.isEmpty_iff.1 hE)))
  have B5 := B1
  have G5 := G1
  have p0 := (unhide B5).c0
  have p1 := (unhide B5).c1
  have p2 := (unhide B5).c2
  have p3 := (unhide B5).c3
  have f0 := (unhide B5).f 0
  have f1 := (unhide B5).f 1
  have f2 := (unhide B5).f 2
  have f3 := (unhide B5).f 3
  clear hE HO HFN CS CR B1 G1 F1 C1
  go_wp2_with fail
  (try simp only [Exit.inBlock, Exit.then])
  exact bodyPost_ret (yb.ret_box2 rfl rfl ((unhide B5).setA _ _ _ _)) rfl (by rw [unhide EO]; exact ⟨rfl, yb.grown_setA (unhide G5) (Nat.le_succ _)⟩)
end Go.Proofs.YtabiopkjeodamaaDoor.yi
namespace Go.Proofs.YtabiopkjeodamaaDoor.ya
open Go.ChangeShapes Go.WideShapes Go.ChangeAt Go.RowKit
open sl (hide unhide grown_refl grown_trans grown_drewN)
open ze (hexT)
open dec (str)
set_option linter.unusedVariables false
def partB (s : ByteArray) : ByteArray := if s.toList == [] then ⟨#[45]⟩ else ⟨(hexT s).toArray⟩
def wordB (sat : Bool) : ByteArray := if sat then ⟨#[115, 97, 116]⟩ else ⟨#[117, 110, 115, 97, 116]⟩
def certB (d : ByteArray) (sat : Bool) (b m : ByteArray) : ByteArray := partB d ++ ⟨#[32]⟩ ++ wordB sat ++ ⟨#[32]⟩ ++ partB m ++ ⟨#[10]⟩ ++ b
theorem part_size (s : ByteArray) : (partB s).size ≤ 120000 := by
 unfold partB
 split
 ·decide
 ·show (hexT s).toArray.size ≤ _
  rw [List.size_toArray]
  unfold ze.hexT
  split
  ·rw [ze.hexL_length, ze.bts_length]
   omega
  ·exact Nat.zero_le _
theorem implPart (s : ByteArray) (w : World) (hs : s.size ≤ 1048576) :
  Calls Tryd.prog 33 #[.string s] w fun e w' => e = .returned (.string (partB s)) ∧ w.grownBy w' none := by
 have C := hide (zf.implHexText s w hs)
 unfold dec.str at C
 unfold partB
 cases hb : (s.toList == [])
 ·go_enter Tryd.func33, Tryd.ntmps33
  go_wp2_with fail
  refine (unhide C).mono ?_; rintro e w1 ⟨rfl, g1⟩
  go_wp2
  go_ret
  exact ⟨rfl, g1⟩
 ·go_enter Tryd.func33, Tryd.ntmps33
  go_wp2
  go_ret
  exact ⟨rfl, grown_refl _⟩
theorem specPart (s : ByteArray) (w : World) (hs : s.size ≤ 1048576) :
  Calls Tryd.prog 41 #[.string s] w fun e w' => e = .returned (.string (partB s)) ∧ w.grownBy w' none := by
 have C := hide (ze.specHexText s w hs)
 unfold dec.str at C
 unfold partB
 cases hb : (s.toList == [])
 ·go_enter Tryd.func41, Tryd.ntmps41
  go_wp2_with fail
  refine (unhide C).mono ?_; rintro e w1 ⟨rfl, g1⟩
  go_wp2
  go_ret
  exact ⟨rfl, g1⟩
 ·go_enter Tryd.func41, Tryd.ntmps41
  go_wp2
  go_ret
  exact ⟨rfl, grown_refl _⟩
set_option maxRecDepth 100000 in
set_option maxHeartbeats 4000000 in
theorem implCertText (d : ByteArray) (sat : Bool) (b m : ByteArray) (w : World) (hd : d.size ≤ 1048576) (hb : b.size ≤ 1048576) (hm : m.size ≤ 1048576) :
  Calls Tryd.prog 10 #[.agg #[.string d, .bool sat, .string b, .string m]] w fun e w' => e = .returned (.string (certB d sat b m)) ∧ w.grownBy w' none := by
 have g0 := World.grownBy_alloc w (.cells #[.string d, .bool sat, .string b, .string m] 25) none
 have CD := hide (fun w => implPart d w hd)
 have CM := hide (fun w => implPart m w hm)
 have G0 := hide g0
 have GX := hide (grown_drewN (w.alloc (.cells #[.string d, .bool sat, .string b, .string m] 25)) 1)
 have CK : Hid (∀ w', (w.alloc (.cells #[.string d, .bool sat, .string b, .string m] 25)).grownBy w' none → w'.cell? ⟨w.heap.size, 0, none⟩ = some (.string d) ∧ w'.cell? ⟨w.heap.size, 2, none⟩ = some (.string b) ∧ w'.cell? ⟨w.heap.size, 3, none⟩ = some (.string m)) := by
  intro w' g
  refine ⟨g.cell ?_ (fun e => by cases e), g.cell ?_ (fun e => by cases e), g.cell ?_ (fun e => by cases e)⟩
  ·exact ze.cell_new w _ _ 0
  ·exact (congrArg _ (by rw [Addr.add_lit])).trans (ze.cell_new w _ _ 2)
  ·exact (congrArg _ (by rw [Addr.add_lit])).trans (ze.cell_new w _ _ 3)
 have hX := part_size d
 have hY := part_size m
 unfold certB wordB
 generalize partB d = X at *
 generalize partB m = Y at *
 clear g0 hd hm
 cases sat
 ·simp only [Bool.false_eq_true, if_false]
  have n0 : ¬ 9223372036854775807 < X.size + 1 := by omega
  have n1 : ¬ 9223372036854775807 < X.size + 1 + 5 := by omega
  have n2 : ¬ 9223372036854775807 < X.size + 1 + 5 + 1 := by omega
  have n3 : ¬ 9223372036854775807 < X.size + 1 + 5 + 1 + Y.size := by omega
  have n4 : ¬ 9223372036854775807 < X.size + 1 + 5 + 1 + Y.size + 1 := by omega
  have n5 : ¬ 9223372036854775807 < X.size + 1 + 5 + 1 + Y.size + 1 + b.size := by omega
  clear hX hY hb
  go_enter Tryd.func10, Tryd.ntmps10
  go_wp2_with fail
  go_region_held3 (fun w' => w'.cell? ⟨w.heap.size, 0, none⟩ = some (.string d) ∧ w'.cell? ⟨w.heap.size, 2, none⟩ = some (.string b) ∧ w'.cell? ⟨w.heap.size, 3, none⟩ = some (.string m)) (go_keep) (first
   | (go_at_call_of 33 (Value.string d); refine (unhide CD _).mono ?_; rintro e w8 ⟨rfl, g8⟩; replace GX := hide (grown_trans (r := none) (unhide GX) g8); obtain ⟨k0, k2, k3⟩ := unhide CK _ (unhide GX); clear g8)
   | (go_at_call_of 33 (Value.string m); refine (unhide CM _).mono ?_; rintro e w8 ⟨rfl, g8⟩; replace GX := hide (grown_trans (r := none) (unhide GX) g8); obtain ⟨k0, k2, k3⟩ := unhide CK _ (unhide GX); clear g8))
  all_goals
   go_wp2_with fail
   go_ret
   exact ⟨rfl, grown_trans (r := none) (unhide G0) (unhide GX)⟩
 ·simp only [if_true]
  have n0 : ¬ 9223372036854775807 < X.size + 1 := by omega
  have n1 : ¬ 9223372036854775807 < X.size + 1 + 3 := by omega
  have n2 : ¬ 9223372036854775807 < X.size + 1 + 3 + 1 := by omega
  have n3 : ¬ 9223372036854775807 < X.size + 1 + 3 + 1 + Y.size := by omega
  have n4 : ¬ 9223372036854775807 < X.size + 1 + 3 + 1 + Y.size + 1 := by omega
  have n5 : ¬ 9223372036854775807 < X.size + 1 + 3 + 1 + Y.size + 1 + b.size := by omega
  clear hX hY hb
  go_enter Tryd.func10, Tryd.ntmps10
  go_wp2_with fail
  go_region_held3 (fun w' => w'.cell? ⟨w.heap.size, 0, none⟩ = some (.string d) ∧ w'.cell? ⟨w.heap.size, 2, none⟩ = some (.string b) ∧ w'.cell? ⟨w.heap.size, 3, none⟩ = some (.string m)) (go_keep) (first
   | (go_at_call_of 33 (Value.string d); refine (unhide CD _).mono ?_; rintro e w8 ⟨rfl, g8⟩; replace GX := hide (grown_trans (r := none) (unhide GX) g8); obtain ⟨k0, k2, k3⟩ := unhide CK _ (unhide GX); clear g8)
   | (go_at_call_of 33 (Value.string m); refine (unhide CM _).mono ?_; rintro e w8 ⟨rfl, g8⟩; replace GX := hide (grown_trans (r := none) (unhide GX) g8); obtain ⟨k0, k2, k3⟩ := unhide CK _ (unhide GX); clear g8))
  all_goals
   go_wp2_with fail
   go_ret
   exact ⟨rfl, grown_trans (r := none) (unhide G0) (unhide GX)⟩
set_option maxRecDepth 100000 in
set_option maxHeartbeats 4000000 in
theorem specCertText (d : ByteArray) (sat : Bool) (b m : ByteArray) (w : World) (hd : d.size ≤ 1048576) (hb : b.size ≤ 1048576) (hm : m.size ≤ 1048576) :
  Calls Tryd.prog 14 #[.agg #[.string d, .bool sat, .string b, .string m]] w fun e w' => e = .returned (.string (certB d sat b m)) ∧ w.grownBy w' none := by
 have g0 := World.grownBy_alloc w (.cells #[.string d, .bool sat, .string b, .string m] 25) none
 have CD := hide (fun w => specPart d w hd)
 have CM := hide (fun w => specPart m w hm)
 have G0 := hide g0
 have GX := hide (grown_drewN (w.alloc (.cells #[.string d, .bool sat, .string b, .string m] 25)) 1)
 have CK : Hid (∀ w', (w.alloc (.cells #[.string d, .bool sat, .string b, .string m] 25)).grownBy w' none → w'.cell? ⟨w.heap.size, 0, none⟩ = some (.string d) ∧ w'.cell? ⟨w.heap.size, 2, none⟩ = some (.string b) ∧ w'.cell? ⟨w.heap.size, 3, none⟩ = some (.string m)) := by
  intro w' g
  refine ⟨g.cell ?_ (fun e => by cases e), g.cell ?_ (fun e => by cases e), g.cell ?_ (fun e => by cases e)⟩
  ·exact ze.cell_new w _ _ 0
  ·exact (congrArg _ (by rw [Addr.add_lit])).trans (ze.cell_new w _ _ 2)
  ·exact (congrArg _ (by rw [Addr.add_lit])).trans (ze.cell_new w _ _ 3)
 have hX := part_size d
 have hY := part_size m
 unfold certB wordB
 generalize partB d = X at *
 generalize partB m = Y at *
 clear g0 hd hm
 cases sat
 ·simp only [Bool.false_eq_true, if_false]
  have n0 : ¬ 9223372036854775807 < X.size + 1 := by omega
  have n1 : ¬ 9223372036854775807 < X.size + 1 + 5 := by omega
  have n2 : ¬ 9223372036854775807 < X.size + 1 + 5 + 1 := by omega
  have n3 : ¬ 9223372036854775807 < X.size + 1 + 5 + 1 + Y.size := by omega
  have n4 : ¬ 9223372036854775807 < X.size + 1 + 5 + 1 + Y.size + 1 := by omega
  have n5 : ¬ 9223372036854775807 < X.size + 1 + 5 + 1 + Y.size + 1 + b.size := by omega
  clear hX hY hb
  go_enter Tryd.func14, Tryd.ntmps14
  go_wp2_with fail
  go_region_held3 (fun w' => w'.cell? ⟨w.heap.size, 0, none⟩ = some (.string d) ∧ w'.cell? ⟨w.heap.size, 2, none⟩ = some (.string b) ∧ w'.cell? ⟨w.heap.size, 3, none⟩ = some (.string m)) (go_keep) (first
   | (go_at_call_of 41 (Value.string d); refine (unhide CD _).mono ?_; rintro e w8 ⟨rfl, g8⟩; replace GX := hide (grown_trans (r := none) (unhide GX) g8); obtain ⟨k0, k2, k3⟩ := unhide CK _ (unhide GX); clear g8)
   | (go_at_call_of 41 (Value.string m); refine (unhide CM _).mono ?_; rintro e w8 ⟨rfl, g8⟩; replace GX := hide (grown_trans (r := none) (unhide GX) g8); obtain ⟨k0, k2, k3⟩ := unhide CK _ (unhide GX); clear g8))
  all_goals
   go_wp2_with fail
   go_ret
   exact ⟨rfl, grown_trans (r := none) (unhide G0) (unhide GX)⟩
 ·simp only [if_true]
  have n0 : ¬ 9223372036854775807 < X.size + 1 := by omega
  have n1 : ¬ 9223372036854775807 < X.size + 1 + 3 := by omega
  have n2 : ¬ 9223372036854775807 < X.size + 1 + 3 + 1 := by omega
  have n3 : ¬ 9223372036854775807 < X.size + 1 + 3 + 1 + Y.size := by omega
  have n4 : ¬ 9223372036854775807 < X.size + 1 + 3 + 1 + Y.size + 1 := by omega
  have n5 : ¬ 9223372036854775807 < X.size + 1 + 3 + 1 + Y.size + 1 + b.size := by omega
  clear hX hY hb
  go_enter Tryd.func14, Tryd.ntmps14
  go_wp2_with fail
  go_region_held3 (fun w' => w'.cell? ⟨w.heap.size, 0, none⟩ = some (.string d) ∧ w'.cell? ⟨w.heap.size, 2, none⟩ = some (.string b) ∧ w'.cell? ⟨w.heap.size, 3, none⟩ = some (.string m)) (go_keep) (first
   | (go_at_call_of 41 (Value.string d); refine (unhide CD _).mono ?_; rintro e w8 ⟨rfl, g8⟩; replace GX := hide (grown_trans (r := none) (unhide GX) g8); obtain ⟨k0, k2, k3⟩ := unhide CK _ (unhide GX); clear g8)
   | (go_at_call_of 41 (Value.string m); refine (unhide CM _).mono ?_; rintro e w8 ⟨rfl, g8⟩; replace GX := hide (grown_trans (r := none) (unhide GX) g8); obtain ⟨k0, k2, k3⟩ := unhide CK _ (unhide GX); clear g8))
  all_goals
   go_wp2_with fail
   go_ret
   exact ⟨rfl, grown_trans (r := none) (unhide G0) (unhide GX)⟩
end Go.Proofs.YtabiopkjeodamaaDoor.ya
namespace Go.Proofs.YtabiopkjeodamaaDoor.yc
open rd (words)
open ya (partB wordB certB)
open ze (hexT hexL bts dg)
open zg (dv vl hexOk hexB)
open zb (at_)
open yb (Cr)
set_option linter.unusedVariables false
theorem dg_all : ∀ d : Fin 16, dg d.val ≠ 32 ∧ dg d.val ≠ 10 ∧ dv ((dg d.val).toNat : Int) = (d.val : Int) := by decide +kernel
theorem hex_mem : ∀ (l : List UInt8) (c : UInt8), c ∈ hexL l → ∃ d : Fin 16, c = dg d.val
 | [], c, h => by cases h
 | x :: l, c, h => by
  rw [ze.hexL] at h
  rcases List.mem_cons.1 h with h | h
  ·exact ⟨⟨x.toNat / 16, by have := x.toNat_lt; omega⟩, h⟩
  rcases List.mem_cons.1 h with h | h
  ·exact ⟨⟨x.toNat % 16, by omega⟩, h⟩
  ·exact hex_mem l c h
theorem hexL_at : ∀ (l : List UInt8) (j : Nat), j < l.length → (hexL l).getD (2 * j) 0 = dg ((l.getD j 0).toNat / 16) ∧ (hexL l).getD (2 * j + 1) 0 = dg ((l.getD j 0).toNat % 16)
 | [], j, h => by cases h
 | x :: l, 0, h => ⟨rfl, rfl⟩
 | x :: l, j + 1, h => by
  have := hexL_at l j (by rw [List.length_cons] at h; omega)
  rw [ze.hexL, show 2 * (j + 1) = 2 * j + 1 + 1 by omega]
  simpa using this
def tx (l : List UInt8) : ByteArray := ⟨(hexL l).toArray⟩
theorem at_tx (l : List UInt8) (k : Nat) : at_ (tx l) k = (((hexL l).getD k 0).toNat : Int) := rfl
theorem dv_hi (x : UInt8) : dv ((dg (x.toNat / 16)).toNat : Int) = ((x.toNat / 16 : Nat) : Int) := (dg_all ⟨x.toNat / 16, by have := x.toNat_lt; omega⟩).2.2
theorem dv_lo (x : UInt8) : dv ((dg (x.toNat % 16)).toNat : Int) = ((x.toNat % 16 : Nat) : Int) := (dg_all ⟨x.toNat % 16, by omega⟩).2.2
theorem vl_tx (l : List UInt8) : ∀ j, j ≤ l.length → vl (tx l) j = l.take j
 | 0, _ => rfl
 | j + 1, h => by
  have h' := hexL_at l j (by omega)
  rw [zg.vl, vl_tx l j (by omega), at_tx, at_tx, h'.1, h'.2, dv_hi, dv_lo, List.take_succ_eq_append_getElem (by omega)]
  congr 2
  rw [List.getD, List.getElem?_eq_getElem (by omega), Option.getD_some]
  generalize l[j] = x
  have e : (16 * ((x.toNat / 16 : Nat) : Int) + ((x.toNat % 16 : Nat) : Int)).toNat = x.toNat := by omega
  rw [e]
  exact UInt8.ofNat_toNat
theorem size_tx (l : List UInt8) : (tx l).size = 2 * l.length := by
 show (hexL l).toArray.size = _
 rw [List.size_toArray, ze.hexL_length]
theorem good_tx (l : List UInt8) : zg.Good (tx l) (tx l).size := by
 intro k hk
 rw [size_tx] at hk
 rw [at_tx]
 have h := hexL_at l (k / 2) (by omega)
 rcases Nat.mod_two_eq_zero_or_one k with q | q
 ·rw [show k = 2 * (k / 2) by omega, h.1, dv_hi]
  omega
 ·rw [show k = 2 * (k / 2) + 1 by omega, h.2, dv_lo]
  omega
theorem ok_tx {l : List UInt8} (h : l.length ≤ 60000) : hexOk (tx l) = true := zg.hexOk_yes (by rw [size_tx]; omega) (by rw [size_tx]; omega) (good_tx l)
theorem hex_back {l : List UInt8} (h : l.length ≤ 60000) : hexB (tx l) = l := by
 unfold zg.hexB
 rw [if_pos (ok_tx h), size_tx, vl_tx l _ (by omega), List.take_of_length_le (by omega)]
theorem part_none {d : ByteArray} (h : rd.bytes d = []) : partB d = ⟨#[45]⟩ := by
 unfold ya.partB
 rw [if_pos (by rw [rd.toList_bytes, h]; rfl)]
theorem part_some {d : ByteArray} (h : ¬ rd.bytes d = []) (hd : d.size ≤ 60000) : partB d = tx (rd.bytes d) := by
 unfold ya.partB
 rw [if_neg (by rw [rd.toList_bytes, beq_iff_eq]; exact h)]
 unfold ze.hexT
 rw [if_pos hd]
 rfl
theorem part_back {d : ByteArray} (hd : d.size ≤ 60000) : hexB (partB d) = rd.bytes d := by
 by_cases h : rd.bytes d = []
 ·rw [part_none h, h]
  rfl
 ·rw [part_some h hd, hex_back (by rw [rd.bytes_len]; exact hd)]
theorem part_ok {d : ByteArray} (hd : d.size ≤ 60000) : rd.bytes (partB d) = [45] ∨ hexOk (partB d) = true := by
 by_cases h : rd.bytes d = []
 ·rw [part_none h]
  exact .inl rfl
 ·rw [part_some h hd]
  exact .inr (ok_tx (by rw [rd.bytes_len]; exact hd))
theorem part_mem {d : ByteArray} (hd : d.size ≤ 60000) : (32 : UInt8) ∉ rd.bytes (partB d) ∧ (10 : UInt8) ∉ rd.bytes (partB d) := by
 by_cases h : rd.bytes d = []
 ·rw [part_none h]
  decide
 ·rw [part_some h hd]
  constructor
  ·intro q
   obtain ⟨k, e⟩ := hex_mem (rd.bytes d) _ q
   exact (dg_all k).1 e.symm
  ·intro q
   obtain ⟨k, e⟩ := hex_mem (rd.bytes d) _ q
   exact (dg_all k).2.1 e.symm
theorem word_mem (sat : Bool) : (32 : UInt8) ∉ rd.bytes (wordB sat) ∧ (10 : UInt8) ∉ rd.bytes (wordB sat) := by cases sat <;> decide
def hdL (d : ByteArray) (sat : Bool) (m : ByteArray) : List UInt8 := rd.bytes (partB d) ++ 32 :: (rd.bytes (wordB sat) ++ 32 :: rd.bytes (partB m))
theorem bytes_app (a b : ByteArray) : rd.bytes (a ++ b) = rd.bytes a ++ rd.bytes b := by
 unfold rd.bytes
 rw [ByteArray.data_append, Array.toList_append]
theorem cert_bytes (d : ByteArray) (sat : Bool) (b m : ByteArray) : rd.bytes (certB d sat b m) = hdL d sat m ++ 10 :: rd.bytes b := by
 unfold ya.certB hdL
 rw [bytes_app, bytes_app, bytes_app, bytes_app, bytes_app, bytes_app]
 show _ ++ [32] ++ _ ++ [32] ++ _ ++ [10] ++ _ = _
 simp
theorem hd_words {d m : ByteArray} (sat : Bool) (hd : d.size ≤ 60000) (hm : m.size ≤ 60000) : words (hdL d sat m) = [rd.bytes (partB d), rd.bytes (wordB sat), rd.bytes (partB m)] := by
 unfold hdL
 rw [ln.words_cons _ (part_mem hd).1, ln.words_cons _ (word_mem sat).1, ln.words_plain (part_mem hm).1]
theorem hd_line {d m : ByteArray} (sat : Bool) (hd : d.size ≤ 60000) (hm : m.size ≤ 60000) : (10 : UInt8) ∉ hdL d sat m := by
 unfold hdL
 simp only [List.mem_append, List.mem_cons, not_or]
 exact ⟨(part_mem hd).2, by decide, (word_mem sat).2, by decide, (part_mem hm).2⟩
theorem line_unique {a b r t : List UInt8} (ha : (10 : UInt8) ∉ a) (hb : (10 : UInt8) ∉ b) (h : a ++ 10 :: r = b ++ 10 :: t) : a = b ∧ r = t := by
 induction a generalizing b with
 | nil =>
  cases b with
  | nil => exact ⟨rfl, by simpa using h⟩
  | cons y b =>
   simp only [List.nil_append, List.cons_append, List.cons.injEq] at h
   exact absurd (by rw [h.1]; exact List.mem_cons_self) hb
 | cons x a ih =>
  cases b with
  | nil =>
   simp only [List.nil_append, List.cons_append, List.cons.injEq] at h
   exact absurd (by rw [← h.1]; exact List.mem_cons_self) ha
  | cons y b =>
   simp only [List.cons_append, List.cons.injEq] at h
   have := ih (fun q => ha (List.mem_cons_of_mem _ q)) (fun q => hb (List.mem_cons_of_mem _ q)) h.2
   exact ⟨by rw [h.1, this.1], this.2⟩
theorem eq_of_bytes {a b : ByteArray} (h : rd.bytes a = rd.bytes b) : a = b := by
 cases a
 cases b
 congr
 exact Array.toList_inj.1 h
theorem word_inj (sat : Bool) : decide (rd.bytes (wordB sat) = [115, 97, 116]) = sat := by cases sat <;> decide
def RC (s : ByteArray) (O : Option Cr) : Prop := match O with
 | some c => (c.1.size ≤ 60000 ∧ c.2.2.2.size ≤ 60000) ∧ certB c.1 c.2.1 c.2.2.1 c.2.2.2 = s
 | none => ∀ d sat b m, d.size ≤ 60000 → m.size ≤ 60000 → certB d sat b m ≠ s
def got (x y z : List UInt8) (r : List UInt8) : Cr := (⟨(hexB ⟨x.toArray⟩).toArray⟩, decide (y = [115, 97, 116]), ⟨r.toArray⟩, ⟨(hexB ⟨z.toArray⟩).toArray⟩)
theorem mk_bytes (a : ByteArray) : (⟨(rd.bytes a).toArray⟩ : ByteArray) = a := eq_of_bytes rfl
theorem got_part {d m : ByteArray} (sat : Bool) (b : ByteArray) (hd : d.size ≤ 60000) (hm : m.size ≤ 60000) : got (rd.bytes (partB d)) (rd.bytes (wordB sat)) (rd.bytes (partB m)) (rd.bytes b) = (d, sat, b, m) := by
 unfold got
 simp only [mk_bytes, part_back hd, part_back hm, word_inj]
theorem rc_line {s : ByteArray} (h : (10 : UInt8) ∉ rd.bytes s) : RC s none := fun d sat b m hd hm e => by
 rw [← e, cert_bytes] at h
 exact h (by simp)
theorem no_line {s : ByteArray} (h : (10 : UInt8) ∉ rd.bytes s) (d : ByteArray) (sat : Bool) (b m : ByteArray) : certB d sat b m ≠ s := fun e => by
 rw [← e, cert_bytes] at h
 exact h (by simp)
theorem rc_parts {s : ByteArray} {a r : List UInt8} (e : rd.bytes s = a ++ 10 :: r) (ha : (10 : UInt8) ∉ a) {d m : ByteArray} {sat : Bool} {b : ByteArray} (hd : d.size ≤ 60000) (hm : m.size ≤ 60000) (h : certB d sat b m = s) : words a = [rd.bytes (partB d), rd.bytes (wordB sat), rd.bytes (partB m)] ∧ r = rd.bytes b := by
 rw [← h, cert_bytes] at e
 have := line_unique (hd_line sat hd hm) ha e
 rw [← this.1, hd_words sat hd hm]
 exact ⟨rfl, this.2.symm⟩
theorem rc_short {s : ByteArray} {a r : List UInt8} (e : rd.bytes s = a ++ 10 :: r) (ha : (10 : UInt8) ∉ a) (h : (words a).length ≠ 3) : RC s none := fun d sat b m hd hm q => by
 rw [(rc_parts e ha hd hm q).1] at h
 exact h rfl
theorem rc_no {s : ByteArray} {a r x y z : List UInt8} (e : rd.bytes s = a ++ 10 :: r) (ha : (10 : UInt8) ∉ a) (hw : words a = [x, y, z]) (h : certB (got x y z r).1 (got x y z r).2.1 (got x y z r).2.2.1 (got x y z r).2.2.2 ≠ s) : RC s none := fun d sat b m hd hm q => by
 have p := rc_parts e ha hd hm q
 rw [hw] at p
 simp only [List.cons.injEq, and_true] at p
 obtain ⟨⟨rfl, rfl, rfl⟩, rfl⟩ := p
 rw [got_part sat b hd hm] at h
 exact h q
theorem rc_bad {s : ByteArray} {a r x y z : List UInt8} (e : rd.bytes s = a ++ 10 :: r) (ha : (10 : UInt8) ∉ a) (hw : words a = [x, y, z]) (h : (decide (x = [45]) || hexOk ⟨x.toArray⟩) = false ∨ (decide (z = [45]) || hexOk ⟨z.toArray⟩) = false) : RC s none := fun d sat b m hd hm q => by
 have p := rc_parts e ha hd hm q
 rw [hw] at p
 simp only [List.cons.injEq, and_true] at p
 obtain ⟨⟨rfl, rfl, rfl⟩, rfl⟩ := p
 rw [mk_bytes, mk_bytes] at h
 rcases h with h | h
 ·rw [Bool.or_eq_false_iff] at h
  rcases part_ok hd with q | q
  ·exact absurd q (of_decide_eq_false h.1)
  ·rw [q] at h; cases h.2
 ·rw [Bool.or_eq_false_iff] at h
  rcases part_ok hm with q | q
  ·exact absurd q (of_decide_eq_false h.1)
  ·rw [q] at h; cases h.2
theorem hexB_len (s : ByteArray) : (hexB s).length ≤ 60000 := by
 unfold zg.hexB
 split
 ·rename_i h
  rw [zg.vl_length]
  have : s.size % 2 = 0 ∧ s.size ≤ 120000 := by
   unfold zg.hexOk at h
   rw [Bool.and_eq_true] at h
   exact of_decide_eq_true h.1
  omega
 ·exact Nat.zero_le _
theorem hexB_size (s : ByteArray) : (⟨(hexB s).toArray⟩ : ByteArray).size ≤ 60000 := by
 show (hexB s).toArray.size ≤ _
 rw [List.size_toArray]
 exact hexB_len s
theorem rc_yes {s : ByteArray} {x y z r : List UInt8} (h : certB (got x y z r).1 (got x y z r).2.1 (got x y z r).2.2.1 (got x y z r).2.2.2 = s) : RC s (some (got x y z r)) := ⟨⟨hexB_size _, hexB_size _⟩, h⟩
theorem cert_inj {d m d' m' b b' : ByteArray} {sat sat' : Bool} (hd : d.size ≤ 60000) (hm : m.size ≤ 60000) (hd' : d'.size ≤ 60000) (hm' : m'.size ≤ 60000) (h : certB d sat b m = certB d' sat' b' m') : (d, sat, b, m) = (d', sat', b', m') := by
 have h1 := (rc_parts (cert_bytes d sat b m) (hd_line sat hd hm) hd' hm' h.symm)
 rw [hd_words sat hd hm] at h1
 simp only [List.cons.injEq, and_true] at h1
 obtain ⟨⟨e1, e2, e3⟩, e4⟩ := h1
 rw [← got_part sat b hd hm, ← got_part sat' b' hd' hm', e1, e2, e3, e4]
theorem RC.one {s : ByteArray} {O O' : Option Cr} (h : RC s O) (h' : RC s O') : O = O' := by
 cases O with
 | none =>
  cases O' with
  | none => rfl
  | some c => exact absurd h'.2 (h _ _ _ _ h'.1.1 h'.1.2)
 | some c =>
  cases O' with
  | none => exact absurd h.2 (h' _ _ _ _ h.1.1 h.1.2)
  | some c' =>
   congr 1
   exact cert_inj h.1.1 h.1.2 h'.1.1 h'.1.2 (h.2.trans h'.2.symm)
theorem rc_is {d m : ByteArray} (sat : Bool) (b : ByteArray) (hd : d.size ≤ 60000) (hm : m.size ≤ 60000) : RC (certB d sat b m) (some (d, sat, b, m)) := ⟨⟨hd, hm⟩, rfl⟩
end Go.Proofs.YtabiopkjeodamaaDoor.yc
namespace Go.Proofs.YtabiopkjeodamaaDoor.yd
open Go.ChangeShapes Go.WideShapes Go.ChangeAt Go.RowKit
open rd (words)
open ya (partB wordB certB)
open zg (hexOk hexB)
open yb (Box4 Cr cellsC CertE)
open yc (RC got)
open sl (hide unhide grown_refl grown_trans grown_drewN)
set_option linter.unusedVariables false
def Most (w : World) : Prop := ∃ m, w.cell? ⟨1, 0, none⟩ = some (.int .i64 m)
theorem Most.kept {w w' : World} (h : Most w) (g : w.grownBy w' none) : Most w' := by
 obtain ⟨m, hm⟩ := h
 exact ⟨m, g.cell hm (fun e => by cases e)⟩
theorem cutT (t : ByteArray) (w : World) (hE : Most w) (ht : t.size ≤ 1048576) (wd rs : List UInt8) (fd : Bool) (hc : ln.cutL (rd.bytes t) = (wd, rs, fd)) :
  Calls Tryd.prog 34 #[.string t, .string ⟨#[10]⟩] w fun e w' => e = .returned (.tuple #[.string ⟨wd.toArray⟩, .string ⟨rs.toArray⟩, .bool fd]) ∧ w.grownBy w' none := by
 obtain ⟨m, hm⟩ := hE
 refine (Tryd.strings_Cut t ⟨#[10]⟩ m w (by omega) hm).mono ?_
 rintro e w' ⟨rfl, n, rfl⟩
 have e1 : Lib.cut t.data.toList (⟨#[10]⟩ : ByteArray).data.toList = (wd, rs, fd) := hc
 rw [e1]
 exact ⟨rfl, sl.grown_drewN w n⟩
theorem splitT (s : ByteArray) (w : World) (hE : Most w) (hs : s.size ≤ 1048576) :
  Calls Tryd.prog 35 #[.string s, .string ⟨#[32]⟩] w fun e w' => e = .returned (.slice (some ⟨w.heap.size, 0, none⟩) (ln.pieces s).length (ln.pieces s).length) ∧ w' = w.alloc (.cells ((ln.pieces s).map Value.string).toArray 9) := by
 obtain ⟨m, hm⟩ := hE
 have hl : (ln.pieces s).length = Lib.countB s ⟨#[32]⟩ + 1 := Lib.splitB_all ⟨#[32]⟩ (by decide) 0 _ s rfl
 rw [hl]
 exact Tryd.strings_Split s ⟨#[32]⟩ m w (by omega) hm (by decide)
def ReadE (s : ByteArray) (w : World) (e : Ending) (w' : World) : Prop := ∃ O, RC s O ∧ CertE w O e w'
theorem cut_rc (s : ByteArray) : ∃ wd rs fd, ln.cutL (rd.bytes s) = (wd, rs, fd) ∧ wd.length ≤ s.size ∧ rs.length ≤ s.size ∧ ((words wd).length ≠ 3 → RC s none) ∧
  ∀ x y z, words wd = [x, y, z] → certB (got x y z rs).1 (got x y z rs).2.1 (got x y z rs).2.2.1 (got x y z rs).2.2.2 ≠ s → RC s none := by
 rcases ln.cut_spec (rd.bytes s) with ⟨a, r, e, ha, hi⟩ | ⟨h, hi⟩
 ·refine ⟨a, r, true, ?_, ?_, ?_, fun h => yc.rc_short e ha h, fun x y z hw h => yc.rc_no e ha hw h⟩
  ·unfold ln.cutL Lib.cut
   rw [hi, if_pos (by omega), e]
   simp
  ·rw [← rd.bytes_len, e]
   simp
  ·rw [← rd.bytes_len, e]
   simp
   omega
 ·refine ⟨rd.bytes s, [], false, ?_, by rw [rd.bytes_len]; exact Nat.le_refl _, Nat.zero_le _, fun _ => yc.rc_line h, fun _ _ _ _ _ => yc.rc_line h⟩
  unfold ln.cutL Lib.cut
  rw [hi, if_neg (by omega)]
theorem three {α : Type} {D : List α} (h : D.length = 3) : ∃ a b c, D = [a, b, c] := by
 match D, h with
 | [a, b, c], _ => exact ⟨a, b, c, rfl⟩
theorem pieces_le (s : ByteArray) : ∀ d ∈ ln.pieces s, d.size ≤ s.size := by
 intro d hd
 have h1 : rd.bytes d ∈ rd.words (rd.bytes s) := by rw [← ln.pieces_words]; exact List.mem_map_of_mem hd
 have h2 := rd.words_len _ _ h1
 rw [rd.bytes_len, rd.bytes_len] at h2
 exact h2
theorem cell_new (w : World) (cs : Array Value) (t : TypeId) (i : Nat) (x : Value) (h : cs[i]? = some x) : (w.alloc (.cells cs t)).cell? ⟨w.heap.size, i, none⟩ = some x := by
 have e : (w.alloc (.cells cs t)).heap[w.heap.size]? = some (.cells cs t) := by
  show (w.heap.push _)[w.heap.size]? = _
  simp
 simp only [World.cell?, e]
 simpa using h
set_option maxRecDepth 100000 in
set_option maxHeartbeats 4000000 in
theorem implReadCert (s : ByteArray) (w : World) (hE : Most w) (hs : s.size ≤ 1048576) :
  Calls Tryd.prog 11 #[.string s] w fun e w' => ReadE s w e w' := by
 obtain ⟨wd, rs, fd, hc, hl1, hl2, K3, KN⟩ := cut_rc s
 have g0 := World.grownBy_alloc w (.cells #[.string ⟨#[]⟩, .bool false, .string ⟨#[]⟩, .string ⟨#[]⟩] 25) none
 have B0 := hide (Box4.new 25 w (.string ⟨#[]⟩) (.bool false) (.string ⟨#[]⟩) (.string ⟨#[]⟩))
 have CC := hide (cutT s _ (hE.kept g0) hs wd rs fd hc)
 have hwd : (⟨wd.toArray⟩ : ByteArray).size ≤ 1048576 := by show wd.toArray.size ≤ _; rw [List.size_toArray]; omega
 have CP := hide (fun w1 (g : w.grownBy w1 none) => splitT ⟨wd.toArray⟩ w1 (hE.kept g) hwd)
 have hrs : (⟨rs.toArray⟩ : ByteArray).size ≤ 1048576 := by show rs.toArray.size ≤ _; rw [List.size_toArray]; omega
 have hpw := ln.pieces_words ⟨wd.toArray⟩
 have hpl := pieces_le ⟨wd.toArray⟩
 have e0 : rd.bytes ⟨wd.toArray⟩ = wd := rfl
 rw [e0] at hpw
 generalize ln.pieces ⟨wd.toArray⟩ = D at *
 have er : rd.bytes ⟨rs.toArray⟩ = rs := rfl
 generalize (⟨wd.toArray⟩ : ByteArray) = WD at *
 have hgr : ∀ x y z, got x y z rs = (⟨(hexB ⟨x.toArray⟩).toArray⟩, decide (y = [115, 97, 116]), ⟨rs.toArray⟩, ⟨(hexB ⟨z.toArray⟩).toArray⟩) := fun _ _ _ => rfl
 have G0 := hide g0
 clear g0 hE hc
 by_cases h3 : D.length = 3
 ·obtain ⟨x, y, z, rfl⟩ := three h3
  have hsx := hpl x (by simp)
  have hsz := hpl z (by simp)
  have KN' := hide (KN _ _ _ hpw.symm)
  have CX := hide (fun w1 => zh.implHexBytes x w1 (by omega))
  have CZ := hide (fun w1 => zh.implHexBytes z w1 (by omega))
  unfold dec.str at CX CZ
  have hy : (y.toList == [115, 97, 116]) = decide (rd.bytes y = [115, 97, 116]) := by rw [Bool.eq_iff_iff, beq_iff_eq, decide_eq_true_iff, rd.toList_bytes]
  have CT := hide (fun w1 => ya.implCertText ⟨(hexB x).toArray⟩ (decide (rd.bytes y = [115, 97, 116])) ⟨rs.toArray⟩ ⟨(hexB z).toArray⟩ w1 (Nat.le_trans (yc.hexB_size x) (by decide)) hrs (Nat.le_trans (yc.hexB_size z) (by decide)))
  have EQ : got (rd.bytes x) (rd.bytes y) (rd.bytes z) rs = (⟨(hexB x).toArray⟩, decide (rd.bytes y = [115, 97, 116]), ⟨rs.toArray⟩, ⟨(hexB z).toArray⟩) := by rw [hgr, yc.mk_bytes, yc.mk_bytes]
  have KY := hide (fun h => yc.rc_yes (s := s) (x := rd.bytes x) (y := rd.bytes y) (z := rd.bytes z) (r := rs) h)
  rw [EQ] at KN' KY
  clear hpl hpw hsx hsz h3 K3 KN EQ hgr hwd hrs hl1 hl2 er e0
  generalize decide (rd.bytes y = [115, 97, 116]) = sat at *
  generalize (⟨rs.toArray⟩ : ByteArray) = b at *
  generalize (⟨(hexB x).toArray⟩ : ByteArray) = d at *
  generalize (⟨(hexB z).toArray⟩ : ByteArray) = m at *
  generalize hexOk x = okx at *
  generalize hexOk z = okz at *
  simp only at KN' KY
  generalize certB d sat b m = T at *
  go_enter Tryd.func11, Tryd.ntmps11
  go_wp2_with fail
  refine (unhide CC).mono ?_; rintro e w1 ⟨rfl, g1⟩
  have G1 := hide (grown_trans (r := none) (unhide G0) g1)
  have B1 := hide ((unhide B0).kept g1)
  clear g1 CC G0 B0
  go_wp2_with fail
  refine (unhide CP w1 (unhide G1)).mono ?_; rintro e w2 ⟨rfl, hw⟩
  have y0 : w2.cell? ⟨w1.heap.size, 0, none⟩ = some (.string x) := by rw [hw]; exact cell_new w1 _ _ _ _ rfl
  have y1 : w2.cell? ⟨w1.heap.size, 1, none⟩ = some (.string y) := by rw [hw]; exact cell_new w1 _ _ _ _ rfl
  have y2 : w2.cell? ⟨w1.heap.size, 2, none⟩ = some (.string z) := by rw [hw]; exact cell_new w1 _ _ _ _ rfl
  have g2 : w1.grownBy w2 none := by rw [hw]; exact World.grownBy_alloc _ _ none
  have G2 := hide (grown_trans (r := none) (unhide G1) g2)
  have B2 := hide ((unhide B1).kept g2)
  have Y1 := hide y1
  have Y2 := hide y2
  clear g2 hw G1 B1 CP y1 y2
  go_wp2_with fail
  refine (unhide CX w2).mono ?_; rintro e w3 ⟨rfl, g3⟩
  have y2 : w3.cell? ⟨w1.heap.size, 2, none⟩ = some (.string z) := g3.cell (unhide Y2) (fun e => by cases e)
  replace Y1 := hide (g3.cell (unhide Y1) (fun e => by cases e))
  have G3 := hide (grown_trans (r := none) (unhide G2) g3)
  have B3 := hide ((unhide B2).kept g3)
  clear g3 G2 B2 y0 Y2 CX
  go_wp2_with fail
  refine (unhide CZ w3).mono ?_; rintro e w4 ⟨rfl, g4⟩
  have y1 : w4.cell? ⟨w1.heap.size, 1, none⟩ = some (.string y) := g4.cell (unhide Y1) (fun e => by cases e)
  have G4 := hide (grown_trans (r := none) (unhide G3) g4)
  have B4 := hide ((unhide B3).kept g4)
  clear g4 G3 B3 y2 Y1 CZ
  have ga := World.grownBy_alloc w4 (.cells #[.string d, .bool sat, .string b, .string m] 25) none
  have GA := hide (grown_trans (r := none) (unhide G4) ga)
  have BA := hide ((unhide B4).kept ga)
  have BC := hide (Box4.new 25 w4 (.string d) (.bool sat) (.string b) (.string m))
  clear ga G4 B4
  go_wp2_with fail
  refine (unhide CT _).mono ?_; rintro e w5 ⟨rfl, g5⟩
  have G5 := hide (grown_trans (r := none) (unhide GA) g5)
  have B5 := hide ((unhide BA).kept g5)
  have D5 := hide ((unhide BC).kept g5)
  have p0 := (unhide B5).c0
  have p1 := (unhide B5).c1
  have p2 := (unhide B5).c2
  have p3 := (unhide B5).c3
  have f0 := (unhide B5).f 0
  have f1 := (unhide B5).f 1
  have f2 := (unhide B5).f 2
  have f3 := (unhide B5).f 3
  have q0 := (unhide D5).c0
  have q1 := (unhide D5).c1
  have q2 := (unhide D5).c2
  have q3 := (unhide D5).c3
  clear g5 GA BA BC CT
  cases ht : (T.toList == s.toList)
  ·have R := hide (unhide KN' (fun e => by rw [e] at ht; simp at ht))
   clear KN' KY
   go_wp2_with fail
   (try simp only [Exit.inBlock, Exit.then])
   exact bodyPost_ret (yb.ret_box2 rfl rfl ((unhide B5).setA _ _ _ _)) rfl ⟨none, unhide R, rfl, yb.grown_setA (unhide G5) (Nat.le_refl _)⟩
  ·have R := hide (unhide KY (yc.eq_of_bytes (by rw [← rd.toList_bytes, ← rd.toList_bytes]; exact beq_iff_eq.1 ht)))
   clear KN' KY
   go_wp2_with fail
   (try simp only [Exit.inBlock, Exit.then])
   exact bodyPost_ret (yb.ret_box2 rfl rfl ((unhide B5).setA _ _ _ _)) rfl ⟨some (d, sat, b, m), unhide R, rfl, yb.grown_setA (unhide G5) (Nat.le_refl _)⟩
 ·have R := hide (K3 (by rw [← hpw, List.length_map]; exact h3))
  have hi : ((D.length : Int) != 3) = true := by rw [bne_iff_ne]; omega
  clear hpl hpw h3 K3 KN hgr hwd hrs hl1 hl2
  go_enter Tryd.func11, Tryd.ntmps11
  go_wp2_with fail
  refine (unhide CC).mono ?_; rintro e w1 ⟨rfl, g1⟩
  have G1 := hide (grown_trans (r := none) (unhide G0) g1)
  have B1 := hide ((unhide B0).kept g1)
  clear g1 CC G0 B0
  go_wp2_with fail
  refine (unhide CP w1 (unhide G1)).mono ?_; rintro e w2 ⟨rfl, hw⟩
  have g2 : w1.grownBy w2 none := by rw [hw]; exact World.grownBy_alloc _ _ none
  have G5 := hide (grown_trans (r := none) (unhide G1) g2)
  have B5 := hide ((unhide B1).kept g2)
  have p0 := (unhide B5).c0
  have p1 := (unhide B5).c1
  have p2 := (unhide B5).c2
  have p3 := (unhide B5).c3
  have f0 := (unhide B5).f 0
  have f1 := (unhide B5).f 1
  have f2 := (unhide B5).f 2
  have f3 := (unhide B5).f 3
  clear g2 hw G1 B1 CP
  go_wp2_with fail
  (try simp only [Exit.inBlock, Exit.then])
  exact bodyPost_ret (yb.ret_box2 rfl rfl ((unhide B5).setA _ _ _ _)) rfl ⟨none, unhide R, rfl, yb.grown_setA (unhide G5) (Nat.le_refl _)⟩
end Go.Proofs.YtabiopkjeodamaaDoor.yd
namespace Go.Proofs.YtabiopkjeodamaaDoor.yd
open Go.ChangeShapes Go.WideShapes Go.ChangeAt Go.RowKit
open rd (words MadeS)
open ya (partB wordB certB)
open zg (hexOk hexB)
open yb (Box4 Cr cellsC CertE)
open yc (RC got)
open sl (hide unhide grown_refl grown_trans grown_drewN)
set_option linter.unusedVariables false
def okB (s : ByteArray) : Bool := decide (rd.bytes s = [45]) || hexOk s
theorem specBytes (s : ByteArray) (w : World) (hs : s.size ≤ 1048576) :
  Calls Tryd.prog 40 #[.string s] w fun e w' => e = .returned (.tuple #[.string ⟨(hexB s).toArray⟩, .bool (okB s)]) ∧ w.grownBy w' none := by
 have C := hide (zg.specHexBytes s w hs)
 unfold dec.str at C
 have hb : (s.toList == [45]) = decide (rd.bytes s = [45]) := by rw [Bool.eq_iff_iff, beq_iff_eq, decide_eq_true_iff, rd.toList_bytes]
 unfold okB
 by_cases h : rd.bytes s = [45]
 ·obtain rfl : s = ⟨#[45]⟩ := yc.eq_of_bytes h
  clear C hb h
  go_enter Tryd.func40, Tryd.ntmps40
  go_wp2
  go_ret2
  exact ⟨rfl, grown_refl _⟩
 ·rw [decide_eq_false h] at hb ⊢
  rw [Bool.false_or]
  clear h
  go_enter Tryd.func40, Tryd.ntmps40
  go_wp2_with fail
  refine (unhide C).mono ?_; rintro e w1 ⟨rfl, g1⟩
  have G1 := hide g1
  clear g1
  go_wp2_with fail
  go_ret2
  exact ⟨rfl, unhide G1⟩
theorem byte10 (c : UInt8) : ((c.toNat : Int) != 10) = !decide (c = 10) := by
 rw [Bool.eq_iff_iff, bne_iff_ne, Bool.not_eq_true', decide_eq_false_iff_not]
 refine not_congr ⟨fun h => ?_, fun h => by rw [h]; rfl⟩
 apply UInt8.toNat_inj.1
 show c.toNat = 10
 omega
theorem at_take (s : ByteArray) (k : Nat) (hk : k < s.size) : (rd.bytes s).take (k + 1) = (rd.bytes s).take k ++ [s[k]] := rd.bytes_take s k hk
theorem parted (s : ByteArray) (k : Nat) (hk : k < s.size) (h : s[k] = 10) : rd.bytes s = (rd.bytes s).take k ++ 10 :: (rd.bytes s).drop (k + 1) := by
 conv => lhs; rw [← List.take_append_drop (k + 1) (rd.bytes s)]
 rw [at_take s k hk, h, List.append_assoc, List.singleton_append]
set_option maxRecDepth 100000 in
set_option maxHeartbeats 8000000 in
theorem specReadCert (s : ByteArray) (w : World) (hs : s.size ≤ 1048576) :
  Calls Tryd.prog 13 #[.string s] w fun e w' => ReadE s w e w' := by
 have g0 := World.grownBy_alloc w (.cells #[.string ⟨#[]⟩, .bool false, .string ⟨#[]⟩, .string ⟨#[]⟩] 25) none
 have B0 := hide (Box4.new 25 w (.string ⟨#[]⟩) (.bool false) (.string ⟨#[]⟩) (.string ⟨#[]⟩))
 have G0 := hide g0
 clear g0
 obtain ⟨W0, hW0⟩ : ∃ W0, W0 = w.alloc (.cells #[.string ⟨#[]⟩, .bool false, .string ⟨#[]⟩, .string ⟨#[]⟩] 25) := ⟨_, rfl⟩
 rw [← hW0] at B0 G0
 go_enter Tryd.func13, Tryd.ntmps13
 go_wp2
 go_loopw [4] (fun i wr => ∃ k : Nat, k ≤ s.size ∧ i = .int .i64 k ∧ wr = W0 ∧ Hid ((10 : UInt8) ∉ (rd.bytes s).take k)) (fun i _ => s.size - (intOf i).toNat)
 case atStart => exact ⟨0, Nat.zero_le _, rfl, hW0.symm, fun h => by simp at h⟩
 case round =>
  obtain ⟨k, hk, rfl, rfl, hn⟩ := hrel
  clear hW0
  by_cases hlt : k < s.size
  ·have hi' : (k : Int) < (s.size : Int) := by omega
   have hb := byte10 s[k]
   by_cases h10 : s[k] = 10
   ·rw [decide_eq_true h10] at hb
    have PA := hide (parted s k hlt h10)
    have hne : ¬ (k : Int) = (s.size : Int) := by omega
    have hk0 : (0 : Int) ≤ (k : Int) := by omega
    have hk1 : (k : Int) ≤ (s.size : Int) := by omega
    have ba : rd.bytes (s.extract 0 k) = (rd.bytes s).take k := by rw [rd.bytes_extract, List.drop_zero]
    have sa : (s.extract 0 k).size ≤ 1048576 := by rw [ByteArray.size_extract]; omega
    obtain ⟨k1, e1⟩ : ∃ k1 : Nat, k1 = k + 1 := ⟨_, rfl⟩
    have w1 : IntKind.i64.wrap ((k : Int) + 1) = (k1 : Int) := by rw [yb.wrap_in (by omega) (by omega)]; omega
    have k10 : (0 : Int) ≤ (k1 : Int) := by omega
    have k11 : (k1 : Int) ≤ (s.size : Int) := by omega
    have br : rd.bytes (s.extract k1 s.size) = (rd.bytes s).drop (k + 1) := by rw [rd.bytes_extract, List.take_of_length_le (by rw [rd.bytes_len]; exact Nat.le_refl _), e1]
    have sr : (s.extract k1 s.size).size ≤ 1048576 := by rw [ByteArray.size_extract]; omega
    have RS := hide (fun h => yc.rc_short (s := s) (unhide PA) (unhide hn) h)
    have RN := hide (fun x y z hw h => yc.rc_no (s := s) (x := x) (y := y) (z := z) (unhide PA) (unhide hn) hw h)
    have RB := hide (fun x y z hw h => yc.rc_bad (s := s) (x := x) (y := y) (z := z) (unhide PA) (unhide hn) hw h)
    have RY := hide (fun x y z h => yc.rc_yes (s := s) (x := x) (y := y) (z := z) (r := (rd.bytes s).drop (k + 1)) h)
    have EQ : ∀ x y z : ByteArray, got (rd.bytes x) (rd.bytes y) (rd.bytes z) ((rd.bytes s).drop (k + 1)) = (⟨(hexB x).toArray⟩, decide (rd.bytes y = [115, 97, 116]), s.extract k1 s.size, ⟨(hexB z).toArray⟩) := by
     intro x y z
     unfold yc.got
     rw [← br]
     simp only [yc.mk_bytes]
    have HEQ := hide EQ
    have CW := hide (fun wz => rd.l01Words (s.extract 0 k) wz sa)
    rw [ba] at CW
    have HA : Hid (((rd.bytes s).take k).length ≤ 1048576) := by show _ ≤ _; rw [List.length_take, rd.bytes_len]; omega
    clear hn PA h10 e1 ba br EQ sa
    generalize (rd.bytes s).take k = A at *
    generalize (rd.bytes s).drop (k + 1) = R at *
    go_wp2_with fail
    refine (unhide CW _).mono ?_; rintro e w2 ⟨u, D, rfl, ⟨o2, g2⟩, hD, hDl⟩
    have G2 := hide (grown_trans (r := none) (unhide G0) g2)
    have B2 := hide ((unhide B0).kept g2)
    clear CW g2 G0 B0
    by_cases h3 : D.length = 3
    ·obtain ⟨x, y, z, rfl⟩ := three h3
     have hw : words A = [rd.bytes x, rd.bytes y, rd.bytes z] := hD.symm
     have sx : x.size ≤ 1048576 := by
      have h1 : rd.bytes x ∈ words A := by rw [hw]; simp
      have h2 := rd.words_len _ _ h1
      rw [rd.bytes_len] at h2
      have := unhide HA
      omega
     have sz : z.size ≤ 1048576 := by
      have h1 : rd.bytes z ∈ words A := by rw [hw]; simp
      have h2 := rd.words_len _ _ h1
      rw [rd.bytes_len] at h2
      have := unhide HA
      omega
     obtain ⟨g, cap, rfl⟩ : ∃ g cap, u = .slice (some ⟨g, 0, none⟩) 3 cap := by
      cases o2.2 with
      | inl h => exact absurd h.2 (by simp)
      | inr h => obtain ⟨g, cap, cur, hv, _⟩ := h; exact ⟨g, cap, hv⟩
     have c0 : w2.cell? ⟨g, 0, none⟩ = some (.string x) := (o2.cellAt 0 (by decide)).trans rfl
     have C1 : Hid (w2.cell? ⟨g, 1, none⟩ = some (.string y)) := (o2.cellAt 1 (by decide)).trans rfl
     have C2 : Hid (w2.cell? ⟨g, 2, none⟩ = some (.string z)) := (o2.cellAt 2 (by decide)).trans rfl
     have RN' := hide (unhide RN _ _ _ hw)
     have RB' := hide (unhide RB _ _ _ hw)
     have RY' := hide (unhide RY (rd.bytes x) (rd.bytes y) (rd.bytes z))
     rw [unhide HEQ] at RN' RY'
     simp only [yc.mk_bytes] at RN' RB' RY'
     have CX := hide (fun wz => specBytes x wz sx)
     have CZ := hide (fun wz => specBytes z wz sz)
     have KX := hide (fun (q : okB x = false) => unhide RB' (.inl q))
     have KZ := hide (fun (q : okB z = false) => unhide RB' (.inr q))
     have hy : (y.toList == [115, 97, 116]) = decide (rd.bytes y = [115, 97, 116]) := by rw [Bool.eq_iff_iff, beq_iff_eq, decide_eq_true_iff, rd.toList_bytes]
     have CT := hide (fun wz => ya.specCertText ⟨(hexB x).toArray⟩ (decide (rd.bytes y = [115, 97, 116])) (s.extract k1 s.size) ⟨(hexB z).toArray⟩ wz (Nat.le_trans (yc.hexB_size x) (by decide)) sr (Nat.le_trans (yc.hexB_size z) (by decide)))
     clear o2 hw hD h3 sx sz RS RN RB RY HEQ RB' sr HA hDl
     generalize decide (rd.bytes y = [115, 97, 116]) = sat at *
     generalize (⟨(hexB x).toArray⟩ : ByteArray) = d at *
     generalize (⟨(hexB z).toArray⟩ : ByteArray) = m at *
     generalize okB x = okx at *
     generalize okB z = okz at *
     generalize certB d sat (s.extract k1 s.size) m = T at *
     go_wp2_with fail
     refine (unhide CX w2).mono ?_; rintro e w3 ⟨rfl, g3⟩
     have c2 : w3.cell? ⟨g, 2, none⟩ = some (.string z) := g3.cell (unhide C2) (fun e => by cases e)
     replace C1 := hide (g3.cell (unhide C1) (fun e => by cases e))
     have G3 := hide (grown_trans (r := none) (unhide G2) g3)
     have B3 := hide ((unhide B2).kept g3)
     clear g3 G2 B2 c0 C2 CX
     go_wp2_with fail
     refine (unhide CZ w3).mono ?_; rintro e w4 ⟨rfl, g4⟩
     have c1 : w4.cell? ⟨g, 1, none⟩ = some (.string y) := g4.cell (unhide C1) (fun e => by cases e)
     have G4 := hide (grown_trans (r := none) (unhide G3) g4)
     have B4 := hide ((unhide B3).kept g4)
     clear g4 G3 B3 c2 C1 CZ
     have hlt1 : ¬ (g = w4.heap.size) := fun e => by have := World.block_lt_of_cell? w4 _ c1; simp only at this; omega
     go_wp2_with fail
     go_region_held3 (fun w' => w'.cell? ⟨g, 1, none⟩ = some (.string y)) (go_keep) (fail)
     all_goals
      obtain ⟨WX, hWX⟩ : ∃ WX, WX = (w4.alloc (.cells #[.string d, .bool sat, .string (s.extract k1 s.size), .string m] 25)).drew := ⟨_, rfl⟩
      have ga : w4.grownBy WX none := by rw [hWX]; exact grown_trans (r := none) (World.grownBy_alloc w4 _ none) (grown_drewN _ 1)
      have GA := hide (grown_trans (r := none) (unhide G4) ga)
      have BA := hide ((unhide B4).kept ga)
      have BC : Hid (Box4 25 WX w4.heap.size (.string d) (.bool sat) (.string (s.extract k1 s.size)) (.string m)) := by
       rw [hWX]
       exact (Box4.new 25 w4 (.string d) (.bool sat) (.string (s.extract k1 s.size)) (.string m)).kept (grown_drewN _ 1)
      rw [← hWX]
      clear ga G4 B4 hWX
      cases okx
      ·have RZ := hide (unhide KX rfl)
       have B5 := BA
       have G5 := GA
       have p0 := (unhide B5).c0
       have p1 := (unhide B5).c1
       have p2 := (unhide B5).c2
       have p3 := (unhide B5).c3
       have f0 := (unhide B5).f 0
       have f1 := (unhide B5).f 1
       have f2 := (unhide B5).f 2
       have f3 := (unhide B5).f 3
       clear KX KZ RN' RY' BC BA GA CT
       go_wp2_with fail
       (try simp only [Exit.inBlock, Exit.then])
       exact bodyPost_ret (yb.ret_box2 rfl rfl ((unhide B5).setA _ _ _ _)) rfl ⟨none, unhide RZ, rfl, yb.grown_setA (unhide G5) (Nat.le_refl _)⟩
      cases okz
      ·have RZ := hide (unhide KZ rfl)
       have B5 := BA
       have G5 := GA
       have p0 := (unhide B5).c0
       have p1 := (unhide B5).c1
       have p2 := (unhide B5).c2
       have p3 := (unhide B5).c3
       have f0 := (unhide B5).f 0
       have f1 := (unhide B5).f 1
       have f2 := (unhide B5).f 2
       have f3 := (unhide B5).f 3
       clear KX KZ RN' RY' BC BA GA CT
       go_wp2_with fail
       (try simp only [Exit.inBlock, Exit.then])
       exact bodyPost_ret (yb.ret_box2 rfl rfl ((unhide B5).setA _ _ _ _)) rfl ⟨none, unhide RZ, rfl, yb.grown_setA (unhide G5) (Nat.le_refl _)⟩
      have q0 := (unhide BC).c0
      have q1 := (unhide BC).c1
      have q2 := (unhide BC).c2
      have q3 := (unhide BC).c3
      clear KX KZ
      go_wp2_with fail
      refine (unhide CT _).mono ?_; rintro e w5 ⟨rfl, g5⟩
      have G5 := hide (grown_trans (r := none) (unhide GA) g5)
      have B5 := hide ((unhide BA).kept g5)
      have D5 := hide ((unhide BC).kept g5)
      clear g5 GA BA BC CT q0 q1 q2 q3
      have q0 := (unhide D5).c0
      have q1 := (unhide D5).c1
      have q2 := (unhide D5).c2
      have q3 := (unhide D5).c3
      have p0 := (unhide B5).c0
      have p1 := (unhide B5).c1
      have p2 := (unhide B5).c2
      have p3 := (unhide B5).c3
      have f0 := (unhide B5).f 0
      have f1 := (unhide B5).f 1
      have f2 := (unhide B5).f 2
      have f3 := (unhide B5).f 3
      cases ht : (T.toList == s.toList)
      ·have R := hide (unhide RN' (fun e => by rw [e] at ht; simp at ht))
       clear RN' RY'
       go_wp2_with fail
       (try simp only [Exit.inBlock, Exit.then])
       exact bodyPost_ret (yb.ret_box2 rfl rfl ((unhide B5).setA _ _ _ _)) rfl ⟨none, unhide R, rfl, yb.grown_setA (unhide G5) (Nat.le_refl _)⟩
      ·have R := hide (unhide RY' (yc.eq_of_bytes (by rw [← rd.toList_bytes, ← rd.toList_bytes]; exact beq_iff_eq.1 ht)))
       clear RN' RY'
       go_wp2_with fail
       (try simp only [Exit.inBlock, Exit.then])
       exact bodyPost_ret (yb.ret_box2 rfl rfl ((unhide B5).setA _ _ _ _)) rfl ⟨some (d, sat, s.extract k1 s.size, m), unhide R, rfl, yb.grown_setA (unhide G5) (Nat.le_refl _)⟩
    ·have RZ := hide (unhide RS (by rw [← hD, List.length_map]; exact h3))
     have hi : ((D.length : Int) != 3) = true := by rw [bne_iff_ne]; omega
     obtain ⟨a, cap, rfl⟩ : ∃ a cap, u = .slice a D.length cap := by
      rcases o2.2 with ⟨rfl, h⟩ | ⟨g, cap, cur, rfl, _⟩
      ·exact ⟨none, 0, by rw [h]⟩
      ·exact ⟨_, cap, rfl⟩
     have B5 := B2
     have G5 := G2
     have p0 := (unhide B5).c0
     have p1 := (unhide B5).c1
     have p2 := (unhide B5).c2
     have p3 := (unhide B5).c3
     have f0 := (unhide B5).f 0
     have f1 := (unhide B5).f 1
     have f2 := (unhide B5).f 2
     have f3 := (unhide B5).f 3
     clear o2 hD h3 RS RN RB RY HEQ B2 G2
     go_wp2_with fail
     (try simp only [Exit.inBlock, Exit.then])
     exact bodyPost_ret (yb.ret_box2 rfl rfl ((unhide B5).setA _ _ _ _)) rfl ⟨none, unhide RZ, rfl, yb.grown_setA (unhide G5) (Nat.le_refl _)⟩
   ·have hb1 : ((s[k].toNat : Int) != 10) = true := by rw [hb, decide_eq_false h10]; rfl
    have N1 : Hid ((10 : UInt8) ∉ (rd.bytes s).take (k + 1)) := by
     show _ ∉ _
     rw [at_take s k hlt, List.mem_append, List.mem_singleton, not_or]
     exact ⟨unhide hn, fun e => h10 e.symm⟩
    clear hb h10 hn
    go_wp2
    go_roundw
    case rel => exact ⟨k + 1, by omega, by go_num, by trivial, N1⟩
    case measure => simp [intOf]; omega
  ·have hi' : ¬ (k : Int) < (s.size : Int) := by omega
   obtain rfl : k = s.size := by omega
   have RZ := hide (yc.rc_line (s := s) (by have := unhide hn; rwa [List.take_of_length_le (by rw [rd.bytes_len]; exact Nat.le_refl _)] at this))
   have B5 := B0
   have G5 := G0
   have p0 := (unhide B5).c0
   have p1 := (unhide B5).c1
   have p2 := (unhide B5).c2
   have p3 := (unhide B5).c3
   have f0 := (unhide B5).f 0
   have f1 := (unhide B5).f 1
   have f2 := (unhide B5).f 2
   have f3 := (unhide B5).f 3
   clear hn B0 G0
   go_wp2_with fail
   (try simp only [Exit.inBlock, Exit.then])
   exact bodyPost_ret (yb.ret_box2 rfl rfl ((unhide B5).setA _ _ _ _)) rfl ⟨none, unhide RZ, rfl, yb.grown_setA (unhide G5) (Nat.le_refl _)⟩
end Go.Proofs.YtabiopkjeodamaaDoor.yd
namespace Go.Proofs.YtabiopkjeodamaaDoor.yd
open Go.ChangeShapes Go.WideShapes Go.ChangeAt Go.RowKit
open ya (certB)
open yb (Box4 Cr cellsC CertE)
open yc (RC got)
open sl (hide unhide grown_refl grown_trans grown_drewN)
set_option linter.unusedVariables false
theorem rc_ex (s : ByteArray) : ∃ O, RC s O := by
 by_cases h : ∃ c : Cr, (c.1.size ≤ 60000 ∧ c.2.2.2.size ≤ 60000) ∧ certB c.1 c.2.1 c.2.2.1 c.2.2.2 = s
 ·obtain ⟨c, hc⟩ := h
  exact ⟨some c, hc⟩
 ·exact ⟨none, fun d sat b m hd hm e => h ⟨(d, sat, b, m), ⟨hd, hm⟩, e⟩⟩
theorem bothO (s : ByteArray) (hs : s.size ≤ 1048576) : ∃ O, RC s O ∧ (∀ w, Calls Tryd.prog 13 #[.string s] w fun e w' => CertE w O e w') ∧ (∀ w, Most w → Calls Tryd.prog 11 #[.string s] w fun e w' => CertE w O e w') := by
 obtain ⟨O, h⟩ := rc_ex s
 refine ⟨O, h, fun w => (specReadCert s w hs).mono ?_, fun w hE => (implReadCert s w hE hs).mono ?_⟩
 ·rintro e w' ⟨O', h', c⟩
  rw [h.one h']
  exact c
 ·rintro e w' ⟨O', h', c⟩
  rw [h.one h']
  exact c
theorem both (s : ByteArray) (hs : s.size ≤ 1048576) : ∃ (d : ByteArray) (sat : Bool) (b m : ByteArray) (ok : Bool),
  (∀ w, Calls Tryd.prog 13 #[.string s] w fun e w' => e = .returned (.tuple #[.agg #[.string d, .bool sat, .string b, .string m], .bool ok]) ∧ w.grownBy w' none) ∧
  (∀ w, Most w → Calls Tryd.prog 11 #[.string s] w fun e w' => e = .returned (.tuple #[.agg #[.string d, .bool sat, .string b, .string m], .bool ok]) ∧ w.grownBy w' none) := by
 obtain ⟨O, _, h1, h2⟩ := bothO s hs
 cases O with
 | none => exact ⟨_, _, _, _, _, h1, h2⟩
 | some c => exact ⟨_, _, _, _, _, h1, h2⟩
end Go.Proofs.YtabiopkjeodamaaDoor.yd
