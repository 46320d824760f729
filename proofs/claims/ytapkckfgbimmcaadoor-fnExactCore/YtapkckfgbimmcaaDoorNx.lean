/- What Next answers, the program's and the model's, at every formula that holds at most 2^20 values and every list of at most 2^20 numbers. -/
import Derived.Test.YtapkckfgbimmcaaDoorBb
import Derived.Test.YtapkckfgbimmcaaDoorTl
namespace Go.Proofs.YtapkckfgbimmcaaDoor.ks
open Go.ChangeShapes Go.WideShapes Go.ChangeAt Go.RowKit
open Go.Proofs.YtapkckfgbimmcaaDoor.kd (SV Slv)
open Go.Proofs.YtapkckfgbimmcaaDoor.km (left_)
open Go.Proofs.YtapkckfgbimmcaaDoor.lq (solveL FromE lits_in solve_no made_sub made_nilD nil_one one_nil one_own)
open Go.Proofs.YtapkckfgbimmcaaDoor.as_ (tl litAt)
open Go.Proofs.YtapkckfgbimmcaaDoor.srt (Tab)
open Go.Proofs.YtapkckfgbimmcaaDoor.bset (setOf setOf_lt placeN)
open Go.Proofs.YtapkckfgbimmcaaDoor.css (Sls tot)
open Go.Proofs.YtapkckfgbimmcaaDoor.cf (Box)
open Go.Proofs.YtapkckfgbimmcaaDoor.ok (cnfB litIn)
open Go.Proofs.YtapkckfgbimmcaaDoor.tr (assignB bitB)
open Go.Proofs.YtapkckfgbimmcaaDoor.wo (Made)
open Go.Proofs.YtapkckfgbimmcaaDoor.sl (Sl ints hide unhide grown_refl grown_trans)
set_option linter.unusedVariables false
def nextL (n : Int) (LL : List (List Int)) (a : List Int) : Nat → Option (List Int)
  | 0 => none
  | k + 1 => if a.getD k 0 = 1 then nextL n LL a k else match solveL n LL ((tl 0 a).take k ++ [(k : Int) + 1]) with
    | some l => some l
    | none => nextL n LL a k
/-- what Next answers -/
def nextO (n : Int) (LL : List (List Int)) (a : List Int) : Option (List Int) := if assignB n LL a then nextL n LL a n.toNat else none
theorem next_one {n : Int} {LL : List (List Int)} {a : List Int} {k : Nat} (h : a.getD k 0 = 1) : nextL n LL a (k + 1) = nextL n LL a k := if_pos h
theorem next_some {n : Int} {LL : List (List Int)} {a l : List Int} {k : Nat} (h : ¬ a.getD k 0 = 1) (hs : solveL n LL ((tl 0 a).take k ++ [(k : Int) + 1]) = some l) : nextL n LL a (k + 1) = some l := by
  rw [nextL, if_neg h, hs]
theorem next_none {n : Int} {LL : List (List Int)} {a : List Int} {k : Nat} (h : ¬ a.getD k 0 = 1) (hs : solveL n LL ((tl 0 a).take k ++ [(k : Int) + 1]) = none) : nextL n LL a (k + 1) = nextL n LL a k := by
  rw [nextL, if_neg h, hs]
theorem next_len (n : Int) (LL : List (List Int)) (a : List Int) : ((nextO n LL a).getD []).length ≤ 24 := by
  have key : ∀ k, ((nextL n LL a k).getD []).length ≤ 24 := by
    intro k
    induction k with
    | zero => exact Nat.zero_le _
    | succ k ih =>
      by_cases h : a.getD k 0 = 1
      · rw [next_one h]; exact ih
      · cases hs : solveL n LL ((tl 0 a).take k ++ [(k : Int) + 1]) with
        | none => rw [next_none h hs]; exact ih
        | some l =>
          rw [next_some h hs]
          have := solve_len n LL ((tl 0 a).take k ++ [(k : Int) + 1])
          rw [hs] at this
          exact this
  unfold nextO
  split
  · exact key _
  · exact Nat.zero_le _
theorem as_parts {n : Int} {LL : List (List Int)} {a : List Int} (h : assignB n LL a = true) : cnfB n LL = true ∧ (a.length : Int) = n ∧ ∀ x ∈ a, x = 0 ∨ x = 1 := by
  unfold tr.assignB at h
  rw [Bool.and_eq_true, Bool.and_eq_true, decide_eq_true_iff, List.all_eq_true] at h
  refine ⟨h.1.1, h.1.2, fun x hx => ?_⟩
  have := h.2 x hx
  unfold tr.bitB at this
  simp at this
  omega
theorem in_pm {n j : Nat} (h24 : n ≤ 24) (h : j < n) : litIn (n : Int) ((j : Int) + 1) = true ∧ litIn (n : Int) (-(j : Int) - 1) = true := by
  have key : ∀ x : Int, (x = (j : Int) + 1 ∨ x = -(j : Int) - 1) → litIn (n : Int) x = true := by
    intro x hx
    have ho : lits.okB x = true := by rw [lits.okB_iff]; omega
    unfold ok.litIn
    rw [ho, Bool.true_and, decide_eq_true_iff]
    unfold lits.varI
    rw [ho, if_pos rfl]
    split <;> omega
  exact ⟨key _ (.inl rfl), key _ (.inr rfl)⟩
theorem tl_form (l : List Int) : ∀ k, ∀ x ∈ tl k l, ∃ j, k ≤ j ∧ j < k + l.length ∧ (x = (j : Int) + 1 ∨ x = -(j : Int) - 1) := by
  induction l with
  | nil => intro k x hx; cases hx
  | cons y l ih =>
    intro k x hx
    rw [as_.tl, List.mem_cons] at hx
    rcases hx with rfl | hx
    · refine ⟨k, Nat.le_refl _, by simp, ?_⟩
      unfold as_.litAt
      split
      · exact .inl rfl
      · exact .inr rfl
    · obtain ⟨j, h1, h2, h3⟩ := ih (k + 1) x hx
      exact ⟨j, by omega, by rw [List.length_cons]; omega, h3⟩
theorem tl_in {a : List Int} (h24 : a.length ≤ 24) {k : Nat} (hk : k < a.length) : ∀ x ∈ (tl 0 a).take k ++ [(k : Int) + 1], litIn (a.length : Int) x = true := by
  intro x hx
  rw [List.mem_append] at hx
  rcases hx with hx | hx
  · obtain ⟨j, _, h2, h3⟩ := tl_form a 0 x (List.mem_of_mem_take hx)
    have := in_pm (j := j) h24 (by omega)
    rcases h3 with rfl | rfl
    · exact this.1
    · exact this.2
  · simp at hx
    subst hx
    exact (in_pm h24 hk).1
theorem own_take {w : World} {lo g n cap k : Nat} {t : TypeId} {xs : List Value} (h : w.ownsRow lo t 1 (.slice (some ⟨g, 0, none⟩) n cap) n xs) (hk : k ≤ n) : w.ownsRow lo t 1 (.slice (some ⟨g, 0, none⟩) k cap) k (xs.take k) := by
  obtain ⟨hl, h2⟩ := h
  refine ⟨by rw [List.length_take]; omega, ?_⟩
  rcases h2 with ⟨e, _⟩ | ⟨g', cap', cur, e, hb, hg, hn, hm, hc, ht⟩
  · cases e
  · injection e with e1 e2 e3
    injection e1 with e1
    injection e1 with e1
    subst e1
    subst e3
    refine .inr ⟨g, cap, cur, rfl, hb, hg, by omega, hm, hc, ?_⟩
    rw [← ht, List.take_take]
    congr 1
    omega
theorem own_pre {w : World} {lo g cap k : Nat} {L : List Int} (h : w.ownsRow lo 3 1 (.slice (some ⟨g, 0, none⟩) L.length cap) L.length (ints L)) (hk : k ≤ L.length) : sl.Own lo w.heap.size w (.slice (some ⟨g, 0, none⟩) k cap) (L.take k) := by
  have h1 := own_take h hk
  have e : (ints L).take k = ints (L.take k) := by simp [sl.ints]
  rw [e] at h1
  have e2 : (L.take k).length = k := by rw [List.length_take]; omega
  exact ⟨by rw [e2]; exact h1, fun j hj => (h1.lt j hj).2⟩
set_option maxRecDepth 100000 in
set_option maxHeartbeats 8000000 in
theorem implNext (v u : Value) (n : Int) (LL : List (List Int)) (a : List Int) (w : World) (hT : Tab w) (hn : tot LL ≤ 1048576) (ha : a.length ≤ 1048576) (hv : Sls w v LL) (hu : Sl w u a) :
    Calls Tryd.prog 23 #[.agg #[.int .i64 n, v], u] w fun e w' => FromE w (nextO n LL a) e w' := by
  have g0 := World.grownBy_alloc w (.cells #[.int .i64 n, v] 26) none
  have C1 := tr.implAssignOk v u n LL a _ hn ha (hv.kept g0) (hu.kept g0 (.inl rfl))
  have F0 := hide (Box.new 26 w (.int .i64 n) v)
  have HU := hide (hu.kept g0 (.inl rfl))
  have HV := hide (hv.kept g0)
  have HT := hide (hT.kept g0)
  have G0 := hide g0
  have x0 := (unhide F0).c0
  have x1 := (unhide F0).c1
  clear g0 hv hu hT
  cases hc : assignB n LL a
  · rw [hc] at C1
    have CC := hide C1
    rw [show nextO n LL a = none by unfold nextO; rw [hc]; rfl]
    clear C1 hc HV HU
    go_enter Tryd.func23, Tryd.ntmps23
    go_wp2_with fail
    refine (unhide CC).mono ?_; rintro e w1 ⟨rfl, g1⟩
    have G1 := hide (grown_trans (r := none) (unhide G0) g1)
    clear g1 CC x0 x1
    go_wp2_with fail
    go_ret2
    exact ⟨_, rfl, made_sub (unhide G1) (app.made_nil _)⟩
  rw [hc] at C1
  have CC := hide C1
  obtain ⟨hcn, hal, hbt⟩ := as_parts hc
  obtain ⟨m, rfl, h24, h120⟩ := cnf_parts hcn
  have hlm : a.length = m := by omega
  have EO : nextO (m : Int) LL a = nextL (m : Int) LL a m := by unfold nextO; rw [hc]; rfl
  rw [EO]
  have HC := hide hcn
  have hB : Hid (lq.Bits m a) := ⟨hlm, hbt⟩
  subst hlm
  clear C1 hc hcn EO hal
  obtain ⟨ua, uc, rfl, hcell⟩ := unhide HU
  have HCE := hide hcell
  clear hcell
  go_enter Tryd.func23, Tryd.ntmps23
  go_wp2_with fail
  refine (unhide CC).mono ?_; rintro e w1 ⟨rfl, g1⟩
  have G1 := hide (grown_trans (r := none) (unhide G0) g1)
  have F1 := hide ((unhide F0).kept g1)
  have T1 := hide ((unhide HT).kept g1)
  have U1 := hide ((unhide HU).kept g1 (.inl rfl))
  have CS := hide (solverOf v a.length LL w1 (unhide T1) h24 h120 hn (lits_in (unhide HC)) ((unhide HV).kept g1))
  have y0 := (unhide F1).c0
  have y1 := (unhide F1).c1
  have GW := hide g1
  clear g1 CC x0 x1 G0 F0 HV HT
  go_wp2_with fail
  refine (unhide CS).mono ?_; rintro e w2 ⟨c, s, rfl, h1, h2, g2⟩
  have H1 := hide h1
  have H2 := hide h2
  have G2 := hide (grown_trans (r := none) (unhide G1) g2)
  have T2 := hide ((unhide T1).kept g2)
  have U2 := hide ((unhide U1).kept g2 (.inl rfl))
  have CT := hide (as_.trueLiterals _ a w2 ha (unhide U2))
  replace GW := hide (grown_trans (r := none) (unhide GW) g2)
  clear h1 h2 g2 y0 y1 CS G1 F1 T1 U1
  go_wp2_with fail
  refine (unhide CT).mono ?_; rintro e w3 ⟨u3, rfl, o3, g3⟩
  have O3 := hide o3
  have G3 := hide g3
  obtain ⟨pa, pc, rfl⟩ := row_form o3
  rw [as_.tl_len] at *
  clear o3 g3 CT HU
  go_wp2_with fail
  go_loopw [8] (fun i wr => ∃ (j : Int) (k : Nat), k ≤ a.length ∧ i = .int .i64 j ∧ j = (k : Int) - 1 ∧ Hid (nextL (a.length : Int) LL a a.length = nextL (a.length : Int) LL a k) ∧ Hid (w3.grownBy wr none)) (fun i _ => (intOf i + 1).toNat)
  case atStart => exact ⟨_, a.length, Nat.le_refl _, rfl, by go_num, rfl, grown_refl _⟩
  case round =>
    obtain ⟨j, k, hk, rfl, hj, hnx, hg⟩ := hrel
    cases k with
    | zero =>
      obtain rfl : j = -1 := by omega
      clear hj
      go_wp2_with fail
      go_ret2
      rw [unhide hnx]
      exact ⟨_, rfl, made_sub (grown_trans (unhide G2) (grown_trans (unhide G3) (unhide hg))) (app.made_nil _)⟩
    | succ k =>
      obtain rfl : j = (k : Int) := by omega
      clear hj
      have hlt : k < a.length := hk
      rcases unhide HCE with h | ⟨b, off, rfl, hbl, hcb⟩
      · rw [h] at hlt
        simp at hlt
      · have c1 := (grown_trans (r := none) (unhide GW) (grown_trans (r := none) (unhide G3) (unhide hg))).cell (hcb k hlt) (fun e => by cases e)
        have hi' : (k : Int) < (a.length : Int) := by omega
        obtain ⟨g, cap, e, _⟩ := (unhide O3).form (by omega)
        rw [Value.slice.injEq] at e
        obtain ⟨rfl, hz, rfl⟩ := e
        clear hz
        have hcap : a.length ≤ pc := by
          rcases (unhide O3).2 with ⟨e, _⟩ | ⟨g', cap', cur, e, _, _, hn', _⟩
          · cases e
          · rw [Value.slice.injEq] at e
            obtain ⟨_, _, rfl⟩ := e
            exact hn'
        have hcapi : (k : Int) ≤ (pc : Int) := by omega
        by_cases h1 : a.getD k 0 = 1
        · have N := hide ((unhide hnx).trans (next_one h1))
          rw [h1] at c1
          clear hcb h1 hnx
          go_wp2_with fail
          go_roundw
          case rel => exact ⟨_, k, by omega, rfl, by go_num, unhide N, unhide hg⟩
          case measure => simp [intOf]
        · have og := (unhide O3).kept (unhide hg) (.inr (fun e => by cases e))
          have op := own_pre (L := tl 0 a) (k := k) (by rw [as_.tl_len]; exact og) (by rw [as_.tl_len]; omega)
          have CL := hide (bset.litsOf _ _ wr (by rw [List.length_take]; omega) op.sl)
          have hpl := srt.place_pos k (by omega)
          have CW := fun w' => bset.withC (setOf ((tl 0 a).take k)) ((k : Int) + 1) w' (setOf_lt _) hpl.1
          have es : bset.withN (setOf ((tl 0 a).take k)) ((k : Int) + 1) = setOf ((tl 0 a).take k ++ [(k : Int) + 1]) := by
            rw [bset.setOf_snoc, hpl.1]
            rfl
          rw [es] at CW
          have CW' := hide CW
          have hin := tl_in h24 hlt
          have GG := hide (grown_trans (r := none) (unhide G3) (unhide hg))
          have CB := leastAssignment a.length LL _ s c (unhide H2) hin wr ((unhide H1).kept (unhide GG)) ((unhide T2).kept (unhide GG))
          rw [← solve_yes (unhide HC) (List.all_eq_true.2 hin)] at CB
          have NS := hide (next_some (n := (a.length : Int)) (LL := LL) (l := (solveL (a.length : Int) LL ((tl 0 a).take k ++ [(k : Int) + 1])).getD []) h1)
          have NN := hide (next_none (n := (a.length : Int)) (LL := LL) h1)
          unfold lq.FromE at CB
          have CB' := hide CB
          have hne : ¬ a.getD k 0 = 1 := h1
          clear CB CW es op og hcb h1 hin
          generalize a.getD k 0 = y at *
          generalize setOf ((tl 0 a).take k ++ [(k : Int) + 1]) = Z at *
          generalize setOf ((tl 0 a).take k) = Y at *
          generalize solveL (a.length : Int) LL ((tl 0 a).take k ++ [(k : Int) + 1]) = O at *
          go_wp2_with fail
          refine (unhide CL).mono ?_; rintro e w4 ⟨rfl, hw⟩; have hw' := hw.symm; clear hw; subst hw'
          go_wp2_with fail
          refine (unhide CW' _).mono ?_; rintro e w4 ⟨rfl, hw⟩; have hw' := hw.symm; clear hw; subst hw'
          go_wp2_with fail
          refine (unhide CB').mono ?_; rintro e w4 ⟨r, rfl, m4⟩
          have M4 := hide m4
          cases O with
          | none =>
            have N := hide ((unhide hnx).trans (unhide NN rfl))
            have G4 := hide (grown_trans (r := none) (unhide hg) m4.2)
            clear m4 NN NS CB' CW' CL
            go_wp2_with fail
            go_roundw
            case rel => exact ⟨_, k, by omega, rfl, by go_num, unhide N, unhide G4⟩
            case measure => simp [intOf]
          | some l =>
            have N := hide ((unhide hnx).trans (unhide NS rfl))
            clear m4 NN NS CB' CW' CL
            go_wp2_with fail
            go_ret2
            rw [unhide N]
            exact ⟨_, rfl, made_sub (grown_trans (unhide G2) (unhide GG)) (unhide M4)⟩
theorem wrapP {i : Nat} (h : i < 24) : IntKind.i64.wrap ((i : Int) + 1) = (i : Int) + 1 := by
  have key : ∀ j : Fin 24, IntKind.i64.wrap ((j.val : Int) + 1) = (j.val : Int) + 1 := by decide
  exact key ⟨i, h⟩
theorem callS {v : Value} {n : Int} {LL : List (List Int)} {B : List Int} {wr w3 : World} {v2 : Value} (hn : tot LL ≤ 1048576) (hB : B.length ≤ 1048576) (hv : Sls wr v LL) (m : Made wr w3 v2 B) :
    Calls Tryd.prog 39 #[.agg #[.int .i64 n, v], v2] w3 fun e w' => ∃ r, e = .returned (.tuple #[r, .bool (solveL n LL B).isSome]) ∧ Made w3 w' r ((solveL n LL B).getD []) :=
  lq.specSolveWith v v2 n LL B _ _ w3 hn hB (hv.kept m.2) (sl.Own.of m.1)
set_option maxRecDepth 100000 in
set_option maxHeartbeats 8000000 in
theorem specNext (v u : Value) (n : Int) (LL : List (List Int)) (a : List Int) (w : World) (hn : tot LL ≤ 1048576) (ha : a.length ≤ 1048576) (hv : Sls w v LL) (hu : Sl w u a) :
    Calls Tryd.prog 41 #[.agg #[.int .i64 n, v], u] w fun e w' => FromE w (nextO n LL a) e w' := by
  have g0 := World.grownBy_alloc w (.cells #[.int .i64 n, v] 26) none
  have C1 := tr.specAssignOk v u n LL a _ hn ha (hv.kept g0) (hu.kept g0 (.inl rfl))
  have F0 := hide (Box.new 26 w (.int .i64 n) v)
  have HU := hide (hu.kept g0 (.inl rfl))
  have HV := hide (hv.kept g0)
  have G0 := hide g0
  have x0 := (unhide F0).c0
  have x1 := (unhide F0).c1
  clear g0 hv hu
  cases hc : assignB n LL a
  · rw [hc] at C1
    have CC := hide C1
    rw [show nextO n LL a = none by unfold nextO; rw [hc]; rfl]
    clear C1 hc HV HU
    go_enter Tryd.func41, Tryd.ntmps41
    go_wp2_with fail
    refine (unhide CC).mono ?_; rintro e w1 ⟨rfl, g1⟩
    have G1 := hide (grown_trans (r := none) (unhide G0) g1)
    clear g1 CC x0 x1
    go_wp2_with fail
    go_ret2
    exact ⟨_, rfl, made_sub (unhide G1) (app.made_nil _)⟩
  rw [hc] at C1
  have CC := hide C1
  obtain ⟨hcn, hal, hbt⟩ := as_parts hc
  obtain ⟨m, rfl, h24, h120⟩ := cnf_parts hcn
  have hlm : a.length = m := by omega
  have EO : nextO (m : Int) LL a = nextL (m : Int) LL a m := by unfold nextO; rw [hc]; rfl
  rw [EO]
  subst hlm
  clear C1 hc hcn EO hal hbt
  obtain ⟨ua, uc, rfl, hcell⟩ := unhide HU
  have HCE := hide hcell
  clear hcell
  go_enter Tryd.func41, Tryd.ntmps41
  go_wp2_with fail
  refine (unhide CC).mono ?_; rintro e w2 ⟨rfl, g1⟩
  have G2 := hide (grown_trans (r := none) (unhide G0) g1)
  have F1 := hide ((unhide F0).kept g1)
  have U1 := hide ((unhide HU).kept g1 (.inl rfl))
  have V1 := hide ((unhide HV).kept g1)
  have CT := hide (as_.l03Lits _ a w2 ha (unhide U1))
  have GW := hide g1
  clear g1 CC x0 x1 G0 F0 HV
  go_wp2_with fail
  refine (unhide CT).mono ?_; rintro e w3 ⟨u3, rfl, o3, g3⟩
  have O3 := hide o3
  have G3 := hide g3
  have F3 := hide ((unhide F1).kept g3)
  have V3 := hide ((unhide V1).kept g3)
  obtain ⟨pa, pc, rfl⟩ := row_form o3
  rw [as_.tl_len] at *
  have y0 := (unhide F3).c0
  have y1 := (unhide F3).c1
  clear o3 g3 CT HU U1 F1 V1
  go_wp2_with fail
  clear y0 y1
  go_loopw [7] (fun i wr => ∃ (j : Int) (k : Nat), k ≤ a.length ∧ i = .int .i64 j ∧ j = (k : Int) - 1 ∧ Hid (nextL (a.length : Int) LL a a.length = nextL (a.length : Int) LL a k) ∧ Hid (w3.grownBy wr none)) (fun i _ => (intOf i + 1).toNat)
  case atStart => exact ⟨_, a.length, Nat.le_refl _, rfl, by go_num, rfl, grown_refl _⟩
  case round =>
    obtain ⟨j, k, hk, rfl, hj, hnx, hg⟩ := hrel
    cases k with
    | zero =>
      obtain rfl : j = -1 := by omega
      clear hj
      go_wp2_with fail
      go_ret2
      rw [unhide hnx]
      exact ⟨_, rfl, made_sub (grown_trans (unhide G2) (grown_trans (unhide G3) (unhide hg))) (app.made_nil _)⟩
    | succ k =>
      obtain rfl : j = (k : Int) := by omega
      clear hj
      have hlt : k < a.length := hk
      rcases unhide HCE with h | ⟨b, off, rfl, hbl, hcb⟩
      · rw [h] at hlt
        simp at hlt
      · have c1 := (grown_trans (r := none) (unhide GW) (grown_trans (r := none) (unhide G3) (unhide hg))).cell (hcb k hlt) (fun e => by cases e)
        have hi' : (k : Int) < (a.length : Int) := by omega
        obtain ⟨g, cap, e, _⟩ := (unhide O3).form (by omega)
        rw [Value.slice.injEq] at e
        obtain ⟨rfl, hz, rfl⟩ := e
        clear hz
        have hcap : a.length ≤ pc := by
          rcases (unhide O3).2 with ⟨e, _⟩ | ⟨g', cap', cur, e, _, _, hn', _⟩
          · cases e
          · rw [Value.slice.injEq] at e
            obtain ⟨_, _, rfl⟩ := e
            exact hn'
        have hcapi : (k : Int) ≤ (pc : Int) := by omega
        by_cases h1 : a.getD k 0 = 1
        · have N := hide ((unhide hnx).trans (next_one h1))
          rw [h1] at c1
          clear hcb h1 hnx
          go_wp2_with fail
          go_roundw
          case rel => exact ⟨_, k, by omega, rfl, by go_num, unhide N, unhide hg⟩
          case measure => simp [intOf]
        · have og := (unhide O3).kept (unhide hg) (.inr (fun e => by cases e))
          have U2 := hide (own_pre (L := tl 0 a) (k := k) (by rw [as_.tl_len]; exact og) (by rw [as_.tl_len]; omega))
          have F2 := hide ((unhide F3).kept (unhide hg))
          have V2 := hide ((unhide V3).kept (unhide hg))
          have GG := hide (grown_trans (r := none) (unhide G3) (unhide hg))
          have z0 := (unhide F2).c0
          have z1 := (unhide F2).c1
          have hBl : ((tl 0 a).take k).length = k := by rw [List.length_take, as_.tl_len]; omega
          have NS := hide (next_some (n := (a.length : Int)) (LL := LL) (l := (solveL (a.length : Int) LL ((tl 0 a).take k ++ [(k : Int) + 1])).getD []) h1)
          have NN := hide (next_none (n := (a.length : Int)) (LL := LL) h1)
          have hwr : IntKind.i64.wrap ((k : Int) + 1) = (k : Int) + 1 := wrapP (by omega)
          have CI := hide (fun v2 w4 (m : Made wr w4 v2 ((tl 0 a).take k ++ [IntKind.i64.wrap ((k : Int) + 1)])) => callS (n := (a.length : Int)) (B := (tl 0 a).take k ++ [(k : Int) + 1]) hn (by rw [List.length_append, hBl]; simp; omega) (unhide V2) (by rw [hwr] at m; exact m))
          clear hwr
          have hne0 : ¬ a.getD k 0 = 1 := h1
          have hlo := (unhide F2).lt
          clear og hcb h1
          generalize a.getD k 0 = y at *
          generalize solveL (a.length : Int) LL ((tl 0 a).take k ++ [(k : Int) + 1]) = O at *
          generalize hBB : (tl 0 a).take k = B at *
          have HBL := hide hBl
          have hab0 : B.length ≤ 24 := by omega
          clear hBl hBB
          go_wp2_with fail
          have hA1 : Hid (wr.grownBy (wr.alloc (.cells #[] 3)).drew none) := hide (grown_trans (World.grownBy_alloc _ _ none) (cf.grown_drew _ none))
          have ho1 := hide (made_nilD wr)
          have hu1 := hide ((unhide U2).kept (unhide hA1))
          have hA2 : Hid (wr.grownBy ((wr.alloc (.cells #[] 3)).alloc (.cells #[.int .i64 (IntKind.i64.wrap ((k : Int) + 1))] 3)).drew none) := hide (grown_trans (grown_trans (r := none) (World.grownBy_alloc _ _ none) (World.grownBy_alloc _ _ none)) (cf.grown_drew _ none))
          have ho2 := hide (nil_one wr (IntKind.i64.wrap ((k : Int) + 1)))
          have hu2 := hide ((unhide U2).kept (unhide hA2))
          have hA3 : Hid (wr.grownBy ((wr.alloc (.cells #[.int .i64 (IntKind.i64.wrap ((k : Int) + 1))] 3)).alloc (.cells #[] 3)).drew none) := hide (grown_trans (grown_trans (r := none) (World.grownBy_alloc _ _ none) (World.grownBy_alloc _ _ none)) (cf.grown_drew _ none))
          have ho3 := hide (one_nil wr (IntKind.i64.wrap ((k : Int) + 1)))
          have hu3 := hide ((unhide U2).kept (unhide hA3))
          have hne : ¬ w.heap.size = wr.heap.size := by omega
          have hne2 : ¬ w.heap.size = wr.heap.size + 1 := by omega
          have hab : B.length + 1 ≤ 4194304 := by omega
          have hab1 : 0 + B.length ≤ 4194304 := by omega
          go_region_law
            (first
              | (go_simp; go_at_call 39; refine (unhide CI _ _ (unhide M3)).mono ?_; rintro e w4 ⟨r, rfl, m4⟩; have M4 := hide (made_sub (unhide M3).2 m4); clear m4)
              | (refine app.stepI (A := []) (unhide hA1) (unhide ho1) (unhide hu1) hab1 (by rfl) _ _ (by rfl) (by rfl) (by rfl) ?_; intro v2 w2 m2 g2; have M2 : Hid (Made wr w2 v2 B) := hide m2; have kb0 := (((unhide F2).kept (unhide M2).2).kept (World.grownBy_alloc w2 (.cells #[.int .i64 (IntKind.i64.wrap ((k : Int) + 1))] 3) none)).c0; have kb1 := (((unhide F2).kept (unhide M2).2).kept (World.grownBy_alloc w2 (.cells #[.int .i64 (IntKind.i64.wrap ((k : Int) + 1))] 3) none)).c1; have k0 := ((unhide F2).kept (unhide M2).2).c0; have k1 := ((unhide F2).kept (unhide M2).2).c1; have hn2 : ¬ w.heap.size = w2.heap.size := Nat.ne_of_lt ((unhide F2).kept (unhide M2).2).lt; clear m2 g2)
              | (refine app.stepI (A := []) (unhide hA2) (unhide ho2).1 (unhide hu2) hab1 (by rfl) _ _ (by rfl) (by rfl) (by rfl) ?_; intro v2 w2 m2 g2; have M2 : Hid (Made wr w2 v2 B) := hide m2; have XB := hide ((unhide ho2).2 w2 g2); have k0 := ((unhide F2).kept (unhide M2).2).c0; have k1 := ((unhide F2).kept (unhide M2).2).c1; have hn2 : ¬ w.heap.size = w2.heap.size := Nat.ne_of_lt ((unhide F2).kept (unhide M2).2).lt; clear m2 g2)
              | (refine app.stepI (A := []) (unhide hA3) (unhide ho3).1 (unhide hu3) hab1 (by rfl) _ _ (by rfl) (by rfl) (by rfl) ?_; intro v2 w2 m2 g2; have M2 : Hid (Made wr w2 v2 B) := hide m2; have XB := hide ((unhide ho3).2 w2 g2); have k0 := ((unhide F2).kept (unhide M2).2).c0; have k1 := ((unhide F2).kept (unhide M2).2).c1; have hn2 : ¬ w.heap.size = w2.heap.size := Nat.ne_of_lt ((unhide F2).kept (unhide M2).2).lt; clear m2 g2)
              | (refine app.stepI (unhide M2).2 (unhide M2).1 (unhide XB) hab (by rfl) _ _ (by rfl) (by rfl) (by rfl) ?_; intro v3 w3 m3 g3; have M3 := hide m3; have j0 := ((unhide F2).kept m3.2).c0; have j1 := ((unhide F2).kept m3.2).c1; clear m3 g3)
              | (refine app.stepI (grown_trans (unhide M2).2 (World.grownBy_alloc w2 (.cells #[.int .i64 (IntKind.i64.wrap ((k : Int) + 1))] 3) none)) ((unhide M2).1.alloc _) (one_own w2 (IntKind.i64.wrap ((k : Int) + 1))) hab (by rfl) _ _ (by rfl) (by rfl) (by rfl) ?_; intro v3 w3 m3 g3; have M3 := hide m3; have j0 := ((unhide F2).kept m3.2).c0; have j1 := ((unhide F2).kept m3.2).c1; clear m3 g3))
          all_goals
            cases O with
            | none =>
              have N := hide ((unhide hnx).trans (unhide NN rfl))
              have G4 := hide (grown_trans (r := none) (unhide hg) (unhide M4).2)
              clear NN NS CI
              go_wp2_with fail
              go_roundw
              case rel => exact ⟨_, k, by omega, rfl, by go_num, unhide N, unhide G4⟩
              case measure => simp [intOf]
            | some l =>
              have N := hide ((unhide hnx).trans (unhide NS rfl))
              clear NN NS CI
              go_wp2_with fail
              go_ret2
              rw [unhide N]
              exact ⟨_, rfl, made_sub (grown_trans (unhide G2) (unhide GG)) (unhide M4)⟩
theorem bothN (n : Int) (LL : List (List Int)) (L : List Int) (hn : tot LL ≤ 1048576) (hL : L.length ≤ 1048576) : ∃ (R : List Int) (b : Bool), R.length ≤ 1048576 ∧
    (∀ v u (lo hi : Nat) w, Sls w v LL → sl.Own lo hi w u L → Calls Tryd.prog 41 #[.agg #[.int .i64 n, v], u] w fun e w' => ∃ r, e = .returned (.tuple #[r, .bool b]) ∧ w'.ownsRow w.heap.size 3 1 r R.length (ints R) ∧ w.grownBy w' none) ∧
    (∀ v u (lo hi : Nat) w, srt.Tab w → Sls w v LL → sl.Own lo hi w u L → Calls Tryd.prog 23 #[.agg #[.int .i64 n, v], u] w fun e w' => ∃ r, e = .returned (.tuple #[r, .bool b]) ∧ w'.ownsRow w.heap.size 3 1 r R.length (ints R) ∧ w.grownBy w' none) :=
  ⟨_, _, Nat.le_trans (next_len n LL L) (by omega), fun v u lo hi w h k => specNext v u n LL L w hn hL h k.sl, fun v u lo hi w t h k => implNext v u n LL L w t hn hL h k.sl⟩
end Go.Proofs.YtapkckfgbimmcaaDoor.ks
