/- What the model's Core answers at every formula that holds at most 2^20 values and every list of at most 2^20 numbers. -/
import Derived.Test.YtapkckfgbimmcaaDoorCo
import Derived.Test.YtapkckfgbimmcaaDoorNx
namespace Go.Proofs.YtapkckfgbimmcaaDoor.ks
open Go.ChangeShapes Go.WideShapes Go.ChangeAt Go.RowKit
open Go.Proofs.YtapkckfgbimmcaaDoor.lq (solveL FromE lits_in solve_no made_sub made_nilD)
open Go.Proofs.YtapkckfgbimmcaaDoor.css (Sls tot)
open Go.Proofs.YtapkckfgbimmcaaDoor.cf (Box)
open Go.Proofs.YtapkckfgbimmcaaDoor.ok (cnfB litIn)
open Go.Proofs.YtapkckfgbimmcaaDoor.wo (Made)
open Go.Proofs.YtapkckfgbimmcaaDoor.sl (Sl ints hide unhide grown_refl grown_trans)
set_option linter.unusedVariables false
/-- numbers that lie anywhere, behind numbers of the call's own -/
theorem wpT {o : Oper} {a : Act} {K : Act → World → Prop} {Q : Exit → Act → World → Prop} {w wr : World} {va : Value} {A B : List Int} {ad : Addr} {cap : Nat}
    (hg : w.grownBy wr none) (hA : wr.ownsRow w.heap.size 3 1 va A.length (ints A)) (hB : ∀ j, j < B.length → wr.cell? (ad.add j) = some (.int .i64 (B.getD j 0))) (hl : A.length + B.length ≤ 4194304) (s x : Operand)
    (ho : o.op = .call { callee := .builtin .append, args := #[s, x], argTypes := #[28, 28] }) (hs : a.eval s = va) (hx : a.eval x = .slice (some ad) B.length cap)
    (h : ∀ v' w1, Made w w1 v' (A ++ B) → wr.grownBy w1 va.ownBlock → K (a.put o.dst v') w1) : o.wp Tryd.prog a wr K Q := by
  obtain ⟨i0, hi, hz0, hz1, hz2⟩ := info_parts sl.info3
  have hsz := hg.size
  refine wp_append_own _ s x 28 ho w.heap.size 3 i0 (.int .i64 0) 1 8 Tryd.underlying28 hi hz0 hz1 hz2 rfl (by decide) va A.length (ints A) hs hA ad B.length cap (ints B) hx (by rw [sl.ints_length]; omega) ?_ ?_ ?_ ?_ ?_ ?_
  · intro j u hj
    have hjl : j < B.length := by
      have := (List.getElem?_eq_some_iff.1 hj).1
      rwa [sl.ints_length] at this
    rw [hB j hjl, ← hj]
    simp [sl.ints, hjl]
  · exact ints_oneCell .i64 B
  · unfold maxLen
    omega
  · omega
  · exact hsz
  · intro v' w1 hown' hgrow _
    refine h v' w1 ⟨?_, ⟨hgrow.os.trans hg.os, hgrow.tape.trans hg.tape, hgrow.output.trans hg.output, Nat.le_trans hsz hgrow.size, fun k hk _ => ?_⟩⟩ hgrow
    · rw [List.length_append, app.ints_append]
      exact hown'
    · rw [hgrow.block k (by omega) (fun e => by have := (hA.lt k e.symm).1; omega)]
      exact hg.block k hk (fun e => by cases e)
theorem stepT {ops : Array Oper} {E : Prop} {o : Oper} {a : Act} {K : Act → World → Prop} {Q : Exit → Act → World → Prop} {w wr : World} {va : Value} {A B : List Int} {ad : Addr} {n cap : Nat}
    (hg : w.grownBy wr none) (hA : wr.ownsRow w.heap.size 3 1 va A.length (ints A)) (hB : ∀ j, j < B.length → wr.cell? (ad.add j) = some (.int .i64 (B.getD j 0))) (hl : A.length + B.length ≤ 4194304) (hn : n = B.length) (hgd : o.guard = none) (s x : Operand)
    (ho : o.op = .call { callee := .builtin .append, args := #[s, x], argTypes := #[28, 28] }) (hs : a.eval s = va) (hx : a.eval x = .slice (some ad) n cap)
    (h : ∀ v' w1, Made w w1 v' (A ++ B) → wr.grownBy w1 va.ownBlock → K (a.put o.dst v') w1) : if Region.wanted o (yielded ops a.tmps) = true then Oper.wp Tryd.prog o a wr K Q else E := by
  rw [if_pos (by simp [Region.wanted, hgd])]
  subst hn
  exact wpT hg hA hB hl s x ho hs hx h
def lenOf : Value → Nat
  | .slice _ n _ => n
  | _ => 0
theorem core_step {n : Int} {LL : List (List Int)} {M : List Int} {k : Nat} (hk : k < M.length) : coreG n LL (M.take k) (M.drop k) = if cano n LL (M.take k ++ M.drop (k + 1)) then coreG n LL (M.take (k + 1)) (M.drop (k + 1)) else coreG n LL ((M.take k ++ M.drop (k + 1)).take k) ((M.take k ++ M.drop (k + 1)).drop k) := by
  have hl : (M.take k).length = k := by rw [List.length_take]; omega
  have e1 : (M.take k ++ M.drop (k + 1)).take k = M.take k := by rw [List.take_append_of_le_length (by omega), List.take_of_length_le (by omega)]
  have e2 : (M.take k ++ M.drop (k + 1)).drop k = M.drop (k + 1) := by rw [List.drop_append_of_le_length (by omega), List.drop_of_length_le (by omega), List.nil_append]
  rw [e1, e2, List.drop_eq_getElem_cons hk, coreG, List.take_succ_eq_append_getElem hk]
set_option maxRecDepth 100000 in
set_option maxHeartbeats 8000000 in
theorem specCore (v u : Value) (n : Int) (LL : List (List Int)) (a : List Int) (lo hi : Nat) (w : World) (hn : tot LL ≤ 1048576) (ha : a.length ≤ 1048576) (hv : Sls w v LL) (hu : sl.Own lo hi w u a) :
    Calls Tryd.prog 27 #[.agg #[.int .i64 n, v], u] w fun e w' => FromE w (coreO n LL a) e w' := by
  obtain ⟨O, hO⟩ : ∃ O, coreO n LL a = O := ⟨_, rfl⟩
  rw [hO]
  have HO := hide hO
  clear hO
  have g0 := World.grownBy_alloc w (.cells #[.int .i64 n, v] 26) none
  have C1 := ok.specCnfOk v n LL _ hn (hv.kept g0)
  have F0 := hide (Box.new 26 w (.int .i64 n) v)
  have HU := hide (hu.kept g0)
  have HV := hide (hv.kept g0)
  have G0 := hide g0
  obtain ⟨ua, uc, rfl, _⟩ := hu.sl
  have x0 := (unhide F0).c0
  have x1 := (unhide F0).c1
  clear g0 hv hu
  cases hc : cnfB n LL
  · rw [hc] at C1
    have CC := hide C1
    have E := hide ((unhide HO).symm.trans (core_none (n := n) (LL := LL) (a := a) (by rw [hc]; rfl)))
    clear C1 hc HV HU
    go_enter Tryd.func27, Tryd.ntmps27
    go_wp2_with fail
    refine (unhide CC).mono ?_; rintro e w1 ⟨rfl, g1⟩
    have G1 := hide (grown_trans (r := none) (unhide G0) g1)
    clear g1 CC x0 x1
    go_wp2_with fail
    go_ret2
    rw [unhide E]
    exact ⟨_, rfl, made_sub (unhide G1) (app.made_nil _)⟩
  rw [hc] at C1
  have CC := hide C1
  have HC := hide hc
  clear C1 hc
  go_enter Tryd.func27, Tryd.ntmps27
  go_wp2_with fail
  refine (unhide CC).mono ?_; rintro e w1 ⟨rfl, g1⟩
  have G1 := hide (grown_trans (r := none) (unhide G0) g1)
  have F1 := hide ((unhide F0).kept g1)
  have U1 := hide ((unhide HU).kept g1)
  have V1 := hide ((unhide HV).kept g1)
  have y0 := (unhide F1).c0
  have y1 := (unhide F1).c1
  have CL := l4.l04Lits v (.slice ua a.length uc) n a w1 ha (unhide U1).sl
  clear g1 CC x0 x1 G0 F0 HU HV
  cases hl : a.all (litIn n)
  · rw [hl] at CL
    have C2 := hide CL
    have E := hide ((unhide HO).symm.trans (core_none (n := n) (LL := LL) (a := a) (by rw [hl, Bool.and_false])))
    clear CL hl V1 U1 HC
    go_wp2_with fail
    refine (unhide C2).mono ?_; rintro e w2 ⟨rfl, g2⟩
    have G2 := hide (grown_trans (r := none) (unhide G1) g2)
    clear g2 C2 y0 y1
    go_wp2_with fail
    go_ret2
    rw [unhide E]
    exact ⟨_, rfl, made_sub (unhide G2) (app.made_nil _)⟩
  rw [hl] at CL
  have C2 := hide CL
  have EO : Hid (O = if cano n LL a then none else some (coreG n LL [] a)) := by
    have := unhide HO
    unfold coreO at this
    rw [unhide HC, hl] at this
    exact this.symm
  clear CL hl HO
  go_wp2_with fail
  refine (unhide C2).mono ?_; rintro e w2 ⟨rfl, g2⟩
  have G2 := hide (grown_trans (r := none) (unhide G1) g2)
  have F2 := hide ((unhide F1).kept g2)
  have U2 := hide ((unhide U1).kept g2)
  have V2 := hide ((unhide V1).kept g2)
  have CS := lq.specSolveWith v (.slice ua a.length uc) n LL a _ _ w2 hn ha (unhide V2) (unhide U2)
  clear g2 C2 y0 y1 G1 F1 U1 V1
  have z0 := (unhide F2).c0
  have z1 := (unhide F2).c1
  unfold lq.FromE at CS
  unfold cano at EO
  generalize (solveL n LL a).getD [] = RS at *
  cases hs : (solveL n LL a).isSome
  · rw [hs] at CS EO
    have CS' := hide CS
    have E : Hid (O = some (coreG n LL [] a)) := unhide EO
    clear CS hs EO
    go_wp2_with fail
    refine (unhide CS').mono ?_; rintro e w3 ⟨r3, rfl, m3⟩
    have G3 := hide (grown_trans (r := none) (unhide G2) m3.2)
    have F3 := hide ((unhide F2).kept m3.2)
    have V3 := hide ((unhide V2).kept m3.2)
    have gA := World.grownBy_alloc w3 (.cells #[] 3) none
    have U3 := hide (((unhide U2).kept m3.2).kept gA)
    have M3 := hide (app.made_nil w3)
    have hab1 : ([] : List Int).length + a.length ≤ 4194304 := by simp; omega
    clear m3 z0 z1 CS' gA G2 U2 V2 F2
    go_wp2_with (at_builtin; refine app.appendI (A := []) (unhide M3).2 (unhide M3).1 (unhide U3) hab1 rfl _ _ rfl rfl rfl ?_)
    intro v4 w4 m4 _
    have M4 : Hid (Made w3 w4 v4 a) := m4
    clear m4 M3 U3
    go_wp2_with fail
    go_loopw [8, 9] (fun uv iv wr => ∃ (M : List Int) (k : Nat), k ≤ M.length ∧ M.length ≤ a.length ∧ iv = .int .i64 (k : Int) ∧ Hid (coreG n LL [] a = coreG n LL (M.take k) (M.drop k)) ∧ Made w3 wr uv M) (fun uv iv _ => lenOf uv - (intOf iv).toNat)
    case atStart => exact ⟨a, 0, Nat.zero_le _, Nat.le_refl _, rfl, rfl, unhide M4⟩
    case round =>
      obtain ⟨M, k, hk, hMa, rfl, hcore, hmd⟩ := hrel
      clear M4
      obtain ⟨ma, mc, rfl⟩ := row_form hmd.1
      by_cases hlt : k < M.length
      · obtain ⟨g, cap, e, _⟩ := hmd.1.form (by omega)
        rw [Value.slice.injEq] at e
        obtain ⟨rfl, hz, rfl⟩ := e
        clear hz
        have hcap : M.length ≤ mc := by
          rcases hmd.1.2 with ⟨e, _⟩ | ⟨g', cap', cur, e, _, _, hn', _⟩
          · cases e
          · rw [Value.slice.injEq] at e
            obtain ⟨_, _, rfl⟩ := e
            exact hn'
        have hcapi : (k : Int) ≤ (mc : Int) := by omega
        have hi' : (k : Int) < (M.length : Int) := by omega
        have hi1 : (k : Int) + 1 ≤ (M.length : Int) := by omega
        have cst := core_step (n := n) (LL := LL) hlt
        have U5 := hide (own_pre (L := M) (k := k) hmd.1 (by omega))
        have HM := hide hmd
        have hA1 : Hid (wr.grownBy (wr.alloc (.cells #[] 3)).drew none) := hide (grown_trans (World.grownBy_alloc _ _ none) (cf.grown_drew _ none))
        have ho1 := hide (made_nilD wr)
        have hu1 := hide ((unhide U5).kept (unhide hA1))
        have hTl : (M.take k).length = k := by rw [List.length_take]; omega
        have hDl : (M.drop (k + 1)).length = M.length - (k + 1) := by rw [List.length_drop]
        have hab1 : Hid (([] : List Int).length + (M.take k).length ≤ 4194304) := by show _ ≤ _; simp; omega
        have hab2 : Hid ((M.take k).length + (M.drop (k + 1)).length ≤ 4194304) := by show _ ≤ _; omega
        have HB : Hid (∀ w2, wr.grownBy w2 none → ∀ j, j < (M.drop (k + 1)).length → w2.cell? ⟨g, k + 1 + j, none⟩ = some (.int .i64 ((M.drop (k + 1)).getD j 0))) := by
          intro w2 g2 j hj
          have := hmd.1.cellAt (k + 1 + j) (by omega)
          refine g2.cell (this.trans ?_) (fun e => by cases e)
          simp [sl.ints, show k + 1 + j < M.length by omega]
        have HNL : Hid (M.length - (k + 1) = (M.drop (k + 1)).length) := hDl.symm
        have HTD := hide (And.intro hTl hDl)
        have hcap2 : (k : Int) + 1 ≤ (mc : Int) := by omega
        clear hTl hDl hmd
        have hw1 : IntKind.i64.wrap ((k : Int) + 1) = (k : Int) + 1 := by rw [IntKind.wrap_i64]; omega
        have hw2 : (0 : Int) ≤ (k : Int) + 1 := by omega
        have hw4 : (k : Int) ≤ (k : Int) + 1 := by omega
        have hw3 : ((k : Int) + 1).toNat = k + 1 := by omega
        have CSS := hide (fun v2 w6 (m6 : Made wr w6 v2 (M.take k ++ M.drop (k + 1))) => callS (n := n) hn (by rw [List.length_append, (unhide HTD).1, (unhide HTD).2]; omega) ((unhide V3).kept (unhide HM).2) m6)
        obtain ⟨bb, hbb⟩ : ∃ bb, cano n LL (M.take k ++ M.drop (k + 1)) = bb := ⟨_, rfl⟩
        rw [hbb] at cst
        have EC0 : Hid (bb = false → coreG n LL (M.take k) (M.drop k) = coreG n LL ((M.take k ++ M.drop (k + 1)).take k) ((M.take k ++ M.drop (k + 1)).drop k)) := fun e => by rw [cst, e]; rfl
        have EC1 : Hid (bb = true → coreG n LL (M.take k) (M.drop k) = coreG n LL (M.take (k + 1)) (M.drop (k + 1))) := fun e => by rw [cst, e]; rfl
        unfold cano at hbb
        rw [hbb] at CSS
        clear hbb cst
        by_cases hkc : mc = k + 1
        · have HBX0 : ∀ w5, wr.grownBy w5 none → ∀ j, j < (M.drop (k + 1)).length → w5.cell? ((⟨g, 0, none⟩ : Addr).add j) = some (.int .i64 ((M.drop (k + 1)).getD j 0)) := fun w5 g5 j hj => by have := (unhide HTD).2; omega
          have HN0 : Hid (0 = (M.drop (k + 1)).length) := by show 0 = _; have := (unhide HTD).2; omega
          have HBX := hide HBX0
          clear HBX0
          subst hkc
          go_wp2_with fail
          go_region_law
            (first
              | (refine app.stepI (A := []) (unhide hA1) (unhide ho1) (unhide hu1) (unhide hab1) (by rfl) _ _ (by rfl) (by rfl) (by rfl) ?_; intro v5 w5 m5 g5; have M5 : Hid (Made wr w5 v5 (M.take k)) := hide m5; have B5 := hide (unhide HBX w5 m5.2); clear m5 g5)
              | (refine stepT (unhide M5).2 (unhide M5).1 (unhide B5) (unhide hab2) (unhide HN0) (by rfl) _ _ (by rfl) (by rfl) (by rfl) ?_; intro v6 w6 m6 g6; have M6 := hide m6; clear m6 g6))
          all_goals
            have F6 := hide ((unhide F3).kept (grown_trans (unhide HM).2 (unhide M6).2))
            have z0 := (unhide F6).c0
            have z1 := (unhide F6).c1
            have CI := hide (unhide CSS _ _ (unhide M6))
            clear hA1 ho1 hu1 M5 B5
            go_wp2_with fail
            refine (unhide CI).mono ?_
            rintro e w7 ⟨r7, rfl, m7⟩
            have M7 := hide (mup (unhide HM) (grown_trans (unhide M6).2 m7.2))
            have N7 := hide (made_sub (unhide HM).2 (mup (unhide M6) m7.2))
            clear m7
            cases bb
            · have EN := hide ((unhide hcore).trans (unhide EC0 rfl))
              go_wp2_with fail
              go_roundw
              case rel => exact ⟨M.take k ++ M.drop (k + 1), k, by rw [List.length_append, (unhide HTD).1]; omega, by rw [List.length_append, (unhide HTD).1, (unhide HTD).2]; omega, rfl, unhide EN, unhide N7⟩
              case measure =>
                obtain ⟨ra, rc, e⟩ := row_form (unhide N7).1
                rw [e, List.length_append, (unhide HTD).1, (unhide HTD).2]
                simp [lenOf, intOf]
                omega
            · have EN := hide ((unhide hcore).trans (unhide EC1 rfl))
              go_wp2_with fail
              go_roundw
              case rel => exact ⟨M, k + 1, by omega, hMa, by go_num, unhide EN, unhide M7⟩
              case measure => simp [lenOf, intOf]; omega
        · have HBX0 : ∀ w5, wr.grownBy w5 none → ∀ j, j < (M.drop (k + 1)).length → w5.cell? ((⟨g, k + 1, none⟩ : Addr).add j) = some (.int .i64 ((M.drop (k + 1)).getD j 0)) := fun w5 g5 j hj => by
            rw [Addr.add_mid]
            exact unhide HB w5 g5 j hj
          have HBX := hide HBX0
          clear HBX0
          go_wp2_with fail
          go_region_law
            (first
              | (refine app.stepI (A := []) (unhide hA1) (unhide ho1) (unhide hu1) (unhide hab1) (by rfl) _ _ (by rfl) (by rfl) (by rfl) ?_; intro v5 w5 m5 g5; have M5 : Hid (Made wr w5 v5 (M.take k)) := hide m5; have B5 := hide (unhide HBX w5 m5.2); clear m5 g5)
              | (refine stepT (unhide M5).2 (unhide M5).1 (unhide B5) (unhide hab2) (unhide HNL) (by rfl) _ _ (by rfl) (by rfl) (by rfl) ?_; intro v6 w6 m6 g6; have M6 := hide m6; clear m6 g6))
          all_goals
            have F6 := hide ((unhide F3).kept (grown_trans (unhide HM).2 (unhide M6).2))
            have z0 := (unhide F6).c0
            have z1 := (unhide F6).c1
            have CI := hide (unhide CSS _ _ (unhide M6))
            clear hA1 ho1 hu1 M5 B5
            go_wp2_with fail
            refine (unhide CI).mono ?_
            rintro e w7 ⟨r7, rfl, m7⟩
            have M7 := hide (mup (unhide HM) (grown_trans (unhide M6).2 m7.2))
            have N7 := hide (made_sub (unhide HM).2 (mup (unhide M6) m7.2))
            clear m7
            cases bb
            · have EN := hide ((unhide hcore).trans (unhide EC0 rfl))
              go_wp2_with fail
              go_roundw
              case rel => exact ⟨M.take k ++ M.drop (k + 1), k, by rw [List.length_append, (unhide HTD).1]; omega, by rw [List.length_append, (unhide HTD).1, (unhide HTD).2]; omega, rfl, unhide EN, unhide N7⟩
              case measure =>
                obtain ⟨ra, rc, e⟩ := row_form (unhide N7).1
                rw [e, List.length_append, (unhide HTD).1, (unhide HTD).2]
                simp [lenOf, intOf]
                omega
            · have EN := hide ((unhide hcore).trans (unhide EC1 rfl))
              go_wp2_with fail
              go_roundw
              case rel => exact ⟨M, k + 1, by omega, hMa, by go_num, unhide EN, unhide M7⟩
              case measure => simp [lenOf, intOf]; omega
      · have hi' : ¬ (k : Int) < (M.length : Int) := by omega
        have ER : Hid (O = some M) := by
          have hkM : k = M.length := by omega
          have := unhide hcore
          rw [hkM, List.drop_length, List.take_length, coreG] at this
          show O = some M
          rw [unhide E, this]
        have HM := hide hmd
        clear hmd
        go_wp2_with fail
        go_ret2
        rw [unhide ER]
        exact ⟨_, rfl, made_sub (unhide G3) (unhide HM)⟩
  · rw [hs] at CS EO
    have CS' := hide CS
    have E : Hid (O = none) := unhide EO
    clear CS hs EO
    go_wp2_with fail
    refine (unhide CS').mono ?_; rintro e w3 ⟨r3, rfl, m3⟩
    have G3 := hide (grown_trans (r := none) (unhide G2) m3.2)
    clear m3 z0 z1 CS'
    go_wp2_with fail
    go_ret2
    rw [unhide E]
    exact ⟨_, rfl, made_sub (unhide G3) (app.made_nil _)⟩
theorem bothC (n : Int) (LL : List (List Int)) (L : List Int) (hn : tot LL ≤ 1048576) (hL : L.length ≤ 1048576) : ∃ (R : List Int) (b : Bool), R.length ≤ 1048576 ∧
    (∀ v u (lo hi : Nat) w, Sls w v LL → sl.Own lo hi w u L → Calls Tryd.prog 27 #[.agg #[.int .i64 n, v], u] w fun e w' => ∃ r, e = .returned (.tuple #[r, .bool b]) ∧ w'.ownsRow w.heap.size 3 1 r R.length (ints R) ∧ w.grownBy w' none) ∧
    (∀ v u (lo hi : Nat) w, srt.Tab w → Sls w v LL → sl.Own lo hi w u L → Calls Tryd.prog 26 #[.agg #[.int .i64 n, v], u] w fun e w' => ∃ r, e = .returned (.tuple #[r, .bool b]) ∧ w'.ownsRow w.heap.size 3 1 r R.length (ints R) ∧ w.grownBy w' none) :=
  ⟨_, _, Nat.le_trans (core_len n LL L) hL, fun v u lo hi w h k => specCore v u n LL L lo hi w hn hL h k, fun v u lo hi w t h k => implCore v u n LL L w t hn hL h k.sl⟩
end Go.Proofs.YtapkckfgbimmcaaDoor.ks
