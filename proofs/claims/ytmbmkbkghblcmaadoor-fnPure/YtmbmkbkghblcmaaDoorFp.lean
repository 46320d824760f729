/- What Pure (of the program and of its model) answers at every formula that holds at most 2^20 values, where the library's table of places lies as its text lays it. -/
import Derived.Test.YtmbmkbkghblcmaaDoorFf
import Derived.Test.YtmbmkbkghblcmaaDoorSu
import Derived.Test.YtmbmkbkghblcmaaDoorTw
namespace Go.Proofs.YtmbmkbkghblcmaaDoor.fp
open Go.ChangeShapes Go.WideShapes Go.ChangeAt Go.RowKit
open Go.Proofs.YtmbmkbkghblcmaaDoor.lits (okB okB_iff okB_yes)
open Go.Proofs.YtmbmkbkghblcmaaDoor.sl (Sl Own ints hide unhide ret_int ret_bool grown_refl grown_trans grown_drewN)
open Go.Proofs.YtmbmkbkghblcmaaDoor.css (Sls OwnS tot)
open Go.Proofs.YtmbmkbkghblcmaaDoor.cf (Box)
open Go.Proofs.YtmbmkbkghblcmaaDoor.cls (hasB)
open Go.Proofs.YtmbmkbkghblcmaaDoor.bset (setOf setOf_lt)
open Go.Proofs.YtmbmkbkghblcmaaDoor.ok (cnfB)
open Go.Proofs.YtmbmkbkghblcmaaDoor.wo (Made)
open Go.Proofs.YtmbmkbkghblcmaaDoor.su (MadeU words)
open Go.Proofs.YtmbmkbkghblcmaaDoor.srt (srt Tab oppN oppN_lt andN andN_eq orN_eq or_lt)
open Go.Proofs.YtmbmkbkghblcmaaDoor.fm (freeN freeL pureN pureL cnf_facts orAll)
open Go.Proofs.YtmbmkbkghblcmaaDoor.ff (Made.low Made.up)
set_option linter.unusedVariables false

theorem pureL_no {n : Int} {LL : List (List Int)} (h : cnfB n LL = false) : pureL n LL = [] := by unfold fm.pureL; rw [h]; rfl
theorem pureL_yes {n : Int} {LL : List (List Int)} (h : cnfB n LL = true) : pureL n LL = srt (pureN LL.flatten) 48 := by unfold fm.pureL; rw [h]; rfl

theorem words_at {w : World} {lo : Nat} {v : Value} {S : List Nat} (ho : w.ownsRow lo 66 1 v S.length (words S)) :
    ∃ a cap, v = .slice a S.length cap ∧ ∀ k, k < S.length → ∃ g, a = some ⟨g, 0, none⟩ ∧ w.cell? ⟨g, k, none⟩ = some (.int .u64 (S.getD k 0 : Int)) := by
  have ho' := ho
  obtain ⟨_, h2⟩ := ho'
  rcases h2 with ⟨rfl, h0⟩ | ⟨g, cap, cur, rfl, _⟩
  · exact ⟨none, 0, by rw [h0], fun k hk => by omega⟩
  · refine ⟨_, cap, rfl, fun k hk => ⟨g, rfl, ?_⟩⟩
    rw [ho.cellAt k (by omega)]
    simp [su.words, hk]

set_option maxRecDepth 100000 in
set_option maxHeartbeats 2000000 in
theorem implPure (v : Value) (n : Int) (LL : List (List Int)) (w : World) (hT : Tab w) (hn : tot LL ≤ 1048576) (hv : Sls w v LL) :
    Calls Tryd.prog 20 #[.agg #[.int .i64 n, v]] w fun e w' => ∃ r, e = .returned r ∧ Made w w' r (pureL n LL) := by
  have g0 := World.grownBy_alloc w (.cells #[.int .i64 n, v] 35) none
  have cc := ok.implCnfOk v n LL _ hn (hv.kept g0)
  have F0 := hide (Box.new 35 w (.int .i64 n) v)
  have G0 := hide g0
  have HV := hide (hv.kept g0)
  have HT := hide (hT.kept g0)
  clear hv g0 hT
  have x0 := (unhide F0).c0
  have x1 := (unhide F0).c1
  cases hb : cnfB n LL
  · rw [hb] at cc
    rw [pureL_no hb]
    have CC := hide cc
    clear cc hb HV HT
    go_enter Tryd.func20, Tryd.ntmps20
    go_wp2_with fail
    refine (unhide CC).mono ?_; rintro e w2 ⟨rfl, g2⟩
    have G2 := hide (grown_trans (r := none) (unhide G0) g2)
    clear g2 F0 x0 x1
    go_wp2_with fail
    go_ret
    exact ⟨_, rfl, Made.low (unhide G2) (app.made_nil w2)⟩
  rw [hb] at cc
  rw [pureL_yes hb]
  have CC := hide cc
  have hl := Nat.le_trans (css.tot_len LL) hn
  clear cc hb
  go_enter Tryd.func20, Tryd.ntmps20
  go_wp2_with fail
  refine (unhide CC).mono ?_; rintro e w2 ⟨rfl, g2⟩
  have G2 := hide (grown_trans (r := none) (unhide G0) g2)
  have c1 := hide (su.setsOf v LL w2 hn ((unhide HV).kept g2))
  have T2 := hide ((unhide HT).kept g2)
  have F2 := hide ((unhide F0).kept g2)
  clear g2 F0 x0 x1 HV HT G0 CC
  have x0 := (unhide F2).c0
  have x1 := (unhide F2).c1
  go_wp2_with fail
  refine (unhide c1).mono ?_; rintro e w3 ⟨u3, rfl, m3⟩
  have ho := m3.1
  have form := words_at ho
  obtain ⟨a3, c3, rfl, hc⟩ := form
  have HC := hide hc
  have G3 := hide (grown_trans (r := none) (unhide G2) m3.2)
  have T3 := hide ((unhide T2).kept m3.2)
  have hsb : ∀ s ∈ LL.map setOf, s < 2 ^ 48 := by
    intro s hs
    rw [List.mem_map] at hs
    obtain ⟨L, _, rfl⟩ := hs
    exact setOf_lt L
  have hSl : (LL.map setOf).length ≤ 1048576 := by rw [List.length_map]; exact hl
  have EF := hide (fm.orAll_flat LL)
  have HSB := hide hsb
  clear hc ho m3 c1 T2 F2 G2 x0 x1 hl hsb
  generalize LL.map setOf = S at *
  go_wp2_with fail
  go_loop [3, 14] (fun s i => ∃ k : Nat, k ≤ S.length ∧ i = .int .i64 k ∧ s = .int .u64 (orAll (S.take k) : Nat)) (fun _ i => S.length - (intOf i).toNat)
  case atStart => exact ⟨0, Nat.zero_le _, rfl, rfl⟩
  case round =>
    obtain ⟨k, hk, rfl, rfl⟩ := hrel
    by_cases hlt : k < S.length
    · obtain ⟨g, rfl, c1⟩ := unhide HC k hlt
      have hi' : (k : Int) < (S.length : Int) := by omega
      have hts : S.take (k + 1) = S.take k ++ [S.getD k 0] := by rw [List.take_succ_eq_append_getElem hlt]; simp [hlt]
      have hs := unhide HSB (S.getD k 0) (by rw [show S.getD k 0 = S[k] by simp [hlt]]; exact List.getElem_mem hlt)
      have h1 := fm.orAll_lt (S.take k) (fun s hm => unhide HSB s (List.mem_of_mem_take hm))
      have E1 : Hid ((orAll (S.take (k + 1)) : Int) = bits .or .u64 (orAll (S.take k) : Int) (S.getD k 0 : Int)) := by
        show _ = _
        rw [hts, fm.orAll_snoc, orN_eq _ _ h1 hs]
      generalize S.getD k 0 = s at *
      generalize orAll (S.take k) = o at *
      clear hts HC HSB EF
      go_wp2
      go_round
      case rel => exact ⟨k + 1, by omega, by go_num, by rw [unhide E1]⟩
      case measure => simp [intOf]; omega
    · have hi' : ¬ (k : Int) < (S.length : Int) := by omega
      have e : S.take k = S := List.take_of_length_le (by omega)
      rw [e, unhide EF]
      have c3 := hide (srt.opposites (setOf LL.flatten) w3 (setOf_lt _))
      have c4 := srt.list (pureN LL.flatten) w3 (unhide T3) (fm.pureN_lt _)
      have e2 : ((pureN LL.flatten : Nat) : Int) = bits .andNot .u64 (setOf LL.flatten : Int) (oppN (setOf LL.flatten) : Int) := by
        rw [andN_eq _ _ (setOf_lt _) (oppN_lt _)]
        rfl
      rw [e2] at c4
      have C4 := hide c4
      generalize setOf LL.flatten = sL at *
      generalize oppN sL = oL at *
      clear HC HSB EF e e2 c4
      go_wp2_with fail
      refine (unhide c3).mono ?_; rintro e w4 ⟨rfl, hw⟩; have hw' := hw.symm; clear hw; subst hw'
      go_wp2_with fail
      refine (unhide C4).mono ?_; rintro e w4 ⟨r, rfl, o4, g4⟩
      have M4 : Hid (Made w w4 r (srt (pureN LL.flatten) 48)) := Made.low (unhide G3) ⟨o4, g4⟩
      clear o4 g4 C4 c3
      go_wp2_with fail
      go_ret
      exact ⟨_, rfl, unhide M4⟩

theorem flat_snoc (LL : List (List Int)) (k : Nat) (h : k < LL.length) : (LL.take (k + 1)).flatten = (LL.take k).flatten ++ LL.getD k [] := by
  rw [css.take_snoc LL k h, List.flatten_append]
  simp
theorem flat_take_len {LL : List (List Int)} {n : Int} (h : cnfB n LL = true) (k : Nat) : (LL.take k).flatten.length ≤ 5760 := by
  have hf := cnf_facts h
  have h1 := fm.flat_len (LL := LL.take k) (fun L hL => (hf.2.2.2 L (List.mem_of_mem_take hL)).1)
  have h2 : (LL.take k).length ≤ LL.length := by rw [List.length_take]; omega
  have := hf.2.2.1
  omega

set_option maxRecDepth 100000 in
set_option maxHeartbeats 4000000 in
theorem specPure (v : Value) (n : Int) (LL : List (List Int)) (lo hi : Nat) (w : World) (hn : tot LL ≤ 1048576) (hv : OwnS lo hi w v LL) :
    Calls Tryd.prog 22 #[.agg #[.int .i64 n, v]] w fun e w' => ∃ r, e = .returned r ∧ Made w w' r (pureL n LL) := by
  have g0 := World.grownBy_alloc w (.cells #[.int .i64 n, v] 35) none
  have m0 := app.made_nil (w.alloc (.cells #[.int .i64 n, v] 35))
  have g1 := World.grownBy_alloc (w.alloc (.cells #[.int .i64 n, v] 35)) (.cells #[] 3) none
  have F0 := hide (Box.new 35 w (.int .i64 n) v)
  have G0 := hide g0
  have HV := hide (hv.kept g0)
  have cc := ok.specCnfOk v n LL _ hn ((hv.sls.kept g0).kept g1)
  simp only [World.size_alloc] at m0
  have M0 := hide m0
  have x0 := ((unhide F0).kept g1).c0
  have x1 := ((unhide F0).kept g1).c1
  clear hv g0 g1 m0
  cases hb : cnfB n LL
  · rw [hb] at cc
    rw [pureL_no hb]
    have CC := hide cc
    clear cc hb HV
    go_enter Tryd.func22, Tryd.ntmps22
    go_wp2_with fail
    refine (unhide CC).mono ?_; rintro e w2 ⟨rfl, g2⟩
    have M2 := hide (Made.up (unhide M0) g2)
    have y0 := ((unhide F0).kept (unhide M2).2).c0
    clear g2 F0 x0 x1 M0
    go_wp2_with fail
    go_ret
    exact ⟨_, rfl, Made.low (unhide G0) (unhide M2)⟩
  have hf := cnf_facts hb
  obtain ⟨m, rfl⟩ := Int.eq_ofNat_of_zero_le hf.1
  have hm : m ≤ 24 := by omega
  have hl := hf.2.2.1
  have hfl := hide (flat_take_len hb)
  have hin : ∀ x ∈ LL.flatten, ok.litIn (m : Int) x = true := by
    intro x hx
    rw [List.mem_flatten] at hx
    obtain ⟨L, hL, hxL⟩ := hx
    exact (hf.2.2.2 L hL).2 x hxL
  have HE := hide (fm.pure_end hm hin)
  rw [hb] at cc
  rw [pureL_yes hb]
  have CC := hide cc
  clear cc hb hf hin
  obtain ⟨va, vc, rfl⟩ := (unhide HV).len
  go_enter Tryd.func22, Tryd.ntmps22
  go_wp2_with fail
  refine (unhide CC).mono ?_; rintro e w2 ⟨rfl, g2⟩
  have M2 := hide (Made.up (unhide M0) g2)
  have mn := hide (app.made_nil w2)
  clear g2 x0 x1 M0 CC
  go_wp2_with fail
  go_loopw [4, 5] (fun r i wr => ∃ k : Nat, k ≤ LL.length ∧ i = .int .i64 k ∧ Hid (Made w2 wr r (LL.take k).flatten)) (fun _ i _ => LL.length - (intOf i).toNat)
  case atStart => exact ⟨0, Nat.zero_le _, rfl, mn⟩
  case round =>
    obtain ⟨k, hk, rfl, hmd⟩ := hrel
    clear mn
    have hg := (unhide hmd).2
    have F3 := hide ((unhide F0).kept (grown_trans (r := none) (unhide M2).2 hg))
    have y0 := (unhide F3).c0
    have y1 := (unhide F3).c1
    by_cases hlt : k < LL.length
    · obtain ⟨g, cap', u', e, hgl, c0, hu0⟩ := app.own_at (((unhide HV).kept (unhide M2).2).kept hg) k hlt
      simp only [Value.slice.injEq] at e
      obtain ⟨rfl, _, rfl⟩ := e
      have hi' : (k : Int) < (LL.length : Int) := by omega
      have hts := flat_snoc LL k hlt
      have hM := unhide hfl k
      have hM' := unhide hfl (k + 1)
      rw [hts, List.length_append] at hM'
      generalize LL.getD k [] = L at *
      generalize (LL.take k).flatten = M at *
      have HT := hide hts
      have U0 := hide hu0
      obtain ⟨ua, uc, e1, _⟩ := hu0.sl
      subst e1
      clear hu0 hts HV hg
      go_wp2_with (at_builtin; refine app.appendI (unhide hmd).2 (unhide hmd).1 (unhide U0) (by omega) rfl _ _ rfl rfl rfl ?_)
      intro v' w1 m1 g1
      have M1 := hide m1
      clear m1 g1 U0 hmd
      go_wp2
      go_roundw
      case rel => exact ⟨k + 1, by omega, by go_num, by rw [unhide HT]; exact M1⟩
      case measure => simp [intOf]; omega
    · have hi' : ¬ (k : Int) < (LL.length : Int) := by omega
      have e : LL.take k = LL := List.take_of_length_le (by omega)
      rw [e] at hmd
      have hfl' : LL.flatten.length ≤ 5760 := by have := unhide hfl k; rw [e] at this; exact this
      have T0 := hide (tw.Two.mk_low (unhide M2) (unhide hmd))
      clear HV hg e hmd M2 hfl
      go_wp2
      clear hi' hlt hk
      clear y0 y1 F3
      go_loopw [3, 6] (fun r i wx => ∃ j : Nat, j ≤ m ∧ i = .int .i64 ((j : Int) + 1) ∧ Hid (tw.Two (w.alloc (.cells #[.int .i64 (m : Int), .slice va LL.length vc] 35)) wx r (srt (pureN LL.flatten) (2 * j)) u4 LL.flatten)) (fun _ i _ => 30 - (intOf i).toNat)
      case atStart => exact ⟨0, Nat.zero_le _, rfl, T0⟩
      case round =>
        obtain ⟨j, hj, rfl, ht⟩ := hrel
        clear T0
        have hg := (unhide ht).1.2
        have F3 := hide ((unhide F0).kept hg)
        have y0 := (unhide F3).c0
        have y1 := (unhide F3).c1
        by_cases hlt : j < m
        · have hi' : (j : Int) + 1 ≤ (m : Int) := by omega
          have hj24 : j < 24 := by omega
          have ca := cls.specClauseHas u4 LL.flatten ((j : Int) + 1) _ (by omega) (unhide ht).sl
          have cb := cls.specClauseHas u4 LL.flatten (-((j : Int) + 1)) _ (by omega) (unhide ht).sl
          have hle : (srt (pureN LL.flatten) (2 * j)).length ≤ 48 := Nat.le_trans (srt.srt_len _ _) (by omega)
          have py := fm.pure_pos (L := LL.flatten) hj24
          have pn := fm.pure_neg (L := LL.flatten) hj24
          have p0 := fm.pure_no (L := LL.flatten) hj24
          cases ha : hasB LL.flatten ((j : Int) + 1)
          all_goals cases hb : hasB LL.flatten (-((j : Int) + 1))
          · rw [ha] at ca
            rw [hb] at cb
            have E := hide (p0 (by rw [ha, hb]))
            have CA := hide ca
            have CB := hide cb
            clear py pn p0 ca cb ha hb hg
            generalize srt (pureN LL.flatten) (2 * j) = M at *
            go_wp2_with fail
            refine (unhide CA).mono ?_; rintro e w3 ⟨rfl, hw⟩; have hw' := hw.symm; clear hw; subst hw'
            go_wp2_with fail
            refine (unhide CB).mono ?_; rintro e w3 ⟨rfl, hw⟩; have hw' := hw.symm; clear hw; subst hw'
            clear CA CB y0 y1 F3
            go_wp2
            go_roundw
            case rel => exact ⟨j + 1, by omega, by go_num, by rw [unhide E]; exact ht⟩
            case measure => simp [intOf]; omega
          · rw [ha] at ca
            rw [hb] at cb
            have E := hide (pn ha hb)
            have CA := hide ca
            have CB := hide cb
            clear py pn p0 ca cb ha hb hg
            generalize srt (pureN LL.flatten) (2 * j) = M at *
            go_wp2_with fail
            refine (unhide CA).mono ?_; rintro e w3 ⟨rfl, hw⟩; have hw' := hw.symm; clear hw; subst hw'
            go_wp2_with fail
            refine (unhide CB).mono ?_; rintro e w3 ⟨rfl, hw⟩; have hw' := hw.symm; clear hw; subst hw'
            clear CA CB y0 y1 F3
            go_wp2_with (at_builtin; refine tw.append1 (unhide ht) (by omega) rfl _ _ rfl rfl rfl ?_)
            intro g cap w1 m1
            have M1 := hide m1
            clear m1 ht
            go_wp2
            go_roundw
            case rel => exact ⟨j + 1, by omega, by go_num, by rw [unhide E]; exact M1⟩
            case measure => simp [intOf]; omega
          · rw [ha] at ca
            rw [hb] at cb
            have E := hide (py ha hb)
            have CA := hide ca
            have CB := hide cb
            clear py pn p0 ca cb ha hb hg
            generalize srt (pureN LL.flatten) (2 * j) = M at *
            go_wp2_with fail
            refine (unhide CA).mono ?_; rintro e w3 ⟨rfl, hw⟩; have hw' := hw.symm; clear hw; subst hw'
            go_wp2_with fail
            refine (unhide CB).mono ?_; rintro e w3 ⟨rfl, hw⟩; have hw' := hw.symm; clear hw; subst hw'
            clear CA CB y0 y1 F3
            go_wp2_with (at_builtin; refine tw.append1 (unhide ht) (by omega) rfl _ _ rfl rfl rfl ?_)
            intro g cap w1 m1
            have M1 := hide m1
            clear m1 ht
            go_wp2
            go_roundw
            case rel => exact ⟨j + 1, by omega, by go_num, by rw [unhide E]; exact M1⟩
            case measure => simp [intOf]; omega
          · rw [ha] at ca
            rw [hb] at cb
            have E := hide (p0 (by rw [ha, hb]))
            have CA := hide ca
            have CB := hide cb
            clear py pn p0 ca cb ha hb hg
            generalize srt (pureN LL.flatten) (2 * j) = M at *
            go_wp2_with fail
            refine (unhide CA).mono ?_; rintro e w3 ⟨rfl, hw⟩; have hw' := hw.symm; clear hw; subst hw'
            go_wp2_with fail
            refine (unhide CB).mono ?_; rintro e w3 ⟨rfl, hw⟩; have hw' := hw.symm; clear hw; subst hw'
            clear CA CB y0 y1 F3
            go_wp2
            go_roundw
            case rel => exact ⟨j + 1, by omega, by go_num, by rw [unhide E]; exact ht⟩
            case measure => simp [intOf]; omega
        · have hi' : ¬ (j : Int) + 1 ≤ (m : Int) := by omega
          have hjj : j = m := by omega
          subst hjj
          have R := hide (Made.low (unhide G0) (unhide ht).1)
          clear ht hg
          generalize srt (pureN LL.flatten) (2 * j) = M at *
          go_wp2
          go_ret
          exact ⟨_, rfl, by rw [unhide HE]; exact unhide R⟩

theorem both (n : Int) (LL : List (List Int)) (hn : tot LL ≤ 1048576) : ∃ R : List Int, R.length ≤ 48 ∧
    (∀ v lo hi w, OwnS lo hi w v LL → Calls Tryd.prog 22 #[.agg #[.int .i64 n, v]] w fun e w' => ∃ r, e = .returned r ∧ w'.ownsRow w.heap.size 3 1 r R.length (ints R) ∧ w.grownBy w' none) ∧
    (∀ v w, Tab w → Sls w v LL → Calls Tryd.prog 20 #[.agg #[.int .i64 n, v]] w fun e w' => ∃ r, e = .returned r ∧ w'.ownsRow w.heap.size 3 1 r R.length (ints R) ∧ w.grownBy w' none) :=
  ⟨pureL n LL, fm.pureL_len n LL, fun v lo hi w h => specPure v n LL lo hi w hn h, fun v w t h => implPure v n LL w t hn h⟩
end Go.Proofs.YtmbmkbkghblcmaaDoor.fp
