/- What Free (of the program and of its model) answers at every formula that holds at most 2^20 values and every list of at most 2^20 numbers, where the library's table of places lies as its text lays it. -/
import Derived.Test.YtabiopkjeodamaaDoorFm
import Derived.Test.YtabiopkjeodamaaDoorVt
import Derived.Test.YtabiopkjeodamaaDoorSrtS
import Derived.Test.YtabiopkjeodamaaDoorApp
import Derived.Deep.RegionHeld3
namespace Go.Proofs.YtabiopkjeodamaaDoor.ff
open Go.ChangeShapes Go.WideShapes Go.ChangeAt Go.RowKit
open Go.Proofs.YtabiopkjeodamaaDoor.lits (okB okB_iff okB_yes)
open Go.Proofs.YtabiopkjeodamaaDoor.sl (Sl Own ints hide unhide ret_int ret_bool grown_refl grown_trans grown_drewN)
open Go.Proofs.YtabiopkjeodamaaDoor.css (Sls tot)
open Go.Proofs.YtabiopkjeodamaaDoor.cf (Box)
open Go.Proofs.YtabiopkjeodamaaDoor.cls (hasB)
open Go.Proofs.YtabiopkjeodamaaDoor.bset (setOf setOf_lt)
open Go.Proofs.YtabiopkjeodamaaDoor.ok (cnfB)
open Go.Proofs.YtabiopkjeodamaaDoor.wo (Made)
open Go.Proofs.YtabiopkjeodamaaDoor.srt (srt Tab oppN oppN_lt andN andN_eq orN_eq or_lt)
open Go.Proofs.YtabiopkjeodamaaDoor.fm (freeN freeL pureN pureL cnf_facts)
open Go.Proofs.YtabiopkjeodamaaDoor.cnt (ev)
set_option linter.unusedVariables false

theorem freeL_no {n : Int} {LL : List (List Int)} {L : List Int} (h : cnfB n LL = false) : freeL n LL L = [] := by unfold fm.freeL; rw [h]; rfl
theorem freeL_yes {m : Nat} {LL : List (List Int)} {L : List Int} (h : cnfB (m : Int) LL = true) : freeL (m : Int) LL L = srt (freeN m L) 48 := by unfold fm.freeL; rw [h]; rfl
theorem Made.low {w w1 w2 : World} {v : Value} {L : List Int} (g : w.grownBy w1 none) (h : Made w1 w2 v L) : Made w w2 v L :=
  ⟨css.own_mono h.1 g.size, grown_trans g h.2⟩
theorem Made.up {w w1 w2 : World} {v : Value} {L : List Int} (h : Made w w1 v L) (g : w1.grownBy w2 none) : Made w w2 v L :=
  ⟨h.1.kept g (by cases v.ownBlock with | none => exact .inl rfl | some k => exact .inr (by simp)), grown_trans h.2 g⟩

set_option maxRecDepth 100000 in
set_option maxHeartbeats 2000000 in
theorem specFree (v u : Value) (n : Int) (LL : List (List Int)) (L : List Int) (w : World) (hn : tot LL ≤ 1048576) (hL : L.length ≤ 1048576) (hv : Sls w v LL) (hu : Sl w u L) :
    Calls Tryd.prog 154 #[.agg #[.int .i64 n, v], u] w fun e w' => ∃ r, e = .returned r ∧ Made w w' r (freeL n LL L) := by
  have g0 := World.grownBy_alloc w (.cells #[.int .i64 n, v] 47) none
  have m0 := app.made_nil (w.alloc (.cells #[.int .i64 n, v] 47))
  have g1 := World.grownBy_alloc (w.alloc (.cells #[.int .i64 n, v] 47)) (.cells #[] 3) none
  have F0 := hide (Box.new 47 w (.int .i64 n) v)
  have G0 := hide g0
  have cc := ok.specCnfOk v n LL _ hn ((hv.kept g0).kept g1)
  simp only [World.size_alloc] at m0
  have M0 := hide m0
  have HU := hide (hu.kept g0 (.inl rfl))
  have x0 := ((unhide F0).kept g1).c0
  have x1 := ((unhide F0).kept g1).c1
  clear hv g0 g1 m0 hu
  cases hb : cnfB n LL
  · rw [hb] at cc
    rw [freeL_no hb]
    have CC := hide cc
    clear cc hb HU
    go_enter Tryd.func154, Tryd.ntmps154
    go_wp2_with fail
    refine (unhide CC).mono ?_; rintro e w2 ⟨rfl, g2⟩
    have M2 := hide (Made.up (unhide M0) g2)
    have y0 := ((unhide F0).kept (unhide M2).2).c0
    clear g2 F0 x0 x1 M0
    go_wp2_with fail
    go_ret
    exact ⟨_, rfl, Made.low (unhide G0) (unhide M2)⟩
  have hf := cnf_facts hb
  obtain ⟨m, rfl⟩ := Int.eq_ofNat_of_zero_le hf.1
  have hm : m ≤ 24 := by omega
  rw [hb] at cc
  rw [freeL_yes hb]
  have CC := hide cc
  clear cc hb hf
  go_enter Tryd.func154, Tryd.ntmps154
  go_wp2_with fail
  refine (unhide CC).mono ?_; rintro e w2 ⟨rfl, g2⟩
  have M2 := hide (Made.up (unhide M0) g2)
  clear g2 x0 x1 M0
  go_wp2_with fail
  go_loopw [5, 6] (fun r i wr => ∃ k : Nat, k ≤ m ∧ i = .int .i64 ((k : Int) + 1) ∧ Made (w.alloc (.cells #[.int .i64 (m : Int), v] 47)) wr r (srt (freeN m L) (2 * k))) (fun _ i _ => 30 - (intOf i).toNat)
  case atStart => exact ⟨0, Nat.zero_le _, rfl, unhide M2⟩
  case round =>
    obtain ⟨k, hk, rfl, hmd⟩ := hrel
    clear M2
    obtain ⟨hown, hg⟩ := hmd
    have hbx := hide ((unhide F0).kept hg)
    have x0 := (unhide hbx).c0
    have x1 := (unhide hbx).c1
    by_cases hlt : k < m
    · have hi' : (k : Int) + 1 ≤ (m : Int) := by omega
      have ca := cls.specClauseHas u L ((k : Int) + 1) wr hL ((unhide HU).kept hg (.inl rfl))
      have cb := cls.specClauseHas u L (-((k : Int) + 1)) wr hL ((unhide HU).kept hg (.inl rfl))
      have hle : (srt (freeN m L) (2 * k)).length ≤ 48 := Nat.le_trans (srt.srt_len _ _) (by omega)
      have fy := fm.free_yes (L := L) hm hlt
      have fn := fm.free_no (L := L) hm hlt
      have hsz := hg.size
      clear HU
      cases ha : hasB L ((k : Int) + 1)
      · rw [ha] at ca
        cases hb : hasB L (-((k : Int) + 1))
        · rw [hb] at cb
          have E := hide (fy ha hb)
          have CA := hide ca
          have CB := hide cb
          clear fy fn ca cb ha hb
          generalize srt (freeN m L) (2 * k) = M at *
          go_wp2_with fail
          refine (unhide CA).mono ?_; rintro e w3 ⟨rfl, hw⟩; have hw' := hw.symm; clear hw; subst hw'
          go_wp2_with fail
          refine (unhide CB).mono ?_; rintro e w3 ⟨rfl, hw⟩; have hw' := hw.symm; clear hw; subst hw'
          clear CA CB CC
          go_wp2_with (at_builtin; refine wo.append1 hg hown (by omega) rfl _ _ rfl rfl rfl ?_)
          intro v' w1 R
          clear hown hg x0 x1 hbx
          go_wp2
          go_roundw
          case rel => exact ⟨k + 1, by omega, by go_num, by rw [unhide E]; exact R⟩
          case measure => simp [intOf]; omega
        · rw [hb] at cb
          have E := hide (fn (.inr hb))
          have CA := hide ca
          have CB := hide cb
          clear fy fn ca cb ha hb
          generalize srt (freeN m L) (2 * k) = M at *
          go_wp2_with fail
          refine (unhide CA).mono ?_; rintro e w3 ⟨rfl, hw⟩; have hw' := hw.symm; clear hw; subst hw'
          go_wp2_with fail
          refine (unhide CB).mono ?_; rintro e w3 ⟨rfl, hw⟩; have hw' := hw.symm; clear hw; subst hw'
          have R : Hid (Made (w.alloc (.cells #[.int .i64 (m : Int), v] 47)) wr _ M) := ⟨hown, hg⟩
          clear CA CB CC hown hg x0 x1
          go_wp2
          go_roundw
          case rel => exact ⟨k + 1, by omega, by go_num, by rw [unhide E]; exact unhide R⟩
          case measure => simp [intOf]; omega
      · rw [ha] at ca
        have E := hide (fn (.inl ha))
        have CA := hide ca
        clear fy fn ca cb ha
        generalize srt (freeN m L) (2 * k) = M at *
        go_wp2_with fail
        refine (unhide CA).mono ?_; rintro e w3 ⟨rfl, hw⟩; have hw' := hw.symm; clear hw; subst hw'
        have R : Hid (Made (w.alloc (.cells #[.int .i64 (m : Int), v] 47)) wr _ M) := ⟨hown, hg⟩
        clear CA CC hown hg x0 x1
        go_wp2
        go_roundw
        case rel => exact ⟨k + 1, by omega, by go_num, by rw [unhide E]; exact unhide R⟩
        case measure => simp [intOf]; omega
    · have hi' : ¬ (k : Int) + 1 ≤ (m : Int) := by omega
      have hkk : k = m := by omega
      subst hkk
      have E := hide (fm.free_end L hm)
      have R : Hid (Made (w.alloc (.cells #[.int .i64 (k : Int), v] 47)) wr _ (srt (freeN k L) (2 * k))) := ⟨hown, hg⟩
      clear hown hg HU CC
      generalize srt (freeN k L) (2 * k) = M at *
      go_wp2
      go_ret
      exact ⟨_, rfl, by rw [unhide E]; exact Made.low (unhide G0) (unhide R)⟩
end Go.Proofs.YtabiopkjeodamaaDoor.ff
