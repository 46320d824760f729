/- What the model's l04Force and Force answer; no condition but on the sizes. -/
import Derived.Test.YtabiopkjeodamaaDoorSr
import Derived.Test.YtabiopkjeodamaaDoorFf
namespace Go.Proofs.YtabiopkjeodamaaDoor.sp
open Go.ChangeShapes Go.WideShapes Go.ChangeAt Go.RowKit
open Go.Proofs.YtabiopkjeodamaaDoor.lits (okB varI okB_iff)
open Go.Proofs.YtabiopkjeodamaaDoor.bset (placeN placeN_le placeN_inj setOf setOf_lt setOf_has setOf_bit withN setOf_snoc)
open Go.Proofs.YtabiopkjeodamaaDoor.css (Sls tot)
open Go.Proofs.YtabiopkjeodamaaDoor.cf (Box)
open Go.Proofs.YtabiopkjeodamaaDoor.ok (cnfB litIn)
open Go.Proofs.YtabiopkjeodamaaDoor.wo (Made)
open Go.Proofs.YtabiopkjeodamaaDoor.wm
open Go.Proofs.YtabiopkjeodamaaDoor.sl (Sl Own ints hide unhide ret_int ret_bool grown_refl grown_trans grown_drewN)
set_option linter.unusedVariables false

/-- the loop's place: n rounds are left -/
def Fat (Ss : List Nat) (wB w : World) (pv : Value) (F : List Int × Bool) (m n : Nat) (p : List Int) : Prop := Made wB w pv p ∧ frc Ss n (setOf p) p = F ∧ p.length + n = m ∧ 49 ≤ n + pc (setOf p)

set_option maxRecDepth 100000 in
set_option maxHeartbeats 2000000 in
theorem l04Force (v u : Value) (n : Int) (LL : List (List Int)) (L : List Int) (lo hi : Nat) (w : World) (hn : tot LL ≤ 1048576) (hL : L.length ≤ 1048576) (hc : ∀ c ∈ LL, ∀ x ∈ c, okB x = true) (hv : Sls w v LL) (hu : Own lo hi w u L) :
    Calls Tryd.prog 153 #[.agg #[.int .i64 n, v], u] w fun e w' => ∃ r, e = .returned (.tuple #[r, .bool (frc (LL.map setOf) 49 (setOf L) L).2]) ∧ Made w w' r (frc (LL.map setOf) 49 (setOf L) L).1 := by
  have g0 := World.grownBy_alloc w (.cells #[.int .i64 n, v] 47) none
  have F0 := hide (Box.new 47 w (.int .i64 n) v)
  have G0 := hide g0
  have mn := hide (app.made_nil (w.alloc (.cells #[.int .i64 n, v] 47)))
  have U0 := hide ((hu.kept g0).kept (unhide mn).2)
  have HV := hide (hv.kept g0)
  have HC := hide hc
  obtain ⟨ua, uc, eu, _⟩ := hu.sl
  subst eu
  generalize hF : frc (LL.map setOf) 49 (setOf L) L = F at *
  have HF := hide hF
  clear hv hu g0 hc hF
  simp only [World.size_alloc] at mn
  go_enter Tryd.func153, Tryd.ntmps153
  go_wp2_with (at_builtin; refine app.appendI (w := w.alloc (.cells #[.int .i64 n, v] 47)) (A := []) (unhide mn).2 (unhide mn).1 (unhide U0) (by show 0 + L.length ≤ 4194304; omega) rfl _ _ rfl rfl rfl ?_)
  intro y w3 m3 g3
  have st : Hid (Fat (LL.map setOf) (w.alloc (.cells #[.int .i64 n, v] 47)) w3 y F (L.length + 49) 49 L) := ⟨m3, unhide HF, rfl, by omega⟩
  obtain ⟨ya, yc, ey, _⟩ := Sl.of_own (show w3.ownsRow _ 3 1 y L.length (ints L) from m3.1)
  subst ey
  clear m3 g3 mn U0
  generalize hm : L.length + 49 = m at *
  have hm' : m ≤ 1048700 := by omega
  have hmL : L.length + 49 = m := hm
  clear hm
  go_wp2_with fail
  go_loopw [6] (fun pv wr => ∃ (q : Nat) (p : List Int), slLen pv + q = m ∧ Hid (Fat (LL.map setOf) (w.alloc (.cells #[.int .i64 n, v] 47)) wr pv F m q p)) (fun pv _ => m - slLen pv)
  case atStart => exact ⟨49, L, hmL, st⟩
  case round =>
    obtain ⟨q, p, hq, ha⟩ := hrel
    clear st
    obtain ⟨md, f1, f2, f3⟩ := unhide ha
    have hq0 : q ≠ 0 := fun e => by
      have := pc_le (setOf p)
      omega
    obtain ⟨q', rfl⟩ : ∃ q', q = q' + 1 := ⟨q - 1, by omega⟩
    have F1 := hide ((unhide F0).kept md.2)
    have y0 := (unhide F1).c0
    have y1 := (unhide F1).c1
    have hp : p.length ≤ 2097152 := by omega
    have sl := sl.Sl.of_own md.1
    have CU := hide (l04Unit v _ n LL p _ hn hp (unhide HC) ((unhide HV).kept md.2) sl)
    obtain ⟨pa, pcap, ep, _⟩ := sl
    have un := unit_new (Ss := LL.map setOf) (T := setOf p) (set_bd LL)
    have MD := hide md
    cases hok : (unitN (LL.map setOf) (setOf p)).2
    · have eF : Hid (F = (p, false)) := by
        show F = _
        rw [← f1]
        exact frc_stop hok
      rw [hok] at CU
      clear un f1 f2 f3 ha hok md HC HV
      subst ep
      generalize (unitN (LL.map setOf) (setOf p)).1 = x at *
      go_wp2_with fail
      refine (unhide CU).mono ?_; rintro e w4 ⟨rfl, g4⟩
      have M4 := hide (made_low (unhide G0) (ff.Made.up (unhide MD) g4))
      clear CU g4 y0 y1 F1 MD
      go_wp2_with fail
      go_ret2
      exact ⟨_, by rw [unhide eF]; rfl, by rw [unhide eF]; exact unhide M4⟩
    · rw [hok] at CU
      by_cases hx0 : (unitN (LL.map setOf) (setOf p)).1 = 0
      · have eF : Hid (F = (p, true)) := by
          show F = _
          rw [← f1]
          exact frc_end hok hx0
        rw [hx0] at CU
        clear un f1 f2 f3 ha hok md HC HV hx0
        subst ep
        go_wp2_with fail
        refine (unhide CU).mono ?_; rintro e w4 ⟨rfl, g4⟩
        have M4 := hide (made_low (unhide G0) (ff.Made.up (unhide MD) g4))
        clear CU g4 y0 y1 F1 MD
        go_wp2_with fail
        go_ret2
        exact ⟨_, by rw [unhide eF]; rfl, by rw [unhide eF]; exact unhide M4⟩
      · have un' := un hok hx0
        have eF := frc_more (n := q') (p := p) hok hx0
        rw [f1] at eF
        have hset : setOf (p ++ [(unitN (LL.map setOf) (setOf p)).1]) = withN (setOf p) (unitN (LL.map setOf) (setOf p)).1 := by rw [setOf_snoc, un'.1]; rfl
        have hpc := pc_with un'.1 un'.2.1
        generalize (unitN (LL.map setOf) (setOf p)).1 = x at *
        rw [← hset] at eF hpc
        have FX := hide eF
        have HP := hide (And.intro f2 (And.intro f3 hpc))
        have hxz : (x == 0) = false := by simpa using hx0
        clear un un' f1 f2 f3 ha hok md HC HV hx0 eF hset hpc
        subst ep
        have hpl : p.length ≤ 2097152 := hp
        go_wp2_with fail
        refine (unhide CU).mono ?_; rintro e w4 ⟨rfl, g4⟩
        have M4 := ff.Made.up (unhide MD) g4
        have m40 := M4.1
        have m41 := M4.2
        have HM := hide M4
        clear CU g4 y0 y1 F1 MD M4
        go_wp2_with (at_builtin; refine wo.append1 m41 m40 (by omega) rfl _ _ rfl rfl rfl ?_)
        intro v5 w5 R5
        have M5 := hide R5
        clear m40 m41 R5 HM
        obtain ⟨va, vc, ev, _⟩ := Sl.of_own (unhide M5).1
        rw [List.length_append] at ev
        have ev' : v5 = .slice va (p.length + 1) vc := ev
        subst ev'
        have hk := unhide HP
        go_wp2_with fail
        go_roundw
        case rel => exact ⟨q', p ++ [x], by show p.length + 1 + q' = m; omega, unhide M5, (unhide FX).symm, by rw [List.length_append]; show p.length + 1 + q' = m; omega, by omega⟩
        case measure => show m - (p.length + 1) < m - p.length; omega

theorem frc_len (Ss : List Nat) (n T : Nat) (p : List Int) : (frc Ss n T p).1.length ≤ p.length + n := by
  induction n generalizing T p with
  | zero => exact Nat.le_refl _
  | succ n ih =>
    cases hok : (unitN Ss T).2
    · rw [frc_stop hok]
      exact Nat.le_add_right _ _
    · by_cases h0 : (unitN Ss T).1 = 0
      · rw [frc_end hok h0]
        exact Nat.le_add_right _ _
      · rw [frc_more hok h0]
        have := ih (withN T (unitN Ss T).1) (p ++ [(unitN Ss T).1])
        rw [List.length_append] at this
        simp at this
        omega
theorem forceB_len (n : Int) (LL : List (List Int)) (L : List Int) : (forceB n LL L).1.length ≤ L.length + 49 := by
  unfold wm.forceB
  split
  · exact frc_len _ _ _ _
  · exact Nat.zero_le _

end Go.Proofs.YtabiopkjeodamaaDoor.sp
