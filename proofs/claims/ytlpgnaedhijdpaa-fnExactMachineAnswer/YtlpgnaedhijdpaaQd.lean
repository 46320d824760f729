/- What MachineAnswer (of the program and of its model) answers at every machine that holds at most 2^20 values; no other condition. -/
import Derived.Test.YtlpgnaedhijdpaaQb
import Derived.Test.YtlpgnaedhijdpaaQv
namespace Go.Proofs.Ytlpgnaedhijdpaa.qd
open Go.ChangeShapes Go.WideShapes Go.ChangeAt Go.RowKit
open Go.Proofs.Ytlpgnaedhijdpaa.qm (turnB machB vals vals_len vals_snoc valuesOf)
open Go.Proofs.Ytlpgnaedhijdpaa.qa (Box5)
open Go.Proofs.Ytlpgnaedhijdpaa.css (Sls tot own_mono)
open Go.Proofs.Ytlpgnaedhijdpaa.wo (Made)
open Go.Proofs.Ytlpgnaedhijdpaa.sl (Sl Own ints hide unhide ret_int ret_bool grown_refl grown_trans)
set_option linter.unusedVariables false
def ansB (n : Int) (LL : List (List Int)) (P : List Int) (st k : Int) : Bool := machB n LL P st k && decide (st = 1)
def ansL (n : Int) (LL : List (List Int)) (P : List Int) (st k : Int) : List Int := if ansB n LL P st k then vals P else []
theorem ans_no {n st k : Int} {LL : List (List Int)} {P : List Int} (h : ansB n LL P st k = false) : ansL n LL P st k = [] := by unfold ansL; rw [h]; rfl
theorem ans_yes {n st k : Int} {LL : List (List Int)} {P : List Int} (h : ansB n LL P st k = true) : ansL n LL P st k = vals P := by unfold ansL; rw [h]; rfl
theorem ans_len (n : Int) (LL : List (List Int)) (P : List Int) (st k : Int) (h : P.length ≤ 1048576) : (ansL n LL P st k).length ≤ 1048576 := by
  unfold ansL
  split
  · rw [vals_len]; exact h
  · exact Nat.zero_le _
theorem made_sub {w w1 w2 : World} {v : Value} {L : List Int} (g : w.grownBy w1 none) (h : Made w1 w2 v L) : Made w w2 v L := ⟨own_mono h.1 g.size, grown_trans g h.2⟩
set_option maxRecDepth 100000 in
set_option maxHeartbeats 4000000 in
theorem implMachineAnswer (v q : Value) (n st k : Int) (LL : List (List Int)) (P : List Int) (w : World) (hn : tot LL ≤ 1048576) (hP : P.length ≤ 1048576) (hv : Sls w v LL) (hq : Sl w q P) :
    Calls Try.prog 36 #[.agg #[.int .i64 n, v, q, .int .i64 st, .int .i64 k]] w fun e w' => ∃ u, e = .returned (.tuple #[u, .bool (ansB n LL P st k)]) ∧ Made w w' u (ansL n LL P st k) := by
  have g0 := World.grownBy_alloc w (.cells #[.int .i64 n, v, q, .int .i64 st, .int .i64 k] 51) none
  have C := hide (qb.implMachineOk v q n st k LL P _ hn hP (hv.kept g0) (hq.kept g0 (.inl rfl)))
  have B := hide (Box5.new 51 w (.int .i64 n) v q (.int .i64 st) (.int .i64 k))
  have G := hide g0
  have D := hide (fun w1 (g : w.grownBy w1 none) => valuesOf q P w1 hP (hq.kept g (.inl rfl)))
  obtain ⟨qa, qc, rfl, _⟩ := hq
  clear hv g0
  by_cases hs : st = 1
  · subst hs
    cases hm : machB n LL P 1 k
    · have hb : ansB n LL P 1 k = false := by unfold ansB; rw [hm]; rfl
      have A := hide (And.intro hb (ans_no hb))
      rw [hm] at C
      clear hm hb D
      have x0 := (unhide B).c0
      have x1 := (unhide B).c1
      have x2 := (unhide B).c2
      have x3 := (unhide B).c3
      have x4 := (unhide B).c4
      go_enter Try.func36, Try.ntmps36
      go_wp2_with fail
      refine (unhide C).mono ?_; rintro e w1 ⟨rfl, g1⟩
      have G1 := hide (grown_trans (r := none) (unhide G) g1)
      clear g1 G C B x0 x1 x2 x3 x4
      go_wp2_with fail
      go_ret2
      rw [(unhide A).1, (unhide A).2]
      exact ⟨_, rfl, made_sub (unhide G1) (app.made_nil _)⟩
    · have hb : ansB n LL P 1 k = true := by unfold ansB; rw [hm]; rfl
      have A := hide (And.intro hb (ans_yes hb))
      rw [hm] at C
      clear hm hb
      have x0 := (unhide B).c0
      have x1 := (unhide B).c1
      have x2 := (unhide B).c2
      have x3 := (unhide B).c3
      have x4 := (unhide B).c4
      go_enter Try.func36, Try.ntmps36
      go_wp2_with fail
      refine (unhide C).mono ?_; rintro e w1 ⟨rfl, g1⟩
      have G1 := hide (grown_trans (r := none) (unhide G) g1)
      have y2 := ((unhide B).kept g1).c2
      clear g1 G C B x0 x1 x2 x3 x4
      go_wp2_with fail
      refine (unhide D w1 (unhide G1)).mono ?_; rintro e w2 ⟨u, rfl, m2⟩
      have M2 := hide (made_sub (unhide G1) m2)
      clear m2 D y2
      go_wp2_with fail
      go_ret2
      rw [(unhide A).1, (unhide A).2]
      exact ⟨_, rfl, unhide M2⟩
  · have hb : ansB n LL P st k = false := by unfold ansB; rw [decide_eq_false hs, Bool.and_false]
    have A := hide (And.intro hb (ans_no hb))
    have hne : (st != 1) = true := by simpa using hs
    have x3 := (unhide B).c3
    have m0 := made_sub (unhide G) (app.made_nil (w.alloc (.cells #[.int .i64 n, v, .slice qa P.length qc, .int .i64 st, .int .i64 k] 51)))
    rw [World.size_alloc] at m0
    have M0 := hide m0
    clear hb C D m0
    go_enter Try.func36, Try.ntmps36
    go_wp2_with fail
    go_ret2
    rw [(unhide A).1, (unhide A).2]
    exact ⟨_, rfl, unhide M0⟩
set_option maxRecDepth 100000 in
set_option maxHeartbeats 4000000 in
theorem specMachineAnswer (v q : Value) (n st k : Int) (LL : List (List Int)) (P : List Int) (w : World) (hn : tot LL ≤ 1048576) (hP : P.length ≤ 1048576) (hv : Sls w v LL) (hq : Sl w q P) :
    Calls Try.prog 35 #[.agg #[.int .i64 n, v, q, .int .i64 st, .int .i64 k]] w fun e w' => ∃ u, e = .returned (.tuple #[u, .bool (ansB n LL P st k)]) ∧ Made w w' u (ansL n LL P st k) := by
  have g0 := World.grownBy_alloc w (.cells #[.int .i64 n, v, q, .int .i64 st, .int .i64 k] 51) none
  have m0 := app.made_nil (w.alloc (.cells #[.int .i64 n, v, q, .int .i64 st, .int .i64 k] 51))
  have g1 := grown_trans (r := none) g0 m0.2
  have C := hide (qb.specMachineOk v q n st k LL P _ hn hP (hv.kept g1) (hq.kept g1 (.inl rfl)))
  have B := hide ((Box5.new 51 w (.int .i64 n) v q (.int .i64 st) (.int .i64 k)).kept m0.2)
  have BW := hide (Box5.new 51 w (.int .i64 n) v q (.int .i64 st) (.int .i64 k))
  have G0 := hide g0
  have m0' := m0
  rw [World.size_alloc] at m0'
  have M0 := hide m0'
  have HQ := hide (fun w1 (g : w.grownBy w1 none) => hq.kept g (.inl rfl))
  obtain ⟨qa, qc, rfl, _⟩ := hq
  have x0 := (unhide B).c0
  have x1 := (unhide B).c1
  have x2 := (unhide B).c2
  have x3 := (unhide B).c3
  have x4 := (unhide B).c4
  clear hv g0 m0 m0' g1
  cases hm : machB n LL P st k
  · have hb : ansB n LL P st k = false := by unfold ansB; rw [hm]; rfl
    have A := hide (And.intro hb (ans_no hb))
    rw [hm] at C
    clear hm hb HQ
    go_enter Try.func35, Try.ntmps35
    go_wp2_with fail
    refine (unhide C).mono ?_; rintro e w1 ⟨rfl, g1⟩
    have M1 := hide (made_sub (unhide G0) (show Made _ w1 _ ([] : List Int) from And.intro ((unhide M0).1.kept g1 (by right; simp [Value.ownBlock])) (grown_trans (r := none) (unhide M0).2 g1)))
    clear g1 C B x0 x1 x2 x3 x4
    go_wp2_with fail
    go_ret2
    rw [(unhide A).1, (unhide A).2]
    exact ⟨_, rfl, unhide M1⟩
  · rw [hm] at C
    by_cases hs : st = 1
    · subst hs
      have hb : ansB n LL P 1 k = true := by unfold ansB; rw [hm]; rfl
      have A := hide (And.intro hb (ans_yes hb))
      clear hm hb
      go_enter Try.func35, Try.ntmps35
      go_wp2_with fail
      refine (unhide C).mono ?_; rintro e w1 ⟨rfl, g1⟩
      have M1 := hide (show Made _ w1 _ ([] : List Int) from And.intro ((unhide M0).1.kept g1 (by right; simp [Value.ownBlock])) (grown_trans (r := none) (unhide M0).2 g1))
      have y3 := ((unhide B).kept g1).c3
      clear g1 C B x0 x1 x2 x3 x4
      go_wp2_with fail
      go_loopw [4, 5] (fun u i wr => ∃ j : Nat, j ≤ P.length ∧ i = .int .i64 j ∧ Hid (Made (w.alloc (.cells #[.int .i64 n, v, .slice qa P.length qc, .int .i64 1, .int .i64 k] 51)) wr u (vals (P.take j)))) (fun _ i _ => P.length - (intOf i).toNat)
      case atStart => exact ⟨0, Nat.zero_le _, rfl, M1⟩
      case round =>
        obtain ⟨j, hj, rfl, hm⟩ := hrel
        clear M1 M0 y3
        have y2 := ((unhide BW).kept (unhide hm).2).c2
        by_cases hlt : j < P.length
        · obtain ⟨qa', qc', e', ha⟩ := unhide HQ wr (grown_trans (r := none) (unhide G0) (unhide hm).2)
          simp only [Value.slice.injEq] at e'
          obtain ⟨rfl, _, rfl⟩ := e'
          rcases ha with h | ⟨b, off, rfl, hb, hcb⟩
          · rw [h] at hlt
            simp at hlt
          · have c1 := hcb j hlt
            have hi' : (j : Int) < (P.length : Int) := by omega
            have hs := vals_snoc P j hlt
            have hM : (vals (P.take j)).length ≤ 4194304 := by rw [vals_len, List.length_take]; omega
            generalize P.getD j 0 = x at *
            generalize vals (P.take j) = M at *
            clear hcb HQ BW
            by_cases hx : x > 0
            · rw [if_pos hx] at hs
              have HS := hide hs
              clear hs
              go_wp2_with (at_builtin; refine wo.append1 (unhide hm).2 (unhide hm).1 hM rfl _ _ rfl rfl rfl ?_)
              intro v' w3 R
              have R3 := hide R
              clear R hm
              go_wp2_with fail
              go_roundw
              case rel => exact ⟨j + 1, by omega, by go_num, by rw [unhide HS]; exact R3⟩
              case measure => simp [intOf]; omega
            · rw [if_neg hx] at hs
              have HS := hide hs
              clear hs
              go_wp2_with (at_builtin; refine wo.append1 (unhide hm).2 (unhide hm).1 hM rfl _ _ rfl rfl rfl ?_)
              intro v' w3 R
              have R3 := hide R
              clear R hm
              go_wp2_with fail
              go_roundw
              case rel => exact ⟨j + 1, by omega, by go_num, by rw [unhide HS]; exact R3⟩
              case measure => simp [intOf]; omega
        · have hi' : ¬ (j : Int) < (P.length : Int) := by omega
          have e : P.take j = P := List.take_of_length_le (by omega)
          rw [e] at hm
          clear HQ e BW
          go_wp2_with fail
          go_ret2
          rw [(unhide A).1, (unhide A).2]
          exact ⟨_, rfl, made_sub (unhide G0) (unhide hm)⟩
    · have hb : ansB n LL P st k = false := by unfold ansB; rw [decide_eq_false hs, Bool.and_false]
      have A := hide (And.intro hb (ans_no hb))
      have hne : (st != 1) = true := by simpa using hs
      clear hm hb HQ
      go_enter Try.func35, Try.ntmps35
      go_wp2_with fail
      refine (unhide C).mono ?_; rintro e w1 ⟨rfl, g1⟩
      have M1 := hide (made_sub (unhide G0) (show Made _ w1 _ ([] : List Int) from And.intro ((unhide M0).1.kept g1 (by right; simp [Value.ownBlock])) (grown_trans (r := none) (unhide M0).2 g1)))
      have y3 := ((unhide B).kept g1).c3
      clear g1 C B x0 x1 x2 x3 x4
      go_wp2_with fail
      go_ret2
      rw [(unhide A).1, (unhide A).2]
      exact ⟨_, rfl, unhide M1⟩
theorem bothA (n st k : Int) (LL : List (List Int)) (P : List Int) (hn : tot LL ≤ 1048576) (hP : P.length ≤ 1048576) : ∃ (R : List Int) (b : Bool), R.length ≤ 1048576 ∧
    (∀ v q w, Sls w v LL → Sl w q P → Calls Try.prog 35 #[.agg #[.int .i64 n, v, q, .int .i64 st, .int .i64 k]] w fun e w' => ∃ u, e = .returned (.tuple #[u, .bool b]) ∧ w'.ownsRow w.heap.size 3 1 u R.length (ints R) ∧ w.grownBy w' none) ∧
    ∀ v q w, Sls w v LL → Sl w q P → Calls Try.prog 36 #[.agg #[.int .i64 n, v, q, .int .i64 st, .int .i64 k]] w fun e w' => ∃ u, e = .returned (.tuple #[u, .bool b]) ∧ w'.ownsRow w.heap.size 3 1 u R.length (ints R) ∧ w.grownBy w' none :=
  ⟨ansL n LL P st k, ansB n LL P st k, ans_len n LL P st k hP, fun v q w hv hq => specMachineAnswer v q n st k LL P w hn hP hv hq, fun v q w hv hq => implMachineAnswer v q n st k LL P w hn hP hv hq⟩
end Go.Proofs.Ytlpgnaedhijdpaa.qd
