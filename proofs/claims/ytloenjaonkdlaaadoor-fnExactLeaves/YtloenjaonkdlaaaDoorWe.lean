/- What the program's Unit and Force answer at every formula that holds at most 2^20 values and every list of at most 2^20 numbers, where the library's table of places lies as its text lays it. -/
import Derived.Test.YtloenjaonkdlaaaDoorWb
namespace Go.Proofs.YtloenjaonkdlaaaDoor.wm
open Go.ChangeShapes Go.WideShapes Go.ChangeAt Go.RowKit
open Go.Proofs.YtloenjaonkdlaaaDoor.wm0 (end0 ret0 stepW listW listB)
open Go.Proofs.YtloenjaonkdlaaaDoor.lits (okB okB_iff)
open Go.Proofs.YtloenjaonkdlaaaDoor.bset (placeN placeN_le placeC placeN_inj setOf setOf_lt)
open Go.Proofs.YtloenjaonkdlaaaDoor.srt (Tab)
open Go.Proofs.YtloenjaonkdlaaaDoor.css (Sls)
open Go.Proofs.YtloenjaonkdlaaaDoor.cf (Box)
open Go.Proofs.YtloenjaonkdlaaaDoor.ok (cnfB litIn)
open Go.Proofs.YtloenjaonkdlaaaDoor.wo (Made)
open Go.Proofs.YtloenjaonkdlaaaDoor.sl (Sl Own ints hide unhide ret_int ret_bool grown_refl grown_trans grown_drewN)
set_option linter.unusedVariables false

/-- a watcher that has taken T -/
structure Wta (Ss : List Nat) (T : Nat) (wB w : World) (c : Nat) (s : WS) : Prop where
  wat : Wat w c s
  g : wB.grownBy w none
  far : Far wB.heap.size c s
  jn : ∃ l F, Jn Ss s.ps 0 l F []
  tk : s.tk = T
theorem Wta.tab {Ss : List Nat} {T c : Nat} {wB w : World} {s : WS} (h : Wta Ss T wB w c s) (ht : Tab wB) : TabF c s w :=
  ⟨ht.kept h.g, fun f => by have := h.far _ f; have := tab_lt ht; omega⟩
theorem Wta.low {Ss : List Nat} {T c : Nat} {wA wB w : World} {s : WS} (h : Wta Ss T wB w c s) (g : wA.grownBy wB none) : Wta Ss T wA w c s :=
  ⟨h.wat, grown_trans g h.g, fun k f => Nat.le_trans g.size (h.far k f), h.jn, h.tk⟩

set_option maxRecDepth 100000 in
set_option maxHeartbeats 4000000 in
theorem watcherAt_no (v u : Value) (n : Int) (LL : List (List Int)) (L : List Int) (w : World) (hn : css.tot LL ≤ 1048576) (hL : L.length ≤ 1048576) (hv : Sls w v LL) (hu : Sl w u L) (hb : okU n LL L = false) :
    Calls Tryd.prog 77 #[.agg #[.int .i64 n, v], u] w fun e w' => e = .returned (.tuple #[.pointer none, .bool false]) ∧ w.grownBy w' none := by
  have g0 := World.grownBy_alloc w (.cells #[.int .i64 n, v] 34) none
  have cc := ok.implCnfOk v n LL _ hn (hv.kept g0)
  have F0 := hide (Box.new 34 w (.int .i64 n) v)
  have G0 := hide g0
  have HU := hide (hu.kept g0 (.inl rfl))
  clear hv g0 hu
  have x0 := (unhide F0).c0
  have x1 := (unhide F0).c1
  unfold okU at hb
  cases hc : cnfB n LL
  · rw [hc] at cc
    have CC := hide cc
    clear cc hb hc
    go_enter Tryd.func77, Tryd.ntmps77
    go_wp2_with fail
    refine (unhide CC).mono ?_; rintro e w2 ⟨rfl, g2⟩
    have G2 := hide (grown_trans (r := none) (unhide G0) g2)
    clear g2 x0 x1
    go_wp2_with fail
    go_ret2
    exact ⟨rfl, unhide G2⟩
  · rw [hc] at cc hb
    have hb' : L.all (litIn n) = false := hb
    have CC := hide cc
    clear cc hb hc
    go_enter Tryd.func77, Tryd.ntmps77
    go_wp2_with fail
    refine (unhide CC).mono ?_; rintro e w2 ⟨rfl, g2⟩
    have G2 := hide (grown_trans (r := none) (unhide G0) g2)
    have cl := ok.literalsOf u L n w2 hL ((unhide HU).kept g2 (.inl rfl))
    rw [hb'] at cl
    have CL := hide cl
    have F2 := hide ((unhide F0).kept g2)
    clear g2 x0 x1 cl hb'
    have y0 := (unhide F2).c0
    have y1 := (unhide F2).c1
    go_wp2_with fail
    refine (unhide CL).mono ?_; rintro e w3 ⟨rfl, hw⟩; have hw' := hw.symm; clear hw; subst hw'
    go_wp2_with fail
    go_ret2
    exact ⟨rfl, unhide G2⟩

set_option maxRecDepth 100000 in
set_option maxHeartbeats 4000000 in
theorem watcherAt_yes (v u : Value) (n : Int) (LL : List (List Int)) (L : List Int) (w : World) (hT : Tab w) (hn : css.tot LL ≤ 1048576) (hL : L.length ≤ 1048576) (hv : Sls w v LL) (hu : Sl w u L) (hb : okU n LL L = true) :
    Calls Tryd.prog 77 #[.agg #[.int .i64 n, v], u] w fun e w' => ∃ c s, e = .returned (.tuple #[.pointer (some ⟨c, 0, none⟩), .bool true]) ∧ Wta (LL.map setOf) (setOf L) w w' c s := by
  have g0 := World.grownBy_alloc w (.cells #[.int .i64 n, v] 34) none
  have cc := ok.implCnfOk v n LL _ hn (hv.kept g0)
  have F0 := hide (Box.new 34 w (.int .i64 n) v)
  have G0 := hide g0
  have HU := hide (hu.kept g0 (.inl rfl))
  have HV := hide (hv.kept g0)
  have HT := hide (hT.kept g0)
  have hl : (LL.map setOf).length ≤ 1048576 := by rw [List.length_map]; exact Nat.le_trans (css.tot_len LL) hn
  have HL := hide hl
  clear hv g0 hu hT hl
  have x0 := (unhide F0).c0
  have x1 := (unhide F0).c1
  unfold okU at hb
  rw [Bool.and_eq_true] at hb
  rw [hb.1] at cc
  have hb' := hb.2
  have CC := hide cc
  clear cc hb
  go_enter Tryd.func77, Tryd.ntmps77
  go_wp2_with fail
  refine (unhide CC).mono ?_; rintro e w2 ⟨rfl, g2⟩
  have G2 := hide (grown_trans (r := none) (unhide G0) g2)
  have cl := ok.literalsOf u L n w2 hL ((unhide HU).kept g2 (.inl rfl))
  rw [hb'] at cl
  have CL := hide cl
  have F2 := hide ((unhide F0).kept g2)
  have U2 := hide ((unhide HU).kept g2 (.inl rfl))
  have V2 := hide ((unhide HV).kept g2)
  have T2 := hide ((unhide HT).kept g2)
  clear g2 x0 x1 cl hb' CC HU HV HT F0 G0
  have y0 := (unhide F2).c0
  have y1 := (unhide F2).c1
  go_wp2_with fail
  refine (unhide CL).mono ?_; rintro e w3 ⟨rfl, hw⟩; have hw' := hw.symm; clear hw; subst hw'
  have CO := hide (watcherOf v LL w2 (unhide T2) hn (unhide V2))
  clear CL
  go_wp2_with fail
  refine (unhide CO).mono ?_; rintro e w3 ⟨c, s, rfl, wo⟩
  have CS := hide (bset.litsOf u L w3 hL ((unhide U2).kept wo.g (.inl rfl)))
  have tf : TabF c s w3 := ⟨(unhide T2).kept wo.g, fun f => by have := wo.far _ f; have := tab_lt (unhide T2); omega⟩
  have js := wo.jn.start (l' := 0) (setOf_lt L) (fun b _ => by rw [show s.ps.tk = 0 from wo.tk, Nat.zero_testBit]) (fun z => by
    obtain ⟨i, hi, _, ho⟩ := wo.jn.es z
    rw [show s.ps.tk = 0 from wo.tk, opn00 (wo.jn.wd i hi)] at ho
    exact ⟨i, hi, ho⟩)
  have CT := hide (take (l0 := 0) (F0 := []) (fitT (LL.map setOf) (s.tk ||| setOf L)) (unhide HL) wo.wat tf (setOf_lt L) (by rw [wo.tk]; decide) ⟨js, rfl⟩)
  have NX : Hid (∀ s' w' l F, Tk (JT (LL.map setOf) (s.tk ||| setOf L)) c s s' w3 w' 0 l F → Wta (LL.map setOf) (setOf L) w w' c s') := by
    intro s' w' l F q
    refine Wta.low ⟨q.1, grown_stp wo.g wo.far q.2.1, wo.far.stp q.2.1 wo.g.size, ⟨l, F, q.2.2.1⟩, ?_⟩ (unhide G2)
    have : s'.tk = s.tk ||| setOf L := q.2.2.2
    rw [this, wo.tk, Nat.zero_or]
  clear CO wo tf js y0 y1 F2 U2 V2
  go_wp2_with fail
  refine (unhide CS).mono ?_; rintro e w4 ⟨rfl, hw⟩; have hw' := hw.symm; clear hw; subst hw'
  go_wp2_with fail
  refine (unhide CT).mono ?_; rintro e w4 ⟨s4, l4, F4, rfl, q4⟩
  have R4 := hide (unhide NX s4 w4 l4 F4 q4)
  clear CS CT NX q4
  go_wp2_with fail
  go_ret2
  first
    | exact ⟨c, s4, rfl, unhide R4⟩
    | exact ⟨c, rfl, s4, unhide R4⟩
    | exact ⟨rfl, s4, unhide R4⟩

set_option maxRecDepth 100000 in
set_option maxHeartbeats 4000000 in
theorem implUnit (v u : Value) (n : Int) (LL : List (List Int)) (L : List Int) (w : World) (hT : Tab w) (hn : css.tot LL ≤ 1048576) (hL : L.length ≤ 1048576) (hv : Sls w v LL) (hu : Sl w u L) :
    Calls Tryd.prog 29 #[.agg #[.int .i64 n, v], u] w fun e w' => e = .returned (.tuple #[.int .i64 (unitB n LL L).1, .bool (unitB n LL L).2]) ∧ w.grownBy w' none := by
  have g0 := World.grownBy_alloc w (.cells #[.int .i64 n, v] 34) none
  have F0 := hide (Box.new 34 w (.int .i64 n) v)
  have G0 := hide g0
  have x0 := (unhide F0).c0
  have x1 := (unhide F0).c1
  cases hb : okU n LL L
  · have e : unitB n LL L = (0, false) := by unfold unitB; rw [hb]; rfl
    rw [e]
    have CA := hide (watcherAt_no v u n LL L _ hn hL (hv.kept g0) (hu.kept g0 (.inl rfl)) hb)
    clear hv hu hT g0 hb e
    go_enter Tryd.func29, Tryd.ntmps29
    go_wp2_with fail
    refine (unhide CA).mono ?_; rintro e w2 ⟨rfl, g2⟩
    have G2 := hide (grown_trans (r := none) (unhide G0) g2)
    clear g2 CA
    go_wp2_with fail
    go_ret2
    exact ⟨rfl, unhide G2⟩
  · have e : unitB n LL L = unitN (LL.map setOf) (setOf L) := by unfold unitB; rw [hb]; rfl
    rw [e]
    have CA := hide (watcherAt_yes v u n LL L _ (hT.kept g0) hn hL (hv.kept g0) (hu.kept g0 (.inl rfl)) hb)
    have HT := hide (hT.kept g0)
    have hl : (LL.map setOf).length ≤ 1048576 := by rw [List.length_map]; exact Nat.le_trans (css.tot_len LL) hn
    have HL := hide hl
    clear hv hu hT g0 hb e hl
    go_enter Tryd.func29, Tryd.ntmps29
    go_wp2_with fail
    refine (unhide CA).mono ?_; rintro e w2 ⟨c, s, rfl, wt⟩
    obtain ⟨l, F0, jn⟩ := wt.jn
    obtain ⟨vv, C, eC⟩ : ∃ v C, s.A.getD 0 nil_ = (v, C) := ⟨_, _, rfl⟩
    have wf := wait_facts jn eC
    have cu := unit wt.wat (wt.tab (unhide HT)) (by show s.K.length ≤ _; rw [show s.K.length = _ from jn.len]; exact unhide HL) jn.tk (fun i hi => by
      have hi' : i < (LL.map setOf).length := by rw [← show s.K.length = _ from jn.len]; exact hi
      rw [show (s.K.getD i zk).1 = (LL.map setOf).getD i 0 from jn.sets i hi']
      exact jn.wd i hi') eC wf.1 wf.2.1 wf.2.2
    have eu := jn.unit
    rw [show s.ps.tk = setOf L from wt.tk] at eu
    have eu1 : s.ps.uniX = (unitN (LL.map setOf) (setOf L)).1 := congrArg Prod.fst eu
    have eu2 : (!s.em) = (unitN (LL.map setOf) (setOf L)).2 := congrArg Prod.snd eu
    rw [eu1, eu2] at cu
    have CU := hide cu
    have GG : Hid (∀ s' w', Stp c s s' w2 w' → w.grownBy w' none) := fun s' w' q => grown_trans (unhide G0) (grown_stp wt.g wt.far q)
    have rg : -24 ≤ (unitN (LL.map setOf) (setOf L)).1 ∧ (unitN (LL.map setOf) (setOf L)).1 ≤ 24 := by
      by_cases hz : (unitN (LL.map setOf) (setOf L)).2 = true ∧ (unitN (LL.map setOf) (setOf L)).1 ≠ 0
      · have := okB_iff.1 (unit_new (fun S hS => by
          rw [List.mem_map] at hS
          obtain ⟨M, _, rfl⟩ := hS
          exact setOf_lt M) hz.1 hz.2).1
        omega
      · have : (unitN (LL.map setOf) (setOf L)).1 = 0 := by
          apply Classical.byContradiction
          intro hne
          apply hz
          refine ⟨?_, hne⟩
          unfold unitN at hne ⊢
          split
          · rename_i q
            rw [if_pos q] at hne
            exact absurd rfl hne
          · rfl
        omega
    clear CA wt jn wf cu eu eu1 eu2 eC HT
    generalize hx : (unitN (LL.map setOf) (setOf L)).1 = x at *
    generalize hy : (unitN (LL.map setOf) (setOf L)).2 = y at *
    have HX := hide hx
    have HY := hide hy
    clear hx hy
    obtain ⟨r1, r2⟩ := rg
    go_wp2_with fail
    refine (unhide CU).mono ?_; rintro e w3 ⟨s3, rfl, q1, q2, q3⟩
    have G3 := hide (unhide GG s3 w3 q2)
    clear CU GG q1 q2 q3
    go_wp2_with fail
    go_ret2
    exact ⟨by rw [unhide HX, unhide HY]; rfl, unhide G3⟩

theorem foot_lt {w : World} {c k : Nat} {s : WS} (h : Wat w c s) (f : Foot c s k) : k < w.heap.size := by
  rcases f with f | f | ⟨p, hp, f⟩
  · subst f
    exact h.lt
  · exact (h.cl.lt k f).2
  · exact ((h.ls p hp).lt k f).2
theorem Wta.frc {Ss : List Nat} {T c : Nat} {wB w w1 : World} {s : WS} {pv : Value} {p : List Int} (h : Wta Ss T wB w c s) (ht : Tab wB) (m : Made w w1 pv p) : Frc Ss wB c s w1 pv p :=
  ⟨h.wat.kept m.2, ht, h.jn, grown_trans h.g m.2, h.far, css.own_mono m.1 h.g.size, fun q e f => by
    have h1 := (m.1.lt q e).1
    have h2 := foot_lt h.wat f
    omega⟩
set_option maxRecDepth 100000 in
set_option maxHeartbeats 4000000 in
theorem implForce (v u : Value) (n : Int) (LL : List (List Int)) (L : List Int) (lo hi : Nat) (w : World) (hT : Tab w) (hn : css.tot LL ≤ 1048576) (hL : L.length ≤ 1048576) (hv : Sls w v LL) (hu : Own lo hi w u L) :
    Calls Tryd.prog 25 #[.agg #[.int .i64 n, v], u] w fun e w' => ∃ r, e = .returned (.tuple #[r, .bool (forceB n LL L).2]) ∧ Made w w' r (forceB n LL L).1 := by
  have g0 := World.grownBy_alloc w (.cells #[.int .i64 n, v] 34) none
  have F0 := hide (Box.new 34 w (.int .i64 n) v)
  have G0 := hide g0
  have x0 := (unhide F0).c0
  have x1 := (unhide F0).c1
  cases hb : okU n LL L
  · have e : forceB n LL L = ([], false) := by unfold forceB; rw [hb]; rfl
    rw [e]
    have CA := hide (watcherAt_no v u n LL L _ hn hL (hv.kept g0) ((hu.kept g0).sl) hb)
    clear hv hu hT g0 hb e
    go_enter Tryd.func25, Tryd.ntmps25
    go_wp2_with fail
    refine (unhide CA).mono ?_; rintro e w2 ⟨rfl, g2⟩
    have M2 := hide (made_low (grown_trans (r := none) (unhide G0) g2) (app.made_nil w2))
    clear g2 CA
    go_wp2_with fail
    go_ret2
    exact ⟨_, rfl, unhide M2⟩
  · have e : forceB n LL L = frc (LL.map setOf) 49 (setOf L) L := by unfold forceB; rw [hb]; rfl
    rw [e]
    have CA := hide (watcherAt_yes v u n LL L _ (hT.kept g0) hn hL (hv.kept g0) ((hu.kept g0).sl) hb)
    have HT := hide hT
    have HU := hide (hu.kept g0)
    have hl : (LL.map setOf).length ≤ 1048576 := by rw [List.length_map]; exact Nat.le_trans (css.tot_len LL) hn
    have HL := hide hl
    obtain ⟨ua, uc, eu, _⟩ := hu.sl
    subst eu
    clear hv hu hT g0 hb e hl
    go_enter Tryd.func25, Tryd.ntmps25
    go_wp2_with fail
    refine (unhide CA).mono ?_; rintro e w2 ⟨c, s, rfl, wt⟩
    have WT := hide (wt.low (unhide G0))
    have mn := hide (app.made_nil w2)
    have U2 := hide (((unhide HU).kept wt.g).kept (unhide mn).2)
    clear CA wt HU
    go_wp2_with (at_builtin; refine app.appendI (A := []) (unhide mn).2 (unhide mn).1 (unhide U2) (by show 0 + L.length ≤ 4194304; omega) rfl _ _ rfl rfl rfl ?_)
    intro y w3 m3 g3
    have m3' : Made w2 w3 y L := m3
    have fr := (unhide WT).frc (unhide HT) m3'
    have cf := force fr (unhide HL) hL (set_bd LL)
    rw [(unhide WT).tk] at cf
    have CF := hide cf
    obtain ⟨ya, yc, ey, _⟩ := Sl.of_own m3'.1
    subst ey
    clear m3 m3' g3 fr cf mn U2
    generalize hF : frc (LL.map setOf) 49 (setOf L) L = F at *
    have HF := hide hF
    clear hF
    go_wp2_with fail
    refine (unhide CF).mono ?_; rintro e w4 ⟨r, s4, rfl, f4⟩
    have m4 : Made w w4 r F.1 := ⟨f4.own, f4.g⟩
    have M4 := hide m4
    clear f4
    clear m4 CF
    go_wp2_with fail
    go_ret2
    exact ⟨r, by rw [unhide HF]; rfl, by rw [unhide HF]; exact unhide M4⟩
end Go.Proofs.YtloenjaonkdlaaaDoor.wm
