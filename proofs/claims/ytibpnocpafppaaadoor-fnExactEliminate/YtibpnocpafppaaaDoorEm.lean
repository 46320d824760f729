/- Eliminate of the model: what it answers at every formula that holds at most 2^20 values, and every number; both sides together. -/
import Derived.Test.YtibpnocpafppaaaDoorEl
import Derived.Deep.RegionLaw
namespace Go.Proofs.YtibpnocpafppaaaDoor.el
open Go.ChangeShapes Go.WideShapes Go.ChangeAt Go.RowKit
open Go.Proofs.YtibpnocpafppaaaDoor.sl (Sl Own ints marks hide unhide ret_int ret_bool grown_refl grown_trans grown_drewN below_of of_below)
open Go.Proofs.YtibpnocpafppaaaDoor.css (Sls OwnS Outs tot sumLen marksS own_mono infoSl own_ne own_ne')
open Go.Proofs.YtibpnocpafppaaaDoor.cf (Box)
open Go.Proofs.YtibpnocpafppaaaDoor.ok (cnfB)
open Go.Proofs.YtibpnocpafppaaaDoor.cls (hasB)
open Go.Proofs.YtibpnocpafppaaaDoor.wo (Made)
open Go.Proofs.YtibpnocpafppaaaDoor.res (canB resB resL)
open Go.Proofs.YtibpnocpafppaaaDoor.ge (hvB OwnD ini_all)
open Go.Proofs.YtibpnocpafppaaaDoor.cs (cnfS)
open Go.Proofs.YtibpnocpafppaaaDoor.srt (Tab)
open Go.Proofs.YtibpnocpafppaaaDoor.cso (srtN srtR srtB)
open Go.Proofs.YtibpnocpafppaaaDoor.ni (Lst MidL)
set_option linter.unusedVariables false

theorem lst_nil (lo : Nat) (w : World) : Lst lo w (.slice none 0 0) [] := ⟨[], rfl, World.ownsRow_nil .., fun p hp => by cases hp⟩
theorem midL_new (w : World) (n : Int) : MidL w (w.alloc (.cells #[.int .i64 n, .slice none 0 0] 26)) w.heap.size n [] :=
  ⟨Nat.le_refl _, World.grownBy_alloc _ _ _, none, 0, Box.new _ _ _ _, lst_nil _ _⟩
theorem flt_step (B : List Int → Bool) (R : List (List Int)) (k : Nat) (h : k < R.length) : (R.take (k + 1)).filter B = (R.take k).filter B ++ (if B (R.getD k []) then [R.getD k []] else []) := by
  rw [List.take_succ_eq_append_getElem h, List.filter_append, show R.getD k [] = R[k] by simp [h]]
  cases e : B R[k] <;> simp [e]
theorem in_b {x a b : Int} {r : Bool} (h : decide (a ≤ x ∧ x ≤ b) = r) (w : World) : Calls Tryd.prog 75 #[.int .i64 x, .int .i64 a, .int .i64 b] w fun e w' => e = .returned (.bool r) ∧ w' = w := by
  subst h
  exact ok.l01In x a b w
theorem one_cell {w : World} {lo : Nat} {u : Value} {L : List Int} (h : w.ownsRow lo 3 1 u L.length (ints L)) : u.oneCell' = true := gr.own_one (sl.Own.of h)

set_option maxRecDepth 10000 in
set_option maxHeartbeats 16000000 in
theorem specEliminate (v : Value) (n x : Int) (LL : List (List Int)) (w : World) (hn : tot LL ≤ 1048576) (hv : Sls w v LL) :
    Calls Tryd.prog 23 #[.agg #[.int .i64 n, v], .int .i64 x] w fun e w' => ElE n x LL w e w' := by
  have hv0 := hv
  obtain ⟨a, cap, rfl, _⟩ := hv
  obtain ⟨g0, b0, b1⟩ := ini_all w (.int .i64 n) (.slice a LL.length cap)
  have C := hide (cso.specCnfSort _ n LL _ hn (hv0.kept g0))
  have G0 := hide g0
  have B1 := hide b1
  clear hv0 g0 b0 b1
  go_enter Tryd.func23, Tryd.ntmps23
  go_wp2_with fail
  refine (unhide C).mono ?_; rintro e w1 ⟨q, rfl, o1, g1⟩
  obtain ⟨qa, qc, rfl⟩ := o1.len
  have G1 := hide (grown_trans (r := none) (unhide G0) g1)
  have bx1 := (unhide B1).kept g1
  have gs := (unhide G0).size
  cases hb : hvB n x LL
  · have E := hide hb
    generalize hN : srtN n LL = N at *
    generalize hR : srtR n LL = R at *
    have gA := World.grownBy_alloc w1 (.cells #[.int .i64 N, .slice qa R.length qc] 26) none
    have X1 := hide (bx1.kept gA)
    have GA := hide (grown_trans (r := none) (unhide G1) gA)
    have bg := Box.new 26 w1 (.int .i64 N) (.slice qa R.length qc)
    have z0 := bg.c0
    have y0 := (bx1.kept gA).c0
    have y1 := (bx1.kept gA).c1
    have y2 := (bx1.kept gA).f 0
    have y3 := (bx1.kept gA).f 1
    have FIN : Hid (ElE n x LL w (.returned (.tuple #[.agg #[.int .i64 0, .slice none 0 0], .bool false])) (((w1.alloc (.cells #[.int .i64 N, .slice qa R.length qc] 26)).setCell ⟨w.heap.size + 1, 0, none⟩ (.int .i64 0)).setCell ⟨w.heap.size + 1, 1, none⟩ (.slice none 0 0))) := by
      refine ⟨.slice none 0 0, ?_, ?_, cf.grown_set (cf.grown_set (unhide GA) (by omega)) (by omega)⟩
      · unfold elN elB
        rw [unhide E]
        rfl
      · unfold elR
        rw [unhide E]
        exact fx.ownS_nil _ _ _
    have BF := hide (((unhide X1).set0 (.int .i64 0)).set1 (.slice none 0 0))
    cases hc : cnfB n LL
    · obtain ⟨s1, s2, s3⟩ := cso.srt_no hc
      rw [s3]
      clear hb C g1 bx1 B1 G0 o1 s1 s2 s3 hN hR gA G1 gs hc bg E
      go_wp2_with fail
      (try simp only [Exit.inBlock, Exit.then])
      exact bodyPost_ret (cf.ret_box2 rfl rfl (unhide BF)) rfl (unhide FIN)
    · obtain ⟨s1, s2, s3⟩ := cso.srt_yes hc
      rw [s3]
      have hx : decide (1 ≤ x ∧ x ≤ N) = false := by
        unfold ge.hvB at hb
        rw [hc, Bool.true_and] at hb
        rw [← hN, s1]
        exact hb
      have IN := hide (in_b hx)
      clear hb C g1 bx1 B1 G0 o1 s1 s2 s3 hN hR gA G1 gs hc bg E hx
      go_wp2_with fail
      refine (unhide IN _).mono ?_; rintro e w' ⟨rfl, hw⟩; have hw' := hw.symm; clear hw; subst hw'
      go_wp2_with fail
      (try simp only [Exit.inBlock, Exit.then])
      exact bodyPost_ret (cf.ret_box2 rfl rfl (unhide BF)) rfl (unhide FIN)
  · obtain ⟨hcb, h1, hxn, hn24⟩ := ge.hv_yes hb
    have h24 : x ≤ 24 := by omega
    obtain ⟨s1, s2, s3⟩ := cso.srt_yes hcb
    rw [s1, s2, s3]
    rw [s2] at o1
    obtain ⟨hR120, hin48⟩ := sorted_bd hcb
    have E := hide hb
    have HIN := hide hin48
    have EL := hide (show ElE n x LL w = fun e w' => ∃ u, e = .returned (.tuple #[.agg #[.int .i64 (srtN n (elimL x (cnfS LL))), u], .bool (srtB n (elimL x (cnfS LL)))]) ∧ OwnS w.heap.size w'.heap.size w' u (srtR n (elimL x (cnfS LL))) ∧ w.grownBy w' none by
      unfold ElE elN elB elR
      rw [unhide E]
      simp)
    generalize hR : cnfS LL = R at *
    have IN := hide (in_b (decide_eq_true (And.intro h1 hxn)))
    have gA := World.grownBy_alloc w1 (.cells #[.int .i64 n, .slice qa R.length qc] 26) none
    have bg := Box.new 26 w1 (.int .i64 n) (.slice qa R.length qc)
    obtain ⟨D, hD, oD⟩ := OwnD.of (o1.kept gA)
    obtain ⟨W, hW⟩ : ∃ W, W = w1.alloc (.cells #[.int .i64 n, .slice qa R.length qc] 26) := ⟨_, rfl⟩
    obtain ⟨gb6, hgb⟩ : ∃ c, c = w1.heap.size := ⟨_, rfl⟩
    rw [← hW] at gA bg oD
    rw [← hgb] at bg
    have GW := hide (grown_trans (r := none) (unhide G1) gA)
    have RW := hide (bx1.kept gA)
    have BG := hide bg
    have LD : Hid (LstD 0 W (.slice qa R.length qc) D) := ⟨own_mono oD.1 (Nat.zero_le _), fun p hp => own_mono (oD.2.2.1 p hp).1 (Nat.zero_le _)⟩
    have DR : Hid (∀ i (h : i < D.length), R.getD i [] = D[i].2) := fun i h => by rw [← hD]; exact css.map2_getD h
    have LDR := hide (show D.length = R.length by rw [← hD, List.length_map])
    have dR : D.length ≤ 120 := by rw [unhide LDR]; exact hR120
    have MT := hide (fun (As Bs Cs : List (List Int)) (aa : List Int) h1 h2 h3 => mid_tot (v := x) (a := aa) (As := As) (Bs := Bs) (Cs := Cs) hR120 (unhide HIN) h1 h2 h3)
    have SW := hide (unhide GW).size
    have x0 := bg.c0
    have x1 := bg.c1
    have HW := hide hW
    have HGB := hide hgb
    have ST : Hid (MidL W (W.alloc (.cells #[.int .i64 n, .slice none 0 0] 26)) W.heap.size n ((R.take 0).filter (nthB x))) := by
      rw [List.take_zero]
      exact midL_new W n
    clear s1 s2 s3 hcb hb hin48 hR E C g1 bx1 B1 G0 o1 gA bg oD gs hD
    go_wp2_with fail
    rw [← hW, ← hgb]
    clear hW hgb
    refine (unhide IN _).mono ?_; rintro e w' ⟨rfl, hw⟩; have hw' := hw.symm; clear hw; subst hw'
    clear IN
    go_wp2_with fail
    clear x0 x1
    go_loopw [9] (fun i wr => ∃ k : Nat, k ≤ R.length ∧ i = .int .i64 k ∧ Hid (MidL W wr W.heap.size n ((R.take k).filter (nthB x)))) (fun i _ => R.length - (intOf i).toNat)
    case atStart => exact ⟨0, Nat.zero_le _, rfl, ST⟩
    case round =>
      obtain ⟨k, hk, rfl, hm⟩ := hrel
      clear ST
      have hg := (unhide hm).2.1
      have bgk := (unhide BG).kept hg
      have x0 := bgk.c0
      have x1 := bgk.c1
      by_cases hlt : k < R.length
      · have hi' : (k : Int) < (R.length : Int) := by omega
        have hltD : k < D.length := by rw [unhide LDR]; exact hlt
        obtain ⟨b, cap', xa, xc, e, e2, c1, hs, ho⟩ := ((unhide LD).kept hg).at k hltD
        rw [unhide LDR] at e
        simp only [Value.slice.injEq] at e
        obtain ⟨rfl, _, rfl⟩ := e
        have ca := unhide DR k hltD
        have hLa : D[k].2.length ≤ 1048576 := by
          have h1 := unhide HIN (R.getD k []) (by rw [show R.getD k [] = R[k] by simp [hlt]]; exact List.getElem_mem _)
          rw [ca] at h1
          omega
        have fs := flt_step (nthB x) R k hlt
        rw [ca] at fs
        have hM : ((R.take k).filter (nthB x)).length ≤ 1048576 := by
          have := List.length_filter_le (nthB x) (R.take k)
          rw [List.length_take] at this
          omega
        generalize hLk : D[k].2 = Lk at *
        obtain ⟨P2, hP2⟩ : ∃ P2, P2 = (R.take (k + 1)).filter (nthB x) := ⟨_, rfl⟩
        rw [← hP2] at fs
        have HP2 := hide hP2
        generalize (R.take k).filter (nthB x) = P1 at *
        have CH := hide (cls.specClauseHas _ Lk x wr hLa hs)
        have CH2 := hide (cls.specClauseHas _ Lk (-x) wr hLa hs)
        have HO := hide ho
        cases hx : hasB Lk x
        · cases hy : hasB Lk (-x)
          · have en : P2 = P1 ++ [Lk] := by
              rw [fs]
              unfold nthB
              rw [hx, hy]
              rfl
            have EN := hide en
            rw [hx] at CH
            rw [hy] at CH2
            obtain ⟨q0, q1, oa, oc, q2, q3⟩ := unhide hm
            have o1 := q2.c1
            have of1 := q2.f 1
            have gB := World.grownBy_alloc wr (.cells #[.slice xa Lk.length xc] 31) none
            have o2 := (q2.kept gB).c1
            have x2 := (bgk.kept gB).c1
            have Q1 := hide q1
            have Q2 := hide q2
            have Q3 := hide q3
            clear q0 q1 q2 q3 hm hP2 fs en hx hy hs ho hg bgk hLk e2 ca gB
            go_wp2_with fail
            refine (unhide CH).mono ?_; rintro e w' ⟨rfl, hw⟩; have hw' := hw.symm; clear hw; subst hw'
            go_wp2_with fail
            refine (unhide CH2).mono ?_; rintro e w' ⟨rfl, hw⟩; have hw' := hw.symm; clear hw; subst hw'
            clear CH CH2
            go_wp2_with fail
            go_region_law
              (first
                | (refine ni.stepLd (L := Lk) (unhide Q3) (unhide HO) (unhide Q1).size hM (by rfl) _ _ (by rfl) (by rfl) (by rfl) ?_; intro g3 cap3 w3 h3 g3'; have R3 := hide (ni.MidL.step (Nat.le_refl _) (unhide Q1) (unhide Q2) (unhide Q3) (grown_refl wr) h3 g3'); have k3 := (unhide R3).1.1; have k4 := (unhide R3).1.2; clear h3 g3'))
            all_goals
              go_wp2_with fail
              go_roundw
              case rel => exact ⟨k + 1, by omega, by go_num, by rw [← unhide HP2, unhide EN]; exact (unhide R3).2⟩
              case measure => simp [intOf]; omega
          · have en : P2 = P1 := by
              rw [fs]
              unfold nthB
              rw [hx, hy]
              simp
            have EN := hide en
            rw [hx] at CH
            rw [hy] at CH2
            clear hP2 fs en hx hy hs ho hg bgk hLk e2 ca
            go_wp2_with fail
            refine (unhide CH).mono ?_; rintro e w' ⟨rfl, hw⟩; have hw' := hw.symm; clear hw; subst hw'
            go_wp2_with fail
            refine (unhide CH2).mono ?_; rintro e w' ⟨rfl, hw⟩; have hw' := hw.symm; clear hw; subst hw'
            go_wp2_with fail
            go_roundw
            case rel => exact ⟨k + 1, by omega, by go_num, by rw [← unhide HP2, unhide EN]; exact hm⟩
            case measure => simp [intOf]; omega
        · have en : P2 = P1 := by
            rw [fs]
            unfold nthB
            rw [hx]
            simp
          have EN := hide en
          rw [hx] at CH
          clear hP2 fs en hx hs ho hg bgk hLk e2 ca CH2
          go_wp2_with fail
          refine (unhide CH).mono ?_; rintro e w' ⟨rfl, hw⟩; have hw' := hw.symm; clear hw; subst hw'
          go_wp2_with fail
          go_roundw
          case rel => exact ⟨k + 1, by omega, by go_num, by rw [← unhide HP2, unhide EN]; exact hm⟩
          case measure => simp [intOf]; omega
      · have hi' : ¬ (k : Int) < (R.length : Int) := by omega
        have e : R.take k = R := List.take_of_length_le (by omega)
        rw [e] at hm
        have ST2 : Hid (MidL W wr W.heap.size n (R.filter (nthB x) ++ pairsE x (R.take 0) R)) := by
          rw [List.take_zero]
          show MidL _ _ _ _ (_ ++ [])
          rw [List.append_nil]
          exact unhide hm
        clear hm e hg bgk
        go_wp2_with fail
        clear x0 x1
        go_loopw [10] (fun i wr => ∃ k : Nat, k ≤ R.length ∧ i = .int .i64 k ∧ Hid (MidL W wr W.heap.size n (R.filter (nthB x) ++ pairsE x (R.take k) R))) (fun i _ => R.length - (intOf i).toNat)
        case atStart => exact ⟨0, Nat.zero_le _, rfl, ST2⟩
        case round =>
          obtain ⟨k, hk, rfl, hm⟩ := hrel
          clear ST2
          have hg := (unhide hm).2.1
          have bgk := (unhide BG).kept hg
          have x0 := bgk.c0
          have x1 := bgk.c1
          by_cases hlt : k < R.length
          · have hi' : (k : Int) < (R.length : Int) := by omega
            have hltD : k < D.length := by rw [unhide LDR]; exact hlt
            have ca := unhide DR k hltD
            have ps := pairs_step x R R k hlt
            rw [ca] at ps
            have hLa : D[k].2.length ≤ 1048576 := by
              have h1 := unhide HIN (R.getD k []) (by rw [show R.getD k [] = R[k] by simp [hlt]]; exact List.getElem_mem _)
              rw [ca] at h1
              omega
            have RA := hide (fun (wx : World) (g : W.grownBy wx none) => ((unhide LD).kept g).at k hltD)
            generalize hLk : D[k].2 = Lk at *
            have PS := hide ps
            have ST3 : Hid (MidL W wr W.heap.size n ((R.filter (nthB x) ++ pairsE x (R.take k) R) ++ rowE x Lk (R.take 0))) := by
              rw [List.take_zero]
              show MidL _ _ _ _ (_ ++ [])
              rw [List.append_nil]
              exact unhide hm
            obtain ⟨MM, hMM⟩ : ∃ MM, MM = R.filter (nthB x) ++ pairsE x (R.take k) R := ⟨_, rfl⟩
            rw [← hMM] at ST3
            have HMM := hide hMM
            have MT2 := hide (fun (m : Nat) => unhide MT (R.take k) R (R.take m) Lk (by rw [List.length_take]; omega) hR120 (by rw [List.length_take]; omega))
            clear hMM hm hg bgk ps ca hLk
            go_wp2_with fail
            clear x0 x1
            go_loopw [11] (fun i wx => ∃ m : Nat, m ≤ R.length ∧ i = .int .i64 m ∧ Hid (MidL W wx W.heap.size n (MM ++ rowE x Lk (R.take m)))) (fun i _ => R.length - (intOf i).toNat)
            case atStart => exact ⟨0, Nat.zero_le _, rfl, ST3⟩
            case round =>
              obtain ⟨m, hm', rfl, hm⟩ := hrel
              clear ST3
              have hg := (unhide hm).2.1
              have bgk := (unhide BG).kept hg
              have x0 := bgk.c0
              have x1 := bgk.c1
              by_cases hlt2 : m < R.length
              · have hi2 : (m : Int) < (R.length : Int) := by omega
                have hltD2 : m < D.length := by rw [unhide LDR]; exact hlt2
                obtain ⟨b, cap', xa, xc, e, e2, c1, hs, ho⟩ := unhide RA wr hg
                obtain ⟨b', cap2, ya, yc, e', e3, c2, hs2, ho2⟩ := ((unhide LD).kept hg).at m hltD2
                rw [unhide LDR] at e e'
                simp only [Value.slice.injEq] at e
                obtain ⟨rfl, _, rfl⟩ := e
                simp only [Value.slice.injEq, Option.some.injEq, Addr.mk.injEq] at e'
                obtain ⟨⟨rfl, _⟩, _, rfl⟩ := e'
                have cb := unhide DR m hltD2
                have hLb : D[m].2.length ≤ 1048576 := by
                  have h1 := unhide HIN (R.getD m []) (by rw [show R.getD m [] = R[m] by simp [hlt2]]; exact List.getElem_mem _)
                  rw [cb] at h1
                  omega
                have rs := row_step x Lk R m hlt2
                rw [cb] at rs
                have gd := cf.grown_drew wr none
                have RC := hide (res.specResolve _ _ Lk D[m].2 x wr.drew hLa hLb (hs.kept gd (.inl rfl)) (hs2.kept gd (.inl rfl)))
                have hl : (MM ++ rowE x Lk (R.take m)).length ≤ 1048576 := by
                  rw [unhide HMM]
                  exact Nat.le_trans (css.tot_len _) (unhide MT2 m)
                generalize hLm : D[m].2 = Lm at *
                obtain ⟨P2, hP2⟩ : ∃ P2, P2 = MM ++ rowE x Lk (R.take (m + 1)) := ⟨_, rfl⟩
                have HP2 := hide hP2
                have CK : Hid (∀ w', wr.grownBy w' none → w'.cell? ⟨gb6, 1, none⟩ = some (.slice (some ⟨b, 0, none⟩) R.length qc) ∧ w'.cell? ⟨b, k, none⟩ = some (.slice xa Lk.length xc) ∧ w'.cell? ⟨b, m, none⟩ = some (.slice ya Lm.length yc)) := fun w' g => ⟨g.cell x1 (fun e => by cases e), g.cell c1 (fun e => by cases e), g.cell c2 (fun e => by cases e)⟩
                cases hrb : resB Lk Lm x
                · rw [hrb] at rs RC
                  have en : P2 = MM ++ rowE x Lk (R.take m) := by
                    rw [hP2, rs]
                    simp
                  have EN := hide en
                  generalize MM ++ rowE x Lk (R.take m) = P1 at *
                  clear ho ho2 hs hs2 e2 e3 cb rs hLm hP2 en hrb hg bgk gd
                  go_wp2_with fail
                  go_region_held3 (fun w' => w'.cell? ⟨gb6, 1, none⟩ = some (.slice (some ⟨b, 0, none⟩) R.length qc) ∧ w'.cell? ⟨b, k, none⟩ = some (.slice xa Lk.length xc) ∧ w'.cell? ⟨b, m, none⟩ = some (.slice ya Lm.length yc)) (go_keep) (first
                    | (go_at_call 77; refine (unhide RC).mono ?_; rintro e w12 ⟨uc, rfl, mc⟩; obtain ⟨ca, cc, rfl, _⟩ := (Own.of mc.1).sl; have GC := hide (grown_trans (r := none) (cf.grown_drew wr none) mc.2); have k1 := (unhide CK w12 (unhide GC)).1; have k2 := (unhide CK w12 (unhide GC)).2.1; have k3 := (unhide CK w12 (unhide GC)).2.2; clear mc))
                  have R9 : Hid (MidL W w12 W.heap.size n P2) := by
                    rw [unhide EN]
                    exact (unhide hm).kept (unhide GC)
                  clear RC CK GC hm
                  go_wp2_with fail
                  go_roundw
                  case rel => exact ⟨m + 1, by omega, by go_num, by rw [← unhide HP2]; exact R9⟩
                  case measure => simp [intOf]; omega
                · rw [hrb] at rs RC
                  have en : P2 = (MM ++ rowE x Lk (R.take m)) ++ [resL Lk Lm x] := by
                    rw [hP2, rs, List.append_assoc]
                    simp
                  have EN := hide en
                  generalize MM ++ rowE x Lk (R.take m) = P1 at *
                  clear ho ho2 hs hs2 e2 e3 cb rs hLm hP2 en hrb hg bgk gd
                  go_wp2_with fail
                  go_region_held3 (fun w' => w'.cell? ⟨gb6, 1, none⟩ = some (.slice (some ⟨b, 0, none⟩) R.length qc) ∧ w'.cell? ⟨b, k, none⟩ = some (.slice xa Lk.length xc) ∧ w'.cell? ⟨b, m, none⟩ = some (.slice ya Lm.length yc)) (go_keep) (first
                    | (go_at_call 77; refine (unhide RC).mono ?_; rintro e w12 ⟨uc, rfl, mc⟩; obtain ⟨ca, cc, rfl, _⟩ := (Own.of mc.1).sl; have GC := hide (grown_trans (r := none) (cf.grown_drew wr none) mc.2); have MC := hide mc.1; have k1 := (unhide CK w12 (unhide GC)).1; have k2 := (unhide CK w12 (unhide GC)).2.1; have k3 := (unhide CK w12 (unhide GC)).2.2; clear mc))
                  obtain ⟨q0, q1, oa, oc, q2, q3⟩ := (unhide hm).kept (unhide GC)
                  have o1 := q2.c1
                  have of1 := q2.f 1
                  have o2 := (q2.kept (World.grownBy_alloc w12 (.cells #[.slice ca (resL Lk Lm x).length cc] 31) none)).c1
                  have Q1 := hide q1
                  have Q2 := hide q2
                  have Q3 := hide q3
                  clear q0 q1 q2 q3 hm RC CK GC k1 k2 k3
                  go_wp2_with (at_builtin; refine appendLp (unhide Q3) (own_mono (unhide MC) (Nat.zero_le _)) (unhide Q1).size hl rfl _ _ rfl rfl rfl ?_)
                  intro g3 cap3 w13 l3 g3' n3
                  have R3 := hide (ni.MidL.step (Nat.le_refl _) (unhide Q1) (unhide Q2) (unhide Q3) (grown_refl w12) l3 g3')
                  have k3 := (unhide R3).1.1
                  have k4 := (unhide R3).1.2
                  clear l3 g3' n3 MC o1 of1 o2
                  go_wp2_with fail
                  go_roundw
                  case rel => exact ⟨m + 1, by omega, by go_num, by rw [← unhide HP2, unhide EN]; exact (unhide R3).2⟩
                  case measure => simp [intOf]; omega
              · have hi2 : ¬ (m : Int) < (R.length : Int) := by omega
                have e : R.take m = R := List.take_of_length_le (by omega)
                rw [e] at hm
                have R9 : Hid (MidL W wr W.heap.size n (R.filter (nthB x) ++ pairsE x (R.take (k + 1)) R)) := by
                  rw [unhide PS, ← List.append_assoc, ← unhide HMM]
                  exact unhide hm
                clear hm e hg bgk
                go_wp2_with fail
                go_roundw
                case rel => exact ⟨k + 1, by omega, by go_num, R9⟩
                case measure => simp [intOf]; omega
          · have hi' : ¬ (k : Int) < (R.length : Int) := by omega
            have e : R.take k = R := List.take_of_length_le (by omega)
            have MTE := unhide MT R R [] [] hR120 hR120 (by simp)
            have e9 : R.filter (nthB x) ++ pairsE x R R ++ rowE x [] [] = elimL x R := List.append_nil _
            rw [e9] at MTE
            have e8 : R.filter (nthB x) ++ pairsE x (R.take k) R = elimL x R := by rw [e]; rfl
            clear e e9
            generalize R.filter (nthB x) ++ pairsE x (R.take k) R = PP at *
            rw [← e8] at MTE EL
            obtain ⟨q0, q1, oa, oc, q2, q3⟩ := unhide hm
            have CS2 := hide (cso.specCnfSort _ n PP wr MTE q3.sls)
            have rr := (unhide RW).kept q1
            have GG := hide (grown_trans (r := none) (unhide GW) q1)
            have o0 := q2.c0
            have o1 := q2.c1
            have RR := hide rr
            clear rr e8 q0 q1 q2 q3 hm hg bgk
            go_wp2_with fail
            refine (unhide CS2).mono ?_; rintro e w14 ⟨u, rfl, o14, g14⟩
            obtain ⟨ra, rc, rfl⟩ := o14.len
            have r14 := (unhide RR).kept g14
            have z0 := r14.c0
            have z1 := r14.c1
            have zf0 := r14.f 0
            have zf1 := r14.f 1
            have R14 := hide r14
            have O14 := hide (o14.sub (unhide GG).size (Nat.le_refl _))
            have G14 := hide (grown_trans (r := none) (unhide GG) g14)
            clear r14 o14 g14 CS2 x0 x1 o0 o1
            go_wp2_with fail
            (try simp only [Exit.inBlock, Exit.then])
            refine bodyPost_ret (cf.ret_box2 rfl rfl (((unhide R14).set0 _).set1 _)) rfl ?_
            rw [unhide EL]
            refine ⟨_, rfl, ?_, cf.grown_set (cf.grown_set (unhide G14) (by omega)) (by omega)⟩
            rw [cf.size_set, cf.size_set]
            exact gr.ownS_set (gr.ownS_set (unhide O14) (unhide R14)) ((unhide R14).set0 _)
theorem bothEliminate (n x : Int) (LL : List (List Int)) (hn : tot LL ≤ 1048576) : ∃ (N : Int) (b : Bool) (R : List (List Int)), tot R ≤ 1048576 ∧
    (∀ v w, Sls w v LL → Calls Tryd.prog 23 #[.agg #[.int .i64 n, v], .int .i64 x] w fun e w' => ∃ u, e = .returned (.tuple #[.agg #[.int .i64 N, u], .bool b]) ∧ OwnS w.heap.size w'.heap.size w' u R ∧ w.grownBy w' none) ∧
    (∀ v w, Tab w → Sls w v LL → Calls Tryd.prog 22 #[.agg #[.int .i64 n, v], .int .i64 x] w fun e w' => ∃ u, e = .returned (.tuple #[.agg #[.int .i64 N, u], .bool b]) ∧ OwnS w.heap.size w'.heap.size w' u R ∧ w.grownBy w' none) :=
  ⟨elN n x LL, elB n x LL, elR n x LL, el_tot n x LL, fun v w hv => specEliminate v n x LL w hn hv, fun v w hT hv => implEliminate v n x LL w hT hn hv⟩
end Go.Proofs.YtibpnocpafppaaaDoor.el
