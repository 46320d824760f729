/- Parity of the model and of both, at any list of at most 2^20 numbers. -/
import Derived.Test.YtmmfhcfanbfniaaTn
import Derived.Test.YtmmfhcfanbfniaaTk
import Derived.Test.YtmmfhcfanbfniaaCt
namespace Go.Proofs.Ytmmfhcfanbfniaa.t2
open Go.ChangeShapes Go.WideShapes Go.ChangeAt Go.RowKit
open Go.Proofs.Ytmmfhcfanbfniaa.lits (okB okB_iff)
open Go.Proofs.Ytmmfhcfanbfniaa.sl (Sl Own ints hide unhide ret_int ret_bool grown_refl grown_trans grown_drewN)
open Go.Proofs.Ytmmfhcfanbfniaa.css (Sls OwnS tot Apart own_ne own_ne' own_kind own_mono)
open Go.Proofs.Ytmmfhcfanbfniaa.cf (Box)
open Go.Proofs.Ytmmfhcfanbfniaa.wo (Made)
open Go.Proofs.Ytmmfhcfanbfniaa.cnt (asg asg_out asg_len)
set_option linter.unusedVariables false

theorem way_cut (L a : List Int) (i : Nat) (h : a.length = L.length) (hi : i < L.length) : (wayC L a).take (i + 1) = (wayC L a).take i ++ [if a.getD i 0 = 1 then -(L.getD i 0) else L.getD i 0] := by
  have hl := way_len L a h
  rw [← way_get L a i h hi, List.take_succ_eq_append_getElem (by omega)]
  simp [hl, hi]
theorem getD_mem {a : List Int} {i : Nat} (h : i < a.length) : a.getD i 0 ∈ a := by
  rw [show a.getD i 0 = a[i] by simp [h]]
  exact List.getElem_mem h
theorem sum_cut (a : List Int) (i m : Nat) (hi : i < a.length) (h : (a.take i).sum = (m : Int)) (hb : a.getD i 0 = 0 ∨ a.getD i 0 = 1) : ∃ m' : Nat, (a.take (i + 1)).sum = (m' : Int) ∧ m' ≤ m + 1 ∧ (m : Int) + a.getD i 0 = (m' : Int) := by
  rw [List.take_succ_eq_append_getElem hi, List.sum_append, h]
  have e : a.getD i 0 = a[i] := by simp [hi]
  rw [e] at hb ⊢
  rcases hb with e0 | e0
  · exact ⟨m, by rw [e0]; simp, by omega, by rw [e0]; simp⟩
  · exact ⟨m + 1, by rw [e0]; simp, by omega, by rw [e0]; simp⟩
/-- lists that were gathered -/
def Gat (w wr : World) (v : Value) (M : List (List Int)) : Prop := OwnS w.heap.size wr.heap.size wr v M ∧ w.grownBy wr none
theorem Gat.kept {w wr w1 : World} {v : Value} {M : List (List Int)} (h : Gat w wr v M) (g : wr.grownBy w1 none) : Gat w w1 v M := ⟨(h.1.kept g).sub (Nat.le_refl _) g.size, grown_trans h.2 g⟩
theorem Gat.start (w : World) : Gat w (w.alloc (.cells #[] 24)) (.slice (some ⟨w.heap.size, 0, none⟩) 0 0) [] := ⟨rq.nilS w, World.grownBy_alloc _ _ _⟩
theorem Gat.put {w wr w1 : World} {v v' : Value} {M M' : List (List Int)} {o : Obj} (h : Gat w wr v M) (o1 : OwnS w.heap.size w1.heap.size w1 v' M') (g : (wr.alloc o).grownBy w1 v.ownBlock) : Gat w w1 v' M' := ⟨o1, app.grown_appS (lo := 0) h.2 h.1 g⟩
theorem par_len7 {L : List Int} {odd : Bool} {k : Nat} (h : L.length ≤ 7) (hk : k ≤ 2 ^ L.length) : (parT L odd k).length ≤ 1048576 := by
  have h1 : (parT L odd k).length ≤ k := by
    unfold parT
    rw [List.length_map]
    exact Nat.le_trans (List.length_filter_le _ _) (by rw [List.length_range]; exact Nat.le_refl _)
  have : 2 ^ L.length ≤ 2 ^ 7 := Nat.pow_le_pow_right (by decide) h
  omega

set_option maxRecDepth 10000 in
set_option maxHeartbeats 8000000 in
theorem specParity (odd : Bool) (u : Value) (L : List Int) (w : World) (hL : L.length ≤ 1048576) (hu : Sl w u L) :
    Calls Try.prog 27 #[u, .bool odd] w fun e w' => AnsE w (parB L) (parC L odd) e w' := by
  have g0 := World.grownBy_alloc w (.cells #[] 24) none
  have hu0 := hu.kept g0 (.inl rfl)
  have cl := l13List u L _ hL hu0
  have HU := hide (fun (wr : World) (g : w.grownBy wr none) => hu.kept g (.inl rfl))
  obtain ⟨ua, uc, rfl, _⟩ := hu
  cases hl : listB L
  · have E : parB L = false := by unfold parB; rw [hl]; rfl
    rw [hl] at cl
    rw [E]
    have CL := hide cl
    clear cl hl E g0 hu0
    go_enter Try.func27, Try.ntmps27
    go_wp2_with fail
    refine (unhide CL).mono ?_; rintro e w' ⟨rfl, hw⟩; have hw' := hw.symm; clear hw; subst hw'
    go_wp2_with fail
    go_ret2
    exact ans_no (grown_refl _)
  · rw [hl] at cl
    have CL := hide cl
    have lo_ := list_ok hl
    by_cases h7 : 7 < L.length
    · have E : parB L = false := by unfold parB; rw [decide_eq_false (show ¬ L.length ≤ 7 by omega), Bool.and_false]
      have h7' : (7 : Int) < (L.length : Int) := by omega
      rw [E]
      clear cl hl E g0 hu0
      go_enter Try.func27, Try.ntmps27
      go_wp2_with fail
      refine (unhide CL).mono ?_; rintro e w' ⟨rfl, hw⟩; have hw' := hw.symm; clear hw; subst hw'
      go_wp2_with fail
      go_ret2
      exact ans_no (grown_refl _)
    · have E : parB L = true := by unfold parB; rw [hl, decide_eq_true (show L.length ≤ 7 by omega)]; rfl
      have h7' : ¬ (7 : Int) < (L.length : Int) := by omega
      have ST : Hid (Gat w (w.alloc (.cells #[] 24)) (.slice (some ⟨w.heap.size, 0, none⟩) 0 0) (parT L odd 0)) := Gat.start w
      obtain ⟨N, hN⟩ : ∃ N : Nat, N = 2 ^ L.length := ⟨_, rfl⟩
      have hN1 : N ≤ 128 := by rw [hN]; exact Nat.pow_le_pow_right (i := L.length) (j := 7) (show 0 < 2 by decide) (by omega)
      have PW := hide (fun w => ct.pow2 L.length w (by omega))
      have HN := hide hN
      have HC := hide lo_.2
      have h24 : L.length ≤ 7 := by omega
      rw [E]
      rw [← hN] at PW
      clear cl hl E lo_ hN g0 hu0
      go_enter Try.func27, Try.ntmps27
      go_wp2_with fail
      refine (unhide CL).mono ?_; rintro e w' ⟨rfl, hw⟩; have hw' := hw.symm; clear hw; subst hw'
      clear CL
      go_wp2_with fail
      go_loopw [6, 7] (fun v i wr => ∃ k : Nat, k ≤ N ∧ i = .int .i64 (k : Int) ∧ Hid (Gat w wr v (parT L odd k))) (fun _ i _ => N - (intOf i).toNat)
      case atStart => exact ⟨0, Nat.zero_le _, rfl, ST⟩
      case round =>
        obtain ⟨k, hk, rfl, hm⟩ := hrel
        clear ST
        by_cases hlt : k < N
        · have hi' : (k : Int) < (N : Int) := by omega
          obtain ⟨va, vc, rfl⟩ := (unhide hm).1.len
          go_wp2_with fail
          refine (unhide PW _).mono ?_; rintro e w' ⟨rfl, hw⟩; have hw' := hw.symm; clear hw; subst hw'
          go_wp2_with fail
          refine (ct.assign L.length k _ (by omega) (by omega)).mono ?_; rintro e w1 ⟨av, rfl, m1⟩
          have G1 := hide ((unhide hm).kept m1.2)
          have hal := asg_len L.length k []
          rw [List.length_nil, Nat.add_zero] at hal
          have AB := hide (asg_bits L.length k)
          have AL := hide hal
          have ho := odd_pn h24 (k := k) (by rw [← unhide HN]; exact hlt)
          have PY := hide (@parT_yes L odd k)
          have PN := hide (@parT_no L odd k)
          have PE := hide (par_len7 (odd := odd) (k := k) h24 (by rw [← unhide HN]; exact hk))
          have WC := hide (way_cut L (asg L.length k []) · hal)
          have WL := hide (way_len L (asg L.length k []) hal)
          have M1 := hide m1
          obtain ⟨aa, ac, rfl, _⟩ := (Own.of m1.1).sl
          rw [hal]
          rw [hal] at M1
          clear m1 hal hm
          have OD : Hid (oddB (asg L.length k []) = decide ((asg L.length k []).sum % 2 = 1)) := rfl
          clear ho
          generalize asg L.length k [] = a at *
          generalize hWW : wayC L a = W at *
          clear hWW
          have mn := hide (app.made_nil w1)
          go_wp2_with fail
          go_loopw [9, 10, 11] (fun z c i wx => ∃ i' m : Nat, i' ≤ L.length ∧ i = .int .i64 (i' : Int) ∧ z = .int .i64 (m : Int) ∧ m ≤ i' ∧ Hid ((a.take i').sum = (m : Int)) ∧ Hid (Made w1 wx c (W.take i'))) (fun _ _ i _ => L.length - (intOf i).toNat)
          case atStart => exact ⟨0, 0, Nat.zero_le _, rfl, rfl, Nat.le_refl _, rfl, by show Made _ _ _ _; rw [List.take_zero]; exact unhide mn⟩
          case round =>
            obtain ⟨i', m, hi2, rfl, rfl, hmi, hs, hc⟩ := hrel
            clear mn
            have G2 := hide ((unhide G1).kept (unhide hc).2)
            by_cases hlt2 : i' < L.length
            · have hi3 : (i' : Int) < (L.length : Int) := by omega
              obtain ⟨a2, cap2, e2, h2⟩ := unhide HU wr (unhide G2).2
              cases e2
              rcases h2 with h | ⟨b, off, rfl, hb, hcb⟩
              · rw [h] at hlt2
                simp at hlt2
              have c1 := hcb i' hlt2
              obtain ⟨g, cap3, e3, c3⟩ := own_cell (n := L.length) ((Own.of (unhide M1).1).kept (unhide hc).2) (unhide AL) (by omega)
              cases e3
              have c4 := c3 i' hlt2
              have bd := ok_bd (unhide HC (L.getD i' 0) (by rw [show L.getD i' 0 = L[i'] by simp [hlt2]]; exact List.getElem_mem hlt2))
              have yb := unhide AB (a.getD i' 0) (getD_mem (by rw [unhide AL]; exact hlt2))
              obtain ⟨m', s1, s2, s3⟩ := sum_cut a i' m (by rw [unhide AL]; exact hlt2) (unhide hs) yb
              have wc := unhide WC i' hlt2
              have lw : (W.take i').length ≤ 4194304 := by rw [List.length_take]; omega
              have S1 := hide s1
              have HH := hide hc
              generalize L.getD i' 0 = x at *
              generalize a.getD i' 0 = y at *
              obtain ⟨P2, hP2⟩ : ∃ P2, P2 = W.take (i' + 1) := ⟨_, rfl⟩
              rw [← hP2] at wc
              have HP := hide hP2
              generalize W.take i' = P1 at *
              obtain ⟨ca, cc, rfl, _⟩ := (Own.of (unhide HH).1).sl
              have hg := (unhide HH).2
              have ho := (unhide HH).1
              have KO := hide hg
              have KR := hide ho
              have WCC := hide wc
              clear hcb hb c3 hs hc HH s1 wc hP2 hg ho
              obtain ⟨x0, x1⟩ := bd
              rcases yb with rfl | rfl
              · go_wp2_with (at_builtin; refine wo.append1 (unhide KO) (unhide KR) lw rfl _ _ rfl rfl rfl ?_)
                intro v' w2 R
                have R2 : Hid (Made w1 w2 v' P2) := by
                  rw [unhide WCC]
                  exact R
                clear R KO KR WCC
                go_wp2_with fail
                go_roundw
                case rel => exact ⟨i' + 1, m', by omega, by go_num, by rw [← s3], by omega, S1, by rw [← unhide HP]; exact R2⟩
                case measure => simp [intOf]; omega
              · go_wp2_with (at_builtin; refine wo.append1 (unhide KO) (unhide KR) lw rfl _ _ rfl rfl rfl ?_)
                intro v' w2 R
                have R2 : Hid (Made w1 w2 v' P2) := by
                  rw [unhide WCC]
                  exact R
                clear R KO KR WCC
                go_wp2_with fail
                go_roundw
                case rel => exact ⟨i' + 1, m', by omega, by go_num, by rw [← s3], by omega, S1, by rw [← unhide HP]; exact R2⟩
                case measure => simp [intOf]; omega
            · have hi3 : ¬ (i' : Int) < (L.length : Int) := by omega
              have e1 : W.take i' = W := List.take_of_length_le (by rw [unhide WL]; omega)
              have e2 : a.take i' = a := List.take_of_length_le (by rw [unhide AL]; omega)
              rw [e1] at hc
              rw [e2] at hs
              have hodd : oddB a = decide (m % 2 = 1) := by
                rw [unhide OD, unhide hs]
                exact decide_eq_decide.2 (by omega)
              have C := hide (unhide hc).1
              have KK := hide (unhide hc).2
              have SZ := hide (unhide hc).2.size
              obtain ⟨ca, cc, rfl, _⟩ := (Own.of (unhide hc).1).sl
              have h1 : ((m : Int) % 2 == 1) = oddB a := by
                rw [hodd, Bool.eq_iff_iff]
                simp
                omega
              generalize oddB a = ob at *
              clear hodd e1 e2 hs hc OD
              cases ob <;> cases odd
              · have R : Hid (Gat w wr (.slice va (parT L false k).length vc) (parT L false (k + 1))) := by
                  rw [unhide PN rfl]
                  exact unhide G2
                clear PY PN G2
                go_wp2_with fail
                go_roundw
                case rel => exact ⟨k + 1, by omega, by go_num, R⟩
                case measure => simp [intOf]; omega
              · have hP := hide (unhide PY rfl)
                clear PY PN
                have O2 := hide (unhide G2).1
                have PEE := unhide PE
                have HS := hide (unhide G2).2.size
                obtain ⟨P2, hP2⟩ : ∃ P2, P2 = parT L true (k + 1) := ⟨_, rfl⟩
                rw [← hP2] at hP
                have HE := hide hP2
                clear hP2
                generalize parT L true k = P1 at *
                have O3 : Hid (OwnS w.heap.size w1.heap.size wr (.slice va P1.length vc) P1) := (unhide G1).1.kept (unhide KK)
                go_wp2_with (at_builtin; refine appendN (unhide O3) (Own.of (unhide C)) (unhide G1).2.size (unhide SZ) PEE rfl _ _ rfl rfl rfl ?_)
                intro g2 cap2 w2 o2 g2' n2
                have R : Hid (Gat w w2 (.slice (some ⟨g2, 0, none⟩) (P1.length + 1) cap2) P2) := by
                  rw [unhide hP]
                  exact (unhide G2).put o2 g2'
                clear o2 g2' n2 O3 G1 G2 C SZ O2
                go_wp2_with fail
                go_roundw
                case rel => exact ⟨k + 1, by omega, by go_num, by rw [← unhide HE]; exact R⟩
                case measure => simp [intOf]; omega
              · have hP := hide (unhide PY rfl)
                clear PY PN
                have O2 := hide (unhide G2).1
                have PEE := unhide PE
                have HS := hide (unhide G2).2.size
                obtain ⟨P2, hP2⟩ : ∃ P2, P2 = parT L false (k + 1) := ⟨_, rfl⟩
                rw [← hP2] at hP
                have HE := hide hP2
                clear hP2
                generalize parT L false k = P1 at *
                have O3 : Hid (OwnS w.heap.size w1.heap.size wr (.slice va P1.length vc) P1) := (unhide G1).1.kept (unhide KK)
                go_wp2_with (at_builtin; refine appendN (unhide O3) (Own.of (unhide C)) (unhide G1).2.size (unhide SZ) PEE rfl _ _ rfl rfl rfl ?_)
                intro g2 cap2 w2 o2 g2' n2
                have R : Hid (Gat w w2 (.slice (some ⟨g2, 0, none⟩) (P1.length + 1) cap2) P2) := by
                  rw [unhide hP]
                  exact (unhide G2).put o2 g2'
                clear o2 g2' n2 O3 G1 G2 C SZ O2
                go_wp2_with fail
                go_roundw
                case rel => exact ⟨k + 1, by omega, by go_num, by rw [← unhide HE]; exact R⟩
                case measure => simp [intOf]; omega
              · have R : Hid (Gat w wr (.slice va (parT L true k).length vc) (parT L true (k + 1))) := by
                  rw [unhide PN rfl]
                  exact unhide G2
                clear PY PN G2
                go_wp2_with fail
                go_roundw
                case rel => exact ⟨k + 1, by omega, by go_num, R⟩
                case measure => simp [intOf]; omega
        · have hi' : ¬ (k : Int) < (N : Int) := by omega
          have e : k = N := by omega
          rw [e, unhide HN, parT_all] at hm
          obtain ⟨va, vc, rfl⟩ := (unhide hm).1.len
          have R := hide (unhide hm)
          clear hm e
          go_wp2_with fail
          refine (unhide PW _).mono ?_; rintro e w' ⟨rfl, hw⟩; have hw' := hw.symm; clear hw; subst hw'
          go_wp2_with fail
          go_ret2
          exact ⟨_, rfl, (unhide R).1, (unhide R).2⟩
theorem way_le {L a : List Int} : (wayC L a).length ≤ L.length := by
  unfold wayC
  rw [List.length_zipWith]
  omega
theorem bothParity (L : List Int) (hL : L.length ≤ 1048576) (odd : Bool) : ∃ (R : List (List Int)) (bo : Bool), tot R ≤ 1048576 ∧ (∀ w u, Sl w u L → Calls Try.prog 27 #[u, .bool odd] w fun e w' => ∃ u, e = .returned (.tuple #[u, .bool bo]) ∧ OwnS w.heap.size w'.heap.size w' u R ∧ w.grownBy w' none)
    ∧ ∀ w u lo hi, Own lo hi w u L → hi ≤ w.heap.size → Calls Try.prog 26 #[u, .bool odd] w fun e w' => ∃ u, e = .returned (.tuple #[u, .bool bo]) ∧ OwnS w.heap.size w'.heap.size w' u R ∧ w.grownBy w' none := by
  refine ⟨if parB L then parC L odd else [], parB L, ans_tot fun h => ?_, fun w u h => specParity odd u L w hL h, fun w u lo hi h hh => implParity odd u L lo hi w hL h hh⟩
  simp only [parB, Bool.and_eq_true, decide_eq_true_eq] at h
  have hle := par_le (L := L) odd h.2
  refine tot_few (by omega) fun C hC => ?_
  unfold parC at hC
  rw [List.mem_map] at hC
  obtain ⟨k, _, rfl⟩ := hC
  exact Nat.le_trans way_le (by omega)
end Go.Proofs.Ytmmfhcfanbfniaa.t2
