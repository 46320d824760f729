/- Formulas as texts: what CnfText of the model answers at every formula of at most 2^20 numbers. -/
import Derived.Test.YtfokbkaommfnoaaGreatDoorCx
import Derived.Test.YtfokbkaommfnoaaGreatDoorBy
import Derived.Deep.LoopGhost
import Derived.Deep.CutRange
namespace Go.Proofs.YtfokbkaommfnoaaGreatDoor.cx
open Go.ChangeShapes Go.WideShapes Go.ChangeAt Go.RowKit
open Go.Proofs.YtfokbkaommfnoaaGreatDoor.sl (Sl hide unhide grown_refl grown_trans grown_drewN of_below below_of)
open Go.Proofs.YtfokbkaommfnoaaGreatDoor.dec (str)
open Go.Proofs.YtfokbkaommfnoaaGreatDoor.css (Sls tot)
open Go.Proofs.YtfokbkaommfnoaaGreatDoor.ok (cnfB clB)
open Go.Proofs.YtfokbkaommfnoaaGreatDoor.txt (Pow text body)
open Go.Proofs.YtfokbkaommfnoaaGreatDoor.byt (Byt MadeB)
set_option linter.unusedVariables false

theorem cat5 (a b : List UInt8) : (⟨#[112, 32, 99, 110, 102, 32]⟩ : ByteArray) ++ ⟨a.toArray⟩ ++ ⟨#[32]⟩ ++ ⟨b.toArray⟩ ++ ⟨#[10]⟩ = ⟨([112, 32, 99, 110, 102, 32] ++ a ++ [32] ++ b ++ [10]).toArray⟩ := ByteArray.ext (by simp)
theorem cat6 (a : List UInt8) : (⟨a.toArray⟩ : ByteArray) ++ ⟨#[10]⟩ = ⟨(a ++ [10]).toArray⟩ := ByteArray.ext (by simp)

set_option maxHeartbeats 4000000 in
set_option maxRecDepth 100000 in
theorem specCnfText (v : Value) (n : Int) (LL : List (List Int)) (w : World) (hn : tot LL ≤ 1048576) (hv : Sls w v LL) :
    Calls Tryz.prog 8 #[.agg #[.int .i64 n, v]] w fun e w' => e = .returned (str (cnfT n LL)) ∧ w.grownBy w' none := by
  have g0 := World.grownBy_alloc w (.cells #[.int .i64 n, v] 26) none
  have cc := ok.specCnfOk v n LL _ hn (hv.kept g0)
  have F0 := hide (cf.Box.new 26 w (.int .i64 n) v)
  have G0 := hide g0
  obtain ⟨a, cap, rfl, ha⟩ := hv
  have HA := hide ha
  clear ha g0
  cases hok : cnfB n LL
  · rw [hok] at cc
    rw [cnfT_no hok]
    have C1 := hide cc
    clear cc hok HA
    go_enter Tryz.func8, Tryz.ntmps8
    go_wp2_with fail
    refine (unhide C1).mono ?_; rintro e w1 ⟨rfl, g1⟩
    have G1 := hide (grown_trans (r := none) (unhide G0) g1)
    clear g1 F0 C1
    go_wp2_with fail
    go_ret
    exact ⟨rfl, unhide G1⟩
  · rw [hok] at cc
    have hb : (0 ≤ n ∧ n ≤ 24) ∧ LL.length ≤ 120 := by
      have h := hok
      unfold ok.cnfB at h
      simp only [Bool.and_eq_true, decide_eq_true_iff] at h
      exact ⟨h.1.1, h.1.2⟩
    have T0 := hide (fun h : 12000 < (whole n LL).length => cnfT_long h)
    have T1 := hide (fun h : ¬ 12000 < (whole n LL).length => cnfT_yes hok h)
    have HL := hide (hd_len (n := n) (c := (LL.length : Int)) (by omega) (by omega))
    have D1 := hide (fun w' => dec.l01Dec n w' (by omega) (by omega))
    have D2 := hide (fun w' => dec.l01Dec (LL.length : Int) w' (by omega) (by omega))
    have l1 := itoa_len (x := n) (by omega) (by omega)
    have l2 := itoa_len (x := (LL.length : Int)) (by omega) (by omega)
    have C1 := hide cc
    have hl120 := hb.2
    unfold whole hd at T0 T1
    unfold hd at HL
    clear cc hok hb
    generalize cnfT n LL = T at *
    generalize Lib.itoa n = s at *
    generalize Lib.itoa (LL.length : Int) = t at *
    go_enter Tryz.func8, Tryz.ntmps8
    go_wp2_with fail
    refine (unhide C1).mono ?_; rintro e w1 ⟨rfl, g1⟩
    have G1 := hide (grown_trans (r := none) (unhide G0) g1)
    have F1 := hide ((unhide F0).kept g1)
    have x0 := (unhide F1).c0
    have x1 := (unhide F1).c1
    clear g1 F0 C1 G0
    obtain ⟨u1, w2, hcv, hm2⟩ := byt.run_of w1.drew ([112, 32, 99, 110, 102, 32] ++ s ++ [32] ++ t ++ [10]) (by simp only [List.length_append, List.length_cons, List.length_nil]; omega)
    rw [← cat5] at hcv
    have M2 := hide hm2
    clear hm2
    unfold str at D1 D2
    go_upto_region 3 with fail
    go_cut [3] from 8 to 19 (fun u wx => u = u1 ∧ wx = w2)
    case first =>
      go_region_with (first | (go_at_call_of 26 (Value.int IntKind.i64 n); refine (unhide D1 _).mono ?_; rintro e w' ⟨rfl, rfl⟩) | (go_at_call 26; refine (unhide D2 _).mono ?_; rintro e w' ⟨rfl, rfl⟩))
      all_goals (go_wp2_with fail; go_meet; exact ⟨rfl, rfl⟩)
    case rest =>
      obtain ⟨rfl, rfl⟩ := hcut
      have hHl : ([112, 32, 99, 110, 102, 32] ++ s ++ [32] ++ t ++ [10]).length ≤ 48 := by
        simp only [List.length_append, List.length_cons, List.length_nil]
        omega
      clear hcv D1 D2 l1 l2 HL x0 x1
      generalize [112, 32, 99, 110, 102, 32] ++ s ++ [32] ++ t ++ [10] = H at *
      have x1 := ((unhide F1).kept (grown_trans (r := none) (cf.grown_drew w1 none) (unhide M2).2)).c1
      go_wp2_with fail
      go_loopw [3, 4] (fun u i wr => ∃ k : Nat, k ≤ LL.length ∧ i = .int .i64 k ∧ Hid (MadeB w1.drew wr u (H ++ lines (LL.take k)))) (fun _ i _ => LL.length - (intOf i).toNat)
      case atStart => exact ⟨0, Nat.zero_le _, rfl, by rw [List.take_zero]; show MadeB _ _ _ (H ++ []); rw [List.append_nil]; exact M2⟩
      case round =>
        obtain ⟨k, hk, rfl, hm⟩ := hrel
        clear M2 x1
        have hll := lines_len (LL.take k)
        rw [List.length_take] at hll
        have hll' : (H ++ lines (LL.take k)).length ≤ 70000 := by
          rw [List.length_append]
          omega
        clear hll
        have g2 := grown_trans (r := none) (cf.grown_drew w1 none) (unhide hm).2
        have gw := grown_trans (r := none) (unhide G1) g2
        have x1 := ((unhide F1).kept g2).c1
        obtain ⟨g, c, rfl⟩ := (unhide hm).1.form
        clear g2
        by_cases hlt : k < LL.length
        · rcases unhide HA with h | ⟨b, off, rfl, hb, hcb⟩
          · rw [h] at hlt
            simp at hlt
          · obtain ⟨u, hu, hs⟩ := hcb k hlt
            have c1 : wr.cell? ⟨b, off + k, none⟩ = some u := gw.cell hu (fun e => by cases e)
            have hi' : (k : Int) < (LL.length : Int) := by omega
            have ST := hide (lines_step LL k hlt)
            have hL := Nat.le_trans (css.tot_in LL k) hn
            generalize LL.getD k [] = L at *
            have CT := hide (txt.specClauseText u L wr hL (hs.kept gw (.inl rfl)))
            have htl := text_len L
            clear hcb HA hs hu gw hL
            generalize lines (LL.take k) = o at *
            generalize text L = r at *
            generalize hq0 : H ++ o = q at *
            have HQ := hide hq0
            obtain ⟨u2, w3, hcv, hm3⟩ := byt.run_of wr (r ++ [10]) (by rw [List.length_append]; simp only [List.length_cons, List.length_nil]; omega)
            rw [← cat6] at hcv
            have M3 := hide hm3
            have MM := hide (show MadeB w1.drew w3 _ q from ⟨(unhide hm).1.kept hm3.2, grown_trans (unhide hm).2 hm3.2⟩)
            have hbd : q.length + (r ++ [10]).length ≤ 4194304 := by rw [List.length_append]; simp only [List.length_cons, List.length_nil]; omega
            have HBD := hide hbd
            obtain ⟨m, hm0⟩ : ∃ m, m = q.length := ⟨_, rfl⟩
            unfold str at CT
            rw [← hm0] at MM ⊢
            clear hq0 hm3 hbd hm hm0 hll'
            go_wp2_with fail
            refine (unhide CT).mono ?_; rintro e w2 ⟨rfl, hw⟩; have hw' := hw.symm; clear hw; subst hw'
            go_wp2_with (at_builtin; refine byt.app (unhide MM) (unhide M3).1 (unhide HBD) rfl _ _ rfl rfl rfl ?_)
            intro v' w4 R
            have R4 := hide R
            clear R
            go_wp2_with fail
            go_roundw
            case rel => exact ⟨k + 1, by omega, by go_num, by rw [unhide ST, ← List.append_assoc, unhide HQ]; exact R4⟩
            case measure => simp [intOf]; omega
        · have hi' : ¬ (k : Int) < (LL.length : Int) := by omega
          have e : LL.take k = LL := List.take_of_length_le (by omega)
          rw [e] at hm hll' ⊢
          clear HA e gw hHl
          generalize H ++ lines LL = q at *
          by_cases hq : 12000 < q.length
          · have hq' : (12000 : Int) < (q.length : Int) := by omega
            have E := hide (unhide T0 hq)
            clear T0 T1 hq
            go_wp2_with fail
            go_ret
            exact ⟨by rw [unhide E]; rfl, grown_trans (grown_trans (r := none) (unhide G1) (cf.grown_drew w1 none)) (unhide hm).2⟩
          · have hq' : ¬ (12000 : Int) < (q.length : Int) := by omega
            have E := hide (unhide T1 hq)
            clear T0 T1 hq
            have hcv := byt.run_back wr _ q _ (unhide hm).1
            unfold str at hcv
            go_wp2_with fail
            go_ret
            exact ⟨by rw [unhide E]; rfl, grown_trans (grown_trans (r := none) (unhide G1) (cf.grown_drew w1 none)) (unhide hm).2⟩
end Go.Proofs.YtfokbkaommfnoaaGreatDoor.cx
