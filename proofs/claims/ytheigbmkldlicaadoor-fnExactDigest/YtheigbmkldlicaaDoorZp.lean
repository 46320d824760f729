/- Sum of the model; no condition but on sizes. -/
import Derived.Test.YtheigbmkldlicaaDoorZo
import Derived.Test.YtheigbmkldlicaaDoorZn
namespace Go.Proofs.YtheigbmkldlicaaDoor.zp
open Go.ChangeShapes Go.WideShapes Go.ChangeAt Go.RowKit
open Go.Proofs.YtheigbmkldlicaaDoor.sl (hide unhide ret_int ret_bool grown_refl grown_trans grown_drewN)
open Go.Proofs.YtheigbmkldlicaaDoor.za (Wd)
open Go.Proofs.YtheigbmkldlicaaDoor.zs (ints)
open Go.Proofs.YtheigbmkldlicaaDoor.zo (ini ini_length ini_all stt stt_wd out4 out4_length padB padB_mod padB_le sumL sumT)
open Go.Proofs.YtheigbmkldlicaaDoor.zn (specSumBlock)
open Go.Proofs.YtheigbmkldlicaaDoor.zk (kL sL kc sc TabK TabS)
open Go.Proofs.YtheigbmkldlicaaDoor.zl (v8 Wd8 wd8_parts wd8_of set_new)
open Go.Proofs.YtheigbmkldlicaaDoor.zm (Bx blk blk_wd)
open Go.Proofs.YtheigbmkldlicaaDoor.zi (put4 be be4 be_length put4_length specPut MadeN appendNumber)
open Go.Proofs.YtheigbmkldlicaaDoor.ze (bts bts_length)
open Go.Proofs.YtheigbmkldlicaaDoor.zj (padT padL mid mid_length specSumPad)
open Go.Proofs.YtheigbmkldlicaaDoor.byt (run_back)
open Go.Proofs.YtheigbmkldlicaaDoor.dec (str)
set_option linter.unusedVariables false

set_option maxRecDepth 100000 in
set_option maxHeartbeats 4000000 in
theorem specSum (s : ByteArray) (w : World) (hs : s.size ≤ 1048576) :
    Calls Tryd.prog 78 #[.string s] w fun r w' => r = .returned (str (sumT s)) ∧ w.grownBy w' none := by
  by_cases h6 : s.size ≤ 60000
  · have hb : ¬ (60000 : Int) < (s.size : Int) := by omega
    rw [show sumT s = sumL s by unfold zo.sumT; rw [if_pos h6]]
    have CP := hide (fun w => specSumPad s w hs)
    rw [show padT s = padL (bts s) by unfold zj.padT; rw [if_pos h6]] at CP
    rw [show str (padL (bts s)) = .string (padB s) from rfl] at CP
    have hPm := padB_mod s
    have hPl := padB_le s h6
    have E : Hid (sumL s = out4 (stt (padB s) ((padB s).size / 64)) 8) := rfl
    generalize padB s = P at *
    generalize sumL s = X at *
    obtain ⟨n, hn⟩ : ∃ n, n = P.size / 64 := ⟨_, rfl⟩
    have tn : (P.size : Int) / 64 = (n : Int) := by omega
    rw [← hn] at E
    have hn2 : 64 * n = P.size := by omega
    have HN := hide hn2
    have I0 : Hid (Bx (w.alloc (.cells (ints [0, 0, 0, 0, 0, 0, 0, 0]).toArray 138)) w.heap.size (ini 0) ∧ w.grownBy (w.alloc (.cells (ints [0, 0, 0, 0, 0, 0, 0, 0]).toArray 138)) none) := ⟨Bx.new _ _, World.grownBy_alloc _ _ none⟩
    clear hn hn2 hPm
    go_enter Tryd.func78, Tryd.ntmps78
    go_wp2_with fail
    go_loopw [4] (fun t wr => ∃ k : Nat, k ≤ 8 ∧ t = .int .i64 k ∧ Bx wr w.heap.size (ini k) ∧ w.grownBy wr none) (fun t _ => 8 - (intOf t).toNat)
    case atStart => exact ⟨0, by omega, rfl, (unhide I0).1, (unhide I0).2⟩
    case round =>
      obtain ⟨k, hk, rfl, hB, hg⟩ := hrel
      clear I0
      have il := ini_length k
      by_cases hlt : k < 8
      · have i0 : (k : Int) < 8 := by omega
        have C := hide (zk.specSumStart (k : Int) wr)
        rw [show sc (k : Int) = sL.getD k 0 by unfold zk.sc; rw [if_pos (by omega)]; rfl] at C
        have c0 := hB.cell k (by omega)
        have c1 := hB.frozen k
        have RR : Hid (∀ w', wr.grownBy w' none → (Bx (w'.setCell ⟨w.heap.size, k, none⟩ (.int .u32 (sL.getD k 0))) w.heap.size (ini (k + 1)) ∧ w.grownBy (w'.setCell ⟨w.heap.size, k, none⟩ (.int .u32 (sL.getD k 0))) none) ∧ (∃ v, w'.cell? ⟨w.heap.size, k, none⟩ = some v) ∧ w'.frozen? ⟨w.heap.size, k, none⟩ = false) := fun w' g' => ⟨⟨(hB.kept g').set k _, set_new (grown_trans hg g') (Nat.le_refl _) k _⟩, ⟨_, (hB.kept g').cell k (by omega)⟩, (hB.kept g').frozen k⟩
        generalize sL.getD k 0 = x at *
        clear hB hg il c0 c1
        go_wp2_with fail
        refine (unhide C).mono ?_; rintro r w' ⟨rfl, gC⟩
        have R := hide (unhide RR w' gC).1
        obtain ⟨vv, c0⟩ := (unhide RR w' gC).2.1
        have c1 := (unhide RR w' gC).2.2
        clear gC RR
        go_wp2_with fail
        go_roundw
        case rel => exact ⟨k + 1, by omega, by go_num, (unhide R).1, (unhide R).2⟩
        case measure => simp [intOf]; omega
      · have i0 : ¬ (k : Int) < 8 := by omega
        have hk' : k = 8 := by omega
        subst hk'
        rw [ini_all] at hB
        have B := hide hB
        have G := hide hg
        clear hB hg il hlt hk
        go_wp2_with fail
        refine (unhide CP _).mono ?_; rintro r w1 ⟨rfl, g1⟩
        have B1 : Hid (Bx w1 w.heap.size (stt P 0)) := (unhide B).kept g1
        have G1 := hide (grown_trans (r := none) (unhide G) g1)
        clear g1 B G CP
        go_wp2_with fail
        go_loopw [6] (fun t wr => ∃ k m1 : Nat, m1 = k * 64 ∧ k ≤ n ∧ t = .int .i64 m1 ∧ Bx wr w.heap.size (stt P k) ∧ w.grownBy wr none) (fun t _ => P.size - (intOf t).toNat)
        case atStart => exact ⟨0, 0, rfl, by omega, rfl, unhide B1, unhide G1⟩
        case round =>
          obtain ⟨k, m1, e1, hk, rfl, hB, hg⟩ := hrel
          clear B1 G1
          have hnP := unhide HN
          have hN := stt_wd P k
          by_cases hlt : k < n
          · have i1 : (m1 : Int) < (P.size : Int) := by omega
            obtain ⟨m2, e3⟩ : ∃ m2, m2 = k * 64 + 64 := ⟨_, rfl⟩
            have j1 : IntKind.i64.wrap ((m1 : Int) + 64) = (m2 : Int) := by rw [zb.wrap64 (by omega) (by omega)]; omega
            have b1 : (m1 : Int) ≤ (m2 : Int) := by omega
            have b2 : (m2 : Int) ≤ (P.size : Int) := by omega
            have hsz : (P.extract m1 m2).size ≤ 1048576 := by simp; omega
            have CB := hide (specSumBlock (stt P k) (P.extract m1 m2) wr.drew hN hsz)
            have HR : Hid (stt P (k + 1) = blk (stt P k) (P.extract m1 m2)) := by show _ = _; rw [e1, e3]; rfl
            have hN2 := blk_wd hN (P.extract m1 m2)
            obtain ⟨a, b, c, d, e, f, g, i, hE, _⟩ := wd8_parts hN
            rw [hE] at CB hB hN2 HR
            obtain ⟨a2, b2', c2, d2, e2', f2, g2, i2, hE2, _⟩ := wd8_parts hN2
            rw [hE2] at CB HR
            have CB' : Hid (Calls Tryd.prog 122 #[.agg #[.int .u32 a, .int .u32 b, .int .u32 c, .int .u32 d, .int .u32 e, .int .u32 f, .int .u32 g, .int .u32 i], .string (P.extract m1 m2)] wr.drew fun r w' => r = .returned (.agg #[.int .u32 a2, .int .u32 b2', .int .u32 c2, .int .u32 d2, .int .u32 e2', .int .u32 f2, .int .u32 g2, .int .u32 i2]) ∧ wr.drew.grownBy w' none) := unhide CB
            obtain ⟨q0, q1, q2, q3, q4, q5, q6, q7, q8⟩ := hB.parts
            have HB := hide hB
            have HG := hide hg
            have HE1 := hide e1
            have HE3 := hide e3
            clear hB hg hN hN2 hE hE2 CB e1 e3 hnP hsz
            go_wp2_with fail
            go_region_with (go_at_call 122; refine (unhide CB').mono ?_; rintro r w2 ⟨rfl, g2'⟩; have G2 := hide (grown_trans (r := none) (grown_drewN wr 1) g2'); obtain ⟨t0, t1, t2, t3, t4, t5, t6, t7, t8⟩ := ((unhide HB).kept (unhide G2)).parts; clear g2')
            all_goals
              have B2 : Hid (Bx ((((((((w2.setCell ⟨w.heap.size, 0, none⟩ (.int .u32 a2)).setCell ⟨w.heap.size, 1, none⟩ (.int .u32 b2')).setCell ⟨w.heap.size, 2, none⟩ (.int .u32 c2)).setCell ⟨w.heap.size, 3, none⟩ (.int .u32 d2)).setCell ⟨w.heap.size, 4, none⟩ (.int .u32 e2')).setCell ⟨w.heap.size, 5, none⟩ (.int .u32 f2)).setCell ⟨w.heap.size, 6, none⟩ (.int .u32 g2)).setCell ⟨w.heap.size, 7, none⟩ (.int .u32 i2)) w.heap.size [a2, b2', c2, d2, e2', f2, g2, i2]) :=
                ((((((((((unhide HB).kept (unhide G2)).set 0 a2).set 1 b2').set 2 c2).set 3 d2).set 4 e2').set 5 f2).set 6 g2).set 7 i2)
              have GG := hide (set_new (set_new (set_new (set_new (set_new (set_new (set_new (set_new (grown_trans (r := none) (unhide HG) (unhide G2)) (Nat.le_refl _) 0 (.int .u32 a2)) (Nat.le_refl _) 1 (.int .u32 b2')) (Nat.le_refl _) 2 (.int .u32 c2)) (Nat.le_refl _) 3 (.int .u32 d2)) (Nat.le_refl _) 4 (.int .u32 e2')) (Nat.le_refl _) 5 (.int .u32 f2)) (Nat.le_refl _) 6 (.int .u32 g2)) (Nat.le_refl _) 7 (.int .u32 i2))
              clear t0 t1 t2 t3 t4 t5 t6 t7 t8 q0 q1 q2 q3 q4 q5 q6 q7 q8 CB'
              go_wp2_with fail
              go_roundw
              case rel => exact ⟨k + 1, m2, by have := unhide HE3; omega, by omega, by have h1 := unhide HE1; have h3 := unhide HE3; first | rfl | (congr 1; omega), by rw [unhide HR]; exact unhide B2, unhide GG⟩
              case measure => have h1 := unhide HE1; have h3 := unhide HE3; simp [intOf]; omega
          · have i1 : ¬ (m1 : Int) < (P.size : Int) := by omega
            have hk' : k = n := by omega
            subst hk'
            have HW := hide hN
            obtain ⟨a, b, c, d, e, f, g, i, hE, _⟩ := wd8_parts hN
            rw [hE] at hB E HW
            obtain ⟨q0, q1, q2, q3, q4, q5, q6, q7, q8⟩ := hB.parts
            have HB := hide hB
            have HG := hide hg
            clear hB hg hN hE hlt hk HN e1 hnP
            go_wp2_with fail
            go_loopw [7, 8] (fun u t wr => ∃ k : Nat, k ≤ 8 ∧ t = .int .i64 k ∧ u = .string ⟨(out4 [a, b, c, d, e, f, g, i] k).toArray⟩ ∧ Bx wr w.heap.size [a, b, c, d, e, f, g, i] ∧ w.grownBy wr none) (fun _ t _ => 8 - (intOf t).toNat)
            case atStart => exact ⟨0, by omega, rfl, rfl, unhide HB, unhide HG⟩
            case round =>
              obtain ⟨k, hk, rfl, rfl, hB, hg⟩ := hrel
              clear HB HG q0 q1 q2 q3 q4 q5 q6 q7 q8
              have ol := out4_length [a, b, c, d, e, f, g, i] k
              by_cases hlt : k < 8
              · have i2 : (k : Int) < 8 := by omega
                have hw : Wd ([a, b, c, d, e, f, g, i].getD k 0) := by
                  rw [List.getD, List.getElem?_eq_getElem (show k < [a, b, c, d, e, f, g, i].length from hlt)]
                  exact (unhide HW).2 _ (List.getElem_mem _)
                have c0 := hB.cell k hlt
                have HO : Hid (out4 [a, b, c, d, e, f, g, i] (k + 1) = out4 [a, b, c, d, e, f, g, i] k ++ put4 ([a, b, c, d, e, f, g, i].getD k 0).toNat) := rfl
                generalize [a, b, c, d, e, f, g, i].getD k 0 = x at *
                obtain ⟨xn, rfl⟩ := Int.eq_ofNat_of_zero_le hw.1
                have hx : xn < 4294967296 := by have := hw.2; omega
                have HO' : Hid (out4 [a, b, c, d, e, f, g, i] (k + 1) = out4 [a, b, c, d, e, f, g, i] k ++ put4 xn) := unhide HO
                have CA := hide (fun w => specPut xn w hx)
                have hY : (put4 xn).length ≤ 4 := Nat.le_refl _
                have hO : (out4 [a, b, c, d, e, f, g, i] k).length ≤ 32 := by omega
                unfold dec.str at CA
                generalize put4 xn = Y at *
                generalize out4 [a, b, c, d, e, f, g, i] k = O at *
                have HB := hide hB
                have HG := hide hg
                clear hB hg hw ol HO hx
                go_wp2_with fail
                refine (unhide CA _).mono ?_; rintro r w3 ⟨rfl, g3⟩
                have B3 := hide ((unhide HB).kept g3)
                have G3 := hide (grown_trans (r := none) (unhide HG) g3)
                clear g3 CA
                go_wp2_with fail
                go_roundw
                case rel => exact ⟨k + 1, by omega, by go_num, by rw [unhide HO']; rfl, unhide B3, unhide G3⟩
                case measure => simp [intOf]; omega
              · have i2 : ¬ (k : Int) < 8 := by omega
                have hk' : k = 8 := by omega
                subst hk'
                have G := hide hg
                clear hB hg ol hlt hk
                go_wp2_with fail
                go_ret
                rw [unhide E]
                exact ⟨rfl, unhide G⟩
  · have hb : (60000 : Int) < (s.size : Int) := by omega
    rw [show sumT s = [] by unfold zo.sumT; rw [if_neg h6]]
    go_enter Tryd.func78, Tryd.ntmps78
    go_wp2
    go_ret
    exact ⟨rfl, grown_refl _⟩
end Go.Proofs.YtheigbmkldlicaaDoor.zp
