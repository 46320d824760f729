/- Sum of the program: the blocks of what is padded, one after the other; no condition but on sizes and that the tables lie as they should. -/
import Derived.Test.YtheigbmkldlicaaDoorZm
import Derived.Test.YtheigbmkldlicaaDoorZj
namespace Go.Proofs.YtheigbmkldlicaaDoor.zo
open Go.ChangeShapes Go.WideShapes Go.ChangeAt Go.RowKit
open Go.Proofs.YtheigbmkldlicaaDoor.sl (hide unhide ret_int ret_bool grown_refl grown_trans grown_drewN)
open Go.Proofs.YtheigbmkldlicaaDoor.za (Wd)
open Go.Proofs.YtheigbmkldlicaaDoor.zs (ints)
open Go.Proofs.YtheigbmkldlicaaDoor.zk (kL sL kc sc TabK TabS)
open Go.Proofs.YtheigbmkldlicaaDoor.zl (v8 Wd8 wd8_parts wd8_of set_new)
open Go.Proofs.YtheigbmkldlicaaDoor.zm (Bx blk blk_wd implSumBlock)
open Go.Proofs.YtheigbmkldlicaaDoor.zi (put4 be be4 be_length put4_length specPut MadeN appendNumber)
open Go.Proofs.YtheigbmkldlicaaDoor.ze (bts bts_length)
open Go.Proofs.YtheigbmkldlicaaDoor.zj (padT padL mid mid_length zn zn_mod zn_lt implSumPad)
open Go.Proofs.YtheigbmkldlicaaDoor.byt (run_back)
open Go.Proofs.YtheigbmkldlicaaDoor.dec (str)
set_option linter.unusedVariables false

def ini : Nat → List Int
  | 0 => [0, 0, 0, 0, 0, 0, 0, 0]
  | k + 1 => (ini k).set k (sL.getD k 0)
theorem ini_length : ∀ k, (ini k).length = 8
  | 0 => rfl
  | k + 1 => by rw [ini, List.length_set, ini_length k]
theorem ini_all : ini 8 = sL := rfl
theorem sL_wd8 : Wd8 sL := ⟨rfl, zk.sL_wd⟩
/-- the state behind so many blocks of a text -/
def stt (P : ByteArray) : Nat → List Int
  | 0 => sL
  | k + 1 => blk (stt P k) (P.extract (k * 64) (k * 64 + 64))
theorem stt_wd (P : ByteArray) : ∀ k, Wd8 (stt P k)
  | 0 => sL_wd8
  | k + 1 => blk_wd (stt_wd P k) _
/-- the bytes of the first k words -/
def out4 (N : List Int) : Nat → List UInt8
  | 0 => []
  | k + 1 => out4 N k ++ put4 (N.getD k 0).toNat
theorem out4_length (N : List Int) : ∀ k, (out4 N k).length = 4 * k
  | 0 => rfl
  | k + 1 => by rw [out4, List.length_append, out4_length N k, put4_length]; omega
def padB (s : ByteArray) : ByteArray := ⟨(padL (bts s)).toArray⟩
theorem pad_length (l : List UInt8) : (padL l).length = l.length + 1 + zn l.length + 8 := by
  unfold zj.padL
  rw [List.length_append, List.length_append, mid_length, put4_length, put4_length]
theorem padB_size (s : ByteArray) : (padB s).size = s.size + 1 + zn s.size + 8 := by
  show (padL (bts s)).toArray.size = _
  rw [List.size_toArray, pad_length, bts_length]
theorem padB_mod (s : ByteArray) : (padB s).size % 64 = 0 := by
  rw [padB_size]
  have := zn_mod s.size
  omega
theorem padB_le (s : ByteArray) (h : s.size ≤ 60000) : (padB s).size ≤ 60080 := by
  rw [padB_size]
  have := zn_lt s.size
  omega
/-- a sum's thirty-two bytes -/
def sumL (s : ByteArray) : List UInt8 := out4 (stt (padB s) ((padB s).size / 64)) 8
/-- what Sum answers -/
def sumT (s : ByteArray) : List UInt8 := if s.size ≤ 60000 then sumL s else []
theorem infoW : (Tryd.prog.info? 137).map (·.size) = some 1 := by kernel_rfl
theorem index32 (C : Array Value) (k : Nat) (x : Int) (w : World) (h : k < 8) (hc : C[k]? = some (.int .u32 x)) : (Instr.index 138 (.agg C) (.int .i64 (k : Int))).run Tryd.prog w = .ok (.int .u32 x) w := by
  obtain ⟨i, hi, hs⟩ := Option.map_eq_some_iff.1 infoW
  simp [Instr.index, run_underlying Tryd.underlying138, run_underlying Tryd.underlying137, asIntOf, sizeOf, typeInfo, hi, hs, part, isAgg, hc, go_sem]
  intro h'
  omega

set_option maxRecDepth 100000 in
set_option maxHeartbeats 4000000 in
theorem implSum (s : ByteArray) (w : World) (hs : s.size ≤ 1048576) (hK : TabK w) (hS : TabS w) :
    Calls Tryd.prog 81 #[.string s] w fun r w' => r = .returned (str (sumT s)) ∧ w.grownBy w' none := by
  have HK := hide hK
  have HS := hide hS
  clear hK hS
  by_cases h6 : s.size ≤ 60000
  · have hb : ¬ (60000 : Int) < (s.size : Int) := by omega
    rw [show sumT s = sumL s by unfold sumT; rw [if_pos h6]]
    have CP := hide (fun w => implSumPad s w hs)
    rw [show padT s = padL (bts s) by unfold zj.padT; rw [if_pos h6]] at CP
    rw [show str (padL (bts s)) = .string (padB s) from rfl] at CP
    have hPm := padB_mod s
    have hPl := padB_le s h6
    have E : Hid (sumL s = out4 (stt (padB s) ((padB s).size / 64)) 8) := rfl
    generalize padB s = P at *
    generalize sumL s = X at *
    obtain ⟨n, hn⟩ : ∃ n, n = P.size / 64 := ⟨_, rfl⟩
    have tn : (P.size : Int) / 64 = (n : Int) := by omega
    rw [← hn] at E
    have hn2 : 64 * n = P.size := by omega
    have HN := hide hn2
    have I0 : Hid (Bx (w.alloc (.cells (ints [0, 0, 0, 0, 0, 0, 0, 0]).toArray 138)) w.heap.size (ini 0) ∧ w.grownBy (w.alloc (.cells (ints [0, 0, 0, 0, 0, 0, 0, 0]).toArray 138)) none) := ⟨Bx.new _ _, World.grownBy_alloc _ _ none⟩
    clear hn hn2 hPm
    go_enter Tryd.func81, Tryd.ntmps81
    go_wp2_with fail
    go_loopw [4, 13] (fun _ t wr => ∃ k : Nat, k ≤ 8 ∧ t = .int .i64 k ∧ Bx wr w.heap.size (ini k) ∧ w.grownBy wr none) (fun _ t _ => 8 - (intOf t).toNat)
    case atStart => exact ⟨0, by omega, rfl, (unhide I0).1, (unhide I0).2⟩
    case round =>
      obtain ⟨k, hk, rfl, hB, hg⟩ := hrel
      clear I0
      have il := ini_length k
      by_cases hlt : k < 8
      · have i0 : (k : Int) < 8 := by omega
        have C := hide (zk.implSumStart (k : Int) wr ((unhide HS).kept hg))
        rw [show sc (k : Int) = sL.getD k 0 by unfold zk.sc; rw [if_pos (by omega)]; rfl] at C
        have c0 := hB.cell k (by omega)
        have c1 := hB.frozen k
        have R : Hid (Bx (wr.setCell ⟨w.heap.size, k, none⟩ (.int .u32 (sL.getD k 0))) w.heap.size (ini (k + 1)) ∧ w.grownBy (wr.setCell ⟨w.heap.size, k, none⟩ (.int .u32 (sL.getD k 0))) none) := ⟨hB.set k _, set_new hg (Nat.le_refl _) k _⟩
        generalize sL.getD k 0 = x at *
        clear hB hg il
        go_wp2_with fail
        refine (unhide C).mono ?_; rintro r w' ⟨rfl, rfl⟩
        go_wp2_with fail
        go_roundw
        case rel => exact ⟨k + 1, by omega, by go_num, (unhide R).1, (unhide R).2⟩
        case measure => simp [intOf]; omega
      · have i0 : ¬ (k : Int) < 8 := by omega
        have hk' : k = 8 := by omega
        subst hk'
        rw [ini_all] at hB
        have B := hide hB
        have G := hide hg
        clear hB hg il hlt hk
        go_wp2_with fail
        refine (unhide CP _).mono ?_; rintro r w1 ⟨rfl, g1⟩
        have B1 : Hid (Bx w1 w.heap.size (stt P 0)) := (unhide B).kept g1
        have G1 := hide (grown_trans (r := none) (unhide G) g1)
        clear g1 B G CP
        go_wp2_with fail
        go_loopw [6, 26] (fun _ t wr => ∃ k : Nat, k ≤ n ∧ t = .int .i64 k ∧ Bx wr w.heap.size (stt P k) ∧ w.grownBy wr none) (fun _ t _ => n - (intOf t).toNat)
        case atStart => exact ⟨0, by omega, rfl, unhide B1, unhide G1⟩
        case round =>
          obtain ⟨k, hk, rfl, hB, hg⟩ := hrel
          clear B1 G1
          have hN := stt_wd P k
          by_cases hlt : k < n
          · have i1 : (k : Int) < (n : Int) := by omega
            have hnP := unhide HN
            obtain ⟨m1, e1⟩ : ∃ m1, m1 = k * 64 := ⟨_, rfl⟩
            obtain ⟨k1, e2⟩ : ∃ k1, k1 = k + 1 := ⟨_, rfl⟩
            obtain ⟨m2, e3⟩ : ∃ m2, m2 = k * 64 + 64 := ⟨_, rfl⟩
            have j1 : IntKind.i64.wrap ((k : Int) * 64) = (m1 : Int) := by rw [zb.wrap64 (by omega) (by omega)]; omega
            have j2 : IntKind.i64.wrap ((k : Int) + 1) = (k1 : Int) := by rw [zb.wrap64 (by omega) (by omega)]; omega
            have j3 : IntKind.i64.wrap ((k1 : Int) * 64) = (m2 : Int) := by rw [zb.wrap64 (by omega) (by omega)]; omega
            have b1 : (m1 : Int) ≤ (m2 : Int) := by omega
            have b2 : (m2 : Int) ≤ (P.size : Int) := by omega
            have hsz : (P.extract m1 m2).size ≤ 1048576 := by simp; omega
            have gd := grown_trans (r := none) hg (grown_drewN wr 1)
            have CB := hide (implSumBlock (stt P k) (P.extract m1 m2) wr.drew hN hsz ((unhide HK).kept gd))
            have HR : Hid (stt P (k + 1) = blk (stt P k) (P.extract m1 m2)) := by show _ = _; rw [e1, e3]; rfl
            have hN2 := blk_wd hN (P.extract m1 m2)
            obtain ⟨a, b, c, d, e, f, g, i, hE, _⟩ := wd8_parts hN
            rw [hE] at CB hB hN2 HR
            obtain ⟨a2, b2', c2, d2, e2', f2, g2, i2, hE2, _⟩ := wd8_parts hN2
            rw [hE2] at CB HR
            have CB' : Hid (Calls Tryd.prog 136 #[.agg #[.int .u32 a, .int .u32 b, .int .u32 c, .int .u32 d, .int .u32 e, .int .u32 f, .int .u32 g, .int .u32 i], .string (P.extract m1 m2)] wr.drew fun r w' => r = .returned (.agg #[.int .u32 a2, .int .u32 b2', .int .u32 c2, .int .u32 d2, .int .u32 e2', .int .u32 f2, .int .u32 g2, .int .u32 i2]) ∧ wr.drew.grownBy w' none) := unhide CB
            obtain ⟨q0, q1, q2, q3, q4, q5, q6, q7, q8⟩ := hB.parts
            have HB := hide hB
            have HG := hide hg
            have HE2 := hide e2
            clear hB hg hN hN2 hE hE2 CB gd e1 e2 e3 hnP hsz
            go_wp2_with fail
            go_region_with (go_at_call 136; refine (unhide CB').mono ?_; rintro r w2 ⟨rfl, g2'⟩; have G2 := hide (grown_trans (r := none) (grown_drewN wr 1) g2'); obtain ⟨t0, t1, t2, t3, t4, t5, t6, t7, t8⟩ := ((unhide HB).kept (unhide G2)).parts; clear g2')
            all_goals
              have B2 : Hid (Bx ((((((((w2.setCell ⟨w.heap.size, 0, none⟩ (.int .u32 a2)).setCell ⟨w.heap.size, 1, none⟩ (.int .u32 b2')).setCell ⟨w.heap.size, 2, none⟩ (.int .u32 c2)).setCell ⟨w.heap.size, 3, none⟩ (.int .u32 d2)).setCell ⟨w.heap.size, 4, none⟩ (.int .u32 e2')).setCell ⟨w.heap.size, 5, none⟩ (.int .u32 f2)).setCell ⟨w.heap.size, 6, none⟩ (.int .u32 g2)).setCell ⟨w.heap.size, 7, none⟩ (.int .u32 i2)) w.heap.size [a2, b2', c2, d2, e2', f2, g2, i2]) :=
                ((((((((((unhide HB).kept (unhide G2)).set 0 a2).set 1 b2').set 2 c2).set 3 d2).set 4 e2').set 5 f2).set 6 g2).set 7 i2)
              have GG := hide (set_new (set_new (set_new (set_new (set_new (set_new (set_new (set_new (grown_trans (r := none) (unhide HG) (unhide G2)) (Nat.le_refl _) 0 (.int .u32 a2)) (Nat.le_refl _) 1 (.int .u32 b2')) (Nat.le_refl _) 2 (.int .u32 c2)) (Nat.le_refl _) 3 (.int .u32 d2)) (Nat.le_refl _) 4 (.int .u32 e2')) (Nat.le_refl _) 5 (.int .u32 f2)) (Nat.le_refl _) 6 (.int .u32 g2)) (Nat.le_refl _) 7 (.int .u32 i2))
              clear t0 t1 t2 t3 t4 t5 t6 t7 t8 q0 q1 q2 q3 q4 q5 q6 q7 q8 CB'
              go_wp2_with fail
              go_roundw
              case rel => exact ⟨k + 1, by omega, by have := unhide HE2; first | go_num | (rw [this]), by rw [unhide HR]; exact unhide B2, unhide GG⟩
              case measure => have := unhide HE2; simp [intOf]; omega
          · have i1 : ¬ (k : Int) < (n : Int) := by omega
            have hk' : k = n := by omega
            subst hk'
            have HW := hide hN
            obtain ⟨a, b, c, d, e, f, g, i, hE, _⟩ := wd8_parts hN
            rw [hE] at hB E HW
            obtain ⟨q0, q1, q2, q3, q4, q5, q6, q7, q8⟩ := hB.parts
            have M0 : Hid (MadeN w wr (.slice none 0 0) (out4 [a, b, c, d, e, f, g, i] 0)) := ⟨.inl ⟨rfl, rfl⟩, hg⟩
            clear hB hg hN hE hlt hk HN
            go_wp2_with fail
            go_loopw [7, 9, 40] (fun u _ t wr => ∃ k : Nat, k ≤ 8 ∧ t = .int .i64 k ∧ MadeN w wr u (out4 [a, b, c, d, e, f, g, i] k)) (fun _ _ t _ => 8 - (intOf t).toNat)
            case atStart => exact ⟨0, by omega, rfl, unhide M0⟩
            case round =>
              obtain ⟨k, hk, rfl, hm⟩ := hrel
              clear M0
              have ol := out4_length [a, b, c, d, e, f, g, i] k
              by_cases hlt : k < 8
              · have i2 : (k : Int) < 8 := by omega
                have hw : Wd ([a, b, c, d, e, f, g, i].getD k 0) := by
                  rw [List.getD, List.getElem?_eq_getElem (show k < [a, b, c, d, e, f, g, i].length from hlt)]
                  exact (unhide HW).2 _ (List.getElem_mem _)
                have ix := index32 #[.int .u32 a, .int .u32 b, .int .u32 c, .int .u32 d, .int .u32 e, .int .u32 f, .int .u32 g, .int .u32 i] k ([a, b, c, d, e, f, g, i].getD k 0) wr hlt (by
                  rcases (show k = 0 ∨ k = 1 ∨ k = 2 ∨ k = 3 ∨ k = 4 ∨ k = 5 ∨ k = 6 ∨ k = 7 by omega) with rfl | rfl | rfl | rfl | rfl | rfl | rfl | rfl <;> rfl)
                have HO : Hid (out4 [a, b, c, d, e, f, g, i] (k + 1) = out4 [a, b, c, d, e, f, g, i] k ++ put4 ([a, b, c, d, e, f, g, i].getD k 0).toNat) := rfl
                generalize [a, b, c, d, e, f, g, i].getD k 0 = x at *
                obtain ⟨xn, rfl⟩ := Int.eq_ofNat_of_zero_le hw.1
                have hx : xn < 4294967296 := by have := hw.2; omega
                have hx2 : (xn : Int) < 4294967296 := by omega
                have CA := hide (appendNumber _ _ xn 4 w wr (by omega) (by decide) (by omega) hm)
                rw [be4] at CA
                have HO' : Hid (out4 [a, b, c, d, e, f, g, i] (k + 1) = out4 [a, b, c, d, e, f, g, i] k ++ put4 xn) := unhide HO
                clear hm hw ol HO q0 q1 q2 q3 q4 q5 q6 q7 q8
                go_wp2_with fail
                refine (unhide CA).mono ?_; rintro r w3 ⟨u3, rfl, m3⟩
                have M3 := hide m3
                clear m3 CA
                go_wp2_with fail
                go_roundw
                case rel => exact ⟨k + 1, by omega, by go_num, by rw [unhide HO']; exact unhide M3⟩
                case measure => simp [intOf]; omega
              · have i2 : ¬ (k : Int) < 8 := by omega
                have hk' : k = 8 := by omega
                subst hk'
                obtain ⟨b3, g3⟩ := hm
                rcases b3 with ⟨_, b3⟩ | b3
                · rw [b3] at ol
                  simp at ol
                · obtain ⟨ga, ca, eu⟩ := b3.form
                  have CV := run_back wr _ _ _ b3
                  rw [eu] at CV
                  unfold dec.str at CV
                  have G := hide g3
                  clear b3 g3 ol q0 q1 q2 q3 q4 q5 q6 q7 q8
                  go_wp2_with fail
                  go_ret
                  rw [unhide E]
                  exact ⟨rfl, unhide G⟩
  · have hb : (60000 : Int) < (s.size : Int) := by omega
    rw [show sumT s = [] by unfold sumT; rw [if_neg h6]]
    go_enter Tryd.func81, Tryd.ntmps81
    go_wp2
    go_ret
    exact ⟨rfl, grown_refl _⟩
end Go.Proofs.YtheigbmkldlicaaDoor.zo
