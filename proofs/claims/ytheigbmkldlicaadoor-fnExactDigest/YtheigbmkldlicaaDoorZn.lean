/- SumBlock of the model: as the program's; no condition but that words are words. -/
import Derived.Test.YtheigbmkldlicaaDoorZm
namespace Go.Proofs.YtheigbmkldlicaaDoor.zn
open Go.ChangeShapes Go.WideShapes Go.ChangeAt Go.RowKit
open Go.Proofs.YtheigbmkldlicaaDoor.sl (hide unhide ret_int ret_bool grown_refl grown_trans grown_drewN)
open Go.Proofs.YtheigbmkldlicaaDoor.za (Wd rotI g4)
open Go.Proofs.YtheigbmkldlicaaDoor.zs (ints Made)
open Go.Proofs.YtheigbmkldlicaaDoor.zc (wds wds_length wall getD_wd form)
open Go.Proofs.YtheigbmkldlicaaDoor.zk (kL kc)
open Go.Proofs.YtheigbmkldlicaaDoor.zl (rnd v8 Wd8 wd8_parts wd8_of rnd_wd set_new s0 s1 ch mj na ne not_max)
open Go.Proofs.YtheigbmkldlicaaDoor.zm (Bx Rd Inv Inv.kept Inv.set Inv.set8 rr rr_wd ad ad_length ad_getD ad_wd blk)
set_option linter.unusedVariables false

theorem rotZ (x n : Int) (w : World) (hx : Wd x) (h1 : 1 ≤ n) (h2 : n ≤ 31) :
    Calls Tryd.prog 168 #[.int .u32 x, .int .u64 n] w fun e w' => e = .returned (.int .u32 (rotI x n.toNat)) ∧ w' = w := by
  obtain ⟨m, rfl⟩ := Int.eq_ofNat_of_zero_le (show 0 ≤ n by omega)
  exact zb.specRot x m w hx (by omega) (by omega)
/-- t and u as the model adds them up -/
theorem t_eq (e f g h k x : Int) : ((h + bits .xor .u32 (bits .xor .u32 (rotI e 6) (rotI e 11)) (rotI e 25) + bits .xor .u32 (bits .and .u32 e f) (bits .and .u32 (bits .xor .u32 e 4294967295) g) + k) % 4294967296 + x) % 4294967296 = (h + s1 e + ch e f g + k + x) % 4294967296 := by
  rw [not_max]
  show ((h + s1 e + ch e f g + k) % 4294967296 + x) % 4294967296 = _
  omega
theorem na_eq (a b c e f g h k x : Int) : ((h + s1 e + ch e f g + k + x) % 4294967296 + (s0 a + mj a b c) % 4294967296) % 4294967296 = na a b c e f g h ((k + x) % 4294967296) := by
  unfold zl.na
  omega
theorem ne_eq (d e f g h k x : Int) : (d + (h + s1 e + ch e f g + k + x) % 4294967296) % 4294967296 = ne d e f g h ((k + x) % 4294967296) := by
  unfold zl.ne
  omega

set_option maxRecDepth 100000 in
set_option maxHeartbeats 4000000 in
theorem specSumBlock (L : List Int) (s : ByteArray) (w : World) (hL : Wd8 L) (hs : s.size ≤ 1048576) :
    Calls Tryd.prog 122 #[v8 L, .string s] w fun r w' => r = .returned (v8 (blk L s)) ∧ w.grownBy w' none := by
  have H8 := hide hL
  obtain ⟨a, b, c, d, e, f, g, i, rfl, ha, hb, hc, hd, he, hf, hg, hi⟩ := wd8_parts hL
  clear ha hb hc hd he hf hg hi hL
  by_cases h64 : s.size = 64
  · have hb : ((s.size : Int) != 64) = false := by simp [h64]
    have E : Hid (blk [a, b, c, d, e, f, g, i] s = ad (rr [a, b, c, d, e, f, g, i] (wds s 64) 64) [a, b, c, d, e, f, g, i] 8) := by show _ = _; unfold zm.blk; rw [if_pos h64]
    have CW := hide (fun w => zc.specSumWords s w hs)
    rw [show wall s = wds s 64 by unfold zc.wall; rw [if_pos h64]] at CW
    have CT := hide (fun w => zk.specTable w)
    show Calls Tryd.prog 122 #[.agg #[.int .u32 a, .int .u32 b, .int .u32 c, .int .u32 d, .int .u32 e, .int .u32 f, .int .u32 g, .int .u32 i], .string s] w fun r w' => r = .returned (v8 (blk [a, b, c, d, e, f, g, i] s)) ∧ w.grownBy w' none
    clear h64
    go_enter Tryd.func122, Tryd.ntmps122
    go_wp2_with fail
    refine (unhide CW _).mono ?_; rintro r w0 ⟨u, rfl, m1⟩
    obtain ⟨B0, B1, g1⟩ := zm.start (w := w) (w1 := w0) (L := [a, b, c, d, e, f, g, i]) (Z := [0, 0, 0, 0, 0, 0, 0, 0]) m1.2
    obtain ⟨gb, cap, hu⟩ := form m1 (by rw [wds_length]; decide)
    rw [wds_length] at hu
    subst hu
    have R1 : Rd w0 gb (wds s 64) := by
      intro j hj
      have h1 := m1.1
      rw [wds_length] at h1 hj
      rw [h1.cellAt j (by omega)]
      have hl := wds_length s 64
      simp [zs.ints, hl, hj]
    have B0' := hide B0
    have B1' := hide B1
    have R1' := hide R1
    have G1' := hide g1
    clear m1 CW B0 B1 R1 g1
    go_wp2_with fail
    refine (unhide CT _).mono ?_; rintro r w1 ⟨rfl, hw1⟩
    have gt : w0.grownBy w1 none := by rw [hw1]; exact World.grownBy_alloc _ _ _
    have B0 := (unhide B0').kept gt
    have B1 := (unhide B1').kept gt
    have R1 := (unhide R1').kept gt
    have g1 := grown_trans (r := none) (unhide G1') gt
    have RK : Rd w1 w0.heap.size kL := fun j hj => by rw [hw1]; exact zk.cell_k w0 j hj
    have lk : w0.heap.size < w1.heap.size := by rw [hw1, World.size_alloc]; omega
    have l0 := B0.lt
    have l1 := B1.lt
    have lg : gb < w1.heap.size := World.block_lt_of_cell? w1 _ (R1 0 (by rw [wds_length]; decide))
    obtain ⟨p0, p1, p2, p3, p4, p5, p6, p7, _⟩ := B0.parts
    obtain ⟨kb, hkb⟩ : ∃ kb, kb = w0.heap.size := ⟨_, rfl⟩
    rw [← hkb] at RK lk ⊢
    have I1 : Hid (Inv w (w1.alloc (.cells (ints [a, b, c, d, e, f, g, i]).toArray 138)) w1.heap.size (w.heap.size + 1) w.heap.size gb kb [a, b, c, d, e, f, g, i] [0, 0, 0, 0, 0, 0, 0, 0] [a, b, c, d, e, f, g, i] (wds s 64) kL) :=
      have ga := World.grownBy_alloc w1 (.cells (ints [a, b, c, d, e, f, g, i]).toArray 138) none
      ⟨grown_trans g1 ga, Bx.new _ _, B1.kept ga, B0.rd.kept ga, R1.kept ga, RK.kept ga⟩
    have hsz := g1.size
    have N0 : Hid (w.heap.size ≤ w1.heap.size) := by show _ ≤ _; omega
    have N1 : Hid (w.heap.size + 1 ≠ w1.heap.size) := by show _ ≠ _; omega
    have N2 : Hid (w.heap.size ≠ w1.heap.size) := by show _ ≠ _; omega
    have N3 : Hid (gb ≠ w1.heap.size) := by show _ ≠ _; omega
    have N4 : Hid (kb ≠ w1.heap.size) := by show _ ≠ _; omega
    clear B0 B1 g1 R1 RK B0' B1' R1' G1' CT hsz l0 l1 lg lk gt hw1 hkb
    go_wp2_with fail
    go_loopw [8, 9, 10] (fun t _ _ wr => ∃ k : Nat, k ≤ 64 ∧ t = .int .i64 k ∧ Inv w wr w1.heap.size (w.heap.size + 1) w.heap.size gb kb (rr [a, b, c, d, e, f, g, i] (wds s 64) k) [0, 0, 0, 0, 0, 0, 0, 0] [a, b, c, d, e, f, g, i] (wds s 64) kL) (fun t _ _ _ => 64 - (intOf t).toNat)
    case atStart => exact ⟨0, by omega, rfl, unhide I1⟩
    case round =>
      obtain ⟨k, hk, rfl, hI⟩ := hrel
      clear I1 p0 p1 p2 p3 p4 p5 p6 p7
      have hN := rr_wd (L := [a, b, c, d, e, f, g, i]) (ws := wds s 64) (unhide H8) k
      by_cases hlt : k < 64
      · have i0 : (k : Int) < 64 := by omega
        have x0 := hI.wd k (by rw [wds_length]; exact hlt)
        have x1 := hI.tb k hlt
        have HR : Hid (rr [a, b, c, d, e, f, g, i] (wds s 64) (k + 1) = rnd (rr [a, b, c, d, e, f, g, i] (wds s 64) k) ((kL.getD k 0 + (wds s 64).getD k 0) % 4294967296)) := rfl
        have HI := hide hI
        obtain ⟨a', b', c', d', e', f', g', i', hE, ha, hb', hc, hd, he, hf, hg, hi⟩ := wd8_parts hN
        rw [hE] at HI HR
        have HR' : Hid (rr [a, b, c, d, e, f, g, i] (wds s 64) (k + 1) = [na a' b' c' e' f' g' i' ((kL.getD k 0 + (wds s 64).getD k 0) % 4294967296), a', b', c', ne d' e' f' g' i' ((kL.getD k 0 + (wds s 64).getD k 0) % 4294967296), e', f', g']) := unhide HR
        obtain ⟨q0, q1, q2, q3, q4, q5, q6, q7, q8⟩ := (unhide HI).now.parts
        have RO := hide rotZ
        rw [← na_eq, ← ne_eq] at HR'
        generalize kL.getD k 0 = x at *
        generalize (wds s 64).getD k 0 = y at *
        clear hI hN hE HR hb' hc hd hf hg hi
        go_wp2_with fail
        go_quiet ((go_at_call 168; exact Calls.quiet_of_same (unhide RO _ _ _ (by assumption) (by decide) (by decide))))
        generalize hTT : ((i' + bits .xor .u32 (bits .xor .u32 (rotI e' 6) (rotI e' 11)) (rotI e' 25) + bits .xor .u32 (bits .and .u32 e' f') (bits .and .u32 (bits .xor .u32 e' 4294967295) g') + x) % 4294967296 + y) % 4294967296 = T
        rw [← t_eq, hTT] at HR'
        have HI2 := hide ((unhide HI).kept (grown_drewN wr nq))
        clear hTT HI q0 q1 q2 q3 q4 q5 q6 q7 q8 x0 x1
        generalize wr.drewN nq = W at *
        obtain ⟨q0, q1, q2, q3, q4, q5, q6, q7, q8⟩ := (unhide HI2).now.parts
        go_wp2_with fail
        go_quiet ((go_at_call 168; exact Calls.quiet_of_same (unhide RO _ _ _ (by assumption) (by decide) (by decide))))
        generalize hUU : (bits .xor .u32 (bits .xor .u32 (rotI a' 2) (rotI a' 13)) (rotI a' 22) + bits .xor .u32 (bits .xor .u32 (bits .and .u32 a' b') (bits .and .u32 a' c')) (bits .and .u32 b' c')) % 4294967296 = U
        rw [show (s0 a' + mj a' b' c') % 4294967296 = U from hUU] at HR'
        have IN := hide (Inv.set8 (a' := (T + U) % 4294967296) (b' := a') (c' := b') (d' := c') (e' := (d' + T) % 4294967296) (f' := e') (i' := f') (m' := g') ((unhide HI2).kept (grown_drewN W nq)) (unhide N0) (unhide N1) (unhide N2) (unhide N3) (unhide N4))
        have HI3 := hide ((unhide HI2).kept (grown_drewN W nq))
        clear hUU HI2 q0 q1 q2 q3 q4 q5 q6 q7 q8 RO ha he
        generalize W.drewN nq = V at *
        obtain ⟨q0, q1, q2, q3, q4, q5, q6, q7, q8⟩ := (unhide HI3).now.parts
        go_wp2_with fail
        go_roundw
        case rel => exact ⟨k + 1, by omega, by go_num, by rw [unhide HR']; exact unhide IN⟩
        case measure => simp [intOf]; omega
      · have i0 : ¬ (k : Int) < 64 := by omega
        have hk' : k = 64 := by omega
        subst hk'
        have HN8 := hide hN
        generalize rr [a, b, c, d, e, f, g, i] (wds s 64) 64 = N at *
        have HI := hide hI
        clear hI hlt hk hN
        go_wp2_with fail
        go_loopw [11] (fun t wr => ∃ k : Nat, k ≤ 8 ∧ t = .int .i64 k ∧ Inv w wr w1.heap.size (w.heap.size + 1) w.heap.size gb kb (ad N [a, b, c, d, e, f, g, i] k) [0, 0, 0, 0, 0, 0, 0, 0] [a, b, c, d, e, f, g, i] (wds s 64) kL) (fun t _ => 8 - (intOf t).toNat)
        case atStart => exact ⟨0, by omega, rfl, unhide HI⟩
        case round =>
          obtain ⟨k, hk, rfl, hI⟩ := hrel
          clear HI
          have hal := ad_length N [a, b, c, d, e, f, g, i] k
          rw [(unhide HN8).1] at hal
          by_cases hlt : k < 8
          · have i1 : (k : Int) < 8 := by omega
            have c0 := hI.now.cell k (by omega)
            rw [ad_getD N _ k k (Nat.le_refl _)] at c0
            have c1 := hI.st k hlt
            have c2 := hI.now.frozen k
            have ST := hide (fun (wr' : World) (g' : wr.grownBy wr' none) => (hI.kept g').set (unhide N0) (unhide N1) (unhide N2) (unhide N3) (unhide N4) k ((N.getD k 0 + [a, b, c, d, e, f, g, i].getD k 0) % 4294967296))
            have HA : Hid (ad N [a, b, c, d, e, f, g, i] (k + 1) = (ad N [a, b, c, d, e, f, g, i] k).set k ((N.getD k 0 + [a, b, c, d, e, f, g, i].getD k 0) % 4294967296)) := rfl
            generalize [a, b, c, d, e, f, g, i].getD k 0 = y at *
            generalize N.getD k 0 = x at *
            have R := hide (unhide ST (wr.drewN 1) (grown_drewN _ _))
            clear hI hal ST
            go_wp2
            go_region
            all_goals
              go_wp2
              go_roundw
              case rel => exact ⟨k + 1, by omega, by go_num, by rw [unhide HA]; exact unhide R⟩
              case measure => simp [intOf]; omega
          · have i1 : ¬ (k : Int) < 8 := by omega
            have hk' : k = 8 := by omega
            subst hk'
            have hA := ad_wd (L := [a, b, c, d, e, f, g, i]) (unhide HN8) 8
            obtain ⟨a2, b2, c2, d2, e2, f2, g2, i2, hE2, _⟩ := wd8_parts hA
            rw [hE2] at hI
            have EE := unhide E
            rw [hE2] at EE
            have E2 := hide EE
            obtain ⟨q0, q1, q2, q3, q4, q5, q6, q7, q8⟩ := hI.now.parts
            obtain ⟨r0, r1, r2, r3, r4, r5, r6, r7, r8⟩ := hI.res.parts
            have G := hide hI.grown
            have hrn : ¬ w.heap.size + 1 = w1.heap.size := unhide N1
            clear hA hE2 hI EE E hal
            go_wp2
            refine bodyPost_ret (v := .agg #[.int .u32 a2, .int .u32 b2, .int .u32 c2, .int .u32 d2, .int .u32 e2, .int .u32 f2, .int .u32 g2, .int .u32 i2]) (by simp [results, Tryd.results122, go_sem, r0, r1, r2, r3, r4, r5, r6, r7]) rfl ⟨by rw [unhide E2]; rfl, ?_⟩
            refine set_new (set_new (set_new (set_new (set_new (set_new (set_new (set_new (unhide G) (by omega) _ _) (by omega) _ _) (by omega) _ _) (by omega) _ _) (by omega) _ _) (by omega) _ _) (by omega) _ _) (by omega) _ _
  · have hb : ((s.size : Int) != 64) = true := by simp; omega
    rw [show blk [a, b, c, d, e, f, g, i] s = [a, b, c, d, e, f, g, i] by unfold zm.blk; rw [if_neg h64]]
    show Calls Tryd.prog 122 #[.agg #[.int .u32 a, .int .u32 b, .int .u32 c, .int .u32 d, .int .u32 e, .int .u32 f, .int .u32 g, .int .u32 i], .string s] w fun r w' => r = .returned (.agg #[.int .u32 a, .int .u32 b, .int .u32 c, .int .u32 d, .int .u32 e, .int .u32 f, .int .u32 g, .int .u32 i]) ∧ w.grownBy w' none
    clear h64
    go_enter Tryd.func122, Tryd.ntmps122
    go_wp2
    refine bodyPost_ret (v := .agg #[.int .u32 a, .int .u32 b, .int .u32 c, .int .u32 d, .int .u32 e, .int .u32 f, .int .u32 g, .int .u32 i]) (by simp [results, Tryd.results122, go_sem]) rfl ⟨rfl, ?_⟩
    exact grown_trans (World.grownBy_alloc _ _ none) (World.grownBy_alloc _ _ none)
end Go.Proofs.YtheigbmkldlicaaDoor.zn
