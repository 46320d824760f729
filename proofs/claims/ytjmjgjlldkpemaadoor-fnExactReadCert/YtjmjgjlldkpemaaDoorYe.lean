/- What ReadCert of the model answers at every text of at most 2^20 bytes, and that it is what the program answers; no condition but that a number of the library lies at its place. -/
import Derived.Test.YtjmjgjlldkpemaaDoorYd
import Derived.Deep.RegionHeld3
import Derived.Deep.RegionLaw
namespace Go.Proofs.YtjmjgjlldkpemaaDoor.yd
open Go.ChangeShapes Go.WideShapes Go.ChangeAt Go.RowKit
open Go.Proofs.YtjmjgjlldkpemaaDoor.rd (words MadeS)
open Go.Proofs.YtjmjgjlldkpemaaDoor.ya (partB wordB certB)
open Go.Proofs.YtjmjgjlldkpemaaDoor.zg (hexOk hexB)
open Go.Proofs.YtjmjgjlldkpemaaDoor.yb (Box4)
open Go.Proofs.YtjmjgjlldkpemaaDoor.yc (Cr RC got)
open Go.Proofs.YtjmjgjlldkpemaaDoor.sl (hide unhide grown_refl grown_trans grown_drewN)
set_option linter.unusedVariables false
def okB (s : ByteArray) : Bool := decide (rd.bytes s = [45]) || hexOk s
theorem specBytes (s : ByteArray) (w : World) (hs : s.size ≤ 1048576) :
    Calls Tryd.prog 43 #[.string s] w fun e w' => e = .returned (.tuple #[.string ⟨(hexB s).toArray⟩, .bool (okB s)]) ∧ w.grownBy w' none := by
  have C := hide (zg.specHexBytes s w hs)
  unfold dec.str at C
  have hb : (s.toList == [45]) = decide (rd.bytes s = [45]) := by rw [Bool.eq_iff_iff, beq_iff_eq, decide_eq_true_iff, rd.toList_bytes]
  unfold okB
  by_cases h : rd.bytes s = [45]
  · obtain rfl : s = ⟨#[45]⟩ := yc.eq_of_bytes h
    clear C hb h
    go_enter Tryd.func43, Tryd.ntmps43
    go_wp2
    go_ret2
    exact ⟨rfl, grown_refl _⟩
  · rw [decide_eq_false h] at hb ⊢
    rw [Bool.false_or]
    clear h
    go_enter Tryd.func43, Tryd.ntmps43
    go_wp2_with fail
    refine (unhide C).mono ?_; rintro e w1 ⟨rfl, g1⟩
    have G1 := hide g1
    clear g1
    go_wp2_with fail
    go_ret2
    exact ⟨rfl, unhide G1⟩
theorem byte10 (c : UInt8) : ((c.toNat : Int) != 10) = !decide (c = 10) := by
  rw [Bool.eq_iff_iff, bne_iff_ne, Bool.not_eq_true', decide_eq_false_iff_not]
  refine not_congr ⟨fun h => ?_, fun h => by rw [h]; rfl⟩
  apply UInt8.toNat_inj.1
  show c.toNat = 10
  omega
theorem at_take (s : ByteArray) (k : Nat) (hk : k < s.size) : (rd.bytes s).take (k + 1) = (rd.bytes s).take k ++ [s[k]] := rd.bytes_take s k hk
theorem parted (s : ByteArray) (k : Nat) (hk : k < s.size) (h : s[k] = 10) : rd.bytes s = (rd.bytes s).take k ++ 10 :: (rd.bytes s).drop (k + 1) := by
  conv => lhs; rw [← List.take_append_drop (k + 1) (rd.bytes s)]
  rw [at_take s k hk, h, List.append_assoc, List.singleton_append]
set_option maxRecDepth 100000 in
set_option maxHeartbeats 8000000 in
theorem specReadCert (s : ByteArray) (w : World) (hs : s.size ≤ 1048576) :
    Calls Tryd.prog 20 #[.string s] w fun e w' => ReadE s w e w' := by
  have g0 := World.grownBy_alloc w (.cells #[.string ⟨#[]⟩, .bool false, .string ⟨#[]⟩, .string ⟨#[]⟩] 38) none
  have B0 := hide (Box4.new 38 w (.string ⟨#[]⟩) (.bool false) (.string ⟨#[]⟩) (.string ⟨#[]⟩))
  have G0 := hide g0
  clear g0
  obtain ⟨W0, hW0⟩ : ∃ W0, W0 = w.alloc (.cells #[.string ⟨#[]⟩, .bool false, .string ⟨#[]⟩, .string ⟨#[]⟩] 38) := ⟨_, rfl⟩
  rw [← hW0] at B0 G0
  go_enter Tryd.func20, Tryd.ntmps20
  go_wp2
  go_loopw [4] (fun i wr => ∃ k : Nat, k ≤ s.size ∧ i = .int .i64 k ∧ wr = W0 ∧ Hid ((10 : UInt8) ∉ (rd.bytes s).take k)) (fun i _ => s.size - (intOf i).toNat)
  case atStart => exact ⟨0, Nat.zero_le _, rfl, hW0.symm, fun h => by simp at h⟩
  case round =>
    obtain ⟨k, hk, rfl, rfl, hn⟩ := hrel
    clear hW0
    by_cases hlt : k < s.size
    · have hi' : (k : Int) < (s.size : Int) := by omega
      have hb := byte10 s[k]
      by_cases h10 : s[k] = 10
      · rw [decide_eq_true h10] at hb
        have PA := hide (parted s k hlt h10)
        have hne : ¬ (k : Int) = (s.size : Int) := by omega
        have hk0 : (0 : Int) ≤ (k : Int) := by omega
        have hk1 : (k : Int) ≤ (s.size : Int) := by omega
        have ba : rd.bytes (s.extract 0 k) = (rd.bytes s).take k := by rw [rd.bytes_extract, List.drop_zero]
        have sa : (s.extract 0 k).size ≤ 1048576 := by rw [ByteArray.size_extract]; omega
        obtain ⟨k1, e1⟩ : ∃ k1 : Nat, k1 = k + 1 := ⟨_, rfl⟩
        have w1 : IntKind.i64.wrap ((k : Int) + 1) = (k1 : Int) := by rw [yb.wrap_in (by omega) (by omega)]; omega
        have k10 : (0 : Int) ≤ (k1 : Int) := by omega
        have k11 : (k1 : Int) ≤ (s.size : Int) := by omega
        have br : rd.bytes (s.extract k1 s.size) = (rd.bytes s).drop (k + 1) := by rw [rd.bytes_extract, List.take_of_length_le (by rw [rd.bytes_len]; exact Nat.le_refl _), e1]
        have sr : (s.extract k1 s.size).size ≤ 1048576 := by rw [ByteArray.size_extract]; omega
        have RS := hide (fun h => yc.rc_short (s := s) (unhide PA) (unhide hn) h)
        have RN := hide (fun x y z hw h => yc.rc_no (s := s) (x := x) (y := y) (z := z) (unhide PA) (unhide hn) hw h)
        have RB := hide (fun x y z hw h => yc.rc_bad (s := s) (x := x) (y := y) (z := z) (unhide PA) (unhide hn) hw h)
        have RY := hide (fun x y z h => yc.rc_yes (s := s) (x := x) (y := y) (z := z) (r := (rd.bytes s).drop (k + 1)) h)
        have EQ : ∀ x y z : ByteArray, got (rd.bytes x) (rd.bytes y) (rd.bytes z) ((rd.bytes s).drop (k + 1)) = (⟨(hexB x).toArray⟩, decide (rd.bytes y = [115, 97, 116]), s.extract k1 s.size, ⟨(hexB z).toArray⟩) := by
          intro x y z
          unfold yc.got
          rw [← br]
          simp only [yc.mk_bytes]
        have HEQ := hide EQ
        have CW := hide (fun wz => rd.l01Words (s.extract 0 k) wz sa)
        rw [ba] at CW
        have HA : Hid (((rd.bytes s).take k).length ≤ 1048576) := by show _ ≤ _; rw [List.length_take, rd.bytes_len]; omega
        clear hn PA h10 e1 ba br EQ sa
        generalize (rd.bytes s).take k = A at *
        generalize (rd.bytes s).drop (k + 1) = R at *
        go_wp2_with fail
        refine (unhide CW _).mono ?_; rintro e w2 ⟨u, D, rfl, ⟨o2, g2⟩, hD, hDl⟩
        have G2 := hide (grown_trans (r := none) (unhide G0) g2)
        have B2 := hide ((unhide B0).kept g2)
        clear CW g2 G0 B0
        by_cases h3 : D.length = 3
        · obtain ⟨x, y, z, rfl⟩ := three h3
          have hw : words A = [rd.bytes x, rd.bytes y, rd.bytes z] := hD.symm
          have sx : x.size ≤ 1048576 := by
            have h1 : rd.bytes x ∈ words A := by rw [hw]; simp
            have h2 := rd.words_len _ _ h1
            rw [rd.bytes_len] at h2
            have := unhide HA
            omega
          have sz : z.size ≤ 1048576 := by
            have h1 : rd.bytes z ∈ words A := by rw [hw]; simp
            have h2 := rd.words_len _ _ h1
            rw [rd.bytes_len] at h2
            have := unhide HA
            omega
          obtain ⟨g, cap, rfl⟩ : ∃ g cap, u = .slice (some ⟨g, 0, none⟩) 3 cap := by
            cases o2.2 with
            | inl h => exact absurd h.2 (by simp)
            | inr h => obtain ⟨g, cap, cur, hv, _⟩ := h; exact ⟨g, cap, hv⟩
          have c0 : w2.cell? ⟨g, 0, none⟩ = some (.string x) := (o2.cellAt 0 (by decide)).trans rfl
          have C1 : Hid (w2.cell? ⟨g, 1, none⟩ = some (.string y)) := (o2.cellAt 1 (by decide)).trans rfl
          have C2 : Hid (w2.cell? ⟨g, 2, none⟩ = some (.string z)) := (o2.cellAt 2 (by decide)).trans rfl
          have RN' := hide (unhide RN _ _ _ hw)
          have RB' := hide (unhide RB _ _ _ hw)
          have RY' := hide (unhide RY (rd.bytes x) (rd.bytes y) (rd.bytes z))
          rw [unhide HEQ] at RN' RY'
          simp only [yc.mk_bytes] at RN' RB' RY'
          have CX := hide (fun wz => specBytes x wz sx)
          have CZ := hide (fun wz => specBytes z wz sz)
          have KX := hide (fun (q : okB x = false) => unhide RB' (.inl q))
          have KZ := hide (fun (q : okB z = false) => unhide RB' (.inr q))
          have hy : (y.toList == [115, 97, 116]) = decide (rd.bytes y = [115, 97, 116]) := by rw [Bool.eq_iff_iff, beq_iff_eq, decide_eq_true_iff, rd.toList_bytes]
          have CT := hide (fun wz => ya.specCertText ⟨(hexB x).toArray⟩ (decide (rd.bytes y = [115, 97, 116])) (s.extract k1 s.size) ⟨(hexB z).toArray⟩ wz (Nat.le_trans (yc.hexB_size x) (by decide)) sr (Nat.le_trans (yc.hexB_size z) (by decide)))
          clear o2 hw hD h3 sx sz RS RN RB RY HEQ RB' sr HA hDl
          generalize decide (rd.bytes y = [115, 97, 116]) = sat at *
          generalize (⟨(hexB x).toArray⟩ : ByteArray) = d at *
          generalize (⟨(hexB z).toArray⟩ : ByteArray) = m at *
          generalize okB x = okx at *
          generalize okB z = okz at *
          generalize certB d sat (s.extract k1 s.size) m = T at *
          go_wp2_with fail
          refine (unhide CX w2).mono ?_; rintro e w3 ⟨rfl, g3⟩
          have c2 : w3.cell? ⟨g, 2, none⟩ = some (.string z) := g3.cell (unhide C2) (fun e => by cases e)
          replace C1 := hide (g3.cell (unhide C1) (fun e => by cases e))
          have G3 := hide (grown_trans (r := none) (unhide G2) g3)
          have B3 := hide ((unhide B2).kept g3)
          clear g3 G2 B2 c0 C2 CX
          go_wp2_with fail
          refine (unhide CZ w3).mono ?_; rintro e w4 ⟨rfl, g4⟩
          have c1 : w4.cell? ⟨g, 1, none⟩ = some (.string y) := g4.cell (unhide C1) (fun e => by cases e)
          have G4 := hide (grown_trans (r := none) (unhide G3) g4)
          have B4 := hide ((unhide B3).kept g4)
          clear g4 G3 B3 c2 C1 CZ
          have hlt1 : ¬ (g = w4.heap.size) := fun e => by have := World.block_lt_of_cell? w4 _ c1; simp only at this; omega
          go_wp2_with fail
          go_region_held3 (fun w' => w'.cell? ⟨g, 1, none⟩ = some (.string y)) (go_keep) (fail)
          all_goals
            obtain ⟨WX, hWX⟩ : ∃ WX, WX = (w4.alloc (.cells #[.string d, .bool sat, .string (s.extract k1 s.size), .string m] 38)).drew := ⟨_, rfl⟩
            have ga : w4.grownBy WX none := by rw [hWX]; exact grown_trans (r := none) (World.grownBy_alloc w4 _ none) (grown_drewN _ 1)
            have GA := hide (grown_trans (r := none) (unhide G4) ga)
            have BA := hide ((unhide B4).kept ga)
            have BC : Hid (Box4 38 WX w4.heap.size (.string d) (.bool sat) (.string (s.extract k1 s.size)) (.string m)) := by
              rw [hWX]
              exact (Box4.new 38 w4 (.string d) (.bool sat) (.string (s.extract k1 s.size)) (.string m)).kept (grown_drewN _ 1)
            rw [← hWX]
            clear ga G4 B4 hWX
            cases okx
            · have RZ := hide (unhide KX rfl)
              have B5 := BA
              have G5 := GA
              have p0 := (unhide B5).c0
              have p1 := (unhide B5).c1
              have p2 := (unhide B5).c2
              have p3 := (unhide B5).c3
              have f0 := (unhide B5).f 0
              have f1 := (unhide B5).f 1
              have f2 := (unhide B5).f 2
              have f3 := (unhide B5).f 3
              clear KX KZ RN' RY' BC BA GA CT
              go_wp2_with fail
              (try simp only [Exit.inBlock, Exit.then])
              exact bodyPost_ret (yb.ret_box2 rfl rfl ((unhide B5).setA _ _ _ _)) rfl ⟨none, unhide RZ, rfl, yb.grown_setA (unhide G5) (Nat.le_refl _)⟩
            cases okz
            · have RZ := hide (unhide KZ rfl)
              have B5 := BA
              have G5 := GA
              have p0 := (unhide B5).c0
              have p1 := (unhide B5).c1
              have p2 := (unhide B5).c2
              have p3 := (unhide B5).c3
              have f0 := (unhide B5).f 0
              have f1 := (unhide B5).f 1
              have f2 := (unhide B5).f 2
              have f3 := (unhide B5).f 3
              clear KX KZ RN' RY' BC BA GA CT
              go_wp2_with fail
              (try simp only [Exit.inBlock, Exit.then])
              exact bodyPost_ret (yb.ret_box2 rfl rfl ((unhide B5).setA _ _ _ _)) rfl ⟨none, unhide RZ, rfl, yb.grown_setA (unhide G5) (Nat.le_refl _)⟩
            have q0 := (unhide BC).c0
            have q1 := (unhide BC).c1
            have q2 := (unhide BC).c2
            have q3 := (unhide BC).c3
            clear KX KZ
            go_wp2_with fail
            refine (unhide CT _).mono ?_; rintro e w5 ⟨rfl, g5⟩
            have G5 := hide (grown_trans (r := none) (unhide GA) g5)
            have B5 := hide ((unhide BA).kept g5)
            have D5 := hide ((unhide BC).kept g5)
            clear g5 GA BA BC CT q0 q1 q2 q3
            have q0 := (unhide D5).c0
            have q1 := (unhide D5).c1
            have q2 := (unhide D5).c2
            have q3 := (unhide D5).c3
            have p0 := (unhide B5).c0
            have p1 := (unhide B5).c1
            have p2 := (unhide B5).c2
            have p3 := (unhide B5).c3
            have f0 := (unhide B5).f 0
            have f1 := (unhide B5).f 1
            have f2 := (unhide B5).f 2
            have f3 := (unhide B5).f 3
            cases ht : (T.toList == s.toList)
            · have R := hide (unhide RN' (fun e => by rw [e] at ht; simp at ht))
              clear RN' RY'
              go_wp2_with fail
              (try simp only [Exit.inBlock, Exit.then])
              exact bodyPost_ret (yb.ret_box2 rfl rfl ((unhide B5).setA _ _ _ _)) rfl ⟨none, unhide R, rfl, yb.grown_setA (unhide G5) (Nat.le_refl _)⟩
            · have R := hide (unhide RY' (yc.eq_of_bytes (by rw [← rd.toList_bytes, ← rd.toList_bytes]; exact beq_iff_eq.1 ht)))
              clear RN' RY'
              go_wp2_with fail
              (try simp only [Exit.inBlock, Exit.then])
              exact bodyPost_ret (yb.ret_box2 rfl rfl ((unhide B5).setA _ _ _ _)) rfl ⟨some (d, sat, s.extract k1 s.size, m), unhide R, rfl, yb.grown_setA (unhide G5) (Nat.le_refl _)⟩
        · have RZ := hide (unhide RS (by rw [← hD, List.length_map]; exact h3))
          have hi : ((D.length : Int) != 3) = true := by rw [bne_iff_ne]; omega
          obtain ⟨a, cap, rfl⟩ : ∃ a cap, u = .slice a D.length cap := by
            rcases o2.2 with ⟨rfl, h⟩ | ⟨g, cap, cur, rfl, _⟩
            · exact ⟨none, 0, by rw [h]⟩
            · exact ⟨_, cap, rfl⟩
          have B5 := B2
          have G5 := G2
          have p0 := (unhide B5).c0
          have p1 := (unhide B5).c1
          have p2 := (unhide B5).c2
          have p3 := (unhide B5).c3
          have f0 := (unhide B5).f 0
          have f1 := (unhide B5).f 1
          have f2 := (unhide B5).f 2
          have f3 := (unhide B5).f 3
          clear o2 hD h3 RS RN RB RY HEQ B2 G2
          go_wp2_with fail
          (try simp only [Exit.inBlock, Exit.then])
          exact bodyPost_ret (yb.ret_box2 rfl rfl ((unhide B5).setA _ _ _ _)) rfl ⟨none, unhide RZ, rfl, yb.grown_setA (unhide G5) (Nat.le_refl _)⟩
      · have hb1 : ((s[k].toNat : Int) != 10) = true := by rw [hb, decide_eq_false h10]; rfl
        have N1 : Hid ((10 : UInt8) ∉ (rd.bytes s).take (k + 1)) := by
          show _ ∉ _
          rw [at_take s k hlt, List.mem_append, List.mem_singleton, not_or]
          exact ⟨unhide hn, fun e => h10 e.symm⟩
        clear hb h10 hn
        go_wp2
        go_roundw
        case rel => exact ⟨k + 1, by omega, by go_num, by trivial, N1⟩
        case measure => simp [intOf]; omega
    · have hi' : ¬ (k : Int) < (s.size : Int) := by omega
      obtain rfl : k = s.size := by omega
      have RZ := hide (yc.rc_line (s := s) (by have := unhide hn; rwa [List.take_of_length_le (by rw [rd.bytes_len]; exact Nat.le_refl _)] at this))
      have B5 := B0
      have G5 := G0
      have p0 := (unhide B5).c0
      have p1 := (unhide B5).c1
      have p2 := (unhide B5).c2
      have p3 := (unhide B5).c3
      have f0 := (unhide B5).f 0
      have f1 := (unhide B5).f 1
      have f2 := (unhide B5).f 2
      have f3 := (unhide B5).f 3
      clear hn B0 G0
      go_wp2_with fail
      (try simp only [Exit.inBlock, Exit.then])
      exact bodyPost_ret (yb.ret_box2 rfl rfl ((unhide B5).setA _ _ _ _)) rfl ⟨none, unhide RZ, rfl, yb.grown_setA (unhide G5) (Nat.le_refl _)⟩
end Go.Proofs.YtjmjgjlldkpemaaDoor.yd
