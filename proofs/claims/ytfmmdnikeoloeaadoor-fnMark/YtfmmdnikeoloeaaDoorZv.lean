/- Keys, texts and marks as the laws draw them, and the mathematics of FnMark: a key with a nought behind it, thirty-two bytes, hexadecimal texts that come back; no condition but on sizes. -/
import Derived.Test.YtfmmdnikeoloeaaDoorZu
import Derived.Test.YtfmmdnikeoloeaaDoorZh
import Derived.Test.YtfmmdnikeoloeaaDoorZf
namespace Go.Proofs.YtfmmdnikeoloeaaDoor.zv
open Go.ChangeShapes Go.WideShapes Go.ChangeAt Go.RowKit
open Go.Proofs.YtfmmdnikeoloeaaDoor.sl (hide unhide ret_int ret_bool grown_refl grown_trans grown_trans' grown_drewN Sl)
open Go.Proofs.YtfmmdnikeoloeaaDoor.draw (Cur Bs newCur below once grown_new)
open Go.Proofs.YtfmmdnikeoloeaaDoor.ze (bts bts_length dg hexL hexL_length hexT)
open Go.Proofs.YtfmmdnikeoloeaaDoor.zb (at_ at_bd)
open Go.Proofs.YtfmmdnikeoloeaaDoor.zr (macT in1 in2 in2_size mk_size)
open Go.Proofs.YtfmmdnikeoloeaaDoor.zg (dv vl vl_length hexOk hexOk_yes hexB)
open Go.Proofs.YtfmmdnikeoloeaaDoor.dec (str)
set_option linter.unusedVariables false

theorem pair (c : Nat) (w : World) (hc : Cur w c) :
    Calls Tryd.prog 40 #[.pointer (some ⟨c, 0, none⟩)] w fun e w' => ∃ k s : ByteArray, e = .returned (.tuple #[.string k, .string s]) ∧ k.size ≤ 65 ∧ s.size ≤ 80 ∧ Cur w' c ∧ w.grownBy w' (some c) := by
  have HC := hide hc
  clear hc
  go_enter Tryd.func40, Tryd.ntmps40
  go_wp2_with fail
  refine (below c 20 _ (unhide HC) (by decide) (by decide)).mono ?_; rintro e w1 ⟨x, rfl, x0, x1, hc1, g1⟩
  have C1 := hide hc1
  have G1 := hide g1
  clear hc1 g1 HC
  go_wp2_with fail
  refine (once c 8 _ (unhide C1) (by decide) (by decide)).mono ?_; rintro e w2 ⟨b, rfl, hc2, g2⟩
  have C2 := hide hc2
  have G2 := hide (grown_trans' (unhide G1) g2)
  clear hc2 g2 C1 G1
  cases b
  · obtain ⟨n, rfl⟩ := Int.eq_ofNat_of_zero_le x0
    have hn : n ≤ 65 := by omega
    have CA := hide (zu.any c n w2 (unhide C2) (by omega))
    clear x0 x1
    go_wp2_with fail
    refine (unhide CA).mono ?_; rintro e w3 ⟨k, rfl, hk, hc3, g3⟩
    have C3 := hide hc3
    have G3 := hide (grown_trans' (unhide G2) g3)
    have HK : Hid (k.size ≤ 65) := by show _ ≤ _; omega
    clear hc3 g3 C2 G2 CA hk
    go_wp2_with fail
    refine (below c 80 _ (unhide C3) (by decide) (by decide)).mono ?_; rintro e w4 ⟨y, rfl, y0, y1, hc4, g4⟩
    obtain ⟨m, rfl⟩ := Int.eq_ofNat_of_zero_le y0
    have hm : m ≤ 80 := by omega
    have CB := hide (zu.any c m w4 hc4 (by omega))
    have G4 := hide (grown_trans' (unhide G3) g4)
    clear hc4 g4 C3 G3 y0 y1
    go_wp2_with fail
    refine (unhide CB).mono ?_; rintro e w5 ⟨s, rfl, hs, hc5, g5⟩
    have C5 := hide hc5
    have G5 := hide (grown_trans' (unhide G4) g5)
    have HS : Hid (s.size ≤ 80) := by show _ ≤ _; omega
    clear hc5 g5 G4 CB hs
    go_wp2_with fail
    go_ret2
    exact ⟨k, s, rfl, unhide HK, unhide HS, unhide C5, unhide G5⟩
  · go_wp2_with fail
    refine (below c 2 _ (unhide C2) (by decide) (by decide)).mono ?_; rintro e w3 ⟨z, rfl, z0, z1, hc3, g3⟩
    obtain ⟨n', rfl⟩ := Int.eq_ofNat_of_zero_le z0
    obtain ⟨n, hn'⟩ : ∃ n, n = 64 + n' := ⟨_, rfl⟩
    have CA := hide (zu.any c n w3 hc3 (by omega))
    rw [hn', show (((64 + n' : Nat)) : Int) = 64 + (n' : Int) by omega] at CA
    have hn : n' ≤ 1 := by omega
    have G3 := hide (grown_trans' (unhide G2) g3)
    clear hc3 g3 C2 G2 x0 x1 z0 z1 hn'
    go_wp2_with fail
    refine (unhide CA).mono ?_; rintro e w3' ⟨k, rfl, hk, hc3, g3'⟩
    have C3 := hide hc3
    have G3' := hide (grown_trans' (unhide G3) g3')
    have HK : Hid (k.size ≤ 65) := by show _ ≤ _; omega
    clear hc3 g3' G3 CA hk
    go_wp2_with fail
    refine (below c 80 _ (unhide C3) (by decide) (by decide)).mono ?_; rintro e w4 ⟨y, rfl, y0, y1, hc4, g4⟩
    obtain ⟨m, rfl⟩ := Int.eq_ofNat_of_zero_le y0
    have hm : m ≤ 80 := by omega
    have CB := hide (zu.any c m w4 hc4 (by omega))
    have G4 := hide (grown_trans' (unhide G3') g4)
    clear hc4 g4 C3 G3' y0 y1
    go_wp2_with fail
    refine (unhide CB).mono ?_; rintro e w5 ⟨s, rfl, hs, hc5, g5⟩
    have C5 := hide hc5
    have G5 := hide (grown_trans' (unhide G4) g5)
    have HS : Hid (s.size ≤ 80) := by show _ ≤ _; omega
    clear hc5 g5 G4 CB hs
    go_wp2_with fail
    go_ret2
    exact ⟨k, s, rfl, unhide HK, unhide HS, unhide C5, unhide G5⟩
theorem drawMac (a : Option Addr) (n cap : Nat) (w : World) (hn : n ≤ 1048576) (hB : Bs w a n) :
    Calls Tryd.prog 18 #[.slice a n cap] w fun e w' => ∃ k s : ByteArray, e = .returned (.tuple #[.string k, .string s]) ∧ k.size ≤ 65 ∧ s.size ≤ 80 ∧ w.grownBy w' none := by
  have HB := hide hB
  clear hB
  go_enter Tryd.func18, Tryd.ntmps18
  go_wp2_with fail
  refine (newCur a n cap w hn (unhide HB)).mono ?_; rintro e w1 ⟨rfl, hc, g1⟩
  have C := hide (pair w.heap.size w1 hc)
  have G1 := hide g1
  clear hc g1 HB
  go_wp2_with fail
  refine (unhide C).mono ?_; rintro e w2 ⟨k, s, rfl, hk, hs, hc2, g2⟩
  have G2 := hide (grown_new (unhide G1) g2 (Nat.le_refl _))
  have HK := hide hk
  have HS := hide hs
  clear hk hs hc2 g2 C G1
  go_wp2_with fail
  go_ret2
  exact ⟨k, s, rfl, unhide HK, unhide HS, unhide G2⟩
theorem drawMacOk (a : Option Addr) (n cap : Nat) (w : World) (hn : n ≤ 1048576) (hB : Bs w a n) :
    Calls Tryd.prog 22 #[.slice a n cap] w fun e w' => ∃ k s m : ByteArray, e = .returned (.tuple #[.string k, .string s, .string m]) ∧ k.size ≤ 65 ∧ s.size ≤ 81 ∧ w.grownBy w' none := by
  have HB := hide hB
  clear hB
  go_enter Tryd.func22, Tryd.ntmps22
  go_wp2_with fail
  refine (newCur a n cap w hn (unhide HB)).mono ?_; rintro e w1 ⟨rfl, hc, g1⟩
  have C := hide (pair w.heap.size w1 hc)
  have G1 := hide g1
  clear hc g1 HB
  go_wp2_with fail
  refine (unhide C).mono ?_; rintro e w2 ⟨k, s, rfl, hk, hs, hc2, g2⟩
  have G2 := hide (grown_new (unhide G1) g2 (Nat.le_refl _))
  have C2 := hide hc2
  have CM := hide (zr.specMac k s w2 (by omega) (by omega))
  have HK := hide hk
  have ml : (macT k s).length ≤ 32 := by
    unfold zr.macT
    split
    · exact zr.sumT_len _
    · simp
  unfold dec.str at CM
  generalize macT k s = X at *
  clear hk hc2 g2 C G1
  go_wp2_with fail
  refine (unhide CM).mono ?_; rintro e w3 ⟨rfl, g3⟩
  have G3 := hide (grown_trans (r := none) (unhide G2) g3)
  have C3 := hide ((unhide C2).kept g3 (fun r e => by cases e))
  clear g3 G2 C2 CM
  go_wp2_with fail
  refine (below w.heap.size 4 _ (unhide C3) (by decide) (by decide)).mono ?_; rintro e w4 ⟨y, rfl, y0, y1, hc4, g4⟩
  have G4 := hide (grown_new (unhide G3) g4 (Nat.le_refl _))
  have CB := hide (zu.any w.heap.size 32 w4 hc4 (by decide))
  clear hc4 g4 C3 G3
  by_cases e0 : y = 0
  · subst e0
    have HS : Hid (s.size ≤ 81) := by show _ ≤ _; omega
    go_wp2_with fail
    refine (unhide CB).mono ?_; rintro e w5 ⟨m, rfl, hm, hc5, g5⟩
    have G5 := hide (grown_new (unhide G4) g5 (Nat.le_refl _))
    clear hc5 g5 CB G4 hm
    go_wp2_with fail
    go_ret3
    exact ⟨k, s, m, rfl, unhide HK, unhide HS, unhide G5⟩
  · have b0 : (y == 0) = false := by simpa using e0
    by_cases e1 : y = 1
    · subst e1
      have HS : Hid ((s ++ ⟨#[120]⟩ : ByteArray).size ≤ 81) := by
        show _ ≤ _
        rw [ByteArray.size_append]
        have : (⟨#[120]⟩ : ByteArray).size = 1 := rfl
        omega
      go_wp2_with fail
      go_ret3
      exact ⟨k, _, _, rfl, unhide HK, unhide HS, unhide G4⟩
    · have b1 : (y == 1) = false := by simpa using e1
      have HS : Hid (s.size ≤ 81) := by show _ ≤ _; omega
      go_wp2_with fail
      go_ret3
      exact ⟨k, s, _, rfl, unhide HK, unhide HS, unhide G4⟩
end Go.Proofs.YtfmmdnikeoloeaaDoor.zv
