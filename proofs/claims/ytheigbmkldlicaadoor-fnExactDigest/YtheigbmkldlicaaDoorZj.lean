/- SumPad, of the program and of its model: the text, the byte 128, noughts, and how long the text was; no condition but on sizes. -/
import Derived.Test.YtheigbmkldlicaaDoorZi
import Derived.Deep.RegionHeld3
import Derived.Deep.RegionLaw
namespace Go.Proofs.YtheigbmkldlicaaDoor.zj
open Go.ChangeShapes Go.WideShapes Go.ChangeAt Go.RowKit
open Go.Proofs.YtheigbmkldlicaaDoor.sl (hide unhide ret_int ret_bool grown_refl grown_trans grown_drewN)
open Go.Proofs.YtheigbmkldlicaaDoor.zb (at_ at_bd at_eq wrap64)
open Go.Proofs.YtheigbmkldlicaaDoor.byt (Byt MadeB run_app run_back run_of)
open Go.Proofs.YtheigbmkldlicaaDoor.ze (of_own made_nil MadeB.kept wpB appB cell_new one_at bts bts_length)
open Go.Proofs.YtheigbmkldlicaaDoor.zi (put4 be be8 be_length specPut MadeN MadeN.of appendNumber)
open Go.Proofs.YtheigbmkldlicaaDoor.dec (str)
set_option linter.unusedVariables false

/-- how many noughts -/
def zn (n : Nat) : Nat := (119 - n % 64) % 64
theorem zn_lt (n : Nat) : zn n < 64 := Nat.mod_lt _ (by decide)
theorem zn_mod (n : Nat) : (n + 1 + zn n) % 64 = 56 := by unfold zn; omega
theorem zn_least (n j : Nat) (h : j ≤ zn n) (h2 : (n + 1 + j) % 64 = 56) : j = zn n := by unfold zn at *; omega
def mid (l : List UInt8) (j : Nat) : List UInt8 := l ++ [128] ++ List.replicate j 0
theorem mid_length (l : List UInt8) (j : Nat) : (mid l j).length = l.length + 1 + j := by simp [mid]; omega
theorem mid_succ (l : List UInt8) (j : Nat) : mid l (j + 1) = mid l j ++ [0] := by
  unfold mid
  rw [List.replicate_succ']
  simp
/-- a text padded -/
def padL (l : List UInt8) : List UInt8 := mid l (zn l.length) ++ put4 0 ++ put4 (8 * l.length)
/-- what SumPad answers -/
def padT (s : ByteArray) : List UInt8 := if s.size ≤ 60000 then padL (bts s) else []
theorem str_bts (s : ByteArray) : str (bts s) = .string s := rfl
theorem form {lo : Nat} {w : World} {v : Value} {l : List UInt8} {n : Nat} (h : Byt lo w v l) (hn : l.length = n) : ∃ g cap, v = .slice (some ⟨g, 0, none⟩) n cap := by
  obtain ⟨g, cap, e⟩ := h.form
  exact ⟨g, cap, by rw [e, hn]⟩
theorem cat3 (a b c : List UInt8) : Value.string (ByteArray.mk a.toArray ++ ByteArray.mk b.toArray ++ ByteArray.mk c.toArray) = str (a ++ b ++ c) := by
  unfold dec.str
  congr 1

def lenOf : Value → Nat
  | .slice _ n _ => n
  | _ => 0

set_option maxRecDepth 100000 in
set_option maxHeartbeats 2000000 in
theorem specSumPad (s : ByteArray) (w : World) (hs : s.size ≤ 1048576) :
    Calls Tryd.prog 121 #[.string s] w fun e w' => e = .returned (str (padT s)) ∧ w.grownBy w' none := by
  by_cases h6 : s.size ≤ 60000
  · have hb : ¬ (60000 : Int) < (s.size : Int) := by omega
    rw [show padT s = padL (bts s) by unfold padT; rw [if_pos h6]]
    obtain ⟨v0, w0, hr, hm0⟩ := run_of w (bts s) (by rw [bts_length]; omega)
    rw [show Value.string ⟨(bts s).toArray⟩ = .string s from str_bts s] at hr
    obtain ⟨g0, cap0, rfl⟩ := form hm0.1 (bts_length s)
    have M1 : Hid (MadeB w (w0.alloc (.cells #[.int .u8 128] 5)) (.slice (some ⟨g0, 0, none⟩) s.size cap0) (bts s)) := MadeB.kept hm0 (World.grownBy_alloc _ _ none)
    have B1 : Hid (∀ j u, (Lib.byteCells [128])[j]? = some u → (w0.alloc (.cells #[.int .u8 128] 5)).cell? ((⟨w0.heap.size, 0, none⟩ : Addr).add j) = some u) := one_at w0 128
    have L1 : Hid ((bts s).length + 1 ≤ 4194304) := by show _ ≤ _; rw [bts_length]; omega
    clear hm0
    go_enter Tryd.func121, Tryd.ntmps121
    go_wp2_with (at_builtin; refine appB (unhide M1) (unhide B1) (unhide L1) rfl rfl (.tmp 10) (.tmp 11) rfl rfl rfl ?_; intro v2 w2 m2; have M2 := hide m2; clear m2)
    go_loopw [3] (fun u wr => ∃ j n g cap : Nat, n = s.size + 1 + j ∧ j ≤ zn s.size ∧ u = .slice (some ⟨g, 0, none⟩) n cap ∧ MadeB w wr (.slice (some ⟨g, 0, none⟩) n cap) (mid (bts s) j)) (fun u _ => s.size + 65 - lenOf u)
    case atStart =>
      obtain ⟨g, cap, e⟩ := form (n := s.size + 1) (unhide M2).1 (by rw [List.length_append, bts_length]; rfl)
      have := unhide M2
      rw [e] at this ⊢
      exact ⟨0, _, g, cap, rfl, Nat.zero_le _, rfl, by simpa [mid] using this⟩
    case round =>
      obtain ⟨j, n, g, cap, hn, hj, rfl, hm⟩ := hrel
      clear M1 B1 L1 M2 hr
      have hz := zn_lt s.size
      have hl := mid_length (bts s) j
      rw [bts_length, ← hn] at hl
      have HL : Hid ((mid (bts s) j).length + 1 ≤ 4194304) := by show _ ≤ _; omega
      have hn2 : n ≤ 70000 := by omega
      by_cases hjz : j = zn s.size
      · have t1 : ((n : Int) % 64 != 56) = false := by
          have := zn_mod s.size
          rw [← hjz, ← hn] at this
          simp
          omega
        have E : Hid (padL (bts s) = mid (bts s) j ++ put4 0 ++ put4 (8 * s.size)) := by
          show _ = _
          unfold padL
          rw [bts_length, hjz]
        have CV : Hid (∀ w', wr.grownBy w' none → (convert 22 9 (.slice (some ⟨g, 0, none⟩) n cap)).run Tryd.prog w' = .ok (str (mid (bts s) j)) w') := fun w' g' => run_back w' _ _ _ (hm.1.kept g')
        have P0 := hide (fun w => specPut 0 w (by decide))
        have P1 := hide (fun w => specPut (8 * s.size) w (by omega))
        rw [show ((8 * s.size : Nat) : Int) = 8 * (s.size : Int) by omega] at P1
        have G := hide hm.2
        unfold dec.str at CV P0 P1
        have hA : (mid (bts s) j).length ≤ 70000 := by omega
        have hZ : (put4 0).length ≤ 4 := Nat.le_refl _
        have hY : (put4 (8 * s.size)).length ≤ 4 := Nat.le_refl _
        generalize mid (bts s) j = A at *
        generalize put4 0 = Z at *
        generalize put4 (8 * s.size) = Y at *
        clear hm hn hj hjz hl HL hz
        go_wp2_with fail
        have CV0 := unhide CV wr.drew (grown_drewN _ 1)
        have j8 : IntKind.u32.wrap (8 * (s.size : Int)) = 8 * (s.size : Int) := by rw [IntKind.wrap_u32]; omega
        go_region_with (go_at_call 123; first | (refine (unhide P0 _).mono ?_; rintro e w3 ⟨rfl, g3⟩; have G3 := hide (grown_trans (r := none) (grown_drewN wr 1) g3); have CV3 := unhide CV _ (unhide G3); clear g3 P0) | (refine (unhide P1 _).mono ?_; rintro e w4 ⟨rfl, g4⟩; have G4 := hide (grown_trans (r := none) (unhide G3) g4); have CV4 := unhide CV _ (unhide G4); clear g4))
        all_goals
          go_wp2_with fail
          go_ret
          rw [unhide E, ← cat3]
          exact ⟨rfl, grown_trans (unhide G) (unhide G4)⟩
      · have t1 : ((n : Int) % 64 != 56) = true := by
          have := zn_least s.size j hj
          rw [← hn] at this
          simp
          omega
        have M1 : Hid (MadeB w (wr.alloc (.cells #[.int .u8 0] 5)) (.slice (some ⟨g, 0, none⟩) n cap) (mid (bts s) j)) := MadeB.kept hm (World.grownBy_alloc _ _ none)
        have B1 : Hid (∀ j u, (Lib.byteCells [0])[j]? = some u → (wr.alloc (.cells #[.int .u8 0] 5)).cell? ((⟨wr.heap.size, 0, none⟩ : Addr).add j) = some u) := one_at wr 0
        have H := hide (mid_succ (bts s) j)
        have HN := hide hn
        have HJ : Hid (j + 1 ≤ zn s.size) := by show _ ≤ _; omega
        have HZ : Hid (n < s.size + 65) := by show _ < _; omega
        clear hm hn hj hjz hl hz
        go_wp2_with (at_builtin; refine appB (unhide M1) (unhide B1) (unhide HL) rfl rfl (.tmp 17) (.tmp 18) rfl rfl rfl ?_; intro v2 w2 m2; have M2 := hide m2; clear m2)
        rw [← unhide H] at M2
        obtain ⟨g2, cap2, e2⟩ := form (n := n + 1) (unhide M2).1 (by rw [mid_length, bts_length]; have := unhide HN; omega)
        subst e2
        go_roundw
        case rel => exact ⟨j + 1, n + 1, g2, cap2, by have := unhide HN; omega, unhide HJ, rfl, unhide M2⟩
        case measure => have := unhide HZ; simp [lenOf]; omega
  · have hb : (60000 : Int) < (s.size : Int) := by omega
    rw [show padT s = [] by unfold padT; rw [if_neg h6]]
    go_enter Tryd.func121, Tryd.ntmps121
    go_wp2
    go_ret
    exact ⟨rfl, grown_refl _⟩

set_option maxRecDepth 100000 in
set_option maxHeartbeats 2000000 in
theorem implSumPad (s : ByteArray) (w : World) (hs : s.size ≤ 1048576) :
    Calls Tryd.prog 135 #[.string s] w fun e w' => e = .returned (str (padT s)) ∧ w.grownBy w' none := by
  by_cases h6 : s.size ≤ 60000
  · have hb : ¬ (60000 : Int) < (s.size : Int) := by omega
    rw [show padT s = padL (bts s) by unfold padT; rw [if_pos h6]]
    obtain ⟨v0, w0, hr, hm0⟩ := run_of w (bts s) (by rw [bts_length]; omega)
    rw [show Value.string ⟨(bts s).toArray⟩ = .string s from str_bts s] at hr
    obtain ⟨g0, cap0, rfl⟩ := form hm0.1 (bts_length s)
    have M1 : Hid (MadeB w (w0.alloc (.cells #[.int .u8 128] 5)) (.slice (some ⟨g0, 0, none⟩) s.size cap0) (bts s)) := MadeB.kept hm0 (World.grownBy_alloc _ _ none)
    have B1 : Hid (∀ j u, (Lib.byteCells [128])[j]? = some u → (w0.alloc (.cells #[.int .u8 128] 5)).cell? ((⟨w0.heap.size, 0, none⟩ : Addr).add j) = some u) := one_at w0 128
    have L1 : Hid ((bts s).length + 1 ≤ 4194304) := by show _ ≤ _; rw [bts_length]; omega
    clear hm0
    go_enter Tryd.func135, Tryd.ntmps135
    go_wp2_with (at_builtin; refine appB (unhide M1) (unhide B1) (unhide L1) rfl rfl (.tmp 8) (.tmp 9) rfl rfl rfl ?_; intro v2 w2 m2; have M2 := hide m2; clear m2)
    go_loopw [3] (fun u wr => ∃ j n g cap : Nat, n = s.size + 1 + j ∧ j ≤ zn s.size ∧ u = .slice (some ⟨g, 0, none⟩) n cap ∧ MadeB w wr (.slice (some ⟨g, 0, none⟩) n cap) (mid (bts s) j)) (fun u _ => s.size + 65 - lenOf u)
    case atStart =>
      obtain ⟨g, cap, e⟩ := form (n := s.size + 1) (unhide M2).1 (by rw [List.length_append, bts_length]; rfl)
      have := unhide M2
      rw [e] at this ⊢
      exact ⟨0, _, g, cap, rfl, Nat.zero_le _, rfl, by simpa [mid] using this⟩
    case round =>
      obtain ⟨j, n, g, cap, hn, hj, rfl, hm⟩ := hrel
      clear M1 B1 L1 M2 hr
      have hz := zn_lt s.size
      have hl := mid_length (bts s) j
      rw [bts_length, ← hn] at hl
      have HL : Hid ((mid (bts s) j).length + 1 ≤ 4194304) := by show _ ≤ _; omega
      have hn2 : n ≤ 70000 := by omega
      by_cases hjz : j = zn s.size
      · have t1 : (((n : Int) + 8) % 64 != 0) = false := by
          have := zn_mod s.size
          rw [← hjz, ← hn] at this
          simp
          omega
        have E : Hid (padL (bts s) = mid (bts s) j ++ be 8 (8 * s.size) 8) := by
          show _ = _
          unfold padL
          rw [bts_length, hjz, be8 _ (by omega), List.append_assoc]
        have CA := hide (appendNumber _ (mid (bts s) j) (8 * s.size) 8 w wr (by omega) (by decide) (by omega) (MadeN.of hm))
        rw [show ((8 * s.size : Nat) : Int) = 8 * (s.size : Int) by omega] at CA
        have hbl := be_length 8 (8 * s.size) 8
        have HN : Hid (mid (bts s) j ++ be 8 (8 * s.size) 8 ≠ []) := by
          intro e
          have := congrArg List.length e
          rw [List.length_append, hbl] at this
          simp at this
        generalize mid (bts s) j ++ be 8 (8 * s.size) 8 = A at *
        clear hm hn hj hjz hl HL hz hbl
        go_wp2_with fail
        refine (unhide CA).mono ?_; rintro e w3 ⟨u, rfl, m3⟩
        obtain ⟨b3, g3⟩ := m3
        rcases b3 with ⟨_, b3⟩ | b3
        · exact absurd b3 (unhide HN)
        · obtain ⟨ga, ca, rfl⟩ := b3.form
          have CV := run_back w3 _ _ _ b3
          unfold dec.str at CV
          have G := hide g3
          clear b3 g3 CA
          go_wp2_with fail
          go_ret
          rw [unhide E]
          exact ⟨rfl, unhide G⟩
      · have t1 : (((n : Int) + 8) % 64 != 0) = true := by
          have := zn_least s.size j hj
          rw [← hn] at this
          simp
          omega
        have M1 : Hid (MadeB w (wr.alloc (.cells #[.int .u8 0] 5)) (.slice (some ⟨g, 0, none⟩) n cap) (mid (bts s) j)) := MadeB.kept hm (World.grownBy_alloc _ _ none)
        have B1 : Hid (∀ j u, (Lib.byteCells [0])[j]? = some u → (wr.alloc (.cells #[.int .u8 0] 5)).cell? ((⟨wr.heap.size, 0, none⟩ : Addr).add j) = some u) := one_at wr 0
        have H := hide (mid_succ (bts s) j)
        have HN := hide hn
        have HJ : Hid (j + 1 ≤ zn s.size) := by show _ ≤ _; omega
        have HZ : Hid (n < s.size + 65) := by show _ < _; omega
        clear hm hn hj hjz hl hz
        go_wp2_with (at_builtin; refine appB (unhide M1) (unhide B1) (unhide HL) rfl rfl (.tmp 16) (.tmp 17) rfl rfl rfl ?_; intro v2 w2 m2; have M2 := hide m2; clear m2)
        rw [← unhide H] at M2
        obtain ⟨g2, cap2, e2⟩ := form (n := n + 1) (unhide M2).1 (by rw [mid_length, bts_length]; have := unhide HN; omega)
        subst e2
        go_roundw
        case rel => exact ⟨j + 1, n + 1, g2, cap2, by have := unhide HN; omega, unhide HJ, rfl, unhide M2⟩
        case measure => have := unhide HZ; simp [lenOf]; omega
  · have hb : (60000 : Int) < (s.size : Int) := by omega
    rw [show padT s = [] by unfold padT; rw [if_neg h6]]
    go_enter Tryd.func135, Tryd.ntmps135
    go_wp2
    go_ret
    exact ⟨rfl, grown_refl _⟩
end Go.Proofs.YtheigbmkldlicaaDoor.zj
