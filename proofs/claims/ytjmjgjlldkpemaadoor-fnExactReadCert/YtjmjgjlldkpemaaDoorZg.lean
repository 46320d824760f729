/- HexBytes of the model: two digits a byte, refused at the first pair that is none; no condition but on sizes. -/
import Derived.Test.YtjmjgjlldkpemaaDoorZe
import Derived.Lib.Bytealg
namespace Go.Proofs.YtjmjgjlldkpemaaDoor.zg
open Go.ChangeShapes Go.WideShapes Go.ChangeAt Go.RowKit
open Go.Proofs.YtjmjgjlldkpemaaDoor.sl (hide unhide ret_int ret_bool grown_refl grown_trans grown_drewN)
open Go.Proofs.YtjmjgjlldkpemaaDoor.zb (at_ at_bd at_eq wrap64)
open Go.Proofs.YtjmjgjlldkpemaaDoor.byt (Byt MadeB run_app run_back run_of)
open Go.Proofs.YtjmjgjlldkpemaaDoor.ze (of_own made_nil MadeB.kept wpB appB cell_new one_at bts bts_length)
open Go.Proofs.YtjmjgjlldkpemaaDoor.dec (str)
set_option linter.unusedVariables false

/-- the number of a hexadecimal digit, -1 of what is none -/
def dv (c : Int) : Int := if 48 ≤ c ∧ c ≤ 57 then c - 48 else if 97 ≤ c ∧ c ≤ 102 then c - 87 else -1
theorem dv_bd (c : Int) : -1 ≤ dv c ∧ dv c ≤ 15 := by
  unfold dv
  split
  · omega
  · split <;> omega
def okc (s : ByteArray) (k : Nat) : Bool := decide (0 ≤ dv (at_ s k))
/-- the first k bytes are digits -/
def Good (s : ByteArray) (k : Nat) : Prop := ∀ j, j < k → 0 ≤ dv (at_ s j)
theorem Good.succ {s : ByteArray} {k : Nat} (h : Good s k) (h1 : 0 ≤ dv (at_ s k)) : Good s (k + 1) := fun j hj => by
  by_cases e : j = k
  · rw [e]; exact h1
  · exact h j (by omega)
def vl (s : ByteArray) : Nat → List UInt8
  | 0 => []
  | j + 1 => vl s j ++ [UInt8.ofNat (16 * dv (at_ s (2 * j)) + dv (at_ s (2 * j + 1))).toNat]
theorem vl_length (s : ByteArray) : ∀ j, (vl s j).length = j
  | 0 => rfl
  | j + 1 => by rw [vl, List.length_append, vl_length s j]; rfl
/-- whether a text is hexadecimal -/
def hexOk (s : ByteArray) : Bool := decide (s.size % 2 = 0 ∧ s.size ≤ 120000) && (List.range s.size).all (okc s)
theorem hexOk_yes {s : ByteArray} (h0 : s.size % 2 = 0) (h1 : s.size ≤ 120000) (h : Good s s.size) : hexOk s = true := by
  unfold hexOk
  rw [Bool.and_eq_true, decide_eq_true_iff, List.all_eq_true]
  exact ⟨⟨h0, h1⟩, fun j hj => by unfold okc; exact decide_eq_true (h j (List.mem_range.1 hj))⟩
theorem hexOk_no {s : ByteArray} {j : Nat} (hj : j < s.size) (h : dv (at_ s j) < 0) : hexOk s = false := by
  cases e : hexOk s
  · rfl
  · unfold hexOk at e
    rw [Bool.and_eq_true, List.all_eq_true] at e
    have := e.2 j (List.mem_range.2 hj)
    unfold okc at this
    have := of_decide_eq_true this
    omega
theorem hexOk_size {s : ByteArray} (h : ¬ (s.size % 2 = 0 ∧ s.size ≤ 120000)) : hexOk s = false := by
  unfold hexOk
  rw [decide_eq_false h]
  rfl
/-- what HexBytes answers -/
def hexB (s : ByteArray) : List UInt8 := if hexOk s then vl s (s.size / 2) else []

theorem specIn (x a b : Int) (w : World) : Calls Tryd.prog 53 #[.int .i64 x, .int .i64 a, .int .i64 b] w fun e w' => e = .returned (.bool (decide (a ≤ x ∧ x ≤ b))) ∧ w' = w := by
  by_cases h1 : a ≤ x
  · by_cases h2 : x ≤ b
    · rw [decide_eq_true (And.intro h1 h2)]
      go_enter Tryd.func53, Tryd.ntmps53
      go_wp2
      go_ret
      exact ⟨rfl, rfl⟩
    · rw [decide_eq_false (fun h => h2 h.2)]
      go_enter Tryd.func53, Tryd.ntmps53
      go_wp2
      go_ret
      exact ⟨rfl, rfl⟩
  · rw [decide_eq_false (fun h => h1 h.1)]
    go_enter Tryd.func53, Tryd.ntmps53
    go_wp2
    go_ret
    exact ⟨rfl, rfl⟩
theorem specDigit (c : Int) (w : World) (h0 : 0 ≤ c ∧ c < 256) : Calls Tryd.prog 103 #[.int .u8 c] w fun e w' => e = .returned (.int .i64 (dv c)) ∧ w' = w := by
  have C1 := hide (fun w => specIn c 48 57 w)
  have C2 := hide (fun w => specIn c 97 102 w)
  unfold dv
  obtain ⟨h1, h2⟩ := h0
  by_cases a1 : 48 ≤ c ∧ c ≤ 57
  · rw [if_pos a1]
    rw [decide_eq_true a1] at C1
    obtain ⟨a2, a3⟩ := a1
    go_enter Tryd.func103, Tryd.ntmps103
    go_wp2_with fail
    refine (unhide C1 _).mono ?_; rintro e w' ⟨rfl, rfl⟩
    go_wp2
    go_ret
    exact ⟨rfl, rfl⟩
  · rw [if_neg a1]
    rw [decide_eq_false a1] at C1
    by_cases a2 : 97 ≤ c ∧ c ≤ 102
    · rw [if_pos a2]
      rw [decide_eq_true a2] at C2
      obtain ⟨a2, a3⟩ := a2
      clear a1
      go_enter Tryd.func103, Tryd.ntmps103
      go_wp2_with fail
      refine (unhide C1 _).mono ?_; rintro e w' ⟨rfl, rfl⟩
      go_wp2_with fail
      refine (unhide C2 _).mono ?_; rintro e w' ⟨rfl, rfl⟩
      go_wp2
      go_ret
      exact ⟨rfl, rfl⟩
    · rw [if_neg a2]
      rw [decide_eq_false a2] at C2
      clear a1 a2
      go_enter Tryd.func103, Tryd.ntmps103
      go_wp2_with fail
      refine (unhide C1 _).mono ?_; rintro e w' ⟨rfl, rfl⟩
      go_wp2_with fail
      refine (unhide C2 _).mono ?_; rintro e w' ⟨rfl, rfl⟩
      go_wp2
      go_ret
      exact ⟨rfl, rfl⟩

set_option maxRecDepth 100000 in
set_option maxHeartbeats 2000000 in
theorem specHexBytes (s : ByteArray) (w : World) (hs : s.size ≤ 1048576) :
    Calls Tryd.prog 72 #[.string s] w fun e w' => e = .returned (.tuple #[str (hexB s), .bool (hexOk s)]) ∧ w.grownBy w' none := by
  have start := hide (made_nil w)
  have tm : (s.size : Int).tmod 2 = ((s.size % 2 : Nat) : Int) := by rw [Int.tmod_eq_emod_of_nonneg (by omega)]; omega
  by_cases h2 : s.size % 2 = 0
  · rw [h2] at tm
    by_cases h6 : s.size ≤ 120000
    · have hb : ¬ (120000 : Int) < (s.size : Int) := by omega
      go_enter Tryd.func72, Tryd.ntmps72
      go_wp2
      go_loopw [4, 5, 6, 7] (fun u i _ _ wr => ∃ j k : Nat, k = 2 * j ∧ k ≤ s.size ∧ i = .int .i64 (k : Int) ∧ Good s k ∧ MadeB w wr u (vl s j)) (fun _ i _ _ _ => s.size - (intOf i).toNat)
      case atStart => exact ⟨0, 0, rfl, by omega, rfl, fun j hj => by omega, unhide start⟩
      case round =>
        obtain ⟨j, k, hkj, hk, rfl, hG, hm⟩ := hrel
        clear start
        by_cases hlt : k < s.size
        · have i0 : (k : Int) < (s.size : Int) := by omega
          obtain ⟨k1, hk1⟩ : ∃ k1, k1 = k + 1 := ⟨_, rfl⟩
          have l1 : k1 < s.size := by omega
          have i1 : (k1 : Int) < (s.size : Int) := by omega
          have j1 : IntKind.i64.wrap ((k : Int) + 1) = (k1 : Int) := by rw [wrap64 (by omega) (by omega)]; omega
          have e0 := at_eq s k hlt
          have e1 := at_eq s k1 l1
          have C := hide (fun c w h => specDigit c w h)
          have b0 := at_bd s k
          have b1 := at_bd s k1
          have HL : Hid ((vl s j).length + 1 ≤ 4194304) := by
            show _ ≤ _
            rw [vl_length]
            omega
          have HV : Hid (vl s (j + 1) = vl s j ++ [UInt8.ofNat (16 * dv (at_ s k) + dv (at_ s k1)).toNat]) := by
            rw [hk1, hkj]
            rfl
          have HG := hide hG
          have N0 := hide (fun h => hexOk_no (s := s) hlt h)
          have N1 := hide (fun h => hexOk_no (s := s) l1 h)
          have G2 := hide (fun (h1 : 0 ≤ dv (at_ s k)) (h2 : 0 ≤ dv (at_ s k1)) => Good.succ (Good.succ hG h1) (by rw [← hk1]; exact h2))
          have v0 := dv_bd (at_ s k)
          have v1 := dv_bd (at_ s k1)
          generalize at_ s k = c0 at *
          generalize at_ s k1 = c1 at *
          have M := hide hm
          have HK := hide hkj
          have HK1 := hide hk1
          clear hm hG hkj hk1
          go_wp2_with fail
          go_quiet ((go_at_call 103; exact Calls.quiet_of_same (unhide C _ _ (by assumption))))
          generalize dv c0 = x0 at *
          generalize dv c1 = x1 at *
          have M1 : Hid (MadeB w (wr.drewN nq) _ (vl s j)) := MadeB.kept (unhide M) (grown_drewN _ _)
          generalize wr.drewN nq = W at *
          clear C M e0 e1
          by_cases a0 : x0 < 0
          · have N := hide (unhide N0 a0)
            have HX : Hid (hexB s = []) := by show _ = _; unfold hexB; rw [if_neg (by rw [unhide N]; simp)]
            clear N0 N1 HV G2 v0 v1
            go_wp2
            go_ret2
            rw [unhide N, unhide HX]
            exact ⟨rfl, (unhide M1).2⟩
          · by_cases a1 : x1 < 0
            · have N := hide (unhide N1 a1)
              have HX : Hid (hexB s = []) := by show _ = _; unfold hexB; rw [if_neg (by rw [unhide N]; simp)]
              clear N0 N1 HV G2 v0 v1
              go_wp2
              go_ret2
              rw [unhide N, unhide HX]
              exact ⟨rfl, (unhide M1).2⟩
            · have GG := hide (unhide G2 (by omega) (by omega))
              obtain ⟨y, hy⟩ : ∃ y : UInt8, y = UInt8.ofNat (16 * x0 + x1).toNat := ⟨_, rfl⟩
              rw [← hy] at HV
              have hy2 : 16 * x0 + x1 = ((y.toNat : Nat) : Int) := by
                rw [hy, UInt8.toNat_ofNat']
                omega
              have M2 : Hid (MadeB w (W.alloc (.cells #[.int .u8 y.toNat] 5)) _ (vl s j)) := MadeB.kept (unhide M1) (World.grownBy_alloc _ _ none)
              have HB := hide (one_at W y)
              clear N0 N1 G2 hy
              go_wp2_with (at_builtin; refine appB (unhide M2) (unhide HB) (unhide HL) rfl rfl (.tmp 39) (.tmp 45) rfl rfl rfl ?_; intro v3 w3 m3; have M3 := hide m3; clear m3)
              go_roundw
              case rel => exact ⟨j + 1, k + 1 + 1, by have := unhide HK; omega, by have := unhide HK1; omega, by go_num, unhide GG, by rw [unhide HV]; exact unhide M3⟩
              case measure => simp [intOf]; omega
        · have i0 : ¬ (k : Int) < (s.size : Int) := by omega
          have hk' : k = s.size := by omega
          have hOK := hexOk_yes h2 h6 (by rw [← hk']; exact hG)
          have hX : hexB s = vl s j := by
            unfold hexB
            rw [if_pos hOK]
            congr 1
            omega
          have HOK := hide hOK
          have HX := hide hX
          obtain ⟨g, cap, e⟩ := hm.1.form
          have CV := run_back wr _ _ _ hm.1
          rw [e] at CV
          have G := hide hm.2
          clear hm hkj hk' hOK hX hG
          go_wp2
          go_ret2
          rw [unhide HOK, unhide HX]
          exact ⟨rfl, unhide G⟩
    · have hb : (120000 : Int) < (s.size : Int) := by omega
      have hOK := hexOk_size (s := s) (fun h => h6 h.2)
      have hX : hexB s = [] := by unfold hexB; rw [if_neg (by rw [hOK]; simp)]
      rw [hOK, hX]
      clear hOK hX
      go_enter Tryd.func72, Tryd.ntmps72
      go_wp2
      go_ret2
      exact ⟨rfl, (unhide start).2⟩
  · have h3 : s.size % 2 = 1 := by omega
    rw [h3] at tm
    have hOK := hexOk_size (s := s) (fun h => h2 h.1)
    have hX : hexB s = [] := by unfold hexB; rw [if_neg (by rw [hOK]; simp)]
    rw [hOK, hX]
    clear hOK hX
    go_enter Tryd.func72, Tryd.ntmps72
    go_wp2
    go_ret2
    exact ⟨rfl, (unhide start).2⟩
end Go.Proofs.YtjmjgjlldkpemaaDoor.zg
