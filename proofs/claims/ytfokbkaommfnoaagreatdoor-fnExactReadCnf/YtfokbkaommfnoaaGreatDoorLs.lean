/- The model's l03Lines and l03Passed at every text of at most 2^20 bytes. -/
import Derived.Test.YtfokbkaommfnoaaGreatDoorLm
namespace Go.Proofs.YtfokbkaommfnoaaGreatDoor.ln
open Go.ChangeShapes Go.WideShapes Go.ChangeAt Go.RowKit
open Go.Proofs.YtfokbkaommfnoaaGreatDoor.rd (MadeS appendS)
open Go.Proofs.YtfokbkaommfnoaaGreatDoor.sl (hide unhide)
set_option linter.unusedVariables false
theorem byte10 (c : UInt8) : ((c.toNat : Int) == 10) = decide (c = 10) := by
  rw [Bool.eq_iff_iff, beq_iff_eq, decide_eq_true_iff]
  constructor
  · intro h
    apply UInt8.toNat_inj.1
    show c.toNat = 10
    omega
  · intro h
    rw [h]
    rfl
set_option maxHeartbeats 800000 in
set_option maxRecDepth 100000 in
theorem l03Lines (s : ByteArray) (w : World) (hmax : s.size ≤ 1048576) :
    Calls Tryz.prog 32 #[.string s] w fun e w' => ∃ u D, e = .returned u ∧ MadeS w w' u D ∧ D.map rd.bytes = linesOf (rd.bytes s) ∧ D.length ≤ s.size := by
  have START : MadeS w (w.alloc (.cells #[] 9)) (.slice (some ⟨w.heap.size, 0, none⟩) 0 0) [] :=
    ⟨World.ownsRow_lit w #[] 0 (Nat.le_refl _) (Nat.zero_le _) rfl, World.grownBy_alloc _ _ _⟩
  go_enter Tryz.func32, Tryz.ntmps32
  go_wp2
  go_loopw [3, 4, 5] (fun u f i wr => ∃ (k q : Nat) (D : List ByteArray), k ≤ s.size ∧ i = .int .i64 k ∧ f = .int .i64 q ∧ q ≤ k ∧ D.length ≤ k ∧ MidL s k q D ∧ MadeS w wr u D) (fun _ _ i _ => s.size - (intOf i).toNat)
  case atStart => exact ⟨0, 0, [], Nat.zero_le _, rfl, rfl, Nat.le_refl _, Nat.le_refl _, ⟨rfl, rfl, Nat.le_refl _, Nat.le_refl _⟩, START⟩
  case round =>
    obtain ⟨k, q, D, hk, rfl, rfl, hqk, hDk, hm, hmade⟩ := hrel
    clear START
    by_cases hlt : k < s.size
    · have hi' : (k : Int) < (s.size : Int) := by omega
      have hb := byte10 s[k]
      by_cases h10 : s[k] = 10
      · rw [decide_eq_true h10] at hb
        have M := midL_line hm hlt h10
        clear hm h10
        go_wp2_with (at_builtin; refine appendS hmade (by omega) rfl _ _ rfl rfl rfl ?_)
        intro v' w1 R
        clear hmade
        go_wp2
        go_roundw
        case rel => exact ⟨k + 1, k + 1, _, by omega, by go_num, by go_num, Nat.le_refl _, by simp; omega, M, R⟩
        case measure => simp [intOf]; omega
      · rw [decide_eq_false h10] at hb
        have M := midL_other hm hlt h10
        clear hm h10
        go_wp2
        go_roundw
        case rel => exact ⟨k + 1, q, D, by omega, by go_num, rfl, by omega, by omega, M, hmade⟩
        case measure => simp [intOf]; omega
    · have hi' : ¬ (k : Int) < (s.size : Int) := by omega
      have E := midL_end hm hlt
      have hkk : D.length ≤ s.size := by omega
      clear hm
      go_wp2
      go_ret
      exact ⟨_, rfl, D, hmade, E, hkk⟩
theorem byteIs (c : UInt8) (k : Nat) (hk : k < 256) : ((c.toNat : Int) == (k : Int)) = decide (c = UInt8.ofNat k) := by
  rw [Bool.eq_iff_iff, beq_iff_eq, decide_eq_true_iff]
  constructor
  · intro h
    apply UInt8.toNat_inj.1
    rw [UInt8.toNat_ofNat_of_lt' hk]
    omega
  · intro h
    rw [h, UInt8.toNat_ofNat_of_lt' hk]
set_option maxHeartbeats 800000 in
theorem l03Passed (s : ByteArray) (w : World) (hmax : s.size ≤ 1048576) :
    Calls Tryz.prog 33 #[.string s] w fun e w' => e = .returned (.bool (passed (rd.bytes s))) ∧ w' = w := by
  have hE : ∀ t : List UInt8, (rd.bytes s = t) → (s.toList == t) = true := fun t h => by rw [rd.toList_bytes, h]; exact beq_self_eq_true t
  have hN : ∀ t : List UInt8, (¬ rd.bytes s = t) → (s.toList == t) = false := fun t h => by rw [rd.toList_bytes]; exact beq_eq_false_iff_ne.2 h
  by_cases h0 : rd.bytes s = []
  · have e0 := hE _ h0
    rw [h0] at *
    clear hE hN h0
    go_enter Tryz.func33, Tryz.ntmps33
    go_wp2
    go_ret
    exact ⟨rfl, rfl⟩
  have n0 := hN _ h0
  by_cases h1 : rd.bytes s = [99]
  · have e1 := hE _ h1
    rw [h1]
    clear hE hN h0 h1
    go_enter Tryz.func33, Tryz.ntmps33
    go_wp2
    go_ret
    exact ⟨rfl, rfl⟩
  have n1 := hN _ h1
  clear hE hN
  by_cases h2 : 1 < s.size
  · have h2' : (1 : Int) < (s.size : Int) := by omega
    have e : passed (rd.bytes s) = (decide (s[0] = 99) && decide (s[1] = 32)) := by
      obtain ⟨⟨l⟩⟩ := s
      rcases l with _ | ⟨c, _ | ⟨d, l⟩⟩
      · exact absurd h2 (by decide)
      · exact absurd h2 (by show ¬ 1 < 1; decide)
      · rfl
    rw [e]
    have b0 : ((s[0].toNat : Int) == 99) = decide (s[0] = UInt8.ofNat 99) := byteIs s[0] 99 (by decide)
    have b1 : ((s[1].toNat : Int) == 32) = decide (s[1] = UInt8.ofNat 32) := byteIs s[1] 32 (by decide)
    clear h0 h1 e
    by_cases c0 : s[0] = 99
    · rw [decide_eq_true (show s[0] = UInt8.ofNat 99 from c0)] at b0
      rw [decide_eq_true c0]
      clear c0
      by_cases c1 : s[1] = 32
      · rw [decide_eq_true (show s[1] = UInt8.ofNat 32 from c1)] at b1
        rw [decide_eq_true c1]
        clear c1
        go_enter Tryz.func33, Tryz.ntmps33
        go_wp2
        go_ret
        exact ⟨rfl, rfl⟩
      · rw [decide_eq_false (show ¬ s[1] = UInt8.ofNat 32 from c1)] at b1
        rw [decide_eq_false c1]
        clear c1
        go_enter Tryz.func33, Tryz.ntmps33
        go_wp2
        go_ret
        exact ⟨rfl, rfl⟩
    · rw [decide_eq_false (show ¬ s[0] = UInt8.ofNat 99 from c0)] at b0
      rw [decide_eq_false c0]
      clear c0 b1
      go_enter Tryz.func33, Tryz.ntmps33
      go_wp2
      go_ret
      exact ⟨rfl, rfl⟩
  · have h2' : ¬ (1 : Int) < (s.size : Int) := by omega
    have e : passed (rd.bytes s) = false := by
      obtain ⟨⟨l⟩⟩ := s
      rcases l with _ | ⟨c, _ | ⟨d, l⟩⟩
      · exact absurd rfl h0
      · exact decide_eq_false fun e => h1 (by rw [e]; rfl)
      · exact absurd (show 1 < l.length + 1 + 1 by omega) h2
    rw [e]
    clear h0 h1 e h2
    go_enter Tryz.func33, Tryz.ntmps33
    go_wp2
    go_ret
    exact ⟨rfl, rfl⟩
end Go.Proofs.YtfokbkaommfnoaaGreatDoor.ln
