/- The model's l03Lines and l03Passed at every text of at most 2^20 bytes. -/
import Derived.Test.YtgcglpdemolcoaaDoorLm
namespace Go.Proofs.YtgcglpdemolcoaaDoor.ln
open Go.ChangeShapes Go.WideShapes Go.ChangeAt Go.RowKit
open Go.Proofs.YtgcglpdemolcoaaDoor.rd (MadeS appendS)
open Go.Proofs.YtgcglpdemolcoaaDoor.sl (hide unhide)
set_option linter.unusedVariables false
theorem byte10 (c : UInt8) : ((c.toNat : Int) == 10) = decide (c = 10) := by
  rw [Bool.eq_iff_iff, beq_iff_eq, decide_eq_true_iff]
  constructor
  · intro h
    apply UInt8.toNat_inj.1
    show c.toNat = 10
    omega
  · intro h
    rw [h]
    rfl
set_option maxHeartbeats 800000 in
set_option maxRecDepth 100000 in
theorem l03Lines (s : ByteArray) (w : World) (hmax : s.size ≤ 1048576) :
    Calls Tryd.prog 102 #[.string s] w fun e w' => ∃ u D, e = .returned u ∧ MadeS w w' u D ∧ D.map rd.bytes = linesOf (rd.bytes s) ∧ D.length ≤ s.size := by
  have START : MadeS w (w.alloc (.cells #[] 9)) (.slice (some ⟨w.heap.size, 0, none⟩) 0 0) [] :=
    ⟨World.ownsRow_lit w #[] 0 (Nat.le_refl _) (Nat.zero_le _) rfl, World.grownBy_alloc _ _ _⟩
  go_enter Tryd.func102, Tryd.ntmps102
  go_wp2
  go_loopw [3, 4, 5] (fun u f i wr => ∃ (k q : Nat) (D : List ByteArray), k ≤ s.size ∧ i = .int .i64 k ∧ f = .int .i64 q ∧ q ≤ k ∧ D.length ≤ k ∧ MidL s k q D ∧ MadeS w wr u D) (fun _ _ i _ => s.size - (intOf i).toNat)
  case atStart => exact ⟨0, 0, [], Nat.zero_le _, rfl, rfl, Nat.le_refl _, Nat.le_refl _, ⟨rfl, rfl, Nat.le_refl _, Nat.le_refl _⟩, START⟩
  case round =>
    obtain ⟨k, q, D, hk, rfl, rfl, hqk, hDk, hm, hmade⟩ := hrel
    clear START
    by_cases hlt : k < s.size
    · have hi' : (k : Int) < (s.size : Int) := by omega
      have hb := byte10 s[k]
      by_cases h10 : s[k] = 10
      · rw [decide_eq_true h10] at hb
        have M := midL_line hm hlt h10
        clear hm h10
        go_wp2_with (at_builtin; refine appendS hmade (by omega) rfl _ _ rfl rfl rfl ?_)
        intro v' w1 R
        clear hmade
        go_wp2
        go_roundw
        case rel => exact ⟨k + 1, k + 1, _, by omega, by go_num, by go_num, Nat.le_refl _, by simp; omega, M, R⟩
        case measure => simp [intOf]; omega
      · rw [decide_eq_false h10] at hb
        have M := midL_other hm hlt h10
        clear hm h10
        go_wp2
        go_roundw
        case rel => exact ⟨k + 1, q, D, by omega, by go_num, rfl, by omega, by omega, M, hmade⟩
        case measure => simp [intOf]; omega
    · have hi' : ¬ (k : Int) < (s.size : Int) := by omega
      have E := midL_end hm hlt
      have hkk : D.length ≤ s.size := by omega
      clear hm
      go_wp2
      go_ret
      exact ⟨_, rfl, D, hmade, E, hkk⟩
theorem byteIs (c : UInt8) (k : Nat) (hk : k < 256) : ((c.toNat : Int) == (k : Int)) = decide (c = UInt8.ofNat k) := by
  rw [Bool.eq_iff_iff, beq_iff_eq, decide_eq_true_iff]
  constructor
  · intro h
    apply UInt8.toNat_inj.1
    rw [UInt8.toNat_ofNat_of_lt' hk]
    omega
  · intro h
    rw [h, UInt8.toNat_ofNat_of_lt' hk]
end Go.Proofs.YtgcglpdemolcoaaDoor.ln
