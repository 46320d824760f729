/- Places and choices: what the program lays down for Pigeon; conditions: small numbers. -/
import Derived.Test.YtmmmldcnadidkaaTe
import Derived.Test.YtmmmldcnadidkaaTf
namespace Go.Proofs.Ytmmmldcnadidkaa.t2
open Go.ChangeShapes Go.WideShapes Go.ChangeAt Go.RowKit
open Go.Proofs.Ytmmmldcnadidkaa.lits (okB okB_iff)
open Go.Proofs.Ytmmmldcnadidkaa.sl (Sl Own ints hide unhide ret_int ret_bool grown_refl grown_trans grown_drewN)
open Go.Proofs.Ytmmmldcnadidkaa.css (Sls OwnS tot Apart own_ne own_ne' own_kind own_mono)
open Go.Proofs.Ytmmmldcnadidkaa.cf (Box)
open Go.Proofs.Ytmmmldcnadidkaa.wo (Made)
set_option linter.unusedVariables false

theorem choiceAt (x y z m : Int) (hm : (x - 1) * z = m) (h0 : 1 ≤ x ∧ x ≤ 1000) (h1 : 0 ≤ y ∧ y ≤ 1000) (h2 : 0 ≤ m ∧ m ≤ 100000) (w : World) :
    Calls Try.prog 20 #[.int .i64 x, .int .i64 y, .int .i64 z] w fun e w' => e = .returned (.int .i64 (m + y)) ∧ w' = w := by
  obtain ⟨x0, x1⟩ := h0
  obtain ⟨y0, y1⟩ := h1
  obtain ⟨m0, m1⟩ := h2
  go_enter Try.func20, Try.ntmps20
  go_wp2_with fail
  go_ret
  exact ⟨rfl, rfl⟩
/-- the variables of a thing's choices -/
def rowL (i n : Nat) : List Int := (List.range n).map fun j => ((i * n + (j + 1) : Nat) : Int)
theorem rowL_len (i n : Nat) : (rowL i n).length = n := by simp [rowL]
theorem rowL_step (i n k : Nat) (h : k < n) : (rowL i n).take (k + 1) = (rowL i n).take k ++ [((i * n + (k + 1) : Nat) : Int)] := by
  rw [List.take_succ_eq_append_getElem (by rw [rowL_len]; exact h)]
  simp [rowL]
set_option maxRecDepth 10000 in
set_option maxHeartbeats 4000000 in
theorem choicesOf (i n : Nat) (w : World) (hi : i ≤ 100) (hn : n ≤ 100) :
    Calls Try.prog 18 #[.int .i64 ((i : Int) + 1), .int .i64 (n : Int)] w fun e w' => ∃ r, e = .returned r ∧ Made w w' r (rowL i n) := by
  have mk := gc.mkI n (by omega)
  have ST : Hid (Made w (w.alloc (.cells (madeCells #[.int .i64 0] n) 3)) (.slice (some ⟨w.heap.size, 0, none⟩) 0 n) ((rowL i n).take 0)) := gc.madeI w n (by omega)
  have hin : i * n ≤ 10000 := by
    have := Nat.mul_le_mul hi hn
    omega
  have hmul : ((i : Int) + 1 - 1) * (n : Int) = ((i * n : Nat) : Int) := by rw [Int.add_sub_cancel, Int.natCast_mul]
  have CA := hide (fun (k : Nat) (hk : k < n) w => choiceAt ((i : Int) + 1) ((k : Int) + 1) n ((i * n : Nat) : Int) hmul (by omega) (by omega) (by omega) w)
  have RS := hide (rowL_step i n)
  have RL := hide (rowL_len i n)
  clear hmul
  generalize i * n = m at *
  generalize rowL i n = R at *
  go_enter Try.func18, Try.ntmps18
  go_wp2_with fail
  go_loopw [5, 6] (fun v j wr => ∃ k : Nat, k ≤ n ∧ j = .int .i64 ((k : Int) + 1) ∧ Hid (Made w wr v (R.take k))) (fun _ j _ => n + 1 - (intOf j).toNat)
  case atStart => exact ⟨0, Nat.zero_le _, rfl, ST⟩
  case round =>
    obtain ⟨k, hk, rfl, hm⟩ := hrel
    clear ST mk
    by_cases hlt : k < n
    · have hi' : (k : Int) + 1 ≤ (n : Int) := by omega
      obtain ⟨va, vc, rfl, _⟩ := (Own.of (unhide hm).1).sl
      have lw : (R.take k).length ≤ 4194304 := by rw [List.length_take]; omega
      have rs := unhide RS k hlt
      obtain ⟨P2, hP2⟩ : ∃ P2, P2 = R.take (k + 1) := ⟨_, rfl⟩
      rw [← hP2, show ((m + (k + 1) : Nat) : Int) = (m : Int) + ((k : Int) + 1) by omega] at rs
      have HP := hide hP2
      have HR := hide rs
      clear hP2 rs
      generalize R.take k = P1 at *
      have hg := hide (unhide hm).2
      have ho := hide (unhide hm).1
      clear hm
      go_wp2_with fail
      refine (unhide CA k hlt _).mono ?_; rintro e w' ⟨rfl, hw⟩; have hw' := hw.symm; clear hw; subst hw'
      go_wp2_with (at_builtin; refine wo.append1 (unhide hg) (unhide ho) lw rfl _ _ rfl rfl rfl ?_)
      intro v' w2 R2
      have R3 : Hid (Made w w2 v' P2) := by
        rw [unhide HR]
        exact R2
      clear R2 HR hg ho
      go_wp2_with fail
      go_roundw
      case rel => exact ⟨k + 1, by omega, by go_num, by rw [← unhide HP]; exact R3⟩
      case measure => simp [intOf]; omega
    · have hi' : ¬ (k : Int) + 1 ≤ (n : Int) := by omega
      have e : R.take k = R := List.take_of_length_le (by rw [unhide RL]; omega)
      rw [e] at hm
      obtain ⟨va, vc, rfl, _⟩ := (Own.of (unhide hm).1).sl
      clear e
      go_wp2_with fail
      go_ret
      exact ⟨_, rfl, unhide hm⟩
end Go.Proofs.Ytmmmldcnadidkaa.t2
