/- AndGate: what the program and its model answer at any number and any list of at most 2^20 numbers. -/
import Derived.Test.YtmmmldcnadidkaaT5
import Derived.Test.YtmmmldcnadidkaaOg
namespace Go.Proofs.Ytmmmldcnadidkaa.t2
open Go.ChangeShapes Go.WideShapes Go.ChangeAt Go.RowKit
open Go.Proofs.Ytmmmldcnadidkaa.lits (okB okB_iff)
open Go.Proofs.Ytmmmldcnadidkaa.sl (Sl Own ints hide unhide ret_int ret_bool grown_refl grown_trans grown_drewN)
open Go.Proofs.Ytmmmldcnadidkaa.css (Sls OwnS tot Apart own_ne own_ne' own_kind own_mono)
open Go.Proofs.Ytmmmldcnadidkaa.cf (Box)
open Go.Proofs.Ytmmmldcnadidkaa.wo (Made)
open Go.Proofs.Ytmmmldcnadidkaa.sp (negL)
open Go.Proofs.Ytmmmldcnadidkaa.ok (all_hit all_step all_end)
set_option linter.unusedVariables false

theorem l13List (v : Value) (L : List Int) (w : World) (hL : L.length ≤ 1048576) (hv : Sl w v L) :
    Calls Try.prog 35 #[v] w fun e w' => e = .returned (.bool (listB L)) ∧ w' = w := by
  obtain ⟨a, cap, rfl, ha⟩ := hv
  have HA := hide ha
  clear ha
  go_enter Try.func35, Try.ntmps35
  go_wp2
  go_loop [3] (fun i => ∃ k : Nat, k ≤ L.length ∧ i = .int .i64 k ∧ Hid ((L.take k).all okB = true)) (fun i => L.length - (intOf i).toNat)
  case atStart => exact ⟨0, Nat.zero_le _, rfl, by show _ = _; simp⟩
  case round =>
    obtain ⟨k, hk, rfl, hall⟩ := hrel
    by_cases hlt : k < L.length
    · rcases unhide HA with h | ⟨b, off, rfl, hb, hcb⟩
      · rw [h] at hlt
        simp at hlt
      · have c1 := hcb k hlt
        have hi' : (k : Int) < (L.length : Int) := by omega
        have h1 := all_hit okB L k 0 hlt
        have h2 := all_step okB L k 0 hlt (unhide hall)
        generalize L.getD k 0 = x at *
        have cx := lits.specLitOk x
        cases hx : okB x
        · rw [hx] at cx
          have CX := hide cx
          have H := hide (h1 hx)
          clear cx h1 h2 hx hcb HA hall
          go_wp2_with (go_at_call 39; refine (unhide CX _).mono ?_; rintro e w' ⟨rfl, rfl⟩)
          go_ret
          exact ⟨ret_bool (by simp [listB, unhide H]), rfl⟩
        · rw [hx] at cx
          have CX := hide cx
          have H := hide (h2 hx)
          clear cx h1 h2 hx hcb HA hall
          go_wp2_with (go_at_call 39; refine (unhide CX _).mono ?_; rintro e w' ⟨rfl, rfl⟩)
          go_round
          case rel => exact ⟨k + 1, by omega, by go_num, H⟩
          case measure => simp [intOf]; omega
    · have hi' : ¬ (k : Int) < (L.length : Int) := by omega
      have HR := hide (all_end okB L k hlt (unhide hall))
      clear HA hall
      go_wp2
      go_ret
      exact ⟨ret_bool (by unfold listB; rw [unhide HR, Bool.and_true]; exact decide_eq_decide.2 (by omega)), rfl⟩

theorem adds_snoc (C : List Int) (Cs : List (List Int)) : ∀ r CC, addsR r CC (Cs ++ [C]) = addR (addsR r CC Cs) (addsC r CC Cs) ∧ addsC r CC (Cs ++ [C]) = addC (addsR r CC Cs) (addsC r CC Cs) C := by
  induction Cs with
  | nil => exact fun r CC => ⟨rfl, rfl⟩
  | cons D Cs ih => exact fun r CC => ih _ _
theorem adds_len (Cs : List (List Int)) : ∀ r CC, CC.length ≤ 120 → (addsC r CC Cs).length ≤ 120 := by
  induction Cs with
  | nil => exact fun r CC h => h
  | cons D Cs ih => exact fun r CC h => ih _ _ (addC_len _ _ _ h)

def andP (nx : Int) (L : List Int) : List (List Int) := L.map fun y => [nx, y]
theorem andP_step (nx : Int) (L : List Int) (k : Nat) (h : k < L.length) : andP nx (L.take (k + 1)) = andP nx (L.take k) ++ [[nx, L.getD k 0]] := by
  unfold andP
  rw [List.take_succ_eq_append_getElem h, List.map_append, show L.getD k 0 = L[k] by simp [h]]
  rfl
def andC (nx x : Int) (L : List Int) : List (List Int) := andP nx L ++ [x :: negL L]
def AndI (W0 : World) (p : Nat) (v : Value) (w : World) (r : Bool) (CC P : List (List Int)) (wr : World) : Prop :=
  ∃ v', Bld W0 wr p v' (addsR r CC P) (addsC r CC P) ∧ Fr p v v' w wr
end Go.Proofs.Ytmmmldcnadidkaa.t2
