/- What CountOn (of the program and of its model) answers at every two lists of at most 2^20 numbers each; no other condition. -/
import Derived.Test.YtmmfhcfanbfniaaTr
namespace Go.Proofs.Ytmmfhcfanbfniaa.t1
open Go.ChangeShapes Go.WideShapes Go.ChangeAt Go.RowKit
open Go.Proofs.Ytmmfhcfanbfniaa.sl (Sl Own ints hide unhide ret_int ret_bool grown_refl grown_trans)
open Go.Proofs.Ytmmfhcfanbfniaa.tr (litT clT)
set_option linter.unusedVariables false

/-- how many literals of a list, place by place, are true -/
def cntL (A L : List Int) : Nat := L.countP (litT A)
theorem cnt_step (A L : List Int) (k : Nat) (h : k < L.length) : cntL A (L.take (k + 1)) = cntL A (L.take k) + (if litT A (L.getD k 0) then 1 else 0) := by
  unfold cntL
  rw [List.take_succ_eq_append_getElem h, List.countP_append, show L.getD k 0 = L[k] by simp [h]]
  simp [List.countP_cons]
theorem cnt_end (A L : List Int) (k : Nat) (h : ¬ k < L.length) : cntL A (L.take k) = cntL A L := by
  rw [List.take_of_length_le (by omega)]
theorem cnt_le (A L : List Int) : cntL A L ≤ L.length := List.countP_le_length

theorem implCountOn (v u : Value) (L A : List Int) (w : World) (hL : L.length ≤ 1048576) (hA : A.length ≤ 1048576) (hv : Sl w v L) (hu : Sl w u A) :
    Calls Try.prog 15 #[v, u] w fun e w' => e = .returned (.int .i64 (cntL A L : Int)) ∧ w' = w := by
  obtain ⟨a, cap, rfl, ha⟩ := hv
  have HA := hide ha
  have HU := hide hu
  clear ha hu
  go_enter Try.func15, Try.ntmps15
  go_wp2
  go_loop [5, 10] (fun c i => ∃ n k : Nat, k ≤ L.length ∧ n ≤ k ∧ c = .int .i64 (n : Int) ∧ i = .int .i64 k ∧ Hid (cntL A (L.take k) = n)) (fun c i => L.length - (intOf i).toNat)
  case atStart => exact ⟨0, 0, Nat.zero_le _, Nat.le_refl _, rfl, rfl, by show _ = _; simp [cntL]⟩
  case round =>
    obtain ⟨n, k, hk, hn, rfl, rfl, hall⟩ := hrel
    by_cases hlt : k < L.length
    · rcases unhide HA with h | ⟨b, off, rfl, hb, hcb⟩
      · rw [h] at hlt
        simp at hlt
      · have c1 := hcb k hlt
        have hi' : (k : Int) < (L.length : Int) := by omega
        have h1 := cnt_step A L k hlt
        rw [unhide hall] at h1
        generalize L.getD k 0 = x at *
        have cx := tr.literalTrue x u A w hA (unhide HU)
        cases hx : litT A x
        · rw [hx] at cx h1
          have CX := hide cx
          have H := hide h1
          clear cx h1 hx hcb HA HU hall
          go_wp2_with (go_at_call 58; refine (unhide CX).mono ?_; rintro e w' ⟨rfl, rfl⟩)
          go_round
          case rel => exact ⟨n, k + 1, by omega, by omega, rfl, by go_num, by show _ = _; simpa using unhide H⟩
          case measure => simp [intOf]; omega
        · rw [hx] at cx h1
          have CX := hide cx
          have H := hide h1
          clear cx h1 hx hcb HA HU hall
          go_wp2_with (go_at_call 58; refine (unhide CX).mono ?_; rintro e w' ⟨rfl, rfl⟩)
          go_round
          case rel => exact ⟨n + 1, k + 1, by omega, by omega, by go_num, by go_num, by show _ = _; simpa using unhide H⟩
          case measure => simp [intOf]; omega
    · have hi' : ¬ (k : Int) < (L.length : Int) := by omega
      have HR := hide ((cnt_end A L k hlt).symm.trans (unhide hall))
      clear HA HU hall
      go_wp2
      go_ret
      exact ⟨ret_int (by rw [unhide HR]), rfl⟩

theorem own_lit (w : World) (x : Int) : Own w.heap.size (w.heap.size + 1) (w.alloc (.cells #[.int .i64 x] 3)) (.slice (some ⟨w.heap.size, 0, none⟩) 1 1) [x] :=
  ⟨World.ownsRow_lit w #[.int .i64 x] 1 (Nat.le_refl _) (by unfold maxLen; omega) rfl, fun k e => by cases e; exact Nat.lt_succ_self _⟩

theorem specCountOn (v u : Value) (L A : List Int) (w : World) (hL : L.length ≤ 1048576) (hA : A.length ≤ 1048576) (hv : Sl w v L) (hu : Sl w u A) :
    Calls Try.prog 22 #[v, u] w fun e w' => e = .returned (.int .i64 (cntL A L : Int)) ∧ w.grownBy w' none := by
  obtain ⟨a, cap, rfl, ha⟩ := hv
  have HA := hide ha
  have HU := hide hu
  clear ha hu
  go_enter Try.func22, Try.ntmps22
  go_wp2
  go_loopw [5, 6] (fun c i wr => ∃ n k : Nat, k ≤ L.length ∧ n ≤ k ∧ c = .int .i64 (n : Int) ∧ i = .int .i64 k ∧ Hid (cntL A (L.take k) = n) ∧ Hid (w.grownBy wr none)) (fun c i _ => L.length - (intOf i).toNat)
  case atStart => exact ⟨0, 0, Nat.zero_le _, Nat.le_refl _, rfl, rfl, by show _ = _; simp [cntL], hide (grown_refl w)⟩
  case round =>
    obtain ⟨n, k, hk, hn, rfl, rfl, hall, hg⟩ := hrel
    by_cases hlt : k < L.length
    · rcases unhide HA with h | ⟨b, off, rfl, hb, hcb⟩
      · rw [h] at hlt
        simp at hlt
      · have hS := (show Sl w (.slice (some ⟨b, off, none⟩) L.length cap) L from ⟨_, _, rfl, .inr ⟨b, off, rfl, hb, hcb⟩⟩).kept (unhide hg) (.inl rfl)
        obtain ⟨a', cap', e', ha'⟩ := hS
        cases e'
        rcases ha' with h | ⟨b', off', e', hb', hcb'⟩
        · rw [h] at hlt
          simp at hlt
        cases e'
        have c1 := hcb' k hlt
        have hi' : (k : Int) < (L.length : Int) := by omega
        have h1 := cnt_step A L k hlt
        rw [unhide hall] at h1
        generalize L.getD k 0 = x at *
        have gA := World.grownBy_alloc wr (.cells #[.int .i64 x] 3) none
        have cx := tr.specClauseTrue (.slice (some ⟨wr.heap.size, 0, none⟩) 1 1) u [x] A _ (by simp) hA (own_lit wr x).sl (((unhide HU).kept (unhide hg) (.inl rfl)).kept gA (.inl rfl))
        have G := hide (grown_trans (r := none) (unhide hg) gA)
        have e1 : clT A [x] = litT A x := by simp [clT]
        rw [e1] at cx
        cases hx : litT A x
        · rw [hx] at cx h1
          have CX := hide cx
          have H := hide h1
          clear cx h1 hx hcb hcb' HA HU hall e1 gA hg
          go_wp2_with fail
          refine (unhide CX).mono ?_; rintro e w' ⟨rfl, hw⟩; have hw' := hw.symm; clear hw; subst hw'
          go_wp2_with fail
          go_roundw
          case rel => exact ⟨n, k + 1, by omega, by omega, rfl, by go_num, by show _ = _; simpa using unhide H, G⟩
          case measure => simp [intOf]; omega
        · rw [hx] at cx h1
          have CX := hide cx
          have H := hide h1
          clear cx h1 hx hcb hcb' HA HU hall e1 gA hg
          go_wp2_with fail
          refine (unhide CX).mono ?_; rintro e w' ⟨rfl, hw⟩; have hw' := hw.symm; clear hw; subst hw'
          go_wp2_with fail
          go_roundw
          case rel => exact ⟨n + 1, k + 1, by omega, by omega, by go_num, by go_num, by show _ = _; simpa using unhide H, G⟩
          case measure => simp [intOf]; omega
    · have hi' : ¬ (k : Int) < (L.length : Int) := by omega
      have HR := hide ((cnt_end A L k hlt).symm.trans (unhide hall))
      clear HA HU hall
      go_wp2
      go_ret
      exact ⟨ret_int (by rw [unhide HR]), unhide hg⟩
end Go.Proofs.Ytmmfhcfanbfniaa.t1
