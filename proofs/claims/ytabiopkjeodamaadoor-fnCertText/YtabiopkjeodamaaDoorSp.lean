/- What the model's Unit and Force answer at every formula that holds at most 2^20 values and every list of at most 2^20 numbers; no other condition. -/
import Derived.Test.YtabiopkjeodamaaDoorWz
import Derived.Deep.QuietTactic
import Derived.BigQuiet
import Derived.Deep.RegionHeld3
import Derived.Deep.RegionLaw
import Derived.WalkMore
import Derived.ArgAppend
namespace Go.Proofs.YtabiopkjeodamaaDoor.sp
open Go.ChangeShapes Go.WideShapes Go.ChangeAt Go.RowKit
open Go.Proofs.YtabiopkjeodamaaDoor.lits (okB varI okB_iff)
open Go.Proofs.YtabiopkjeodamaaDoor.bset (placeN placeN_le placeN_inj setOf setOf_lt setOf_has setOf_bit)
open Go.Proofs.YtabiopkjeodamaaDoor.cls (hasB)
open Go.Proofs.YtabiopkjeodamaaDoor.css (Sls tot)
open Go.Proofs.YtabiopkjeodamaaDoor.cf (Box)
open Go.Proofs.YtabiopkjeodamaaDoor.ok (cnfB litIn all_hit all_step all_end)
open Go.Proofs.YtabiopkjeodamaaDoor.wo (Made)
open Go.Proofs.YtabiopkjeodamaaDoor.wm
open Go.Proofs.YtabiopkjeodamaaDoor.srt (woN fstI andN_lt)
open Go.Proofs.YtabiopkjeodamaaDoor.sl (Sl Own ints hide unhide ret_int ret_bool grown_refl grown_trans grown_drewN)
set_option linter.unusedVariables false

set_option maxRecDepth 100000 in
set_option maxHeartbeats 4000000 in
theorem l04Lits (v u : Value) (n : Int) (L : List Int) (w : World) (hL : L.length ≤ 1048576) (hu : Sl w u L) :
    Calls Tryd.prog 150 #[.agg #[.int .i64 n, v], u] w fun e w' => e = .returned (.bool (L.all (litIn n))) ∧ w.grownBy w' none := by
  have g0 := World.grownBy_alloc w (.cells #[.int .i64 n, v] 47) none
  have F0 := hide (Box.new 47 w (.int .i64 n) v)
  have G0 := hide g0
  have HU := hide (hu.kept g0 (.inl rfl))
  obtain ⟨a, cap, rfl, _⟩ := hu
  clear g0
  go_enter Tryd.func150, Tryd.ntmps150
  go_wp2
  go_loopw [5] (fun i wr => ∃ k : Nat, k ≤ L.length ∧ i = .int .i64 k ∧ Hid ((L.take k).all (litIn n) = true) ∧ Hid ((w.alloc (.cells #[.int .i64 n, v] 47)).grownBy wr none)) (fun i _ => L.length - (intOf i).toNat)
  case atStart => exact ⟨0, Nat.zero_le _, rfl, (by show _ = _; simp), grown_refl _⟩
  case round =>
    obtain ⟨k, hk, rfl, hall, hg⟩ := hrel
    have GW := hide (grown_trans (r := none) (unhide G0) (unhide hg))
    have F1 := hide ((unhide F0).kept (unhide hg))
    have y0 := (unhide F1).c0
    have y1 := (unhide F1).c1
    by_cases hlt : k < L.length
    · have hs := (unhide HU).kept (unhide hg) (.inl rfl)
      obtain ⟨a', c', e', hcells⟩ := hs
      simp only [Value.slice.injEq] at e'
      obtain ⟨rfl, _, rfl⟩ := e'
      rcases hcells with h | ⟨b, off, rfl, hb, hcb⟩
      · rw [h] at hlt
        simp at hlt
      · have c1 := hcb k hlt
        have hi' : (k : Int) < (L.length : Int) := by omega
        have h1 := all_hit (litIn n) L k 0 hlt
        have h2 := all_step (litIn n) L k 0 hlt (unhide hall)
        generalize L.getD k 0 = x at *
        have cx := lits.specLitOk x
        have cv := lits.specLitVar x
        cases hx : okB x
        · rw [hx] at cx
          have CX := hide cx
          have H := hide (h1 (by unfold ok.litIn; rw [hx]; rfl))
          clear cx cv h1 h2 hx hcb hall F0 F1 HU
          go_wp2
          go_quiet (first | (go_at_call 76; refine Calls.quiet_of_same (unhide CX _)))
          go_wp2
          go_ret
          exact ⟨ret_bool (unhide H).symm, grown_trans (unhide GW) (grown_drewN _ _)⟩
        · rw [hx] at cx
          have CX := hide cx
          have CV := hide cv
          by_cases hq : varI x ≤ n
          · have H := hide (h2 (by unfold ok.litIn; rw [hx, decide_eq_true hq]; rfl))
            clear cx cv h1 h2 hx hcb hall F1 HU
            generalize varI x = y at *
            have hq' : decide (n < y) = false := decide_eq_false (by omega)
            go_wp2
            go_quiet (first | (go_at_call 76; exact (unhide CX _).mono (fun _ _ h => ⟨h.1, _, h.2⟩)) | (go_at_call 141; exact (unhide CV _).mono (fun _ _ h => ⟨h.1, _, h.2⟩)))
            go_wp2
            go_roundw
            case rel => exact ⟨k + 1, by omega, by go_num, H, grown_trans (unhide hg) (grown_drewN _ _)⟩
            case measure => simp [intOf]; omega
          · have H := hide (h1 (by unfold ok.litIn; rw [decide_eq_false hq, Bool.and_false]))
            clear cx cv h1 h2 hx hcb hall F1 HU
            generalize varI x = y at *
            have hq' : n < y := by omega
            go_wp2
            go_quiet (first | (go_at_call 76; exact (unhide CX _).mono (fun _ _ h => ⟨h.1, _, h.2⟩)) | (go_at_call 141; exact (unhide CV _).mono (fun _ _ h => ⟨h.1, _, h.2⟩)))
            go_wp2
            go_ret
            exact ⟨ret_bool (unhide H).symm, grown_trans (unhide GW) (grown_drewN _ _)⟩
    · have hi' : ¬ (k : Int) < (L.length : Int) := by omega
      have HR := hide (all_end (litIn n) L k hlt (unhide hall))
      clear HU hall
      go_wp2
      go_ret
      exact ⟨ret_bool (unhide HR).symm, unhide GW⟩
end Go.Proofs.YtabiopkjeodamaaDoor.sp
