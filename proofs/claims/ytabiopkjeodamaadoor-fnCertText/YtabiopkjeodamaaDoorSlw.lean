/- The laws' own functions on lists of numbers (eqIntS, markIntS, heldIntS) and the model's ClauseHas, at lists of at most 2^21 numbers; no other condition. -/
import Derived.Test.YtabiopkjeodamaaDoorCls
namespace Go.Proofs.YtabiopkjeodamaaDoor.slw
open Go.ChangeShapes Go.WideShapes Go.ChangeAt Go.RowKit
open Go.Proofs.YtabiopkjeodamaaDoor.sl
open Go.Proofs.YtabiopkjeodamaaDoor.cls (hasB)
set_option linter.unusedVariables false

theorem eqIntS (v u : Value) (L : List Int) (w : World) (hL : L.length ≤ 2097152) (hv : Sl w v L) (hu : Sl w u L) :
    Calls Tryd.prog 18 #[v, u] w fun e w' => e = .returned (.bool true) ∧ w.grownBy w' none := by
  obtain ⟨a, cap, rfl, ha⟩ := hv
  obtain ⟨c, cap', rfl, hc⟩ := hu
  rcases ha with rfl | ⟨b, off, rfl, hb, hcb⟩
  · go_enter Tryd.func18, Tryd.ntmps18
    go_wp2
    refine wp_loop_rounds 1 ?_
    rw [rounds_succ]
    go_wp2
    go_ret
    exact ⟨rfl, grown_refl _⟩
  · rcases hc with rfl | ⟨d, off', rfl, hd, hcd⟩
    · go_enter Tryd.func18, Tryd.ntmps18
      go_wp2
      refine wp_loop_rounds 1 ?_
      rw [rounds_succ]
      go_wp2
      go_ret
      exact ⟨rfl, grown_refl _⟩
    · have HB := hide hcb
      have HD := hide hcd
      clear hcb hcd
      go_enter Tryd.func18, Tryd.ntmps18
      go_wp2
      go_loopw [5] (fun i wr => ∃ k : Nat, k ≤ L.length ∧ i = .int .i64 k ∧ w.grownBy wr none) (fun i _ => L.length - (intOf i).toNat)
      case atStart => exact ⟨0, Nat.zero_le _, rfl, grown_refl _⟩
      case round =>
        obtain ⟨k, hk, rfl, hg⟩ := hrel
        by_cases hlt : k < L.length
        · have c1 : wr.cell? ⟨b, off + k, none⟩ = some (.int .i64 (L.getD k 0)) := hg.cell (unhide HB k hlt) (fun e => by cases e)
          have c2 : wr.cell? ⟨d, off' + k, none⟩ = some (.int .i64 (L.getD k 0)) := hg.cell (unhide HD k hlt) (fun e => by cases e)
          have hi : (k : Int) < (L.length : Int) := by omega
          have G := hide hg
          clear hg
          go_wp2
          go_quiet (fail)
          go_wp2
          go_roundw
          case rel => exact ⟨k + 1, by omega, by go_num, grown_trans (unhide G) (grown_drewN _ _)⟩
          case measure => simp [intOf]; omega
        · have hi : ¬ (k : Int) < (L.length : Int) := by omega
          have G := hide hg
          clear hg
          go_wp2
          go_ret
          exact ⟨rfl, unhide G⟩

theorem specClauseHas (v : Value) (L : List Int) (x : Int) (w : World) (hL : L.length ≤ 2097152) (hv : Sl w v L) :
    Calls Tryd.prog 115 #[v, .int .i64 x] w fun e w' => e = .returned (.bool (hasB L x)) ∧ w' = w := by
  obtain ⟨a, cap, rfl, ha⟩ := hv
  have HA := hide ha
  clear ha
  go_enter Tryd.func115, Tryd.ntmps115
  go_wp2
  go_loop [5] (fun i => ∃ k : Nat, k ≤ L.length ∧ i = .int .i64 k ∧ Hid (¬ x ∈ L.take k)) (fun i => L.length - (intOf i).toNat)
  case atStart => exact ⟨0, Nat.zero_le _, rfl, by show ¬ _; simp⟩
  case round =>
    obtain ⟨k, hk, rfl, hall⟩ := hrel
    by_cases hlt : k < L.length
    · rcases unhide HA with h | ⟨b, off, rfl, hb, hcb⟩
      · rw [h] at hlt
        simp at hlt
      · have c1 := hcb k hlt
        have hi' : (k : Int) < (L.length : Int) := by omega
        have h1 := cls.has_hit L k x hlt
        have h2 := cls.has_step L k x hlt (unhide hall)
        generalize L.getD k 0 = y at *
        by_cases hx : y = x
        · have H := hide (h1 hx)
          have hb' : (y == x) = true := by simpa using hx
          clear h1 h2 hx hcb HA
          go_wp2
          go_ret
          exact ⟨ret_bool (unhide H).symm, rfl⟩
        · have H := hide (h2 hx)
          have hb' : (y == x) = false := by simpa using hx
          clear h1 h2 hx hcb HA
          go_wp2
          go_round
          case rel => exact ⟨k + 1, by omega, by go_num, H⟩
          case measure => simp [intOf]; omega
    · have hi' : ¬ (k : Int) < (L.length : Int) := by omega
      have HR := hide (cls.has_no L k x hlt (unhide hall))
      clear HA
      go_wp2
      go_ret
      exact ⟨ret_bool (unhide HR).symm, rfl⟩

end Go.Proofs.YtabiopkjeodamaaDoor.slw
