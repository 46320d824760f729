/- The laws' own functions on lists of numbers (eqIntS, markIntS, heldIntS) and the model's ClauseHas, at lists of at most 2^21 numbers; no other condition. -/
import Derived.Test.YtibpnocpafppaaaDoorCls
namespace Go.Proofs.YtibpnocpafppaaaDoor.slw
open Go.ChangeShapes Go.WideShapes Go.ChangeAt Go.RowKit
open Go.Proofs.YtibpnocpafppaaaDoor.sl
open Go.Proofs.YtibpnocpafppaaaDoor.cls (hasB)
set_option linter.unusedVariables false

theorem eqIntS (v u : Value) (L : List Int) (w : World) (hL : L.length ≤ 2097152) (hv : Sl w v L) (hu : Sl w u L) :
    Calls Tryd.prog 104 #[v, u] w fun e w' => e = .returned (.bool true) ∧ w.grownBy w' none := by
  obtain ⟨a, cap, rfl, ha⟩ := hv
  obtain ⟨c, cap', rfl, hc⟩ := hu
  rcases ha with rfl | ⟨b, off, rfl, hb, hcb⟩
  · go_enter Tryd.func104, Tryd.ntmps104
    go_wp2
    refine wp_loop_rounds 1 ?_
    rw [rounds_succ]
    go_wp2
    go_ret
    exact ⟨rfl, grown_refl _⟩
  · rcases hc with rfl | ⟨d, off', rfl, hd, hcd⟩
    · go_enter Tryd.func104, Tryd.ntmps104
      go_wp2
      refine wp_loop_rounds 1 ?_
      rw [rounds_succ]
      go_wp2
      go_ret
      exact ⟨rfl, grown_refl _⟩
    · have HB := hide hcb
      have HD := hide hcd
      clear hcb hcd
      go_enter Tryd.func104, Tryd.ntmps104
      go_wp2
      go_loopw [5] (fun i wr => ∃ k : Nat, k ≤ L.length ∧ i = .int .i64 k ∧ w.grownBy wr none) (fun i _ => L.length - (intOf i).toNat)
      case atStart => exact ⟨0, Nat.zero_le _, rfl, grown_refl _⟩
      case round =>
        obtain ⟨k, hk, rfl, hg⟩ := hrel
        by_cases hlt : k < L.length
        · have c1 : wr.cell? ⟨b, off + k, none⟩ = some (.int .i64 (L.getD k 0)) := hg.cell (unhide HB k hlt) (fun e => by cases e)
          have c2 : wr.cell? ⟨d, off' + k, none⟩ = some (.int .i64 (L.getD k 0)) := hg.cell (unhide HD k hlt) (fun e => by cases e)
          have hi : (k : Int) < (L.length : Int) := by omega
          have G := hide hg
          clear hg
          go_wp2
          go_quiet (fail)
          go_wp2
          go_roundw
          case rel => exact ⟨k + 1, by omega, by go_num, grown_trans (unhide G) (grown_drewN _ _)⟩
          case measure => simp [intOf]; omega
        · have hi : ¬ (k : Int) < (L.length : Int) := by omega
          have G := hide hg
          clear hg
          go_wp2
          go_ret
          exact ⟨rfl, unhide G⟩

theorem markIntS (v : Value) (L : List Int) (k : Int) (base : Nat) (w : World) (hL : L.length ≤ 2097152) (k0 : 0 ≤ k) (k1 : k ≤ 1099511627776) (ho : w.ownsRow base 3 1 v L.length (ints L)) :
    Calls Tryd.prog 105 #[v, .int .i64 k] w fun e w' => e = .returned (.int .i64 (k + (L.length : Int))) ∧ w'.ownsRow base 3 1 v L.length (ints (marks k L.length)) ∧ w.grownBy w' v.ownBlock := by
  have ho' := ho
  obtain ⟨_, h⟩ := ho'
  rcases h with ⟨rfl, h0⟩ | ⟨g, cap, cur, rfl, _, _, _, _, _, _⟩
  · have hl : L = [] := List.eq_nil_of_length_eq_zero h0
    subst hl
    have O := hide ho
    clear ho h0
    go_enter Tryd.func105, Tryd.ntmps105
    go_wp2
    refine wp_loop_rounds 1 ?_
    rw [rounds_succ]
    go_wp2
    go_ret
    exact ⟨by simp, unhide O, grown_refl _⟩
  · have O := hide ho
    clear ho
    go_enter Tryd.func105, Tryd.ntmps105
    go_wp2
    go_loopw [1, 5] (fun q i wr => ∃ j : Nat, j ≤ L.length ∧ i = .int .i64 j ∧ q = .int .i64 (k + (j : Int)) ∧ wr.ownsRow base 3 1 (.slice (some ⟨g, 0, none⟩) L.length cap) L.length (ints (marked L k j)) ∧ w.grownBy wr (some g)) (fun _ i _ => L.length - (intOf i).toNat)
    case atStart => exact ⟨0, Nat.zero_le _, rfl, by simp, by rw [marked_zero]; exact unhide O, ⟨rfl, rfl, rfl, Nat.le_refl _, fun _ _ _ => rfl⟩⟩
    case round =>
      obtain ⟨j, hj, rfl, rfl, hown, hg⟩ := hrel
      by_cases hlt : j < L.length
      · have c2 : wr.cell? ⟨g, j, none⟩ = (ints (marked L k j))[j]? := hown.cellAt j (by omega)
        obtain ⟨x, hx⟩ : ∃ x, (ints (marked L k j))[j]? = some x := ⟨_, List.getElem?_eq_getElem (by rw [ints_length, marked_length _ _ _ hj]; exact hlt)⟩
        rw [hx] at c2
        have c3 : wr.frozen? ⟨g, j, none⟩ = false := hown.frozenAt j
        have hi' : (j : Int) < (L.length : Int) := by omega
        have O' := hide (own_stored L.length (marked_length L k j hj) (marked_length L k (j + 1) hlt) hown j _ (marked_set L k j hlt))
        have G' := hide (grown_trans' hg (grown_setCell wr g j (.int .i64 (k + (j : Int)))))
        clear hown hg hx O
        go_wp2
        go_roundw
        case rel => exact ⟨j + 1, by omega, by go_num, by go_num, unhide O', unhide G'⟩
        case measure => simp [intOf]; omega
      · have hi' : ¬ (j : Int) < (L.length : Int) := by omega
        have hkl : j = L.length := by omega
        rw [hkl, marked_all] at hown
        have O' := hide hown
        have G' := hide hg
        have HK := hide hkl
        clear hown hg hkl O
        go_wp2
        go_ret
        exact ⟨ret_int (by rw [unhide HK]), unhide O', unhide G'⟩

theorem heldIntS (v : Value) (n : Nat) (k : Int) (w : World) (hn : n ≤ 2097152) (k0 : 0 ≤ k) (k1 : k ≤ 1099511627776) (hv : Sl w v (marks k n)) :
    Calls Tryd.prog 106 #[v, .int .i64 k] w fun e w' => e = .returned (.int .i64 (k + (n : Int))) ∧ w' = w := by
  obtain ⟨a, cap, rfl, ha⟩ := hv
  rw [marks_length]
  have HA := hide ha
  clear ha
  go_enter Tryd.func106, Tryd.ntmps106
  go_wp2
  go_loop [1, 5] (fun q i => ∃ j : Nat, j ≤ n ∧ i = .int .i64 j ∧ q = .int .i64 (k + (j : Int))) (fun _ i => n - (intOf i).toNat)
  case atStart => exact ⟨0, Nat.zero_le _, rfl, by simp⟩
  case round =>
    obtain ⟨j, hj, rfl, rfl⟩ := hrel
    by_cases hlt : j < n
    · rcases unhide HA with h | ⟨b, off, rfl, hb, hcb⟩
      · have := marks_length k n
        rw [h] at this
        simp at this
        omega
      · have c1 : w.cell? ⟨b, off + j, none⟩ = some (.int .i64 (k + (j : Int))) := by
          have := hcb j (by rw [marks_length]; exact hlt)
          rw [marks_getD k n j hlt] at this
          exact this
        have hi' : (j : Int) < (n : Int) := by omega
        clear hcb HA
        go_wp2
        go_round
        case rel => exact ⟨j + 1, by omega, by go_num, by go_num⟩
        case measure => simp [intOf]; omega
    · have hi' : ¬ (j : Int) < (n : Int) := by omega
      have HK : Hid (j = n) := by show j = n; omega
      clear HA
      go_wp2
      go_ret
      exact ⟨ret_int (by rw [unhide HK]), rfl⟩

theorem specClauseHas (v : Value) (L : List Int) (x : Int) (w : World) (hL : L.length ≤ 2097152) (hv : Sl w v L) :
    Calls Tryd.prog 76 #[v, .int .i64 x] w fun e w' => e = .returned (.bool (hasB L x)) ∧ w' = w := by
  obtain ⟨a, cap, rfl, ha⟩ := hv
  have HA := hide ha
  clear ha
  go_enter Tryd.func76, Tryd.ntmps76
  go_wp2
  go_loop [5] (fun i => ∃ k : Nat, k ≤ L.length ∧ i = .int .i64 k ∧ Hid (¬ x ∈ L.take k)) (fun i => L.length - (intOf i).toNat)
  case atStart => exact ⟨0, Nat.zero_le _, rfl, by show ¬ _; simp⟩
  case round =>
    obtain ⟨k, hk, rfl, hall⟩ := hrel
    by_cases hlt : k < L.length
    · rcases unhide HA with h | ⟨b, off, rfl, hb, hcb⟩
      · rw [h] at hlt
        simp at hlt
      · have c1 := hcb k hlt
        have hi' : (k : Int) < (L.length : Int) := by omega
        have h1 := cls.has_hit L k x hlt
        have h2 := cls.has_step L k x hlt (unhide hall)
        generalize L.getD k 0 = y at *
        by_cases hx : y = x
        · have H := hide (h1 hx)
          have hb' : (y == x) = true := by simpa using hx
          clear h1 h2 hx hcb HA
          go_wp2
          go_ret
          exact ⟨ret_bool (unhide H).symm, rfl⟩
        · have H := hide (h2 hx)
          have hb' : (y == x) = false := by simpa using hx
          clear h1 h2 hx hcb HA
          go_wp2
          go_round
          case rel => exact ⟨k + 1, by omega, by go_num, H⟩
          case measure => simp [intOf]; omega
    · have hi' : ¬ (k : Int) < (L.length : Int) := by omega
      have HR := hide (cls.has_no L k x hlt (unhide hall))
      clear HA
      go_wp2
      go_ret
      exact ⟨ret_bool (unhide HR).symm, rfl⟩

end Go.Proofs.YtibpnocpafppaaaDoor.slw
