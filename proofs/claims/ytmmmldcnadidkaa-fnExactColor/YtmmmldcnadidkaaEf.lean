/- Color: what it lays down, and edgesOf of the program; conditions: small numbers. -/
import Derived.Test.YtmmmldcnadidkaaTx
import Derived.Test.YtmmmldcnadidkaaEc
namespace Go.Proofs.Ytmmmldcnadidkaa.t2
open Go.ChangeShapes Go.WideShapes Go.ChangeAt Go.RowKit
open Go.Proofs.Ytmmmldcnadidkaa.lits (okB okB_iff)
open Go.Proofs.Ytmmmldcnadidkaa.sl (Sl Own ints hide unhide ret_int ret_bool grown_refl grown_trans grown_drewN)
open Go.Proofs.Ytmmmldcnadidkaa.css (Sls OwnS tot Apart own_ne own_ne' own_kind own_mono)
open Go.Proofs.Ytmmmldcnadidkaa.cf (Box)
open Go.Proofs.Ytmmmldcnadidkaa.wo (Made)
open Go.Proofs.Ytmmmldcnadidkaa.ed (Eds)
set_option linter.unusedVariables false

/-- a point has one colour just -/
def vertC (k i : Nat) : List (List Int) := leastC (rowL i k) 1 ++ mostC (rowL i k) 1
def vertsT (k i : Nat) : List (List Int) := (List.range i).flatMap (vertC k)
theorem vertsT_step (k i : Nat) : vertsT k (i + 1) = vertsT k i ++ vertC k i := by
  unfold vertsT
  rw [List.range_succ, List.flatMap_append]
  simp
/-- the ends of an edge have not the same colour -/
def edgeC (k : Nat) (a b : Int) (c : Nat) : List (List Int) := (List.range c).map fun (j : Nat) => [-((a - 1) * (k : Int) + ((j : Int) + 1)), -((b - 1) * (k : Int) + ((j : Int) + 1))]
theorem edgeC_step (k : Nat) (a b : Int) (c : Nat) : edgeC k a b (c + 1) = edgeC k a b c ++ [[-((a - 1) * (k : Int) + ((c : Int) + 1)), -((b - 1) * (k : Int) + ((c : Int) + 1))]] := by
  unfold edgeC
  rw [List.range_succ, List.map_append]
  rfl
theorem pair_most (x y : Int) : mostC [x, y] 1 = [[-x, -y]] := by
  rfl
def edgesT (k : Nat) (f : Nat → Int) (j : Nat) : List (List Int) := (List.range j).flatMap fun i => edgeC k (f (i * 2)) (f (i * 2 + 1)) k
theorem edgesT_step (k : Nat) (f : Nat → Int) (j : Nat) : edgesT k f (j + 1) = edgesT k f j ++ edgeC k (f (j * 2)) (f (j * 2 + 1)) k := by
  unfold edgesT
  rw [List.range_succ, List.flatMap_append]
  simp
def colC (n k E : Nat) (f : Nat → Int) : List (List Int) := vertsT k n ++ edgesT k f E
def edB (n : Nat) (a b : Int) : Bool := decide (1 ≤ a ∧ a ≤ (n : Int) ∧ 1 ≤ b ∧ b ≤ (n : Int) ∧ a ≠ b)
def edsB (n : Nat) (f : Nat → Int) (j : Nat) : Bool := (List.range j).all fun i => edB n (f (i * 2)) (f (i * 2 + 1))
theorem edsB_step (n : Nat) (f : Nat → Int) (j : Nat) : edsB n f (j + 1) = (edsB n f j && edB n (f (j * 2)) (f (j * 2 + 1))) := by
  unfold edsB
  rw [List.range_succ, List.all_append]
  simp
theorem edsB_no {n : Nat} {f : Nat → Int} {j E : Nat} (hj : j < E) (h : edB n (f (j * 2)) (f (j * 2 + 1)) = false) : edsB n f E = false := by
  unfold edsB
  rw [List.all_eq_false]
  exact ⟨j, List.mem_range.2 hj, by rw [h]; decide⟩
theorem edsB_at {n : Nat} {f : Nat → Int} {j E : Nat} (hj : j < E) (h : edsB n f E = true) : edB n (f (j * 2)) (f (j * 2 + 1)) = true := by
  unfold edsB at h
  rw [List.all_eq_true] at h
  exact h j (List.mem_range.2 hj)
set_option maxRecDepth 10000 in
set_option maxHeartbeats 4000000 in
theorem edgesOf (n E : Nat) (f : Nat → Int) (v : Value) (w : World) (hn : n ≤ 100) (hE : E ≤ 9223372036854775807) (hv : Eds w v E f) :
    Calls Try.prog 16 #[v, .int .i64 (n : Int)] w fun e w' => e = .returned (.bool (decide (E ≤ 120) && edsB n f E)) ∧ w.grownBy w' none := by
  obtain ⟨a, cap, rfl, ha⟩ := hv
  by_cases h120 : E ≤ 120
  · rw [decide_eq_true h120, Bool.true_and]
    have h120' : ¬ 120 < (E : Int) := by omega
    have HA := hide ha
    clear ha hE
    go_enter Try.func16, Try.ntmps16
    go_wp2_with fail
    go_loopw [12] (fun i wr => ∃ k : Nat, k ≤ E ∧ i = .int .i64 k ∧ Hid (w.grownBy wr none) ∧ Hid (edsB n f k = true)) (fun i _ => E - (intOf i).toNat)
    case atStart => exact ⟨0, Nat.zero_le _, rfl, grown_refl _, rfl⟩
    case round =>
      obtain ⟨k, hk, rfl, hg, he⟩ := hrel
      by_cases hlt : k < E
      · have hi' : (k : Int) < (E : Int) := by omega
        rcases unhide HA with h | ⟨b, off, rfl, hb, hcb⟩
        · omega
        · have c0 := (unhide hg).cell (hcb (k * 2) (by omega)) (fun e => by cases e)
          have c1 : wr.cell? ⟨b, off + k * 2 + 1, none⟩ = some (.int .i64 (f (k * 2 + 1))) := (unhide hg).cell (hcb (k * 2 + 1) (by omega)) (fun e => by cases e)
          have st := edsB_step n f k
          rw [unhide he, Bool.true_and] at st
          have ST := hide st
          have NO := hide (fun h => edsB_no (n := n) (f := f) hlt h)
          clear hcb HA st he
          generalize f (k * 2) = x at *
          generalize f (k * 2 + 1) = y at *
          have G := hide (grown_trans (r := none) (unhide hg) (World.grownBy_alloc wr (.cells #[.int .i64 x, .int .i64 y] 38) none))
          by_cases e1 : edB n x y = true
          · have ST2 : Hid (edsB n f (k + 1) = true) := by show _ = _; rw [unhide ST, e1]
            unfold edB at e1
            obtain ⟨p1, p2, p3, p4, p5⟩ := of_decide_eq_true e1
            clear NO e1 ST hg
            have q1 : ¬ x < 1 := by omega
            have q2 : ¬ y < 1 := by omega
            have q3 : ¬ (n : Int) < x := by omega
            have q4 : ¬ (n : Int) < y := by omega
            have q5 : (x == y) = false := by simp [p5]
            go_wp2_with fail
            all_goals
              go_roundw
              case rel => exact ⟨k + 1, by omega, by go_num, G, ST2⟩
              case measure => simp [intOf]; omega
          · have e2 : edB n x y = false := by cases h : edB n x y; rfl; exact absurd h e1
            have R := hide (unhide NO e2)
            have cs : x < 1 ∨ (¬ x < 1 ∧ y < 1) ∨ (¬ x < 1 ∧ ¬ y < 1 ∧ (n : Int) < x) ∨ (¬ x < 1 ∧ ¬ y < 1 ∧ ¬ (n : Int) < x ∧ (n : Int) < y) ∨ (¬ x < 1 ∧ ¬ y < 1 ∧ ¬ (n : Int) < x ∧ ¬ (n : Int) < y ∧ x = y) := by
              unfold edB at e2
              have := of_decide_eq_false e2
              omega
            clear NO e1 e2 ST hg
            rcases cs with h1 | ⟨h1, h2⟩ | ⟨h1, h2, h3⟩ | ⟨h1, h2, h3, h4⟩ | ⟨h1, h2, h3, h4, rfl⟩
            all_goals
              go_wp2_with fail
              all_goals
                go_ret
                exact ⟨ret_bool (unhide R).symm, unhide G⟩
      · have hi' : ¬ (k : Int) < (E : Int) := by omega
        have e : k = E := by omega
        subst e
        clear HA
        go_wp2_with fail
        go_ret
        exact ⟨ret_bool (unhide he).symm, unhide hg⟩
  · rw [decide_eq_false h120, Bool.false_and]
    have h120' : 120 < (E : Int) := by omega
    clear ha
    go_enter Try.func16, Try.ntmps16
    go_wp2_with fail
    go_ret
    exact ⟨rfl, grown_refl _⟩
end Go.Proofs.Ytmmmldcnadidkaa.t2
