/- What the laws draw of assignments (values), and what stays while a cursor turns; whatever the bytes. -/
import Derived.Test.YtibpnocpafppaaaDoorDCl
namespace Go.Proofs.YtibpnocpafppaaaDoor.dva
open Go.ChangeShapes Go.WideShapes Go.ChangeAt Go.RowKit
open Go.Proofs.YtibpnocpafppaaaDoor.sl (Sl ints hide unhide grown_refl grown_trans grown_trans' of_below below_of grown_drewN)
open Go.Proofs.YtibpnocpafppaaaDoor.draw (Cur Bs I64 newCur grown_new)
open Go.Proofs.YtibpnocpafppaaaDoor.wo (Made)
set_option linter.unusedVariables false

set_option maxHeartbeats 400000 in
theorem at_ (a : Option Addr) (n cap : Nat) (i : Int) (w : World) (hn : n ≤ 1048576) (i0 : 0 ≤ i) (i1 : i ≤ 1000) (hB : Bs w a n) :
    Calls Tryd.prog 63 #[.slice a n cap, .int .i64 i] w fun e w' => ∃ x : Int, e = .returned (.int .i64 x) ∧ 0 ≤ x ∧ x ≤ 255 ∧ w' = w := by
  obtain ⟨k, rfl⟩ := Int.eq_ofNat_of_zero_le i0
  by_cases h : k < n
  · rcases hB with h0 | ⟨b, off, rfl, hb, hx⟩
    · omega
    · obtain ⟨x, hx1, c1⟩ := hx k h
      have hi : (k : Int) < (n : Int) := by omega
      clear hx
      go_enter Tryd.func63, Tryd.ntmps63
      go_wp2
      go_ret
      exact ⟨_, rfl, by omega, by omega, rfl⟩
  · have hi : decide ((k : Int) < (n : Int)) = false := decide_eq_false (by omega)
    clear hB
    go_enter Tryd.func63, Tryd.ntmps63
    go_wp2
    go_ret
    refine ⟨_, rfl, ?_, ?_, rfl⟩
    · omega
    · omega

set_option maxHeartbeats 800000 in
theorem values (a : Option Addr) (n cap : Nat) (m : Nat) (w : World) (hn : n ≤ 1048576) (hm : m ≤ 24) (hB : Bs w a n) :
    Calls Tryd.prog 18 #[.slice a n cap, .int .i64 (m : Int)] w fun e w' => ∃ v X, e = .returned v ∧ X.length = m ∧ (∀ x ∈ X, x = 0 ∨ x = 1) ∧ Made w w' v X := by
  have HB := hide hB
  clear hB
  have START := hide (app.made_nil w)
  go_enter Tryd.func18, Tryd.ntmps18
  go_wp2
  go_loopw [5, 6] (fun u i wr => ∃ (k : Nat) (X : List Int), k ≤ m ∧ X.length = k ∧ i = .int .i64 k ∧ Hid (∀ x ∈ X, x = 0 ∨ x = 1) ∧ Hid (Made w wr u X)) (fun _ i _ => m - (intOf i).toNat)
  case atStart => exact ⟨0, [], Nat.zero_le _, rfl, rfl, (fun x hx => by cases hx), START⟩
  case round =>
    obtain ⟨k, X, hk, hX, rfl, hb, hmd⟩ := hrel
    clear START
    by_cases hlt : k < m
    · have hi : (k : Int) < (m : Int) := by omega
      have C := hide (at_ a n cap ((k : Int) + 5) wr hn (by omega) (by omega) ((unhide HB).below (below_of (unhide hmd).2)))
      go_wp2_with fail
      refine (unhide C).mono ?_; rintro e w2 ⟨x, rfl, x0, x1, hw⟩
      have hw' := hw.symm
      clear hw
      subst hw'
      have hx2 : x.tmod 2 = x % 2 := Int.tmod_eq_emod_of_nonneg x0
      have B2 : Hid (∀ y ∈ X ++ [x % 2], y = 0 ∨ y = 1) := by
        intro y hy
        rw [List.mem_append, List.mem_singleton] at hy
        rcases hy with hy | rfl
        · exact unhide hb y hy
        · omega
      clear C hb
      generalize hz : x % 2 = z at *
      clear hz
      go_wp2_with (at_builtin; refine wo.append1 (unhide hmd).2 (unhide hmd).1 (by omega) rfl _ _ rfl rfl rfl ?_)
      intro v' w3 R
      have R3 := hide R
      clear R hmd
      go_wp2
      go_roundw
      case rel => exact ⟨k + 1, X ++ [z], by omega, by rw [List.length_append, hX]; rfl, by go_num, B2, R3⟩
      case measure => simp [intOf]; omega
    · have hi : ¬ (k : Int) < (m : Int) := by omega
      go_wp2
      go_ret
      exact ⟨_, rfl, X, by omega, unhide hb, unhide hmd⟩

theorem madeC_own {c : Nat} {w wr w1 : World} {lo : Nat} {v : Value} {L : List Int} (h : wr.ownsRow lo 3 1 v L.length (ints L)) (hc : c < lo) (g : wr.grownBy w1 (some c)) : w1.ownsRow lo 3 1 v L.length (ints L) := by
  refine h.kept g ?_
  cases e : v.ownBlock with
  | none => exact .inl rfl
  | some k => exact .inr (fun e' => by cases e'; have := (h.lt _ e).1; omega)

theorem cur_ty : (106 : Nat) ≠ 3 := by decide
theorem cur_ne {w : World} {c lo n : Nat} {v : Value} {xs : List Value} (h : w.ownsRow lo 3 1 v n xs) (hc : Cur w c) : v.ownBlock ≠ some c := by
  intro e
  obtain ⟨cs, fz, hk⟩ := css.own_kind h c e
  obtain ⟨_, _, _, _, _, _, _, hb, _⟩ := hc
  rw [hb] at hk
  simp only [Option.some.injEq, Obj.cells.injEq] at hk
  exact cur_ty hk.2.1
theorem row_turn {w w1 : World} {c lo : Nat} {v : Value} {L : List Int} (h : w.ownsRow lo 3 1 v L.length (ints L)) (hc : Cur w c) (g : w.grownBy w1 (some c)) : w1.ownsRow lo 3 1 v L.length (ints L) := by
  refine h.kept g ?_
  cases e : v.ownBlock with
  | none => exact .inl rfl
  | some k => exact .inr (fun e' => cur_ne h hc (e.trans e'))
theorem row_none {w w1 : World} {lo : Nat} {v : Value} {L : List Int} (h : w.ownsRow lo 3 1 v L.length (ints L)) (g : w.grownBy w1 none) : w1.ownsRow lo 3 1 v L.length (ints L) := by
  refine h.kept g ?_
  cases e : v.ownBlock with
  | none => exact .inl rfl
  | some k => exact .inr (fun e' => by cases e')
end Go.Proofs.YtibpnocpafppaaaDoor.dva
