/- Same and IfGate: what the program and its model answer at any numbers. -/
import Derived.Test.YtmmmldcnadidkaaT4
namespace Go.Proofs.Ytmmmldcnadidkaa.t2
open Go.ChangeShapes Go.WideShapes Go.ChangeAt Go.RowKit
open Go.Proofs.Ytmmmldcnadidkaa.lits (okB okB_iff)
open Go.Proofs.Ytmmmldcnadidkaa.sl (Sl Own ints hide unhide ret_int ret_bool grown_refl grown_trans grown_drewN)
open Go.Proofs.Ytmmmldcnadidkaa.css (Sls OwnS tot Apart own_ne own_ne' own_kind own_mono)
open Go.Proofs.Ytmmmldcnadidkaa.cf (Box)
set_option linter.unusedVariables false

/-- a list of lists, laid at once -/
theorem ownS_lit {lo n : Nat} {w : World} (D : List (Value × List Int)) (hin : ∀ p ∈ D, Own lo w.heap.size w p.1 p.2) (hp : D.Pairwise Apart) (hlo : lo ≤ w.heap.size) (xs : Array Value) (hx : xs.toList = D.map (·.1)) (hn : D.length = n) (hl : n ≤ 1048576) :
    OwnS lo (w.heap.size + 1) (w.alloc (.cells xs 35)) (.slice (some ⟨w.heap.size, 0, none⟩) n n) (D.map (·.2)) := by
  subst hn
  have h := World.ownsRow_lit (e := 35) (size := 1) w xs D.length hlo (by unfold maxLen; omega) (by rw [← Array.length_toList, hx, List.length_map, Nat.mul_one])
  rw [hx] at h
  exact ⟨D, rfl, h, (fun k e => by cases e; exact Nat.lt_succ_self _), fun p hp' => css.own_sub ((hin p hp').kept (World.grownBy_alloc ..)) (Nat.le_refl _) (Nat.le_succ _), hp⟩
theorem ans_no0 (w : World) (CC : List (List Int)) : AnsE w false CC (.returned (.tuple #[.slice (some ⟨w.heap.size, 0, none⟩) 0 0, .bool false])) (w.alloc (.cells #[] 35)) := ans_no (grown_refl w)
theorem ok_bd {x : Int} (h : okB x = true) : -24 ≤ x ∧ x ≤ 24 := by
  have := okB_iff.1 h
  omega
theorem AnsE.eq {W0 : World} {b b' : Bool} {CC CC' : List (List Int)} {e : Ending} {w' : World} (h : AnsE W0 b CC e w') (hb : b = b') (hc : b = true → CC = CC') : AnsE W0 b' CC' e w' := by
  subst hb
  obtain ⟨q, h1, h2, h3⟩ := h
  refine ⟨q, h1, ?_, h3⟩
  cases b
  · exact h2
  · rw [hc rfl] at h2
    exact h2

theorem apart_of {i j n m : Nat} {L M : List Int} {a b : Nat} (h : i ≠ j) : Apart (.slice (some ⟨i, 0, none⟩) n a, L) (.slice (some ⟨j, 0, none⟩) m b, M) := by
  intro g e e'
  cases e
  cases e'
  exact h rfl
def sameC (x y : Int) : List (List Int) := [[-x, y], [x, -y]]
def ifC (x a b c : Int) : List (List Int) := [[-a, -b, x], [-a, b, -x], [a, -c, x], [a, c, -x]]
end Go.Proofs.Ytmmmldcnadidkaa.t2
