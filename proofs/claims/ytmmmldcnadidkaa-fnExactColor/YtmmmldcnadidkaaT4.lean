/- Gates: what the builder's same and choice do, Same and IfGate of the program and of its model, at any numbers. -/
import Derived.Test.YtmmmldcnadidkaaT3
namespace Go.Proofs.Ytmmmldcnadidkaa.t2
open Go.ChangeShapes Go.WideShapes Go.ChangeAt Go.RowKit
open Go.Proofs.Ytmmmldcnadidkaa.lits (okB okB_iff)
open Go.Proofs.Ytmmmldcnadidkaa.sl (Sl Own ints hide unhide ret_int ret_bool grown_refl grown_trans grown_drewN)
open Go.Proofs.Ytmmmldcnadidkaa.css (Sls OwnS tot Apart own_ne own_ne' own_kind own_mono)
open Go.Proofs.Ytmmmldcnadidkaa.cf (Box)
set_option linter.unusedVariables false

/-- clauses added one behind the other -/
def addsR : Bool → List (List Int) → List (List Int) → Bool
  | r, _, [] => r
  | r, CC, C :: Cs => addsR (addR r CC) (addC r CC C) Cs
def addsC : Bool → List (List Int) → List (List Int) → List (List Int)
  | _, CC, [] => CC
  | r, CC, C :: Cs => addsC (addR r CC) (addC r CC C) Cs
theorem adds_yes (Cs : List (List Int)) : ∀ CC, addsR true CC Cs = true ∧ addsC true CC Cs = CC := by
  induction Cs with
  | nil => exact fun CC => ⟨rfl, rfl⟩
  | cons C Cs ih => exact fun CC => ih CC
theorem adds_no (Cs : List (List Int)) : ∀ CC, CC.length + Cs.length ≤ 120 → addsR false CC Cs = false ∧ addsC false CC Cs = CC ++ Cs := by
  induction Cs with
  | nil => exact fun CC _ => ⟨rfl, (List.append_nil _).symm⟩
  | cons C Cs ih =>
    intro CC h
    simp only [List.length_cons] at h
    have e : addR false CC = false := by simp [addR]; omega
    have e2 : addC false CC C = CC ++ [C] := by simp [addC, e]
    simp only [addsR, addsC, e, e2]
    have := ih (CC ++ [C]) (by simp; omega)
    rw [List.append_assoc] at this
    exact this
theorem addC_len (r : Bool) (CC : List (List Int)) (C : List Int) (h : CC.length ≤ 120) : (addC r CC C).length ≤ 120 := by
  unfold addC
  split
  · exact h
  · rename_i hn
    simp [addR] at hn
    simp
    omega
theorem own_litN (w : World) (n : Nat) (L : List Int) (xs : Array Value) (hx : xs.toList = ints L) (hn : L.length = n) (hl : n ≤ 1048576) : Own w.heap.size (w.heap.size + 1) (w.alloc (.cells xs 3)) (.slice (some ⟨w.heap.size, 0, none⟩) n n) L := by
  subst hn
  have h := World.ownsRow_lit (e := 3) (size := 1) w xs L.length (Nat.le_refl _) (by unfold maxLen; omega) (by rw [← Array.length_toList, hx, sl.ints_length, Nat.mul_one])
  rw [hx] at h
  exact ⟨h, fun k e => by cases e; exact Nat.lt_succ_self _⟩

theorem end0 {P : Program} {fn : Func} {R : Ending → World → Prop} {a : Act} {w : World} (h : fn.results = #[]) (hd : a.defers = []) (hr : R (.returned (.tuple #[])) w) : bodyPost P fn R .normal a w :=
  ⟨hd, _, by simp [results, h], hr⟩
def MetF (W0 : World) (p : Nat) (v : Value) (w : World) (r : Bool) (CC : List (List Int)) (e : Ending) (w' : World) : Prop :=
  e = .returned (.tuple #[]) ∧ ∃ v', Bld W0 w' p v' r CC ∧ Fr p v v' w w'
theorem MetF.met {W0 : World} {p : Nat} {v : Value} {w : World} {r : Bool} {CC : List (List Int)} {e : Ending} {w' : World} (h : MetF W0 p v w r CC e w') : MetE W0 p r CC e w' := by
  obtain ⟨h1, v', h2, _⟩ := h
  exact ⟨h1, v', h2⟩
theorem v_lt {W0 w : World} {p : Nat} {v : Value} {r : Bool} {CC : List (List Int)} (h : Bld W0 w p v r CC) : ∀ k, v.ownBlock = some k → k < w.heap.size := by
  obtain ⟨D, _, _, hb, _⟩ := h.o
  exact hb

/-- one of a list of one's own: where it lies -/
theorem own_cell {lo hi n : Nat} {w : World} {u : Value} {L : List Int} (h : Own lo hi w u L) (hn : L.length = n) (h0 : 0 < n) : ∃ b cap, u = .slice (some ⟨b, 0, none⟩) n cap ∧ ∀ k, k < n → w.cell? ⟨b, k, none⟩ = some (.int .i64 (L.getD k 0)) := by
  subst hn
  have hc := h.1
  obtain ⟨_, h2⟩ := h.1
  rcases h2 with ⟨_, h1⟩ | ⟨g, cap, cur, rfl, _⟩
  · omega
  · refine ⟨g, cap, rfl, fun k hk => ?_⟩
    rw [hc.cellAt k (by omega)]
    simp [ints, hk]
end Go.Proofs.Ytmmmldcnadidkaa.t2
