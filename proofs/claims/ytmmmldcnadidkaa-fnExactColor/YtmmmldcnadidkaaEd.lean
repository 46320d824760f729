/- How a list of pairs that came in is opened; no condition. -/
import Derived.Test.YtmmmldcnadidkaaEc
namespace Go.Proofs.Ytmmmldcnadidkaa.ed
open Go.ChangeShapes Go.WideShapes Go.ChangeAt Go.RowKit
set_option linter.unusedVariables false
/-- what the walk is told of a list that came in -/
def IsEds (w : World) (v : Value) (n : Nat) (f : Nat → Int) : Prop := Eds w v n f ∧ n ≤ 9223372036854775807 ∧ ∀ m, (Lit.int .i64 (f m)).wf = true
theorem cI : Try.prog.cellsOf 3 = 1 := by kernel_rfl
theorem cE : Try.prog.cellsOf 38 = 2 := by kernel_rfl
set_option maxRecDepth 100000 in
theorem open_e {H : Type} {enc : TypeId × Value → H} {w : World} {fuel : Nat} {cs : List Value} {x : DataW H × List MemPlace} (h : DataW.trod enc Try.prog w 0 (fun _ => true) true fuel 38 cs = some x) :
    ∃ a b : Int, cs = [.int .i64 a, .int .i64 b] ∧ (Lit.int .i64 a).wf = true ∧ (Lit.int .i64 b).wf = true := by
  obtain ⟨xs, m, rfl, rfl, hl, hx, hf⟩ := DataW.trod_array Try.underlying38 h
  rw [cE] at hl
  have one : ∀ i, i < 2 → ∃ n, cs[i]? = some (.int .i64 n) ∧ (Lit.int .i64 n).wf = true := by
    intro i hi
    have h0 := hf i hi
    rw [cI, Nat.mul_one, List.getElem?_eq_getElem (by omega)] at h0
    obtain ⟨n, e, _, hw⟩ := DataW.trod_int Try.underlying3 h0
    refine ⟨n, ?_, hw⟩
    have : ((cs.drop i).take 1)[0]? = some (.int .i64 n) := by rw [e]; rfl
    simpa using this
  clear hf h
  match cs, hl, one with
  | [y0, y1], _, one =>
    obtain ⟨n0, e0, w0⟩ := one 0 (by decide)
    obtain ⟨n1, e1, w1⟩ := one 1 (by decide)
    obtain rfl : y0 = .int .i64 n0 := Option.some.inj e0
    obtain rfl : y1 = .int .i64 n1 := Option.some.inj e1
    exact ⟨n0, n1, rfl, w0, w1⟩
set_option maxRecDepth 100000 in
theorem open_eds {H : Type} {enc : TypeId × Value → H} {w : World} {fuel : Nat} {cs : List Value} {x : DataW H × List MemPlace} (h : DataW.trod enc Try.prog w 0 (fun _ => true) true fuel 22 cs = some x) :
    ∃ v n f, cs = [v] ∧ IsEds w v n f := by
  rcases Go.Deep.open_slice Try.underlying22 h with ⟨rfl, _⟩ | ⟨a, len, cap, m, n, D, Pl, rfl, _, hl, hm, hmm, _, hr⟩
  · exact ⟨_, 0, fun _ => 0, rfl, ⟨none, 0, rfl, .inl rfl⟩, by simp, fun i => (by decide : (Lit.int .i64 0).wf = true)⟩
  · have hml : len ≤ m := by rw [hmm]; split <;> omega
    by_cases h0 : len = 0
    · subst h0
      exact ⟨_, 0, fun _ => 0, rfl, ⟨some a, cap, rfl, .inl rfl⟩, by simp, fun i => (by decide : (Lit.int .i64 0).wf = true)⟩
    have hsp : a.spot = none := by
      obtain ⟨cs', h1, h2⟩ := hr 0 (by omega)
      obtain ⟨p, q, rfl, _⟩ := open_e h2
      rw [cE] at h1
      obtain ⟨_, _, hc⟩ := World.cells?_some h1
      have c0 : w.cell? ((a.add (0 * 2)).add 0) = some (.int .i64 p) := hc 0 (by decide)
      simpa [Addr.add] using World.cell?_spot c0
    obtain ⟨b, off, spot⟩ := a
    obtain rfl : spot = none := hsp
    have each : ∀ r, r < len → ∃ k : Int × Int, (w.cell? ⟨b, off + r * 2, none⟩ = some (.int .i64 k.1) ∧ w.cell? ⟨b, off + r * 2 + 1, none⟩ = some (.int .i64 k.2)) ∧ b < w.heap.size ∧ (Lit.int .i64 k.1).wf = true ∧ (Lit.int .i64 k.2).wf = true := by
      intro r hrl
      obtain ⟨cs', h1, h2⟩ := hr r (by omega)
      obtain ⟨p, q, rfl, hp, hq⟩ := open_e h2
      rw [cE] at h1
      obtain ⟨_, _, hc⟩ := World.cells?_some h1
      have c0 := hc 0 (by decide)
      have c1 := hc 1 (by decide)
      rw [Addr.add_lit, Addr.add_lit] at c0 c1
      have c0' : w.cell? ⟨b, off + r * 2, none⟩ = some (.int .i64 p) := c0
      exact ⟨(p, q), ⟨c0', c1⟩, World.block_lt_of_cell? w _ c0', hp, hq⟩
    obtain ⟨g, hg⟩ := Go.Deep.choose_lt (α := Int × Int) each
    unfold maxLen at hm
    refine ⟨_, len, fun i => if i / 2 < len then (if i % 2 = 0 then (g (i / 2)).1 else (g (i / 2)).2) else 0, rfl, ⟨some ⟨b, off, none⟩, cap, rfl, ?_⟩, by omega, fun i => ?_⟩
    · refine .inr ⟨b, off, rfl, (hg 0 (by omega)).2.1, fun i hi => ?_⟩
      have hi' : i / 2 < len := by omega
      dsimp only
      rw [if_pos hi']
      have q := (hg (i / 2) hi').1
      rcases (show i % 2 = 0 ∨ i % 2 = 1 by omega) with e | e
      · rw [if_pos e]
        have e2 : off + i / 2 * 2 = off + i := by omega
        rw [← e2]
        exact q.1
      · rw [if_neg (by omega)]
        have e2 : off + i / 2 * 2 + 1 = off + i := by omega
        rw [← e2]
        exact q.2
    · dsimp only
      by_cases hi : i / 2 < len
      · rw [if_pos hi]
        have q := (hg (i / 2) hi).2.2
        by_cases e : i % 2 = 0
        · rw [if_pos e]; exact q.1
        · rw [if_neg e]; exact q.2
      · rw [if_neg hi]
        decide
end Go.Proofs.Ytmmmldcnadidkaa.ed
