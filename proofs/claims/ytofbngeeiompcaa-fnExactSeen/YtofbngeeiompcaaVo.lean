/- How a list of ops, and a list of texts, that came in is opened; no condition. -/
import Derived.Test.YtofbngeeiompcaaVa
import Derived.OpenShut
import Derived.ShutString
import Derived.Deep.DeepCutAuto
import Derived.Deep.RegionWith
import Derived.Deep.Cut
import Derived.Deep.Slices
import Derived.ChangeSlices
namespace Go.Proofs.Ytofbngeeiompcaa.va
open Go.ChangeShapes Go.WideShapes Go.ChangeAt Go.RowKit
set_option linter.unusedVariables false
/-- what the walk is told of a list that came in -/
def IsOps (w : World) (v : Value) (OO : List Op) : Prop := Ops w v OO ∧ OO.length ≤ 9223372036854775807 ∧ ∀ i, (OO.getD i oz).text.size ≤ 9223372036854775807
theorem cS : Try.prog.cellsOf 9 = 1 := by kernel_rfl
theorem cI : Try.prog.cellsOf 3 = 1 := by kernel_rfl
theorem cO : Try.prog.cellsOf 38 = 4 := by kernel_rfl
set_option maxRecDepth 100000 in
theorem open_op {H : Type} {enc : TypeId × Value → H} {w : World} {fuel : Nat} {cs : List Value} {x : DataW H × List MemPlace} (h : DataW.trod enc Try.prog w 0 (fun _ => true) true fuel 38 cs = some x) :
    ∃ k : Op, cs = [.int .i64 k.kind, .int .i64 k.who, .int .i64 k.num, .string k.text] ∧ k.text.size ≤ 9223372036854775807 ∧ (Lit.int .i64 k.kind).wf = true ∧ (Lit.int .i64 k.who).wf = true ∧ (Lit.int .i64 k.num).wf = true := by
  obtain ⟨xs, k, rfl, rfl, hl, hx, hf⟩ := DataW.trod_struct Try.underlying38 h
  rw [cO] at hl
  match cs, hl with
  | [a, b, c, d], _ =>
    have h0 : DataW.trod enc Try.prog w 0 (fun _ => true) true k 3 ((([a, b, c, d] : List Value).drop 0).take (Try.prog.cellsOf 3)) = xs[0]? := hf 0 _ rfl
    have h1 : DataW.trod enc Try.prog w 0 (fun _ => true) true k 3 ((([a, b, c, d] : List Value).drop 1).take (Try.prog.cellsOf 3)) = xs[1]? := hf 1 _ rfl
    have h2 : DataW.trod enc Try.prog w 0 (fun _ => true) true k 3 ((([a, b, c, d] : List Value).drop 2).take (Try.prog.cellsOf 3)) = xs[2]? := hf 2 _ rfl
    have h3 : DataW.trod enc Try.prog w 0 (fun _ => true) true k 9 ((([a, b, c, d] : List Value).drop 3).take (Try.prog.cellsOf 9)) = xs[3]? := hf 3 _ rfl
    rw [cI] at h0 h1 h2
    rw [cS] at h3
    simp only [List.drop_zero, List.drop_succ_cons, List.take_succ_cons, List.take_zero] at h0 h1 h2 h3
    have hx' : xs.length = 4 := hx
    rw [List.getElem?_eq_getElem (by omega)] at h0 h1 h2 h3
    obtain ⟨n0, e0, _, w0⟩ := DataW.trod_int Try.underlying3 h0
    obtain ⟨n1, e1, _, w1⟩ := DataW.trod_int Try.underlying3 h1
    obtain ⟨n2, e2, _, w2⟩ := DataW.trod_int Try.underlying3 h2
    obtain ⟨s3, e3, _, b3⟩ := DataW.trod_string Try.underlying9 h3
    simp only [List.cons.injEq, and_true] at e0 e1 e2 e3
    subst e0 e1 e2 e3
    exact ⟨⟨n0, n1, n2, s3⟩, rfl, b3, w0, w1, w2⟩
set_option maxRecDepth 100000 in
theorem open_ops {H : Type} {enc : TypeId × Value → H} {w : World} {fuel : Nat} {cs : List Value} {x : DataW H × List MemPlace} (h : DataW.trod enc Try.prog w 0 (fun _ => true) true fuel 22 cs = some x) :
    ∃ v OO, cs = [v] ∧ IsOps w v OO := by
  rcases Go.Deep.open_slice Try.underlying22 h with ⟨rfl, _⟩ | ⟨a, len, cap, m, n, D, Pl, rfl, _, hl, hm, hmm, _, hr⟩
  · exact ⟨_, [], rfl, Ops.nil w none 0, by simp, fun i => Nat.zero_le _⟩
  · have hml : len ≤ m := by rw [hmm]; split <;> omega
    by_cases h0 : len = 0
    · subst h0
      exact ⟨_, [], rfl, ⟨some a, cap, rfl, .inl rfl⟩, by simp, fun i => Nat.zero_le _⟩
    have hsp : a.spot = none := by
      obtain ⟨cs', h1, h2⟩ := hr 0 (by omega)
      obtain ⟨k, rfl, _⟩ := open_op h2
      rw [cO] at h1
      obtain ⟨_, _, hc⟩ := World.cells?_some h1
      have c0 : w.cell? ((a.add (0 * 4)).add 0) = some (.int .i64 k.kind) := hc 0 (by decide)
      simpa [Addr.add] using World.cell?_spot c0
    obtain ⟨b, off, spot⟩ := a
    obtain rfl : spot = none := hsp
    have each : ∀ r, r < len → ∃ k : Op, At w b (off + r * 4) k ∧ b < w.heap.size ∧ k.text.size ≤ 9223372036854775807 := by
      intro r hrl
      obtain ⟨cs', h1, h2⟩ := hr r (by omega)
      obtain ⟨k, rfl, hdg, _⟩ := open_op h2
      rw [cO] at h1
      obtain ⟨_, _, hc⟩ := World.cells?_some h1
      have c0 := hc 0 (by decide)
      have c1 := hc 1 (by decide)
      have c2 := hc 2 (by decide)
      have c3 := hc 3 (by decide)
      rw [Addr.add_lit, Addr.add_lit] at c0 c1 c2 c3
      have c0' : w.cell? ⟨b, off + r * 4, none⟩ = some (.int .i64 k.kind) := c0
      exact ⟨k, ⟨c0', c1, c2, c3⟩, World.block_lt_of_cell? w _ c0', hdg⟩
    haveI : Inhabited Op := ⟨oz⟩
    obtain ⟨f, hf⟩ := Go.Deep.choose_lt (α := Op) each
    have hg : ∀ i, i < len → ((List.range len).map f).getD i oz = f i := fun i hi => by simp [hi]
    unfold maxLen at hm
    refine ⟨_, (List.range len).map f, rfl, ⟨some ⟨b, off, none⟩, cap, by simp, ?_⟩, by simp; omega, fun i => ?_⟩
    · refine .inr ⟨b, off, rfl, (hf 0 (by omega)).2.1, fun i hi => ?_⟩
      have hi' : i < len := by simpa using hi
      rw [hg i hi']
      exact (hf i hi').1
    · by_cases hi : i < len
      · rw [hg i hi]
        exact (hf i hi).2.2
      · have e : ((List.range len).map f).getD i oz = oz := by simp [hi]
        rw [e]
        exact Nat.zero_le _
end Go.Proofs.Ytofbngeeiompcaa.va
