/- How a machine that came in is opened (the numbers, the slices and what they lead to); no condition. -/
import Derived.Test.YtlpgnaedhijdpaaDoorRow
import Derived.Test.YtlpgnaedhijdpaaDoorQa
import Derived.Deep.RegionHeld3
namespace Go.Proofs.YtlpgnaedhijdpaaDoor.row
open Go.ChangeShapes Go.WideShapes Go.ChangeAt Go.RowKit
open Go.Proofs.YtlpgnaedhijdpaaDoor.sl (Sl)
open Go.Proofs.YtlpgnaedhijdpaaDoor.css (Sls)
set_option linter.unusedVariables false
theorem cellsM : Tryd.prog.cellsOf 52 = 5 := by kernel_rfl
theorem open_list {H : Type} {enc : TypeId × Value → H} {w : World} {fuel : Nat} {cs : List Value} {x : DataW H × List MemPlace} (h : DataW.trod enc Tryd.prog w 0 (fun _ => true) true fuel 24 cs = some x) :
    ∃ v L, cs = [v] ∧ Sl w v L ∧ L.length ≤ 9223372036854775807 := by
  rcases open_ints Tryd.underlying24 Tryd.underlying3 cellsI h with ⟨hcs, _⟩ | ⟨a, l, c, zs, hcs, _, hl, hm, hz, _, hcell, hwz⟩
  · exact ⟨_, [], hcs, ⟨none, 0, rfl, .inl rfl⟩, by simp⟩
  · obtain ⟨M, hM, hs, _⟩ := sl.of_row (w := w) (a := some a) (len := l) (cap := c) (zs := zs) (.inr ⟨a, rfl, hl, hm, by simpa using hz, hcell, hwz⟩)
    unfold maxLen at hm
    exact ⟨_, M, hcs, by rw [← hM] at hs; exact hM ▸ hs, by omega⟩
set_option maxRecDepth 100000 in
theorem open_mach {H : Type} {enc : TypeId × Value → H} {w : World} {fuel : Nat} {cs : List Value} {x : DataW H × List MemPlace} (h : DataW.trod enc Tryd.prog w 0 (fun _ => true) true fuel 52 cs = some x) :
    ∃ n v LL q P st k, cs = [.int .i64 n, v, q, .int .i64 st, .int .i64 k] ∧ IsRows w v LL ∧ Sl w q P ∧ P.length ≤ 9223372036854775807 := by
  obtain ⟨xs, m, rfl, rfl, hl, hx, hf⟩ := DataW.trod_struct Tryd.underlying52 h
  rw [cellsM] at hl
  match cs, hl with
  | [a, b, c, d, e], _ =>
    have h0 : DataW.trod enc Tryd.prog w 0 (fun _ => true) true m 50 ((([a, b, c, d, e] : List Value).drop 0).take (Tryd.prog.cellsOf 50)) = xs[0]? := hf 0 _ rfl
    have h1 : DataW.trod enc Tryd.prog w 0 (fun _ => true) true m 24 ((([a, b, c, d, e] : List Value).drop 2).take (Tryd.prog.cellsOf 24)) = xs[1]? := hf 1 _ rfl
    have h2 : DataW.trod enc Tryd.prog w 0 (fun _ => true) true m 3 ((([a, b, c, d, e] : List Value).drop 3).take (Tryd.prog.cellsOf 3)) = xs[2]? := hf 2 _ rfl
    have h3 : DataW.trod enc Tryd.prog w 0 (fun _ => true) true m 3 ((([a, b, c, d, e] : List Value).drop 4).take (Tryd.prog.cellsOf 3)) = xs[3]? := hf 3 _ rfl
    rw [cellsC] at h0
    rw [cellsSl] at h1
    rw [cellsI] at h2 h3
    simp only [List.drop_zero, List.drop_succ_cons, List.take_succ_cons, List.take_zero] at h0 h1 h2 h3
    have hx' : xs.length = 4 := hx
    rw [List.getElem?_eq_getElem (by omega)] at h0 h1 h2 h3
    obtain ⟨n, v, LL, e0, _, hv⟩ := open_cnf h0
    obtain ⟨q, P, e1, hp, hpl⟩ := open_list h1
    obtain ⟨st, e2, _, _⟩ := DataW.trod_int Tryd.underlying3 h2
    obtain ⟨k, e3, _, _⟩ := DataW.trod_int Tryd.underlying3 h3
    simp only [List.cons.injEq, and_true] at e0 e1 e2 e3
    obtain ⟨rfl, rfl⟩ := e0
    subst e1 e2 e3
    exact ⟨n, _, LL, _, P, st, k, rfl, hv, hp, hpl⟩
end Go.Proofs.YtlpgnaedhijdpaaDoor.row
