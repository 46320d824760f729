/- How a cache, or what is known, that came in is opened (the numbers, the texts, the slices and what they lead to); no condition. -/
import Derived.Test.YtnlllcgcaddhmaaGreatDoorJUe
import Derived.OpenShut
import Derived.ShutString
import Derived.Deep.DeepCutAuto
import Derived.Deep.RegionWith
import Derived.Deep.Cut
import Derived.Deep.Slices
import Derived.ChangeSlices
namespace Go.Proofs.YtnlllcgcaddhmaaGreatDoor.ua
open Go.ChangeShapes Go.WideShapes Go.ChangeAt Go.RowKit
open sl (Sl)
set_option linter.unusedVariables false
theorem Kns.below {w w' : World} {v : Value} {KK : List Kn} (h : Kns w v KK) (b : Below w.heap.size w w') : Kns w' v KK := h.kept (sl.of_below b)
def IsKns (w : World) (v : Value) (KK : List Kn) : Prop := Kns w v KK ∧ KK.length ≤ 9223372036854775807 ∧ ∀ i, (KK.getD i kz).vals.length ≤ 9223372036854775807 ∧ (KK.getD i kz).dg.size ≤ 9223372036854775807
theorem cS : Tryz.prog.cellsOf 9 = 1 := by kernel_rfl
theorem cB : Tryz.prog.cellsOf 4 = 1 := by kernel_rfl
theorem cI : Tryz.prog.cellsOf 3 = 1 := by kernel_rfl
theorem cL : Tryz.prog.cellsOf 34 = 1 := by kernel_rfl
theorem cK : Tryz.prog.cellsOf 128 = 4 := by kernel_rfl
theorem cKs : Tryz.prog.cellsOf 45 = 1 := by kernel_rfl
theorem cC : Tryz.prog.cellsOf 47 = 2 := by kernel_rfl
theorem open_list {H : Type} {enc : TypeId × Value → H} {w : World} {fuel : Nat} {v : Value} {x : DataW H × List MemPlace} (h : DataW.trod enc Tryz.prog w 0 (fun _ => true) true fuel 34 [v] = some x) : ∃ L : List Int, Sl w v L ∧ L.length ≤ 9223372036854775807 := by
 rcases open_ints Tryz.underlying34 Tryz.underlying3 cI h with ⟨hcs, _⟩ | ⟨x, l, c, zs, hcs, _, hl, hm, hz, _, hcell, hwz⟩
 ·simp only [List.cons.injEq, and_true] at hcs
  subst hcs
  exact ⟨[], ⟨none, 0, rfl, .inl rfl⟩, by simp⟩
 ·simp only [List.cons.injEq, and_true] at hcs
  subst hcs
  obtain ⟨L, hL, hs, _⟩ := sl.of_row (w := w) (a := some x) (len := l) (cap := c) (zs := zs) (.inr ⟨x, rfl, hl, hm, by simpa using hz, hcell, hwz⟩)
  exact ⟨L, hs, by unfold maxLen at hm; omega⟩
set_option maxRecDepth 100000 in
theorem open_known {H : Type} {enc : TypeId × Value → H} {w : World} {fuel : Nat} {cs : List Value} {x : DataW H × List MemPlace} (h : DataW.trod enc Tryz.prog w 0 (fun _ => true) true fuel 128 cs = some x) :
  ∃ (u : Value) (k : Kn), cs = [.string k.dg, .bool k.sat, u, .int .i64 k.cost] ∧ Sl w u k.vals ∧ k.vals.length ≤ 9223372036854775807 ∧ k.dg.size ≤ 9223372036854775807 ∧ (Lit.int .i64 k.cost).wf = true := by
 obtain ⟨xs, k, rfl, rfl, hl, hx, hf⟩ := DataW.trod_struct Tryz.underlying128 h
 rw [cK] at hl
 match cs, hl with
 | [a, b, c, d], _ =>
  have h0 : DataW.trod enc Tryz.prog w 0 (fun _ => true) true k 9 ((([a, b, c, d] : List Value).drop 0).take (Tryz.prog.cellsOf 9)) = xs[0]? := hf 0 _ rfl
  have h1 : DataW.trod enc Tryz.prog w 0 (fun _ => true) true k 4 ((([a, b, c, d] : List Value).drop 1).take (Tryz.prog.cellsOf 4)) = xs[1]? := hf 1 _ rfl
  have h2 : DataW.trod enc Tryz.prog w 0 (fun _ => true) true k 34 ((([a, b, c, d] : List Value).drop 2).take (Tryz.prog.cellsOf 34)) = xs[2]? := hf 2 _ rfl
  have h3 : DataW.trod enc Tryz.prog w 0 (fun _ => true) true k 3 ((([a, b, c, d] : List Value).drop 3).take (Tryz.prog.cellsOf 3)) = xs[3]? := hf 3 _ rfl
  rw [cS] at h0
  rw [cB] at h1
  rw [cL] at h2
  rw [cI] at h3
  simp only [List.drop_zero, List.drop_succ_cons, List.take_succ_cons, List.take_zero] at h0 h1 h2 h3
  have hx' : xs.length = 4 := hx
  rw [List.getElem?_eq_getElem (by omega)] at h0 h1 h2 h3
  obtain ⟨s0, e0, _, b0⟩ := DataW.trod_string Tryz.underlying9 h0
  obtain ⟨s1, e1, _⟩ := DataW.trod_bool Tryz.underlying4 h1
  obtain ⟨L, hs, hL⟩ := open_list h2
  obtain ⟨n, e3, _, hw⟩ := DataW.trod_int Tryz.underlying3 h3
  simp only [List.cons.injEq, and_true] at e0 e1 e3
  subst e0 e1 e3
  exact ⟨c, ⟨s0, s1, L, n⟩, rfl, hs, hL, b0, hw⟩
set_option maxRecDepth 100000 in
theorem open_knowns {H : Type} {enc : TypeId × Value → H} {w : World} {fuel : Nat} {cs : List Value} {x : DataW H × List MemPlace} (h : DataW.trod enc Tryz.prog w 0 (fun _ => true) true fuel 45 cs = some x) :
  ∃ v KK, cs = [v] ∧ IsKns w v KK := by
 rcases Go.Deep.open_slice Tryz.underlying45 h with ⟨rfl, _⟩ | ⟨a, len, cap, m, n, D, Pl, rfl, _, hl, hm, hmm, _, hr⟩
 ·exact ⟨_, [], rfl, Kns.nil w none 0, by simp, fun i => ⟨Nat.zero_le _, Nat.zero_le _⟩⟩
 ·have hml : len ≤ m := by rw [hmm]; split <;> omega
  by_cases h0 : len = 0
  ·subst h0
   exact ⟨_, [], rfl, ⟨some a, cap, rfl, .inl rfl⟩, by simp, fun i => ⟨Nat.zero_le _, Nat.zero_le _⟩⟩
  have hsp : a.spot = none := by
   obtain ⟨cs', h1, h2⟩ := hr 0 (by omega)
   obtain ⟨u, k, rfl, hs, hL, hdg, _⟩ := open_known h2
   rw [cK] at h1
   obtain ⟨_, _, hc⟩ := World.cells?_some h1
   have c0 : w.cell? ((a.add (0 * 4)).add 0) = some (.string k.dg) := hc 0 (by decide)
   simpa [Addr.add] using World.cell?_spot c0
  obtain ⟨b, off, spot⟩ := a
  obtain rfl : spot = none := hsp
  have each : ∀ r, r < len → ∃ p : Value × Kn, At w b (off + r * 4) p.1 p.2 ∧ b < w.heap.size ∧ p.2.vals.length ≤ 9223372036854775807 ∧ p.2.dg.size ≤ 9223372036854775807 := by
   intro r hrl
   obtain ⟨cs', h1, h2⟩ := hr r (by omega)
   obtain ⟨u, k, rfl, hs, hL, hdg, _⟩ := open_known h2
   rw [cK] at h1
   obtain ⟨_, _, hc⟩ := World.cells?_some h1
   have c0 := hc 0 (by decide)
   have c1 := hc 1 (by decide)
   have c2 := hc 2 (by decide)
   have c3 := hc 3 (by decide)
   rw [Addr.add_lit, Addr.add_lit] at c0 c1 c2 c3
   have c0' : w.cell? ⟨b, off + r * 4, none⟩ = some (.string k.dg) := c0
   exact ⟨(u, k), ⟨c0', c1, c2, c3, hs⟩, World.block_lt_of_cell? w _ c0', hL, hdg⟩
  haveI : Inhabited (Value × Kn) := ⟨(.bool false, kz)⟩
  obtain ⟨f, hf⟩ := Go.Deep.choose_lt (α := Value × Kn) each
  have hg : ∀ i, i < len → ((List.range len).map fun i => (f i).2).getD i kz = (f i).2 := fun i hi => by simp [hi]
  unfold maxLen at hm
  refine ⟨_, (List.range len).map fun i => (f i).2, rfl, ⟨some ⟨b, off, none⟩, cap, by simp, ?_⟩, by simp; omega, fun i => ?_⟩
  ·refine .inr ⟨b, off, rfl, (hf 0 (by omega)).2.1, fun i hi => ?_⟩
   have hi' : i < len := by simpa using hi
   exact ⟨(f i).1, by rw [hg i hi']; exact (hf i hi').1⟩
  ·by_cases hi : i < len
   ·rw [hg i hi]
    exact (hf i hi).2.2
   ·have e : ((List.range len).map fun i => (f i).2).getD i kz = kz := by simp [hi]
    rw [e]
    exact ⟨Nat.zero_le _, Nat.zero_le _⟩
set_option maxRecDepth 100000 in
theorem open_cache {H : Type} {enc : TypeId × Value → H} {w : World} {fuel : Nat} {cs : List Value} {x : DataW H × List MemPlace} (h : DataW.trod enc Tryz.prog w 0 (fun _ => true) true fuel 47 cs = some x) :
  ∃ n v KK, cs = [.int .i64 n, v] ∧ (Lit.int .i64 n).wf = true ∧ IsKns w v KK := by
 obtain ⟨xs, m, rfl, rfl, hl, hx, hf⟩ := DataW.trod_struct Tryz.underlying47 h
 rw [cC] at hl
 match cs, hl with
 | [a, b], _ =>
  have h0 : DataW.trod enc Tryz.prog w 0 (fun _ => true) true m 3 ((([a, b] : List Value).drop 0).take (Tryz.prog.cellsOf 3)) = xs[0]? := hf 0 _ rfl
  have h1 : DataW.trod enc Tryz.prog w 0 (fun _ => true) true m 45 ((([a, b] : List Value).drop 1).take (Tryz.prog.cellsOf 45)) = xs[1]? := hf 1 _ rfl
  rw [cI] at h0
  rw [cKs] at h1
  simp only [List.drop_zero, List.drop_succ_cons, List.take_succ_cons, List.take_zero] at h0 h1
  have hx' : xs.length = 2 := hx
  rw [List.getElem?_eq_getElem (by omega)] at h0 h1
  obtain ⟨n, e, _, hw⟩ := DataW.trod_int Tryz.underlying3 h0
  obtain ⟨v, KK, e', hv⟩ := open_knowns h1
  simp only [List.cons.injEq, and_true] at e e'
  subst e e'
  exact ⟨n, _, KK, rfl, hw, hv⟩
end Go.Proofs.YtnlllcgcaddhmaaGreatDoor.ua
