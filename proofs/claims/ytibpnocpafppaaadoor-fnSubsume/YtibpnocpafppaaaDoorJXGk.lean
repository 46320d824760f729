/- Part of the program: what it answers at every formula of the call's own that holds at most 2^20 values, and every list of at most 2^20 numbers. -/
import Derived.Test.YtibpnocpafppaaaDoorJXGj
import Derived.Test.YtibpnocpafppaaaDoorJXGb
import Derived.Test.YtibpnocpafppaaaDoorJSc
namespace Go.Proofs.YtibpnocpafppaaaDoor.gj
open Go.ChangeShapes Go.WideShapes Go.ChangeAt Go.RowKit
open sl (Sl Own ints hide unhide ret_int ret_bool grown_refl grown_trans grown_drewN below_of of_below)
open css (Sls OwnS Outs tot own_mono)
open cf (Box)
open ok (cnfB)
open lits (okB varI)
open cls (hasB)
open bset (setOf placeN)
open srt (oppN andN swp)
open gb (Rd Kpt flt KeptE)
open ge (outN outR OutE ini_all out_no OwnD)
set_option linter.unusedVariables false
theorem kpt_own {lo hi : Nat} {w w' : World} {v u : Value} {D : List (Value × List Int)} {B : List Int → Bool} (ho : OwnD lo hi w v D) (hlo : lo ≤ w.heap.size) (hhi : hi ≤ w.heap.size) (hk : Kpt w w' u (flt B D)) : OwnS lo w'.heap.size w' u ((D.map (·.2)).filter B) := by
 obtain ⟨h1, h2, h3, h4⟩ := ho
 obtain ⟨k1, k2⟩ := hk
 have hs := k2.size
 refine ⟨flt B D, gb.flt_map B D, own_mono k1 hlo, fun k e => (k1.lt k e).2, fun p hp => ?_, ?_⟩
 ·have hp' : p ∈ D := by
   unfold gb.flt at hp
   exact (List.mem_filter.1 hp).1
  exact ⟨((h3 p hp').kept k2).1, fun k e => by have := (h3 p hp').2 k e; omega⟩
 ·unfold gb.flt
  exact h4.sublist List.filter_sublist
theorem rd_own {lo hi : Nat} {w : World} {v : Value} {D : List (Value × List Int)} (ho : OwnD lo hi w v D) : Rd w v D := Rd.own (hi := hi) ho.1 (fun p hp => (ho.2.2.1 p hp).sl)
def KeptO (lo : Nat) (RR : List (List Int)) (w : World) (e : Ending) (w' : World) : Prop := ∃ u, e = .returned u ∧ OwnS lo w'.heap.size w' u RR ∧ w.grownBy w' none
theorem len_in {D : List (Value × List Int)} {n : Nat} (hn : tot (D.map (·.2)) ≤ n) {p : Value × List Int} (hp : p ∈ D) : p.2.length ≤ n := by
 obtain ⟨i, hi, e⟩ := List.getElem_of_mem hp
 have h := Nat.le_trans (css.tot_in (D.map (·.2)) i) hn
 rw [css.map2_getD hi, e] at h
 exact h
end Go.Proofs.YtibpnocpafppaaaDoor.gj
