/- What Occurs and Horn (of the program and of its model) answer at every formula that holds at most 2^20 values; no other condition. -/
import Derived.Test.YtibpnocpafppaaaDoorJXGb
import Derived.Test.YtibpnocpafppaaaDoorJXOk
import Derived.Test.YtibpnocpafppaaaDoorJHc
import Derived.Deep.RegionHeld3
namespace Go.Proofs.YtibpnocpafppaaaDoor.gc
open Go.ChangeShapes Go.WideShapes Go.ChangeAt Go.RowKit
open sl (Sl Own ints hide unhide ret_int ret_bool grown_refl grown_trans grown_drewN)
open css (Sls OwnS tot)
open cf (Box)
open ok (cnfB all_hit all_step all_end)
open cls (hasB)
open wo (Made)
open gb (Rd Kpt flt KeptE)
set_option linter.unusedVariables false
def occN (x : Int) (LL : List (List Int)) : Nat := (LL.filter (hasB · x)).length
theorem occ_le (x : Int) (LL : List (List Int)) : occN x LL ≤ LL.length := List.length_filter_le _ _
def occI (n x : Int) (LL : List (List Int)) : Int := if cnfB n LL then (occN x LL : Int) else 0
theorem having1 (v : Value) (L : List Int) (x : Int) (c : Nat) (w : World) (hL : L.length ≤ 1048576) (hv : Sl w v L) (hc : w.cell? ⟨c, 0, none⟩ = some (.int .i64 x)) :
  Calls Tryd.prog 125 #[v, .pointer (some ⟨c, 0, none⟩)] w fun e w' => e = .returned (.bool (hasB L x)) ∧ w' = w := by
 have C := hide (cls.implClauseHas v L x w hL hv)
 obtain ⟨a, cap, rfl, _⟩ := hv
 go_enter Tryd.func125, Tryd.ntmps125
 go_wp2_with fail
 refine (unhide C).mono ?_; rintro e w2 ⟨rfl, hw⟩; have hw' := hw.symm; clear hw; subst hw'
 go_wp2_with fail
 go_ret
 exact ⟨rfl, rfl⟩
theorem having (x : Int) (w : World) : Calls Tryd.prog 73 #[.int .i64 x] w fun e w' => e = .returned (.func (.func 125) #[] #[.pointer (some ⟨w.heap.size, 0, none⟩)]) ∧ w' = w.alloc (.cells #[.int .i64 x] 3) := by
 go_enter Tryd.func73, Tryd.ntmps73
 go_wp2_with fail
 go_ret
 exact ⟨rfl, rfl⟩
theorem cell_new (w : World) (x : Value) (t : TypeId) : (w.alloc (.cells #[x] t)).cell? ⟨w.heap.size, 0, none⟩ = some x := by
 have h : (w.alloc (.cells #[x] t)).heap[w.heap.size]? = some (.cells #[x] t) := by show (w.heap.push _)[w.heap.size]? = _; simp
 unfold World.cell?
 rw [h]
 rfl
theorem keptHaving (v : Value) (x : Int) (LL : List (List Int)) (c : Nat) (w : World) (hn : tot LL ≤ 1048576) (hv : Sls w v LL) (hc : w.cell? ⟨c, 0, none⟩ = some (.int .i64 x)) :
  Calls Tryd.prog 51 #[v, .func (.func 125) #[] #[.pointer (some ⟨c, 0, none⟩)]] w fun e w' => ∃ a cap, e = .returned (.slice a (occN x LL) cap) ∧ w.grownBy w' none := by
 obtain ⟨D, rfl, hr⟩ := Rd.of hv
 have hl := Nat.le_trans (css.tot_len _) hn
 rw [List.length_map] at hl
 refine (gb.kept_having v _ D (hasB · x) w hl hr ?_).mono ?_
 ·intro p hp w1 g1
  obtain ⟨i, hi, e⟩ := List.getElem_of_mem hp
  have hL : p.2.length ≤ 1048576 := by
   have h := Nat.le_trans (css.tot_in (D.map (·.2)) i) hn
   rw [css.map2_getD hi, e] at h
   exact h
  obtain ⟨a, cap, e, _, hs⟩ := hr
  exact (having1 p.1 p.2 x c w1 hL ((hs p hp).kept g1 (.inl rfl)) (g1.cell hc (fun e => by cases e))).mono (fun e w' h => ⟨h.1, by rw [h.2]; exact grown_refl _⟩)
 ·rintro e w' ⟨u, rfl, hk⟩
  obtain ⟨a, cap, rfl⟩ := hk.len
  refine ⟨a, cap, ?_, hk.2⟩
  have : (flt (hasB · x) D).length = occN x (D.map (·.2)) := by
   unfold occN
   rw [← gb.flt_map, List.length_map]
  rw [this]
theorem implOccurs (v : Value) (n x : Int) (LL : List (List Int)) (w : World) (hn : tot LL ≤ 1048576) (hv : Sls w v LL) :
  Calls Tryd.prog 39 #[.agg #[.int .i64 n, v], .int .i64 x] w fun e w' => e = .returned (.int .i64 (occI n x LL)) ∧ w.grownBy w' none := by
 have hv0 := hv
 obtain ⟨a, cap, rfl, _⟩ := hv
 have g0 := World.grownBy_alloc w (.cells #[.int .i64 n, .slice a LL.length cap] 26) none
 have C := hide (ok.implCnfOk _ n LL _ hn (hv0.kept g0))
 have hl := Nat.le_trans (css.tot_len LL) hn
 have hol := Nat.le_trans (occ_le x LL) hl
 have G0 := hide g0
 have bx := hide (cf.Box.new 26 w (.int .i64 n) (.slice a LL.length cap))
 have HV := hide hv0
 clear g0 hv0
 go_enter Tryd.func39, Tryd.ntmps39
 go_wp2_with fail
 refine (unhide C).mono ?_; rintro e w1 ⟨rfl, g1⟩
 have G1 := hide (grown_trans (r := none) (unhide G0) g1)
 have bx1 := (unhide bx).kept g1
 have x0 := bx1.c0
 have x1 := bx1.c1
 have BX := hide bx1
 clear C g1 bx bx1
 cases hb : cnfB n LL
 ·have E := hide (show occI n x LL = 0 by simp [occI, hb])
  clear hb
  go_wp2_with fail
  go_ret
  exact ⟨ret_int (unhide E).symm, unhide G1⟩
 ·have E := hide (show occI n x LL = (occN x LL : Int) by simp [occI, hb])
  have HK := hide (fun (w2 : World) (c : Nat) (g : w1.grownBy w2 none) (hc : w2.cell? ⟨c, 0, none⟩ = some (.int .i64 x)) => keptHaving _ x LL c w2 hn (((unhide HV).kept (unhide G1)).kept g) hc)
  clear hb HV G0
  generalize occN x LL = o at *
  go_wp2_with fail
  go_region_held3 (fun w' => w'.cell? ⟨w.heap.size, 1, none⟩ = some (.slice a LL.length cap)) (go_keep) (first
   | (go_at_call 73; refine (having x _).mono ?_; rintro e w2 ⟨rfl, hw⟩; have GW : Hid (w1.grownBy w2 none) := (by rw [hw]; exact grown_trans (r := none) (cf.grown_drew w1 none) (World.grownBy_alloc _ _ _)); have HC : Hid (w2.cell? ⟨w1.heap.size, 0, none⟩ = some (.int .i64 x)) := (by rw [hw]; exact cell_new _ _ _); have y1 := ((unhide BX).kept (unhide GW)).c1; clear hw)
   | (go_at_call 51; refine (unhide HK w2 _ (unhide GW) (unhide HC)).mono ?_; rintro e w3 ⟨ka, kc, rfl, g3⟩; have G3 := hide (grown_trans (r := none) (unhide G1) (grown_trans (r := none) (unhide GW) g3)); have y2 := ((unhide BX).kept (grown_trans (r := none) (unhide GW) g3)).c1; clear g3))
  all_goals
   go_wp2_with fail
   go_ret
   exact ⟨ret_int (unhide E).symm, unhide G3⟩
def posN (C : List Int) : Nat := (C.filter fun x => decide (0 < x)).length
theorem pos_step (C : List Int) (k : Nat) (h : k < C.length) : posN (C.take (k + 1)) = posN (C.take k) + (if 0 < C.getD k 0 then 1 else 0) := by
 unfold posN
 rw [List.take_succ_eq_append_getElem h, List.filter_append, List.length_append, show C.getD k 0 = C[k] by simp [h]]
 by_cases e : 0 < C[k] <;> simp [e]
theorem pos_end (C : List Int) (k : Nat) (h : ¬ k < C.length) : posN (C.take k) = posN C := by rw [List.take_of_length_le (by omega)]
theorem pos_le (C : List Int) : posN C ≤ C.length := List.length_filter_le _ _
def oneB (C : List Int) : Bool := decide (posN C ≤ 1)
def hornB (n : Int) (LL : List (List Int)) : Bool := cnfB n LL && LL.all oneB
end Go.Proofs.YtibpnocpafppaaaDoor.gc
