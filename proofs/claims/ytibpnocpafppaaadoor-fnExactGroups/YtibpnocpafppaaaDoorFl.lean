/- Groups of the model: the labels as a list, what a store does; no condition. -/
import Derived.Test.YtibpnocpafppaaaDoorFk
namespace Go.Proofs.YtibpnocpafppaaaDoor.fi
open Go.ChangeShapes Go.WideShapes Go.ChangeAt Go.RowKit
open Go.Proofs.YtibpnocpafppaaaDoor.sl (Sl Own ints hide unhide grown_refl grown_trans below_of of_below)
open Go.Proofs.YtibpnocpafppaaaDoor.css (Sls OwnS tot own_mono)
open Go.Proofs.YtibpnocpafppaaaDoor.cf (Box)
open Go.Proofs.YtibpnocpafppaaaDoor.fg
set_option linter.unusedVariables false
/-- the labels as they are listed -/
def ofL (o : Nat → Nat) (n : Nat) : List Int := (List.range (n + 1)).map fun u => (o u : Int)
theorem ofL_len (o : Nat → Nat) (n : Nat) : (ofL o n).length = n + 1 := by simp [ofL]
theorem ofL_get (o : Nat → Nat) (n : Nat) {u : Nat} (h : u ≤ n) : (ints (ofL o n))[u]? = some (.int .i64 (o u : Int)) := by
  simp [ofL, ints, show u < n + 1 from by omega]
theorem ofL_snoc (n : Nat) : ofL id (n + 1) = ofL id n ++ [((n + 1 : Nat) : Int)] := by
  unfold ofL
  rw [List.range_succ, List.map_append]
  rfl
theorem ofL_cong {o o' : Nat → Nat} {n : Nat} (h : ∀ u, u ≤ n → o u = o' u) : ofL o n = ofL o' n := by
  unfold ofL
  apply List.map_congr_left
  intro u hu
  rw [List.mem_range] at hu
  rw [h u (by omega)]
/-- where those below j that have label b have label a now -/
def oM (o : Nat → Nat) (a b j : Nat) : Nat → Nat := fun u => if u < j ∧ o u = b then a else o u
theorem oM_one {o : Nat → Nat} (h : Lab o) {a b : Nat} (hb : 1 ≤ b) : oM o a b 1 = o := by
  funext u
  unfold oM
  have := h.le u
  rw [if_neg (by omega)]
theorem oM_at (o : Nat → Nat) (a b j : Nat) : oM o a b j j = o j := by
  unfold oM
  rw [if_neg (by omega)]
theorem oM_no {o : Nat → Nat} {a b j : Nat} (h : ¬ o j = b) : oM o a b (j + 1) = oM o a b j := by
  funext u
  unfold oM
  by_cases e : u = j
  · subst e
    rw [if_neg (by omega), if_neg (by omega)]
  · by_cases k : u < j ∧ o u = b
    · rw [if_pos k, if_pos (by omega)]
    · rw [if_neg k, if_neg (by omega)]
theorem oM_yes {o : Nat → Nat} {a b j n : Nat} (h : o j = b) (hj : j ≤ n) : (ints (ofL (oM o a b j) n)).set j (.int .i64 (a : Int)) = ints (ofL (oM o a b (j + 1)) n) := by
  apply List.ext_getElem?
  intro u
  rw [List.getElem?_set]
  by_cases hu : u ≤ n
  · rw [ofL_get _ _ hu, ofL_get _ _ hu]
    have hl : j < (ints (ofL (oM o a b j) n)).length := by rw [sl.ints_length, ofL_len]; omega
    by_cases e : j = u
    · subst e
      rw [if_pos rfl, if_pos hl]
      unfold oM
      rw [if_pos (by omega)]
    · rw [if_neg e]
      unfold oM
      by_cases k : u < j ∧ o u = b
      · rw [if_pos k, if_pos (by omega)]
      · rw [if_neg k, if_neg (by omega)]
  · have hl : (ints (ofL (oM o a b (j + 1)) n)).length ≤ u := by rw [sl.ints_length, ofL_len]; omega
    have hl2 : (ints (ofL (oM o a b j) n)).length ≤ u := by rw [sl.ints_length, ofL_len]; omega
    rw [if_neg (by omega), List.getElem?_eq_none hl, List.getElem?_eq_none hl2]
theorem oM_end (o : Nat → Nat) (x y n : Nat) : ofL (oM o (min (o x) (o y)) (max (o x) (o y)) (n + 1)) n = ofL (join o x y) n := by
  apply ofL_cong
  intro u hu
  unfold oM join
  by_cases e : o u = max (o x) (o y)
  · rw [if_pos e, if_pos (by omega)]
  · rw [if_neg e, if_neg (by omega)]
/-- the list of labels in memory -/
def La (W wr : World) (g cap n : Nat) (L : List Int) : Prop := wr.ownsRow W.heap.size 3 1 (.slice (some ⟨g, 0, none⟩) (n + 1) cap) (n + 1) (ints L) ∧ W.grownBy wr none
theorem La.kept {W wr w1 : World} {g cap n : Nat} {L : List Int} (h : La W wr g cap n L) (k : wr.grownBy w1 none) : La W w1 g cap n L := ⟨h.1.kept k (.inr (fun e => by cases e)), grown_trans h.2 k⟩
theorem La.at {W wr : World} {g cap n : Nat} {o : Nat → Nat} (h : La W wr g cap n (ofL o n)) {u : Nat} (hu : u ≤ n) : wr.cell? ⟨g, u, none⟩ = some (.int .i64 (o u : Int)) := by
  rw [h.1.cellAt u (by omega), ofL_get _ _ hu]
theorem La.frozen {W wr : World} {g cap n : Nat} {L : List Int} (h : La W wr g cap n L) (u : Nat) : wr.frozen? ⟨g, u, none⟩ = false := h.1.frozenAt u
theorem La.put {W wr : World} {g cap n : Nat} {L M : List Int} (h : La W wr g cap n L) (j : Nat) (x : Int) (hl : L.length = n + 1) (hm : M.length = n + 1) (he : (ints L).set j (.int .i64 x) = ints M) : La W (wr.setCell ⟨g, j, none⟩ (.int .i64 x)) g cap n M :=
  ⟨sl.own_stored (n + 1) hl hm h.1 j x he, grown_in h.2 (sl.grown_setCell wr g j _) (h.1.lt g rfl).1⟩
/-- the class told from its least -/
theorem cl_low {P : Nat → Bool} : ∀ m, (∀ u, u ≤ m → P u = false) → cl P m = []
  | 0, _ => rfl
  | m + 1, h => by
    unfold cl
    rw [cl_low m (fun u hu => h u (by omega)), h (m + 1) (Nat.le_refl _)]
    rfl
theorem cl_yes {P : Nat → Bool} {m : Nat} (h : P (m + 1) = true) : cl P (m + 1) = cl P m ++ [((m + 1 : Nat) : Int)] := by
  rw [show cl P (m + 1) = cl P m ++ (if P (m + 1) then [((m + 1 : Nat) : Int)] else []) from rfl, if_pos h]
theorem cl_no {P : Nat → Bool} {m : Nat} (h : P (m + 1) = false) : cl P (m + 1) = cl P m := by
  rw [show cl P (m + 1) = cl P m ++ (if P (m + 1) then [((m + 1 : Nat) : Int)] else []) from rfl, h]
  simp
theorem outs_yes {o : Nat → Nat} {n q : Nat} (e : o (q + 1) = q + 1) : outs o n (q + 1) = outs o n q ++ [cl (fun u => decide (o u = q + 1)) n] := by
  show outs o n q ++ (if o (q + 1) = q + 1 then [cl (fun u => decide (o u = q + 1)) n] else []) = _
  rw [if_pos e]
theorem outs_no {o : Nat → Nat} {n q : Nat} (e : ¬ o (q + 1) = q + 1) : outs o n (q + 1) = outs o n q := by
  show outs o n q ++ (if o (q + 1) = q + 1 then [cl (fun u => decide (o u = q + 1)) n] else []) = _
  rw [if_neg e, List.append_nil]
theorem cl_start {o : Nat → Nat} (h : Lab o) {q : Nat} : cl (fun u => decide (o u = q + 1)) q = [] := cl_low q fun u hu => decide_eq_false (by have := h.le u; omega)
theorem cl_pos {o : Nat → Nat} {n q : Nat} (e : o (q + 1) = q + 1) (hq : q < n) : 0 < (cl (fun u => decide (o u = q + 1)) n).length :=
  List.length_pos_of_mem ((cl_mem _ ((q + 1 : Nat) : Int) n).2 ⟨q + 1, by omega, by omega, decide_eq_true e, rfl⟩)
/-- the labels and what is told, where the row of what is told grows -/
theorem La.grow {W wr w3 w4 : World} {g cap n : Nat} {L : List Int} {v : Value} {M : List (List Int)} {o : Obj} (h : La W wr g cap n L) (hl : L.length = n + 1) (ho : OwnS W.heap.size wr.heap.size wr v M) (g3 : wr.grownBy w3 none) (g4 : (w3.alloc o).grownBy w4 v.ownBlock) : La W w4 g cap n L := by
  have gA := grown_trans (r := none) g3 (World.grownBy_alloc w3 o none)
  have hA := h.kept gA
  refine ⟨?_, own_up h.2 ho g3 g4⟩
  obtain ⟨D, _, hw, _⟩ := ho.kept gA
  exact hA.1.kept g4 (css.own_ne' hw hA.1)
end Go.Proofs.YtibpnocpafppaaaDoor.fi
