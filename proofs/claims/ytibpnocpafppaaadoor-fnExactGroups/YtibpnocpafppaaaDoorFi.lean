/- groupsOf of the program: the map of the classes' words, at every formula. -/
import Derived.Test.YtibpnocpafppaaaDoorFh
import Derived.Test.YtibpnocpafppaaaDoorCss
import Derived.Test.YtibpnocpafppaaaDoorCf
namespace Go.Proofs.YtibpnocpafppaaaDoor.fi
open Go.ChangeShapes Go.WideShapes Go.ChangeAt Go.RowKit
open Go.Proofs.YtibpnocpafppaaaDoor.lits (okB varI)
open Go.Proofs.YtibpnocpafppaaaDoor.sl (Sl Own ints hide unhide grown_refl grown_trans below_of of_below)
open Go.Proofs.YtibpnocpafppaaaDoor.css (Sls tot)
open Go.Proofs.YtibpnocpafppaaaDoor.cf (Box)
open Go.Proofs.YtibpnocpafppaaaDoor.ok (cnfB)
open Go.Proofs.YtibpnocpafppaaaDoor.bset (withN)
open Go.Proofs.YtibpnocpafppaaaDoor.srt (srt fstI Tab)
open Go.Proofs.YtibpnocpafppaaaDoor.fg
open Go.Proofs.YtibpnocpafppaaaDoor.fh
set_option linter.unusedVariables false
theorem grown_in {w0 wr w1 : World} {r : Nat} (h : w0.grownBy wr none) (k : wr.grownBy w1 (some r)) (hr : w0.heap.size ≤ r) : w0.grownBy w1 none :=
  ⟨k.os.trans h.os, k.tape.trans h.tape, k.output.trans h.output, Nat.le_trans h.size k.size, fun i hi _ => (k.block i (Nat.lt_of_lt_of_le hi h.size) (fun e => by injection e with e; omega)).trans (h.block i hi (fun e => by cases e))⟩
/-- the formula's variable and the map behind it -/
structure St (w wr : World) (n : Int) (v : Value) (m : Nat) (F : Int → Nat) : Prop where
  g : w.grownBy wr none
  bx : Box 26 wr w.heap.size (.int .i64 n) v
  mp : MapI wr (w.heap.size + 1) m F
theorem St.kept {w wr w1 : World} {n : Int} {v : Value} {m : Nat} {F : Int → Nat} (h : St w wr n v m F) (g : wr.grownBy w1 none) : St w w1 n v m F := ⟨grown_trans h.g g, h.bx.kept g, h.mp.kept g (by simp)⟩
theorem St.put {w wr w1 : World} {n : Int} {v : Value} {m m' : Nat} {F G : Int → Nat} (h : St w wr n v m F) (g : wr.grownBy w1 (some (w.heap.size + 1))) (hm : MapI w1 (w.heap.size + 1) m' G) : St w w1 n v m' G :=
  ⟨grown_in h.g g (by omega), h.bx.by g (by simp), hm⟩
theorem St.cong {w wr : World} {n : Int} {v : Value} {m : Nat} {F G : Int → Nat} (h : St w wr n v m F) (e : ∀ v : Int, -24 ≤ v → v ≤ 24 → F v = G v) : St w wr n v m G := ⟨h.g, h.bx, h.mp.cong e⟩
/-- the words of the first ones -/
def preF (j : Nat) (n : Nat) (u : Int) : Nat := if 1 ≤ u ∧ u < (j : Int) then wdo id n u.toNat else 0
/-- the words of all -/
def allF (o : Nat → Nat) (n : Nat) (u : Int) : Nat := if 1 ≤ u ∧ u ≤ (n : Int) then wdo o n u.toNat else 0
/-- the words where the first p of the list are turned to J -/
def midF (o : Nat → Nat) (n : Nat) (M : List Int) (J p : Nat) (u : Int) : Nat := if u ∈ M.take p then J else allF o n u
theorem pre_zero (n : Nat) (u : Int) : 0 = preF 1 n u := by
  unfold preF
  rw [if_neg (by omega)]
theorem pre_step {j n : Nat} (h1 : 1 ≤ j) (h2 : j ≤ n) (u : Int) : (if u = (j : Int) then withN 0 (j : Int) else preF j n u) = preF (j + 1) n u := by
  unfold preF
  by_cases e : u = (j : Int)
  · rw [if_pos e, if_pos (by omega), e, wdo_id h1 h2, Int.toNat_natCast]
  · rw [if_neg e]
    by_cases k : 1 ≤ u ∧ u < (j : Int)
    · rw [if_pos k, if_pos (by omega)]
    · rw [if_neg k, if_neg (by omega)]
theorem pre_end (n : Nat) (u : Int) : preF (n + 1) n u = allF id n u := by
  unfold preF allF
  by_cases k : 1 ≤ u ∧ u ≤ (n : Int)
  · rw [if_pos k, if_pos (by omega)]
  · rw [if_neg k, if_neg (by omega)]
theorem take_snocI (M : List Int) (k : Nat) (h : k < M.length) : M.take (k + 1) = M.take k ++ [M.getD k 0] := by
  rw [List.take_add_one, List.getElem?_eq_getElem h]
  simp [List.getD, List.getElem?_eq_getElem h]
theorem getD_in {α : Type} {L : List α} {i : Nat} {d : α} (h : i < L.length) : L.getD i d ∈ L := by
  have e : L.getD i d = L[i] := by simp [List.getD, List.getElem?_eq_getElem h]
  rw [e]
  exact List.getElem_mem h
theorem mid_zero (o : Nat → Nat) (n : Nat) (M : List Int) (J : Nat) (u : Int) : allF o n u = midF o n M J 0 u := by
  unfold midF
  rw [List.take_zero, if_neg (by simp)]
theorem mid_step (o : Nat → Nat) (n : Nat) (M : List Int) (J p : Nat) (h : p < M.length) (u : Int) : (if u = M.getD p 0 then J else midF o n M J p u) = midF o n M J (p + 1) u := by
  unfold midF
  rw [take_snocI M p h]
  by_cases e : u = M.getD p 0
  · rw [if_pos e, if_pos (by rw [e]; simp)]
  · rw [if_neg e]
    by_cases k : u ∈ M.take p
    · rw [if_pos k, if_pos (by simp [k])]
    · rw [if_neg k, if_neg (by simp only [List.mem_append, List.mem_singleton]; rintro (q | q); exact k q; exact e q)]
theorem mid_end (o : Nat → Nat) (C : List Int) (n : Nat) (u : Int) : midF o n (cl (tch o C C.length) n) (wd (tch o C C.length) n) (cl (tch o C C.length) n).length u = allF (oT o C C.length) n u := by
  unfold midF allF
  rw [List.take_length]
  by_cases k : 1 ≤ u ∧ u ≤ (n : Int)
  · obtain ⟨x, rfl⟩ := Int.eq_ofNat_of_zero_le (show 0 ≤ u by omega)
    rw [if_pos k, if_pos k, Int.toNat_natCast, wdo_next]
    by_cases t : tch o C C.length x = true
    · rw [if_pos t, if_pos ((cl_mem _ _ _).2 ⟨x, by omega, by omega, t, rfl⟩)]
    · rw [if_neg t, if_neg]
      intro q
      obtain ⟨y, _, _, hy, e⟩ := (cl_mem _ _ _).1 q
      have : x = y := by exact_mod_cast e
      rw [this] at t
      exact t hy
  · rw [if_neg k, if_neg k, if_neg]
    intro q
    obtain ⟨y, h1, h2, _, e⟩ := (cl_mem _ _ _).1 q
    omega
/-- what a formula's clauses hold -/
theorem in_bd {n : Nat} {LL : List (List Int)} (h : cnfB n LL = true) : n ≤ 24 ∧ LL.length ≤ 120 ∧ ∀ i, i < LL.length → (LL.getD i []).length ≤ 48 ∧ ∀ k, k < (LL.getD i []).length → okB ((LL.getD i []).getD k 0) = true ∧ varI ((LL.getD i []).getD k 0) = (vn (LL.getD i []) k : Int) ∧ 1 ≤ vn (LL.getD i []) k ∧ vn (LL.getD i []) k ≤ n := by
  unfold ok.cnfB at h
  rw [Bool.and_eq_true, Bool.and_eq_true, decide_eq_true_eq, decide_eq_true_eq, List.all_eq_true] at h
  obtain ⟨⟨h1, h2⟩, h3⟩ := h
  refine ⟨by omega, h2, fun i hi => ?_⟩
  have hm : LL.getD i [] ∈ LL := getD_in hi
  have h4 := h3 _ hm
  unfold ok.clB at h4
  rw [Bool.and_eq_true, decide_eq_true_eq, List.all_eq_true] at h4
  refine ⟨h4.2, fun k hk => ?_⟩
  have hx : (LL.getD i []).getD k 0 ∈ LL.getD i [] := getD_in hk
  have h5 := h4.1 _ hx
  unfold ok.litIn at h5
  rw [Bool.and_eq_true, decide_eq_true_eq] at h5
  have h6 := lits.okB_iff.1 h5.1
  have h7 := lits.varI_yes h6
  unfold vn
  generalize (LL.getD i []).getD k 0 = x at *
  have h8 : 1 ≤ varI x := by
    rw [h7]
    split <;> omega
  exact ⟨h5.1, by omega, by omega, by omega⟩
theorem all_at {o : Nat → Nat} {n x : Nat} (h1 : 1 ≤ x) (h2 : x ≤ n) : allF o n (x : Int) = wdo o n x := by
  unfold allF
  rw [if_pos (by omega), Int.toNat_natCast]
end Go.Proofs.YtibpnocpafppaaaDoor.fi
