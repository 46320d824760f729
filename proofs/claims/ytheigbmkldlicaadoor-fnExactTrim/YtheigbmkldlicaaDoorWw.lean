/- What watch of the program's watcher does: one number more behind the list of a literal; no condition but on sizes. -/
import Derived.Test.YtheigbmkldlicaaDoorWc
import Derived.Test.YtheigbmkldlicaaDoorWw0
import Derived.Deep.RegionHeld3
import Derived.Deep.RegionLaw
namespace Go.Proofs.YtheigbmkldlicaaDoor.wm
open Go.ChangeShapes Go.WideShapes Go.ChangeAt Go.RowKit
open Go.Proofs.YtheigbmkldlicaaDoor.wm0 (end0 ret0 stepW listW)
open Go.Proofs.YtheigbmkldlicaaDoor.lits (okB)
open Go.Proofs.YtheigbmkldlicaaDoor.bset (placeN placeN_le placeC)
open Go.Proofs.YtheigbmkldlicaaDoor.sl (Sl Own ints hide unhide ret_int ret_bool grown_refl grown_trans grown_drewN)
set_option linter.unusedVariables false

/-- list j with one number more -/
def Upd (c : Nat) (s s' : WS) (j : Nat) (y : Int) (w w' : World) : Prop :=
  Wat w' c s' ∧ Stp c s s' w w' ∧ s'.V = s.V ∧ s'.K = s.K ∧ s'.tk = s.tk ∧ (s'.em = s.em ∧ s'.ho = s.ho) ∧ s'.A.map (·.2) = (s.A.map (·.2)).set j ((s.A.map (·.2)).getD j [] ++ [y]) ∧ ∀ k, k ≠ j → s'.A.getD k nil_ = s.A.getD k nil_
theorem map_getD (A : List (Value × List Int)) (j : Nat) : (A.map (·.2)).getD j [] = (A.getD j nil_).2 := by
  rw [List.getD, List.getD, List.getElem?_map]
  cases A[j]? <;> rfl
theorem Wat.one {w w0 w1 : World} {c j g cap : Nat} {s : WS} {y : Int} (h : Wat w c s) (hj : j < 50) (g0 : w.grownBy w0 none)
    (hown : w1.ownsRow 0 3 1 (.slice (some ⟨g, 0, none⟩) ((s.A.getD j nil_).2.length + 1) cap) ((s.A.getD j nil_).2.length + 1) (ints (s.A.getD j nil_).2 ++ [.int .i64 y])) (hg : w0.grownBy w1 (s.A.getD j nil_).1.ownBlock)
    (hl : (s.A.getD j nil_).1.ownBlock = some g ∨ w.heap.size ≤ g) :
    ∃ s', Upd c s s' j y w (w1.setCell ⟨c, pos j, none⟩ (.slice (some ⟨g, 0, none⟩) ((s.A.getD j nil_).2.length + 1) cap)) := by
  have k := h.list (M := (s.A.getD j nil_).2 ++ [y]) hj g0 (by
    rw [List.length_append, app.ints_append]
    exact hown) hg hl
  refine ⟨_, k.1, k.2, rfl, rfl, rfl, ⟨rfl, rfl⟩, ?_, fun q hq => ?_⟩
  · show (s.A.set j _).map _ = _
    rw [List.map_set, map_getD]
  · show (s.A.set j _).getD q nil_ = _
    rw [List.getD, List.getElem?_set_ne (fun e => hq e.symm)]
    rfl

set_option maxRecDepth 100000 in
set_option maxHeartbeats 8000000 in
theorem watch {w : World} {c : Nat} {s : WS} {i x : Int} (h : Wat w c s) (hx : okB x = true) (hM : (s.A.getD (1 + placeN x) nil_).2.length ≤ 4194304) :
    Calls Tryd.prog 141 #[.pointer (some ⟨c, 0, none⟩), .int .i64 i, .int .i8 x] w fun e w' => ∃ s', e = .returned (.tuple #[]) ∧ Upd c s s' (1 + placeN x) i w w' := by
  have hp := placeN_le hx
  have CP := hide (fun w => placeC x w hx)
  have hj49 : 1 + placeN x < 49 := by omega
  have hj : 1 + placeN x < 50 := by omega
  have hjl : 1 + placeN x < s.A.length := by rw [h.len]; exact hj
  have hown := h.ls _ (mem_getD hjl)
  have x1 := h.cell (pos_lt hj)
  rw [atPos s hj] at x1
  have f1 := h.fz (1 + placeN x)
  have ep : pos (1 + placeN x) = 1 + placeN x := by unfold pos; rw [if_neg (by omega), if_neg (by omega)]
  have FIN := hide (fun (w0 w1 : World) (g cap : Nat) (g0 : w.grownBy w0 none) => h.one (y := i) (w0 := w0) (w1 := w1) (g := g) (cap := cap) hj g0)
  have CK : Hid (∀ w0 w1, w.grownBy w0 none → w0.grownBy w1 (s.A.getD (1 + placeN x) nil_).1.ownBlock → w1.cell? ⟨c, 1 + placeN x, none⟩ = some (s.A.getD (1 + placeN x) nil_).1 ∧ w1.frozen? ⟨c, 1 + placeN x, none⟩ = false) := by
    intro w0 w1 g0 g1
    have h0 := h.kept g0
    have e : w1.heap[c]? = w0.heap[c]? := g1.block c h0.lt (fun e => by
      rcases row_nec (h0.ls _ (mem_getD hjl)) h0.blk h0.ty.2 with q | q
      · rw [q] at e; cases e
      · exact q e.symm)
    have k := h0.cell (pos_lt hj)
    rw [atPos s hj, ep] at k
    exact ⟨(World.cell?_of_block (a := ⟨c, 1 + placeN x, none⟩) e).trans k, (World.frozen?_of_block (a := ⟨c, 1 + placeN x, none⟩) e).trans (h0.fz _)⟩
  rw [ep] at x1 FIN
  obtain ⟨va, vc, ev⟩ : ∃ a cap, (s.A.getD (1 + placeN x) nil_).1 = .slice a (s.A.getD (1 + placeN x) nil_).2.length cap := by
    obtain ⟨a, cap, e, _⟩ := Sl.of_own hown
    exact ⟨a, cap, e⟩
  rw [ev] at hown x1 FIN CK
  have GA := hide (grown_trans (r := none) (World.grownBy_alloc w (.cells #[.int .i64 i] 3) none) (cf.grown_drew (w.alloc (.cells #[.int .i64 i] 3)) none))
  have OWN := hide (hown.kept (unhide GA) (ne_none _))
  have NB : Hid (((w.alloc (.cells #[.int .i64 i] 3)).drew).cell? ⟨w.heap.size, 0, none⟩ = some (.int .i64 i)) := by
    show ((w.alloc (.cells #[.int .i64 i] 3))).cell? _ = _
    simp
  have hlt := h.lt
  clear hown h hjl hx ev ep
  generalize (s.A.getD (1 + placeN x) nil_).2 = L at *
  generalize placeN x = p at *
  have hp' : (p : Int) < 48 := by omega
  go_enter Tryd.func141, Tryd.ntmps141
  have ne1 := World.new_ne w _ x1
  go_region_law (first
    | (go_simp; go_at_call 153; refine (unhide CP _).mono ?_; rintro e w2 ⟨rfl, hw⟩; have hw' := hw.symm; clear hw; subst hw')
    | (refine stepW (unhide OWN) (unhide NB) hM rfl _ _ rfl rfl rfl ?_; intro g cap w1 o1 g1 l1; have k1 := (unhide CK _ _ (unhide GA) g1).1; have k2 := (unhide CK _ _ (unhide GA) g1).2; have R1 := hide (unhide FIN _ w1 g cap (unhide GA) o1 g1 (by rcases l1 with q | q; exact .inl q; exact .inr (Nat.le_trans (unhide GA).size q))); clear o1 g1 l1))
  all_goals
    go_wp2_with fail
    exact end0 rfl rfl ⟨rfl, unhide R1⟩
end Go.Proofs.YtheigbmkldlicaaDoor.wm
