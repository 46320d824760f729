/- What watch of the program's watcher does: one number more behind the list of a literal; no condition but on sizes. -/
import Derived.Test.YtbhphndlklmocaaDoorWc
import Derived.Deep.RegionHeld3
import Derived.Deep.RegionLaw
namespace Go.Proofs.YtbhphndlklmocaaDoor.wm
open Go.ChangeShapes Go.WideShapes Go.ChangeAt Go.RowKit
open Go.Proofs.YtbhphndlklmocaaDoor.lits (okB)
open Go.Proofs.YtbhphndlklmocaaDoor.bset (placeN placeN_le placeC)
open Go.Proofs.YtbhphndlklmocaaDoor.sl (Sl Own ints hide unhide ret_int ret_bool grown_refl grown_trans grown_drewN)
set_option linter.unusedVariables false

/-- a function that answers nothing -/
theorem end0 {P : Program} {fn : Func} {R : Ending → World → Prop} {a : Act} {w : World} (h : fn.results = #[]) (hd : a.defers = []) (hr : R (.returned (.tuple #[])) w) : bodyPost P fn R .normal a w :=
  ⟨hd, _, by simp [results, h], hr⟩
theorem ret0 {P : Program} {fn : Func} {R : Ending → World → Prop} {a : Act} {w : World} (h : fn.results = #[]) (hd : a.defers = []) (hr : R (.returned (.tuple #[])) w) : bodyPost P fn R .ret a w :=
  ⟨hd, _, by simp [results, h], hr⟩
/-- list j with one number more -/
def Upd (c : Nat) (s s' : WS) (j : Nat) (y : Int) (w w' : World) : Prop :=
  Wat w' c s' ∧ Stp c s s' w w' ∧ s'.V = s.V ∧ s'.K = s.K ∧ s'.tk = s.tk ∧ s'.em = s.em ∧ s'.A.map (·.2) = (s.A.map (·.2)).set j ((s.A.map (·.2)).getD j [] ++ [y]) ∧ ∀ k, k ≠ j → s'.A.getD k nil_ = s.A.getD k nil_
theorem map_getD (A : List (Value × List Int)) (j : Nat) : (A.map (·.2)).getD j [] = (A.getD j nil_).2 := by
  rw [List.getD, List.getD, List.getElem?_map]
  cases A[j]? <;> rfl
theorem Wat.one {w w0 w1 : World} {c j g cap : Nat} {s : WS} {y : Int} (h : Wat w c s) (hj : j < 49) (g0 : w.grownBy w0 none)
    (hown : w1.ownsRow 0 3 1 (.slice (some ⟨g, 0, none⟩) ((s.A.getD j nil_).2.length + 1) cap) ((s.A.getD j nil_).2.length + 1) (ints (s.A.getD j nil_).2 ++ [.int .i64 y])) (hg : w0.grownBy w1 (s.A.getD j nil_).1.ownBlock)
    (hl : (s.A.getD j nil_).1.ownBlock = some g ∨ w.heap.size ≤ g) :
    ∃ s', Upd c s s' j y w (w1.setCell ⟨c, pos j, none⟩ (.slice (some ⟨g, 0, none⟩) ((s.A.getD j nil_).2.length + 1) cap)) := by
  have k := h.list (M := (s.A.getD j nil_).2 ++ [y]) hj g0 (by
    rw [List.length_append, app.ints_append]
    exact hown) hg hl
  refine ⟨_, k.1, k.2, rfl, rfl, rfl, rfl, ?_, fun q hq => ?_⟩
  · show (s.A.set j _).map _ = _
    rw [List.map_set, map_getD]
  · show (s.A.set j _).getD q nil_ = _
    rw [List.getD, List.getElem?_set_ne (fun e => hq e.symm)]
    rfl

/-- one number more behind a row of the call's own: a step of a region that draws its order -/
theorem stepW {ops : Array Oper} {o : Oper} {a : Act} {K : Act → World → Prop} {Q : Exit → Act → World → Prop} {E : Prop} {wr : World} {v : Value} {L : List Int} {y : Int} {b : Nat}
    (hw : wr.ownsRow 0 3 1 v L.length (ints L)) (hb : wr.cell? ⟨b, 0, none⟩ = some (.int .i64 y)) (hM : L.length ≤ 4194304) (hgd : o.guard = none) (s x : Operand)
    (ho : o.op = .call { callee := .builtin .append, args := #[s, x], argTypes := #[32, 32] }) (hs : a.eval s = v) (hx : a.eval x = .slice (some ⟨b, 0, none⟩) 1 1)
    (hK : ∀ g cap w1, w1.ownsRow 0 3 1 (.slice (some ⟨g, 0, none⟩) (L.length + 1) cap) (L.length + 1) (ints L ++ [.int .i64 y]) → wr.grownBy w1 v.ownBlock → (v.ownBlock = some g ∨ wr.heap.size ≤ g) → K (a.put o.dst (.slice (some ⟨g, 0, none⟩) (L.length + 1) cap)) w1) :
    if Region.wanted o (yielded ops a.tmps) = true then Oper.wp Tryd.prog o a wr K Q else E := by
  obtain ⟨i0, hi, hz0, hz1, hz2⟩ := info_parts sl.info3
  refine step_append_lies _ hgd s x 32 ho 0 3 i0 (.int .i64 0) 1 8 Tryd.underlying32 hi hz0 hz1 hz2 rfl (by decide) v L.length (ints L) hs hw ⟨b, 0, none⟩ 1 1 [.int .i64 y] hx rfl ?_ ?_ (by decide) ?_ ?_ (Nat.zero_le _) wr.heap.size rfl ?_
  · intro j u hj
    match j, hj with
    | 0, hj => simp at hj; subst hj; simpa [Addr.add] using hb
  · intro u hu
    simp at hu
    subst hu
    rfl
  · unfold maxLen; omega
  · omega
  · intro g cap w1 h1 hg hl _
    exact hK g cap w1 h1 hg (by rcases hl with q | q; exact .inl q; exact .inr (by omega))
/-- the same in a plain region -/
theorem listW {ops : Array Oper} {rest : List Oper} {o : Oper} {a : Act} {Q : Exit → Act → World → Prop} {wr : World} {v : Value} {L : List Int} {y : Int} {b : Nat}
    (hw : wr.ownsRow 0 3 1 v L.length (ints L)) (hb : wr.cell? ⟨b, 0, none⟩ = some (.int .i64 y)) (hM : L.length ≤ 4194304) (hgd : o.guard = none) (s x : Operand)
    (ho : o.op = .call { callee := .builtin .append, args := #[s, x], argTypes := #[32, 32] }) (hs : a.eval s = v) (hx : a.eval x = .slice (some ⟨b, 0, none⟩) 1 1)
    (hK : ∀ g cap w1, w1.ownsRow 0 3 1 (.slice (some ⟨g, 0, none⟩) (L.length + 1) cap) (L.length + 1) (ints L ++ [.int .i64 y]) → wr.grownBy w1 v.ownBlock → (v.ownBlock = some g ∨ wr.heap.size ≤ g) → wpList Tryd.prog ops Q rest (a.put o.dst (.slice (some ⟨g, 0, none⟩) (L.length + 1) cap)) w1) :
    wpList Tryd.prog ops Q (o :: rest) a wr := by
  obtain ⟨i0, hi, hz0, hz1, hz2⟩ := info_parts sl.info3
  refine wpList_append_lies _ hgd s x 32 ho 0 3 i0 (.int .i64 0) 1 8 Tryd.underlying32 hi hz0 hz1 hz2 rfl (by decide) v L.length (ints L) hs hw ⟨b, 0, none⟩ 1 1 [.int .i64 y] hx rfl ?_ ?_ (by decide) ?_ ?_ (Nat.zero_le _) wr.heap.size rfl ?_
  · intro j u hj
    match j, hj with
    | 0, hj => simp at hj; subst hj; simpa [Addr.add] using hb
  · intro u hu
    simp at hu
    subst hu
    rfl
  · unfold maxLen; omega
  · omega
  · intro g cap w1 h1 hg hl _
    exact hK g cap w1 h1 hg (by rcases hl with q | q; exact .inl q; exact .inr (by omega))

set_option maxRecDepth 100000 in
set_option maxHeartbeats 8000000 in
theorem watch {w : World} {c : Nat} {s : WS} {i x : Int} (h : Wat w c s) (hx : okB x = true) (hM : (s.A.getD (1 + placeN x) nil_).2.length ≤ 4194304) :
    Calls Tryd.prog 121 #[.pointer (some ⟨c, 0, none⟩), .int .i64 i, .int .i8 x] w fun e w' => ∃ s', e = .returned (.tuple #[]) ∧ Upd c s s' (1 + placeN x) i w w' := by
  have hp := placeN_le hx
  have CP := hide (fun w => placeC x w hx)
  have hj : 1 + placeN x < 49 := by omega
  have hjl : 1 + placeN x < s.A.length := by rw [h.len]; exact hj
  have hown := h.ls _ (mem_getD hjl)
  have x1 := h.cell (pos_lt hj)
  rw [atPos s hj] at x1
  have f1 := h.fz (1 + placeN x)
  have ep : pos (1 + placeN x) = 1 + placeN x := if_neg (by omega)
  have FIN := hide (fun (w0 w1 : World) (g cap : Nat) (g0 : w.grownBy w0 none) => h.one (y := i) (w0 := w0) (w1 := w1) (g := g) (cap := cap) hj g0)
  have CK : Hid (∀ w0 w1, w.grownBy w0 none → w0.grownBy w1 (s.A.getD (1 + placeN x) nil_).1.ownBlock → w1.cell? ⟨c, 1 + placeN x, none⟩ = some (s.A.getD (1 + placeN x) nil_).1 ∧ w1.frozen? ⟨c, 1 + placeN x, none⟩ = false) := by
    intro w0 w1 g0 g1
    have h0 := h.kept g0
    have e : w1.heap[c]? = w0.heap[c]? := g1.block c h0.lt (fun e => by
      rcases row_nec (h0.ls _ (mem_getD hjl)) h0.blk types2 with q | q
      · rw [q] at e; cases e
      · exact q e.symm)
    have k := h0.cell (pos_lt hj)
    rw [atPos s hj, ep] at k
    exact ⟨(World.cell?_of_block (a := ⟨c, 1 + placeN x, none⟩) e).trans k, (World.frozen?_of_block (a := ⟨c, 1 + placeN x, none⟩) e).trans (h0.fz _)⟩
  rw [ep] at x1 FIN
  obtain ⟨va, vc, ev⟩ : ∃ a cap, (s.A.getD (1 + placeN x) nil_).1 = .slice a (s.A.getD (1 + placeN x) nil_).2.length cap := by
    obtain ⟨a, cap, e, _⟩ := Sl.of_own hown
    exact ⟨a, cap, e⟩
  rw [ev] at hown x1 FIN CK
  have GA := hide (grown_trans (r := none) (World.grownBy_alloc w (.cells #[.int .i64 i] 3) none) (cf.grown_drew (w.alloc (.cells #[.int .i64 i] 3)) none))
  have OWN := hide (hown.kept (unhide GA) (ne_none _))
  have NB : Hid (((w.alloc (.cells #[.int .i64 i] 3)).drew).cell? ⟨w.heap.size, 0, none⟩ = some (.int .i64 i)) := by
    show ((w.alloc (.cells #[.int .i64 i] 3))).cell? _ = _
    simp
  have hlt := h.lt
  clear hown h hjl hx ev ep
  generalize (s.A.getD (1 + placeN x) nil_).2 = L at *
  generalize placeN x = p at *
  have hp' : (p : Int) < 48 := by omega
  go_enter Tryd.func121, Tryd.ntmps121
  have ne1 := World.new_ne w _ x1
  go_region_law (first
    | (go_simp; go_at_call 110; refine (unhide CP _).mono ?_; rintro e w2 ⟨rfl, hw⟩; have hw' := hw.symm; clear hw; subst hw')
    | (refine stepW (unhide OWN) (unhide NB) hM rfl _ _ rfl rfl rfl ?_; intro g cap w1 o1 g1 l1; have k1 := (unhide CK _ _ (unhide GA) g1).1; have k2 := (unhide CK _ _ (unhide GA) g1).2; have R1 := hide (unhide FIN _ w1 g cap (unhide GA) o1 g1 (by rcases l1 with q | q; exact .inl q; exact .inr (Nat.le_trans (unhide GA).size q))); clear o1 g1 l1))
  all_goals
    go_wp2_with fail
    exact end0 rfl rfl ⟨rfl, unhide R1⟩
end Go.Proofs.YtbhphndlklmocaaDoor.wm
