/- Formulas (a number and a slice of slices) in memory, and what the small helpers on them (a size, a copy, an equality, marks) do; no condition but that a formula holds at most 2^20 values. -/
import Derived.Test.YtibpnocpafppaaaDoorCss
import Derived.Laws.Rows
import Derived.Laws.ResultCell
namespace Go.Proofs.YtibpnocpafppaaaDoor.cf
open Go.ChangeShapes Go.WideShapes Go.ChangeAt Go.RowKit
open Go.Proofs.YtibpnocpafppaaaDoor.sl (Sl Own ints marks hide unhide ret_int ret_bool grown_refl grown_trans grown_drewN below_of of_below)
open Go.Proofs.YtibpnocpafppaaaDoor.css (Sls OwnS Outs tot sumLen marksS)
set_option linter.unusedVariables false

/-- block c holds the two values x and y, of type t -/
def Box (t : TypeId) (w : World) (c : Nat) (x y : Value) : Prop := w.heap[c]? = some (.cells #[x, y] t (0, 0))
theorem Box.c0 {t : TypeId} {w : World} {c : Nat} {x y : Value} (h : Box t w c x y) : w.cell? ⟨c, 0, none⟩ = some x := by
  unfold Box at h
  simp [World.cell?, h]
theorem Box.c1 {t : TypeId} {w : World} {c : Nat} {x y : Value} (h : Box t w c x y) : w.cell? ⟨c, 1, none⟩ = some y := by
  unfold Box at h
  simp [World.cell?, h]
theorem Box.f {t : TypeId} {w : World} {c : Nat} {x y : Value} (h : Box t w c x y) (i : Nat) : w.frozen? ⟨c, i, none⟩ = false := by
  unfold Box at h
  simp [World.frozen?, h]
theorem Box.lt {t : TypeId} {w : World} {c : Nat} {x y : Value} (h : Box t w c x y) : c < w.heap.size := (Array.getElem?_eq_some_iff.1 h).1
theorem Box.by {t : TypeId} {w w' : World} {c : Nat} {x y : Value} {r : Option Nat} (h : Box t w c x y) (g : w.grownBy w' r) (hr : r ≠ some c) : Box t w' c x y := by
  unfold Box
  rw [g.block c h.lt (fun e => hr e.symm)]
  exact h
theorem Box.kept {t : TypeId} {w w' : World} {c : Nat} {x y : Value} (h : Box t w c x y) (g : w.grownBy w' none) : Box t w' c x y := h.by g (fun e => by cases e)
theorem Box.outs {t : TypeId} {w w' : World} {c lo hi : Nat} {x y : Value} (h : Box t w c x y) (g : Outs lo hi w w') (d : c < lo ∨ hi ≤ c) : Box t w' c x y := by
  unfold Box
  rw [g.block c h.lt d]
  exact h
theorem Box.new (t : TypeId) (w : World) (x y : Value) : Box t (w.alloc (.cells #[x, y] t)) w.heap.size x y := by
  show (w.heap.push _)[w.heap.size]? = _
  simp
theorem Box.set1 {t : TypeId} {w : World} {c : Nat} {x y : Value} (h : Box t w c x y) (u : Value) : Box t (w.setCell ⟨c, 1, none⟩ u) c x u := by
  unfold Box at *
  simp [World.setCell, Array.getElem?_modify, h]
theorem Box.set0 {t : TypeId} {w : World} {c : Nat} {x y : Value} (h : Box t w c x y) (u : Value) : Box t (w.setCell ⟨c, 0, none⟩ u) c u y := by
  unfold Box at *
  simp [World.setCell, Array.getElem?_modify, h]

theorem sizeCnf : (Tryd.prog.info? 26).map (·.size) = some 2 := by kernel_rfl
/-- what is returned through a struct's cells -/
theorem ret_box {fn : Func} {p : Tmp} {tmps : Array Value} {w : World} {c : Nat} {x y : Value} (h : fn.results = #[.cell p 26]) (hp : tmps.getD p undef = .pointer (some ⟨c, 0, none⟩)) (hb : Box 26 w c x y) :
    (results fn tmps).run Tryd.prog w = .ok (.agg #[x, y]) w :=
  results_cell_row h tmps w c 26 #[x, y] (0, 0) _ hp hb Tryd.underlying26 rfl sizeCnf
theorem ret_box2 {fn : Func} {p u : Tmp} {tmps : Array Value} {w : World} {c : Nat} {x y : Value} (h : fn.results = #[.cell p 26, .tmp u]) (hp : tmps.getD p undef = .pointer (some ⟨c, 0, none⟩)) (hb : Box 26 w c x y) :
    (results fn tmps).run Tryd.prog w = .ok (.tuple #[.agg #[x, y], tmps.getD u undef]) w := by
  rw [results_cell_tmp h, hp]
  simp only [asAddr, Sem.run_pure, Result.andThen_ok]
  rw [run_loadVar_row w c 26 26 #[x, y] (0, 0) _ hb Tryd.underlying26 rfl sizeCnf]
  rfl

theorem size_set (w : World) (a : Addr) (u : Value) : (w.setCell a u).heap.size = w.heap.size := by simp [World.setCell]
theorem grown_set {w w1 : World} {c i : Nat} {u : Value} (g : w.grownBy w1 none) (h : w.heap.size ≤ c) : w.grownBy (w1.setCell ⟨c, i, none⟩ u) none :=
  ⟨g.os, g.tape, g.output, by rw [size_set]; exact g.size, fun k hk _ => (Below.heap_setCell _ _ _ _ (by show k ≠ c; omega)).trans (g.block k hk (fun e => by cases e))⟩
theorem ownS_set {lo hi : Nat} {w : World} {v : Value} {LL : List (List Int)} {c i : Nat} {u : Value} (h : OwnS lo hi w v LL) (hc : c < lo ∨ hi ≤ c) : OwnS lo hi (w.setCell ⟨c, i, none⟩ u) v LL :=
  h.outs (css.outs_by (lo := c) (hi := c + 1) (sl.grown_setCell w c i u) (fun k e => by cases e; omega)) (by omega)
theorem Box.setO {t : TypeId} {w : World} {c d i : Nat} {x y u : Value} (h : Box t w c x y) (hd : d ≠ c) : Box t (w.setCell ⟨d, i, none⟩ u) c x y :=
  h.by (sl.grown_setCell w d i u) (fun e => hd (by cases e; rfl))

theorem grown_drew (w : World) (r : Option Nat) : w.grownBy w.drew r := ⟨rfl, rfl, rfl, Nat.le_refl _, fun _ _ _ => rfl⟩
theorem szCnf (v : Value) (n : Int) (LL : List (List Int)) (left : Int) (w : World) (h0 : 0 ≤ left) (h1 : left ≤ 1048576) (hn : LL.length ≤ 9223372036854775807) (hin : ∀ i, (LL.getD i []).length ≤ 9223372036854775807) (hv : Sls w v LL) :
    Calls Tryd.prog 41 #[.agg #[.int .i64 n, v], .int .i64 left] w fun e w' => ∃ r : Int, e = .returned (.int .i64 r) ∧ w.grownBy w' none ∧ (r = -1 ∨ 0 ≤ r ∧ r + (tot LL : Int) = left) := by
  have G := hide (World.grownBy_alloc w (.cells #[.int .i64 n, v] 46) none)
  have C := hide (css.szIntSS v LL left _ h0 h1 hn hin (hv.kept (World.grownBy_alloc w (.cells #[.int .i64 n, v] 46) none)))
  clear hv
  go_enter Tryd.func41, Tryd.ntmps41
  go_wp2_with fail
  refine (unhide C).mono ?_; rintro e w' ⟨r, rfl, rfl, hr⟩
  rcases hr with rfl | ⟨hr0, hr1⟩
  · go_wp2_with fail
    go_ret
    exact ⟨_, rfl, unhide G, .inl rfl⟩
  · have hq : ¬ r < 0 := by omega
    go_wp2_with fail
    go_ret
    exact ⟨_, rfl, unhide G, .inr ⟨hr0, hr1⟩⟩

set_option maxHeartbeats 400000 in
theorem toCnf (v : Value) (n : Int) (LL : List (List Int)) (w : World) (hn : tot LL ≤ 1048576) (hv : Sls w v LL) :
    Calls Tryd.prog 42 #[.agg #[.int .i64 n, v]] w fun e w' => ∃ u, e = .returned (.agg #[.int .i64 n, u]) ∧ OwnS w.heap.size w'.heap.size w' u LL ∧ w.grownBy w' none := by
  have h1 := Nat.le_trans (css.tot_len LL) hn
  have h2 := fun i => Nat.le_trans (css.tot_in LL i) hn
  have C := hide (fun w1 (g : w.grownBy w1 none) => css.toIntSS v LL w1 h1 h2 (hv.kept g))
  clear hv h1 h2
  go_enter Tryd.func42, Tryd.ntmps42
  go_wp2_with fail
  have g0 : w.grownBy (((w.alloc (.cells #[.int .i64 n, v] 46)).alloc (.cells #[.int .i64 0, .slice none 0 0] 26)).alloc (.cells #[.int .i64 n, .slice none 0 0] 26)) none :=
    grown_trans (grown_trans (World.grownBy_alloc _ _ _) (World.grownBy_alloc _ _ _)) (World.grownBy_alloc _ _ _)
  have b2 := (Box.new 26 (w.alloc (.cells #[.int .i64 n, v] 46)) (.int .i64 0) (.slice none 0 0)).kept (World.grownBy_alloc _ (.cells #[.int .i64 n, .slice none 0 0] 26) none)
  have b3 := Box.new 26 ((w.alloc (.cells #[.int .i64 n, v] 46)).alloc (.cells #[.int .i64 0, .slice none 0 0] 26)) (.int .i64 n) (.slice none 0 0)
  refine (unhide C _ g0).mono ?_; rintro e w1 ⟨u, rfl, o1, g1⟩
  obtain ⟨ua, uc, rfl⟩ := o1.len
  have b2' := b2.kept g1
  have b3' := b3.kept g1
  have R := hide (And.intro o1 (grown_trans (r := none) g0 g1))
  have B2 := hide b2'
  have x0 := b2'.c0
  have x1 := b2'.c1
  have x2 := b2'.f 0
  have x3 := b2'.f 1
  have y0 := b3'.c0
  have y1 := b3'.c1
  have y2 := b3'.f 0
  have y3 := b3'.f 1
  clear b2 b3 b2' b3' g0 g1 o1 C
  simp only [World.size_alloc] at x0 x1 x2 x3 y0 y1 y2 y3
  go_wp2_with fail
  obtain ⟨o1, g1⟩ := unhide R
  have b := ((unhide B2).setO (d := w.heap.size + 1 + 1) (i := 1) (u := .slice ua LL.length uc) (by simp)).set0 (.int .i64 n) |>.set1 (.slice ua LL.length uc)
  simp only [World.size_alloc] at b o1
  (try simp only [Exit.inBlock, Exit.then])
  refine bodyPost_ret (ret_box rfl rfl b) rfl ⟨_, rfl, ?_, ?_⟩
  · rw [size_set, size_set, size_set]
    exact (ownS_set (ownS_set (ownS_set o1 (by omega)) (by omega)) (by omega)).sub (by omega) (Nat.le_refl _)
  · exact grown_set (grown_set (grown_set g1 (by omega)) (by omega)) (by omega)

theorem eqCnf (v u : Value) (n : Int) (LL : List (List Int)) (w : World) (hn : tot LL ≤ 1048576) (hv : Sls w v LL) (hu : Sls w u LL) :
    Calls Tryd.prog 43 #[.agg #[.int .i64 n, v], .agg #[.int .i64 n, u]] w fun e w' => e = .returned (.bool true) ∧ w.grownBy w' none := by
  have h1 := Nat.le_trans (css.tot_len LL) hn
  have h2 := fun i => Nat.le_trans (css.tot_in LL i) hn
  have g0 : w.grownBy ((w.alloc (.cells #[.int .i64 n, v] 26)).alloc (.cells #[.int .i64 n, u] 26)) none := grown_trans (World.grownBy_alloc _ _ _) (World.grownBy_alloc _ _ _)
  have C := hide (css.eqIntSS v u LL _ h1 h2 (hv.kept g0) (hu.kept g0))
  have G := hide g0
  clear hv hu h1 h2 g0
  go_enter Tryd.func43, Tryd.ntmps43
  go_wp2_with fail
  refine (unhide C).mono ?_; rintro e w1 ⟨rfl, g1⟩
  have R := hide (grown_trans (r := none) (unhide G) g1)
  clear g1 G C
  go_wp2_with fail
  go_ret
  exact ⟨rfl, unhide R⟩

theorem markCnf (v : Value) (n : Int) (LL : List (List Int)) (k : Int) (lo hi : Nat) (w : World) (hn : tot LL ≤ 1048576) (k0 : 0 ≤ k) (k1 : k ≤ 1073741824) (ho : OwnS lo hi w v LL) :
    Calls Tryd.prog 44 #[.agg #[.int .i64 n, v], .int .i64 k] w fun e w' => e = .returned (.int .i64 (k + (sumLen LL : Int))) ∧ OwnS lo hi w' v (marksS k LL) ∧ Outs lo hi w w' := by
  have C := hide (css.markIntSS v LL k lo hi _ hn k0 k1 (ho.kept (World.grownBy_alloc w (.cells #[.int .i64 n, v] 26) none)))
  have G := hide (css.outs_none (lo := lo) (hi := hi) (World.grownBy_alloc w (.cells #[.int .i64 n, v] 26) none))
  clear ho
  go_enter Tryd.func44, Tryd.ntmps44
  go_wp2_with fail
  refine (unhide C).mono ?_; rintro e w1 ⟨rfl, o1, g1⟩
  have R := hide (And.intro o1 (css.outs_trans (unhide G) g1))
  clear o1 g1 G C
  go_wp2_with fail
  go_ret
  exact ⟨rfl, unhide R⟩

theorem heldCnf (v : Value) (n : Int) (LL : List (List Int)) (k : Int) (w : World) (hn : tot LL ≤ 1048576) (k0 : 0 ≤ k) (k1 : k ≤ 1073741824) (hv : Sls w v (marksS k LL)) :
    Calls Tryd.prog 45 #[.agg #[.int .i64 n, v], .int .i64 k] w fun e w' => e = .returned (.int .i64 (k + (sumLen LL : Int))) ∧ w.grownBy w' none := by
  have C := hide (css.heldIntSS v LL k _ hn k0 k1 (hv.kept (World.grownBy_alloc w (.cells #[.int .i64 n, v] 26) none)))
  have G := hide (World.grownBy_alloc w (.cells #[.int .i64 n, v] 26) none)
  have hq : ¬ k + (sumLen LL : Int) < 0 := by omega
  clear hv
  go_enter Tryd.func45, Tryd.ntmps45
  go_wp2_with fail
  refine (unhide C).mono ?_; rintro e w1 ⟨rfl, hw⟩
  have hw' := hw.symm
  clear hw
  subst hw'
  go_wp2_with fail
  go_ret
  exact ⟨rfl, unhide G⟩
end Go.Proofs.YtibpnocpafppaaaDoor.cf
