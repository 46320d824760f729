/- Machines (a formula, a path and two numbers) in memory, and what the small helpers on them (a size, a copy, an equality, marks) do; no condition but that a machine holds at most 2^20 values. -/
import Derived.Test.YtlpgnaedhijdpaaCf
namespace Go.Proofs.Ytlpgnaedhijdpaa.qa
open Go.ChangeShapes Go.WideShapes Go.ChangeAt Go.RowKit
open Go.Proofs.Ytlpgnaedhijdpaa.sl (Sl Own ints marks hide unhide ret_int ret_bool grown_refl grown_trans grown_drewN below_of of_below)
open Go.Proofs.Ytlpgnaedhijdpaa.css (Sls OwnS Outs tot sumLen marksS)
open Go.Proofs.Ytlpgnaedhijdpaa.cf (Box)
set_option linter.unusedVariables false
/-- block c holds five values, of type t -/
def Box5 (t : TypeId) (w : World) (c : Nat) (a b p x y : Value) : Prop := w.heap[c]? = some (.cells #[a, b, p, x, y] t (0, 0))
theorem Box5.c0 {t : TypeId} {w : World} {c : Nat} {a b p x y : Value} (h : Box5 t w c a b p x y) : w.cell? ⟨c, 0, none⟩ = some a := by
  unfold Box5 at h
  simp [World.cell?, h]
theorem Box5.c1 {t : TypeId} {w : World} {c : Nat} {a b p x y : Value} (h : Box5 t w c a b p x y) : w.cell? ⟨c, 1, none⟩ = some b := by
  unfold Box5 at h
  simp [World.cell?, h]
theorem Box5.c2 {t : TypeId} {w : World} {c : Nat} {a b p x y : Value} (h : Box5 t w c a b p x y) : w.cell? ⟨c, 2, none⟩ = some p := by
  unfold Box5 at h
  simp [World.cell?, h]
theorem Box5.c3 {t : TypeId} {w : World} {c : Nat} {a b p x y : Value} (h : Box5 t w c a b p x y) : w.cell? ⟨c, 3, none⟩ = some x := by
  unfold Box5 at h
  simp [World.cell?, h]
theorem Box5.c4 {t : TypeId} {w : World} {c : Nat} {a b p x y : Value} (h : Box5 t w c a b p x y) : w.cell? ⟨c, 4, none⟩ = some y := by
  unfold Box5 at h
  simp [World.cell?, h]
theorem Box5.f {t : TypeId} {w : World} {c : Nat} {a b p x y : Value} (h : Box5 t w c a b p x y) (i : Nat) : w.frozen? ⟨c, i, none⟩ = false := by
  unfold Box5 at h
  simp [World.frozen?, h]
theorem Box5.lt {t : TypeId} {w : World} {c : Nat} {a b p x y : Value} (h : Box5 t w c a b p x y) : c < w.heap.size := (Array.getElem?_eq_some_iff.1 h).1
theorem Box5.by {t : TypeId} {w w' : World} {c : Nat} {a b p x y : Value} {r : Option Nat} (h : Box5 t w c a b p x y) (g : w.grownBy w' r) (hr : r ≠ some c) : Box5 t w' c a b p x y := by
  unfold Box5
  rw [g.block c h.lt (fun e => hr e.symm)]
  exact h
theorem Box5.kept {t : TypeId} {w w' : World} {c : Nat} {a b p x y : Value} (h : Box5 t w c a b p x y) (g : w.grownBy w' none) : Box5 t w' c a b p x y := h.by g (fun e => by cases e)
theorem Box5.outs {t : TypeId} {w w' : World} {c lo hi : Nat} {a b p x y : Value} (h : Box5 t w c a b p x y) (g : Outs lo hi w w') (d : c < lo ∨ hi ≤ c) : Box5 t w' c a b p x y := by
  unfold Box5
  rw [g.block c h.lt d]
  exact h
theorem Box5.new (t : TypeId) (w : World) (a b p x y : Value) : Box5 t (w.alloc (.cells #[a, b, p, x, y] t)) w.heap.size a b p x y := by
  show (w.heap.push _)[w.heap.size]? = _
  simp
theorem Box5.set0 {t : TypeId} {w : World} {c : Nat} {a b p x y : Value} (h : Box5 t w c a b p x y) (u : Value) : Box5 t (w.setCell ⟨c, 0, none⟩ u) c u b p x y := by
  unfold Box5 at *
  simp [World.setCell, Array.getElem?_modify, h]
theorem Box5.set1 {t : TypeId} {w : World} {c : Nat} {a b p x y : Value} (h : Box5 t w c a b p x y) (u : Value) : Box5 t (w.setCell ⟨c, 1, none⟩ u) c a u p x y := by
  unfold Box5 at *
  simp [World.setCell, Array.getElem?_modify, h]
theorem Box5.set2 {t : TypeId} {w : World} {c : Nat} {a b p x y : Value} (h : Box5 t w c a b p x y) (u : Value) : Box5 t (w.setCell ⟨c, 2, none⟩ u) c a b u x y := by
  unfold Box5 at *
  simp [World.setCell, Array.getElem?_modify, h]
theorem Box5.set3 {t : TypeId} {w : World} {c : Nat} {a b p x y : Value} (h : Box5 t w c a b p x y) (u : Value) : Box5 t (w.setCell ⟨c, 3, none⟩ u) c a b p u y := by
  unfold Box5 at *
  simp [World.setCell, Array.getElem?_modify, h]
theorem Box5.set4 {t : TypeId} {w : World} {c : Nat} {a b p x y : Value} (h : Box5 t w c a b p x y) (u : Value) : Box5 t (w.setCell ⟨c, 4, none⟩ u) c a b p x u := by
  unfold Box5 at *
  simp [World.setCell, Array.getElem?_modify, h]
theorem Box5.setO {t : TypeId} {w : World} {c d i : Nat} {a b p x y u : Value} (h : Box5 t w c a b p x y) (hd : d ≠ c) : Box5 t (w.setCell ⟨d, i, none⟩ u) c a b p x y :=
  h.by (sl.grown_setCell w d i u) (fun e => hd (by cases e; rfl))
theorem sizeM : (Try.prog.info? 51).map (·.size) = some 5 := by kernel_rfl
/-- what is returned through a struct's cells -/
theorem ret_box5 {fn : Func} {q : Tmp} {tmps : Array Value} {w : World} {c : Nat} {a b p x y : Value} (h : fn.results = #[.cell q 51]) (hp : tmps.getD q undef = .pointer (some ⟨c, 0, none⟩)) (hb : Box5 51 w c a b p x y) :
    (results fn tmps).run Try.prog w = .ok (.agg #[a, b, p, x, y]) w :=
  results_cell_row h tmps w c 51 #[a, b, p, x, y] (0, 0) _ hp hb Try.underlying51 rfl sizeM
theorem ret_box52 {fn : Func} {q u : Tmp} {tmps : Array Value} {w : World} {c : Nat} {a b p x y : Value} (h : fn.results = #[.cell q 51, .tmp u]) (hp : tmps.getD q undef = .pointer (some ⟨c, 0, none⟩)) (hb : Box5 51 w c a b p x y) :
    (results fn tmps).run Try.prog w = .ok (.tuple #[.agg #[a, b, p, x, y], tmps.getD u undef]) w := by
  rw [results_cell_tmp h, hp]
  simp only [asAddr, Sem.run_pure, Result.andThen_ok]
  rw [run_loadVar_row w c 51 51 #[a, b, p, x, y] (0, 0) _ hb Try.underlying51 rfl sizeM]
  rfl
/-- a machine's clauses and its path, each in memory of its own, between two marks -/
def OwnM (lo hi : Nat) (w : World) (u p : Value) (LL : List (List Int)) (P : List Int) : Prop := ∃ mid, lo ≤ mid ∧ mid ≤ hi ∧ OwnS lo mid w u LL ∧ Own mid hi w p P
theorem OwnM.kept {lo hi : Nat} {w w' : World} {u p : Value} {LL : List (List Int)} {P : List Int} (h : OwnM lo hi w u p LL P) (g : w.grownBy w' none) : OwnM lo hi w' u p LL P := by
  obtain ⟨m, h1, h2, h3, h4⟩ := h
  exact ⟨m, h1, h2, h3.kept g, h4.kept g⟩
theorem OwnM.outs {lo hi lo' hi' : Nat} {w w' : World} {u p : Value} {LL : List (List Int)} {P : List Int} (h : OwnM lo hi w u p LL P) (g : Outs lo' hi' w w') (d : hi ≤ lo' ∨ hi' ≤ lo) : OwnM lo hi w' u p LL P := by
  obtain ⟨m, h1, h2, h3, h4⟩ := h
  exact ⟨m, h1, h2, h3.outs g (by omega), css.own_outs h4 g (by omega)⟩
theorem OwnM.sls {lo hi : Nat} {w : World} {u p : Value} {LL : List (List Int)} {P : List Int} (h : OwnM lo hi w u p LL P) : Sls w u LL := by
  obtain ⟨m, h1, h2, h3, h4⟩ := h
  exact h3.sls
theorem OwnM.sl {lo hi : Nat} {w : World} {u p : Value} {LL : List (List Int)} {P : List Int} (h : OwnM lo hi w u p LL P) : Sl w p P := by
  obtain ⟨m, h1, h2, h3, h4⟩ := h
  exact h4.sl
theorem OwnM.len {lo hi : Nat} {w : World} {u p : Value} {LL : List (List Int)} {P : List Int} (h : OwnM lo hi w u p LL P) : ∃ a c a' c', u = .slice a LL.length c ∧ p = .slice a' P.length c' := by
  obtain ⟨a, c, h1⟩ := h.sls
  obtain ⟨a', c', h2, _⟩ := h.sl
  exact ⟨a, c, a', c', h1.1, h2⟩
theorem OwnM.sub {lo lo' hi hi' : Nat} {w : World} {u p : Value} {LL : List (List Int)} {P : List Int} (h : OwnM lo hi w u p LL P) (a : lo' ≤ lo) (b : hi ≤ hi') : OwnM lo' hi' w u p LL P := by
  obtain ⟨m, h1, h2, h3, h4⟩ := h
  exact ⟨m, by omega, by omega, h3.sub a (Nat.le_refl _), ⟨h4.1, fun k e => Nat.lt_of_lt_of_le (h4.2 k e) b⟩⟩

set_option maxHeartbeats 1000000 in
theorem szMachine (v : Value) (pa : Option Addr) (pc : Nat) (n st k : Int) (LL : List (List Int)) (P : List Int) (left : Int) (w : World) (h0 : 0 ≤ left) (h1 : left ≤ 1048576) (hn : LL.length ≤ 9223372036854775807) (hin : ∀ i, (LL.getD i []).length ≤ 9223372036854775807) (hp : P.length ≤ 9223372036854775807) (hv : Sls w v LL) :
    Calls Try.prog 26 #[.agg #[.int .i64 n, v, .slice pa P.length pc, .int .i64 st, .int .i64 k], .int .i64 left] w fun e w' => ∃ r : Int, e = .returned (.int .i64 r) ∧ w.grownBy w' none ∧ (r = -1 ∨ 0 ≤ r ∧ r + (tot LL : Int) + (P.length : Int) = left) := by
  have g0 := World.grownBy_alloc w (.cells #[.int .i64 n, v, .slice pa P.length pc, .int .i64 st, .int .i64 k] 47) none
  have G := hide g0
  have C := hide (cf.szCnf v n LL left _ h0 h1 hn hin (hv.kept g0))
  have B := hide (Box5.new 47 w (.int .i64 n) v (.slice pa P.length pc) (.int .i64 st) (.int .i64 k))
  clear hv g0
  go_enter Try.func26, Try.ntmps26
  go_wp2_with fail
  refine (unhide C).mono ?_; rintro e w1 ⟨r, rfl, g1, hr⟩
  have G1 := hide (grown_trans (r := none) (unhide G) g1)
  have b := (unhide B).kept g1
  have x2 := b.c2
  rcases hr with rfl | ⟨hr0, hr1⟩
  · clear b g1 C
    go_wp2_with fail
    go_ret
    exact ⟨_, rfl, unhide G1, .inl rfl⟩
  · have hq : ¬ r < 0 := by omega
    have D := hide (css.szIntS pa P.length pc r w1 hr0 (by omega) hp)
    clear b g1 C
    by_cases hl : r < (P.length : Int)
    · rw [if_pos hl] at D
      clear hl
      go_wp2_with fail
      refine (unhide D).mono ?_; rintro e w' ⟨rfl, hw⟩; have hw' := hw.symm; clear hw; subst hw'
      go_wp2_with fail
      go_ret
      exact ⟨_, rfl, unhide G1, .inl rfl⟩
    · rw [if_neg hl] at D
      have R := hide (And.intro hr1 hl)
      have hq2 : ¬ r - (P.length : Int) < 0 := by omega
      clear hl hr1
      go_wp2_with fail
      refine (unhide D).mono ?_; rintro e w' ⟨rfl, hw⟩; have hw' := hw.symm; clear hw; subst hw'
      go_wp2_with fail
      go_ret
      have := unhide R
      exact ⟨_, rfl, unhide G1, .inr (by omega)⟩

set_option maxRecDepth 100000 in
set_option maxHeartbeats 4000000 in
theorem toMachine (v q : Value) (n st k : Int) (LL : List (List Int)) (P : List Int) (w : World) (hn : tot LL ≤ 1048576) (hP : P.length ≤ 1048576) (hv : Sls w v LL) (hp : Sl w q P) :
    Calls Try.prog 28 #[.agg #[.int .i64 n, v, q, .int .i64 st, .int .i64 k]] w fun e w' => ∃ u p, e = .returned (.agg #[.int .i64 n, u, p, .int .i64 st, .int .i64 k]) ∧ OwnM w.heap.size w'.heap.size w' u p LL P ∧ w.grownBy w' none := by
  have C := hide (fun w1 (g : w.grownBy w1 none) => cf.toCnf v n LL w1 hn (hv.kept g))
  have D := hide (fun w1 (g : w.grownBy w1 none) => sl.toIntS q P w1 hP (hp.kept g (.inl rfl)))
  have g0 : w.grownBy (((w.alloc (.cells #[.int .i64 n, v, q, .int .i64 st, .int .i64 k] 47)).alloc (.cells #[.int .i64 0, .slice none 0 0, .slice none 0 0, .int .i64 0, .int .i64 0] 51)).alloc (.cells #[.int .i64 0, .slice none 0 0, .slice none 0 0, .int .i64 0, .int .i64 0] 51)) none :=
    grown_trans (grown_trans (World.grownBy_alloc _ _ _) (World.grownBy_alloc _ _ _)) (World.grownBy_alloc _ _ _)
  have b1 := ((Box5.new 47 w (.int .i64 n) v q (.int .i64 st) (.int .i64 k)).kept (World.grownBy_alloc _ (.cells #[.int .i64 0, .slice none 0 0, .slice none 0 0, .int .i64 0, .int .i64 0] 51) none)).kept (World.grownBy_alloc _ (.cells #[.int .i64 0, .slice none 0 0, .slice none 0 0, .int .i64 0, .int .i64 0] 51) none)
  have b2 := (Box5.new 51 (w.alloc (.cells #[.int .i64 n, v, q, .int .i64 st, .int .i64 k] 47)) (.int .i64 0) (.slice none 0 0) (.slice none 0 0) (.int .i64 0) (.int .i64 0)).kept (World.grownBy_alloc _ (.cells #[.int .i64 0, .slice none 0 0, .slice none 0 0, .int .i64 0, .int .i64 0] 51) none)
  have b3 := Box5.new 51 ((w.alloc (.cells #[.int .i64 n, v, q, .int .i64 st, .int .i64 k] 47)).alloc (.cells #[.int .i64 0, .slice none 0 0, .slice none 0 0, .int .i64 0, .int .i64 0] 51)) (.int .i64 0) (.slice none 0 0) (.slice none 0 0) (.int .i64 0) (.int .i64 0)
  simp only [World.size_alloc] at b1 b2 b3
  have B1 := hide b1
  have B2 := hide b2
  have B3 := hide b3
  have G0 := hide g0
  clear hv hp g0 b1 b2 b3
  go_enter Try.func28, Try.ntmps28
  go_wp2_with fail
  refine (unhide C _ (unhide G0)).mono ?_; rintro e w1 ⟨u, rfl, o1, g1⟩
  obtain ⟨ua, uc, rfl⟩ := o1.len
  have x0 := ((unhide B1).kept g1).c2
  have x1 := ((unhide B1).kept g1).c3
  have x2 := ((unhide B1).kept g1).c4
  have y0 := ((unhide B3).kept g1).c0
  have y1 := ((unhide B3).kept g1).c1
  have y2 := ((unhide B3).kept g1).c2
  have f0 := ((unhide B3).kept g1).f 0
  have f1 := ((unhide B3).kept g1).f 1
  have R1 := hide o1
  have G1 := hide g1
  simp only [World.size_alloc] at R1
  clear o1 g1 C
  go_wp2_with fail
  have F2 : Hid (w.grownBy ((w1.setCell ⟨w.heap.size + 1 + 1, 0, none⟩ (.int .i64 n)).setCell ⟨w.heap.size + 1 + 1, 1, none⟩ (.slice ua LL.length uc)) none ∧
      Box5 47 ((w1.setCell ⟨w.heap.size + 1 + 1, 0, none⟩ (.int .i64 n)).setCell ⟨w.heap.size + 1 + 1, 1, none⟩ (.slice ua LL.length uc)) w.heap.size (.int .i64 n) v q (.int .i64 st) (.int .i64 k) ∧
      Box5 51 ((w1.setCell ⟨w.heap.size + 1 + 1, 0, none⟩ (.int .i64 n)).setCell ⟨w.heap.size + 1 + 1, 1, none⟩ (.slice ua LL.length uc)) (w.heap.size + 1) (.int .i64 0) (.slice none 0 0) (.slice none 0 0) (.int .i64 0) (.int .i64 0) ∧
      Box5 51 ((w1.setCell ⟨w.heap.size + 1 + 1, 0, none⟩ (.int .i64 n)).setCell ⟨w.heap.size + 1 + 1, 1, none⟩ (.slice ua LL.length uc)) (w.heap.size + 1 + 1) (.int .i64 n) (.slice ua LL.length uc) (.slice none 0 0) (.int .i64 0) (.int .i64 0) ∧
      OwnS (w.heap.size + 1 + 1 + 1) w1.heap.size ((w1.setCell ⟨w.heap.size + 1 + 1, 0, none⟩ (.int .i64 n)).setCell ⟨w.heap.size + 1 + 1, 1, none⟩ (.slice ua LL.length uc)) (.slice ua LL.length uc) LL ∧
      w1.heap.size ≤ ((w1.setCell ⟨w.heap.size + 1 + 1, 0, none⟩ (.int .i64 n)).setCell ⟨w.heap.size + 1 + 1, 1, none⟩ (.slice ua LL.length uc)).heap.size) := by
    refine ⟨cf.grown_set (cf.grown_set (grown_trans (unhide G0) (unhide G1)) (by omega)) (by omega), ((((unhide B1).kept (unhide G1)).setO (by omega)).setO (by omega)), ((((unhide B2).kept (unhide G1)).setO (by omega)).setO (by omega)), ((((unhide B3).kept (unhide G1)).set0 _).set1 _), cf.ownS_set (cf.ownS_set (unhide R1) (by omega)) (by omega), ?_⟩
    rw [cf.size_set, cf.size_set]
    exact Nat.le_refl _
  have hs1 : Hid (w.heap.size + 1 + 1 + 1 ≤ w1.heap.size) := by
    have := (unhide G1).size
    simp only [World.size_alloc] at this
    exact this
  clear x0 x1 x2 y0 y1 y2 f0 f1 B1 B2 B3 G0 G1 R1
  generalize (w1.setCell ⟨w.heap.size + 1 + 1, 0, none⟩ (.int .i64 n)).setCell ⟨w.heap.size + 1 + 1, 1, none⟩ (.slice ua LL.length uc) = w2 at *
  refine (unhide D w2 (unhide F2).1).mono ?_; rintro e w3 ⟨rfl, o3, g3⟩
  have F3 : Hid (w.grownBy w3 none ∧ Box5 47 w3 w.heap.size (.int .i64 n) v q (.int .i64 st) (.int .i64 k) ∧ Box5 51 w3 (w.heap.size + 1) (.int .i64 0) (.slice none 0 0) (.slice none 0 0) (.int .i64 0) (.int .i64 0) ∧
      Box5 51 w3 (w.heap.size + 1 + 1) (.int .i64 n) (.slice ua LL.length uc) (.slice none 0 0) (.int .i64 0) (.int .i64 0) ∧
      OwnM (w.heap.size + 1 + 1 + 1) w3.heap.size w3 (.slice ua LL.length uc) (.slice (some ⟨w2.heap.size, 0, none⟩) P.length P.length) LL P) := by
    obtain ⟨a1, a2, a3, a4, a5, a6⟩ := unhide F2
    have := unhide hs1
    have h3 := g3.size
    exact ⟨grown_trans a1 g3, a2.kept g3, a3.kept g3, a4.kept g3, w2.heap.size, by omega, by omega, (a5.kept g3).sub (Nat.le_refl _) a6, sl.Own.of o3⟩
  obtain ⟨_, b1, b2, b3, _⟩ := unhide F3
  have x1 := b1.c3
  have x2 := b1.c4
  have y0 := b3.c0
  have y1 := b3.c1
  have y2 := b3.c2
  have y3 := b3.c3
  have y4 := b3.c4
  have f2 := b3.f 2
  have f3 := b3.f 3
  have f4 := b3.f 4
  have z0 := b2.c0
  have z1 := b2.c1
  have z2 := b2.c2
  have z3 := b2.c3
  have z4 := b2.c4
  have k0 := b2.f 0
  have k1 := b2.f 1
  have k2 := b2.f 2
  have k3 := b2.f 3
  have k4 := b2.f 4
  clear o3 g3 F2 hs1 D b1 b2 b3
  go_wp2_with fail
  obtain ⟨a1, a2, a3, a4, a5⟩ := unhide F3
  (try simp only [Exit.inBlock, Exit.then])
  refine bodyPost_ret (ret_box5 rfl rfl ((((((((a3.setO (d := w.heap.size + 1 + 1) (i := 2) (by omega)).setO (d := w.heap.size + 1 + 1) (i := 3) (by omega)).setO (d := w.heap.size + 1 + 1) (i := 4) (by omega)).set0 _).set1 _).set2 _).set3 _).set4 _)) rfl ⟨_, _, rfl, ?_, ?_⟩
  · simp only [cf.size_set]
    obtain ⟨m, m1, m2, m3, m4⟩ := a5
    have own : ∀ {wx : World} {c i : Nat} {u : Value}, c < w.heap.size + 1 + 1 + 1 → OwnM (w.heap.size + 1 + 1 + 1) w3.heap.size wx (.slice ua LL.length uc) (.slice (some ⟨w2.heap.size, 0, none⟩) P.length P.length) LL P → OwnM (w.heap.size + 1 + 1 + 1) w3.heap.size (wx.setCell ⟨c, i, none⟩ u) (.slice ua LL.length uc) (.slice (some ⟨w2.heap.size, 0, none⟩) P.length P.length) LL P := fun {wx c i u} hc h =>
      h.outs (css.outs_by (lo := c) (hi := c + 1) (sl.grown_setCell wx c i u) (fun k e => by cases e; omega)) (by omega)
    refine (own (by omega) (own (by omega) (own (by omega) (own (by omega) (own (by omega) (own (by omega) (own (by omega) (own (by omega) ⟨m, m1, m2, m3, m4⟩)))))))).sub (by omega) (Nat.le_refl _)
  · exact cf.grown_set (cf.grown_set (cf.grown_set (cf.grown_set (cf.grown_set (cf.grown_set (cf.grown_set (cf.grown_set a1 (by omega)) (by omega)) (by omega)) (by omega)) (by omega)) (by omega)) (by omega)) (by omega)

set_option maxHeartbeats 1000000 in
theorem eqMachine (v u p q : Value) (n st k : Int) (LL : List (List Int)) (P : List Int) (w : World) (hn : tot LL ≤ 1048576) (hP : P.length ≤ 1048576) (hv : Sls w v LL) (hu : Sls w u LL) (hp : Sl w p P) (hq : Sl w q P) :
    Calls Try.prog 30 #[.agg #[.int .i64 n, v, p, .int .i64 st, .int .i64 k], .agg #[.int .i64 n, u, q, .int .i64 st, .int .i64 k]] w fun e w' => e = .returned (.bool true) ∧ w.grownBy w' none := by
  have g0 : w.grownBy ((w.alloc (.cells #[.int .i64 n, v, p, .int .i64 st, .int .i64 k] 51)).alloc (.cells #[.int .i64 n, u, q, .int .i64 st, .int .i64 k] 51)) none := grown_trans (World.grownBy_alloc _ _ _) (World.grownBy_alloc _ _ _)
  have b1 := (Box5.new 51 w (.int .i64 n) v p (.int .i64 st) (.int .i64 k)).kept (World.grownBy_alloc _ (.cells #[.int .i64 n, u, q, .int .i64 st, .int .i64 k] 51) none)
  have b2 := Box5.new 51 (w.alloc (.cells #[.int .i64 n, v, p, .int .i64 st, .int .i64 k] 51)) (.int .i64 n) u q (.int .i64 st) (.int .i64 k)
  rw [World.size_alloc] at b2
  have C := hide (cf.eqCnf v u n LL _ hn (hv.kept g0) (hu.kept g0))
  have D := hide (fun w1 (g : w.grownBy w1 none) => sl.eqIntS p q P w1 hP (hp.kept g (.inl rfl)) (hq.kept g (.inl rfl)))
  have B1 := hide b1
  have B2 := hide b2
  have G := hide g0
  clear hv hu hp hq g0 b1 b2
  go_enter Try.func30, Try.ntmps30
  go_wp2_with fail
  refine (unhide C).mono ?_; rintro e w1 ⟨rfl, g1⟩
  have G1 := hide (grown_trans (r := none) (unhide G) g1)
  have x2 := ((unhide B1).kept g1).c2
  have y2 := ((unhide B2).kept g1).c2
  have C1 := hide ((unhide B1).kept g1)
  have C2 := hide ((unhide B2).kept g1)
  clear g1 G C B1 B2
  go_wp2_with fail
  refine (unhide D w1 (unhide G1)).mono ?_; rintro e w2 ⟨rfl, g2⟩
  have R := hide (grown_trans (r := none) (unhide G1) g2)
  have x3 := ((unhide C1).kept g2).c3
  have y3 := ((unhide C2).kept g2).c3
  have x4 := ((unhide C1).kept g2).c4
  have y4 := ((unhide C2).kept g2).c4
  clear g2 G1 C1 C2 D x2 y2
  go_wp2_with fail
  go_ret
  exact ⟨rfl, unhide R⟩

set_option maxHeartbeats 1000000 in
theorem markMachine (v p : Value) (n st kk : Int) (LL : List (List Int)) (P : List Int) (k : Int) (lo hi : Nat) (w : World) (hn : tot LL ≤ 1048576) (hP : P.length ≤ 1048576) (k0 : 0 ≤ k) (k1 : k ≤ 1048576) (hh : hi ≤ w.heap.size) (ho : OwnM lo hi w v p LL P) :
    Calls Try.prog 33 #[.agg #[.int .i64 n, v, p, .int .i64 st, .int .i64 kk], .int .i64 k] w fun e w' => e = .returned (.int .i64 (k + (sumLen LL : Int) + (P.length : Int))) ∧ OwnM lo hi w' v p (marksS k LL) (marks (k + (sumLen LL : Int)) P.length) ∧ Outs lo hi w w' := by
  obtain ⟨m, m1, m2, m3, m4⟩ := ho
  have g0 := World.grownBy_alloc w (.cells #[.int .i64 n, v, p, .int .i64 st, .int .i64 kk] 51) none
  have hsl : sumLen LL ≤ 1048576 := Nat.le_trans (css.sumLen_le LL) hn
  have C := hide (cf.markCnf v n LL k lo m _ hn k0 (by omega) (m3.kept g0))
  have O4 := hide (m4.kept g0)
  have B := hide (Box5.new 51 w (.int .i64 n) v p (.int .i64 st) (.int .i64 kk))
  have G := hide g0
  clear g0
  go_enter Try.func33, Try.ntmps33
  go_wp2_with fail
  refine (unhide C).mono ?_; rintro e w1 ⟨rfl, o1, g1⟩
  have b1 := (unhide B).outs g1 (.inr (by omega))
  have x2 := b1.c2
  have o4 := css.own_outs (unhide O4) g1 (.inr (Nat.le_refl _))
  have D := hide (sl.markIntS p P (k + (sumLen LL : Int)) m w1 hP (by omega) (by omega) o4.1)
  have R := hide (And.intro o1 (And.intro o4 (css.outs_trans (css.outs_none (lo := lo) (hi := hi) (unhide G)) (css.outs_sub g1 (Nat.le_refl _) m2))))
  clear b1 o1 o4 g1 C O4 B G m3 m4
  go_wp2_with fail
  refine (unhide D).mono ?_; rintro e w2 ⟨rfl, o2, g2⟩
  obtain ⟨r1, r2, r3⟩ := unhide R
  have gg : Outs m hi w1 w2 := css.outs_by g2 (fun q hq => And.intro (r2.1.lt q hq).1 (r2.2 q hq))
  have F := hide (And.intro (show OwnM lo hi w2 v p (marksS k LL) (marks (k + (sumLen LL : Int)) P.length) from ⟨m, m1, m2, r1.outs gg (.inl (Nat.le_refl _)), r2.marked o2⟩) (css.outs_trans r3 (css.outs_sub gg m1 (Nat.le_refl _))))
  clear r1 r2 r3 gg o2 g2 R D x2
  go_wp2_with fail
  go_ret
  exact ⟨rfl, unhide F⟩

set_option maxHeartbeats 1000000 in
theorem heldMachine (v p : Value) (n st kk : Int) (LL : List (List Int)) (P : List Int) (k : Int) (w : World) (hn : tot LL ≤ 1048576) (hP : P.length ≤ 1048576) (k0 : 0 ≤ k) (k1 : k ≤ 1048576) (hv : Sls w v (marksS k LL)) (hp : Sl w p (marks (k + (sumLen LL : Int)) P.length)) :
    Calls Try.prog 34 #[.agg #[.int .i64 n, v, p, .int .i64 st, .int .i64 kk], .int .i64 k] w fun e w' => e = .returned (.int .i64 (k + (sumLen LL : Int) + (P.length : Int))) ∧ w.grownBy w' none := by
  have g0 := World.grownBy_alloc w (.cells #[.int .i64 n, v, p, .int .i64 st, .int .i64 kk] 51) none
  have hsl : sumLen LL ≤ 1048576 := Nat.le_trans (css.sumLen_le LL) hn
  have C := hide (cf.heldCnf v n LL k _ hn k0 (by omega) (hv.kept g0))
  have D := hide (fun w1 (g : w.grownBy w1 none) => sl.heldIntS p P.length (k + (sumLen LL : Int)) w1 hP (by omega) (by omega) (hp.kept g (.inl rfl)))
  have B := hide (Box5.new 51 w (.int .i64 n) v p (.int .i64 st) (.int .i64 kk))
  have G := hide g0
  have hq1 : ¬ k + (sumLen LL : Int) < 0 := by omega
  have hq2 : ¬ k + (sumLen LL : Int) + (P.length : Int) < 0 := by omega
  clear hv hp g0
  go_enter Try.func34, Try.ntmps34
  go_wp2_with fail
  refine (unhide C).mono ?_; rintro e w1 ⟨rfl, g1⟩
  have x2 := ((unhide B).kept g1).c2
  have G1 := hide (grown_trans (r := none) (unhide G) g1)
  clear g1 B G C
  go_wp2_with fail
  refine (unhide D w1 (unhide G1)).mono ?_; rintro e w2 ⟨rfl, hw⟩
  have hw' := hw.symm
  clear hw
  subst hw'
  go_wp2_with fail
  go_ret
  exact ⟨rfl, unhide G1⟩
end Go.Proofs.Ytlpgnaedhijdpaa.qa
