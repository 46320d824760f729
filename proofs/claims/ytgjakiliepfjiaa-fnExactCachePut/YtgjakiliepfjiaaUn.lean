/- What the shelf's find does; no condition but on sizes. -/
import Derived.Test.YtgjakiliepfjiaaUm
namespace Go.Proofs.Ytgjakiliepfjiaa.ua
open Go.ChangeShapes Go.WideShapes Go.ChangeAt Go.RowKit Go.Maps Go.MuLone
open Go.Proofs.Ytgjakiliepfjiaa.sl (Sl Own ints marks hide unhide ret_int ret_bool grown_refl grown_trans grown_drewN below_of of_below)
open Go.Proofs.Ytgjakiliepfjiaa.css (Outs outs_trans outs_none outs_by outs_refl own_mono own_sub own_outs own_kind)
open Go.Proofs.Ytgjakiliepfjiaa.yb (Box4)
open Go.Proofs.Ytgjakiliepfjiaa.cf (Box)
set_option linter.unusedVariables false
theorem Shf.by {w0 wr w1 : World} {s bm r : Nat} {lk room : Int} {v : Value} {E : List Kn} {D : DataW Unit} (h : Shf w0 wr s bm lk room v E D) (g : wr.grownBy w1 (some r)) (hr : w0.heap.size ≤ r) (h1 : r ≠ s) (h2 : r ≠ bm) (h3 : v.ownBlock ≠ some r) : Shf w0 w1 s bm lk room v E D :=
  ⟨grown_in h.g g hr, (g.block s h.lt (fun e => by cases e; exact h1 rfl)).trans h.blk, h.own.kept g (fun k e => by cases e; exact h3), h.map.kept g (by intro e; cases e; exact h2 rfl), h.hs, h.hb⟩
theorem Shf.far {w0 wr : World} {s bm : Nat} {lk room : Int} {v : Value} {E : List Kn} {D : DataW Unit} (h : Shf w0 wr s bm lk room v E D) {r : Nat} (hr : wr.heap.size ≤ r) : r ≠ s ∧ r ≠ bm ∧ v.ownBlock ≠ some r := by
  have a := h.lt
  have b := h.map.lt
  refine ⟨by omega, by omega, fun e => ?_⟩
  obtain ⟨D', _, hw, _⟩ := h.own
  have := (hw.lt r e).2
  omega
/-- what find answers where nothing is found -/
def NoneE (w0 : World) (s bm : Nat) (room : Int) (v : Value) (E : List Kn) (D : DataW Unit) (e : Ending) (w' : World) : Prop := e = .returned (.tuple #[.agg #[.string ⟨#[]⟩, .bool false, .slice none 0 0, .int .i64 0], .bool false]) ∧ Shf w0 w' s bm 0 room v E D
/-- .. where k is -/
def FoundE (w0 : World) (s bm : Nat) (room : Int) (E : List Kn) (D : DataW Unit) (k : Kn) (e : Ending) (w' : World) : Prop := ∃ u v lo, e = .returned (.tuple #[.agg #[.string k.dg, .bool k.sat, u, .int .i64 k.cost], .bool true]) ∧ Shf w0 w' s bm 0 room v (E ++ [k]) (D.put (key k.dg) (num E.length)) ∧ w'.ownsRow lo 3 1 u k.vals.length (ints k.vals) ∧ s < lo ∧ w0.heap.size ≤ lo
set_option maxRecDepth 10000 in
set_option maxHeartbeats 4000000 in
theorem findNo (s bm : Nat) (room : Int) (v : Value) (E : List Kn) (D : DataW Unit) (w0 wq : World) (d : ByteArray) (c : Int) (h : Shf w0 wq s bm 0 room v E D) (hd : d.size ≤ maxLen) (ht : Told D d c false) :
    Calls Try.prog 37 #[.pointer (some ⟨s, 0, none⟩), .string d] wq fun e w' => NoneE w0 s bm room v E D e w' := by
  obtain ⟨W1, hW1⟩ : ∃ W1, W1 = wq.alloc (.cells #[.string ⟨#[]⟩, .bool false, .slice none 0 0, .int .i64 0] 29) := ⟨_, rfl⟩
  have g1 : wq.grownBy W1 none := by rw [hW1]; exact World.grownBy_alloc _ _ _
  have R1 : Box4 29 W1 wq.heap.size (.string ⟨#[]⟩) (.bool false) (.slice none 0 0) (.int .i64 0) := by rw [hW1]; exact Box4.new _ _ _ _ _ _
  have S1 := h.kept g1
  have C1 := hide (lock_free Try.muLib ⟨s, 0, none⟩ W1 S1.cells.1 (S1.cells.2.2.2.2 0))
  have S2 := S1.lock 1
  have hsl := h.lt
  have hne : ¬ wq.heap.size = s := by omega
  have HF := hide (h.far (Nat.le_refl _))
  have hw0 := h.g.size
  have hne' : ¬ s = wq.heap.size := by omega
  have R2 := R1.setO (d := s) (i := 0) (u := .int .i32 1) hne'
  generalize W1.setCell ⟨s, 0, none⟩ (.int .i32 1) = W2 at *
  obtain ⟨c', b', hlk, ht'⟩ := look S2.map hd
  obtain ⟨rfl, rfl⟩ := ht.one ht'
  have SL := hide S2
  have HR := hide R2
  have m4 := S2.cells.2.2.2.1
  have r0 := R2.c0
  have r1 := R2.c1
  have r2 := R2.c2
  have r3 := R2.c3
  have rf0 := R2.f 0
  have rf1 := R2.f 1
  have rf2 := R2.f 2
  have rf3 := R2.f 3
  clear g1 R1 S1 S2 R2 h ht ht'
  go_enter_defers Try.func37, Try.ntmps37
  go_wp2_with fail
  rw [← hW1]
  clear hW1
  refine (unhide C1).mono ?_; rintro e w' ⟨rfl, rfl⟩
  clear C1
  go_wp2_with fail
  obtain ⟨W9, hW9⟩ : ∃ W9, W9 = (((w'.setCell ⟨wq.heap.size, 0, none⟩ (.string ⟨#[]⟩)).setCell ⟨wq.heap.size, 1, none⟩ (.bool false)).setCell ⟨wq.heap.size, 2, none⟩ (.slice none 0 0)).setCell ⟨wq.heap.size, 3, none⟩ (.int .i64 0) := ⟨_, rfl⟩
  have gw : w'.grownBy W9 (some wq.heap.size) := by
    rw [hW9]
    exact sl.grown_trans' (sl.grown_trans' (sl.grown_trans' (sl.grown_setCell _ _ _ _) (sl.grown_setCell _ _ _ _)) (sl.grown_setCell _ _ _ _)) (sl.grown_setCell _ _ _ _)
  have RB : Box4 29 W9 wq.heap.size (.string ⟨#[]⟩) (.bool false) (.slice none 0 0) (.int .i64 0) := by rw [hW9]; exact (unhide HR).setA _ _ _ _
  have S9 := (unhide SL).by gw hw0 (unhide HF).1 (unhide HF).2.1 (unhide HF).2.2
  rw [← hW9]
  refine leaves_cons (f := 58) (args := #[.pointer (some ⟨s, 0, none⟩)]) (by simp) (by simp [go_sem]) ?_
  refine (unlock_deferred Try.muLib ⟨s, 0, none⟩ .returning _ S9.cells.1 (S9.cells.2.2.2.2 0)).mono ?_
  rintro e u' w'' ⟨rfl, rfl, rfl⟩
  simp [Leaves, settle]
  refine ⟨_, ret_known2 rfl rfl (RB.setO (d := s) (i := 0) (u := .int .i32 0) hne'), ?_⟩
  exact ⟨rfl, S9.lock 0⟩
set_option maxRecDepth 10000 in
set_option maxHeartbeats 4000000 in
theorem findYes (s bm j : Nat) (room : Int) (v : Value) (E : List Kn) (D : DataW Unit) (w0 wq : World) (d : ByteArray) (h : Shf w0 wq s bm 0 room v E D) (hd : d.size ≤ maxLen) (hE : E.length ≤ 1048576) (hj : j < E.length) (hdj : (E.getD j kz).dg.size ≤ maxLen) (hL : (E.getD j kz).vals.length ≤ 1048576) (ht : Told D d (j : Int) true) :
    Calls Try.prog 37 #[.pointer (some ⟨s, 0, none⟩), .string d] wq fun e w' => FoundE w0 s bm room E D (E.getD j kz) e w' := by
  obtain ⟨W1, hW1⟩ : ∃ W1, W1 = wq.alloc (.cells #[.string ⟨#[]⟩, .bool false, .slice none 0 0, .int .i64 0] 29) := ⟨_, rfl⟩
  have g1 : wq.grownBy W1 none := by rw [hW1]; exact World.grownBy_alloc _ _ _
  have s1 : W1.heap.size = wq.heap.size + 1 := by rw [hW1, World.size_alloc]
  have R1 : Box4 29 W1 wq.heap.size (.string ⟨#[]⟩) (.bool false) (.slice none 0 0) (.int .i64 0) := by rw [hW1]; exact Box4.new _ _ _ _ _ _
  have S1 := h.kept g1
  have C1 := hide (lock_free Try.muLib ⟨s, 0, none⟩ W1 S1.cells.1 (S1.cells.2.2.2.2 0))
  have S2 := S1.lock 1
  have hsl := h.lt
  have HF := hide (h.far (Nat.le_refl _))
  have HF1 := hide (h.far (Nat.le_succ _))
  have hw0 := h.g.size
  have hne' : ¬ s = wq.heap.size := by omega
  have R2 := R1.setO (d := s) (i := 0) (u := .int .i32 1) hne'
  have s2 : (W1.setCell ⟨s, 0, none⟩ (.int .i32 1)).heap.size = wq.heap.size + 1 := by rw [cf.size_set, s1]
  generalize W1.setCell ⟨s, 0, none⟩ (.int .i32 1) = W2 at *
  obtain ⟨c', b', hlk, ht'⟩ := look S2.map hd
  obtain ⟨rfl, rfl⟩ := ht.one ht'
  obtain ⟨g, cap, u, rfl, c0, c1, c2, c3, hvl⟩ := S2.own.at hj
  have SL := hide S2
  have HR := hide R2
  have m4 := S2.cells.2.2.2.1
  have m3 := S2.cells.2.2.1
  have hi' : (j : Int) < (E.length : Int) := by omega
  generalize E.getD j kz = x at *
  obtain ⟨dg, sat, vals, cost⟩ := x
  dsimp only at *
  obtain ⟨ua, uc, rfl, _⟩ := hvl.sl
  obtain ⟨W3, hW3⟩ : ∃ W3, W3 = W2.alloc (.cells #[.string dg, .bool sat, .slice ua vals.length uc, .int .i64 cost] 29) := ⟨_, rfl⟩
  have g3 : W2.grownBy W3 none := by rw [hW3]; exact World.grownBy_alloc _ _ _
  have B3 : Box4 29 W3 (wq.heap.size + 1) (.string dg) (.bool sat) (.slice ua vals.length uc) (.int .i64 cost) := by
    rw [hW3]
    have := Box4.new 29 W2 (.string dg) (.bool sat) (.slice ua vals.length uc) (.int .i64 cost)
    rw [s2] at this
    exact this
  have CU := hide (use_ (.slice ua vals.length uc) ⟨dg, sat, vals, cost⟩ s bm room _ E D w0 W3 (S2.kept g3) hE hdj hvl)
  dsimp only at CU
  have HB := hide B3
  have HV := hide hvl
  have R3 := hide (R2.kept g3)
  clear g1 R1 S1 S2 R2 h ht ht' hvl s1
  go_enter_defers Try.func37, Try.ntmps37
  go_wp2_with fail
  rw [← hW1]
  clear hW1
  refine (unhide C1).mono ?_; rintro e w' ⟨rfl, rfl⟩
  clear C1
  go_upto_region 7 with fail
  rw [← hW3]
  clear m3 m4 hlk c0 c1 c2 c3
  have s3 : W3.heap.size = wq.heap.size + 1 + 1 := by rw [hW3, World.size_alloc, s2]
  clear hW3
  have y0 := (unhide HB).c0
  have y1 := (unhide HB).c1
  have y2 := (unhide HB).c2
  have y3 := (unhide HB).c3
  go_wp2_with fail
  refine (unhide CU).mono ?_; rintro e w4 ⟨rfl, v4, S4, fr4, lc4⟩
  clear y0 y1 y2 y3 CU
  have B4 : Hid (Box4 29 w4 (wq.heap.size + 1) (.string dg) (.bool sat) (.slice ua vals.length uc) (.int .i64 cost)) := (fr4 _ (by omega) (unhide HF1).1 (unhide HF1).2.1 (unhide HF1).2.2).trans (unhide HB)
  have R4 : Hid (Box4 29 w4 wq.heap.size (.string ⟨#[]⟩) (.bool false) (.slice none 0 0) (.int .i64 0)) := (fr4 _ (by omega) (unhide HF).1 (unhide HF).2.1 (unhide HF).2.2).trans (unhide R3)
  have CC := hide (copyKnown (.slice ua vals.length uc) ⟨dg, sat, vals, cost⟩ w4 hL ((unhide HV).kept S4.g))
  dsimp only at CC
  have S4' := hide S4
  have l4 := S4.lt
  have r4 := (unhide R4).lt
  have N4 : Hid (v4.ownBlock ≠ some wq.heap.size) := fun e => by
    rcases lc4 _ e with q | q
    · exact (unhide HF).2.2 q
    · omega
  have y0 := (unhide B4).c0
  have y1 := (unhide B4).c1
  have y2 := (unhide B4).c2
  have y3 := (unhide B4).c3
  clear fr4 lc4 S4 HB R3 HV SL
  go_wp2_with fail
  refine (unhide CC).mono ?_; rintro e w5 ⟨v5, rfl, o5, g5⟩
  obtain ⟨v5a, v5c, rfl, _⟩ := Sl.of_own o5
  have R5 := hide ((unhide R4).kept g5)
  have S5 := hide ((unhide S4').kept g5)
  have O5 := hide o5
  have r0 := (unhide R5).c0
  have r1 := (unhide R5).c1
  have r2 := (unhide R5).c2
  have r3 := (unhide R5).c3
  have rf0 := (unhide R5).f 0
  have rf1 := (unhide R5).f 1
  have rf2 := (unhide R5).f 2
  have rf3 := (unhide R5).f 3
  clear y0 y1 y2 y3 CC o5 g5 B4 R4 S4'
  go_wp2_with fail
  obtain ⟨W9, hW9⟩ : ∃ W9, W9 = (((w5.setCell ⟨wq.heap.size, 0, none⟩ (.string dg)).setCell ⟨wq.heap.size, 1, none⟩ (.bool sat)).setCell ⟨wq.heap.size, 2, none⟩ (.slice v5a vals.length v5c)).setCell ⟨wq.heap.size, 3, none⟩ (.int .i64 cost) := ⟨_, rfl⟩
  have gw : w5.grownBy W9 (some wq.heap.size) := by
    rw [hW9]
    exact sl.grown_trans' (sl.grown_trans' (sl.grown_trans' (sl.grown_setCell _ _ _ _) (sl.grown_setCell _ _ _ _)) (sl.grown_setCell _ _ _ _)) (sl.grown_setCell _ _ _ _)
  have RB : Box4 29 W9 wq.heap.size (.string dg) (.bool sat) (.slice v5a vals.length v5c) (.int .i64 cost) := by rw [hW9]; exact (unhide R5).setA _ _ _ _
  have S9 := (unhide S5).by gw hw0 (unhide HF).1 (unhide HF).2.1 (unhide N4)
  have O9 : W9.ownsRow w4.heap.size 3 1 (.slice v5a vals.length v5c) vals.length (ints vals) := by rw [hW9]; exact row_set (row_set (row_set (row_set (unhide O5) r4) r4) r4) r4
  rw [← hW9]
  refine leaves_cons (f := 58) (args := #[.pointer (some ⟨s, 0, none⟩)]) (by simp) (by simp [go_sem]) ?_
  refine (unlock_deferred Try.muLib ⟨s, 0, none⟩ .returning _ S9.cells.1 (S9.cells.2.2.2.2 0)).mono ?_
  rintro e u' w'' ⟨rfl, rfl, rfl⟩
  simp [Leaves, settle]
  refine ⟨_, ret_known2 rfl rfl (RB.setO (d := s) (i := 0) (u := .int .i32 0) hne'), ?_⟩
  exact ⟨_, v4, w4.heap.size, rfl, S9.lock 0, row_set O9 l4, l4, by omega⟩
end Go.Proofs.Ytgjakiliepfjiaa.ua
