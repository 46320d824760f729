/- What the shelf's put does; no condition but on sizes. -/
import Derived.Test.YtgjakiliepfjiaaUn
namespace Go.Proofs.Ytgjakiliepfjiaa.ua
open Go.ChangeShapes Go.WideShapes Go.ChangeAt Go.RowKit Go.Maps Go.MuLone
open Go.Proofs.Ytgjakiliepfjiaa.sl (Sl Own ints marks hide unhide ret_int ret_bool grown_refl grown_trans grown_drewN below_of of_below)
open Go.Proofs.Ytgjakiliepfjiaa.css (Outs outs_trans outs_none outs_by outs_refl own_mono own_sub own_outs own_kind)
open Go.Proofs.Ytgjakiliepfjiaa.yb (Box4)
open Go.Proofs.Ytgjakiliepfjiaa.cf (Box)
set_option linter.unusedVariables false
set_option maxRecDepth 10000 in
set_option maxHeartbeats 4000000 in
/-- .. where nothing is too much -/
theorem putA (s bm : Nat) (room : Int) (v : Value) (E : List Kn) (D : DataW Unit) (w0 wq : World) (u : Value) (k : Kn) (h : Shf w0 wq s bm 0 room v E D) (hE : E.length ≤ 1048576) (hd : k.dg.size ≤ maxLen) (hu : Vl w0 u k.vals) (hz : ((Maps.size (D.put (key k.dg) (num E.length)) : Nat) : Int) ≤ room) :
    Calls Try.prog 30 #[.pointer (some ⟨s, 0, none⟩), .agg #[.string k.dg, .bool k.sat, u, .int .i64 k.cost]] wq fun e w' => e = .returned (.tuple #[]) ∧ ∃ v', Shf w0 w' s bm 0 room v' (E ++ [k]) (D.put (key k.dg) (num E.length)) := by
  obtain ⟨ua, uc, rfl, _⟩ := hu.sl
  obtain ⟨dg, sat, vals, cost⟩ := k
  dsimp only at *
  obtain ⟨W1, hW1⟩ : ∃ W1, W1 = wq.alloc (.cells #[.string dg, .bool sat, .slice ua vals.length uc, .int .i64 cost] 29) := ⟨_, rfl⟩
  have g1 : wq.grownBy W1 none := by rw [hW1]; exact World.grownBy_alloc _ _ _
  have B1 : Box4 29 W1 wq.heap.size (.string dg) (.bool sat) (.slice ua vals.length uc) (.int .i64 cost) := by rw [hW1]; exact Box4.new _ _ _ _ _ _
  have S1 := h.kept g1
  have C1 := hide (lock_free Try.muLib ⟨s, 0, none⟩ W1 S1.cells.1 (S1.cells.2.2.2.2 0))
  have S2 := S1.lock 1
  have hsl := h.lt
  have hne' : ¬ s = wq.heap.size := by omega
  have B2 := B1.setO (d := s) (i := 0) (u := .int .i32 1) hne'
  generalize W1.setCell ⟨s, 0, none⟩ (.int .i32 1) = W2 at *
  have CU := hide (use_ (.slice ua vals.length uc) ⟨dg, sat, vals, cost⟩ s bm room _ E D w0 W2 S2 hE hd hu)
  dsimp only at CU
  have y0 := B2.c0
  have y1 := B2.c1
  have y2 := B2.c2
  have y3 := B2.c3
  generalize D.put (key dg) (num E.length) = D' at *
  obtain ⟨sz, hsz⟩ : ∃ sz, sz = Maps.size D' := ⟨_, rfl⟩
  rw [← hsz] at hz
  have HZ := hide hsz
  clear g1 B1 S1 S2 B2 h hu hsz
  go_enter_defers Try.func30, Try.ntmps30
  go_wp2_with fail
  rw [← hW1]
  clear hW1
  refine (unhide C1).mono ?_; rintro e w' ⟨rfl, rfl⟩
  clear C1
  go_wp2_with fail
  refine (unhide CU).mono ?_; rintro e w4 ⟨rfl, v4, S4, _, _⟩
  clear CU y0 y1 y2 y3
  have S5 := S4.kept (cf.grown_drew w4 none)
  have hl := S5.map.len Try.underlying88
  rw [← unhide HZ] at hl
  have m4 := S4.cells.2.2.2.1
  have m2 := S4.cells.2.1
  have hq : ¬ room < (sz : Int) := by omega
  have SL := hide S5
  clear S4 S5
  go_wp2_with fail
  refine wp_loop_rounds 1 ?_
  rw [rounds_succ]
  go_wp2_with fail
  go_region
  go_wp2_with fail
  refine leaves_cons (f := 58) (args := #[.pointer (some ⟨s, 0, none⟩)]) (by simp) (by simp [go_sem]) ?_
  refine (unlock_deferred Try.muLib ⟨s, 0, none⟩ .returning _ (unhide SL).cells.1 ((unhide SL).cells.2.2.2.2 0)).mono ?_
  rintro e u' w'' ⟨rfl, rfl, rfl⟩
  simp [Leaves, settle]
  refine ⟨_, results_none rfl _ _ _, ?_⟩
  exact ⟨rfl, v4, (unhide SL).lock 0⟩
set_option maxRecDepth 10000 in
set_option maxHeartbeats 4000000 in
/-- .. where the first one has to go -/
theorem putB (s bm : Nat) (room : Int) (v : Value) (E : List Kn) (D : DataW Unit) (w0 wq : World) (u : Value) (k : Kn) (d : ByteArray) (h : Shf w0 wq s bm 0 room v E D) (hE : E.length ≤ 1048576) (hd : k.dg.size ≤ maxLen) (hu : Vl w0 u k.vals) (hz : room < ((Maps.size (D.put (key k.dg) (num E.length)) : Nat) : Int))
    (h0 : ((E ++ [k]).getD 0 kz).dg = d) (hd0 : d.size ≤ maxLen) (ht : Told (D.put (key k.dg) (num E.length)) d 0 true) (hz2 : ((Maps.size ((D.put (key k.dg) (num E.length)).del (key d)) : Nat) : Int) ≤ room) :
    Calls Try.prog 30 #[.pointer (some ⟨s, 0, none⟩), .agg #[.string k.dg, .bool k.sat, u, .int .i64 k.cost]] wq fun e w' => e = .returned (.tuple #[]) ∧ ∃ v', Shf w0 w' s bm 0 room v' (E ++ [k]) ((D.put (key k.dg) (num E.length)).del (key d)) := by
  obtain ⟨ua, uc, rfl, _⟩ := hu.sl
  obtain ⟨dg, sat, vals, cost⟩ := k
  dsimp only at *
  obtain ⟨W1, hW1⟩ : ∃ W1, W1 = wq.alloc (.cells #[.string dg, .bool sat, .slice ua vals.length uc, .int .i64 cost] 29) := ⟨_, rfl⟩
  have g1 : wq.grownBy W1 none := by rw [hW1]; exact World.grownBy_alloc _ _ _
  have B1 : Box4 29 W1 wq.heap.size (.string dg) (.bool sat) (.slice ua vals.length uc) (.int .i64 cost) := by rw [hW1]; exact Box4.new _ _ _ _ _ _
  have S1 := h.kept g1
  have C1 := hide (lock_free Try.muLib ⟨s, 0, none⟩ W1 S1.cells.1 (S1.cells.2.2.2.2 0))
  have S2 := S1.lock 1
  have hsl := h.lt
  have hne' : ¬ s = wq.heap.size := by omega
  have B2 := B1.setO (d := s) (i := 0) (u := .int .i32 1) hne'
  generalize W1.setCell ⟨s, 0, none⟩ (.int .i32 1) = W2 at *
  have CU := hide (use_ (.slice ua vals.length uc) ⟨dg, sat, vals, cost⟩ s bm room _ E D w0 W2 S2 hE hd hu)
  dsimp only at CU
  have y0 := B2.c0
  have y1 := B2.c1
  have y2 := B2.c2
  have y3 := B2.c3
  have hEl : (E ++ [(⟨dg, sat, vals, cost⟩ : Kn)]).length = E.length + 1 := by rw [List.length_append]; rfl
  have HEL := hide hEl
  generalize D.put (key dg) (num E.length) = D' at *
  generalize E ++ [(⟨dg, sat, vals, cost⟩ : Kn)] = E' at *
  obtain ⟨sz, hsz⟩ : ∃ sz, sz = Maps.size D' := ⟨_, rfl⟩
  obtain ⟨sz2, hsz2⟩ : ∃ sz, sz = Maps.size (D'.del (key d)) := ⟨_, rfl⟩
  rw [← hsz] at hz
  rw [← hsz2] at hz2
  have HZ := hide hsz
  have HZ2 := hide hsz2
  have H0 := hide h0
  have HT := hide ht
  clear g1 B1 S1 S2 B2 h hu hsz hsz2 hEl h0 ht
  go_enter_defers Try.func30, Try.ntmps30
  go_wp2_with fail
  rw [← hW1]
  clear hW1
  refine (unhide C1).mono ?_; rintro e w' ⟨rfl, rfl⟩
  clear C1
  go_wp2_with fail
  refine (unhide CU).mono ?_; rintro e w4 ⟨rfl, v4, S4, _, _⟩
  clear CU y0 y1 y2 y3
  have S5 := S4.kept (cf.grown_drew w4 none)
  have hl := S5.map.len Try.underlying88
  rw [← unhide HZ] at hl
  have m4 := S4.cells.2.2.2.1
  have m2 := S4.cells.2.1
  have hq : room < (sz : Int) := by omega
  have CS := hide (stands s bm 0 1 room v4 E' D' w0 w4.drew 0 true S5 (by rw [unhide HEL]; omega) (by rw [unhide HEL]; omega) (by rw [unhide H0]; exact hd0) (by rw [unhide H0]; exact unhide HT))
  have SL := hide S5
  clear S4 S5
  go_wp2_with fail
  refine wp_loop_rounds 2 ?_
  rw [rounds_succ]
  go_wp2_with fail
  go_region
  go_wp2_with fail
  refine (unhide CS).mono ?_; rintro e w6 ⟨rfl, g6⟩
  have S6 := (unhide SL).kept g6
  have S6d := S6.kept (cf.grown_drew w6 none)
  obtain ⟨g, cap, u0, hv4, c0, _⟩ := S6.own.at (i := 0) (by rw [unhide HEL]; omega)
  subst hv4
  rw [unhide H0, Nat.zero_mul] at c0
  obtain ⟨w7, hdel, hm7, ht7⟩ := S6d.map.drop law Try.underlying88 (keyOf_dg hd0) 0
  have S7 := S6d.turn ht7.grown hm7 (Nat.le_refl _)
  have S8 := S7.kept (cf.grown_drew w7 none)
  have hl2 := S8.map.len Try.underlying88
  rw [← unhide HZ2] at hl2
  have n3 := S6.cells.2.2.1
  have n4 := S6.cells.2.2.2.1
  have q2 := S7.cells.2.1
  have q4 := S7.cells.2.2.2.1
  have hq2 : ¬ room < (sz2 : Int) := by omega
  have q3 := S7.cells.2.2.1
  have rn := S6.row_ne.2
  have c7 : w7.cell? ⟨g, 0, none⟩ = some (.string d) := ht7.grown.cell (a := ⟨g, 0, none⟩) c0 (fun e => rn (by simpa [Value.ownBlock] using e))
  clear rn
  have h0l : (0 : Int) < (E'.length : Int) := by rw [unhide HEL]; omega
  have h0n : 0 < E'.length := by rw [unhide HEL]; omega
  have h0e : ¬ E' = [] := fun e => by rw [e] at h0n; exact absurd h0n (by decide)
  have SZ := hide S8
  have hb0 : ((0 : Int) == ((0 : Nat) : Int)) = true := by decide
  clear S6 S6d S7 S8 hm7 ht7 SL CS g6 m4 m2 hl hz hz2 hq hne' hsl
  go_wp2_with fail
  go_region_held3 (fun w' => w'.cell? ⟨s, 4, none⟩ = some (.map (some bm)) ∧ w'.cell? ⟨s, 3, none⟩ = some (.slice (some ⟨g, 0, none⟩) E'.length cap) ∧ w'.cell? ⟨g, 0, none⟩ = some (.string d)) (first | assumption | go_keep) (fail)
  go_wp2_with fail
  clear hdel c0 c7 n3 n4 q3
  rw [rounds_succ]
  go_wp2_with fail
  go_region
  go_wp2_with fail
  refine leaves_cons (f := 58) (args := #[.pointer (some ⟨s, 0, none⟩)]) (by simp) (by simp [go_sem]) ?_
  refine (unlock_deferred Try.muLib ⟨s, 0, none⟩ .returning _ (unhide SZ).cells.1 ((unhide SZ).cells.2.2.2.2 0)).mono ?_
  rintro e u' w'' ⟨rfl, rfl, rfl⟩
  simp [Leaves, settle]
  refine ⟨_, results_none rfl _ _ _, ?_⟩
  exact ⟨rfl, _, (unhide SZ).lock 0⟩
end Go.Proofs.Ytgjakiliepfjiaa.ua
