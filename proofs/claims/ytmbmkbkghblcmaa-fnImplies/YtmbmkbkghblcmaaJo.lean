/- What CnfJoin (of the program and of its model) answers at every two formulas of the call's own that hold at most 2^20 values each, with the clauses in memory of their own; no other condition. -/
import Derived.Test.YtmbmkbkghblcmaaJn
namespace Go.Proofs.Ytmbmkbkghblcmaa.jn
open Go.ChangeShapes Go.WideShapes Go.ChangeAt Go.RowKit
open Go.Proofs.Ytmbmkbkghblcmaa.sl (Sl Own ints marks hide unhide ret_int ret_bool grown_refl grown_trans grown_drewN below_of of_below)
open Go.Proofs.Ytmbmkbkghblcmaa.css (Sls OwnS Outs tot sumLen marksS)
open Go.Proofs.Ytmbmkbkghblcmaa.cf (Box)
open Go.Proofs.Ytmbmkbkghblcmaa.gr (MidF)
open Go.Proofs.Ytmbmkbkghblcmaa.ok (cnfB)
open Go.Proofs.Ytmbmkbkghblcmaa.wo (Made)
open Go.Proofs.Ytmbmkbkghblcmaa.app (stepI stepJ own_at made_nil copyLists)
set_option linter.unusedVariables false
attribute [local go_sem ↓] Go.wp_at_zero Go.wp_at_succ

def joinB (n : Int) (LL : List (List Int)) (m : Int) (MM : List (List Int)) : Bool := cnfB n LL && cnfB m MM && decide (LL.length + MM.length ≤ 120)
def joinN (n : Int) (LL : List (List Int)) (m : Int) (MM : List (List Int)) : Int := if joinB n LL m MM then (if n < m then m else n) else 0
def joinR (n : Int) (LL : List (List Int)) (m : Int) (MM : List (List Int)) : List (List Int) := if joinB n LL m MM then LL ++ MM else []
theorem join_no {n m : Int} {LL MM : List (List Int)} (h : joinB n LL m MM = false) : joinN n LL m MM = 0 ∧ joinR n LL m MM = [] := by
  unfold joinN joinR
  rw [h]
  exact ⟨rfl, rfl⟩
theorem join_yes {n m : Int} {LL MM : List (List Int)} (h : joinB n LL m MM = true) : joinN n LL m MM = (if n < m then m else n) ∧ joinR n LL m MM = LL ++ MM := by
  unfold joinN joinR
  rw [h]
  exact ⟨rfl, rfl⟩
/-- the blocks that both begin with: the two formulas, the answer's -/
def ini3 (w : World) (n : Int) (v : Value) (m : Int) (u : Value) : World := ((w.alloc (.cells #[.int .i64 n, v] 26)).alloc (.cells #[.int .i64 m, u] 26)).alloc (.cells #[.int .i64 0, .slice none 0 0] 26)
theorem ini3_all (w : World) (n : Int) (v : Value) (m : Int) (u : Value) : w.grownBy (ini3 w n v m u) none ∧ Box 26 (ini3 w n v m u) w.heap.size (.int .i64 n) v ∧ Box 26 (ini3 w n v m u) (w.heap.size + 1) (.int .i64 m) u ∧ Box 26 (ini3 w n v m u) (w.heap.size + 1 + 1) (.int .i64 0) (.slice none 0 0) := by
  refine ⟨grown_trans (grown_trans (World.grownBy_alloc _ _ _) (World.grownBy_alloc _ _ _)) (World.grownBy_alloc _ _ _), ((Box.new 26 w (.int .i64 n) v).kept (World.grownBy_alloc _ _ _)).kept (World.grownBy_alloc _ _ _), ?_, ?_⟩
  · have := (Box.new 26 (w.alloc (.cells #[.int .i64 n, v] 26)) (.int .i64 m) u).kept (World.grownBy_alloc _ (.cells #[.int .i64 0, .slice none 0 0] 26) none)
    rw [World.size_alloc] at this
    exact this
  · have := Box.new 26 ((w.alloc (.cells #[.int .i64 n, v] 26)).alloc (.cells #[.int .i64 m, u] 26)) (.int .i64 0) (.slice none 0 0)
    rw [World.size_alloc, World.size_alloc] at this
    exact this
/-- where it is refused -/
theorem ret_no {fn : Func} {p u : Tmp} {a : Act} {w w1 : World} {n m : Int} {LL MM : List (List Int)} (hb : Box 26 w1 (w.heap.size + 1 + 1) (.int .i64 0) (.slice none 0 0)) (g : w.grownBy w1 none) (h : joinB n LL m MM = false)
    (hr : fn.results = #[.cell p 26, .tmp u]) (hp : a.tmps.getD p undef = .pointer (some ⟨w.heap.size + 1 + 1, 0, none⟩)) (hu : a.tmps.getD u undef = .bool false) (hd : a.defers = []) :
    bodyPost Try.prog fn (fun e w' => ∃ q, e = .returned (.tuple #[.agg #[.int .i64 (joinN n LL m MM), q], .bool (joinB n LL m MM)]) ∧ OwnS w.heap.size w'.heap.size w' q (joinR n LL m MM) ∧ w.grownBy w' none) Exit.ret a ((w1.setCell ⟨w.heap.size + 1 + 1, 0, none⟩ (.int .i64 0)).setCell ⟨w.heap.size + 1 + 1, 1, none⟩ (.slice none 0 0)) := by
  refine bodyPost_ret (cf.ret_box2 hr hp ((hb.set0 (.int .i64 0)).set1 (.slice none 0 0))) hd ⟨.slice none 0 0, ?_, ?_, cf.grown_set (cf.grown_set g (by omega)) (by omega)⟩
  · rw [hu, (join_no h).1, h]
  · rw [(join_no h).2]
    exact fx.ownS_nil _ _ _
/-- where it is joined: the answer's two cells are written last -/
theorem ret_yes {fn : Func} {p q : Tmp} {a : Act} {w w1 : World} {n m N : Int} {LL MM : List (List Int)} {x : Value} (hb : Box 26 w1 (w.heap.size + 1 + 1) (.int .i64 0) (.slice none 0 0)) (g : w.grownBy w1 none) (h : joinB n LL m MM = true) (hN : N = if n < m then m else n) (ho : OwnS w.heap.size w1.heap.size w1 x (LL ++ MM))
    (hr : fn.results = #[.cell p 26, .tmp q]) (hp : a.tmps.getD p undef = .pointer (some ⟨w.heap.size + 1 + 1, 0, none⟩)) (hu : a.tmps.getD q undef = .bool true) (hd : a.defers = []) :
    bodyPost Try.prog fn (fun e w' => ∃ q, e = .returned (.tuple #[.agg #[.int .i64 (joinN n LL m MM), q], .bool (joinB n LL m MM)]) ∧ OwnS w.heap.size w'.heap.size w' q (joinR n LL m MM) ∧ w.grownBy w' none) Exit.ret a ((w1.setCell ⟨w.heap.size + 1 + 1, 0, none⟩ (.int .i64 N)).setCell ⟨w.heap.size + 1 + 1, 1, none⟩ x) := by
  refine bodyPost_ret (cf.ret_box2 hr hp ((hb.set0 (.int .i64 N)).set1 x)) hd ⟨x, ?_, ?_, cf.grown_set (cf.grown_set g (by omega)) (by omega)⟩
  · rw [hu, (join_yes h).1, h, hN]
  · rw [(join_yes h).2, cf.size_set, cf.size_set]
    exact gr.ownS_set (gr.ownS_set ho hb) (hb.set0 (.int .i64 N))

theorem fld (m : Int) (ra : Option Addr) (n rc : Nat) (w : World) : (Instr.field 26 (.agg #[.int .i64 m, .slice ra n rc]) 1).run Try.prog w = .ok (.slice ra n rc) w := by
  first
    | (simp [Instr.field, go_sem, asAgg]; done)
    | (simp [Instr.field, go_sem]; rfl)
theorem len_app {lo hi c : Nat} {w : World} {a : Option Addr} {LL MM : List (List Int)} (h : OwnS lo hi w (.slice a (LL ++ MM).length c) (LL ++ MM)) : OwnS lo hi w (.slice a (LL.length + MM.length) c) (LL ++ MM) := by
  rw [List.length_append] at h
  exact h
theorem box_join {lo hi c : Nat} {w1 w2 : World} {v x y : Value} {LL : List (List Int)} (h : OwnS lo hi w1 v LL) (g : w1.grownBy w2 v.ownBlock) (hb : Box 26 w1 c x y) : Box 26 w2 c x y := by
  obtain ⟨D, _, hw, _⟩ := h
  exact hb.by g (gr.box_ne hw gr.ty1 hb)

set_option maxRecDepth 100000 in
set_option maxHeartbeats 4000000 in
theorem implCnfJoin (v u : Value) (n m : Int) (LL MM : List (List Int)) (lo hi lo' hi' : Nat) (w : World) (hn : tot LL ≤ 1048576) (hm : tot MM ≤ 1048576) (hv : OwnS lo hi w v LL) (hu : OwnS lo' hi' w u MM) :
    Calls Try.prog 22 #[.agg #[.int .i64 n, v], .agg #[.int .i64 m, u]] w fun e w' => ∃ q, e = .returned (.tuple #[.agg #[.int .i64 (joinN n LL m MM), q], .bool (joinB n LL m MM)]) ∧ OwnS w.heap.size w'.heap.size w' q (joinR n LL m MM) ∧ w.grownBy w' none := by
  have hl := Nat.le_trans (css.tot_len LL) hn
  have hl' := Nat.le_trans (css.tot_len MM) hm
  obtain ⟨i0, i1, i2, i3⟩ := ini3_all w n v m u
  have cf1 := ok.implCnfOk v n LL (ini3 w n v m u) hn (hv.sls.kept i0)
  have cg1 := fun w1 (g : w.grownBy w1 none) => ok.implCnfOk u m MM w1 hm (hu.sls.kept g)
  have CL := hide (fun w1 (g : w.grownBy w1 none) => copyLists v LL lo hi w1 hn (hv.kept g))
  have CM := hide (fun w1 (g : w.grownBy w1 none) => copyLists u MM lo' hi' w1 hm (hu.kept g))
  obtain ⟨a, cap, rfl⟩ := hv.len
  obtain ⟨a', cap', rfl⟩ := hu.len
  have I0 := hide i0
  have I1 := hide i1
  have I2 := hide i2
  have I3 := hide i3
  clear i0 i1 i2 i3 hv hu
  unfold ini3 at cf1 I0 I1 I2 I3
  cases hb : cnfB n LL
  · rw [hb] at cf1
    have C1 := hide cf1
    have E := hide (show joinB n LL m MM = false by unfold joinB; rw [hb]; rfl)
    clear cf1 cg1 CL CM hb
    go_enter Try.func22, Try.ntmps22
    go_wp2_with fail
    refine (unhide C1).mono ?_; rintro e w2 ⟨rfl, g2⟩
    have b2 := (unhide I3).kept g2
    have r0 := b2.c0
    have r1 := b2.c1
    have f0 := b2.f 0
    have f1 := b2.f 1
    have B2 := hide b2
    have G2 := hide (grown_trans (r := none) (unhide I0) g2)
    clear b2 g2
    go_wp2_with fail
    (try simp only [Exit.inBlock, Exit.then])
    exact ret_no (unhide B2) (unhide G2) (unhide E) rfl (by rfl) (by rfl) (by rfl)
  rw [hb] at cf1
  have C1 := hide cf1
  cases hc : cnfB m MM
  · rw [hc] at cg1
    have C2 := hide cg1
    have E := hide (show joinB n LL m MM = false by unfold joinB; rw [hc]; simp)
    clear cf1 cg1 CL CM hb hc
    go_enter Try.func22, Try.ntmps22
    go_wp2_with fail
    refine (unhide C1).mono ?_; rintro e w2 ⟨rfl, g2⟩
    have k2 := (unhide I2).kept g2
    have p0 := k2.c0
    have p1 := k2.c1
    have B2 := hide ((unhide I3).kept g2)
    have G2 := hide (grown_trans (r := none) (unhide I0) g2)
    clear k2 g2
    go_wp2_with fail
    refine (unhide C2 w2 (unhide G2)).mono ?_; rintro e w3 ⟨rfl, g3⟩
    have b3 := (unhide B2).kept g3
    have r0 := b3.c0
    have r1 := b3.c1
    have f0 := b3.f 0
    have f1 := b3.f 1
    have B3 := hide b3
    have G3 := hide (grown_trans (r := none) (unhide G2) g3)
    clear b3 g3 p0 p1
    go_wp2_with fail
    (try simp only [Exit.inBlock, Exit.then])
    exact ret_no (unhide B3) (unhide G3) (unhide E) rfl (by rfl) (by rfl) (by rfl)
  rw [hc] at cg1
  have C2 := hide cg1
  clear cf1 cg1
  by_cases hs : LL.length + MM.length ≤ 120
  · have E := hide (show joinB n LL m MM = true by unfold joinB; rw [hb, hc, decide_eq_true hs]; rfl)
    have hs' : decide ((120 : Int) < (LL.length : Int) + (MM.length : Int)) = false := decide_eq_false (by omega)
    clear hb hc
    go_enter Try.func22, Try.ntmps22
    go_wp2_with fail
    refine (unhide C1).mono ?_; rintro e w2 ⟨rfl, g2⟩
    have k2 := (unhide I2).kept g2
    have p0 := k2.c0
    have p1 := k2.c1
    have K1 := hide ((unhide I1).kept g2)
    have K2 := hide k2
    have B2 := hide ((unhide I3).kept g2)
    have G2 := hide (grown_trans (r := none) (unhide I0) g2)
    clear k2 g2 I0 I1 I2 I3 C1
    go_wp2_with fail
    refine (unhide C2 w2 (unhide G2)).mono ?_; rintro e w3 ⟨rfl, g3⟩
    have B3 := hide ((unhide B2).kept g3)
    have K13 := hide ((unhide K1).kept g3)
    have K23 := hide ((unhide K2).kept g3)
    have G3 := hide (grown_trans (r := none) (unhide G2) g3)
    have x0 := (unhide K13).c0
    have x1 := (unhide K13).c1
    have y0 := (unhide K23).c0
    have y1 := (unhide K23).c1
    clear g3 p0 p1 C2 B2 K1 K2 G2
    go_upto_region 3 with fail
    go_cut [6] (fun p wx => ∃ xa xc, p = .slice xa (LL.length + MM.length) xc ∧ Hid (OwnS w.heap.size wx.heap.size wx (.slice xa (LL.length + MM.length) xc) (LL ++ MM) ∧ w.grownBy wx none ∧ Box 26 wx w.heap.size (.int .i64 n) (.slice a LL.length cap) ∧ Box 26 wx (w.heap.size + 1) (.int .i64 m) (.slice a' MM.length cap') ∧ Box 26 wx (w.heap.size + 1 + 1) (.int .i64 0) (.slice none 0 0)))
    case first =>
      have L3 := hide (unhide CL w3.drew (grown_trans (r := none) (unhide G3) (cf.grown_drew w3 none)))
      clear CL
      go_region_law
        (first
          | (go_simp; go_at_call_of 59 (Value.slice a LL.length cap); refine (unhide L3).mono ?_; rintro e w4 ⟨q4, rfl, o4, g4⟩; obtain ⟨qa, qc, rfl⟩ := o4.len; have G4 := hide (grown_trans (r := none) (cf.grown_drew w3 none) g4); have O4 := hide o4; have z1 := ((unhide K23).kept (unhide G4)).c1; have M4 := hide (unhide CM w4 (grown_trans (r := none) (unhide G3) (unhide G4))); clear o4 g4)
          | (go_simp; go_at_call_of 59 (Value.slice a' MM.length cap'); refine (unhide M4).mono ?_; rintro e w5 ⟨q5, rfl, o5, g5⟩; obtain ⟨ra, rc, rfl⟩ := o5.len; have O5 := hide o5; have O45 := hide ((unhide O4).kept g5); have G5 := hide (grown_trans (r := none) (unhide G4) g5); have s5 := hide g5.size; clear o5 g5)
          | (refine stepJ (unhide O45) (unhide O5) (Nat.le_refl _) (unhide G4).size (Nat.le_refl _) (unhide G5).size (by omega) (by rfl) _ _ (by rfl) (by rfl) (by rfl) ?_; intro q6 w6 o6 g6; obtain ⟨ta, tc, rfl⟩ := o6.len; have R6 := hide (And.intro o6 g6); clear o6 g6))
      all_goals
        go_wp2_with fail
        go_meet
        exact ⟨ta, tc, rfl, len_app ((unhide R6).1.sub (unhide G3).size (Nat.le_refl _)), app.grown_joinS (grown_trans (r := none) (unhide G3) (unhide G5)) ((unhide O45).sub (unhide G3).size (Nat.le_refl _)) (unhide R6).2, box_join (unhide O45) (unhide R6).2 ((unhide K13).kept (unhide G5)), box_join (unhide O45) (unhide R6).2 ((unhide K23).kept (unhide G5)), box_join (unhide O45) (unhide R6).2 ((unhide B3).kept (unhide G5))⟩
    case rest =>
      obtain ⟨xa, xc, rfl, hw⟩ := hcut
      obtain ⟨w1, w2, w3', w4', w5'⟩ := unhide hw
      have z0 := w3'.c0
      have z1 := w4'.c0
      have r0 := w5'.c0
      have r1 := w5'.c1
      have f0 := w5'.f 0
      have f1 := w5'.f 1
      have HO := hide w1
      have HG := hide w2
      have HB := hide w5'
      clear w1 w2 w3' w4' w5' hw x0 x1 y0 y1 CL CM G3 B3 K13 K23
      by_cases hnm : n < m
      · have EN : Hid (m = if n < m then m else n) := (if_pos hnm).symm
        go_wp2_with fail
        (try simp only [Exit.inBlock, Exit.then])
        exact ret_yes (unhide HB) (unhide HG) (unhide E) (unhide EN) (unhide HO) rfl (by rfl) (by rfl) (by rfl)
      · have EN : Hid (n = if n < m then m else n) := (if_neg hnm).symm
        go_wp2_with fail
        (try simp only [Exit.inBlock, Exit.then])
        exact ret_yes (unhide HB) (unhide HG) (unhide E) (unhide EN) (unhide HO) rfl (by rfl) (by rfl) (by rfl)
  · have E := hide (show joinB n LL m MM = false by unfold joinB; rw [decide_eq_false hs]; simp)
    have hs' : (120 : Int) < (LL.length : Int) + (MM.length : Int) := by omega
    clear hb hc CL CM
    go_enter Try.func22, Try.ntmps22
    go_wp2_with fail
    refine (unhide C1).mono ?_; rintro e w2 ⟨rfl, g2⟩
    have k2 := (unhide I2).kept g2
    have p0 := k2.c0
    have p1 := k2.c1
    have K1 := hide ((unhide I1).kept g2)
    have K2 := hide k2
    have B2 := hide ((unhide I3).kept g2)
    have G2 := hide (grown_trans (r := none) (unhide I0) g2)
    clear k2 g2 I0 I1 I2 I3 C1
    go_wp2_with fail
    refine (unhide C2 w2 (unhide G2)).mono ?_; rintro e w3 ⟨rfl, g3⟩
    have b3 := (unhide B2).kept g3
    have r0 := b3.c0
    have r1 := b3.c1
    have f0 := b3.f 0
    have f1 := b3.f 1
    have B3 := hide b3
    have x1 := ((unhide K1).kept g3).c1
    have y1 := ((unhide K2).kept g3).c1
    have G3 := hide (grown_trans (r := none) (unhide G2) g3)
    clear b3 g3 p0 p1 C2 B2 K1 K2 G2
    go_wp2_with fail
    (try simp only [Exit.inBlock, Exit.then])
    exact ret_no (unhide B3) (unhide G3) (unhide E) rfl (by rfl) (by rfl) (by rfl)

end Go.Proofs.Ytmbmkbkghblcmaa.jn
