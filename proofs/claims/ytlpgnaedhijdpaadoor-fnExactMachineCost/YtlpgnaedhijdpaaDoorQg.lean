/- What copyMachine and the model's l07Copy answer at every machine of the call's own that holds at most 2^20 values; no other condition. -/
import Derived.Test.YtlpgnaedhijdpaaDoorQc
namespace Go.Proofs.YtlpgnaedhijdpaaDoor.qg
open Go.ChangeShapes Go.WideShapes Go.ChangeAt Go.RowKit
open Go.Proofs.YtlpgnaedhijdpaaDoor.qa (Box5 OwnM)
open Go.Proofs.YtlpgnaedhijdpaaDoor.cf (Box)
open Go.Proofs.YtlpgnaedhijdpaaDoor.css (Sls OwnS tot)
open Go.Proofs.YtlpgnaedhijdpaaDoor.sl (Sl Own ints hide unhide ret_int ret_bool grown_refl grown_trans)
set_option linter.unusedVariables false
set_option maxRecDepth 100000 in
set_option maxHeartbeats 4000000 in
theorem copyMachine (v q : Value) (n st k : Int) (LL : List (List Int)) (P : List Int) (lo hi : Nat) (w : World) (hn : tot LL ≤ 1048576) (hP : P.length ≤ 1048576) (hv : OwnM lo hi w v q LL P) :
    Calls Tryd.prog 62 #[.agg #[.int .i64 n, v, q, .int .i64 st, .int .i64 k]] w fun e w' => ∃ u p, e = .returned (.agg #[.int .i64 n, u, p, .int .i64 st, .int .i64 k]) ∧ OwnM w.heap.size w'.heap.size w' u p LL P ∧ w.grownBy w' none := by
  obtain ⟨m, m1, m2, m3, m4⟩ := hv
  have g0 : w.grownBy ((w.alloc (.cells #[.int .i64 n, v, q, .int .i64 st, .int .i64 k] 37)).alloc (.cells #[.int .i64 0, .slice none 0 0, .slice none 0 0, .int .i64 0, .int .i64 0] 37)) none := grown_trans (World.grownBy_alloc _ _ _) (World.grownBy_alloc _ _ _)
  have b0 := (Box5.new 37 w (.int .i64 n) v q (.int .i64 st) (.int .i64 k)).kept (World.grownBy_alloc _ (.cells #[.int .i64 0, .slice none 0 0, .slice none 0 0, .int .i64 0, .int .i64 0] 37) none)
  have b1 := Box5.new 37 (w.alloc (.cells #[.int .i64 n, v, q, .int .i64 st, .int .i64 k] 37)) (.int .i64 0) (.slice none 0 0) (.slice none 0 0) (.int .i64 0) (.int .i64 0)
  rw [World.size_alloc] at b1
  have hsz : ((w.alloc (.cells #[.int .i64 n, v, q, .int .i64 st, .int .i64 k] 37)).alloc (.cells #[.int .i64 0, .slice none 0 0, .slice none 0 0, .int .i64 0, .int .i64 0] 37)).heap.size = w.heap.size + 2 := by simp only [World.size_alloc]
  have C := hide (fun w1 (g : w.grownBy w1 none) => qc.copyCnf v n LL lo m w1 hn (m3.kept g))
  have U := hide (fun w1 (g : w.grownBy w1 none) => m4.kept g)
  obtain ⟨qx, qy, eq, _⟩ := m4.sl
  subst eq
  have x0 := b0.c0
  have x1 := b0.c1
  have B0 := hide b0
  have B1 := hide b1
  have G0 := hide g0
  have HS := hide hsz
  clear g0 b0 b1 hsz m1 m2 m3 m4
  go_enter Tryd.func62, Tryd.ntmps62
  go_wp2_with fail
  generalize (w.alloc (.cells #[.int .i64 n, v, .slice qx P.length qy, .int .i64 st, .int .i64 k] 37)).alloc (.cells #[.int .i64 0, .slice none 0 0, .slice none 0 0, .int .i64 0, .int .i64 0] 37) = W0 at *
  refine (unhide C _ (unhide G0)).mono ?_; rintro e w1 ⟨u, rfl, o1, g1⟩
  obtain ⟨ua, uc, rfl⟩ := o1.len
  have c1 := (unhide B0).kept g1
  have y0 := c1.c0
  have y1 := c1.c1
  have y2 := c1.c2
  have f0 := c1.f 0
  have f1 := c1.f 1
  have hs0 := unhide HS
  have hs1 := g1.size
  have ST : Hid (Box5 37 ((w1.setCell ⟨w.heap.size, 0, none⟩ (.int .i64 n)).setCell ⟨w.heap.size, 1, none⟩ (.slice ua LL.length uc)) w.heap.size (.int .i64 n) (.slice ua LL.length uc) (.slice qx P.length qy) (.int .i64 st) (.int .i64 k) ∧ Box5 37 ((w1.setCell ⟨w.heap.size, 0, none⟩ (.int .i64 n)).setCell ⟨w.heap.size, 1, none⟩ (.slice ua LL.length uc)) (w.heap.size + 1) (.int .i64 0) (.slice none 0 0) (.slice none 0 0) (.int .i64 0) (.int .i64 0) ∧
      w.grownBy ((w1.setCell ⟨w.heap.size, 0, none⟩ (.int .i64 n)).setCell ⟨w.heap.size, 1, none⟩ (.slice ua LL.length uc)) none ∧ OwnS W0.heap.size w1.heap.size ((w1.setCell ⟨w.heap.size, 0, none⟩ (.int .i64 n)).setCell ⟨w.heap.size, 1, none⟩ (.slice ua LL.length uc)) (.slice ua LL.length uc) LL ∧ ((w1.setCell ⟨w.heap.size, 0, none⟩ (.int .i64 n)).setCell ⟨w.heap.size, 1, none⟩ (.slice ua LL.length uc)).heap.size = w1.heap.size) :=
    ⟨((c1.set0 _).set1 _), ((((unhide B1).kept g1).setO (by omega)).setO (by omega)), cf.grown_set (cf.grown_set (grown_trans (unhide G0) g1) (by omega)) (by omega), cf.ownS_set (cf.ownS_set o1 (by omega)) (by omega), by rw [cf.size_set, cf.size_set]⟩
  have Z2 : Hid (((w1.setCell ⟨w.heap.size, 0, none⟩ (.int .i64 n)).setCell ⟨w.heap.size, 1, none⟩ (.slice ua LL.length uc)).cell? ⟨w.heap.size, 2, none⟩ = some (.slice qx P.length qy)) := (unhide ST).1.c2
  have HS1 := hide (And.intro hs0 hs1)
  clear hs0 hs1 c1 o1 g1 C B0 B1 G0 x0 x1
  go_upto_region 2 with fail
  clear y0 y1 y2 f0 f1 Z2
  generalize (w1.setCell ⟨w.heap.size, 0, none⟩ (.int .i64 n)).setCell ⟨w.heap.size, 1, none⟩ (.slice ua LL.length uc) = w2 at *
  have MN := hide (app.made_nil w2)
  have z2 := (unhide ST).1.c2
  have ne2 := World.new_ne _ _ z2
  have z2' := ((unhide ST).1.kept (unhide MN).2).c2
  have U2 := hide (unhide U _ (grown_trans (r := none) (unhide ST).2.2.1 (unhide MN).2))
  clear U
  go_wp2_with (at_builtin; refine app.appendI (A := []) (unhide MN).2 (unhide MN).1 (unhide U2) (by show 0 + P.length ≤ 4194304; omega) rfl _ _ rfl rfl rfl ?_)
  intro p w3 m3 g3
  have m3' : wo.Made w2 w3 p P := m3
  obtain ⟨pa, pc, ep, _⟩ := Sl.of_own m3'.1
  subst ep
  obtain ⟨s1, s2, s3, s4, s5⟩ := unhide ST
  have d0 := s1.kept m3'.2
  have d1 := s2.kept m3'.2
  have F := hide (And.intro d0 (And.intro d1 (And.intro (grown_trans (r := none) s3 m3'.2) (And.intro (s4.kept m3'.2) (And.intro m3'.1 (And.intro s5 m3'.2.size))))))
  have r0 := d0.c0
  have r1 := d0.c1
  have r2 := d0.c2
  have r3 := d0.c3
  have r4 := d0.c4
  have k2 := d0.f 2
  have t0 := d1.c0
  have t1 := d1.c1
  have t2 := d1.c2
  have t3 := d1.c3
  have t4 := d1.c4
  have l0 := d1.f 0
  have l1 := d1.f 1
  have l2 := d1.f 2
  have l3 := d1.f 3
  have l4 := d1.f 4
  clear z2 z2' ne2 d0 d1 m3 m3' g3 s1 s2 s3 s4 s5 ST MN U2
  go_wp2_with fail
  (try simp only [Exit.inBlock, Exit.then])
  obtain ⟨d0, d1, s3, s4, o3, s5, s6⟩ := unhide F
  obtain ⟨h1, h2⟩ := unhide HS1
  refine bodyPost_ret (qa.ret_box5 rfl rfl ((((((d1.setO (d := w.heap.size) (i := 2) (by omega)).set0 _).set1 _).set2 _).set3 _).set4 _)) rfl ⟨_, _, rfl, ?_, ?_⟩
  · simp only [cf.size_set]
    have own : ∀ {wx : World} {c i : Nat} {u : Value}, c < w.heap.size + 2 → OwnM (w.heap.size + 2) w3.heap.size wx (.slice ua LL.length uc) (.slice pa P.length pc) LL P → OwnM (w.heap.size + 2) w3.heap.size (wx.setCell ⟨c, i, none⟩ u) (.slice ua LL.length uc) (.slice pa P.length pc) LL P := fun {wx c i u} hc h =>
      h.outs (css.outs_by (lo := c) (hi := c + 1) (sl.grown_setCell wx c i u) (fun k e => by cases e; omega)) (by omega)
    have base : OwnM (w.heap.size + 2) w3.heap.size w3 (.slice ua LL.length uc) (.slice pa P.length pc) LL P := ⟨w1.heap.size, by omega, by omega, s4.sub (by omega) (Nat.le_refl _), by rw [s5] at o3; exact sl.Own.of o3⟩
    exact (own (by omega) (own (by omega) (own (by omega) (own (by omega) (own (by omega) (own (by omega) base)))))).sub (by omega) (Nat.le_refl _)
  · exact cf.grown_set (cf.grown_set (cf.grown_set (cf.grown_set (cf.grown_set (cf.grown_set s3 (by omega)) (by omega)) (by omega)) (by omega)) (by omega)) (by omega)
set_option maxRecDepth 100000 in
set_option maxHeartbeats 4000000 in
theorem l07Copy (v q : Value) (n st k : Int) (LL : List (List Int)) (P : List Int) (lo hi : Nat) (w : World) (hn : tot LL ≤ 1048576) (hP : P.length ≤ 1048576) (hh : hi ≤ w.heap.size) (hv : OwnM lo hi w v q LL P) :
    Calls Tryd.prog 71 #[.agg #[.int .i64 n, v, q, .int .i64 st, .int .i64 k]] w fun e w' => ∃ u p, e = .returned (.agg #[.int .i64 n, u, p, .int .i64 st, .int .i64 k]) ∧ OwnM w.heap.size w'.heap.size w' u p LL P ∧ w.grownBy w' none := by
  obtain ⟨m, m1, m2, m3, m4⟩ := hv
  have g0 : w.grownBy ((w.alloc (.cells #[.int .i64 n, v, q, .int .i64 st, .int .i64 k] 37)).alloc (.cells #[.int .i64 0, .slice none 0 0, .slice none 0 0, .int .i64 0, .int .i64 0] 37)) none := grown_trans (World.grownBy_alloc _ _ _) (World.grownBy_alloc _ _ _)
  have b0 := (Box5.new 37 w (.int .i64 n) v q (.int .i64 st) (.int .i64 k)).kept (World.grownBy_alloc _ (.cells #[.int .i64 0, .slice none 0 0, .slice none 0 0, .int .i64 0, .int .i64 0] 37) none)
  have b1 := Box5.new 37 (w.alloc (.cells #[.int .i64 n, v, q, .int .i64 st, .int .i64 k] 37)) (.int .i64 0) (.slice none 0 0) (.slice none 0 0) (.int .i64 0) (.int .i64 0)
  rw [World.size_alloc] at b1
  have hsz : ((w.alloc (.cells #[.int .i64 n, v, q, .int .i64 st, .int .i64 k] 37)).alloc (.cells #[.int .i64 0, .slice none 0 0, .slice none 0 0, .int .i64 0, .int .i64 0] 37)).heap.size = w.heap.size + 2 := by simp only [World.size_alloc]
  have C := hide (fun w1 (g : w.grownBy w1 none) => jn.l02Copy v n LL lo m w1 hn (m3.kept g) (Nat.le_trans (Nat.le_trans m2 hh) g.size))
  have U := hide (fun w1 (g : w.grownBy w1 none) => m4.kept g)
  obtain ⟨qx, qy, eq, _⟩ := m4.sl
  subst eq
  have x0 := b0.c0
  have x1 := b0.c1
  have B0 := hide b0
  have B1 := hide b1
  have G0 := hide g0
  have HS := hide hsz
  clear g0 b0 b1 hsz m1 m2 m3 m4
  go_enter Tryd.func71, Tryd.ntmps71
  go_wp2_with fail
  generalize (w.alloc (.cells #[.int .i64 n, v, .slice qx P.length qy, .int .i64 st, .int .i64 k] 37)).alloc (.cells #[.int .i64 0, .slice none 0 0, .slice none 0 0, .int .i64 0, .int .i64 0] 37) = W0 at *
  refine (unhide C _ (unhide G0)).mono ?_; rintro e w1 ⟨u, rfl, o1, g1⟩
  obtain ⟨ua, uc, rfl⟩ := o1.len
  have c1 := (unhide B0).kept g1
  have y0 := c1.c0
  have y1 := c1.c1
  have y2 := c1.c2
  have f0 := c1.f 0
  have f1 := c1.f 1
  have hs0 := unhide HS
  have hs1 := g1.size
  have ST : Hid (Box5 37 ((w1.setCell ⟨w.heap.size, 0, none⟩ (.int .i64 n)).setCell ⟨w.heap.size, 1, none⟩ (.slice ua LL.length uc)) w.heap.size (.int .i64 n) (.slice ua LL.length uc) (.slice qx P.length qy) (.int .i64 st) (.int .i64 k) ∧ Box5 37 ((w1.setCell ⟨w.heap.size, 0, none⟩ (.int .i64 n)).setCell ⟨w.heap.size, 1, none⟩ (.slice ua LL.length uc)) (w.heap.size + 1) (.int .i64 0) (.slice none 0 0) (.slice none 0 0) (.int .i64 0) (.int .i64 0) ∧
      w.grownBy ((w1.setCell ⟨w.heap.size, 0, none⟩ (.int .i64 n)).setCell ⟨w.heap.size, 1, none⟩ (.slice ua LL.length uc)) none ∧ OwnS W0.heap.size w1.heap.size ((w1.setCell ⟨w.heap.size, 0, none⟩ (.int .i64 n)).setCell ⟨w.heap.size, 1, none⟩ (.slice ua LL.length uc)) (.slice ua LL.length uc) LL ∧ ((w1.setCell ⟨w.heap.size, 0, none⟩ (.int .i64 n)).setCell ⟨w.heap.size, 1, none⟩ (.slice ua LL.length uc)).heap.size = w1.heap.size) :=
    ⟨((c1.set0 _).set1 _), ((((unhide B1).kept g1).setO (by omega)).setO (by omega)), cf.grown_set (cf.grown_set (grown_trans (unhide G0) g1) (by omega)) (by omega), cf.ownS_set (cf.ownS_set o1 (by omega)) (by omega), by rw [cf.size_set, cf.size_set]⟩
  have Z2 : Hid (((w1.setCell ⟨w.heap.size, 0, none⟩ (.int .i64 n)).setCell ⟨w.heap.size, 1, none⟩ (.slice ua LL.length uc)).cell? ⟨w.heap.size, 2, none⟩ = some (.slice qx P.length qy)) := (unhide ST).1.c2
  have HS1 := hide (And.intro hs0 hs1)
  clear hs0 hs1 c1 o1 g1 C B0 B1 G0 x0 x1
  go_upto_region 2 with fail
  clear y0 y1 y2 f0 f1 Z2
  generalize (w1.setCell ⟨w.heap.size, 0, none⟩ (.int .i64 n)).setCell ⟨w.heap.size, 1, none⟩ (.slice ua LL.length uc) = w2 at *
  have MN := hide (app.made_nil w2)
  have z2 := (unhide ST).1.c2
  have ne2 := World.new_ne _ _ z2
  have z2' := ((unhide ST).1.kept (unhide MN).2).c2
  have U2 := hide (unhide U _ (grown_trans (r := none) (unhide ST).2.2.1 (unhide MN).2))
  clear U
  go_wp2_with (at_builtin; refine app.appendI (A := []) (unhide MN).2 (unhide MN).1 (unhide U2) (by show 0 + P.length ≤ 4194304; omega) rfl _ _ rfl rfl rfl ?_)
  intro p w3 m3 g3
  have m3' : wo.Made w2 w3 p P := m3
  obtain ⟨pa, pc, ep, _⟩ := Sl.of_own m3'.1
  subst ep
  obtain ⟨s1, s2, s3, s4, s5⟩ := unhide ST
  have d0 := s1.kept m3'.2
  have d1 := s2.kept m3'.2
  have F := hide (And.intro d0 (And.intro d1 (And.intro (grown_trans (r := none) s3 m3'.2) (And.intro (s4.kept m3'.2) (And.intro m3'.1 (And.intro s5 m3'.2.size))))))
  have r0 := d0.c0
  have r1 := d0.c1
  have r2 := d0.c2
  have r3 := d0.c3
  have r4 := d0.c4
  have k2 := d0.f 2
  have t0 := d1.c0
  have t1 := d1.c1
  have t2 := d1.c2
  have t3 := d1.c3
  have t4 := d1.c4
  have l0 := d1.f 0
  have l1 := d1.f 1
  have l2 := d1.f 2
  have l3 := d1.f 3
  have l4 := d1.f 4
  clear z2 z2' ne2 d0 d1 m3 m3' g3 s1 s2 s3 s4 s5 ST MN U2
  go_wp2_with fail
  (try simp only [Exit.inBlock, Exit.then])
  obtain ⟨d0, d1, s3, s4, o3, s5, s6⟩ := unhide F
  obtain ⟨h1, h2⟩ := unhide HS1
  refine bodyPost_ret (qa.ret_box5 rfl rfl ((((((d1.setO (d := w.heap.size) (i := 2) (by omega)).set0 _).set1 _).set2 _).set3 _).set4 _)) rfl ⟨_, _, rfl, ?_, ?_⟩
  · simp only [cf.size_set]
    have own : ∀ {wx : World} {c i : Nat} {u : Value}, c < w.heap.size + 2 → OwnM (w.heap.size + 2) w3.heap.size wx (.slice ua LL.length uc) (.slice pa P.length pc) LL P → OwnM (w.heap.size + 2) w3.heap.size (wx.setCell ⟨c, i, none⟩ u) (.slice ua LL.length uc) (.slice pa P.length pc) LL P := fun {wx c i u} hc h =>
      h.outs (css.outs_by (lo := c) (hi := c + 1) (sl.grown_setCell wx c i u) (fun k e => by cases e; omega)) (by omega)
    have base : OwnM (w.heap.size + 2) w3.heap.size w3 (.slice ua LL.length uc) (.slice pa P.length pc) LL P := ⟨w1.heap.size, by omega, by omega, s4.sub (by omega) (Nat.le_refl _), by rw [s5] at o3; exact sl.Own.of o3⟩
    exact (own (by omega) (own (by omega) (own (by omega) (own (by omega) (own (by omega) (own (by omega) base)))))).sub (by omega) (Nat.le_refl _)
  · exact cf.grown_set (cf.grown_set (cf.grown_set (cf.grown_set (cf.grown_set (cf.grown_set s3 (by omega)) (by omega)) (by omega)) (by omega)) (by omega)) (by omega)
end Go.Proofs.YtlpgnaedhijdpaaDoor.qg
