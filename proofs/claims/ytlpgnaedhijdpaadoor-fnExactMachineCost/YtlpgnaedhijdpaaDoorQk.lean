/- What the model's MachineRun and MachineStep answer at every machine of the call's own that holds at most 2^20 values; no other condition. -/
import Derived.Test.YtlpgnaedhijdpaaDoorQh
import Derived.Test.YtlpgnaedhijdpaaDoorQj
namespace Go.Proofs.YtlpgnaedhijdpaaDoor.qh
open Go.ChangeShapes Go.WideShapes Go.ChangeAt Go.RowKit
open Go.Proofs.YtlpgnaedhijdpaaDoor.qa (Box5 OwnM)
open Go.Proofs.YtlpgnaedhijdpaaDoor.qm (machB vals MS stepM runM OkM run_stop)
open Go.Proofs.YtlpgnaedhijdpaaDoor.qi (l07Step l07Run row_ne)
open Go.Proofs.YtlpgnaedhijdpaaDoor.srt (Tab)
open Go.Proofs.YtlpgnaedhijdpaaDoor.as_ (tl tl_len)
open Go.Proofs.YtlpgnaedhijdpaaDoor.ok (cnfB)
open Go.Proofs.YtlpgnaedhijdpaaDoor.css (Sls OwnS tot)
open Go.Proofs.YtlpgnaedhijdpaaDoor.sl (Sl Own ints hide unhide ret_int ret_bool grown_refl grown_trans)
set_option linter.unusedVariables false
set_option maxRecDepth 100000 in
set_option maxHeartbeats 8000000 in
theorem specMachineRun (v q : Value) (n st k cnt : Int) (LL : List (List Int)) (P : List Int) (lo hi : Nat) (w : World) (hn : tot LL ≤ 1048576) (hP : P.length ≤ 1048576) (hh : hi ≤ w.heap.size) (hv : OwnM lo hi w v q LL P) :
    Calls Tryd.prog 29 #[.agg #[.int .i64 n, v, q, .int .i64 st, .int .i64 k], .int .i64 cnt] w fun e w' => RunE w n LL (res n LL P st k cnt) e w' := by
  have g0 : w.grownBy ((w.alloc (.cells #[.int .i64 n, v, q, .int .i64 st, .int .i64 k] 37)).alloc (.cells #[.int .i64 0, .slice none 0 0, .slice none 0 0, .int .i64 0, .int .i64 0] 37)) none := grown_trans (World.grownBy_alloc _ _ _) (World.grownBy_alloc _ _ _)
  have b0 := (Box5.new 37 w (.int .i64 n) v q (.int .i64 st) (.int .i64 k)).kept (World.grownBy_alloc _ (.cells #[.int .i64 0, .slice none 0 0, .slice none 0 0, .int .i64 0, .int .i64 0] 37) none)
  have b1 := Box5.new 37 (w.alloc (.cells #[.int .i64 n, v, q, .int .i64 st, .int .i64 k] 37)) (.int .i64 0) (.slice none 0 0) (.slice none 0 0) (.int .i64 0) (.int .i64 0)
  rw [World.size_alloc] at b1
  have hsz : ((w.alloc (.cells #[.int .i64 n, v, q, .int .i64 st, .int .i64 k] 37)).alloc (.cells #[.int .i64 0, .slice none 0 0, .slice none 0 0, .int .i64 0, .int .i64 0] 37)).heap.size = w.heap.size + 2 := by simp only [World.size_alloc]
  have C := hide (fun w1 (g : w.grownBy w1 none) => qg.l07Copy v q n st k LL P lo hi w1 hn hP (Nat.le_trans hh g.size) (hv.kept g))
  have x0 := b0.c0
  have x1 := b0.c1
  have x2 := b0.c2
  have x3 := b0.c3
  have x4 := b0.c4
  have B0 := hide b0
  have B1 := hide b1
  have G0 := hide g0
  have HS := hide hsz
  clear g0 b0 b1 hsz hv
  go_enter Tryd.func29, Tryd.ntmps29
  go_wp2_with fail
  generalize (w.alloc (.cells #[.int .i64 n, v, q, .int .i64 st, .int .i64 k] 37)).alloc (.cells #[.int .i64 0, .slice none 0 0, .slice none 0 0, .int .i64 0, .int .i64 0] 37) = W0 at *
  refine (unhide C _ (unhide G0)).mono ?_; rintro e w1 ⟨u, p, rfl, o1, g1⟩
  obtain ⟨ua, uc, pa, pc, rfl, rfl⟩ := o1.len
  have hs0 := unhide HS
  have hs1 := g1.size
  have c0 := (unhide B0).kept g1
  have c1 := (unhide B1).kept g1
  have s5 := set5 (a := .int .i64 n) (b := .slice ua LL.length uc) (p := .slice pa P.length pc) (x := .int .i64 st) (y := .int .i64 k) c0 (grown_trans (unhide G0) g1) (Nat.le_refl _) o1 (by omega)
  have s6 := set5o (c := w.heap.size) (a := .int .i64 n) (b := .slice ua LL.length uc) (p := .slice pa P.length pc) (x := .int .i64 st) (y := .int .i64 k) (w := w) c1 (by omega)
  have ST := hide (And.intro s5 s6)
  have y0 := c0.c0
  have y1 := c0.c1
  have y2 := c0.c2
  have y3 := c0.c3
  have y4 := c0.c4
  have f0 := c0.f 0
  have f1 := c0.f 1
  have f2 := c0.f 2
  have f3 := c0.f 3
  have f4 := c0.f 4
  have HS1 := hide (And.intro hs0 hs1)
  clear s5 s6 c0 c1 hs0 hs1 o1 g1 C B0 B1 G0 x0 x1 x2 x3 x4
  go_upto_region 2 with fail
  clear y0 y1 y2 y3 y4 f0 f1 f2 f3 f4
  generalize ((((w1.setCell ⟨w.heap.size, 0, none⟩ (.int .i64 n)).setCell ⟨w.heap.size, 1, none⟩ (.slice ua LL.length uc)).setCell ⟨w.heap.size, 2, none⟩ (.slice pa P.length pc)).setCell ⟨w.heap.size, 3, none⟩ (.int .i64 st)).setCell ⟨w.heap.size, 4, none⟩ (.int .i64 k) = w2 at *
  obtain ⟨⟨t1, t2, t3, t4⟩, t5⟩ := unhide ST
  clear ST
  have CM := hide (qb.specMachineOk _ _ n st k LL P w2 hn hP t3.sls t3.sl)
  have FX : Hid (∀ w3 : World, w2.grownBy w3 none → Box5 37 w3 w.heap.size (.int .i64 n) (.slice ua LL.length uc) (.slice pa P.length pc) (.int .i64 st) (.int .i64 k) ∧ Box5 37 w3 (w.heap.size + 1) (.int .i64 0) (.slice none 0 0) (.slice none 0 0) (.int .i64 0) (.int .i64 0) ∧ OwnM W0.heap.size w1.heap.size w3 (.slice ua LL.length uc) (.slice pa P.length pc) LL P ∧ w.grownBy w3 none ∧ w1.heap.size ≤ w3.heap.size) := fun w3 g3 => ⟨t1.kept g3, t5.kept g3, t3.kept g3, grown_trans t2 g3, by have := g3.size; omega⟩
  -- where the copy is the answer
  have NO : Hid (∀ w3 : World, w2.grownBy w3 none → res n LL P st k cnt = (P, st, k) → Box5 37 (((((w3.setCell ⟨w.heap.size + 1, 0, none⟩ (.int .i64 n)).setCell ⟨w.heap.size + 1, 1, none⟩ (.slice ua LL.length uc)).setCell ⟨w.heap.size + 1, 2, none⟩ (.slice pa P.length pc)).setCell ⟨w.heap.size + 1, 3, none⟩ (.int .i64 st)).setCell ⟨w.heap.size + 1, 4, none⟩ (.int .i64 k)) (w.heap.size + 1) (.int .i64 n) (.slice ua LL.length uc) (.slice pa P.length pc) (.int .i64 st) (.int .i64 k) ∧
      RunE w n LL (res n LL P st k cnt) (.returned (.agg #[.int .i64 n, .slice ua LL.length uc, .slice pa P.length pc, .int .i64 st, .int .i64 k])) (((((w3.setCell ⟨w.heap.size + 1, 0, none⟩ (.int .i64 n)).setCell ⟨w.heap.size + 1, 1, none⟩ (.slice ua LL.length uc)).setCell ⟨w.heap.size + 1, 2, none⟩ (.slice pa P.length pc)).setCell ⟨w.heap.size + 1, 3, none⟩ (.int .i64 st)).setCell ⟨w.heap.size + 1, 4, none⟩ (.int .i64 k))) := by
    intro w3 g3 hr
    obtain ⟨h1, h2, h3, h4, h5⟩ := unhide FX w3 g3
    obtain ⟨z1, z2⟩ := unhide HS1
    obtain ⟨q1, q2, q3, q4⟩ := set5 (a := .int .i64 n) (b := .slice ua LL.length uc) (p := .slice pa P.length pc) (x := .int .i64 st) (y := .int .i64 k) h2 h4 (by omega) h3 (by omega)
    refine ⟨q1, ?_⟩
    rw [hr]
    exact ⟨_, _, rfl, q3.sub (by omega) (by omega), q2⟩
  have m0 := t1.c0
  have m1 := t1.c1
  have m2 := t1.c2
  have m3 := t1.c3
  have m4 := t1.c4
  have r0 := t5.c0
  have r1 := t5.c1
  have r2 := t5.c2
  have r3 := t5.c3
  have r4 := t5.c4
  have l0 := t5.f 0
  have l1 := t5.f 1
  have l2 := t5.f 2
  have l3 := t5.f 3
  have l4 := t5.f 4
  cases hm : machB n LL P st k
  · rw [hm] at CM
    have EN := hide (res_no (cnt := cnt) (show (machB n LL P st k && decide (0 ≤ cnt ∧ cnt ≤ 1000000)) = false by rw [hm]; rfl))
    clear hm t1 t2 t3 t4 t5 HS1
    go_wp2_with fail
    refine (unhide CM).mono ?_; rintro e w3 ⟨rfl, g3⟩
    have E := hide (unhide NO w3 g3 (unhide EN))
    obtain ⟨t1, t5, _, _, _⟩ := unhide FX w3 g3
    clear m0 m1 m2 m3 m4 r0 r1 r2 r3 r4 l0 l1 l2 l3 l4
    have m0 := t1.c0
    have m1 := t1.c1
    have m2 := t1.c2
    have m3 := t1.c3
    have m4 := t1.c4
    have r0 := t5.c0
    have r1 := t5.c1
    have r2 := t5.c2
    have r3 := t5.c3
    have r4 := t5.c4
    have l0 := t5.f 0
    have l1 := t5.f 1
    have l2 := t5.f 2
    have l3 := t5.f 3
    have l4 := t5.f 4
    clear t1 t5 g3 NO FX CM EN
    go_wp2_with fail
    (try simp only [Exit.inBlock, Exit.then])
    exact bodyPost_ret (qa.ret_box5 rfl rfl (unhide E).1) rfl (unhide E).2
  · rw [hm] at CM
    go_wp2_with fail
    refine (unhide CM).mono ?_; rintro e w3 ⟨rfl, g3⟩
    obtain ⟨t1, t5, t3, t4, t6⟩ := unhide FX w3 g3
    clear m0 m1 m2 m3 m4 r0 r1 r2 r3 r4 l0 l1 l2 l3 l4
    have m0 := t1.c0
    have m1 := t1.c1
    have m2 := t1.c2
    have m3 := t1.c3
    have m4 := t1.c4
    have r0 := t5.c0
    have r1 := t5.c1
    have r2 := t5.c2
    have r3 := t5.c3
    have r4 := t5.c4
    have l0 := t5.f 0
    have l1 := t5.f 1
    have l2 := t5.f 2
    have l3 := t5.f 3
    have l4 := t5.f 4
    have DI := hide (fun wz => ok.l01In cnt 0 1000000 wz)
    by_cases hcn : 0 ≤ cnt ∧ cnt ≤ 1000000
    · rw [decide_eq_true hcn] at DI
      obtain ⟨N, rfl, h24, hcf, htl, hok⟩ := qm.mach_ok hm
      obtain ⟨j0, rfl⟩ := Int.eq_ofNat_of_zero_le hcn.1
      have EY := hide (res_yes (cnt := (j0 : Int)) (show (machB (N : Int) LL P st k && decide (0 ≤ (j0 : Int) ∧ (j0 : Int) ≤ 1000000)) = true by rw [hm, decide_eq_true hcn]; rfl))
      obtain ⟨mid, q1, q2, q3, q4⟩ := t3
      have hvl : (vals P).length = P.length := qm.vals_len P
      have CT := l07Run (.slice ua LL.length uc) (.slice pa P.length pc) N j0 LL W0.heap.size mid ⟨vals P, st, k⟩ w3 h24 (by omega) hn (fun c hc x hx => (lq.litIn_parts ((cnf_parts hcf).2 c hc x hx)).1) hok q3 (by show w3.ownsRow mid 3 1 _ (vals P).length (ints (tl 0 (vals P))); rw [htl, hvl]; exact q4.1) (by omega)
      have hsz := unhide HS1
      have FN : Hid (∀ (w4 : World) (p' : Value) (M1 : MS), res (N : Int) LL P st k (j0 : Int) = (tl 0 M1.A, M1.st, M1.k) → w4.ownsRow mid 3 1 p' M1.A.length (ints (tl 0 M1.A)) → OwnS W0.heap.size mid w4 (.slice ua LL.length uc) LL → w3.grownBy w4 (Value.slice pa P.length pc).ownBlock →
          Box5 37 (((((w4.setCell ⟨w.heap.size + 1, 0, none⟩ (.int .i64 (N : Int))).setCell ⟨w.heap.size + 1, 1, none⟩ (.slice ua LL.length uc)).setCell ⟨w.heap.size + 1, 2, none⟩ p').setCell ⟨w.heap.size + 1, 3, none⟩ (.int .i64 M1.st)).setCell ⟨w.heap.size + 1, 4, none⟩ (.int .i64 M1.k)) (w.heap.size + 1) (.int .i64 (N : Int)) (.slice ua LL.length uc) p' (.int .i64 M1.st) (.int .i64 M1.k) ∧
          RunE w (N : Int) LL (res (N : Int) LL P st k (j0 : Int)) (.returned (.agg #[.int .i64 (N : Int), .slice ua LL.length uc, p', .int .i64 M1.st, .int .i64 M1.k])) (((((w4.setCell ⟨w.heap.size + 1, 0, none⟩ (.int .i64 (N : Int))).setCell ⟨w.heap.size + 1, 1, none⟩ (.slice ua LL.length uc)).setCell ⟨w.heap.size + 1, 2, none⟩ p').setCell ⟨w.heap.size + 1, 3, none⟩ (.int .i64 M1.st)).setCell ⟨w.heap.size + 1, 4, none⟩ (.int .i64 M1.k)) ∧
          Box5 37 w4 (w.heap.size + 1) (.int .i64 0) (.slice none 0 0) (.slice none 0 0) (.int .i64 0) (.int .i64 0)) := by
        intro w4 p' M1 hr ho hf hg
        have r4 := t5.by hg (row_ne q4.1 t5 (by decide))
        have hs4 := hg.size
        have gg : w.grownBy w4 none := ⟨hg.os.trans t4.os, hg.tape.trans t4.tape, hg.output.trans t4.output, Nat.le_trans t4.size hg.size, fun i hi _ => (hg.block i (by omega) (fun e => by have := (q4.1.lt i e.symm).1; omega)).trans (t4.block i hi (fun e => by cases e))⟩
        have hmd : mid ≤ w4.heap.size := by omega
        obtain ⟨s1, s2, s3, s4⟩ := set5 (a := .int .i64 (N : Int)) (b := .slice ua LL.length uc) (p := p') (x := .int .i64 M1.st) (y := .int .i64 M1.k) (P := tl 0 M1.A) (LL := LL) (u := .slice ua LL.length uc) (q := p') (lo := W0.heap.size) (hi := w4.heap.size) r4 gg (by omega) ⟨mid, q1, hmd, hf, sl.Own.of (by rw [tl_len]; exact ho)⟩ (by omega)
        refine ⟨s1, ?_, r4⟩
        rw [hr]
        exact ⟨_, _, rfl, s3.sub (by omega) (by rw [s4]; exact Nat.le_refl _), s2⟩
      have EE : Hid (res (N : Int) LL P st k (j0 : Int) = (tl 0 ((runM N LL j0 ⟨vals P, st, k⟩)).A, ((runM N LL j0 ⟨vals P, st, k⟩)).st, ((runM N LL j0 ⟨vals P, st, k⟩)).k)) := by
        show res (N : Int) LL P st k (j0 : Int) = _
        rw [unhide EY]
        rfl
      have HT := hide CT
      clear CT hm hok htl hcf EY NO FX CM t1 t5 t4 t6 q1 q2 q3 q4 hvl hsz g3 HS1
      generalize (runM N LL j0 ⟨vals P, st, k⟩) = M1 at *
      go_wp2_with fail
      refine (unhide DI w3).mono ?_; rintro e w' ⟨rfl, hw⟩; have hw' := hw.symm; clear hw; subst hw'
      go_wp2_with fail
      refine (unhide HT).mono ?_; rintro e w4 ⟨p', rfl, o4, f4, g4, _⟩
      obtain ⟨pa', pc', hpe⟩ := ks.row_form o4
      subst hpe
      obtain ⟨e1, e2, e3⟩ := unhide FN w4 _ M1 (unhide EE) o4 f4 g4
      have E := hide (And.intro e1 e2)
      clear m0 m1 m2 m3 m4 r0 r1 r2 r3 r4 l0 l1 l2 l3 l4
      have r0 := e3.c0
      have r1 := e3.c1
      have r2 := e3.c2
      have r3 := e3.c3
      have r4 := e3.c4
      have l0 := e3.f 0
      have l1 := e3.f 1
      have l2 := e3.f 2
      have l3 := e3.f 3
      have l4 := e3.f 4
      clear e1 e2 e3 o4 f4 g4 FN HT EE
      go_wp2_with fail
      (try simp only [Exit.inBlock, Exit.then])
      exact bodyPost_ret (qa.ret_box5 rfl rfl (unhide E).1) rfl (unhide E).2
    · rw [decide_eq_false hcn] at DI
      have E := hide (unhide NO w3 g3 (res_no (by rw [decide_eq_false hcn, Bool.and_false])))
      clear NO FX CM t1 t5 t3 t4 t6 g3 HS1 hm
      go_wp2_with fail
      refine (unhide DI w3).mono ?_; rintro e w' ⟨rfl, hw⟩; have hw' := hw.symm; clear hw; subst hw'
      go_wp2_with fail
      (try simp only [Exit.inBlock, Exit.then])
      exact bodyPost_ret (qa.ret_box5 rfl rfl (unhide E).1) rfl (unhide E).2
set_option maxRecDepth 100000 in
set_option maxHeartbeats 8000000 in
theorem specMachineStep (v q : Value) (n st k : Int) (LL : List (List Int)) (P : List Int) (lo hi : Nat) (w : World) (hn : tot LL ≤ 1048576) (hP : P.length ≤ 1048576) (hh : hi ≤ w.heap.size) (hv : OwnM lo hi w v q LL P) :
    Calls Tryd.prog 31 #[.agg #[.int .i64 n, v, q, .int .i64 st, .int .i64 k]] w fun e w' => RunE w n LL (res n LL P st k 1) e w' := by
  have g0 : w.grownBy ((w.alloc (.cells #[.int .i64 n, v, q, .int .i64 st, .int .i64 k] 37)).alloc (.cells #[.int .i64 0, .slice none 0 0, .slice none 0 0, .int .i64 0, .int .i64 0] 37)) none := grown_trans (World.grownBy_alloc _ _ _) (World.grownBy_alloc _ _ _)
  have b0 := (Box5.new 37 w (.int .i64 n) v q (.int .i64 st) (.int .i64 k)).kept (World.grownBy_alloc _ (.cells #[.int .i64 0, .slice none 0 0, .slice none 0 0, .int .i64 0, .int .i64 0] 37) none)
  have b1 := Box5.new 37 (w.alloc (.cells #[.int .i64 n, v, q, .int .i64 st, .int .i64 k] 37)) (.int .i64 0) (.slice none 0 0) (.slice none 0 0) (.int .i64 0) (.int .i64 0)
  rw [World.size_alloc] at b1
  have hsz : ((w.alloc (.cells #[.int .i64 n, v, q, .int .i64 st, .int .i64 k] 37)).alloc (.cells #[.int .i64 0, .slice none 0 0, .slice none 0 0, .int .i64 0, .int .i64 0] 37)).heap.size = w.heap.size + 2 := by simp only [World.size_alloc]
  have C := hide (fun w1 (g : w.grownBy w1 none) => qg.l07Copy v q n st k LL P lo hi w1 hn hP (Nat.le_trans hh g.size) (hv.kept g))
  have x0 := b0.c0
  have x1 := b0.c1
  have x2 := b0.c2
  have x3 := b0.c3
  have x4 := b0.c4
  have B0 := hide b0
  have B1 := hide b1
  have G0 := hide g0
  have HS := hide hsz
  clear g0 b0 b1 hsz hv
  go_enter Tryd.func31, Tryd.ntmps31
  go_wp2_with fail
  generalize (w.alloc (.cells #[.int .i64 n, v, q, .int .i64 st, .int .i64 k] 37)).alloc (.cells #[.int .i64 0, .slice none 0 0, .slice none 0 0, .int .i64 0, .int .i64 0] 37) = W0 at *
  refine (unhide C _ (unhide G0)).mono ?_; rintro e w1 ⟨u, p, rfl, o1, g1⟩
  obtain ⟨ua, uc, pa, pc, rfl, rfl⟩ := o1.len
  have hs0 := unhide HS
  have hs1 := g1.size
  have c0 := (unhide B0).kept g1
  have c1 := (unhide B1).kept g1
  have s5 := set5 (a := .int .i64 n) (b := .slice ua LL.length uc) (p := .slice pa P.length pc) (x := .int .i64 st) (y := .int .i64 k) c0 (grown_trans (unhide G0) g1) (Nat.le_refl _) o1 (by omega)
  have s6 := set5o (c := w.heap.size) (a := .int .i64 n) (b := .slice ua LL.length uc) (p := .slice pa P.length pc) (x := .int .i64 st) (y := .int .i64 k) (w := w) c1 (by omega)
  have ST := hide (And.intro s5 s6)
  have y0 := c0.c0
  have y1 := c0.c1
  have y2 := c0.c2
  have y3 := c0.c3
  have y4 := c0.c4
  have f0 := c0.f 0
  have f1 := c0.f 1
  have f2 := c0.f 2
  have f3 := c0.f 3
  have f4 := c0.f 4
  have HS1 := hide (And.intro hs0 hs1)
  clear s5 s6 c0 c1 hs0 hs1 o1 g1 C B0 B1 G0 x0 x1 x2 x3 x4
  go_upto_region 2 with fail
  clear y0 y1 y2 y3 y4 f0 f1 f2 f3 f4
  generalize ((((w1.setCell ⟨w.heap.size, 0, none⟩ (.int .i64 n)).setCell ⟨w.heap.size, 1, none⟩ (.slice ua LL.length uc)).setCell ⟨w.heap.size, 2, none⟩ (.slice pa P.length pc)).setCell ⟨w.heap.size, 3, none⟩ (.int .i64 st)).setCell ⟨w.heap.size, 4, none⟩ (.int .i64 k) = w2 at *
  obtain ⟨⟨t1, t2, t3, t4⟩, t5⟩ := unhide ST
  clear ST
  have CM := hide (qb.specMachineOk _ _ n st k LL P w2 hn hP t3.sls t3.sl)
  have FX : Hid (∀ w3 : World, w2.grownBy w3 none → Box5 37 w3 w.heap.size (.int .i64 n) (.slice ua LL.length uc) (.slice pa P.length pc) (.int .i64 st) (.int .i64 k) ∧ Box5 37 w3 (w.heap.size + 1) (.int .i64 0) (.slice none 0 0) (.slice none 0 0) (.int .i64 0) (.int .i64 0) ∧ OwnM W0.heap.size w1.heap.size w3 (.slice ua LL.length uc) (.slice pa P.length pc) LL P ∧ w.grownBy w3 none ∧ w1.heap.size ≤ w3.heap.size) := fun w3 g3 => ⟨t1.kept g3, t5.kept g3, t3.kept g3, grown_trans t2 g3, by have := g3.size; omega⟩
  -- where the copy is the answer
  have NO : Hid (∀ w3 : World, w2.grownBy w3 none → res n LL P st k 1 = (P, st, k) → Box5 37 (((((w3.setCell ⟨w.heap.size + 1, 0, none⟩ (.int .i64 n)).setCell ⟨w.heap.size + 1, 1, none⟩ (.slice ua LL.length uc)).setCell ⟨w.heap.size + 1, 2, none⟩ (.slice pa P.length pc)).setCell ⟨w.heap.size + 1, 3, none⟩ (.int .i64 st)).setCell ⟨w.heap.size + 1, 4, none⟩ (.int .i64 k)) (w.heap.size + 1) (.int .i64 n) (.slice ua LL.length uc) (.slice pa P.length pc) (.int .i64 st) (.int .i64 k) ∧
      RunE w n LL (res n LL P st k 1) (.returned (.agg #[.int .i64 n, .slice ua LL.length uc, .slice pa P.length pc, .int .i64 st, .int .i64 k])) (((((w3.setCell ⟨w.heap.size + 1, 0, none⟩ (.int .i64 n)).setCell ⟨w.heap.size + 1, 1, none⟩ (.slice ua LL.length uc)).setCell ⟨w.heap.size + 1, 2, none⟩ (.slice pa P.length pc)).setCell ⟨w.heap.size + 1, 3, none⟩ (.int .i64 st)).setCell ⟨w.heap.size + 1, 4, none⟩ (.int .i64 k))) := by
    intro w3 g3 hr
    obtain ⟨h1, h2, h3, h4, h5⟩ := unhide FX w3 g3
    obtain ⟨z1, z2⟩ := unhide HS1
    obtain ⟨q1, q2, q3, q4⟩ := set5 (a := .int .i64 n) (b := .slice ua LL.length uc) (p := .slice pa P.length pc) (x := .int .i64 st) (y := .int .i64 k) h2 h4 (by omega) h3 (by omega)
    refine ⟨q1, ?_⟩
    rw [hr]
    exact ⟨_, _, rfl, q3.sub (by omega) (by omega), q2⟩
  have m0 := t1.c0
  have m1 := t1.c1
  have m2 := t1.c2
  have m3 := t1.c3
  have m4 := t1.c4
  have r0 := t5.c0
  have r1 := t5.c1
  have r2 := t5.c2
  have r3 := t5.c3
  have r4 := t5.c4
  have l0 := t5.f 0
  have l1 := t5.f 1
  have l2 := t5.f 2
  have l3 := t5.f 3
  have l4 := t5.f 4
  cases hm : machB n LL P st k
  · rw [hm] at CM
    have EN := hide (res_no (cnt := 1) (show (machB n LL P st k && decide (0 ≤ 1 ∧ 1 ≤ 1000000)) = false by rw [hm]; rfl))
    clear hm t1 t2 t3 t4 t5 HS1
    go_wp2_with fail
    refine (unhide CM).mono ?_; rintro e w3 ⟨rfl, g3⟩
    have E := hide (unhide NO w3 g3 (unhide EN))
    obtain ⟨t1, t5, _, _, _⟩ := unhide FX w3 g3
    clear m0 m1 m2 m3 m4 r0 r1 r2 r3 r4 l0 l1 l2 l3 l4
    have m0 := t1.c0
    have m1 := t1.c1
    have m2 := t1.c2
    have m3 := t1.c3
    have m4 := t1.c4
    have r0 := t5.c0
    have r1 := t5.c1
    have r2 := t5.c2
    have r3 := t5.c3
    have r4 := t5.c4
    have l0 := t5.f 0
    have l1 := t5.f 1
    have l2 := t5.f 2
    have l3 := t5.f 3
    have l4 := t5.f 4
    clear t1 t5 g3 NO FX CM EN
    go_wp2_with fail
    (try simp only [Exit.inBlock, Exit.then])
    exact bodyPost_ret (qa.ret_box5 rfl rfl (unhide E).1) rfl (unhide E).2
  · rw [hm] at CM
    go_wp2_with fail
    refine (unhide CM).mono ?_; rintro e w3 ⟨rfl, g3⟩
    obtain ⟨t1, t5, t3, t4, t6⟩ := unhide FX w3 g3
    clear m0 m1 m2 m3 m4 r0 r1 r2 r3 r4 l0 l1 l2 l3 l4
    have m0 := t1.c0
    have m1 := t1.c1
    have m2 := t1.c2
    have m3 := t1.c3
    have m4 := t1.c4
    have r0 := t5.c0
    have r1 := t5.c1
    have r2 := t5.c2
    have r3 := t5.c3
    have r4 := t5.c4
    have l0 := t5.f 0
    have l1 := t5.f 1
    have l2 := t5.f 2
    have l3 := t5.f 3
    have l4 := t5.f 4
    obtain ⟨N, rfl, h24, hcf, htl, hok⟩ := qm.mach_ok hm
    have EY := hide (res_yes (cnt := 1) (show (machB (N : Int) LL P st k && decide (0 ≤ (1 : Int) ∧ (1 : Int) ≤ 1000000)) = true by rw [hm]; rfl))
    obtain ⟨mid, q1, q2, q3, q4⟩ := t3
    have hvl : (vals P).length = P.length := qm.vals_len P
    have CT := l07Step (.slice ua LL.length uc) (.slice pa P.length pc) N LL W0.heap.size mid ⟨vals P, st, k⟩ w3 h24 hn (fun c hc x hx => (lq.litIn_parts ((cnf_parts hcf).2 c hc x hx)).1) hok q3 (by show w3.ownsRow mid 3 1 _ (vals P).length (ints (tl 0 (vals P))); rw [htl, hvl]; exact q4.1) (by omega)
    have hsz := unhide HS1
    have FN : Hid (∀ (w4 : World) (p' : Value) (M1 : MS), res (N : Int) LL P st k 1 = (tl 0 M1.A, M1.st, M1.k) → w4.ownsRow mid 3 1 p' M1.A.length (ints (tl 0 M1.A)) → OwnS W0.heap.size mid w4 (.slice ua LL.length uc) LL → w3.grownBy w4 (Value.slice pa P.length pc).ownBlock →
        Box5 37 (((((w4.setCell ⟨w.heap.size + 1, 0, none⟩ (.int .i64 (N : Int))).setCell ⟨w.heap.size + 1, 1, none⟩ (.slice ua LL.length uc)).setCell ⟨w.heap.size + 1, 2, none⟩ p').setCell ⟨w.heap.size + 1, 3, none⟩ (.int .i64 M1.st)).setCell ⟨w.heap.size + 1, 4, none⟩ (.int .i64 M1.k)) (w.heap.size + 1) (.int .i64 (N : Int)) (.slice ua LL.length uc) p' (.int .i64 M1.st) (.int .i64 M1.k) ∧
        RunE w (N : Int) LL (res (N : Int) LL P st k 1) (.returned (.agg #[.int .i64 (N : Int), .slice ua LL.length uc, p', .int .i64 M1.st, .int .i64 M1.k])) (((((w4.setCell ⟨w.heap.size + 1, 0, none⟩ (.int .i64 (N : Int))).setCell ⟨w.heap.size + 1, 1, none⟩ (.slice ua LL.length uc)).setCell ⟨w.heap.size + 1, 2, none⟩ p').setCell ⟨w.heap.size + 1, 3, none⟩ (.int .i64 M1.st)).setCell ⟨w.heap.size + 1, 4, none⟩ (.int .i64 M1.k)) ∧
        Box5 37 w4 (w.heap.size + 1) (.int .i64 0) (.slice none 0 0) (.slice none 0 0) (.int .i64 0) (.int .i64 0)) := by
      intro w4 p' M1 hr ho hf hg
      have r4 := t5.by hg (row_ne q4.1 t5 (by decide))
      have hs4 := hg.size
      have gg : w.grownBy w4 none := ⟨hg.os.trans t4.os, hg.tape.trans t4.tape, hg.output.trans t4.output, Nat.le_trans t4.size hg.size, fun i hi _ => (hg.block i (by omega) (fun e => by have := (q4.1.lt i e.symm).1; omega)).trans (t4.block i hi (fun e => by cases e))⟩
      have hmd : mid ≤ w4.heap.size := by omega
      obtain ⟨s1, s2, s3, s4⟩ := set5 (a := .int .i64 (N : Int)) (b := .slice ua LL.length uc) (p := p') (x := .int .i64 M1.st) (y := .int .i64 M1.k) (P := tl 0 M1.A) (LL := LL) (u := .slice ua LL.length uc) (q := p') (lo := W0.heap.size) (hi := w4.heap.size) r4 gg (by omega) ⟨mid, q1, hmd, hf, sl.Own.of (by rw [tl_len]; exact ho)⟩ (by omega)
      refine ⟨s1, ?_, r4⟩
      rw [hr]
      exact ⟨_, _, rfl, s3.sub (by omega) (by rw [s4]; exact Nat.le_refl _), s2⟩
    have EE : Hid (res (N : Int) LL P st k 1 = (tl 0 ((stepM N LL ⟨vals P, st, k⟩)).A, ((stepM N LL ⟨vals P, st, k⟩)).st, ((stepM N LL ⟨vals P, st, k⟩)).k)) := by
      show res (N : Int) LL P st k 1 = _
      rw [unhide EY]
      rfl
    have HT := hide CT
    clear CT hm hok htl hcf EY NO FX CM t1 t5 t4 t6 q1 q2 q3 q4 hvl hsz g3 HS1
    generalize (stepM N LL ⟨vals P, st, k⟩) = M1 at *
    go_wp2_with fail
    refine (unhide HT).mono ?_; rintro e w4 ⟨p', rfl, o4, f4, g4, _⟩
    obtain ⟨pa', pc', hpe⟩ := ks.row_form o4
    subst hpe
    obtain ⟨e1, e2, e3⟩ := unhide FN w4 _ M1 (unhide EE) o4 f4 g4
    have E := hide (And.intro e1 e2)
    clear m0 m1 m2 m3 m4 r0 r1 r2 r3 r4 l0 l1 l2 l3 l4
    have r0 := e3.c0
    have r1 := e3.c1
    have r2 := e3.c2
    have r3 := e3.c3
    have r4 := e3.c4
    have l0 := e3.f 0
    have l1 := e3.f 1
    have l2 := e3.f 2
    have l3 := e3.f 3
    have l4 := e3.f 4
    clear e1 e2 e3 o4 f4 g4 FN HT EE
    go_wp2_with fail
    (try simp only [Exit.inBlock, Exit.then])
    exact bodyPost_ret (qa.ret_box5 rfl rfl (unhide E).1) rfl (unhide E).2
theorem res_len (n : Int) (LL : List (List Int)) (P : List Int) (st k cnt : Int) (hP : P.length ≤ 1048576) : (res n LL P st k cnt).1.length ≤ 1048576 := by
  cases h : (machB n LL P st k && decide (0 ≤ cnt ∧ cnt ≤ 1000000))
  · rw [res_no h]; exact hP
  · rw [res_yes h]
    rw [Bool.and_eq_true] at h
    obtain ⟨N, rfl, h24, _, _, hok⟩ := qm.mach_ok h.1
    have := (hok.run (LL := LL) cnt.toNat).len
    show (tl 0 _).length ≤ _
    rw [tl_len, Int.toNat_natCast]
    omega
theorem bothR (n st k cnt : Int) (LL : List (List Int)) (P : List Int) (hn : tot LL ≤ 1048576) (hP : P.length ≤ 1048576) : ∃ (RP : List Int) (RS RK : Int), RP.length ≤ 1048576 ∧
    (∀ v q lo hi w, OwnM lo hi w v q LL P → hi ≤ w.heap.size → Calls Tryd.prog 29 #[.agg #[.int .i64 n, v, q, .int .i64 st, .int .i64 k], .int .i64 cnt] w fun e w' => ∃ u p, e = .returned (.agg #[.int .i64 n, u, p, .int .i64 RS, .int .i64 RK]) ∧ OwnM w.heap.size w'.heap.size w' u p LL RP ∧ w.grownBy w' none) ∧
    ∀ v q lo hi w, Tab w → OwnM lo hi w v q LL P → Calls Tryd.prog 21 #[.agg #[.int .i64 n, v, q, .int .i64 st, .int .i64 k], .int .i64 cnt] w fun e w' => ∃ u p, e = .returned (.agg #[.int .i64 n, u, p, .int .i64 RS, .int .i64 RK]) ∧ OwnM w.heap.size w'.heap.size w' u p LL RP ∧ w.grownBy w' none :=
  ⟨_, _, _, res_len n LL P st k cnt hP, fun v q lo hi w hv hh => specMachineRun v q n st k cnt LL P lo hi w hn hP hh hv, fun v q lo hi w hT hv => implMachineRun v q n st k cnt LL P lo hi w hT hn hP hv⟩
theorem bothT (n st k : Int) (LL : List (List Int)) (P : List Int) (hn : tot LL ≤ 1048576) (hP : P.length ≤ 1048576) : ∃ (RP : List Int) (RS RK : Int), RP.length ≤ 1048576 ∧
    (∀ v q lo hi w, OwnM lo hi w v q LL P → hi ≤ w.heap.size → Calls Tryd.prog 31 #[.agg #[.int .i64 n, v, q, .int .i64 st, .int .i64 k]] w fun e w' => ∃ u p, e = .returned (.agg #[.int .i64 n, u, p, .int .i64 RS, .int .i64 RK]) ∧ OwnM w.heap.size w'.heap.size w' u p LL RP ∧ w.grownBy w' none) ∧
    ∀ v q lo hi w, Tab w → OwnM lo hi w v q LL P → Calls Tryd.prog 30 #[.agg #[.int .i64 n, v, q, .int .i64 st, .int .i64 k]] w fun e w' => ∃ u p, e = .returned (.agg #[.int .i64 n, u, p, .int .i64 RS, .int .i64 RK]) ∧ OwnM w.heap.size w'.heap.size w' u p LL RP ∧ w.grownBy w' none :=
  ⟨_, _, _, res_len n LL P st k 1 hP, fun v q lo hi w hv hh => specMachineStep v q n st k LL P lo hi w hn hP hh hv, fun v q lo hi w hT hv => implMachineStep v q n st k LL P lo hi w hT hn hP hv⟩
end Go.Proofs.YtlpgnaedhijdpaaDoor.qh
