/- What the program's MachineRun and MachineStep answer at every machine of the call's own that holds at most 2^20 values; the library's table of places lies as its text lays it. -/
import Derived.Test.YtlpgnaedhijdpaaDoorQf
import Derived.Test.YtlpgnaedhijdpaaDoorQg
import Derived.Test.YtlpgnaedhijdpaaDoorQb
namespace Go.Proofs.YtlpgnaedhijdpaaDoor.qh
open Go.ChangeShapes Go.WideShapes Go.ChangeAt Go.RowKit
open Go.Proofs.YtlpgnaedhijdpaaDoor.qa (Box5 OwnM)
open Go.Proofs.YtlpgnaedhijdpaaDoor.qm (machB vals MS stepM runM OkM run_stop)
open Go.Proofs.YtlpgnaedhijdpaaDoor.qw (WV Wlk Blk Now WofE bel_trans bel_by bel_set)
open Go.Proofs.YtlpgnaedhijdpaaDoor.kd (SV Slv)
open Go.Proofs.YtlpgnaedhijdpaaDoor.srt (Tab)
open Go.Proofs.YtlpgnaedhijdpaaDoor.as_ (tl tl_len)
open Go.Proofs.YtlpgnaedhijdpaaDoor.ok (cnfB)
open Go.Proofs.YtlpgnaedhijdpaaDoor.css (Sls OwnS tot)
open Go.Proofs.YtlpgnaedhijdpaaDoor.sl (Sl Own ints hide unhide ret_int ret_bool grown_refl grown_trans)
set_option linter.unusedVariables false
/-- the path, the state and the steps behind a run -/
def res (n : Int) (LL : List (List Int)) (P : List Int) (st k cnt : Int) : List Int × Int × Int :=
  if machB n LL P st k && decide (0 ≤ cnt ∧ cnt ≤ 1000000) then (tl 0 (runM n.toNat LL cnt.toNat ⟨vals P, st, k⟩).A, (runM n.toNat LL cnt.toNat ⟨vals P, st, k⟩).st, (runM n.toNat LL cnt.toNat ⟨vals P, st, k⟩).k) else (P, st, k)
theorem res_no {n st k cnt : Int} {LL : List (List Int)} {P : List Int} (h : (machB n LL P st k && decide (0 ≤ cnt ∧ cnt ≤ 1000000)) = false) : res n LL P st k cnt = (P, st, k) := by unfold res; rw [h]; rfl
theorem res_yes {n st k cnt : Int} {LL : List (List Int)} {P : List Int} (h : (machB n LL P st k && decide (0 ≤ cnt ∧ cnt ≤ 1000000)) = true) : res n LL P st k cnt = (tl 0 (runM n.toNat LL cnt.toNat ⟨vals P, st, k⟩).A, (runM n.toNat LL cnt.toNat ⟨vals P, st, k⟩).st, (runM n.toNat LL cnt.toNat ⟨vals P, st, k⟩).k) := by unfold res; rw [h]; rfl
/-- what a run answers -/
def RunE (w : World) (n : Int) (LL : List (List Int)) (r : List Int × Int × Int) (e : Ending) (w' : World) : Prop := ∃ u p, e = .returned (.agg #[.int .i64 n, u, p, .int .i64 r.2.1, .int .i64 r.2.2]) ∧ OwnM w.heap.size w'.heap.size w' u p LL r.1 ∧ w.grownBy w' none
theorem set5 {w wx : World} {c lo hi : Nat} {t : TypeId} {a0 b0 p0 x0 y0 a b p x y u q : Value} {LL : List (List Int)} {P : List Int} (hb : Box5 t wx c a0 b0 p0 x0 y0) (hg : w.grownBy wx none) (hc : w.heap.size ≤ c) (ho : OwnM lo hi wx u q LL P) (hlo : c < lo) :
    Box5 t (((((wx.setCell ⟨c, 0, none⟩ a).setCell ⟨c, 1, none⟩ b).setCell ⟨c, 2, none⟩ p).setCell ⟨c, 3, none⟩ x).setCell ⟨c, 4, none⟩ y) c a b p x y ∧ w.grownBy (((((wx.setCell ⟨c, 0, none⟩ a).setCell ⟨c, 1, none⟩ b).setCell ⟨c, 2, none⟩ p).setCell ⟨c, 3, none⟩ x).setCell ⟨c, 4, none⟩ y) none ∧
      OwnM lo hi (((((wx.setCell ⟨c, 0, none⟩ a).setCell ⟨c, 1, none⟩ b).setCell ⟨c, 2, none⟩ p).setCell ⟨c, 3, none⟩ x).setCell ⟨c, 4, none⟩ y) u q LL P ∧ (((((wx.setCell ⟨c, 0, none⟩ a).setCell ⟨c, 1, none⟩ b).setCell ⟨c, 2, none⟩ p).setCell ⟨c, 3, none⟩ x).setCell ⟨c, 4, none⟩ y).heap.size = wx.heap.size := by
  have own : ∀ {wx : World} {i : Nat} {z : Value}, OwnM lo hi wx u q LL P → OwnM lo hi (wx.setCell ⟨c, i, none⟩ z) u q LL P := fun {wx i z} h =>
    h.outs (css.outs_by (lo := c) (hi := c + 1) (sl.grown_setCell wx c i z) (fun k e => by cases e; omega)) (by omega)
  refine ⟨((((hb.set0 _).set1 _).set2 _).set3 _).set4 _, cf.grown_set (cf.grown_set (cf.grown_set (cf.grown_set (cf.grown_set hg hc) hc) hc) hc) hc, own (own (own (own (own ho)))), by simp only [cf.size_set]⟩
theorem set5o {w wx : World} {c d : Nat} {t : TypeId} {a0 b0 p0 x0 y0 a b p x y : Value} (hb : Box5 t wx d a0 b0 p0 x0 y0) (hc : c ≠ d) :
    Box5 t (((((wx.setCell ⟨c, 0, none⟩ a).setCell ⟨c, 1, none⟩ b).setCell ⟨c, 2, none⟩ p).setCell ⟨c, 3, none⟩ x).setCell ⟨c, 4, none⟩ y) d a0 b0 p0 x0 y0 := ((((hb.setO hc).setO hc).setO hc).setO hc).setO hc
theorem cnf_parts {n : Int} {LL : List (List Int)} (h : cnfB n LL = true) : LL.length ≤ 120 ∧ ∀ c ∈ LL, ∀ x ∈ c, ok.litIn n x = true := by
  unfold ok.cnfB at h
  simp only [Bool.and_eq_true, decide_eq_true_iff] at h
  refine ⟨h.1.2, fun c hc x hx => ?_⟩
  have := List.all_eq_true.1 h.2 c hc
  unfold ok.clB at this
  rw [Bool.and_eq_true, List.all_eq_true] at this
  exact this.1 x hx
/-- the walker on its way: as many steps as are left lead to the end -/
structure Way (N : Nat) (LL : List (List Int)) (a mid c : Nat) (s : SV) (f : Value) (w4 wr : World) (fin : MS) (j : Nat) (v : WV) (m : MS) : Prop where
  run : runM N LL j m = fin
  ok : OkM N m
  st : v.st = m.st
  k : v.k = m.k
  f : v.f = f
  wk : Wlk N LL a mid wr c v s m.A
  bel : Below mid w4 wr
  jb : j ≤ 1000000
/-- what is answered at the end -/
theorem Way.fin {w w4 wr : World} {N : Nat} {LL : List (List Int)} {a mid c : Nat} {s : SV} {f : Value} {m fin : MS} {v : WV} {j : Nat} {a0 b0 p0 x0 y0 : Value} (h : Way N LL a mid c s f w4 wr fin j v m) (hj : fin = m) (hb : Box5 37 w4 (w.heap.size + 1) a0 b0 p0 x0 y0) (hg : w.grownBy w4 none) (hwa : w.heap.size + 2 ≤ a) (hm : mid ≤ w4.heap.size) :
    Box5 37 (((((wr.setCell ⟨w.heap.size + 1, 0, none⟩ (.int .i64 (N : Int))).setCell ⟨w.heap.size + 1, 1, none⟩ v.f).setCell ⟨w.heap.size + 1, 2, none⟩ v.p).setCell ⟨w.heap.size + 1, 3, none⟩ (.int .i64 v.st)).setCell ⟨w.heap.size + 1, 4, none⟩ (.int .i64 v.k)) (w.heap.size + 1) (.int .i64 (N : Int)) v.f v.p (.int .i64 v.st) (.int .i64 v.k) ∧
      RunE w (N : Int) LL (tl 0 fin.A, fin.st, fin.k) (.returned (.agg #[.int .i64 (N : Int), v.f, v.p, .int .i64 v.st, .int .i64 v.k])) (((((wr.setCell ⟨w.heap.size + 1, 0, none⟩ (.int .i64 (N : Int))).setCell ⟨w.heap.size + 1, 1, none⟩ v.f).setCell ⟨w.heap.size + 1, 2, none⟩ v.p).setCell ⟨w.heap.size + 1, 3, none⟩ (.int .i64 v.st)).setCell ⟨w.heap.size + 1, 4, none⟩ (.int .i64 v.k)) ∧
      Box5 37 wr (w.heap.size + 1) a0 b0 p0 x0 y0 := by
  have ham := h.wk.am
  have hbr : Box5 37 wr (w.heap.size + 1) a0 b0 p0 x0 y0 := by
    unfold qa.Box5
    rw [h.bel.block _ (by omega)]
    exact hb
  have hgr : w.grownBy wr none := sl.of_below ⟨h.bel.os.trans hg.os, h.bel.tape.trans hg.tape, h.bel.output.trans hg.output, Nat.le_trans hg.size h.bel.size, fun k hk => (h.bel.block k (by omega)).trans (hg.block k hk (fun e => by cases e))⟩
  have how : OwnM a wr.heap.size wr v.f v.p LL (tl 0 m.A) := ⟨mid, ham, Nat.le_trans h.wk.hc (Nat.le_of_lt h.wk.blk.lt), h.wk.cl, sl.Own.of (by rw [tl_len]; exact h.wk.ow)⟩
  obtain ⟨q1, q2, q3, q4⟩ := set5 (a := .int .i64 (N : Int)) (b := v.f) (p := v.p) (x := .int .i64 v.st) (y := .int .i64 v.k) hbr hgr (by omega) how (by omega)
  refine ⟨q1, ?_, hbr⟩
  subst hj
  refine ⟨v.f, v.p, ?_, q3.sub (by omega) (by rw [q4]; exact Nat.le_refl _), q2⟩
  rw [h.st, h.k]
set_option maxRecDepth 100000 in
set_option maxHeartbeats 8000000 in
theorem implMachineRun (v q : Value) (n st k cnt : Int) (LL : List (List Int)) (P : List Int) (lo hi : Nat) (w : World) (hT : Tab w) (hn : tot LL ≤ 1048576) (hP : P.length ≤ 1048576) (hv : OwnM lo hi w v q LL P) :
    Calls Tryd.prog 21 #[.agg #[.int .i64 n, v, q, .int .i64 st, .int .i64 k], .int .i64 cnt] w fun e w' => RunE w n LL (res n LL P st k cnt) e w' := by
  have g0 : w.grownBy ((w.alloc (.cells #[.int .i64 n, v, q, .int .i64 st, .int .i64 k] 37)).alloc (.cells #[.int .i64 0, .slice none 0 0, .slice none 0 0, .int .i64 0, .int .i64 0] 37)) none := grown_trans (World.grownBy_alloc _ _ _) (World.grownBy_alloc _ _ _)
  have b0 := (Box5.new 37 w (.int .i64 n) v q (.int .i64 st) (.int .i64 k)).kept (World.grownBy_alloc _ (.cells #[.int .i64 0, .slice none 0 0, .slice none 0 0, .int .i64 0, .int .i64 0] 37) none)
  have b1 := Box5.new 37 (w.alloc (.cells #[.int .i64 n, v, q, .int .i64 st, .int .i64 k] 37)) (.int .i64 0) (.slice none 0 0) (.slice none 0 0) (.int .i64 0) (.int .i64 0)
  rw [World.size_alloc] at b1
  have hsz : ((w.alloc (.cells #[.int .i64 n, v, q, .int .i64 st, .int .i64 k] 37)).alloc (.cells #[.int .i64 0, .slice none 0 0, .slice none 0 0, .int .i64 0, .int .i64 0] 37)).heap.size = w.heap.size + 2 := by simp only [World.size_alloc]
  have C := hide (fun w1 (g : w.grownBy w1 none) => qg.copyMachine v q n st k LL P lo hi w1 hn hP (hv.kept g))
  have HT := hide (fun w1 (g : w.grownBy w1 none) => hT.below (sl.below_of g))
  have x0 := b0.c0
  have x1 := b0.c1
  have x2 := b0.c2
  have x3 := b0.c3
  have x4 := b0.c4
  have B0 := hide b0
  have B1 := hide b1
  have G0 := hide g0
  have HS := hide hsz
  clear g0 b0 b1 hsz hv hT
  go_enter Tryd.func21, Tryd.ntmps21
  go_wp2_with fail
  generalize (w.alloc (.cells #[.int .i64 n, v, q, .int .i64 st, .int .i64 k] 37)).alloc (.cells #[.int .i64 0, .slice none 0 0, .slice none 0 0, .int .i64 0, .int .i64 0] 37) = W0 at *
  refine (unhide C _ (unhide G0)).mono ?_; rintro e w1 ⟨u, p, rfl, o1, g1⟩
  obtain ⟨ua, uc, pa, pc, rfl, rfl⟩ := o1.len
  have hs0 := unhide HS
  have hs1 := g1.size
  have c0 := (unhide B0).kept g1
  have c1 := (unhide B1).kept g1
  have s5 := set5 (a := .int .i64 n) (b := .slice ua LL.length uc) (p := .slice pa P.length pc) (x := .int .i64 st) (y := .int .i64 k) c0 (grown_trans (unhide G0) g1) (Nat.le_refl _) o1 (by omega)
  have s6 := set5o (c := w.heap.size) (a := .int .i64 n) (b := .slice ua LL.length uc) (p := .slice pa P.length pc) (x := .int .i64 st) (y := .int .i64 k) (w := w) c1 (by omega)
  have ST := hide (And.intro s5 s6)
  have y0 := c0.c0
  have y1 := c0.c1
  have y2 := c0.c2
  have y3 := c0.c3
  have y4 := c0.c4
  have f0 := c0.f 0
  have f1 := c0.f 1
  have f2 := c0.f 2
  have f3 := c0.f 3
  have f4 := c0.f 4
  have HS1 := hide (And.intro hs0 hs1)
  clear s5 s6 c0 c1 hs0 hs1 o1 g1 C B0 B1 G0 x0 x1 x2 x3 x4
  go_upto_region 2 with fail
  clear y0 y1 y2 y3 y4 f0 f1 f2 f3 f4
  generalize ((((w1.setCell ⟨w.heap.size, 0, none⟩ (.int .i64 n)).setCell ⟨w.heap.size, 1, none⟩ (.slice ua LL.length uc)).setCell ⟨w.heap.size, 2, none⟩ (.slice pa P.length pc)).setCell ⟨w.heap.size, 3, none⟩ (.int .i64 st)).setCell ⟨w.heap.size, 4, none⟩ (.int .i64 k) = w2 at *
  obtain ⟨⟨t1, t2, t3, t4⟩, t5⟩ := unhide ST
  clear ST
  have CM := hide (qb.implMachineOk _ _ n st k LL P w2 hn hP t3.sls t3.sl)
  have FX : Hid (∀ w3 : World, w2.grownBy w3 none → Box5 37 w3 w.heap.size (.int .i64 n) (.slice ua LL.length uc) (.slice pa P.length pc) (.int .i64 st) (.int .i64 k) ∧ Box5 37 w3 (w.heap.size + 1) (.int .i64 0) (.slice none 0 0) (.slice none 0 0) (.int .i64 0) (.int .i64 0) ∧ OwnM W0.heap.size w1.heap.size w3 (.slice ua LL.length uc) (.slice pa P.length pc) LL P ∧ w.grownBy w3 none ∧ w1.heap.size ≤ w3.heap.size) := fun w3 g3 => ⟨t1.kept g3, t5.kept g3, t3.kept g3, grown_trans t2 g3, by have := g3.size; omega⟩
  -- where the copy is the answer
  have NO : Hid (∀ w3 : World, w2.grownBy w3 none → res n LL P st k cnt = (P, st, k) → Box5 37 (((((w3.setCell ⟨w.heap.size + 1, 0, none⟩ (.int .i64 n)).setCell ⟨w.heap.size + 1, 1, none⟩ (.slice ua LL.length uc)).setCell ⟨w.heap.size + 1, 2, none⟩ (.slice pa P.length pc)).setCell ⟨w.heap.size + 1, 3, none⟩ (.int .i64 st)).setCell ⟨w.heap.size + 1, 4, none⟩ (.int .i64 k)) (w.heap.size + 1) (.int .i64 n) (.slice ua LL.length uc) (.slice pa P.length pc) (.int .i64 st) (.int .i64 k) ∧
      RunE w n LL (res n LL P st k cnt) (.returned (.agg #[.int .i64 n, .slice ua LL.length uc, .slice pa P.length pc, .int .i64 st, .int .i64 k])) (((((w3.setCell ⟨w.heap.size + 1, 0, none⟩ (.int .i64 n)).setCell ⟨w.heap.size + 1, 1, none⟩ (.slice ua LL.length uc)).setCell ⟨w.heap.size + 1, 2, none⟩ (.slice pa P.length pc)).setCell ⟨w.heap.size + 1, 3, none⟩ (.int .i64 st)).setCell ⟨w.heap.size + 1, 4, none⟩ (.int .i64 k))) := by
    intro w3 g3 hr
    obtain ⟨h1, h2, h3, h4, h5⟩ := unhide FX w3 g3
    obtain ⟨z1, z2⟩ := unhide HS1
    obtain ⟨q1, q2, q3, q4⟩ := set5 (a := .int .i64 n) (b := .slice ua LL.length uc) (p := .slice pa P.length pc) (x := .int .i64 st) (y := .int .i64 k) h2 h4 (by omega) h3 (by omega)
    refine ⟨q1, ?_⟩
    rw [hr]
    exact ⟨_, _, rfl, q3.sub (by omega) (by omega), q2⟩
  have m0 := t1.c0
  have m1 := t1.c1
  have m2 := t1.c2
  have m3 := t1.c3
  have m4 := t1.c4
  have r0 := t5.c0
  have r1 := t5.c1
  have r2 := t5.c2
  have r3 := t5.c3
  have r4 := t5.c4
  have l0 := t5.f 0
  have l1 := t5.f 1
  have l2 := t5.f 2
  have l3 := t5.f 3
  have l4 := t5.f 4
  by_cases hc0 : cnt < 0
  · have E := hide (unhide NO w2 (grown_refl _) (res_no (by rw [decide_eq_false (by omega), Bool.and_false])))
    clear NO FX CM t1 t2 t3 t4 t5 HT HS1
    go_wp2_with fail
    (try simp only [Exit.inBlock, Exit.then])
    exact bodyPost_ret (qa.ret_box5 rfl rfl (unhide E).1) rfl (unhide E).2
  · by_cases hc1 : cnt > 1000000
    · have E := hide (unhide NO w2 (grown_refl _) (res_no (by rw [decide_eq_false (by omega), Bool.and_false])))
      clear NO FX CM t1 t2 t3 t4 t5 HT HS1
      go_wp2_with fail
      (try simp only [Exit.inBlock, Exit.then])
      exact bodyPost_ret (qa.ret_box5 rfl rfl (unhide E).1) rfl (unhide E).2
    · cases hm : machB n LL P st k
      · rw [hm] at CM
        have EN := hide (res_no (cnt := cnt) (show (machB n LL P st k && decide (0 ≤ cnt ∧ cnt ≤ 1000000)) = false by rw [hm]; rfl))
        clear hm t1 t2 t3 t4 t5 HT HS1
        go_wp2_with fail
        refine (unhide CM).mono ?_; rintro e w3 ⟨rfl, g3⟩
        have E := hide (unhide NO w3 g3 (unhide EN))
        obtain ⟨t1, t5, _, _, _⟩ := unhide FX w3 g3
        clear m0 m1 m2 m3 m4 r0 r1 r2 r3 r4 l0 l1 l2 l3 l4
        have m0 := t1.c0
        have m1 := t1.c1
        have m2 := t1.c2
        have m3 := t1.c3
        have m4 := t1.c4
        have r0 := t5.c0
        have r1 := t5.c1
        have r2 := t5.c2
        have r3 := t5.c3
        have r4 := t5.c4
        have l0 := t5.f 0
        have l1 := t5.f 1
        have l2 := t5.f 2
        have l3 := t5.f 3
        have l4 := t5.f 4
        clear t1 t5 g3 NO FX CM EN
        go_wp2_with fail
        (try simp only [Exit.inBlock, Exit.then])
        exact bodyPost_ret (qa.ret_box5 rfl rfl (unhide E).1) rfl (unhide E).2
      · rw [hm] at CM
        have EY := hide (res_yes (cnt := cnt) (show (machB n LL P st k && decide (0 ≤ cnt ∧ cnt ≤ 1000000)) = true by rw [hm, decide_eq_true (by omega)]; rfl))
        obtain ⟨N, rfl, h24, hcn, htl, hok⟩ := qm.mach_ok hm
        obtain ⟨j0, rfl⟩ := Int.eq_ofNat_of_zero_le (show 0 ≤ cnt by omega)
        clear hm NO t1 t2 t3 t4 t5
        go_wp2_with fail
        refine (unhide CM).mono ?_; rintro e w3 ⟨rfl, g3⟩
        obtain ⟨t1, t5, t3, t4, t6⟩ := unhide FX w3 g3
        obtain ⟨hm120, hlit⟩ := cnf_parts hcn
        obtain ⟨mid, q1, q2, q3, q4⟩ := t3
        have hmid : mid ≤ w3.heap.size := by omega
        have hql : Sl w3 (.slice pa P.length pc) (tl 0 (vals P)) := by rw [htl]; exact q4.sl
        have hvl := hok.len
        have CW := hide (qw.walkerOf (.slice ua LL.length uc) (.slice pa P.length pc) N st k LL (vals P) W0.heap.size mid w3 (unhide HT w3 t4) h24 hm120 hn hlit hok.len hok.bit q3 q1 hmid hql)
        clear m0 m1 m2 m3 m4 r0 r1 r2 r3 r4 l0 l1 l2 l3 l4
        have m0 := t1.c0
        have m1 := t1.c1
        have m2 := t1.c2
        have m3 := t1.c3
        have m4 := t1.c4
        have OK := hide hok
        have HTL := hide htl
        have X3 := hide (And.intro t5 (And.intro t4 (And.intro (And.intro (unhide HS1).1 (unhide HS1).2) t6)))
        clear t1 t5 t4 t6 hm120 hlit q1 q2 q3 q4 hmid hql hvl hok htl FX CM HT g3 hcn
        go_wp2_with fail
        refine (unhide CW).mono ?_; rintro e w4 ⟨c, s, v, rfl, v1, v2, v3, wk, g4⟩
        have WY : Hid (Way N LL W0.heap.size w3.heap.size c s (.slice ua LL.length uc) w4 w4 (runM N LL j0 ⟨vals P, st, k⟩) j0 v ⟨vals P, st, k⟩) := ⟨rfl, unhide OK, v1, v2, v3, wk, Below.refl _ _, by omega⟩
        have FN : Hid (∀ (wr : World) (j : Nat) (v' : WV) (m : MS), Way N LL W0.heap.size w3.heap.size c s (.slice ua LL.length uc) w4 wr (runM N LL j0 ⟨vals P, st, k⟩) j v' m → runM N LL j0 ⟨vals P, st, k⟩ = m →
            Box5 37 (((((wr.setCell ⟨w.heap.size + 1, 0, none⟩ (.int .i64 (N : Int))).setCell ⟨w.heap.size + 1, 1, none⟩ v'.f).setCell ⟨w.heap.size + 1, 2, none⟩ v'.p).setCell ⟨w.heap.size + 1, 3, none⟩ (.int .i64 v'.st)).setCell ⟨w.heap.size + 1, 4, none⟩ (.int .i64 v'.k)) (w.heap.size + 1) (.int .i64 (N : Int)) v'.f v'.p (.int .i64 v'.st) (.int .i64 v'.k) ∧
            RunE w (N : Int) LL (res (N : Int) LL P st k (j0 : Int)) (.returned (.agg #[.int .i64 (N : Int), v'.f, v'.p, .int .i64 v'.st, .int .i64 v'.k])) (((((wr.setCell ⟨w.heap.size + 1, 0, none⟩ (.int .i64 (N : Int))).setCell ⟨w.heap.size + 1, 1, none⟩ v'.f).setCell ⟨w.heap.size + 1, 2, none⟩ v'.p).setCell ⟨w.heap.size + 1, 3, none⟩ (.int .i64 v'.st)).setCell ⟨w.heap.size + 1, 4, none⟩ (.int .i64 v'.k)) ∧
            Box5 37 wr (w.heap.size + 1) (.int .i64 0) (.slice none 0 0) (.slice none 0 0) (.int .i64 0) (.int .i64 0)) := by
          intro wr j v' m hw hm
          obtain ⟨z1, z2, ⟨z3, z4⟩, z5⟩ := unhide X3
          have := hw.fin (w := w) hm (z1.kept g4) (grown_trans z2 g4) (by omega) g4.size
          rw [unhide EY]
          simp only [Int.toNat_natCast]
          exact this
        clear v1 v2 v3 wk g4 CW m0 m1 m2 m3 m4 EY X3 OK HTL HS1
        go_wp2_with fail
        go_loopw [1] (fun iv wr => ∃ (j : Nat) (v' : WV) (m : MS), iv = .int .i64 (j : Int) ∧ Hid (Way N LL W0.heap.size w3.heap.size c s (.slice ua LL.length uc) w4 wr (runM N LL j0 ⟨vals P, st, k⟩) j v' m)) (fun iv _ => (intOf iv).toNat)
        case atStart => exact ⟨j0, v, _, rfl, WY⟩
        case round =>
          obtain ⟨j, v', m, rfl, hway⟩ := hrel
          clear WY
          have EX : Hid (runM N LL j0 ⟨vals P, st, k⟩ = m → Box5 37 (((((wr.setCell ⟨w.heap.size + 1, 0, none⟩ (.int .i64 (N : Int))).setCell ⟨w.heap.size + 1, 1, none⟩ v'.f).setCell ⟨w.heap.size + 1, 2, none⟩ v'.p).setCell ⟨w.heap.size + 1, 3, none⟩ (.int .i64 v'.st)).setCell ⟨w.heap.size + 1, 4, none⟩ (.int .i64 v'.k)) (w.heap.size + 1) (.int .i64 (N : Int)) v'.f v'.p (.int .i64 v'.st) (.int .i64 v'.k) ∧ _) := fun hm => unhide FN wr j v' m (unhide hway) hm
          have wk := (unhide hway).wk
          have a0 : wr.cell? ⟨c, 0, none⟩ = some (.int .i64 (N : Int)) := by
            have := wk.blk.cell (k := 0) (by decide)
            rw [show v'.at 0 = .int .i64 (v'.n : Int) from rfl, wk.vn] at this
            exact this
          have a1 : wr.cell? ⟨c, 1, none⟩ = some v'.f := wk.blk.cell (k := 1) (by decide)
          have a2 : wr.cell? ⟨c, 2, none⟩ = some v'.p := wk.blk.cell (k := 2) (by decide)
          have a3 : wr.cell? ⟨c, 3, none⟩ = some (.int .i64 v'.st) := wk.blk.cell (k := 3) (by decide)
          have a4 : wr.cell? ⟨c, 4, none⟩ = some (.int .i64 v'.k) := wk.blk.cell (k := 4) (by decide)
          have CMv := hide (qw.moves wk.blk)
          obtain ⟨pg, pcap, hps⟩ := wk.ps
          have hvf := (unhide hway).f
          rw [hvf] at a1
          rw [hps] at a2
          have HPS := hide (And.intro hvf hps)
          clear FN hvf hps
          by_cases hj : j = 0
          · subst hj
            obtain ⟨e1, e2, e3⟩ := unhide EX (unhide hway).run.symm
            rw [(unhide HPS).1, (unhide HPS).2] at e1 e2
            have E := hide (And.intro e1 e2)
            have r0 := e3.c0
            have r1 := e3.c1
            have r2 := e3.c2
            have r3 := e3.c3
            have r4 := e3.c4
            have l0 := e3.f 0
            have l1 := e3.f 1
            have l2 := e3.f 2
            have l3 := e3.f 3
            have l4 := e3.f 4
            clear e1 e2 e3 EX CMv wk hway HPS
            go_wp2_with fail
            (try simp only [Exit.inBlock, Exit.then])
            exact bodyPost_ret (qa.ret_box5 rfl rfl (unhide E).1) rfl (unhide E).2
          · have hjI : (0 : Int) < (j : Int) := by omega
            have hj1 : IntKind.i64.wrap ((j : Int) - 1) = ((j - 1 : Nat) : Int) := by rw [IntKind.wrap_i64]; have := (unhide hway).jb; omega
            have est := (unhide hway).st
            have ek := (unhide hway).k
            by_cases hmv : m.st = 0 ∧ m.k < 1000000000
            · rw [est, ek, decide_eq_true hmv] at CMv
              have CT := hide (qw.step wk (by rw [est]; exact hmv.1) (by rw [ek]; exact (unhide hway).ok.k0) (by rw [ek]; exact hmv.2))
              have NX : Hid (∀ wz : World, Now N LL W0.heap.size w3.heap.size c s v'.f wr wz (stepM N LL ⟨m.A, v'.st, v'.k⟩) → ∃ v2, Way N LL W0.heap.size w3.heap.size c s (.slice ua LL.length uc) w4 wz (runM N LL j0 ⟨vals P, st, k⟩) (j - 1) v2 (stepM N LL m)) := by
                rintro wz ⟨v2, p1, p2, p3, p4, p5⟩
                rw [est, ek] at p1 p2 p4
                refine ⟨v2, ?_, (unhide hway).ok.step, p1, p2, p3.trans (unhide HPS).1, p4, bel_trans (unhide hway).bel p5, by have := (unhide hway).jb; omega⟩
                rw [← (unhide hway).run]
                obtain ⟨i, rfl⟩ : ∃ i, j = i + 1 := ⟨j - 1, by omega⟩
                rfl
              clear EX HPS hmv est ek wk hway a0 a1 a2
              go_wp2_with fail
              refine (unhide CMv).mono ?_; rintro e w' ⟨rfl, hw⟩; have hw' := hw.symm; clear hw; subst hw'
              go_wp2_with fail
              refine (unhide CT).mono ?_; rintro e w6 ⟨rfl, nw⟩
              obtain ⟨v2, hw2⟩ := unhide NX w6 nw
              have W2 := hide hw2
              clear nw hw2 NX CT CMv
              go_wp2_with fail
              go_roundw
              case rel => exact ⟨j - 1, v2, _, by go_num, W2⟩
              case measure => simp [intOf]; omega
            · rw [est, ek, decide_eq_false hmv] at CMv
              clear est ek
              obtain ⟨e1, e2, e3⟩ := unhide EX (by rw [← (unhide hway).run]; exact run_stop hmv _)
              rw [(unhide HPS).1, (unhide HPS).2] at e1 e2
              have E := hide (And.intro e1 e2)
              have r0 := e3.c0
              have r1 := e3.c1
              have r2 := e3.c2
              have r3 := e3.c3
              have r4 := e3.c4
              have l0 := e3.f 0
              have l1 := e3.f 1
              have l2 := e3.f 2
              have l3 := e3.f 3
              have l4 := e3.f 4
              clear e1 e2 e3 EX wk hway HPS hmv
              go_wp2_with fail
              refine (unhide CMv).mono ?_; rintro e w' ⟨rfl, hw⟩; have hw' := hw.symm; clear hw; subst hw'
              go_wp2_with fail
              (try simp only [Exit.inBlock, Exit.then])
              exact bodyPost_ret (qa.ret_box5 rfl rfl (unhide E).1) rfl (unhide E).2
set_option maxRecDepth 100000 in
set_option maxHeartbeats 4000000 in
theorem implMachineStep (v q : Value) (n st k : Int) (LL : List (List Int)) (P : List Int) (lo hi : Nat) (w : World) (hT : Tab w) (hn : tot LL ≤ 1048576) (hP : P.length ≤ 1048576) (hv : OwnM lo hi w v q LL P) :
    Calls Tryd.prog 30 #[.agg #[.int .i64 n, v, q, .int .i64 st, .int .i64 k]] w fun e w' => RunE w n LL (res n LL P st k 1) e w' := by
  have g0 : w.grownBy ((w.alloc (.cells #[.int .i64 n, v, q, .int .i64 st, .int .i64 k] 37)).alloc (.cells #[.int .i64 0, .slice none 0 0, .slice none 0 0, .int .i64 0, .int .i64 0] 37)) none := grown_trans (World.grownBy_alloc _ _ _) (World.grownBy_alloc _ _ _)
  have b0 := (Box5.new 37 w (.int .i64 n) v q (.int .i64 st) (.int .i64 k)).kept (World.grownBy_alloc _ (.cells #[.int .i64 0, .slice none 0 0, .slice none 0 0, .int .i64 0, .int .i64 0] 37) none)
  have b1 := Box5.new 37 (w.alloc (.cells #[.int .i64 n, v, q, .int .i64 st, .int .i64 k] 37)) (.int .i64 0) (.slice none 0 0) (.slice none 0 0) (.int .i64 0) (.int .i64 0)
  rw [World.size_alloc] at b1
  have hsz : ((w.alloc (.cells #[.int .i64 n, v, q, .int .i64 st, .int .i64 k] 37)).alloc (.cells #[.int .i64 0, .slice none 0 0, .slice none 0 0, .int .i64 0, .int .i64 0] 37)).heap.size = w.heap.size + 2 := by simp only [World.size_alloc]
  have C := hide (fun w1 (g : w.grownBy w1 none) => implMachineRun v q n st k 1 LL P lo hi w1 (hT.below (sl.below_of g)) hn hP (hv.kept g))
  have x0 := b0.c0
  have x1 := b0.c1
  have x2 := b0.c2
  have x3 := b0.c3
  have x4 := b0.c4
  have B1 := hide b1
  have G0 := hide g0
  have HS := hide hsz
  clear g0 b0 b1 hsz hv hT
  generalize res n LL P st k 1 = r at *
  obtain ⟨RP, RS, RK⟩ := r
  go_enter Tryd.func30, Tryd.ntmps30
  go_wp2_with fail
  generalize (w.alloc (.cells #[.int .i64 n, v, q, .int .i64 st, .int .i64 k] 37)).alloc (.cells #[.int .i64 0, .slice none 0 0, .slice none 0 0, .int .i64 0, .int .i64 0] 37) = W0 at *
  refine (unhide C _ (unhide G0)).mono ?_; rintro e w1 ⟨u, p, rfl, o1, g1⟩
  obtain ⟨ua, uc, pa, pc, rfl, rfl⟩ := o1.len
  have hs0 := unhide HS
  have c1 := (unhide B1).kept g1
  obtain ⟨q1, q2, q3, q4⟩ := set5 (a := .int .i64 n) (b := .slice ua LL.length uc) (p := .slice pa RP.length pc) (x := .int .i64 RS) (y := .int .i64 RK) c1 (grown_trans (unhide G0) g1) (by omega) o1 (by omega)
  have E := hide (And.intro q1 (And.intro q2 (And.intro (q3.sub (lo' := w.heap.size) (by omega) (Nat.le_of_eq q4.symm)) trivial)))
  have r0 := c1.c0
  have r1 := c1.c1
  have r2 := c1.c2
  have r3 := c1.c3
  have r4 := c1.c4
  have l0 := c1.f 0
  have l1 := c1.f 1
  have l2 := c1.f 2
  have l3 := c1.f 3
  have l4 := c1.f 4
  clear q1 q2 q3 q4 c1 o1 g1 B1 G0 C hs0 x0 x1 x2 x3 x4
  show _
  dsimp only at *
  go_wp2_with fail
  (try simp only [Exit.inBlock, Exit.then])
  exact bodyPost_ret (qa.ret_box5 rfl rfl (unhide E).1) rfl ⟨_, _, rfl, (unhide E).2.2.1, (unhide E).2.1⟩
end Go.Proofs.YtlpgnaedhijdpaaDoor.qh
