/- What the model's l07Run answers: as many steps as are asked for; no condition but that the machine is one. -/
import Derived.Test.YtlpgnaedhijdpaaDoorQi
namespace Go.Proofs.YtlpgnaedhijdpaaDoor.qi
open Go.ChangeShapes Go.WideShapes Go.ChangeAt Go.RowKit
open Go.Proofs.YtlpgnaedhijdpaaDoor.qa (Box5 OwnM)
open Go.Proofs.YtlpgnaedhijdpaaDoor.qm (machB vals MS stepM runM OkM run_stop cutN back)
open Go.Proofs.YtlpgnaedhijdpaaDoor.as_ (litAt tl tl_len tl_snoc)
open Go.Proofs.YtlpgnaedhijdpaaDoor.css (Sls OwnS tot)
open Go.Proofs.YtlpgnaedhijdpaaDoor.sl (Sl Own ints hide unhide ret_int ret_bool grown_refl grown_trans)
set_option linter.unusedVariables false
/-- the model's run on its way -/
structure Wy (w : World) (N : Nat) (LL : List (List Int)) (a mid : Nat) (f p0 : Value) (fin : MS) (wr : World) (j : Nat) (p : Value) (m : MS) : Prop where
  run : runM N LL j m = fin
  ok : OkM N m
  bx : Box5 37 wr w.heap.size (.int .i64 (N : Int)) f p (.int .i64 m.st) (.int .i64 m.k)
  rs : Box5 37 wr (w.heap.size + 1) (.int .i64 0) (.slice none 0 0) (.slice none 0 0) (.int .i64 0) (.int .i64 0)
  ow : wr.ownsRow mid 3 1 p m.A.length (ints (tl 0 m.A))
  cl : OwnS a mid wr f LL
  g : w.grownBy wr p0.ownBlock
  ly : Lies w p0 p
theorem row_ne {w : World} {b n : Nat} {p : Value} {xs : List Value} {c : Nat} {t : TypeId} {cs : Array Value} {fz : Nat × Nat} (h : w.ownsRow b 3 1 p n xs) (hc : w.heap[c]? = some (.cells cs t fz)) (ht : (3 : Nat) ≠ t) : p.ownBlock ≠ some c := by
  rcases ks.row_nec h hc ht with e | e
  · rw [e]; exact fun z => by cases z
  · exact e
/-- one step more, its answer stored -/
theorem Wy.next {w : World} {N : Nat} {LL : List (List Int)} {a mid : Nat} {f p0 p p' : Value} {fin m : MS} {wr w1 : World} {j : Nat} (h : Wy w N LL a mid f p0 fin wr (j + 1) p m) (hm : mid ≤ w.heap.size) (ho : w1.ownsRow mid 3 1 p' (stepM N LL m).A.length (ints (tl 0 (stepM N LL m).A))) (hf : OwnS a mid w1 f LL) (hg : wr.grownBy w1 p.ownBlock) (hl : Lies wr p p') :
    Wy w N LL a mid f p0 fin (((((w1.setCell ⟨w.heap.size, 0, none⟩ (.int .i64 (N : Int))).setCell ⟨w.heap.size, 1, none⟩ f).setCell ⟨w.heap.size, 2, none⟩ p').setCell ⟨w.heap.size, 3, none⟩ (.int .i64 (stepM N LL m).st)).setCell ⟨w.heap.size, 4, none⟩ (.int .i64 (stepM N LL m).k)) j p' (stepM N LL m) ∧ Box5 37 w1 w.heap.size (.int .i64 (N : Int)) f p (.int .i64 m.st) (.int .i64 m.k) := by
  have b1 := h.bx.by hg (row_ne h.ow h.bx (by decide))
  have r1 := h.rs.by hg (row_ne h.ow h.rs (by decide))
  have h1 := b1.set0 (.int .i64 (N : Int))
  have h2 := h1.set1 f
  have h3 := h2.set2 p'
  have h4 := h3.set3 (.int .i64 (stepM N LL m).st)
  have hsz := h.g.size
  have gg : w.grownBy w1 p0.ownBlock := by
    refine ⟨hg.os.trans h.g.os, hg.tape.trans h.g.tape, hg.output.trans h.g.output, Nat.le_trans hsz hg.size, fun k hk hr => ?_⟩
    rw [hg.block k (by omega) (fun e => ?_)]
    · exact h.g.block k hk hr
    · rcases h.ly with q | q
      · exact hr (by rw [← q]; exact e)
      · have := q k e.symm; omega
  refine ⟨⟨h.run, h.ok.step, h4.set4 _, ((((r1.setO (by omega)).setO (by omega)).setO (by omega)).setO (by omega)).setO (by omega), row_set (row_set (row_set (row_set (row_set ho b1 (by decide)) h1 (by decide)) h2 (by decide)) h3 (by decide)) h4 (by decide), cf.ownS_set (cf.ownS_set (cf.ownS_set (cf.ownS_set (cf.ownS_set hf (by omega)) (by omega)) (by omega)) (by omega)) (by omega), fr_set (fr_set (fr_set (fr_set (fr_set gg (Nat.le_refl _)) (Nat.le_refl _)) (Nat.le_refl _)) (Nat.le_refl _)) (Nat.le_refl _), ?_⟩, b1⟩
  rcases hl with q | q
  · rcases h.ly with q' | q'
    · exact .inl (q.trans q')
    · exact .inr fun b e => q' b (by rw [← q]; exact e)
  · exact .inr fun b e => Nat.le_trans hsz (q b e)
set_option maxRecDepth 100000 in
set_option maxHeartbeats 8000000 in
theorem l07Run (f p : Value) (N c0 : Nat) (LL : List (List Int)) (a mid : Nat) (m : MS) (w : World) (h24 : N ≤ 24) (hc0 : c0 ≤ 1000000) (hn : tot LL ≤ 1048576) (hc : ∀ c ∈ LL, ∀ x ∈ c, lits.okB x = true) (hok : OkM N m) (hf : OwnS a mid w f LL) (hp : w.ownsRow mid 3 1 p m.A.length (ints (tl 0 m.A))) (hmid : mid ≤ w.heap.size) :
    Calls Tryd.prog 68 #[.agg #[.int .i64 (N : Int), f, p, .int .i64 m.st, .int .i64 m.k], .int .i64 (c0 : Int)] w fun e w' => StpE w N f LL a mid p (runM N LL c0 m) e w' := by
  have g0 : w.grownBy ((w.alloc (.cells #[.int .i64 (N : Int), f, p, .int .i64 m.st, .int .i64 m.k] 37)).alloc (.cells #[.int .i64 0, .slice none 0 0, .slice none 0 0, .int .i64 0, .int .i64 0] 37)) none := grown_trans (World.grownBy_alloc _ _ _) (World.grownBy_alloc _ _ _)
  have b0 := (Box5.new 37 w (.int .i64 (N : Int)) f p (.int .i64 m.st) (.int .i64 m.k)).kept (World.grownBy_alloc _ (.cells #[.int .i64 0, .slice none 0 0, .slice none 0 0, .int .i64 0, .int .i64 0] 37) none)
  have b1 := Box5.new 37 (w.alloc (.cells #[.int .i64 (N : Int), f, p, .int .i64 m.st, .int .i64 m.k] 37)) (.int .i64 0) (.slice none 0 0) (.slice none 0 0) (.int .i64 0) (.int .i64 0)
  rw [World.size_alloc] at b1
  have ST : Hid (Wy w N LL a mid f p (runM N LL c0 m) ((w.alloc (.cells #[.int .i64 (N : Int), f, p, .int .i64 m.st, .int .i64 m.k] 37)).alloc (.cells #[.int .i64 0, .slice none 0 0, .slice none 0 0, .int .i64 0, .int .i64 0] 37)) c0 p m) := ⟨rfl, hok, b0, b1, hp.kept g0 (qw.ne_none hp), hf.kept g0, fr_none g0, .inl rfl⟩
  obtain ⟨fa, fc, rfl⟩ := hf.len
  have HC := hide hc
  clear hf hp g0 b0 b1 hok hc
  generalize runM N LL c0 m = fin0 at *
  go_enter Tryd.func68, Tryd.ntmps68
  go_wp2_with fail
  go_loopw [5] (fun iv wr => ∃ (i j : Nat) (p1 : Value) (m1 : MS), i + j = c0 ∧ iv = .int .i64 (i : Int) ∧ Hid (Wy w N LL a mid (.slice fa LL.length fc) p fin0 wr j p1 m1)) (fun iv _ => c0 - (intOf iv).toNat)
  case atStart => exact ⟨0, c0, p, m, Nat.zero_add _, rfl, ST⟩
  case round =>
    obtain ⟨i, j, p1, m1, hij, rfl, hwy⟩ := hrel
    clear ST
    have wy := unhide hwy
    obtain ⟨pa, pc, hpe⟩ := ks.row_form wy.ow
    subst hpe
    have HIJ := hide hij
    have EX : Hid (fin0 = m1 → Box5 37 (((((wr.setCell ⟨w.heap.size + 1, 0, none⟩ (.int .i64 (N : Int))).setCell ⟨w.heap.size + 1, 1, none⟩ (.slice fa LL.length fc)).setCell ⟨w.heap.size + 1, 2, none⟩ (.slice pa m1.A.length pc)).setCell ⟨w.heap.size + 1, 3, none⟩ (.int .i64 m1.st)).setCell ⟨w.heap.size + 1, 4, none⟩ (.int .i64 m1.k)) (w.heap.size + 1) (.int .i64 (N : Int)) (.slice fa LL.length fc) (.slice pa m1.A.length pc) (.int .i64 m1.st) (.int .i64 m1.k) ∧ StpE w N (.slice fa LL.length fc) LL a mid p fin0 (.returned (.agg #[.int .i64 (N : Int), .slice fa LL.length fc, .slice pa m1.A.length pc, .int .i64 m1.st, .int .i64 m1.k])) (((((wr.setCell ⟨w.heap.size + 1, 0, none⟩ (.int .i64 (N : Int))).setCell ⟨w.heap.size + 1, 1, none⟩ (.slice fa LL.length fc)).setCell ⟨w.heap.size + 1, 2, none⟩ (.slice pa m1.A.length pc)).setCell ⟨w.heap.size + 1, 3, none⟩ (.int .i64 m1.st)).setCell ⟨w.heap.size + 1, 4, none⟩ (.int .i64 m1.k))) := fun e => by
      subst e
      exact fin (po := p) (p := .slice pa fin0.A.length pc) (N := N) wy.rs wy.ow wy.cl wy.g hmid wy.ly
    have cm0 := wy.bx.c0
    have cm1 := wy.bx.c1
    have cm2 := wy.bx.c2
    have cm3 := wy.bx.c3
    have cm4 := wy.bx.c4
    have r0 := wy.rs.c0
    have r1 := wy.rs.c1
    have r2 := wy.rs.c2
    have r3 := wy.rs.c3
    have r4 := wy.rs.c4
    have fz0 := wy.rs.f 0
    have fz1 := wy.rs.f 1
    have fz2 := wy.rs.f 2
    have fz3 := wy.rs.f 3
    have fz4 := wy.rs.f 4
    have hi1 : (i : Int) ≤ 1000000 := by omega
    by_cases hj : j = 0
    · subst hj
      have hii : ¬ (i : Int) < (c0 : Int) := by omega
      have E := hide (unhide EX (show fin0 = m1 from wy.run.symm))
      clear EX wy hwy hij HIJ
      go_wp2_with fail
      (try simp only [Exit.inBlock, Exit.then])
      exact bodyPost_ret (qa.ret_box5 rfl rfl (unhide E).1) rfl (unhide E).2
    · have hii : (i : Int) < (c0 : Int) := by omega
      by_cases hmv : m1.st = 0 ∧ m1.k < 1000000000
      · obtain ⟨jj, rfl⟩ : ∃ jj, j = jj + 1 := ⟨j - 1, by omega⟩
        have hsz := wy.g.size
        have CT := hide (l07Step (.slice fa LL.length fc) (.slice pa m1.A.length pc) N LL a mid m1 wr h24 hn (unhide HC) wy.ok wy.cl wy.ow (by omega))
        have NX : Hid (∀ (w1 : World) (p' : Value), w1.ownsRow mid 3 1 p' (stepM N LL m1).A.length (ints (tl 0 (stepM N LL m1).A)) → OwnS a mid w1 (.slice fa LL.length fc) LL → wr.grownBy w1 (Value.slice pa m1.A.length pc).ownBlock → Lies wr (.slice pa m1.A.length pc) p' → _) := fun w1 p' h1 h2 h3 h4 => wy.next hmid h1 h2 h3 h4
        have h0 := hmv.1
        have h1 := hmv.2
        have hs0 : m1.st = 0 := hmv.1
        rw [hs0] at cm3
        clear EX wy hwy hij hmv h0
        generalize hM1 : stepM N LL m1 = M1 at *
        clear hM1
        obtain ⟨A1, s1, k1⟩ := m1
        dsimp only at *
        subst hs0
        go_wp2_with fail
        refine (unhide CT).mono ?_; rintro e w1 ⟨p', rfl, o1, f1, g1, ly1⟩
        obtain ⟨qa', qc', hqe⟩ := ks.row_form o1
        subst hqe
        obtain ⟨wy2, bb⟩ := unhide NX w1 _ o1 f1 g1 ly1
        have W2 := hide wy2
        clear cm0 cm1 cm2 cm3 cm4 r0 r1 r2 r3 r4 fz0 fz1 fz2 fz3 fz4 o1 f1 g1 ly1 NX CT wy2
        have cm0 := bb.c0
        have cm1 := bb.c1
        have cm2 := bb.c2
        have cm3 := bb.c3
        have cm4 := bb.c4
        have fz0 := bb.f 0
        have fz1 := bb.f 1
        have fz2 := bb.f 2
        have fz3 := bb.f 3
        have fz4 := bb.f 4
        clear bb
        go_wp2_with fail
        go_roundw
        case rel => exact ⟨i + 1, jj, _, M1, by have := unhide HIJ; omega, by go_num, W2⟩
        case measure => simp [intOf]; omega
      · have E := hide (unhide EX (show fin0 = m1 by rw [← wy.run]; exact run_stop hmv _))
        have hk' : m1.st = 0 → ¬ m1.k < 1000000000 := fun h1 h2 => hmv ⟨h1, h2⟩
        clear EX wy hwy hij HIJ hmv
        obtain ⟨A1, s1, k1⟩ := m1
        dsimp only at *
        by_cases hs : s1 = 0
        · subst hs
          have hk2 : ¬ k1 < 1000000000 := hk' rfl
          clear hk'
          go_wp2_with fail
          (try simp only [Exit.inBlock, Exit.then])
          exact bodyPost_ret (qa.ret_box5 rfl rfl (unhide E).1) rfl (unhide E).2
        · have hs' : (s1 == 0) = false := by simpa using hs
          clear hk'
          go_wp2_with fail
          (try simp only [Exit.inBlock, Exit.then])
          exact bodyPost_ret (qa.ret_box5 rfl rfl (unhide E).1) rfl (unhide E).2
end Go.Proofs.YtlpgnaedhijdpaaDoor.qi
