/- What the program's MachineRun and MachineStep answer at every machine of the call's own that holds at most 2^20 values; the library's table of places lies as its text lays it. -/
import Derived.Test.YtnlllcgcaddhmaaJXQw
import Derived.Test.YtnlllcgcaddhmaaJXWw0
import Derived.Deep.RegionHeld3
import Derived.Test.YtnlllcgcaddhmaaJXNs
import Derived.Laws.EntriesVeiled
import Derived.Deep.MidRow
import Derived.Test.YtnlllcgcaddhmaaJXQc
import Derived.Test.YtnlllcgcaddhmaaJXQb
import Derived.Test.YtnlllcgcaddhmaaJXQm
import Derived.Test.YtnlllcgcaddhmaaJOc
import Derived.Test.YtnlllcgcaddhmaaJOn
import Derived.Deep.RegionLaw
import Derived.Deep.QuietTactic
import Derived.BigQuiet
import Derived.Test.YtnlllcgcaddhmaaJXKm
import Derived.Test.YtnlllcgcaddhmaaJXLq
namespace Go.Proofs.Ytnlllcgcaddhmaa.qh
open Go.ChangeShapes Go.WideShapes Go.ChangeAt Go.RowKit
open qa (Box5 OwnM)
open qm (MS stepM runM OkM run_stop)
open qw (WV)
open as_ (tl tl_len)
open ok (cnfB)
open css (Sls OwnS tot)
open sl (Sl Own ints hide unhide ret_int ret_bool grown_refl grown_trans)
set_option linter.unusedVariables false
theorem cnf_parts {n : Int} {LL : List (List Int)} (h : cnfB n LL = true) : LL.length ≤ 120 ∧ ∀ c ∈ LL, ∀ x ∈ c, ok.litIn n x = true := by
 unfold ok.cnfB at h
 simp only [Bool.and_eq_true, decide_eq_true_iff] at h
 refine ⟨h.1.2, fun c hc x hx => ?_⟩
 have := List.all_eq_true.1 h.2 c hc
 unfold ok.clB at this
 rw [Bool.and_eq_true, List.all_eq_true] at this
 exact this.1 x hx
end Go.Proofs.Ytnlllcgcaddhmaa.qh
namespace Go.Proofs.Ytnlllcgcaddhmaa.qi
open Go.ChangeShapes Go.WideShapes Go.ChangeAt Go.RowKit
open qa (Box5 OwnM)
open qm (MS stepM runM OkM run_stop cutN back)
open qw (own_take)
open wm0 (listB)
open as_ (litAt tl tl_len tl_snoc)
open ok (cnfB)
open css (Sls OwnS tot)
open sl (Sl Own ints hide unhide ret_int ret_bool grown_refl grown_trans)
set_option linter.unusedVariables false
theorem fr_none {w w' : World} {r : Option Nat} (g : w.grownBy w' none) : w.grownBy w' r := ⟨g.os, g.tape, g.output, g.size, fun k hk _ => g.block k hk (fun e => by cases e)⟩
theorem fr_then {w w1 w2 : World} {r : Option Nat} (h : w.grownBy w1 r) (g : w1.grownBy w2 none) : w.grownBy w2 r := sl.grown_trans' h (fr_none g)
theorem fr_set {w w1 : World} {r : Option Nat} {c i : Nat} {u : Value} (h : w.grownBy w1 r) (hc : w.heap.size ≤ c) : w.grownBy (w1.setCell ⟨c, i, none⟩ u) r :=
 ⟨h.os, h.tape, h.output, by rw [cf.size_set]; exact h.size, fun k hk hr => (Below.heap_setCell _ _ _ _ (by show k ≠ c; omega)).trans (h.block k hk hr)⟩
theorem fr_own {w w1 : World} {c i : Nat} {u : Value} (h : w.grownBy w1 (some c)) : w.grownBy (w1.setCell ⟨c, i, none⟩ u) (some c) := sl.grown_trans' h (sl.grown_setCell w1 c i u)
def Lies (w : World) (p0 p : Value) : Prop := p.ownBlock = p0.ownBlock ∨ ∀ b, p.ownBlock = some b → w.heap.size ≤ b
def StpE (w : World) (N : Nat) (f : Value) (LL : List (List Int)) (a mid : Nat) (p0 : Value) (m : MS) (e : Ending) (w' : World) : Prop := ∃ p, e = .returned (.agg #[.int .i64 (N : Int), f, p, .int .i64 m.st, .int .i64 m.k]) ∧ w'.ownsRow mid 3 1 p m.A.length (ints (tl 0 m.A)) ∧ OwnS a mid w' f LL ∧ w.grownBy w' p0.ownBlock ∧ Lies w p0 p
theorem row_set {w : World} {b : Nat} {p u : Value} {A : List Int} {c i : Nat} {t : TypeId} {cs : Array Value} {fz : Nat × Nat} (h : w.ownsRow b 3 1 p A.length (ints (tl 0 A))) (hc : w.heap[c]? = some (.cells cs t fz)) (ht : (3 : Nat) ≠ t) : (w.setCell ⟨c, i, none⟩ u).ownsRow b 3 1 p A.length (ints (tl 0 A)) := by
 refine h.kept (sl.grown_setCell w c i u) ?_
 cases q : p.ownBlock with
 | none => exact .inl rfl
 | some g =>
  rcases ks.row_nec h hc ht with e | e
  ·rw [q] at e; cases e
  ·exact .inr (by rw [← q]; exact e)
theorem row_setG {w : World} {b n : Nat} {p u : Value} {xs : List Value} {c i : Nat} {t : TypeId} {cs : Array Value} {fz : Nat × Nat} (h : w.ownsRow b 3 1 p n xs) (hc : w.heap[c]? = some (.cells cs t fz)) (ht : (3 : Nat) ≠ t) : (w.setCell ⟨c, i, none⟩ u).ownsRow b 3 1 p n xs := by
 refine h.kept (sl.grown_setCell w c i u) ?_
 cases q : p.ownBlock with
 | none => exact .inl rfl
 | some g =>
  rcases ks.row_nec h hc ht with e | e
  ·rw [q] at e; cases e
  ·exact .inr (by rw [← q]; exact e)
theorem set_last {α : Type} (L : List α) (k : Nat) (y : α) (hk : k < L.length) : (L.take (k + 1)).set k y = L.take k ++ [y] := by
 rw [List.take_succ_eq_append_getElem hk, List.set_append_right _ _ (by rw [List.length_take]; omega), List.length_take, Nat.min_eq_left (by omega), Nat.sub_self]
 rfl
theorem turned {A : List Int} {k : Nat} (hk : k < A.length) : ((ints (tl 0 A)).take (k + 1)).set k (.int .i64 ((k : Int) + 1)) = ints (tl 0 (A.take k ++ [1])) := by
 have hl : (A.take k).length = k := by rw [List.length_take]; omega
 rw [set_last _ _ _ (by rw [sl.ints_length, tl_len]; exact hk), tl_snoc, Nat.zero_add, hl, app.ints_append, ← qm.tl_take]
 congr 1
 unfold sl.ints
 rw [List.map_take]
theorem fin {w wx : World} {N : Nat} {f p : Value} {LL : List (List Int)} {a mid : Nat} {m : MS} {a0 b0 p0 x0 y0 po : Value} (hr : Box5 92 wx (w.heap.size + 1) a0 b0 p0 x0 y0) (ho : wx.ownsRow mid 3 1 p m.A.length (ints (tl 0 m.A))) (hf : OwnS a mid wx f LL) (hb : w.grownBy wx po.ownBlock) (hm : mid ≤ w.heap.size) (hly : Lies w po p) :
  Box5 92 (((((wx.setCell ⟨w.heap.size + 1, 0, none⟩ (.int .i64 (N : Int))).setCell ⟨w.heap.size + 1, 1, none⟩ f).setCell ⟨w.heap.size + 1, 2, none⟩ p).setCell ⟨w.heap.size + 1, 3, none⟩ (.int .i64 m.st)).setCell ⟨w.heap.size + 1, 4, none⟩ (.int .i64 m.k)) (w.heap.size + 1) (.int .i64 (N : Int)) f p (.int .i64 m.st) (.int .i64 m.k) ∧
   StpE w N f LL a mid po m (.returned (.agg #[.int .i64 (N : Int), f, p, .int .i64 m.st, .int .i64 m.k])) (((((wx.setCell ⟨w.heap.size + 1, 0, none⟩ (.int .i64 (N : Int))).setCell ⟨w.heap.size + 1, 1, none⟩ f).setCell ⟨w.heap.size + 1, 2, none⟩ p).setCell ⟨w.heap.size + 1, 3, none⟩ (.int .i64 m.st)).setCell ⟨w.heap.size + 1, 4, none⟩ (.int .i64 m.k)) := by
 have h1 := hr.set0 (.int .i64 (N : Int))
 have h2 := h1.set1 f
 have h3 := h2.set2 p
 have h4 := h3.set3 (.int .i64 m.st)
 refine ⟨h4.set4 _, p, rfl, ?_, ?_, ?_, hly⟩
 ·exact row_set (row_set (row_set (row_set (row_set ho hr (by decide)) h1 (by decide)) h2 (by decide)) h3 (by decide)) h4 (by decide)
 ·exact cf.ownS_set (cf.ownS_set (cf.ownS_set (cf.ownS_set (cf.ownS_set hf (by omega)) (by omega)) (by omega)) (by omega)) (by omega)
 ·exact fr_set (fr_set (fr_set (fr_set (fr_set hb (by omega)) (by omega)) (by omega)) (by omega)) (by omega)
set_option maxRecDepth 100000 in
set_option maxHeartbeats 8000000 in
theorem l07Step (f p : Value) (N : Nat) (LL : List (List Int)) (a mid : Nat) (m : MS) (w : World) (h24 : N ≤ 24) (hn : tot LL ≤ 1048576) (hc : ∀ c ∈ LL, ∀ x ∈ c, lits.okB x = true) (hok : OkM N m) (hf : OwnS a mid w f LL) (hp : w.ownsRow mid 3 1 p m.A.length (ints (tl 0 m.A))) (hmid : mid ≤ w.heap.size) :
  Calls Try.prog 72 #[.agg #[.int .i64 (N : Int), f, p, .int .i64 m.st, .int .i64 m.k]] w fun e w' => StpE w N f LL a mid p (stepM N LL m) e w' := by
 have g0 : w.grownBy ((w.alloc (.cells #[.int .i64 (N : Int), f, p, .int .i64 m.st, .int .i64 m.k] 92)).alloc (.cells #[.int .i64 0, .slice none 0 0, .slice none 0 0, .int .i64 0, .int .i64 0] 92)) none := grown_trans (World.grownBy_alloc _ _ _) (World.grownBy_alloc _ _ _)
 have b0 := (Box5.new 92 w (.int .i64 (N : Int)) f p (.int .i64 m.st) (.int .i64 m.k)).kept (World.grownBy_alloc _ (.cells #[.int .i64 0, .slice none 0 0, .slice none 0 0, .int .i64 0, .int .i64 0] 92) none)
 have b1 := Box5.new 92 (w.alloc (.cells #[.int .i64 (N : Int), f, p, .int .i64 m.st, .int .i64 m.k] 92)) (.int .i64 0) (.slice none 0 0) (.slice none 0 0) (.int .i64 0) (.int .i64 0)
 rw [World.size_alloc] at b1
 have hf0 := hf.kept g0
 have hp0 := hp.kept g0 (qw.ne_none hp)
 have bl0 : w.grownBy _ p.ownBlock := fr_none g0
 obtain ⟨fa, fc, rfl⟩ := hf.len
 obtain ⟨pa, pc, hpe⟩ := ks.row_form hp
 subst hpe
 have hlen := hok.len
 obtain ⟨M', hM'⟩ : ∃ M', stepM N LL m = M' := ⟨_, rfl⟩
 rw [hM']
 have HM := hide hM'
 clear hf hp g0 hM'
 have m0 := b0.c0
 have m1 := b0.c1
 have m2 := b0.c2
 have m3 := b0.c3
 have m4 := b0.c4
 have r0 := b1.c0
 have r1 := b1.c1
 have r2 := b1.c2
 have r3 := b1.c3
 have r4 := b1.c4
 have fz0 := b1.f 0
 have fz1 := b1.f 1
 have fz2 := b1.f 2
 have fz3 := b1.f 3
 have fz4 := b1.f 4
 have n2 := b0.f 2
 have n3 := b0.f 3
 have n4 := b0.f 4
 go_enter Try.func72, Try.ntmps72
 go_upto_region 1 with fail
 generalize (w.alloc (.cells #[.int .i64 (N : Int), .slice fa LL.length fc, .slice pa m.A.length pc, .int .i64 m.st, .int .i64 m.k] 92)).alloc (.cells #[.int .i64 0, .slice none 0 0, .slice none 0 0, .int .i64 0, .int .i64 0] 92) = W0 at *
 by_cases hmv : m.st = 0 ∧ m.k < 1000000000
 ·obtain ⟨A, st, k⟩ := m
  dsimp only at *
  obtain ⟨rfl, hk1⟩ := hmv
  have hk0 := hok.k0
  have hbt := hok.bit
  dsimp only at hk0 hbt
  -- the steps are one more
  have c4 := b0.set4 (.int .i64 (k + 1))
  have d4 := b1.setO (d := w.heap.size) (i := 4) (u := .int .i64 (k + 1)) (by omega)
  have hp4 := row_set (i := 4) (u := .int .i64 (k + 1)) hp0 b0 (by decide)
  have hf4 := cf.ownS_set (c := w.heap.size) (i := 4) (u := .int .i64 (k + 1)) hf0 (by omega)
  have bl4 := fr_set (c := w.heap.size) (i := 4) (u := .int .i64 (k + 1)) bl0 (Nat.le_refl _)
  have hpS : Sl (W0.setCell ⟨w.heap.size, 4, none⟩ (.int .i64 (k + 1))) (.slice pa A.length pc) (tl 0 A) := Sl.of_own (by rw [tl_len]; exact hp4)
  have CO := hide (l4.l05Open (.slice fa LL.length fc) (.slice pa A.length pc) (N : Int) LL (tl 0 A) _ hn (by rw [tl_len]; omega) hc hf4.sls hpS)
  have ST := hide (And.intro c4 (And.intro d4 (And.intro hp4 (And.intro hf4 bl4))))
  have hkw : IntKind.i64.wrap (k + 1) = k + 1 := by rw [IntKind.wrap_i64]; omega
  clear c4 d4 hp4 hf4 bl4 hpS b0 b1 hp0 hf0 bl0 hok hc
  go_wp2_with fail
  generalize W0.setCell ⟨w.heap.size, 4, none⟩ (.int .i64 (k + 1)) = W1 at *
  refine (unhide CO).mono ?_; rintro e w5 ⟨rfl, g5⟩
  obtain ⟨z1, z2, z3, z4, z5⟩ := unhide ST
  have b5 := z1.kept g5
  have r5 := z2.kept g5
  have p5 := z3.kept g5 (qw.ne_none z3)
  have f5 := z4.kept g5
  have s5 : w.heap.size < w5.heap.size := b5.lt
  have l5 := fr_then z5 g5
  clear CO ST z1 z2 z3 z4 z5 g5 hkw n2 n3 n4 m0 m1 m2 m3 m4 r0 r1 r2 r3 r4 fz0 fz1 fz2 fz3 fz4
  have m0 := b5.c0
  have m1 := b5.c1
  have m2 := b5.c2
  have m3 := b5.c3
  have m4 := b5.c4
  have r0 := r5.c0
  have r1 := r5.c1
  have r2 := r5.c2
  have r3 := r5.c3
  have r4 := r5.c4
  have fz0 := r5.f 0
  have fz1 := r5.f 1
  have fz2 := r5.f 2
  have fz3 := r5.f 3
  have fz4 := r5.f 4
  have n2 := b5.f 2
  have n3 := b5.f 3
  cases ho : l4.openB LL (tl 0 A)
  ·have SM := hide (show M' = if cutN A A.length = 0 then ⟨[], 2, k + 1⟩ else ⟨back A, 0, k + 1⟩ by rw [← unhide HM]; unfold qm.stepM; rw [if_pos ⟨rfl, hk1⟩, ho]; rfl)
   have CC : Hid (∀ j, j < A.length → ∃ g, pa = some ⟨g, 0, none⟩ ∧ mid ≤ g ∧ A.length ≤ pc ∧ w5.cell? ⟨g, j, none⟩ = some (.int .i64 (litAt j (A.getD j 0))) ∧ w5.frozen? ⟨g, j, none⟩ = false) := by
    intro j hj
    rcases p5.2 with ⟨e, h0⟩ | ⟨g, cap', cur, e, hg, _, hcap, _⟩
    ·omega
    ·injection e with e1 e2 e3
     subst e1
     refine ⟨g, rfl, hg, by omega, ?_, p5.frozenAt j⟩
     rw [p5.cellAt j (by omega)]
     have e := qm.tl_getD A 0 j hj
     rw [Nat.zero_add] at e
     rw [← e]
     simp [sl.ints, tl_len, hj]
   have PK := hide (And.intro b5 (And.intro r5 (And.intro p5 (And.intro f5 l5))))
   clear HM ho b5 r5 p5 f5 l5
   go_wp2_with fail
   go_loop [3] (fun i => ∃ j : Nat, j ≤ A.length ∧ i = .int .i64 j ∧ Hid (cutN A j = cutN A A.length)) (fun i => (intOf i).toNat)
   case atStart => exact ⟨A.length, Nat.le_refl _, rfl, rfl⟩
   case round =>
    obtain ⟨j, hj, rfl, hcut⟩ := hrel
    by_cases h0 : j = 0
    ·subst h0
     have hz : cutN A A.length = 0 := (unhide hcut).symm
     obtain ⟨b5, r5, p5, f5, l5⟩ := unhide PK
     have EM := hide (show M' = ⟨[], 2, k + 1⟩ by rw [unhide SM, if_pos hz])
     have hemp : w5.ownsRow mid 3 1 (.slice pa 0 pc) 0 [] ∧ (pa = none → pc = 0) := by
      rcases p5.2 with ⟨e, h0⟩ | ⟨g, cap', cur, e, hg, _⟩
      ·injection e with e1 e2 e3
       subst e1 e3
       exact ⟨⟨rfl, .inl ⟨rfl, rfl⟩⟩, fun _ => rfl⟩
      ·injection e with e1 e2 e3
       subst e1 e3
       have := own_take (k := 0) p5 (Nat.zero_le _)
       exact ⟨this, fun h => by cases h⟩
     have c5 := b5.set2 (.slice pa 0 pc)
     have hown0 : (Value.slice pa 0 pc).ownBlock = (Value.slice pa A.length pc).ownBlock := by cases pa <;> rfl
     have E := hide (fin (po := .slice pa A.length pc) (p := .slice pa 0 pc) (m := ⟨[], 2, k + 1⟩) (N := N) ((r5.setO (d := w.heap.size) (i := 2) (u := .slice pa 0 pc) (by omega)).setO (d := w.heap.size) (i := 3) (u := .int .i64 2) (by omega)) (row_setG (row_setG hemp.1 b5 (by decide)) c5 (by decide)) (cf.ownS_set (c := w.heap.size) (i := 3) (u := .int .i64 2) (cf.ownS_set (c := w.heap.size) (i := 2) (u := .slice pa 0 pc) f5 (by omega)) (by omega)) (fr_set (c := w.heap.size) (i := 3) (u := .int .i64 2) (fr_set (c := w.heap.size) (i := 2) (u := .slice pa 0 pc) l5 (Nat.le_refl _)) (Nat.le_refl _)) hmid (.inl hown0))
     dsimp only at E
     have hpc := hemp.2
     clear hz b5 r5 p5 f5 l5 c5 hemp hown0 CC PK SM hcut
     cases pa with
     | none =>
      obtain rfl := hpc rfl
      clear hpc
      go_wp2_with fail
      (try simp only [Exit.inBlock, Exit.then])
      exact bodyPost_ret (qa.ret_box5 rfl rfl (unhide E).1) rfl (by rw [unhide EM]; exact (unhide E).2)
     | some pd =>
      clear hpc
      go_wp2_with fail
      (try simp only [Exit.inBlock, Exit.then])
      exact bodyPost_ret (qa.ret_box5 rfl rfl (unhide E).1) rfl (by rw [unhide EM]; exact (unhide E).2)
    ·have hj1 : 1 ≤ j := by omega
     obtain ⟨g, rfl, hgm, hcap, c1, cf1⟩ := unhide CC (j - 1) (by omega)
     have hjI : ¬ (j : Int) ≤ 0 := by omega
     have hwr : IntKind.i64.wrap ((j : Int) - 1) = ((j - 1 : Nat) : Int) := by rw [IntKind.wrap_i64]; omega
     have hib : ((j - 1 : Nat) : Int) < (A.length : Int) := by omega
     have hcs : cutN A j = if A.getD (j - 1) 0 = 1 then cutN A (j - 1) else j := by
      obtain ⟨i, rfl⟩ : ∃ i, j = i + 1 := ⟨j - 1, by omega⟩
      rfl
     by_cases hx : A.getD (j - 1) 0 = 1
     ·rw [hx] at c1
      rw [if_pos hx] at hcs
      have hpos : litAt (j - 1) 1 > 0 := by unfold as_.litAt; rw [if_pos rfl]; omega
      have R : Hid (cutN A (j - 1) = cutN A A.length) := by rw [← hcs]; exact hcut
      clear hx hcs hcut CC PK SM
      generalize litAt (j - 1) 1 = y at *
      go_wp2_with fail
      go_round
      case rel => exact ⟨j - 1, by omega, by go_num, R⟩
      case measure => simp [intOf]; omega
     ·rw [if_neg hx] at hcs
      have hz : cutN A A.length = j := by rw [← hcs]; exact (unhide hcut).symm
      have hx0 : A.getD (j - 1) 0 = 0 := by
       rcases hbt _ (qm.getD_mem (A := A) (i := j - 1) (by omega)) with q | q
       ·exact q
       ·exact absurd q hx
      rw [hx0] at c1
      have hneg : ¬ litAt (j - 1) 0 > 0 := by unfold as_.litAt; rw [if_neg (by decide)]; omega
      have hbk : A.take (j - 1) ++ [1] = back A := by unfold qm.back; rw [hz]
      have EM := hide (show M' = ⟨back A, 0, k + 1⟩ by rw [unhide SM, if_neg (by rw [hz]; exact h0)])
      obtain ⟨b5, r5, p5, f5, l5⟩ := unhide PK
      have c5 := b5.set2 (.slice (some ⟨g, 0, none⟩) j pc)
      have o1 := row_setG (i := 2) (u := .slice (some ⟨g, 0, none⟩) j pc) (own_take (k := j) p5 hj) b5 (by decide)
      have o2 := (o1.stored (j - 1) (.int .i64 (j : Int))).1
      have htn := turned (A := A) (k := j - 1) (by omega)
      rw [show j - 1 + 1 = j by omega, show ((j - 1 : Nat) : Int) + 1 = (j : Int) by omega, hbk] at htn
      have hbl : (back A).length = j := by rw [← hbk, List.length_append, List.length_take, List.length_singleton]; omega
      rw [htn] at o2
      have hneb : ∀ (cs : Array Value) (t : TypeId) (fz : Nat × Nat) (c : Nat), (w5.setCell ⟨w.heap.size, 2, none⟩ (.slice (some ⟨g, 0, none⟩) j pc)).heap[c]? = some (.cells cs t fz) → (3 : Nat) ≠ t → g ≠ c := fun cs t fz c hcc ht e => by
       rcases ks.row_nec o1 hcc ht with q | q
       ·cases q
       ·exact q (by rw [e]; rfl)
      have gb := hneb _ _ _ _ c5 (by decide)
      have d5 := r5.setO (d := w.heap.size) (i := 2) (u := .slice (some ⟨g, 0, none⟩) j pc) (by omega)
      have gr := hneb _ _ _ _ d5 (by decide)
      have E := hide (fin (po := .slice (some ⟨g, 0, none⟩) A.length pc) (p := .slice (some ⟨g, 0, none⟩) j pc) (m := ⟨back A, 0, k + 1⟩) (N := N) (d5.setO (d := g) (i := j - 1) (u := .int .i64 (j : Int)) gr) (by rw [hbl]; exact o2) (cf.ownS_set (c := g) (i := j - 1) (u := .int .i64 (j : Int)) (cf.ownS_set (c := w.heap.size) (i := 2) (u := .slice (some ⟨g, 0, none⟩) j pc) f5 (by omega)) (.inr hgm)) (fr_own (c := g) (i := j - 1) (u := .int .i64 (j : Int)) (fr_set (c := w.heap.size) (i := 2) (u := .slice (some ⟨g, 0, none⟩) j pc) l5 (Nat.le_refl _))) hmid (.inl rfl))
      dsimp only at E
      have hjc : (j : Int) ≤ (pc : Int) := by omega
      have hj0 : ((j : Int) == 0) = false := by simp; omega
      have hjj : ((j - 1 : Nat) : Int) < (j : Int) := by omega
      have gr' : ¬ w.heap.size + 1 = g := fun e => gr e.symm
      have gb' : ¬ w.heap.size = g := fun e => gb e.symm
      clear hx hx0 hcs hcut hz hbk b5 r5 p5 f5 l5 c5 d5 o1 o2 htn hbl hneb CC PK SM
      generalize litAt (j - 1) 0 = y at *
      go_wp2_with fail
      (try simp only [Exit.inBlock, Exit.then])
      exact bodyPost_ret (qa.ret_box5 rfl rfl (unhide E).1) rfl (by rw [unhide EM]; exact (unhide E).2)
  ·by_cases hN : A.length = N
   ·have E := hide (fin (po := .slice pa A.length pc) (p := .slice pa A.length pc) (m := ⟨A, 1, k + 1⟩) (N := N) (r5.setO (d := w.heap.size) (i := 3) (u := .int .i64 1) (by omega)) (row_set p5 b5 (by decide)) (cf.ownS_set (c := w.heap.size) (i := 3) (u := .int .i64 1) f5 (by omega)) (fr_set (c := w.heap.size) (i := 3) (u := .int .i64 1) l5 (Nat.le_refl _)) hmid (.inl rfl))
    have EM := hide (show M' = ⟨A, 1, k + 1⟩ by rw [← unhide HM]; unfold qm.stepM; rw [if_pos ⟨rfl, hk1⟩, if_pos ho, if_pos hN])
    clear HM ho b5 r5 p5 f5 l5
    subst hN
    dsimp only at E
    go_wp2_with fail
    (try simp only [Exit.inBlock, Exit.then])
    exact bodyPost_ret (qa.ret_box5 rfl rfl (unhide E).1) rfl (by rw [unhide EM]; exact (unhide E).2)
   ·have hN' : ((A.length : Int) == (N : Int)) = false := by simp; omega
    have EM := hide (show M' = ⟨A ++ [0], 0, k + 1⟩ by rw [← unhide HM]; unfold qm.stepM; rw [if_pos ⟨rfl, hk1⟩, if_pos ho, if_neg hN])
    have gA := World.grownBy_alloc w5 (.cells #[.int .i64 (-(A.length : Int) - 1)] 3) none
    have hown : (w5.alloc (.cells #[.int .i64 (-(A.length : Int) - 1)] 3)).ownsRow mid 3 1 (.slice pa A.length pc) (tl 0 A).length (ints (tl 0 A)) := by rw [tl_len]; exact p5.alloc _
    have OWN := hide hown
    have NB : Hid ((w5.alloc (.cells #[.int .i64 (-(A.length : Int) - 1)] 3)).cell? ⟨w5.heap.size, 0, none⟩ = some (.int .i64 (-(A.length : Int) - 1))) := by
     show _ = _
     simp
    have MZ : Hid (mid ≤ (w5.alloc (.cells #[.int .i64 (-(A.length : Int) - 1)] 3)).heap.size) := by
     show mid ≤ _
     rw [World.size_alloc]; omega
    have hM : (tl 0 A).length ≤ 4194304 := by rw [tl_len]; omega
    have ne2 := World.new_ne w5 _ m2
    have bA := b5.kept gA
    have FX : Hid (∀ g cap w3, w3.ownsRow mid 3 1 (.slice (some ⟨g, 0, none⟩) ((tl 0 A).length + 1) cap) ((tl 0 A).length + 1) (ints (tl 0 A) ++ [.int .i64 (-(A.length : Int) - 1)]) → (w5.alloc (.cells #[.int .i64 (-(A.length : Int) - 1)] 3)).grownBy w3 (Value.slice pa A.length pc).ownBlock →
      Box5 92 w3 w.heap.size (.int .i64 (N : Int)) (.slice fa LL.length fc) (.slice pa A.length pc) (.int .i64 0) (.int .i64 (k + 1)) ∧ Box5 92 w3 (w.heap.size + 1) (.int .i64 0) (.slice none 0 0) (.slice none 0 0) (.int .i64 0) (.int .i64 0) ∧
      (w3.ownsRow mid 3 1 (.slice (some ⟨g, 0, none⟩) ((tl 0 A).length + 1) cap) (A ++ [0]).length (ints (tl 0 (A ++ [0]))) ∧ OwnS a mid w3 (.slice fa LL.length fc) LL ∧ w.grownBy w3 (Value.slice pa A.length pc).ownBlock)) := by
     intro g cap w3 o3 g3
     have hne : ∀ (cs : Array Value) (t : TypeId) (fz : Nat × Nat) (c : Nat), (w5.alloc (.cells #[.int .i64 (-(A.length : Int) - 1)] 3)).heap[c]? = some (.cells cs t fz) → (3 : Nat) ≠ t → (Value.slice pa A.length pc).ownBlock ≠ some c := fun cs t fz c hcc ht => by
      rcases ks.row_nec (unhide OWN) hcc ht with e | e
      ·rw [e]; exact fun z => by cases z
      ·exact e
     refine ⟨bA.by g3 (hne _ _ _ _ bA (by decide)), (r5.kept gA).by g3 (hne _ _ _ _ (r5.kept gA) (by decide)), ?_, ?_, ?_⟩
     ·rw [tl_snoc, Nat.zero_add, app.ints_append, List.length_append, List.length_singleton]
      rw [tl_len] at o3 ⊢
      exact o3
     ·exact (f5.kept gA).outs (css.outs_by (lo := mid) (hi := (w5.alloc (.cells #[.int .i64 (-(A.length : Int) - 1)] 3)).heap.size) g3 (fun k e => (unhide OWN).lt k e)) (.inl (Nat.le_refl _))
     ·exact sl.grown_trans' (fr_then l5 gA) g3
    have m2A := bA.c2
    clear HM ho b5 r5 p5 f5 l5 gA hown bA
    go_wp2_with (at_builtin; refine listB (unhide OWN) (unhide NB) (unhide MZ) hM rfl _ _ rfl rfl rfl ?_)
    intro g cap w3 o3 g3 l3
    have ly3 : Lies w (.slice pa A.length pc) (.slice (some ⟨g, 0, none⟩) ((tl 0 A).length + 1) cap) := by
     rcases l3 with q | q
     ·exact .inl q.symm
     ·exact .inr fun b e => by have e' : g = b := Option.some.inj e; omega
    obtain ⟨b6, r6, o6, f6, l6⟩ := unhide FX g cap w3 o3 g3
    have E := hide (fin (po := .slice pa A.length pc) (p := .slice (some ⟨g, 0, none⟩) ((tl 0 A).length + 1) cap) (m := ⟨A ++ [0], 0, k + 1⟩) (N := N) (r6.setO (d := w.heap.size) (i := 2) (u := .slice (some ⟨g, 0, none⟩) ((tl 0 A).length + 1) cap) (by omega)) (row_set o6 b6 (by decide)) (cf.ownS_set (c := w.heap.size) (i := 2) (u := .slice (some ⟨g, 0, none⟩) ((tl 0 A).length + 1) cap) f6 (by omega)) (fr_set (c := w.heap.size) (i := 2) (u := .slice (some ⟨g, 0, none⟩) ((tl 0 A).length + 1) cap) l6 (Nat.le_refl _)) hmid ly3)
    clear m0 m1 m2 m3 m4 r0 r1 r2 r3 r4 fz0 fz1 fz2 fz3 fz4 n2 n3 m2A ne2
    have m0 := b6.c0
    have m1 := b6.c1
    have m2 := b6.c2
    have m3 := b6.c3
    have m4 := b6.c4
    have r0 := r6.c0
    have r1 := r6.c1
    have r2 := r6.c2
    have r3 := r6.c3
    have r4 := r6.c4
    have fz0 := r6.f 0
    have fz1 := r6.f 1
    have fz2 := r6.f 2
    have fz3 := r6.f 3
    have fz4 := r6.f 4
    have n2 := b6.f 2
    clear b6 r6 o6 f6 l6 o3 g3 l3 ly3 FX OWN NB MZ
    dsimp only at E
    go_wp2_with fail
    (try simp only [Exit.inBlock, Exit.then])
    exact bodyPost_ret (qa.ret_box5 rfl rfl (unhide E).1) rfl (by rw [unhide EM]; exact (unhide E).2)
 ·have E := hide (fin (po := .slice pa m.A.length pc) (p := .slice pa m.A.length pc) (N := N) b1 hp0 hf0 bl0 hmid (.inl rfl))
  have EM := hide (show M' = m by rw [← unhide HM]; exact qm.step_stop hmv)
  have hk' : m.st = 0 → ¬ m.k < 1000000000 := fun h1 h2 => hmv ⟨h1, h2⟩
  clear hmv hok hc b0 b1 hf0 hp0 bl0 HM
  obtain ⟨A, st, k⟩ := m
  dsimp only at *
  by_cases hs : st = 0
  ·subst hs
   have hk2 : k ≥ 1000000000 := by have := hk' rfl; omega
   clear hk'
   go_wp2_with fail
   (try simp only [Exit.inBlock, Exit.then])
   exact bodyPost_ret (qa.ret_box5 rfl rfl (unhide E).1) rfl (by rw [unhide EM]; exact (unhide E).2)
  ·have hs' : (st != 0) = true := by simpa using hs
   clear hk'
   go_wp2_with fail
   (try simp only [Exit.inBlock, Exit.then])
   exact bodyPost_ret (qa.ret_box5 rfl rfl (unhide E).1) rfl (by rw [unhide EM]; exact (unhide E).2)
end Go.Proofs.Ytnlllcgcaddhmaa.qi
namespace Go.Proofs.Ytnlllcgcaddhmaa.qi
open Go.ChangeShapes Go.WideShapes Go.ChangeAt Go.RowKit
open qa (Box5 OwnM)
open qm (MS stepM runM OkM run_stop cutN back)
open as_ (litAt tl tl_len tl_snoc)
open css (Sls OwnS tot)
open sl (Sl Own ints hide unhide ret_int ret_bool grown_refl grown_trans)
set_option linter.unusedVariables false
structure Wy (w : World) (N : Nat) (LL : List (List Int)) (a mid : Nat) (f p0 : Value) (fin : MS) (wr : World) (j : Nat) (p : Value) (m : MS) : Prop where
 run : runM N LL j m = fin
 ok : OkM N m
 bx : Box5 92 wr w.heap.size (.int .i64 (N : Int)) f p (.int .i64 m.st) (.int .i64 m.k)
 rs : Box5 92 wr (w.heap.size + 1) (.int .i64 0) (.slice none 0 0) (.slice none 0 0) (.int .i64 0) (.int .i64 0)
 ow : wr.ownsRow mid 3 1 p m.A.length (ints (tl 0 m.A))
 cl : OwnS a mid wr f LL
 g : w.grownBy wr p0.ownBlock
 ly : Lies w p0 p
theorem row_ne {w : World} {b n : Nat} {p : Value} {xs : List Value} {c : Nat} {t : TypeId} {cs : Array Value} {fz : Nat × Nat} (h : w.ownsRow b 3 1 p n xs) (hc : w.heap[c]? = some (.cells cs t fz)) (ht : (3 : Nat) ≠ t) : p.ownBlock ≠ some c := by
 rcases ks.row_nec h hc ht with e | e
 ·rw [e]; exact fun z => by cases z
 ·exact e
theorem Wy.next {w : World} {N : Nat} {LL : List (List Int)} {a mid : Nat} {f p0 p p' : Value} {fin m : MS} {wr w1 : World} {j : Nat} (h : Wy w N LL a mid f p0 fin wr (j + 1) p m) (hm : mid ≤ w.heap.size) (ho : w1.ownsRow mid 3 1 p' (stepM N LL m).A.length (ints (tl 0 (stepM N LL m).A))) (hf : OwnS a mid w1 f LL) (hg : wr.grownBy w1 p.ownBlock) (hl : Lies wr p p') :
  Wy w N LL a mid f p0 fin (((((w1.setCell ⟨w.heap.size, 0, none⟩ (.int .i64 (N : Int))).setCell ⟨w.heap.size, 1, none⟩ f).setCell ⟨w.heap.size, 2, none⟩ p').setCell ⟨w.heap.size, 3, none⟩ (.int .i64 (stepM N LL m).st)).setCell ⟨w.heap.size, 4, none⟩ (.int .i64 (stepM N LL m).k)) j p' (stepM N LL m) ∧ Box5 92 w1 w.heap.size (.int .i64 (N : Int)) f p (.int .i64 m.st) (.int .i64 m.k) := by
 have b1 := h.bx.by hg (row_ne h.ow h.bx (by decide))
 have r1 := h.rs.by hg (row_ne h.ow h.rs (by decide))
 have h1 := b1.set0 (.int .i64 (N : Int))
 have h2 := h1.set1 f
 have h3 := h2.set2 p'
 have h4 := h3.set3 (.int .i64 (stepM N LL m).st)
 have hsz := h.g.size
 have gg : w.grownBy w1 p0.ownBlock := by
  refine ⟨hg.os.trans h.g.os, hg.tape.trans h.g.tape, hg.output.trans h.g.output, Nat.le_trans hsz hg.size, fun k hk hr => ?_⟩
  rw [hg.block k (by omega) (fun e => ?_)]
  ·exact h.g.block k hk hr
  ·rcases h.ly with q | q
   ·exact hr (by rw [← q]; exact e)
   ·have := q k e.symm; omega
 refine ⟨⟨h.run, h.ok.step, h4.set4 _, ((((r1.setO (by omega)).setO (by omega)).setO (by omega)).setO (by omega)).setO (by omega), row_set (row_set (row_set (row_set (row_set ho b1 (by decide)) h1 (by decide)) h2 (by decide)) h3 (by decide)) h4 (by decide), cf.ownS_set (cf.ownS_set (cf.ownS_set (cf.ownS_set (cf.ownS_set hf (by omega)) (by omega)) (by omega)) (by omega)) (by omega), fr_set (fr_set (fr_set (fr_set (fr_set gg (Nat.le_refl _)) (Nat.le_refl _)) (Nat.le_refl _)) (Nat.le_refl _)) (Nat.le_refl _), ?_⟩, b1⟩
 rcases hl with q | q
 ·rcases h.ly with q' | q'
  ·exact .inl (q.trans q')
  ·exact .inr fun b e => q' b (by rw [← q]; exact e)
 ·exact .inr fun b e => Nat.le_trans hsz (q b e)
set_option maxRecDepth 100000 in
set_option maxHeartbeats 8000000 in
theorem l07Run (f p : Value) (N c0 : Nat) (LL : List (List Int)) (a mid : Nat) (m : MS) (w : World) (h24 : N ≤ 24) (hc0 : c0 ≤ 1000000) (hn : tot LL ≤ 1048576) (hc : ∀ c ∈ LL, ∀ x ∈ c, lits.okB x = true) (hok : OkM N m) (hf : OwnS a mid w f LL) (hp : w.ownsRow mid 3 1 p m.A.length (ints (tl 0 m.A))) (hmid : mid ≤ w.heap.size) :
  Calls Try.prog 52 #[.agg #[.int .i64 (N : Int), f, p, .int .i64 m.st, .int .i64 m.k], .int .i64 (c0 : Int)] w fun e w' => StpE w N f LL a mid p (runM N LL c0 m) e w' := by
 have g0 : w.grownBy ((w.alloc (.cells #[.int .i64 (N : Int), f, p, .int .i64 m.st, .int .i64 m.k] 92)).alloc (.cells #[.int .i64 0, .slice none 0 0, .slice none 0 0, .int .i64 0, .int .i64 0] 92)) none := grown_trans (World.grownBy_alloc _ _ _) (World.grownBy_alloc _ _ _)
 have b0 := (Box5.new 92 w (.int .i64 (N : Int)) f p (.int .i64 m.st) (.int .i64 m.k)).kept (World.grownBy_alloc _ (.cells #[.int .i64 0, .slice none 0 0, .slice none 0 0, .int .i64 0, .int .i64 0] 92) none)
 have b1 := Box5.new 92 (w.alloc (.cells #[.int .i64 (N : Int), f, p, .int .i64 m.st, .int .i64 m.k] 92)) (.int .i64 0) (.slice none 0 0) (.slice none 0 0) (.int .i64 0) (.int .i64 0)
 rw [World.size_alloc] at b1
 have ST : Hid (Wy w N LL a mid f p (runM N LL c0 m) ((w.alloc (.cells #[.int .i64 (N : Int), f, p, .int .i64 m.st, .int .i64 m.k] 92)).alloc (.cells #[.int .i64 0, .slice none 0 0, .slice none 0 0, .int .i64 0, .int .i64 0] 92)) c0 p m) := ⟨rfl, hok, b0, b1, hp.kept g0 (qw.ne_none hp), hf.kept g0, fr_none g0, .inl rfl⟩
 obtain ⟨fa, fc, rfl⟩ := hf.len
 have HC := hide hc
 clear hf hp g0 b0 b1 hok hc
 generalize runM N LL c0 m = fin0 at *
 go_enter Try.func52, Try.ntmps52
 go_wp2_with fail
 go_loopw [5] (fun iv wr => ∃ (i j : Nat) (p1 : Value) (m1 : MS), i + j = c0 ∧ iv = .int .i64 (i : Int) ∧ Hid (Wy w N LL a mid (.slice fa LL.length fc) p fin0 wr j p1 m1)) (fun iv _ => c0 - (intOf iv).toNat)
 case atStart => exact ⟨0, c0, p, m, Nat.zero_add _, rfl, ST⟩
 case round =>
  obtain ⟨i, j, p1, m1, hij, rfl, hwy⟩ := hrel
  clear ST
  have wy := unhide hwy
  obtain ⟨pa, pc, hpe⟩ := ks.row_form wy.ow
  subst hpe
  have HIJ := hide hij
  have EX : Hid (fin0 = m1 → Box5 92 (((((wr.setCell ⟨w.heap.size + 1, 0, none⟩ (.int .i64 (N : Int))).setCell ⟨w.heap.size + 1, 1, none⟩ (.slice fa LL.length fc)).setCell ⟨w.heap.size + 1, 2, none⟩ (.slice pa m1.A.length pc)).setCell ⟨w.heap.size + 1, 3, none⟩ (.int .i64 m1.st)).setCell ⟨w.heap.size + 1, 4, none⟩ (.int .i64 m1.k)) (w.heap.size + 1) (.int .i64 (N : Int)) (.slice fa LL.length fc) (.slice pa m1.A.length pc) (.int .i64 m1.st) (.int .i64 m1.k) ∧ StpE w N (.slice fa LL.length fc) LL a mid p fin0 (.returned (.agg #[.int .i64 (N : Int), .slice fa LL.length fc, .slice pa m1.A.length pc, .int .i64 m1.st, .int .i64 m1.k])) (((((wr.setCell ⟨w.heap.size + 1, 0, none⟩ (.int .i64 (N : Int))).setCell ⟨w.heap.size + 1, 1, none⟩ (.slice fa LL.length fc)).setCell ⟨w.heap.size + 1, 2, none⟩ (.slice pa m1.A.length pc)).setCell ⟨w.heap.size + 1, 3, none⟩ (.int .i64 m1.st)).setCell ⟨w.heap.size + 1, 4, none⟩ (.int .i64 m1.k))) := fun e => by
   subst e
   exact fin (po := p) (p := .slice pa fin0.A.length pc) (N := N) wy.rs wy.ow wy.cl wy.g hmid wy.ly
  have cm0 := wy.bx.c0
  have cm1 := wy.bx.c1
  have cm2 := wy.bx.c2
  have cm3 := wy.bx.c3
  have cm4 := wy.bx.c4
  have r0 := wy.rs.c0
  have r1 := wy.rs.c1
  have r2 := wy.rs.c2
  have r3 := wy.rs.c3
  have r4 := wy.rs.c4
  have fz0 := wy.rs.f 0
  have fz1 := wy.rs.f 1
  have fz2 := wy.rs.f 2
  have fz3 := wy.rs.f 3
  have fz4 := wy.rs.f 4
  have hi1 : (i : Int) ≤ 1000000 := by omega
  by_cases hj : j = 0
  ·subst hj
   have hii : ¬ (i : Int) < (c0 : Int) := by omega
   have E := hide (unhide EX (show fin0 = m1 from wy.run.symm))
   clear EX wy hwy hij HIJ
   go_wp2_with fail
   (try simp only [Exit.inBlock, Exit.then])
   exact bodyPost_ret (qa.ret_box5 rfl rfl (unhide E).1) rfl (unhide E).2
  ·have hii : (i : Int) < (c0 : Int) := by omega
   by_cases hmv : m1.st = 0 ∧ m1.k < 1000000000
   ·obtain ⟨jj, rfl⟩ : ∃ jj, j = jj + 1 := ⟨j - 1, by omega⟩
    have hsz := wy.g.size
    have CT := hide (l07Step (.slice fa LL.length fc) (.slice pa m1.A.length pc) N LL a mid m1 wr h24 hn (unhide HC) wy.ok wy.cl wy.ow (by omega))
    have NX : Hid (∀ (w1 : World) (p' : Value), w1.ownsRow mid 3 1 p' (stepM N LL m1).A.length (ints (tl 0 (stepM N LL m1).A)) → OwnS a mid w1 (.slice fa LL.length fc) LL → wr.grownBy w1 (Value.slice pa m1.A.length pc).ownBlock → Lies wr (.slice pa m1.A.length pc) p' → _) := fun w1 p' h1 h2 h3 h4 => wy.next hmid h1 h2 h3 h4
    have h0 := hmv.1
    have h1 := hmv.2
    have hs0 : m1.st = 0 := hmv.1
    rw [hs0] at cm3
    clear EX wy hwy hij hmv h0
    generalize hM1 : stepM N LL m1 = M1 at *
    clear hM1
    obtain ⟨A1, s1, k1⟩ := m1
    dsimp only at *
    subst hs0
    go_wp2_with fail
    refine (unhide CT).mono ?_; rintro e w1 ⟨p', rfl, o1, f1, g1, ly1⟩
    obtain ⟨qa', qc', hqe⟩ := ks.row_form o1
    subst hqe
    obtain ⟨wy2, bb⟩ := unhide NX w1 _ o1 f1 g1 ly1
    have W2 := hide wy2
    clear cm0 cm1 cm2 cm3 cm4 r0 r1 r2 r3 r4 fz0 fz1 fz2 fz3 fz4 o1 f1 g1 ly1 NX CT wy2
    have cm0 := bb.c0
    have cm1 := bb.c1
    have cm2 := bb.c2
    have cm3 := bb.c3
    have cm4 := bb.c4
    have fz0 := bb.f 0
    have fz1 := bb.f 1
    have fz2 := bb.f 2
    have fz3 := bb.f 3
    have fz4 := bb.f 4
    clear bb
    go_wp2_with fail
    go_roundw
    case rel => exact ⟨i + 1, jj, _, M1, by have := unhide HIJ; omega, by go_num, W2⟩
    case measure => simp [intOf]; omega
   ·have E := hide (unhide EX (show fin0 = m1 by rw [← wy.run]; exact run_stop hmv _))
    have hk' : m1.st = 0 → ¬ m1.k < 1000000000 := fun h1 h2 => hmv ⟨h1, h2⟩
    clear EX wy hwy hij HIJ hmv
    obtain ⟨A1, s1, k1⟩ := m1
    dsimp only at *
    by_cases hs : s1 = 0
    ·subst hs
     have hk2 : ¬ k1 < 1000000000 := hk' rfl
     clear hk'
     go_wp2_with fail
     (try simp only [Exit.inBlock, Exit.then])
     exact bodyPost_ret (qa.ret_box5 rfl rfl (unhide E).1) rfl (unhide E).2
    ·have hs' : (s1 == 0) = false := by simpa using hs
     clear hk'
     go_wp2_with fail
     (try simp only [Exit.inBlock, Exit.then])
     exact bodyPost_ret (qa.ret_box5 rfl rfl (unhide E).1) rfl (unhide E).2
end Go.Proofs.Ytnlllcgcaddhmaa.qi
namespace Go.Proofs.Ytnlllcgcaddhmaa.qm
open as_ (litAt tl tl_snoc tl_len)
open cls (hasB)
open ok (cnfB litIn)
open l4 (openB emptyB)
open lits (okB okB_iff)
open lq (Ahead rest rest_none rest_end rest_branch litIn_parts)
set_option linter.unusedVariables false
def po : Nat → List Int → Nat
 | _, [] => 0
 | d, x :: l => (if x = 1 then 2 ^ d else 1) + po (d - 1) l
structure Far (n : Nat) (m : MS) (j : Nat) : Prop where
 ok : OkM n m
 run : m.st = 0 → m.k = (j : Int) ∧ j ≤ po n m.A
 fin : m.st ≠ 0 → m.k + 1 ≤ (2 ^ (n + 1) : Nat)
theorem Far.start (n : Nat) : Far n ⟨[], 0, 0⟩ 0 := ⟨⟨Nat.zero_le _, (fun x hx => by cases hx), Int.le_refl _, by show (0 : Int) ≤ 1000000000; decide, .inl rfl⟩, fun _ => ⟨rfl, Nat.zero_le _⟩, fun h => absurd rfl h⟩
end Go.Proofs.Ytnlllcgcaddhmaa.qm
namespace Go.Proofs.Ytnlllcgcaddhmaa.qh
open Go.ChangeShapes Go.WideShapes Go.ChangeAt Go.RowKit
open qa (Box5 OwnM)
open cf (Box)
open qm (MS stepM runM OkM run_stop)
open qi (l07Step l07Run row_ne)
open as_ (tl tl_len)
open ok (cnfB)
open css (Sls OwnS tot)
open sl (Sl Own ints hide unhide ret_int ret_bool grown_refl grown_trans)
set_option linter.unusedVariables false
def costI (n : Int) (LL : List (List Int)) : Int := if cnfB n LL then (if (runM n.toNat LL 1000000 ⟨[], 0, 0⟩).st = 0 then -1 else (runM n.toNat LL 1000000 ⟨[], 0, 0⟩).k) else -1
theorem cost_no {n : Int} {LL : List (List Int)} (h : cnfB n LL = false) : costI n LL = -1 := by unfold costI; rw [h]; exact if_neg (by decide)
theorem cost_yes {n : Int} {LL : List (List Int)} (h : cnfB n LL = true) : ∃ N : Nat, n = (N : Int) ∧ N ≤ 24 ∧ cnfB (N : Int) LL = true ∧ costI n LL = (if (runM N LL 1000000 ⟨[], 0, 0⟩).st = 0 then -1 else (runM N LL 1000000 ⟨[], 0, 0⟩).k) := by
 have h24 := qb.cnf24 h
 obtain ⟨N, rfl⟩ := Int.eq_ofNat_of_zero_le h24.1
 refine ⟨N, rfl, by omega, h, ?_⟩
 unfold costI
 rw [h, Int.toNat_natCast]
 exact if_pos rfl
set_option maxRecDepth 100000 in
set_option maxHeartbeats 8000000 in
theorem specMachineCost (v : Value) (n : Int) (LL : List (List Int)) (lo hi : Nat) (w : World) (hn : tot LL ≤ 1048576) (hh : hi ≤ w.heap.size) (hv : OwnS lo hi w v LL) :
  Calls Try.prog 41 #[.agg #[.int .i64 n, v]] w fun e w' => e = .returned (.int .i64 (costI n LL)) ∧ w.grownBy w' none := by
 have g0 := World.grownBy_alloc w (.cells #[.int .i64 n, v] 62) none
 have b0 := Box.new 62 w (.int .i64 n) v
 have C := hide (fun w1 (g : w.grownBy w1 none) => qc.specMachineStart v n LL lo hi w1 hn (hv.kept g) (Nat.le_trans hh g.size))
 have HN := hide hn
 skip
 have x0 := b0.c0
 have x1 := b0.c1
 have G0 := hide g0
 clear g0 b0 hv
 go_enter Try.func41, Try.ntmps41
 go_wp2_with fail
 generalize w.alloc (.cells #[.int .i64 n, v] 62) = W0 at *
 refine (unhide C _ (unhide G0)).mono ?_; rintro e w1 ⟨u, p, rfl, o1, g1⟩
 obtain ⟨ua, uc, pa, pc, rfl, rfl⟩ := o1.len
 have G1 := hide (grown_trans (r := none) (unhide G0) g1)
 cases hb : cnfB n LL
 ·have E := hide (cost_no hb)
  have gA := hide (grown_trans (r := none) (unhide G1) (World.grownBy_alloc w1 (.cells #[.int .i64 (qc.stN n LL), .slice ua (qc.stR n LL).length uc, .slice pa ([] : List Int).length pc, .int .i64 0, .int .i64 0] 92) none))
  clear hb o1 g1 C G0
  go_wp2_with fail
  go_ret
  exact ⟨ret_int (unhide E).symm, unhide gA⟩
 ·have e1 : qc.stN n LL = n := by unfold qc.stN; rw [hb]; rfl
  have e2 : qc.stR n LL = LL := by unfold qc.stR; rw [hb]; rfl
  rw [e2] at o1
  have gA := World.grownBy_alloc w1 (.cells #[.int .i64 n, .slice ua LL.length uc, .slice pa 0 pc, .int .i64 0, .int .i64 0] 92) none
  have bM := Box5.new 92 w1 (.int .i64 n) (.slice ua LL.length uc) (.slice pa 0 pc) (.int .i64 0) (.int .i64 0)
  have oM := o1.kept gA
  have GM := hide (grown_trans (r := none) (unhide G1) gA)
  obtain ⟨N, eN, h24, hcf, hrun⟩ := cost_yes hb
  obtain ⟨mid, q1, q2, q3, q4⟩ := oM
  subst eN
  have hok0 : OkM N ⟨[], 0, 0⟩ := (qm.Far.start N).ok
  have CT := hide (l07Run (.slice ua LL.length uc) (.slice pa 0 pc) N 1000000 LL _ mid ⟨[], 0, 0⟩ _ h24 (Nat.le_refl _) (unhide HN) (fun c hc x hx => (lq.litIn_parts ((cnf_parts hcf).2 c hc x hx)).1) hok0 q3 q4.1 (by have h1 := g1.size; rw [World.size_alloc]; omega))
  have ER := hide hrun
  have BM := hide bM
  have m0 := bM.c0
  have m1 := bM.c1
  have m2 := bM.c2
  have m3 := bM.c3
  have m4 := bM.c4
  rw [e1, e2]
  have FW : Hid (∀ w3 : World, (w1.alloc (.cells #[.int .i64 (N : Int), .slice ua LL.length uc, .slice pa 0 pc, .int .i64 0, .int .i64 0] 92)).grownBy w3 (Value.slice pa 0 pc).ownBlock → Box5 92 w3 w1.heap.size (.int .i64 (N : Int)) (.slice ua LL.length uc) (.slice pa 0 pc) (.int .i64 0) (.int .i64 0) ∧ w.grownBy w3 none ∧ w.heap.size ≤ w1.heap.size) := fun w3 g3 => by
   have hgs := (unhide GM).size
   have hg0 := (unhide G0).size
   refine ⟨(unhide BM).by g3 (row_ne q4.1 (unhide BM) (by decide)), ⟨g3.os.trans (unhide GM).os, g3.tape.trans (unhide GM).tape, g3.output.trans (unhide GM).output, Nat.le_trans (unhide GM).size g3.size, fun i hi _ => (g3.block i (by omega) (fun e => by have := (q4.1.lt i e.symm).1; omega)).trans ((unhide GM).block i hi (fun e => by cases e))⟩, (unhide G1).size⟩
  clear e1 e2 o1 g1 C G0 G1 gA bM hrun hb hcf q1 q2 q3 q4 hok0
  generalize runM N LL 1000000 ⟨[], 0, 0⟩ = M1 at *
  obtain ⟨A1, s1, k1⟩ := M1
  dsimp only at *
  go_wp2_with fail
  refine (unhide CT).mono ?_; rintro e w3 ⟨p3, rfl, o3, f3, g3, _⟩
  obtain ⟨b3, d3, hpe⟩ := ks.row_form o3
  subst hpe
  obtain ⟨bb, gg, hsz⟩ := unhide FW w3 g3
  have FG : Hid (w.grownBy (((((w3.setCell ⟨w1.heap.size, 0, none⟩ (.int .i64 (N : Int))).setCell ⟨w1.heap.size, 1, none⟩ (.slice ua LL.length uc)).setCell ⟨w1.heap.size, 2, none⟩ (.slice b3 A1.length d3)).setCell ⟨w1.heap.size, 3, none⟩ (.int .i64 s1)).setCell ⟨w1.heap.size, 4, none⟩ (.int .i64 k1)) none) := cf.grown_set (cf.grown_set (cf.grown_set (cf.grown_set (cf.grown_set gg hsz) hsz) hsz) hsz) hsz
  clear m0 m1 m2 m3 m4
  have m0 := bb.c0
  have m1 := bb.c1
  have m2 := bb.c2
  have m3 := bb.c3
  have m4 := bb.c4
  have f0 := bb.f 0
  have f1 := bb.f 1
  have f2 := bb.f 2
  have ff3 := bb.f 3
  have f4 := bb.f 4
  clear bb gg hsz o3 f3 g3 FW CT BM GM
  by_cases hs : s1 = 0
  ·subst hs
   go_wp2_with fail
   go_ret
   exact ⟨ret_int (by rw [unhide ER]; rfl), unhide FG⟩
  ·have hs' : (s1 == 0) = false := by simpa using hs
   go_wp2_with fail
   go_ret
   exact ⟨ret_int (by rw [unhide ER, if_neg hs]), unhide FG⟩
end Go.Proofs.Ytnlllcgcaddhmaa.qh
