/- What the model's l07Step does: the step of the machine; no condition but that the machine is one. -/
import Derived.Test.YtlpgnaedhijdpaaDoorQg
import Derived.Test.YtlpgnaedhijdpaaDoorQb
import Derived.Test.YtlpgnaedhijdpaaDoorQy
namespace Go.Proofs.YtlpgnaedhijdpaaDoor.qi
open Go.ChangeShapes Go.WideShapes Go.ChangeAt Go.RowKit
open Go.Proofs.YtlpgnaedhijdpaaDoor.qa (Box5 OwnM)
open Go.Proofs.YtlpgnaedhijdpaaDoor.qm (machB vals MS stepM runM OkM run_stop cutN back)
open Go.Proofs.YtlpgnaedhijdpaaDoor.qw (bel_by bel_trans bel_set own_take)
open Go.Proofs.YtlpgnaedhijdpaaDoor.wm0 (listB)
open Go.Proofs.YtlpgnaedhijdpaaDoor.as_ (litAt tl tl_len tl_snoc)
open Go.Proofs.YtlpgnaedhijdpaaDoor.ok (cnfB)
open Go.Proofs.YtlpgnaedhijdpaaDoor.css (Sls OwnS tot)
open Go.Proofs.YtlpgnaedhijdpaaDoor.sl (Sl Own ints hide unhide ret_int ret_bool grown_refl grown_trans)
set_option linter.unusedVariables false
theorem fr_none {w w' : World} {r : Option Nat} (g : w.grownBy w' none) : w.grownBy w' r := ⟨g.os, g.tape, g.output, g.size, fun k hk _ => g.block k hk (fun e => by cases e)⟩
theorem fr_then {w w1 w2 : World} {r : Option Nat} (h : w.grownBy w1 r) (g : w1.grownBy w2 none) : w.grownBy w2 r := sl.grown_trans' h (fr_none g)
theorem fr_set {w w1 : World} {r : Option Nat} {c i : Nat} {u : Value} (h : w.grownBy w1 r) (hc : w.heap.size ≤ c) : w.grownBy (w1.setCell ⟨c, i, none⟩ u) r :=
  ⟨h.os, h.tape, h.output, by rw [cf.size_set]; exact h.size, fun k hk hr => (Below.heap_setCell _ _ _ _ (by show k ≠ c; omega)).trans (h.block k hk hr)⟩
theorem fr_own {w w1 : World} {c i : Nat} {u : Value} (h : w.grownBy w1 (some c)) : w.grownBy (w1.setCell ⟨c, i, none⟩ u) (some c) := sl.grown_trans' h (sl.grown_setCell w1 c i u)
/-- a path lies in the row where it lay, or in a new one -/
def Lies (w : World) (p0 p : Value) : Prop := p.ownBlock = p0.ownBlock ∨ ∀ b, p.ownBlock = some b → w.heap.size ≤ b
/-- what a step of the model answers: the clauses as they were, the path in its own row or a new one -/
def StpE (w : World) (N : Nat) (f : Value) (LL : List (List Int)) (a mid : Nat) (p0 : Value) (m : MS) (e : Ending) (w' : World) : Prop := ∃ p, e = .returned (.agg #[.int .i64 (N : Int), f, p, .int .i64 m.st, .int .i64 m.k]) ∧ w'.ownsRow mid 3 1 p m.A.length (ints (tl 0 m.A)) ∧ OwnS a mid w' f LL ∧ w.grownBy w' p0.ownBlock ∧ Lies w p0 p
theorem row_set {w : World} {b : Nat} {p u : Value} {A : List Int} {c i : Nat} {t : TypeId} {cs : Array Value} {fz : Nat × Nat} (h : w.ownsRow b 3 1 p A.length (ints (tl 0 A))) (hc : w.heap[c]? = some (.cells cs t fz)) (ht : (3 : Nat) ≠ t) : (w.setCell ⟨c, i, none⟩ u).ownsRow b 3 1 p A.length (ints (tl 0 A)) := by
  refine h.kept (sl.grown_setCell w c i u) ?_
  cases q : p.ownBlock with
  | none => exact .inl rfl
  | some g => rcases ks.row_nec h hc ht with e | e
              · rw [q] at e; cases e
              · exact .inr (by rw [← q]; exact e)
theorem row_setG {w : World} {b n : Nat} {p u : Value} {xs : List Value} {c i : Nat} {t : TypeId} {cs : Array Value} {fz : Nat × Nat} (h : w.ownsRow b 3 1 p n xs) (hc : w.heap[c]? = some (.cells cs t fz)) (ht : (3 : Nat) ≠ t) : (w.setCell ⟨c, i, none⟩ u).ownsRow b 3 1 p n xs := by
  refine h.kept (sl.grown_setCell w c i u) ?_
  cases q : p.ownBlock with
  | none => exact .inl rfl
  | some g => rcases ks.row_nec h hc ht with e | e
              · rw [q] at e; cases e
              · exact .inr (by rw [← q]; exact e)
theorem set_last {α : Type} (L : List α) (k : Nat) (y : α) (hk : k < L.length) : (L.take (k + 1)).set k y = L.take k ++ [y] := by
  rw [List.take_succ_eq_append_getElem hk, List.set_append_right _ _ (by rw [List.length_take]; omega), List.length_take, Nat.min_eq_left (by omega), Nat.sub_self]
  rfl
/-- the path turned: cells -/
theorem turned {A : List Int} {k : Nat} (hk : k < A.length) : ((ints (tl 0 A)).take (k + 1)).set k (.int .i64 ((k : Int) + 1)) = ints (tl 0 (A.take k ++ [1])) := by
  have hl : (A.take k).length = k := by rw [List.length_take]; omega
  rw [set_last _ _ _ (by rw [sl.ints_length, tl_len]; exact hk), tl_snoc, Nat.zero_add, hl, app.ints_append, ← qm.tl_take]
  congr 1
  unfold sl.ints
  rw [List.map_take]
/-- the answer is stored -/
theorem fin {w wx : World} {N : Nat} {f p : Value} {LL : List (List Int)} {a mid : Nat} {m : MS} {a0 b0 p0 x0 y0 po : Value} (hr : Box5 37 wx (w.heap.size + 1) a0 b0 p0 x0 y0) (ho : wx.ownsRow mid 3 1 p m.A.length (ints (tl 0 m.A))) (hf : OwnS a mid wx f LL) (hb : w.grownBy wx po.ownBlock) (hm : mid ≤ w.heap.size) (hly : Lies w po p) :
    Box5 37 (((((wx.setCell ⟨w.heap.size + 1, 0, none⟩ (.int .i64 (N : Int))).setCell ⟨w.heap.size + 1, 1, none⟩ f).setCell ⟨w.heap.size + 1, 2, none⟩ p).setCell ⟨w.heap.size + 1, 3, none⟩ (.int .i64 m.st)).setCell ⟨w.heap.size + 1, 4, none⟩ (.int .i64 m.k)) (w.heap.size + 1) (.int .i64 (N : Int)) f p (.int .i64 m.st) (.int .i64 m.k) ∧
      StpE w N f LL a mid po m (.returned (.agg #[.int .i64 (N : Int), f, p, .int .i64 m.st, .int .i64 m.k])) (((((wx.setCell ⟨w.heap.size + 1, 0, none⟩ (.int .i64 (N : Int))).setCell ⟨w.heap.size + 1, 1, none⟩ f).setCell ⟨w.heap.size + 1, 2, none⟩ p).setCell ⟨w.heap.size + 1, 3, none⟩ (.int .i64 m.st)).setCell ⟨w.heap.size + 1, 4, none⟩ (.int .i64 m.k)) := by
  have h1 := hr.set0 (.int .i64 (N : Int))
  have h2 := h1.set1 f
  have h3 := h2.set2 p
  have h4 := h3.set3 (.int .i64 m.st)
  refine ⟨h4.set4 _, p, rfl, ?_, ?_, ?_, hly⟩
  · exact row_set (row_set (row_set (row_set (row_set ho hr (by decide)) h1 (by decide)) h2 (by decide)) h3 (by decide)) h4 (by decide)
  · exact cf.ownS_set (cf.ownS_set (cf.ownS_set (cf.ownS_set (cf.ownS_set hf (by omega)) (by omega)) (by omega)) (by omega)) (by omega)
  · exact fr_set (fr_set (fr_set (fr_set (fr_set hb (by omega)) (by omega)) (by omega)) (by omega)) (by omega)
set_option maxRecDepth 100000 in
set_option maxHeartbeats 8000000 in
theorem l07Step (f p : Value) (N : Nat) (LL : List (List Int)) (a mid : Nat) (m : MS) (w : World) (h24 : N ≤ 24) (hn : tot LL ≤ 1048576) (hc : ∀ c ∈ LL, ∀ x ∈ c, lits.okB x = true) (hok : OkM N m) (hf : OwnS a mid w f LL) (hp : w.ownsRow mid 3 1 p m.A.length (ints (tl 0 m.A))) (hmid : mid ≤ w.heap.size) :
    Calls Tryd.prog 73 #[.agg #[.int .i64 (N : Int), f, p, .int .i64 m.st, .int .i64 m.k]] w fun e w' => StpE w N f LL a mid p (stepM N LL m) e w' := by
  have g0 : w.grownBy ((w.alloc (.cells #[.int .i64 (N : Int), f, p, .int .i64 m.st, .int .i64 m.k] 37)).alloc (.cells #[.int .i64 0, .slice none 0 0, .slice none 0 0, .int .i64 0, .int .i64 0] 37)) none := grown_trans (World.grownBy_alloc _ _ _) (World.grownBy_alloc _ _ _)
  have b0 := (Box5.new 37 w (.int .i64 (N : Int)) f p (.int .i64 m.st) (.int .i64 m.k)).kept (World.grownBy_alloc _ (.cells #[.int .i64 0, .slice none 0 0, .slice none 0 0, .int .i64 0, .int .i64 0] 37) none)
  have b1 := Box5.new 37 (w.alloc (.cells #[.int .i64 (N : Int), f, p, .int .i64 m.st, .int .i64 m.k] 37)) (.int .i64 0) (.slice none 0 0) (.slice none 0 0) (.int .i64 0) (.int .i64 0)
  rw [World.size_alloc] at b1
  have hf0 := hf.kept g0
  have hp0 := hp.kept g0 (qw.ne_none hp)
  have bl0 : w.grownBy _ p.ownBlock := fr_none g0
  obtain ⟨fa, fc, rfl⟩ := hf.len
  obtain ⟨pa, pc, hpe⟩ := ks.row_form hp
  subst hpe
  have hlen := hok.len
  obtain ⟨M', hM'⟩ : ∃ M', stepM N LL m = M' := ⟨_, rfl⟩
  rw [hM']
  have HM := hide hM'
  clear hf hp g0 hM'
  have m0 := b0.c0
  have m1 := b0.c1
  have m2 := b0.c2
  have m3 := b0.c3
  have m4 := b0.c4
  have r0 := b1.c0
  have r1 := b1.c1
  have r2 := b1.c2
  have r3 := b1.c3
  have r4 := b1.c4
  have fz0 := b1.f 0
  have fz1 := b1.f 1
  have fz2 := b1.f 2
  have fz3 := b1.f 3
  have fz4 := b1.f 4
  have n2 := b0.f 2
  have n3 := b0.f 3
  have n4 := b0.f 4
  go_enter Tryd.func73, Tryd.ntmps73
  go_upto_region 1 with fail
  generalize (w.alloc (.cells #[.int .i64 (N : Int), .slice fa LL.length fc, .slice pa m.A.length pc, .int .i64 m.st, .int .i64 m.k] 37)).alloc (.cells #[.int .i64 0, .slice none 0 0, .slice none 0 0, .int .i64 0, .int .i64 0] 37) = W0 at *
  by_cases hmv : m.st = 0 ∧ m.k < 1000000000
  · obtain ⟨A, st, k⟩ := m
    dsimp only at *
    obtain ⟨rfl, hk1⟩ := hmv
    have hk0 := hok.k0
    have hbt := hok.bit
    dsimp only at hk0 hbt
    -- the steps are one more
    have c4 := b0.set4 (.int .i64 (k + 1))
    have d4 := b1.setO (d := w.heap.size) (i := 4) (u := .int .i64 (k + 1)) (by omega)
    have hp4 := row_set (i := 4) (u := .int .i64 (k + 1)) hp0 b0 (by decide)
    have hf4 := cf.ownS_set (c := w.heap.size) (i := 4) (u := .int .i64 (k + 1)) hf0 (by omega)
    have bl4 := fr_set (c := w.heap.size) (i := 4) (u := .int .i64 (k + 1)) bl0 (Nat.le_refl _)
    have hpS : Sl (W0.setCell ⟨w.heap.size, 4, none⟩ (.int .i64 (k + 1))) (.slice pa A.length pc) (tl 0 A) := Sl.of_own (by rw [tl_len]; exact hp4)
    have CO := hide (l4.l05Open (.slice fa LL.length fc) (.slice pa A.length pc) (N : Int) LL (tl 0 A) _ hn (by rw [tl_len]; omega) hc hf4.sls hpS)
    have ST := hide (And.intro c4 (And.intro d4 (And.intro hp4 (And.intro hf4 bl4))))
    have hkw : IntKind.i64.wrap (k + 1) = k + 1 := by rw [IntKind.wrap_i64]; omega
    clear c4 d4 hp4 hf4 bl4 hpS b0 b1 hp0 hf0 bl0 hok hc
    go_wp2_with fail
    generalize W0.setCell ⟨w.heap.size, 4, none⟩ (.int .i64 (k + 1)) = W1 at *
    refine (unhide CO).mono ?_; rintro e w5 ⟨rfl, g5⟩
    obtain ⟨z1, z2, z3, z4, z5⟩ := unhide ST
    have b5 := z1.kept g5
    have r5 := z2.kept g5
    have p5 := z3.kept g5 (qw.ne_none z3)
    have f5 := z4.kept g5
    have s5 : w.heap.size < w5.heap.size := b5.lt
    have l5 := fr_then z5 g5
    clear CO ST z1 z2 z3 z4 z5 g5 hkw n2 n3 n4 m0 m1 m2 m3 m4 r0 r1 r2 r3 r4 fz0 fz1 fz2 fz3 fz4
    have m0 := b5.c0
    have m1 := b5.c1
    have m2 := b5.c2
    have m3 := b5.c3
    have m4 := b5.c4
    have r0 := r5.c0
    have r1 := r5.c1
    have r2 := r5.c2
    have r3 := r5.c3
    have r4 := r5.c4
    have fz0 := r5.f 0
    have fz1 := r5.f 1
    have fz2 := r5.f 2
    have fz3 := r5.f 3
    have fz4 := r5.f 4
    have n2 := b5.f 2
    have n3 := b5.f 3
    cases ho : l4.openB LL (tl 0 A)
    · have SM := hide (show M' = if cutN A A.length = 0 then ⟨[], 2, k + 1⟩ else ⟨back A, 0, k + 1⟩ by rw [← unhide HM]; unfold qm.stepM; rw [if_pos ⟨rfl, hk1⟩, ho]; rfl)
      have CC : Hid (∀ j, j < A.length → ∃ g, pa = some ⟨g, 0, none⟩ ∧ mid ≤ g ∧ A.length ≤ pc ∧ w5.cell? ⟨g, j, none⟩ = some (.int .i64 (litAt j (A.getD j 0))) ∧ w5.frozen? ⟨g, j, none⟩ = false) := by
        intro j hj
        rcases p5.2 with ⟨e, h0⟩ | ⟨g, cap', cur, e, hg, _, hcap, _⟩
        · omega
        · injection e with e1 e2 e3
          subst e1
          refine ⟨g, rfl, hg, by omega, ?_, p5.frozenAt j⟩
          rw [p5.cellAt j (by omega)]
          have e := qm.tl_getD A 0 j hj
          rw [Nat.zero_add] at e
          rw [← e]
          simp [sl.ints, tl_len, hj]
      have PK := hide (And.intro b5 (And.intro r5 (And.intro p5 (And.intro f5 l5))))
      clear HM ho b5 r5 p5 f5 l5
      go_wp2_with fail
      go_loop [3] (fun i => ∃ j : Nat, j ≤ A.length ∧ i = .int .i64 j ∧ Hid (cutN A j = cutN A A.length)) (fun i => (intOf i).toNat)
      case atStart => exact ⟨A.length, Nat.le_refl _, rfl, rfl⟩
      case round =>
        obtain ⟨j, hj, rfl, hcut⟩ := hrel
        by_cases h0 : j = 0
        · subst h0
          have hz : cutN A A.length = 0 := (unhide hcut).symm
          obtain ⟨b5, r5, p5, f5, l5⟩ := unhide PK
          have EM := hide (show M' = ⟨[], 2, k + 1⟩ by rw [unhide SM, if_pos hz])
          have hemp : w5.ownsRow mid 3 1 (.slice pa 0 pc) 0 [] ∧ (pa = none → pc = 0) := by
            rcases p5.2 with ⟨e, h0⟩ | ⟨g, cap', cur, e, hg, _⟩
            · injection e with e1 e2 e3
              subst e1 e3
              exact ⟨⟨rfl, .inl ⟨rfl, rfl⟩⟩, fun _ => rfl⟩
            · injection e with e1 e2 e3
              subst e1 e3
              have := own_take (k := 0) p5 (Nat.zero_le _)
              exact ⟨this, fun h => by cases h⟩
          have c5 := b5.set2 (.slice pa 0 pc)
          have hown0 : (Value.slice pa 0 pc).ownBlock = (Value.slice pa A.length pc).ownBlock := by cases pa <;> rfl
          have E := hide (fin (po := .slice pa A.length pc) (p := .slice pa 0 pc) (m := ⟨[], 2, k + 1⟩) (N := N) ((r5.setO (d := w.heap.size) (i := 2) (u := .slice pa 0 pc) (by omega)).setO (d := w.heap.size) (i := 3) (u := .int .i64 2) (by omega)) (row_setG (row_setG hemp.1 b5 (by decide)) c5 (by decide)) (cf.ownS_set (c := w.heap.size) (i := 3) (u := .int .i64 2) (cf.ownS_set (c := w.heap.size) (i := 2) (u := .slice pa 0 pc) f5 (by omega)) (by omega)) (fr_set (c := w.heap.size) (i := 3) (u := .int .i64 2) (fr_set (c := w.heap.size) (i := 2) (u := .slice pa 0 pc) l5 (Nat.le_refl _)) (Nat.le_refl _)) hmid (.inl hown0))
          dsimp only at E
          have hpc := hemp.2
          clear hz b5 r5 p5 f5 l5 c5 hemp hown0 CC PK SM hcut
          cases pa with
          | none =>
            obtain rfl := hpc rfl
            clear hpc
            go_wp2_with fail
            (try simp only [Exit.inBlock, Exit.then])
            exact bodyPost_ret (qa.ret_box5 rfl rfl (unhide E).1) rfl (by rw [unhide EM]; exact (unhide E).2)
          | some pd =>
            clear hpc
            go_wp2_with fail
            (try simp only [Exit.inBlock, Exit.then])
            exact bodyPost_ret (qa.ret_box5 rfl rfl (unhide E).1) rfl (by rw [unhide EM]; exact (unhide E).2)
        · have hj1 : 1 ≤ j := by omega
          obtain ⟨g, rfl, hgm, hcap, c1, cf1⟩ := unhide CC (j - 1) (by omega)
          have hjI : ¬ (j : Int) ≤ 0 := by omega
          have hwr : IntKind.i64.wrap ((j : Int) - 1) = ((j - 1 : Nat) : Int) := by rw [IntKind.wrap_i64]; omega
          have hib : ((j - 1 : Nat) : Int) < (A.length : Int) := by omega
          have hcs : cutN A j = if A.getD (j - 1) 0 = 1 then cutN A (j - 1) else j := by
            obtain ⟨i, rfl⟩ : ∃ i, j = i + 1 := ⟨j - 1, by omega⟩
            rfl
          by_cases hx : A.getD (j - 1) 0 = 1
          · rw [hx] at c1
            rw [if_pos hx] at hcs
            have hpos : litAt (j - 1) 1 > 0 := by unfold as_.litAt; rw [if_pos rfl]; omega
            have R : Hid (cutN A (j - 1) = cutN A A.length) := by rw [← hcs]; exact hcut
            clear hx hcs hcut CC PK SM
            generalize litAt (j - 1) 1 = y at *
            go_wp2_with fail
            go_round
            case rel => exact ⟨j - 1, by omega, by go_num, R⟩
            case measure => simp [intOf]; omega
          · rw [if_neg hx] at hcs
            have hz : cutN A A.length = j := by rw [← hcs]; exact (unhide hcut).symm
            have hx0 : A.getD (j - 1) 0 = 0 := by
              rcases hbt _ (qm.getD_mem (A := A) (i := j - 1) (by omega)) with q | q
              · exact q
              · exact absurd q hx
            rw [hx0] at c1
            have hneg : ¬ litAt (j - 1) 0 > 0 := by unfold as_.litAt; rw [if_neg (by decide)]; omega
            have hbk : A.take (j - 1) ++ [1] = back A := by unfold qm.back; rw [hz]
            have EM := hide (show M' = ⟨back A, 0, k + 1⟩ by rw [unhide SM, if_neg (by rw [hz]; exact h0)])
            obtain ⟨b5, r5, p5, f5, l5⟩ := unhide PK
            have c5 := b5.set2 (.slice (some ⟨g, 0, none⟩) j pc)
            have o1 := row_setG (i := 2) (u := .slice (some ⟨g, 0, none⟩) j pc) (own_take (k := j) p5 hj) b5 (by decide)
            have o2 := (o1.stored (j - 1) (.int .i64 (j : Int))).1
            have htn := turned (A := A) (k := j - 1) (by omega)
            rw [show j - 1 + 1 = j by omega, show ((j - 1 : Nat) : Int) + 1 = (j : Int) by omega, hbk] at htn
            have hbl : (back A).length = j := by rw [← hbk, List.length_append, List.length_take, List.length_singleton]; omega
            rw [htn] at o2
            have hneb : ∀ (cs : Array Value) (t : TypeId) (fz : Nat × Nat) (c : Nat), (w5.setCell ⟨w.heap.size, 2, none⟩ (.slice (some ⟨g, 0, none⟩) j pc)).heap[c]? = some (.cells cs t fz) → (3 : Nat) ≠ t → g ≠ c := fun cs t fz c hcc ht e => by
              rcases ks.row_nec o1 hcc ht with q | q
              · cases q
              · exact q (by rw [e]; rfl)
            have gb := hneb _ _ _ _ c5 (by decide)
            have d5 := r5.setO (d := w.heap.size) (i := 2) (u := .slice (some ⟨g, 0, none⟩) j pc) (by omega)
            have gr := hneb _ _ _ _ d5 (by decide)
            have E := hide (fin (po := .slice (some ⟨g, 0, none⟩) A.length pc) (p := .slice (some ⟨g, 0, none⟩) j pc) (m := ⟨back A, 0, k + 1⟩) (N := N) (d5.setO (d := g) (i := j - 1) (u := .int .i64 (j : Int)) gr) (by rw [hbl]; exact o2) (cf.ownS_set (c := g) (i := j - 1) (u := .int .i64 (j : Int)) (cf.ownS_set (c := w.heap.size) (i := 2) (u := .slice (some ⟨g, 0, none⟩) j pc) f5 (by omega)) (.inr hgm)) (fr_own (c := g) (i := j - 1) (u := .int .i64 (j : Int)) (fr_set (c := w.heap.size) (i := 2) (u := .slice (some ⟨g, 0, none⟩) j pc) l5 (Nat.le_refl _))) hmid (.inl rfl))
            dsimp only at E
            have hjc : (j : Int) ≤ (pc : Int) := by omega
            have hj0 : ((j : Int) == 0) = false := by simp; omega
            have hjj : ((j - 1 : Nat) : Int) < (j : Int) := by omega
            have gr' : ¬ w.heap.size + 1 = g := fun e => gr e.symm
            have gb' : ¬ w.heap.size = g := fun e => gb e.symm
            clear hx hx0 hcs hcut hz hbk b5 r5 p5 f5 l5 c5 d5 o1 o2 htn hbl hneb CC PK SM
            generalize litAt (j - 1) 0 = y at *
            go_wp2_with fail
            (try simp only [Exit.inBlock, Exit.then])
            exact bodyPost_ret (qa.ret_box5 rfl rfl (unhide E).1) rfl (by rw [unhide EM]; exact (unhide E).2)
    · by_cases hN : A.length = N
      · have E := hide (fin (po := .slice pa A.length pc) (p := .slice pa A.length pc) (m := ⟨A, 1, k + 1⟩) (N := N) (r5.setO (d := w.heap.size) (i := 3) (u := .int .i64 1) (by omega)) (row_set p5 b5 (by decide)) (cf.ownS_set (c := w.heap.size) (i := 3) (u := .int .i64 1) f5 (by omega)) (fr_set (c := w.heap.size) (i := 3) (u := .int .i64 1) l5 (Nat.le_refl _)) hmid (.inl rfl))
        have EM := hide (show M' = ⟨A, 1, k + 1⟩ by rw [← unhide HM]; unfold qm.stepM; rw [if_pos ⟨rfl, hk1⟩, if_pos ho, if_pos hN])
        clear HM ho b5 r5 p5 f5 l5
        subst hN
        dsimp only at E
        go_wp2_with fail
        (try simp only [Exit.inBlock, Exit.then])
        exact bodyPost_ret (qa.ret_box5 rfl rfl (unhide E).1) rfl (by rw [unhide EM]; exact (unhide E).2)
      · have hN' : ((A.length : Int) == (N : Int)) = false := by simp; omega
        have EM := hide (show M' = ⟨A ++ [0], 0, k + 1⟩ by rw [← unhide HM]; unfold qm.stepM; rw [if_pos ⟨rfl, hk1⟩, if_pos ho, if_neg hN])
        have gA := World.grownBy_alloc w5 (.cells #[.int .i64 (-(A.length : Int) - 1)] 3) none
        have hown : (w5.alloc (.cells #[.int .i64 (-(A.length : Int) - 1)] 3)).ownsRow mid 3 1 (.slice pa A.length pc) (tl 0 A).length (ints (tl 0 A)) := by rw [tl_len]; exact p5.alloc _
        have OWN := hide hown
        have NB : Hid ((w5.alloc (.cells #[.int .i64 (-(A.length : Int) - 1)] 3)).cell? ⟨w5.heap.size, 0, none⟩ = some (.int .i64 (-(A.length : Int) - 1))) := by
          show _ = _
          simp
        have MZ : Hid (mid ≤ (w5.alloc (.cells #[.int .i64 (-(A.length : Int) - 1)] 3)).heap.size) := by
          show mid ≤ _
          rw [World.size_alloc]; omega
        have hM : (tl 0 A).length ≤ 4194304 := by rw [tl_len]; omega
        have ne2 := World.new_ne w5 _ m2
        have bA := b5.kept gA
        have FX : Hid (∀ g cap w3, w3.ownsRow mid 3 1 (.slice (some ⟨g, 0, none⟩) ((tl 0 A).length + 1) cap) ((tl 0 A).length + 1) (ints (tl 0 A) ++ [.int .i64 (-(A.length : Int) - 1)]) → (w5.alloc (.cells #[.int .i64 (-(A.length : Int) - 1)] 3)).grownBy w3 (Value.slice pa A.length pc).ownBlock →
            Box5 37 w3 w.heap.size (.int .i64 (N : Int)) (.slice fa LL.length fc) (.slice pa A.length pc) (.int .i64 0) (.int .i64 (k + 1)) ∧ Box5 37 w3 (w.heap.size + 1) (.int .i64 0) (.slice none 0 0) (.slice none 0 0) (.int .i64 0) (.int .i64 0) ∧
            (w3.ownsRow mid 3 1 (.slice (some ⟨g, 0, none⟩) ((tl 0 A).length + 1) cap) (A ++ [0]).length (ints (tl 0 (A ++ [0]))) ∧ OwnS a mid w3 (.slice fa LL.length fc) LL ∧ w.grownBy w3 (Value.slice pa A.length pc).ownBlock)) := by
          intro g cap w3 o3 g3
          have hne : ∀ (cs : Array Value) (t : TypeId) (fz : Nat × Nat) (c : Nat), (w5.alloc (.cells #[.int .i64 (-(A.length : Int) - 1)] 3)).heap[c]? = some (.cells cs t fz) → (3 : Nat) ≠ t → (Value.slice pa A.length pc).ownBlock ≠ some c := fun cs t fz c hcc ht => by
            rcases ks.row_nec (unhide OWN) hcc ht with e | e
            · rw [e]; exact fun z => by cases z
            · exact e
          refine ⟨bA.by g3 (hne _ _ _ _ bA (by decide)), (r5.kept gA).by g3 (hne _ _ _ _ (r5.kept gA) (by decide)), ?_, ?_, ?_⟩
          · rw [tl_snoc, Nat.zero_add, app.ints_append, List.length_append, List.length_singleton]
            rw [tl_len] at o3 ⊢
            exact o3
          · exact (f5.kept gA).outs (css.outs_by (lo := mid) (hi := (w5.alloc (.cells #[.int .i64 (-(A.length : Int) - 1)] 3)).heap.size) g3 (fun k e => (unhide OWN).lt k e)) (.inl (Nat.le_refl _))
          · exact sl.grown_trans' (fr_then l5 gA) g3
        have m2A := bA.c2
        clear HM ho b5 r5 p5 f5 l5 gA hown bA
        go_wp2_with (at_builtin; refine listB (unhide OWN) (unhide NB) (unhide MZ) hM rfl _ _ rfl rfl rfl ?_)
        intro g cap w3 o3 g3 l3
        have ly3 : Lies w (.slice pa A.length pc) (.slice (some ⟨g, 0, none⟩) ((tl 0 A).length + 1) cap) := by
          rcases l3 with q | q
          · exact .inl q.symm
          · exact .inr fun b e => by have e' : g = b := Option.some.inj e; omega
        obtain ⟨b6, r6, o6, f6, l6⟩ := unhide FX g cap w3 o3 g3
        have E := hide (fin (po := .slice pa A.length pc) (p := .slice (some ⟨g, 0, none⟩) ((tl 0 A).length + 1) cap) (m := ⟨A ++ [0], 0, k + 1⟩) (N := N) (r6.setO (d := w.heap.size) (i := 2) (u := .slice (some ⟨g, 0, none⟩) ((tl 0 A).length + 1) cap) (by omega)) (row_set o6 b6 (by decide)) (cf.ownS_set (c := w.heap.size) (i := 2) (u := .slice (some ⟨g, 0, none⟩) ((tl 0 A).length + 1) cap) f6 (by omega)) (fr_set (c := w.heap.size) (i := 2) (u := .slice (some ⟨g, 0, none⟩) ((tl 0 A).length + 1) cap) l6 (Nat.le_refl _)) hmid ly3)
        clear m0 m1 m2 m3 m4 r0 r1 r2 r3 r4 fz0 fz1 fz2 fz3 fz4 n2 n3 m2A ne2
        have m0 := b6.c0
        have m1 := b6.c1
        have m2 := b6.c2
        have m3 := b6.c3
        have m4 := b6.c4
        have r0 := r6.c0
        have r1 := r6.c1
        have r2 := r6.c2
        have r3 := r6.c3
        have r4 := r6.c4
        have fz0 := r6.f 0
        have fz1 := r6.f 1
        have fz2 := r6.f 2
        have fz3 := r6.f 3
        have fz4 := r6.f 4
        have n2 := b6.f 2
        clear b6 r6 o6 f6 l6 o3 g3 l3 ly3 FX OWN NB MZ
        dsimp only at E
        go_wp2_with fail
        (try simp only [Exit.inBlock, Exit.then])
        exact bodyPost_ret (qa.ret_box5 rfl rfl (unhide E).1) rfl (by rw [unhide EM]; exact (unhide E).2)
  · have E := hide (fin (po := .slice pa m.A.length pc) (p := .slice pa m.A.length pc) (N := N) b1 hp0 hf0 bl0 hmid (.inl rfl))
    have EM := hide (show M' = m by rw [← unhide HM]; exact qm.step_stop hmv)
    have hk' : m.st = 0 → ¬ m.k < 1000000000 := fun h1 h2 => hmv ⟨h1, h2⟩
    clear hmv hok hc b0 b1 hf0 hp0 bl0 HM
    obtain ⟨A, st, k⟩ := m
    dsimp only at *
    by_cases hs : st = 0
    · subst hs
      have hk2 : k ≥ 1000000000 := by have := hk' rfl; omega
      clear hk'
      go_wp2_with fail
      (try simp only [Exit.inBlock, Exit.then])
      exact bodyPost_ret (qa.ret_box5 rfl rfl (unhide E).1) rfl (by rw [unhide EM]; exact (unhide E).2)
    · have hs' : (st != 0) = true := by simpa using hs
      clear hk'
      go_wp2_with fail
      (try simp only [Exit.inBlock, Exit.then])
      exact bodyPost_ret (qa.ret_box5 rfl rfl (unhide E).1) rfl (by rw [unhide EM]; exact (unhide E).2)
end Go.Proofs.YtlpgnaedhijdpaaDoor.qi
