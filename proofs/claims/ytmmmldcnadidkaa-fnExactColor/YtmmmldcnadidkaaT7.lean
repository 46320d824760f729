/- AndGate: what the program and its model answer at any number and any list of at most 2^20 numbers. -/
import Derived.Test.YtmmmldcnadidkaaT6
namespace Go.Proofs.Ytmmmldcnadidkaa.t2
open Go.ChangeShapes Go.WideShapes Go.ChangeAt Go.RowKit
open Go.Proofs.Ytmmmldcnadidkaa.lits (okB okB_iff)
open Go.Proofs.Ytmmmldcnadidkaa.sl (Sl Own ints hide unhide ret_int ret_bool grown_refl grown_trans grown_drewN)
open Go.Proofs.Ytmmmldcnadidkaa.css (Sls OwnS tot Apart own_ne own_ne' own_kind own_mono)
open Go.Proofs.Ytmmmldcnadidkaa.cf (Box)
open Go.Proofs.Ytmmmldcnadidkaa.wo (Made)
open Go.Proofs.Ytmmmldcnadidkaa.sp (negL)
set_option linter.unusedVariables false

theorem neg_ok {x : Int} (h : okB x = true) : wrap64 (-x) = -x := by
  have := ok_bd h
  unfold wrap64
  omega
theorem list_ok {L : List Int} (h : listB L = true) : L.length ≤ 24 ∧ ∀ y ∈ L, okB y = true := by
  simp only [listB, Bool.and_eq_true, decide_eq_true_eq, List.all_eq_true] at h
  exact h
theorem andC_len (a x : Int) (L : List Int) : (andC a x L).length = L.length + 1 := by simp [andC, andP]
/-- clauses and one list more, each in memory of its own -/
structure Two (w wr : World) (v u : Value) (D : List (Value × List Int)) (N : List Int) : Prop where
  g : w.grownBy wr none
  o : wr.ownsRow w.heap.size 35 1 v D.length (D.map (·.1))
  i : ∀ p ∈ D, Own w.heap.size wr.heap.size wr p.1 p.2
  p : D.Pairwise Apart
  l : Own w.heap.size wr.heap.size wr u N
  a : ∀ q ∈ D, Apart q (u, N)
theorem Two.kept {w wr w1 : World} {v u : Value} {D : List (Value × List Int)} {N : List Int} (h : Two w wr v u D N) (g : wr.grownBy w1 none) : Two w w1 v u D N :=
  ⟨grown_trans h.g g, own_at h.o (fun k e => g.block k ((h.o.lt k e).2) (fun e => by cases e)), fun p hp => css.own_sub ((h.i p hp).kept g) (Nat.le_refl _) g.size, h.p, css.own_sub (h.l.kept g) (Nat.le_refl _) g.size, h.a⟩
/-- 'append(out, c)', c laid ahead -/
theorem appendD {ops : Array Oper} {rest : List Oper} {o : Oper} {a : Act} {Q : Exit → Act → World → Prop} {wr : World} {lo : Nat} {v u : Value} {D : List (Value × List Int)}
    (hw : wr.ownsRow lo 35 1 v D.length (D.map (·.1))) (hu : u.oneCell' = true) (hlo : lo ≤ wr.heap.size) (hM : D.length ≤ 1048576) (hgd : o.guard = none) (s x : Operand)
    (ho : o.op = .call { callee := .builtin .append, args := #[s, x], argTypes := #[24, 24] }) (hs : a.eval s = v) (hx : a.eval x = .slice (some ⟨wr.heap.size, 0, none⟩) 1 1)
    (hK : ∀ g cap w1, w1.ownsRow lo 35 1 (.slice (some ⟨g, 0, none⟩) (D.length + 1) cap) (D.length + 1) (D.map (·.1) ++ [u]) → (wr.alloc (.cells #[u] 35)).grownBy w1 v.ownBlock → wpList Try.prog ops Q rest (a.put o.dst (.slice (some ⟨g, 0, none⟩) (D.length + 1) cap)) w1) :
    wpList Try.prog ops Q (o :: rest) a (wr.alloc (.cells #[u] 35)) := by
  obtain ⟨i0, hi, hz0, hz1, hz2⟩ := info_parts css.infoSl
  refine wpList_append_lies _ hgd s x 24 ho lo 35 i0 (.slice none 0 0) 1 24 Try.underlying24 hi hz0 hz1 hz2 rfl (by decide) v D.length (D.map (·.1)) hs (hw.alloc _) ⟨wr.heap.size, 0, none⟩ 1 1 [u] hx rfl ?_ ?_ (by decide) ?_ ?_ ?_ (wr.heap.size + 1) (World.size_alloc ..) ?_
  · intro j y hj
    match j, hj with
    | 0, hj => simp at hj; subst hj; simp [Addr.add]
  · intro y hy
    simp at hy
    subst hy
    exact hu
  · unfold maxLen; omega
  · omega
  · simp; omega
  · intro g cap w1 h1 hg _ _
    exact hK g cap w1 h1 hg
/-- 'append(last, y)' -/
theorem appendL {ops : Array Oper} {rest : List Oper} {o : Oper} {a : Act} {Q : Exit → Act → World → Prop} {wr : World} {lo : Nat} {v : Value} {N : List Int} {y : Int}
    (hw : wr.ownsRow lo 3 1 v N.length (ints N)) (hlo : lo ≤ wr.heap.size) (hM : N.length ≤ 1048576) (hgd : o.guard = none) (s x : Operand)
    (ho : o.op = .call { callee := .builtin .append, args := #[s, x], argTypes := #[35, 35] }) (hs : a.eval s = v) (hx : a.eval x = .slice (some ⟨wr.heap.size, 0, none⟩) 1 1)
    (hK : ∀ g cap w1, w1.ownsRow lo 3 1 (.slice (some ⟨g, 0, none⟩) (N.length + 1) cap) (N.length + 1) (ints (N ++ [y])) → (wr.alloc (.cells #[.int .i64 y] 3)).grownBy w1 v.ownBlock → (v.ownBlock = some g ∨ g = wr.heap.size + 1) → wpList Try.prog ops Q rest (a.put o.dst (.slice (some ⟨g, 0, none⟩) (N.length + 1) cap)) w1) :
    wpList Try.prog ops Q (o :: rest) a (wr.alloc (.cells #[.int .i64 y] 3)) := by
  obtain ⟨i0, hi, hz0, hz1, hz2⟩ := info_parts sl.info3
  refine wpList_append_lies _ hgd s x 35 ho lo 3 i0 (.int .i64 0) 1 8 Try.underlying35 hi hz0 hz1 hz2 rfl (by decide) v N.length (ints N) hs (hw.alloc _) ⟨wr.heap.size, 0, none⟩ 1 1 [.int .i64 y] hx rfl ?_ ?_ (by decide) ?_ ?_ ?_ (wr.heap.size + 1) (World.size_alloc ..) ?_
  · intro j z hj
    match j, hj with
    | 0, hj => simp at hj; subst hj; simp [Addr.add]
  · intro z hz
    simp at hz
    subst hz
    rfl
  · unfold maxLen; omega
  · omega
  · simp; omega
  · intro g cap w1 h1 hg hn _
    exact hK g cap w1 (by rw [app.ints_append]; exact h1) hg hn

theorem by_refl {w w1 : World} {r : Option Nat} {k : Nat} (g : w.grownBy w1 r) (hk : k < w.heap.size) (h : r ≠ some k) : w1.heap[k]? = w.heap[k]? := g.block k hk (fun e => h e.symm)
/-- one clause more -/
theorem Two.clause {w wr w1 : World} {v u q : Value} {D : List (Value × List Int)} {N C : List Int} {g cap : Nat} {o : Obj} (h : Two w wr v u D N) (hq : Own wr.heap.size (wr.heap.size + 1) (wr.alloc o) q C)
    (h1 : w1.ownsRow w.heap.size 35 1 (.slice (some ⟨g, 0, none⟩) (D.length + 1) cap) (D.length + 1) (D.map (·.1) ++ [q])) (g1 : ((wr.alloc o).alloc (.cells #[q] 35)).grownBy w1 v.ownBlock) :
    Two w w1 (.slice (some ⟨g, 0, none⟩) (D.length + 1) cap) u (D ++ [(q, C)]) N := by
  have gA := grown_trans (r := none) (World.grownBy_alloc wr o none) (World.grownBy_alloc (wr.alloc o) (.cells #[q] 35) none)
  have hA := h.kept gA
  have hq' := hq.kept (World.grownBy_alloc (wr.alloc o) (.cells #[q] 35) none)
  have s1 := g1.size
  have sA : ((wr.alloc o).alloc (.cells #[q] 35)).heap.size = wr.heap.size + 1 + 1 := by simp only [World.size_alloc]
  have sg := hA.g.size
  have sr := h.g.size
  have kp : ∀ (p : Value) (M : List Int) (lo hi : Nat), Own lo hi ((wr.alloc o).alloc (.cells #[q] 35)) p M → hi ≤ wr.heap.size + 2 → Own lo hi w1 p M := fun p M lo hi hp hh => ⟨own_at hp.1 (fun k e => by_refl g1 (by have := hp.2 k e; omega) (fun e' => own_ne hA.o hp.1 k e e')), hp.2⟩
  refine ⟨?_, ?_, ?_, ?_, ?_, ?_⟩
  · exact ⟨g1.os.trans hA.g.os, g1.tape.trans hA.g.tape, g1.output.trans hA.g.output, Nat.le_trans sg s1, fun k hk _ => by
      rw [by_refl g1 (by omega) (fun e => by have := (hA.o.lt k e).1; omega)]
      exact hA.g.block k hk (fun e => by cases e)⟩
  · rw [List.length_append, List.map_append]
    exact h1
  · intro p hp
    rw [List.mem_append, List.mem_singleton] at hp
    rcases hp with hp | rfl
    · exact css.own_sub (kp _ _ _ _ (hA.i p hp) (by omega)) (Nat.le_refl _) s1
    · exact css.own_sub (kp _ _ _ _ hq' (by omega)) (by omega) (by omega)
  · rw [List.pairwise_append]
    refine ⟨h.p, List.pairwise_singleton _ _, fun a ha b hb => ?_⟩
    rw [List.mem_singleton] at hb
    subst hb
    intro k e e'
    have := (h.i a ha).2 k e
    have := (hq.1.lt k e').1
    omega
  · exact css.own_sub (kp _ _ _ _ hA.l (by omega)) (Nat.le_refl _) s1
  · intro p hp
    rw [List.mem_append, List.mem_singleton] at hp
    rcases hp with hp | rfl
    · exact h.a p hp
    · intro k e e'
      have := h.l.2 k e'
      have := (hq.1.lt k e).1
      omega
/-- one number more -/
theorem Two.num {w wr w1 : World} {v u : Value} {D : List (Value × List Int)} {N : List Int} {y : Int} {g cap : Nat} {o : Obj} (h : Two w wr v u D N)
    (h1 : w1.ownsRow w.heap.size 3 1 (.slice (some ⟨g, 0, none⟩) (N.length + 1) cap) (N.length + 1) (ints (N ++ [y]))) (g1 : (wr.alloc o).grownBy w1 u.ownBlock) (hn : u.ownBlock = some g ∨ g = wr.heap.size + 1) :
    Two w w1 v (.slice (some ⟨g, 0, none⟩) (N.length + 1) cap) D (N ++ [y]) := by
  have gA := World.grownBy_alloc wr o none
  have hA := h.kept gA
  have s1 := g1.size
  have sA : (wr.alloc o).heap.size = wr.heap.size + 1 := by simp only [World.size_alloc]
  have sg := hA.g.size
  have ap : ∀ q ∈ D, Apart q ((.slice (some ⟨g, 0, none⟩) (N.length + 1) cap : Value), N ++ [y]) := by
    intro q hq k e e'
    cases e'
    rcases hn with e2 | e2
    · exact h.a q hq g e e2
    · have := (h.i q hq).2 g e
      omega
  refine ⟨?_, ?_, ?_, h.p, ?_, ap⟩
  · exact ⟨g1.os.trans hA.g.os, g1.tape.trans hA.g.tape, g1.output.trans hA.g.output, Nat.le_trans sg s1, fun k hk _ => by
      rw [by_refl g1 (by omega) (fun e => by have := (hA.l.1.lt k e).1; omega)]
      exact hA.g.block k hk (fun e => by cases e)⟩
  · exact own_at hA.o (fun k e => by_refl g1 ((hA.o.lt k e).2) (fun e' => own_ne hA.o hA.l.1 k e' e))
  · intro p hp
    exact css.own_sub ⟨own_at (hA.i p hp).1 (fun k e => by_refl g1 ((hA.i p hp).2 k e) (fun e' => h.a p hp k e e')), (hA.i p hp).2⟩ (Nat.le_refl _) s1
  · refine ⟨?_, fun k e => (h1.lt k e).2⟩
    rw [List.length_append]
    exact h1
theorem Two.form {w wr : World} {v u : Value} {D : List (Value × List Int)} {N : List Int} (h : Two w wr v u D N) : (∃ a c, v = .slice a D.length c) ∧ ∃ a c, u = .slice a N.length c := by
  constructor
  · rcases h.o.2 with ⟨e, e0⟩ | ⟨g, cap, cur, e, _⟩
    · exact ⟨none, 0, by rw [e0]; exact e⟩
    · exact ⟨_, _, e⟩
  · obtain ⟨a, c, e, _⟩ := h.l.sl
    exact ⟨a, c, e⟩
theorem Two.done {w wr w1 : World} {v u : Value} {D : List (Value × List Int)} {N : List Int} {g cap : Nat} (h : Two w wr v u D N)
    (h1 : w1.ownsRow w.heap.size 35 1 (.slice (some ⟨g, 0, none⟩) (D.length + 1) cap) (D.length + 1) (D.map (·.1) ++ [u])) (g1 : (wr.alloc (.cells #[u] 35)).grownBy w1 v.ownBlock) :
    OwnS w.heap.size w1.heap.size w1 (.slice (some ⟨g, 0, none⟩) (D.length + 1) cap) (D.map (·.2) ++ [N]) ∧ w.grownBy w1 none := by
  have gA := World.grownBy_alloc wr (.cells #[u] 35) none
  have hA := h.kept gA
  have s1 := g1.size
  have sA : (wr.alloc (.cells #[u] 35)).heap.size = wr.heap.size + 1 := by simp only [World.size_alloc]
  have sg := hA.g.size
  have kp : ∀ (p : Value) (M : List Int) (lo hi : Nat), Own lo hi (wr.alloc (.cells #[u] 35)) p M → hi ≤ wr.heap.size + 1 → Own lo hi w1 p M := fun p M lo hi hp hh => ⟨own_at hp.1 (fun k e => by_refl g1 (by have := hp.2 k e; omega) (fun e' => own_ne hA.o hp.1 k e e')), hp.2⟩
  refine ⟨⟨D ++ [(u, N)], by simp, ?_, fun k e => (h1.lt k e).2, ?_, ?_⟩, ?_⟩
  · rw [List.length_append, List.map_append]
    exact h1
  · intro p hp
    rw [List.mem_append, List.mem_singleton] at hp
    rcases hp with hp | rfl
    · exact css.own_sub (kp _ _ _ _ (hA.i p hp) (by omega)) (Nat.le_refl _) s1
    · exact css.own_sub (kp _ _ _ _ hA.l (by omega)) (Nat.le_refl _) s1
  · rw [List.pairwise_append]
    refine ⟨h.p, List.pairwise_singleton _ _, fun a ha b hb => ?_⟩
    rw [List.mem_singleton] at hb
    subst hb
    exact h.a a ha
  · exact ⟨g1.os.trans hA.g.os, g1.tape.trans hA.g.tape, g1.output.trans hA.g.output, Nat.le_trans sg s1, fun k hk _ => by
      rw [by_refl g1 (by omega) (fun e => by have := (hA.o.lt k e).1; omega)]
      exact hA.g.block k hk (fun e => by cases e)⟩
theorem Two.start (w : World) (x : Int) : Two w ((w.alloc (.cells #[] 35)).alloc (.cells #[.int .i64 x] 3)) (.slice (some ⟨w.heap.size, 0, none⟩) 0 0) (.slice (some ⟨w.heap.size + 1, 0, none⟩) 1 1) [] [x] := by
  have g0 := World.grownBy_alloc w (.cells #[] 35) none
  have g1 := World.grownBy_alloc (w.alloc (.cells #[] 35)) (.cells #[.int .i64 x] 3) none
  have o1 := own_litN (w.alloc (.cells #[] 35)) 1 [x] #[.int .i64 x] rfl rfl (by decide)
  have s1 : ((w.alloc (.cells #[] 35)).alloc (.cells #[.int .i64 x] 3)).heap.size = w.heap.size + 1 + 1 := by simp only [World.size_alloc]
  rw [World.size_alloc] at o1
  refine ⟨grown_trans g0 g1, ?_, (fun p hp => by cases hp), .nil, css.own_sub o1 (by omega) (by omega), (fun p hp => by cases hp)⟩
  exact own_at (World.ownsRow_lit w #[] 0 (Nat.le_refl _) (Nat.zero_le _) rfl) (fun k e => g1.block k (by cases e; rw [World.size_alloc]; exact Nat.lt_succ_self _) (fun e => by cases e))
def AndS (w wr : World) (v u : Value) (M : List (List Int)) (N : List Int) : Prop := ∃ D : List (Value × List Int), D.map (·.2) = M ∧ Two w wr v u D N
theorem neg_step (L : List Int) (k : Nat) (h : k < L.length) : negL (L.take (k + 1)) = negL (L.take k) ++ [-(L.getD k 0)] := sp.neg_snoc L k h
end Go.Proofs.Ytmmmldcnadidkaa.t2
