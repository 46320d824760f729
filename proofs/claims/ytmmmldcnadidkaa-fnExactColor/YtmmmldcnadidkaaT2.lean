/- The program's builder of clauses: its state in memory, what stays while it is written, add and formula; no condition but on sizes. -/
import Derived.Test.YtmmmldcnadidkaaApp
namespace Go.Proofs.Ytmmmldcnadidkaa.t2
open Go.ChangeShapes Go.WideShapes Go.ChangeAt Go.RowKit
open Go.Proofs.Ytmmmldcnadidkaa.sl (Sl Own ints hide unhide ret_int ret_bool grown_refl grown_trans grown_drewN)
open Go.Proofs.Ytmmmldcnadidkaa.css (Sls OwnS tot Apart own_ne own_ne' own_kind own_mono)
open Go.Proofs.Ytmmmldcnadidkaa.cf (Box)
open Go.Proofs.Ytmmmldcnadidkaa.wo (Made)
open Go.Proofs.Ytmmmldcnadidkaa.app (stepI made_nil)
set_option linter.unusedVariables false

/-- what a row of somebody's own is does not hang on other blocks -/
theorem own_at {w w' : World} {lo n : Nat} {t : TypeId} {z : Nat} {v : Value} {xs : List Value} (h : w.ownsRow lo t z v n xs) (hb : ∀ k, v.ownBlock = some k → w'.heap[k]? = w.heap[k]?) : w'.ownsRow lo t z v n xs := by
  obtain ⟨h1, h2⟩ := h
  refine ⟨h1, ?_⟩
  rcases h2 with h2 | ⟨g, cap, cur, rfl, hg, hh, hr⟩
  · exact .inl h2
  · exact .inr ⟨g, cap, cur, rfl, hg, (hb g rfl).trans hh, hr⟩
theorem box_ne {w : World} {lo n c : Nat} {t t' : TypeId} {v x y : Value} {xs : List Value} (h : w.ownsRow lo t 1 v n xs) (ht : (t' : Nat) ≠ t) (hb : Box t' w c x y) : v.ownBlock ≠ some c := by
  intro e
  obtain ⟨cs, fz, hc⟩ := own_kind h c e
  unfold Box at hb
  rw [hb] at hc
  simp only [Option.some.injEq, Obj.cells.injEq] at hc
  exact ht hc.2.1
theorem set_other {w : World} {c i k : Nat} {u : Value} (h : k ≠ c) : (w.setCell ⟨c, i, none⟩ u).heap[k]? = w.heap[k]? := by
  by_cases hk : k < w.heap.size
  · exact (sl.grown_setCell w c i u).block k hk (fun e => h (Option.some.inj e))
  · have hs : (w.setCell ⟨c, i, none⟩ u).heap.size = w.heap.size := cf.size_set ..
    rw [Array.getElem?_eq_none (xs := w.heap) (by omega), Array.getElem?_eq_none (by omega)]
theorem own_set {w : World} {lo n c i : Nat} {t t' : TypeId} {v x y u : Value} {xs : List Value} (h : w.ownsRow lo t 1 v n xs) (ht : (t' : Nat) ≠ t) (hb : Box t' w c x y) : (w.setCell ⟨c, i, none⟩ u).ownsRow lo t 1 v n xs :=
  own_at h (fun k e => set_other (fun e' => box_ne h ht hb (e'  ▸ e)))
theorem ownS_set {lo hi : Nat} {w : World} {t' : TypeId} {v : Value} {LL : List (List Int)} {c i : Nat} {u x y : Value} (h : OwnS lo hi w v LL) (t1 : (t' : Nat) ≠ 35) (t2 : (t' : Nat) ≠ 3) (hb : Box t' w c x y) : OwnS lo hi (w.setCell ⟨c, i, none⟩ u) v LL := by
  obtain ⟨D, e, ho, hb', hi', hp⟩ := h
  exact ⟨D, e, own_set ho t1 hb, hb', fun p hp => ⟨own_set (hi' p hp).1 t2 hb, (hi' p hp).2⟩, hp⟩
theorem tyB : (42 : Nat) ≠ 35 ∧ (42 : Nat) ≠ 3 := by decide

/-- a builder: its clauses and whether it has refused -/
structure Bld (W0 w : World) (p : Nat) (v : Value) (r : Bool) (CC : List (List Int)) : Prop where
  lo : W0.heap.size ≤ p
  g : W0.grownBy w none
  b : Box 42 w p v (.bool r)
  o : OwnS W0.heap.size w.heap.size w v CC
theorem Bld.kept {W0 w w1 : World} {p : Nat} {v : Value} {r : Bool} {CC : List (List Int)} (h : Bld W0 w p v r CC) (g : w.grownBy w1 none) : Bld W0 w1 p v r CC :=
  ⟨h.lo, grown_trans h.g g, h.b.kept g, (h.o.kept g).sub (Nat.le_refl _) g.size⟩
theorem Bld.new (w : World) : Bld w (w.alloc (.cells #[.slice none 0 0, .bool false] 42)) w.heap.size (.slice none 0 0) false [] :=
  ⟨Nat.le_refl _, World.grownBy_alloc _ _ _, Box.new _ _ _ _, [], rfl, ⟨rfl, .inl ⟨rfl, rfl⟩⟩, (fun k e => by cases e), (fun p hp => by cases hp), .nil⟩
/-- the builder's flag is set -/
theorem Bld.flag {W0 w : World} {p : Nat} {v : Value} {r : Bool} {CC : List (List Int)} (h : Bld W0 w p v r CC) (r' : Bool) : Bld W0 (w.setCell ⟨p, 1, none⟩ (.bool r')) p v r' CC :=
  ⟨h.lo, cf.grown_set h.g h.lo, h.b.set1 _, by rw [cf.size_set]; exact ownS_set h.o tyB.1 tyB.2 h.b⟩

/-- what is written: the builder's variable, its row; a new row is a new block -/
structure Fr (p : Nat) (v v' : Value) (w w' : World) : Prop where
  size : w.heap.size ≤ w'.heap.size
  block : ∀ k, k < w.heap.size → k ≠ p → v.ownBlock ≠ some k → w'.heap[k]? = w.heap[k]?
  own : v'.ownBlock = v.ownBlock ∨ ∃ k, v'.ownBlock = some k ∧ w.heap.size ≤ k
theorem Fr.refl (p : Nat) (v : Value) (w : World) : Fr p v v w w := ⟨Nat.le_refl _, fun _ _ _ _ => rfl, .inl rfl⟩
theorem Fr.trans {p : Nat} {v v' v'' : Value} {w w' w'' : World} (h : Fr p v v' w w') (k : Fr p v' v'' w' w'') : Fr p v v'' w w'' := by
  have s1 := h.size
  have s2 := k.size
  refine ⟨Nat.le_trans s1 s2, fun j hj hp hv => ?_, ?_⟩
  · rw [k.block j (by omega) hp ?_]
    · exact h.block j hj hp hv
    · rcases h.own with e | ⟨q, e, hq⟩
      · rw [e]; exact hv
      · rw [e]; intro e'; cases e'; omega
  · rcases k.own with e | ⟨q, e, hq⟩
    · rw [e]; exact h.own
    · exact .inr ⟨q, e, by omega⟩
theorem Fr.up {p : Nat} {v v' : Value} {w w1 w2 : World} (g : w.grownBy w1 none) (h : Fr p v v' w1 w2) (hv : ∀ k, v.ownBlock = some k → k < w.heap.size) : Fr p v v' w w2 :=
  Fr.trans ⟨g.size, fun k hk _ _ => g.block k hk (fun e => by cases e), .inl rfl⟩ h
theorem Fr.more {p : Nat} {v v' : Value} {w w1 w2 : World} (h : Fr p v v' w w1) (g : w1.grownBy w2 none) : Fr p v v' w w2 :=
  Fr.trans h ⟨g.size, fun k hk _ _ => g.block k hk (fun e => by cases e), .inl rfl⟩
theorem Fr.flag {p : Nat} {v : Value} {w : World} (x : Value) : Fr p v v w (w.setCell ⟨p, 1, none⟩ x) :=
  ⟨by rw [cf.size_set]; exact Nat.le_refl _, fun k _ hp _ => set_other hp, .inl rfl⟩
/-- a list of numbers of somebody's own stays -/
theorem Fr.list {W0 w w' : World} {p lo hi : Nat} {v v' u : Value} {r : Bool} {CC : List (List Int)} {L : List Int} (h : Fr p v v' w w') (b : Bld W0 w p v r CC) (o : Own lo hi w u L) (hh : hi ≤ w.heap.size) : Own lo hi w' u L := by
  refine ⟨own_at o.1 (fun k e => h.block k (by have := o.2 k e; omega) (fun e' => ?_) ?_), o.2⟩
  · subst e'
    exact box_ne o.1 tyB.2 b.b e
  · obtain ⟨D, _, ho, _⟩ := b.o
    exact fun e' => own_ne ho o.1 k e e'

/-- one clause more, where there is room -/
theorem Bld.put {W0 wr w2 w1 : World} {p g cap' : Nat} {v u : Value} {CC : List (List Int)} {L : List Int} (h : Bld W0 wr p v false CC) (g2 : wr.grownBy w2 none)
    (h1 : OwnS W0.heap.size w1.heap.size w1 (.slice (some ⟨g, 0, none⟩) (CC.length + 1) cap') (CC ++ [L])) (g1 : (w2.alloc (.cells #[u] 35)).grownBy w1 v.ownBlock) (hn : v.ownBlock = some g ∨ w2.heap.size ≤ g) :
    (w1.cell? ⟨p, 0, none⟩ = some v ∧ w1.frozen? ⟨p, 0, none⟩ = false ∧ w1.cell? ⟨p, 1, none⟩ = some (.bool false)) ∧ Bld W0 (w1.setCell ⟨p, 0, none⟩ (.slice (some ⟨g, 0, none⟩) (CC.length + 1) cap')) p (.slice (some ⟨g, 0, none⟩) (CC.length + 1) cap') false (CC ++ [L])
      ∧ Fr p v (.slice (some ⟨g, 0, none⟩) (CC.length + 1) cap') wr (w1.setCell ⟨p, 0, none⟩ (.slice (some ⟨g, 0, none⟩) (CC.length + 1) cap')) := by
  have gA := grown_trans (r := none) g2 (World.grownBy_alloc w2 (.cells #[u] 35) none)
  have hA := h.kept gA
  have hs := g1.size
  simp only [World.size_alloc] at hs
  have hs2 := g2.size
  obtain ⟨D, e, hw, hbb, hin, hp⟩ := hA.o
  have nb : v.ownBlock ≠ some p := box_ne hw tyB.1 hA.b
  have hb1 := hA.b.by g1 nb
  have hg1 : W0.grownBy w1 none := ⟨g1.os.trans hA.g.os, g1.tape.trans hA.g.tape, g1.output.trans hA.g.output, Nat.le_trans hA.g.size g1.size, fun k hk _ => by
    rw [g1.block k (Nat.lt_of_lt_of_le hk hA.g.size) (fun e => by have := (hw.lt k e.symm).1; omega)]
    exact hA.g.block k hk (fun e => by cases e)⟩
  refine ⟨⟨hb1.c0, hb1.f 0, hb1.c1⟩, ⟨h.lo, cf.grown_set hg1 h.lo, hb1.set0 _, ?_⟩, ?_, ?_, ?_⟩
  · rw [cf.size_set]
    exact ownS_set h1 tyB.1 tyB.2 hb1
  · rw [cf.size_set]; omega
  · intro k hk hkp hkv
    rw [set_other hkp, g1.block k (by rw [World.size_alloc]; omega) (fun e => hkv e.symm)]
    exact gA.block k hk (fun e => by cases e)
  · rcases hn with e | e
    · exact .inl e.symm
    · exact .inr ⟨g, rfl, by omega⟩
/-- 'append(clauses, c)', a step of a region that draws its order; where the row lies then -/
theorem stepN {ops : Array Oper} {o : Oper} {a : Act} {K : Act → World → Prop} {Q : Exit → Act → World → Prop} {E : Prop} {lo mid : Nat} {wr : World} {v u : Value} {M : List (List Int)} {L : List Int}
    (h : OwnS lo mid wr v M) (hu : Own mid wr.heap.size wr u L) (hlo : lo ≤ mid) (hmid : mid ≤ wr.heap.size) (hM : M.length ≤ 1048576) (hgd : o.guard = none) (s x : Operand)
    (ho : o.op = .call { callee := .builtin .append, args := #[s, x], argTypes := #[24, 24] }) (hs : a.eval s = v) (hx : a.eval x = .slice (some ⟨wr.heap.size, 0, none⟩) 1 1)
    (hK : ∀ g cap w1, OwnS lo w1.heap.size w1 (.slice (some ⟨g, 0, none⟩) (M.length + 1) cap) (M ++ [L]) → (wr.alloc (.cells #[u] 35)).grownBy w1 v.ownBlock → (v.ownBlock = some g ∨ wr.heap.size ≤ g) → K (a.put o.dst (.slice (some ⟨g, 0, none⟩) (M.length + 1) cap)) w1) :
    if Region.wanted o (yielded ops a.tmps) = true then Oper.wp Try.prog o a (wr.alloc (.cells #[u] 35)) K Q else E := by
  obtain ⟨i0, hi, hz0, hz1, hz2⟩ := info_parts css.infoSl
  obtain ⟨D, rfl, hw, hb, hin, hp⟩ := h
  rw [List.length_map] at *
  refine step_append_lies _ hgd s x 24 ho lo 35 i0 (.slice none 0 0) 1 24 Try.underlying24 hi hz0 hz1 hz2 rfl (by decide) v D.length (D.map (·.1)) hs (hw.alloc _) ⟨wr.heap.size, 0, none⟩ 1 1 [u] hx rfl ?_ ?_ (by decide) ?_ ?_ ?_ (wr.heap.size + 1) (World.size_alloc ..) ?_
  · intro j y hj
    match j, hj with
    | 0, hj => simp at hj; subst hj; simp [Addr.add]
  · intro y hy
    simp at hy
    subst hy
    exact gr.own_one hu
  · unfold maxLen; omega
  · omega
  · simp; omega
  · intro g cap w1 h1 hg hn _
    exact hK g cap w1 (gr.grow hw hin hp hu hlo hmid h1 hg) hg (by rcases hn with e | e; exact .inl e; exact .inr (by omega))

/-- what a builder is behind one clause more -/
def addR (r : Bool) (CC : List (List Int)) : Bool := r || decide (CC.length = 120)
def addC (r : Bool) (CC : List (List Int)) (C : List Int) : List (List Int) := if addR r CC then CC else CC ++ [C]
def AddE (W0 : World) (p : Nat) (v : Value) (r : Bool) (CC : List (List Int)) (C : List Int) (w : World) (e : Ending) (w' : World) : Prop :=
  e = .returned (.bool (!addR r CC)) ∧ ∃ v', Bld W0 w' p v' (addR r CC) (addC r CC C) ∧ Fr p v v' w w'

set_option maxRecDepth 10000 in
set_option maxHeartbeats 4000000 in
theorem add (p : Nat) (v u : Value) (r : Bool) (CC : List (List Int)) (C : List Int) (lo hi : Nat) (W0 w : World) (hC : C.length ≤ 1048576) (hL : CC.length ≤ 120) (hb : Bld W0 w p v r CC) (hu : Own lo hi w u C) :
    Calls Try.prog 31 #[.pointer (some ⟨p, 0, none⟩), u] w fun e w' => AddE W0 p v r CC C w e w' := by
  obtain ⟨a, cap, rfl⟩ := hb.o.len
  have c0 := hb.b.c0
  have c1 := hb.b.c1
  have f1 := hb.b.f 1
  have HB := hide hb
  cases r
  · by_cases hl : CC.length = 120
    · have e1 : addR false CC = true := by simp [addR, hl]
      have e2 : addC false CC C = CC := by simp [addC, e1]
      have R := hide (And.intro e1 e2)
      have hl' : ((CC.length : Int) == 120) = true := by simp; omega
      clear hb hu e1 e2 hl
      go_enter Try.func31, Try.ntmps31
      go_wp2
      go_ret
      refine ⟨ret_bool (by rw [(unhide R).1]; rfl), _, ?_, Fr.flag _⟩
      rw [(unhide R).1, (unhide R).2]
      exact (unhide HB).flag true
    · have e1 : addR false CC = false := by simp [addR, hl]
      have e2 : addC false CC C = CC ++ [C] := by simp [addC, e1]
      have R := hide (And.intro e1 e2)
      have hl' : ((CC.length : Int) == 120) = false := by simp; omega
      obtain ⟨W1, hW1⟩ : ∃ W1, W1 = w.setCell ⟨p, 1, none⟩ (.bool false) := ⟨_, rfl⟩
      have B1 : Bld W0 W1 p (.slice a CC.length cap) false CC := by rw [hW1]; exact hb.flag false
      have F1 : Fr p (.slice a CC.length cap) (.slice a CC.length cap) w W1 := by rw [hW1]; exact Fr.flag _
      obtain ⟨ua, uc, rfl, _⟩ := hu.sl
      have U1 : Own lo hi W1 (.slice ua C.length uc) C := by
        rw [hW1]
        exact ⟨own_set hu.1 tyB.2 hb.b, hu.2⟩
      have mn := made_nil W1
      have U0 := hide ((U1.kept mn.2).kept (cf.grown_drew _ none))
      have MN := hide (And.intro (mn.1.drew) (grown_trans (r := none) mn.2 (cf.grown_drew _ none)))
      have k0 := B1.b.c0
      have k01 := B1.b.c1
      have kf0 := B1.b.f 0
      have k1 := (B1.b.kept mn.2).c0
      have Q := hide B1
      have F1' := hide F1
      have hM : CC.length ≤ 1048576 := by omega
      clear hb hu e1 e2 hl B1 F1 U1 mn hL
      go_enter Try.func31, Try.ntmps31
      go_upto_region 3 with fail
      rw [← hW1]
      clear hW1 c0 c1 f1 HB hl'
      go_wp2_with fail
      go_region_law
        (first
          | (refine stepI (A := []) (unhide MN).2 (unhide MN).1 (unhide U0) (by show 0 + C.length ≤ 4194304; omega) (by rfl) _ _ (by rfl) (by rfl) (by rfl) ?_; intro y w1 m1 g1; have m1' : Made W1 w1 y C := m1; obtain ⟨ya, yc, e3, _⟩ := sl.Sl.of_own m1'.1; subst e3; have Y1 := hide (Own.of m1'.1); have G1 := hide m1'.2; have k1 := ((unhide Q).b.kept (unhide G1)).c0; have k2 := ((unhide Q).b.kept (unhide G1)).f 0; have k9 := (((unhide Q).b.kept (unhide G1)).kept (World.grownBy_alloc w1 (.cells #[.slice ya C.length yc] 35) none)).c0; clear m1 m1' g1)
          | (refine stepN ((unhide Q).o.kept (unhide G1)) (unhide Y1) (unhide Q).g.size (unhide G1).size hM (by rfl) _ _ (by rfl) (by rfl) (by rfl) ?_; intro g3 cap3 w3 h3 g3' n3; have R3 := hide ((unhide Q).put (unhide G1) h3 g3' n3); have k3 := (unhide R3).1.1; have k4 := (unhide R3).1.2.1; have k5 := (unhide R3).1.2.2; clear h3 g3' n3))
      all_goals
        go_wp2_with fail
        go_ret
        refine ⟨ret_bool (by rw [(unhide R).1]; rfl), _, ?_, (unhide F1').trans (unhide R3).2.2⟩
        rw [(unhide R).1, (unhide R).2]
        exact (unhide R3).2.1
  · have e1 : addR true CC = true := by simp [addR]
    have e2 : addC true CC C = CC := by simp [addC, e1]
    have R := hide (And.intro e1 e2)
    clear hb hu e1 e2
    go_enter Try.func31, Try.ntmps31
    go_wp2
    go_ret
    refine ⟨ret_bool (by rw [(unhide R).1]; rfl), _, ?_, Fr.flag _⟩
    rw [(unhide R).1, (unhide R).2]
    exact (unhide HB).flag true
end Go.Proofs.Ytmmmldcnadidkaa.t2
