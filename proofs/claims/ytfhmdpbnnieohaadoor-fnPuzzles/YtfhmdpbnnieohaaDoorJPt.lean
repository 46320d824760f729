/- The program's builder of clauses: its state in memory, what stays while it is written, add and formula; no condition but on sizes. -/
import Derived.Test.YtfhmdpbnnieohaaDoorJPn
import Derived.Test.YtfhmdpbnnieohaaDoorJPs
import Derived.Test.YtfhmdpbnnieohaaDoorJXNs
import Derived.Deep.RegionLaw
import Derived.Test.YtfhmdpbnnieohaaDoorJXGd
import Derived.Laws.EntriesVeiled
namespace Go.Proofs.YtfhmdpbnnieohaaDoor.t2
open Go.ChangeShapes Go.WideShapes Go.ChangeAt Go.RowKit
open sl (Sl Own ints hide unhide ret_int ret_bool grown_refl grown_trans grown_drewN)
open css (Sls OwnS tot Apart own_ne own_ne' own_kind own_mono)
open cf (Box)
open wo (Made)
open app (stepI made_nil)
set_option linter.unusedVariables false
theorem own_at {w w' : World} {lo n : Nat} {t : TypeId} {z : Nat} {v : Value} {xs : List Value} (h : w.ownsRow lo t z v n xs) (hb : ∀ k, v.ownBlock = some k → w'.heap[k]? = w.heap[k]?) : w'.ownsRow lo t z v n xs := by
 obtain ⟨h1, h2⟩ := h
 refine ⟨h1, ?_⟩
 rcases h2 with h2 | ⟨g, cap, cur, rfl, hg, hh, hr⟩
 ·exact .inl h2
 ·exact .inr ⟨g, cap, cur, rfl, hg, (hb g rfl).trans hh, hr⟩
theorem box_ne {w : World} {lo n c : Nat} {t t' : TypeId} {v x y : Value} {xs : List Value} (h : w.ownsRow lo t 1 v n xs) (ht : (t' : Nat) ≠ t) (hb : Box t' w c x y) : v.ownBlock ≠ some c := by
 intro e
 obtain ⟨cs, fz, hc⟩ := own_kind h c e
 unfold Box at hb
 rw [hb] at hc
 simp only [Option.some.injEq, Obj.cells.injEq] at hc
 exact ht hc.2.1
theorem set_other {w : World} {c i k : Nat} {u : Value} (h : k ≠ c) : (w.setCell ⟨c, i, none⟩ u).heap[k]? = w.heap[k]? := by
 by_cases hk : k < w.heap.size
 ·exact (sl.grown_setCell w c i u).block k hk (fun e => h (Option.some.inj e))
 ·have hs : (w.setCell ⟨c, i, none⟩ u).heap.size = w.heap.size := cf.size_set ..
  rw [Array.getElem?_eq_none (xs := w.heap) (by omega), Array.getElem?_eq_none (by omega)]
theorem own_set {w : World} {lo n c i : Nat} {t t' : TypeId} {v x y u : Value} {xs : List Value} (h : w.ownsRow lo t 1 v n xs) (ht : (t' : Nat) ≠ t) (hb : Box t' w c x y) : (w.setCell ⟨c, i, none⟩ u).ownsRow lo t 1 v n xs :=
 own_at h (fun k e => set_other (fun e' => box_ne h ht hb (e'  ▸ e)))
theorem ownS_set {lo hi : Nat} {w : World} {t' : TypeId} {v : Value} {LL : List (List Int)} {c i : Nat} {u x y : Value} (h : OwnS lo hi w v LL) (t1 : (t' : Nat) ≠ 30) (t2 : (t' : Nat) ≠ 3) (hb : Box t' w c x y) : OwnS lo hi (w.setCell ⟨c, i, none⟩ u) v LL := by
 obtain ⟨D, e, ho, hb', hi', hp⟩ := h
 exact ⟨D, e, own_set ho t1 hb, hb', fun p hp => ⟨own_set (hi' p hp).1 t2 hb, (hi' p hp).2⟩, hp⟩
theorem tyB : (44 : Nat) ≠ 30 ∧ (44 : Nat) ≠ 3 := by decide
structure Bld (W0 w : World) (p : Nat) (v : Value) (r : Bool) (CC : List (List Int)) : Prop where
 lo : W0.heap.size ≤ p
 g : W0.grownBy w none
 b : Box 44 w p v (.bool r)
 o : OwnS W0.heap.size w.heap.size w v CC
theorem Bld.kept {W0 w w1 : World} {p : Nat} {v : Value} {r : Bool} {CC : List (List Int)} (h : Bld W0 w p v r CC) (g : w.grownBy w1 none) : Bld W0 w1 p v r CC :=
 ⟨h.lo, grown_trans h.g g, h.b.kept g, (h.o.kept g).sub (Nat.le_refl _) g.size⟩
theorem Bld.new (w : World) : Bld w (w.alloc (.cells #[.slice none 0 0, .bool false] 44)) w.heap.size (.slice none 0 0) false [] :=
 ⟨Nat.le_refl _, World.grownBy_alloc _ _ _, Box.new _ _ _ _, [], rfl, ⟨rfl, .inl ⟨rfl, rfl⟩⟩, (fun k e => by cases e), (fun p hp => by cases hp), .nil⟩
theorem Bld.flag {W0 w : World} {p : Nat} {v : Value} {r : Bool} {CC : List (List Int)} (h : Bld W0 w p v r CC) (r' : Bool) : Bld W0 (w.setCell ⟨p, 1, none⟩ (.bool r')) p v r' CC :=
 ⟨h.lo, cf.grown_set h.g h.lo, h.b.set1 _, by rw [cf.size_set]; exact ownS_set h.o tyB.1 tyB.2 h.b⟩
structure Fr (p : Nat) (v v' : Value) (w w' : World) : Prop where
 size : w.heap.size ≤ w'.heap.size
 block : ∀ k, k < w.heap.size → k ≠ p → v.ownBlock ≠ some k → w'.heap[k]? = w.heap[k]?
 own : v'.ownBlock = v.ownBlock ∨ ∃ k, v'.ownBlock = some k ∧ w.heap.size ≤ k
theorem Fr.refl (p : Nat) (v : Value) (w : World) : Fr p v v w w := ⟨Nat.le_refl _, fun _ _ _ _ => rfl, .inl rfl⟩
theorem Fr.trans {p : Nat} {v v' v'' : Value} {w w' w'' : World} (h : Fr p v v' w w') (k : Fr p v' v'' w' w'') : Fr p v v'' w w'' := by
 have s1 := h.size
 have s2 := k.size
 refine ⟨Nat.le_trans s1 s2, fun j hj hp hv => ?_, ?_⟩
 ·rw [k.block j (by omega) hp ?_]
  ·exact h.block j hj hp hv
  ·rcases h.own with e | ⟨q, e, hq⟩
   ·rw [e]; exact hv
   ·rw [e]; intro e'; cases e'; omega
 ·rcases k.own with e | ⟨q, e, hq⟩
  ·rw [e]; exact h.own
  ·exact .inr ⟨q, e, by omega⟩
theorem Fr.up {p : Nat} {v v' : Value} {w w1 w2 : World} (g : w.grownBy w1 none) (h : Fr p v v' w1 w2) (hv : ∀ k, v.ownBlock = some k → k < w.heap.size) : Fr p v v' w w2 :=
 Fr.trans ⟨g.size, fun k hk _ _ => g.block k hk (fun e => by cases e), .inl rfl⟩ h
theorem Fr.more {p : Nat} {v v' : Value} {w w1 w2 : World} (h : Fr p v v' w w1) (g : w1.grownBy w2 none) : Fr p v v' w w2 :=
 Fr.trans h ⟨g.size, fun k hk _ _ => g.block k hk (fun e => by cases e), .inl rfl⟩
theorem Fr.flag {p : Nat} {v : Value} {w : World} (x : Value) : Fr p v v w (w.setCell ⟨p, 1, none⟩ x) :=
 ⟨by rw [cf.size_set]; exact Nat.le_refl _, fun k _ hp _ => set_other hp, .inl rfl⟩
theorem Fr.list {W0 w w' : World} {p lo hi : Nat} {v v' u : Value} {r : Bool} {CC : List (List Int)} {L : List Int} (h : Fr p v v' w w') (b : Bld W0 w p v r CC) (o : Own lo hi w u L) (hh : hi ≤ w.heap.size) : Own lo hi w' u L := by
 refine ⟨own_at o.1 (fun k e => h.block k (by have := o.2 k e; omega) (fun e' => ?_) ?_), o.2⟩
 ·subst e'
  exact box_ne o.1 tyB.2 b.b e
 ·obtain ⟨D, _, ho, _⟩ := b.o
  exact fun e' => own_ne ho o.1 k e e'
theorem Bld.put {W0 wr w2 w1 : World} {p g cap' : Nat} {v u : Value} {CC : List (List Int)} {L : List Int} (h : Bld W0 wr p v false CC) (g2 : wr.grownBy w2 none)
  (h1 : OwnS W0.heap.size w1.heap.size w1 (.slice (some ⟨g, 0, none⟩) (CC.length + 1) cap') (CC ++ [L])) (g1 : (w2.alloc (.cells #[u] 30)).grownBy w1 v.ownBlock) (hn : v.ownBlock = some g ∨ w2.heap.size ≤ g) :
  (w1.cell? ⟨p, 0, none⟩ = some v ∧ w1.frozen? ⟨p, 0, none⟩ = false ∧ w1.cell? ⟨p, 1, none⟩ = some (.bool false)) ∧ Bld W0 (w1.setCell ⟨p, 0, none⟩ (.slice (some ⟨g, 0, none⟩) (CC.length + 1) cap')) p (.slice (some ⟨g, 0, none⟩) (CC.length + 1) cap') false (CC ++ [L])
   ∧ Fr p v (.slice (some ⟨g, 0, none⟩) (CC.length + 1) cap') wr (w1.setCell ⟨p, 0, none⟩ (.slice (some ⟨g, 0, none⟩) (CC.length + 1) cap')) := by
 have gA := grown_trans (r := none) g2 (World.grownBy_alloc w2 (.cells #[u] 30) none)
 have hA := h.kept gA
 have hs := g1.size
 simp only [World.size_alloc] at hs
 have hs2 := g2.size
 obtain ⟨D, e, hw, hbb, hin, hp⟩ := hA.o
 have nb : v.ownBlock ≠ some p := box_ne hw tyB.1 hA.b
 have hb1 := hA.b.by g1 nb
 have hg1 : W0.grownBy w1 none := ⟨g1.os.trans hA.g.os, g1.tape.trans hA.g.tape, g1.output.trans hA.g.output, Nat.le_trans hA.g.size g1.size, fun k hk _ => by
  rw [g1.block k (Nat.lt_of_lt_of_le hk hA.g.size) (fun e => by have := (hw.lt k e.symm).1; omega)]
  exact hA.g.block k hk (fun e => by cases e)⟩
 refine ⟨⟨hb1.c0, hb1.f 0, hb1.c1⟩, ⟨h.lo, cf.grown_set hg1 h.lo, hb1.set0 _, ?_⟩, ?_, ?_, ?_⟩
 ·rw [cf.size_set]
  exact ownS_set h1 tyB.1 tyB.2 hb1
 ·rw [cf.size_set]; omega
 ·intro k hk hkp hkv
  rw [set_other hkp, g1.block k (by rw [World.size_alloc]; omega) (fun e => hkv e.symm)]
  exact gA.block k hk (fun e => by cases e)
 ·rcases hn with e | e
  ·exact .inl e.symm
  ·exact .inr ⟨g, rfl, by omega⟩
theorem stepN {ops : Array Oper} {o : Oper} {a : Act} {K : Act → World → Prop} {Q : Exit → Act → World → Prop} {E : Prop} {lo mid : Nat} {wr : World} {v u : Value} {M : List (List Int)} {L : List Int}
  (h : OwnS lo mid wr v M) (hu : Own mid wr.heap.size wr u L) (hlo : lo ≤ mid) (hmid : mid ≤ wr.heap.size) (hM : M.length ≤ 1048576) (hgd : o.guard = none) (s x : Operand)
  (ho : o.op = .call { callee := .builtin .append, args := #[s, x], argTypes := #[25, 25] }) (hs : a.eval s = v) (hx : a.eval x = .slice (some ⟨wr.heap.size, 0, none⟩) 1 1)
  (hK : ∀ g cap w1, OwnS lo w1.heap.size w1 (.slice (some ⟨g, 0, none⟩) (M.length + 1) cap) (M ++ [L]) → (wr.alloc (.cells #[u] 30)).grownBy w1 v.ownBlock → (v.ownBlock = some g ∨ wr.heap.size ≤ g) → K (a.put o.dst (.slice (some ⟨g, 0, none⟩) (M.length + 1) cap)) w1) :
  if Region.wanted o (yielded ops a.tmps) = true then Oper.wp Tryd.prog o a (wr.alloc (.cells #[u] 30)) K Q else E := by
 obtain ⟨i0, hi, hz0, hz1, hz2⟩ := info_parts css.infoSl
 obtain ⟨D, rfl, hw, hb, hin, hp⟩ := h
 rw [List.length_map] at *
 refine step_append_lies _ hgd s x 25 ho lo 30 i0 (.slice none 0 0) 1 24 Tryd.underlying25 hi hz0 hz1 hz2 rfl (by decide) v D.length (D.map (·.1)) hs (hw.alloc _) ⟨wr.heap.size, 0, none⟩ 1 1 [u] hx rfl ?_ ?_ (by decide) ?_ ?_ ?_ (wr.heap.size + 1) (World.size_alloc ..) ?_
 ·intro j y hj
  match j, hj with
  | 0, hj => simp at hj; subst hj; simp [Addr.add]
 ·intro y hy
  simp at hy
  subst hy
  exact gr.own_one hu
 ·unfold maxLen; omega
 ·omega
 ·simp; omega
 ·intro g cap w1 h1 hg hn _
  exact hK g cap w1 (gr.grow hw hin hp hu hlo hmid h1 hg) hg (by rcases hn with e | e; exact .inl e; exact .inr (by omega))
def addR (r : Bool) (CC : List (List Int)) : Bool := r || decide (CC.length = 120)
def addC (r : Bool) (CC : List (List Int)) (C : List Int) : List (List Int) := if addR r CC then CC else CC ++ [C]
def AddE (W0 : World) (p : Nat) (v : Value) (r : Bool) (CC : List (List Int)) (C : List Int) (w : World) (e : Ending) (w' : World) : Prop :=
 e = .returned (.bool (!addR r CC)) ∧ ∃ v', Bld W0 w' p v' (addR r CC) (addC r CC C) ∧ Fr p v v' w w'
set_option maxRecDepth 10000 in
set_option maxHeartbeats 4000000 in
theorem add (p : Nat) (v u : Value) (r : Bool) (CC : List (List Int)) (C : List Int) (lo hi : Nat) (W0 w : World) (hC : C.length ≤ 1048576) (hL : CC.length ≤ 120) (hb : Bld W0 w p v r CC) (hu : Own lo hi w u C) :
  Calls Tryd.prog 15 #[.pointer (some ⟨p, 0, none⟩), u] w fun e w' => AddE W0 p v r CC C w e w' := by
 obtain ⟨a, cap, rfl⟩ := hb.o.len
 have c0 := hb.b.c0
 have c1 := hb.b.c1
 have f1 := hb.b.f 1
 have HB := hide hb
 cases r
 ·by_cases hl : CC.length = 120
  ·have e1 : addR false CC = true := by simp [addR, hl]
   have e2 : addC false CC C = CC := by simp [addC, e1]
   have R := hide (And.intro e1 e2)
   have hl' : ((CC.length : Int) == 120) = true := by simp; omega
   clear hb hu e1 e2 hl
   go_enter Tryd.func15, Tryd.ntmps15
   go_wp2
   go_ret
   refine ⟨ret_bool (by rw [(unhide R).1]; rfl), _, ?_, Fr.flag _⟩
   rw [(unhide R).1, (unhide R).2]
   exact (unhide HB).flag true
  ·have e1 : addR false CC = false := by simp [addR, hl]
   have e2 : addC false CC C = CC ++ [C] := by simp [addC, e1]
   have R := hide (And.intro e1 e2)
   have hl' : ((CC.length : Int) == 120) = false := by simp; omega
   obtain ⟨W1, hW1⟩ : ∃ W1, W1 = w.setCell ⟨p, 1, none⟩ (.bool false) := ⟨_, rfl⟩
   have B1 : Bld W0 W1 p (.slice a CC.length cap) false CC := by rw [hW1]; exact hb.flag false
   have F1 : Fr p (.slice a CC.length cap) (.slice a CC.length cap) w W1 := by rw [hW1]; exact Fr.flag _
   obtain ⟨ua, uc, rfl, _⟩ := hu.sl
   have U1 : Own lo hi W1 (.slice ua C.length uc) C := by
    rw [hW1]
    exact ⟨own_set hu.1 tyB.2 hb.b, hu.2⟩
   have mn := made_nil W1
   have U0 := hide ((U1.kept mn.2).kept (cf.grown_drew _ none))
   have MN := hide (And.intro (mn.1.drew) (grown_trans (r := none) mn.2 (cf.grown_drew _ none)))
   have k0 := B1.b.c0
   have k01 := B1.b.c1
   have kf0 := B1.b.f 0
   have k1 := (B1.b.kept mn.2).c0
   have Q := hide B1
   have F1' := hide F1
   have hM : CC.length ≤ 1048576 := by omega
   clear hb hu e1 e2 hl B1 F1 U1 mn hL
   go_enter Tryd.func15, Tryd.ntmps15
   go_upto_region 3 with fail
   rw [← hW1]
   clear hW1 c0 c1 f1 HB hl'
   go_wp2_with fail
   go_region_law
    (first
     | (refine stepI (A := []) (unhide MN).2 (unhide MN).1 (unhide U0) (by show 0 + C.length ≤ 4194304; omega) (by rfl) _ _ (by rfl) (by rfl) (by rfl) ?_; intro y w1 m1 g1; have m1' : Made W1 w1 y C := m1; obtain ⟨ya, yc, e3, _⟩ := sl.Sl.of_own m1'.1; subst e3; have Y1 := hide (Own.of m1'.1); have G1 := hide m1'.2; have k1 := ((unhide Q).b.kept (unhide G1)).c0; have k2 := ((unhide Q).b.kept (unhide G1)).f 0; have k9 := (((unhide Q).b.kept (unhide G1)).kept (World.grownBy_alloc w1 (.cells #[.slice ya C.length yc] 30) none)).c0; clear m1 m1' g1)
     | (refine stepN ((unhide Q).o.kept (unhide G1)) (unhide Y1) (unhide Q).g.size (unhide G1).size hM (by rfl) _ _ (by rfl) (by rfl) (by rfl) ?_; intro g3 cap3 w3 h3 g3' n3; have R3 := hide ((unhide Q).put (unhide G1) h3 g3' n3); have k3 := (unhide R3).1.1; have k4 := (unhide R3).1.2.1; have k5 := (unhide R3).1.2.2; clear h3 g3' n3))
   all_goals
    go_wp2_with fail
    go_ret
    refine ⟨ret_bool (by rw [(unhide R).1]; rfl), _, ?_, (unhide F1').trans (unhide R3).2.2⟩
    rw [(unhide R).1, (unhide R).2]
    exact (unhide R3).2.1
 ·have e1 : addR true CC = true := by simp [addR]
  have e2 : addC true CC C = CC := by simp [addC, e1]
  have R := hide (And.intro e1 e2)
  clear hb hu e1 e2
  go_enter Tryd.func15, Tryd.ntmps15
  go_wp2
  go_ret
  refine ⟨ret_bool (by rw [(unhide R).1]; rfl), _, ?_, Fr.flag _⟩
  rw [(unhide R).1, (unhide R).2]
  exact (unhide HB).flag true
end Go.Proofs.YtfhmdpbnnieohaaDoor.t2
namespace Go.Proofs.YtfhmdpbnnieohaaDoor.t2
open Go.ChangeShapes Go.WideShapes Go.ChangeAt Go.RowKit
open lits (okB okB_iff)
open sl (Sl Own ints hide unhide ret_int ret_bool grown_refl grown_trans grown_drewN)
open css (Sls OwnS tot Apart own_ne own_ne' own_kind own_mono)
open cf (Box)
set_option linter.unusedVariables false
theorem ownS_nil (lo hi : Nat) (w : World) : OwnS lo hi w (.slice none 0 0) [] := ⟨[], rfl, ⟨rfl, .inl ⟨rfl, rfl⟩⟩, (fun k e => by cases e), (fun p hp => by cases hp), .nil⟩
def FormE (W0 : World) (v : Value) (r : Bool) (CC : List (List Int)) (n : Int) (w : World) (e : Ending) (w' : World) : Prop :=
 ∃ q, e = .returned (.tuple #[.agg #[.int .i64 (if r then 0 else n), q], .bool (!r)]) ∧ OwnS W0.heap.size w'.heap.size w' q (if r then [] else CC) ∧ w.grownBy w' none
theorem formula (p : Nat) (v : Value) (r : Bool) (CC : List (List Int)) (n : Int) (W0 w : World) (hb : Bld W0 w p v r CC) :
  Calls Tryd.prog 19 #[.pointer (some ⟨p, 0, none⟩), .int .i64 n] w fun e w' => FormE W0 v r CC n w e w' := by
 have g0 := World.grownBy_alloc w (.cells #[.int .i64 0, .slice none 0 0] 27) none
 obtain ⟨a, cap, rfl⟩ := hb.o.len
 have c0 := (hb.kept g0).b.c0
 have c1 := (hb.kept g0).b.c1
 have hp := hb.b.lt
 have B0 := Box.new 27 w (.int .i64 0) (.slice none 0 0)
 have d0 := B0.c0
 have d1 := B0.c1
 have HO := hb.o
 clear hb B0 g0
 have L1 : Hid (OwnS W0.heap.size (w.heap.size + 1) (w.alloc (.cells #[.int .i64 n, .slice a CC.length cap] 27)) (.slice a CC.length cap) CC) := (HO.kept (World.grownBy_alloc w _ none)).sub (Nat.le_refl _) (Nat.le_succ _)
 clear HO
 cases r
 ·go_enter Tryd.func19, Tryd.ntmps19
  go_wp2
  (try simp only [Exit.inBlock, Exit.then])
  refine bodyPost_ret (cf.ret_box2 rfl rfl (Box.new 27 w (.int .i64 n) (.slice a CC.length cap))) rfl ⟨_, rfl, ?_, World.grownBy_alloc ..⟩
  rw [World.size_alloc]
  exact unhide L1
 ·go_enter Tryd.func19, Tryd.ntmps19
  go_wp2
  (try simp only [Exit.inBlock, Exit.then])
  exact bodyPost_ret (cf.ret_box2 rfl rfl (Box.new 27 w (.int .i64 0) (.slice none 0 0))) rfl ⟨_, rfl, ownS_nil .., World.grownBy_alloc ..⟩
def listB (L : List Int) : Bool := decide (L.length ≤ 24) && L.all okB
def AnsE (W0 : World) (b : Bool) (CC : List (List Int)) (e : Ending) (w' : World) : Prop :=
 ∃ q, e = .returned (.tuple #[q, .bool b]) ∧ OwnS W0.heap.size w'.heap.size w' q (if b then CC else []) ∧ W0.grownBy w' none
theorem ans_no {W0 w : World} {CC : List (List Int)} (g : W0.grownBy w none) : AnsE W0 false CC (.returned (.tuple #[.slice (some ⟨w.heap.size, 0, none⟩) 0 0, .bool false])) (w.alloc (.cells #[] 30)) :=
 ⟨_, rfl, ⟨[], rfl, own_mono (World.ownsRow_lit w #[] 0 (Nat.le_refl _) (Nat.zero_le _) rfl) g.size, (fun k e => by cases e; rw [World.size_alloc]; exact Nat.lt_succ_self _), (fun p hp => by cases hp), .nil⟩, grown_trans g (World.grownBy_alloc _ _ _)⟩
end Go.Proofs.YtfhmdpbnnieohaaDoor.t2
namespace Go.Proofs.YtfhmdpbnnieohaaDoor.t2
open Go.ChangeShapes Go.WideShapes Go.ChangeAt Go.RowKit
open lits (okB okB_iff)
open sl (Sl Own ints hide unhide ret_int ret_bool grown_refl grown_trans grown_drewN)
open css (Sls OwnS tot Apart own_ne own_ne' own_kind own_mono)
open cf (Box)
set_option linter.unusedVariables false
def addsR : Bool → List (List Int) → List (List Int) → Bool
 | r, _, [] => r
 | r, CC, C :: Cs => addsR (addR r CC) (addC r CC C) Cs
def addsC : Bool → List (List Int) → List (List Int) → List (List Int)
 | _, CC, [] => CC
 | r, CC, C :: Cs => addsC (addR r CC) (addC r CC C) Cs
theorem adds_yes (Cs : List (List Int)) : ∀ CC, addsR true CC Cs = true ∧ addsC true CC Cs = CC := by
 induction Cs with
 | nil => exact fun CC => ⟨rfl, rfl⟩
 | cons C Cs ih => exact fun CC => ih CC
theorem adds_no (Cs : List (List Int)) : ∀ CC, CC.length + Cs.length ≤ 120 → addsR false CC Cs = false ∧ addsC false CC Cs = CC ++ Cs := by
 induction Cs with
 | nil => exact fun CC _ => ⟨rfl, (List.append_nil _).symm⟩
 | cons C Cs ih =>
  intro CC h
  simp only [List.length_cons] at h
  have e : addR false CC = false := by simp [addR]; omega
  have e2 : addC false CC C = CC ++ [C] := by simp [addC, e]
  simp only [addsR, addsC, e, e2]
  have := ih (CC ++ [C]) (by simp; omega)
  rw [List.append_assoc] at this
  exact this
theorem addC_len (r : Bool) (CC : List (List Int)) (C : List Int) (h : CC.length ≤ 120) : (addC r CC C).length ≤ 120 := by
 unfold addC
 split
 ·exact h
 ·rename_i hn
  simp [addR] at hn
  simp
  omega
theorem own_litN (w : World) (n : Nat) (L : List Int) (xs : Array Value) (hx : xs.toList = ints L) (hn : L.length = n) (hl : n ≤ 1048576) : Own w.heap.size (w.heap.size + 1) (w.alloc (.cells xs 3)) (.slice (some ⟨w.heap.size, 0, none⟩) n n) L := by
 subst hn
 have h := World.ownsRow_lit (e := 3) (size := 1) w xs L.length (Nat.le_refl _) (by unfold maxLen; omega) (by rw [← Array.length_toList, hx, sl.ints_length, Nat.mul_one])
 rw [hx] at h
 exact ⟨h, fun k e => by cases e; exact Nat.lt_succ_self _⟩
theorem end0 {P : Program} {fn : Func} {R : Ending → World → Prop} {a : Act} {w : World} (h : fn.results = #[]) (hd : a.defers = []) (hr : R (.returned (.tuple #[])) w) : bodyPost P fn R .normal a w :=
 ⟨hd, _, by simp [results, h], hr⟩
def MetF (W0 : World) (p : Nat) (v : Value) (w : World) (r : Bool) (CC : List (List Int)) (e : Ending) (w' : World) : Prop :=
 e = .returned (.tuple #[]) ∧ ∃ v', Bld W0 w' p v' r CC ∧ Fr p v v' w w'
theorem v_lt {W0 w : World} {p : Nat} {v : Value} {r : Bool} {CC : List (List Int)} (h : Bld W0 w p v r CC) : ∀ k, v.ownBlock = some k → k < w.heap.size := by
 obtain ⟨D, _, _, hb, _⟩ := h.o
 exact hb
end Go.Proofs.YtfhmdpbnnieohaaDoor.t2
namespace Go.Proofs.YtfhmdpbnnieohaaDoor.t2
open Go.ChangeShapes Go.WideShapes Go.ChangeAt Go.RowKit
open lits (okB okB_iff)
open sl (Sl Own ints hide unhide ret_int ret_bool grown_refl grown_trans grown_drewN)
open css (Sls OwnS tot Apart own_ne own_ne' own_kind own_mono)
open cf (Box)
open wo (Made)
open sp (negL)
open ok (all_hit all_step all_end)
set_option linter.unusedVariables false
theorem l13List (v : Value) (L : List Int) (w : World) (hL : L.length ≤ 1048576) (hv : Sl w v L) :
  Calls Tryd.prog 75 #[v] w fun e w' => e = .returned (.bool (listB L)) ∧ w' = w := by
 obtain ⟨a, cap, rfl, ha⟩ := hv
 have HA := hide ha
 clear ha
 go_enter Tryd.func75, Tryd.ntmps75
 go_wp2
 go_loop [3] (fun i => ∃ k : Nat, k ≤ L.length ∧ i = .int .i64 k ∧ Hid ((L.take k).all okB = true)) (fun i => L.length - (intOf i).toNat)
 case atStart => exact ⟨0, Nat.zero_le _, rfl, by show _ = _; simp⟩
 case round =>
  obtain ⟨k, hk, rfl, hall⟩ := hrel
  by_cases hlt : k < L.length
  ·rcases unhide HA with h | ⟨b, off, rfl, hb, hcb⟩
   ·rw [h] at hlt
    simp at hlt
   ·have c1 := hcb k hlt
    have hi' : (k : Int) < (L.length : Int) := by omega
    have h1 := all_hit okB L k 0 hlt
    have h2 := all_step okB L k 0 hlt (unhide hall)
    generalize L.getD k 0 = x at *
    have cx := lits.specLitOk x
    cases hx : okB x
    ·rw [hx] at cx
     have CX := hide cx
     have H := hide (h1 hx)
     clear cx h1 h2 hx hcb HA hall
     go_wp2_with (go_at_call 83; refine (unhide CX _).mono ?_; rintro e w' ⟨rfl, rfl⟩)
     go_ret
     exact ⟨ret_bool (by simp [listB, unhide H]), rfl⟩
    ·rw [hx] at cx
     have CX := hide cx
     have H := hide (h2 hx)
     clear cx h1 h2 hx hcb HA hall
     go_wp2_with (go_at_call 83; refine (unhide CX _).mono ?_; rintro e w' ⟨rfl, rfl⟩)
     go_round
     case rel => exact ⟨k + 1, by omega, by go_num, H⟩
     case measure => simp [intOf]; omega
  ·have hi' : ¬ (k : Int) < (L.length : Int) := by omega
   have HR := hide (all_end okB L k hlt (unhide hall))
   clear HA hall
   go_wp2
   go_ret
   exact ⟨ret_bool (by unfold listB; rw [unhide HR, Bool.and_true]; exact decide_eq_decide.2 (by omega)), rfl⟩
theorem adds_len (Cs : List (List Int)) : ∀ r CC, CC.length ≤ 120 → (addsC r CC Cs).length ≤ 120 := by
 induction Cs with
 | nil => exact fun r CC h => h
 | cons D Cs ih => exact fun r CC h => ih _ _ (addC_len _ _ _ h)
def AndI (W0 : World) (p : Nat) (v : Value) (w : World) (r : Bool) (CC P : List (List Int)) (wr : World) : Prop :=
 ∃ v', Bld W0 wr p v' (addsR r CC P) (addsC r CC P) ∧ Fr p v v' w wr
end Go.Proofs.YtfhmdpbnnieohaaDoor.t2
namespace Go.Proofs.YtfhmdpbnnieohaaDoor.t2
open Go.ChangeShapes Go.WideShapes Go.ChangeAt Go.RowKit
open lits (okB okB_iff)
open sl (Sl Own ints hide unhide ret_int ret_bool grown_refl grown_trans grown_drewN)
open css (Sls OwnS tot Apart own_ne own_ne' own_kind own_mono)
open cf (Box)
open wo (Made)
open sp (negL)
set_option linter.unusedVariables false
theorem list_ok {L : List Int} (h : listB L = true) : L.length ≤ 24 ∧ ∀ y ∈ L, okB y = true := by
 simp only [listB, Bool.and_eq_true, decide_eq_true_eq, List.all_eq_true] at h
 exact h
structure Two (w wr : World) (v u : Value) (D : List (Value × List Int)) (N : List Int) : Prop where
 g : w.grownBy wr none
 o : wr.ownsRow w.heap.size 30 1 v D.length (D.map (·.1))
 i : ∀ p ∈ D, Own w.heap.size wr.heap.size wr p.1 p.2
 p : D.Pairwise Apart
 l : Own w.heap.size wr.heap.size wr u N
 a : ∀ q ∈ D, Apart q (u, N)
end Go.Proofs.YtfhmdpbnnieohaaDoor.t2
namespace Go.Proofs.YtfhmdpbnnieohaaDoor.t2
set_option linter.unusedVariables false
def subs : List Int → Nat → List (List Int)
 | _, 0 => [[]]
 | [], _ + 1 => []
 | x :: L, m + 1 => (subs L m).map (x :: ·) ++ subs L (m + 1)
theorem subs_zero (L : List Int) : subs L 0 = [[]] := by cases L <;> rfl
theorem subs_none : ∀ (L : List Int) (m : Nat), L.length < m → subs L m = []
 | _, 0, h => by omega
 | [], _ + 1, _ => rfl
 | x :: L, m + 1, h => by
  simp only [List.length_cons] at h
  simp only [subs, subs_none L m (by omega), subs_none L (m + 1) (by omega), List.map_nil, List.append_nil]
theorem subs_len : ∀ (L : List Int) (m : Nat), ∀ C ∈ subs L m, C.length = m
 | L, 0, C, h => by
  rw [subs_zero, List.mem_singleton] at h
  subst h
  rfl
 | [], _ + 1, C, h => by cases h
 | x :: L, m + 1, C, h => by
  rw [subs, List.mem_append, List.mem_map] at h
  rcases h with ⟨D, hD, rfl⟩ | h
  ·rw [List.length_cons, subs_len L m D hD]
  ·exact subs_len L (m + 1) C h
def told (P L : List Int) (m k : Nat) : List (List Int) := (subs (L.drop k) m).map (P ++ ·)
theorem told_zero (P L : List Int) (k : Nat) : told P L 0 k = [P] := by
 unfold told
 rw [subs_zero]
 simp
theorem told_step (P L : List Int) (m k : Nat) (h : k < L.length) : told P L (m + 1) k = told (P ++ [L.getD k 0]) L m (k + 1) ++ told P L (m + 1) (k + 1) := by
 unfold told
 rw [List.drop_eq_getElem_cons h, subs, List.map_append, List.map_map, show L.getD k 0 = L[k] by simp [h]]
 congr 1
 apply List.map_congr_left
 intro C _
 simp
theorem told_end (P L : List Int) (m k : Nat) (h0 : 0 < m) (h : L.length < k + m) : told P L m k = [] := by
 unfold told
 rw [subs_none _ _ (by rw [List.length_drop]; omega)]
 rfl
theorem adds_app (A : List (List Int)) : ∀ (r : Bool) (CC B : List (List Int)), addsR r CC (A ++ B) = addsR (addsR r CC A) (addsC r CC A) B ∧ addsC r CC (A ++ B) = addsC (addsR r CC A) (addsC r CC A) B := by
 induction A with
 | nil => exact fun r CC B => ⟨rfl, rfl⟩
 | cons D A ih => exact fun r CC B => ih _ _ B
theorem adds_stop (A B : List (List Int)) (r : Bool) (CC : List (List Int)) (h : addsR r CC A = true) : addsR r CC (A ++ B) = true ∧ addsC r CC (A ++ B) = addsC r CC A := by
 have a := adds_app A r CC B
 have y := adds_yes B (addsC r CC A)
 rw [h] at a
 exact ⟨a.1.trans y.1, a.2.trans y.2⟩
theorem adds_iff (Cs : List (List Int)) : ∀ CC, CC.length ≤ 120 → addsR false CC Cs = decide (120 < CC.length + Cs.length) := by
 induction Cs with
 | nil =>
  intro CC h
  simp [addsR]
  omega
 | cons C Cs ih =>
  intro CC h
  by_cases hl : CC.length = 120
  ·have e : addR false CC = true := by simp [addR, hl]
   simp only [addsR, e]
   rw [(adds_yes Cs _).1]
   simp
   omega
  ·have e : addR false CC = false := by simp [addR, hl]
   have e2 : addC false CC C = CC ++ [C] := by simp [addC, e]
   simp only [addsR, e, e2]
   rw [ih _ (by simp; omega)]
   simp only [List.length_append, List.length_cons, List.length_nil]
   exact decide_eq_decide.2 (by omega)
end Go.Proofs.YtfhmdpbnnieohaaDoor.t2
namespace Go.Proofs.YtfhmdpbnnieohaaDoor.t2
open Go.ChangeShapes Go.WideShapes Go.ChangeAt Go.RowKit
open sl (Sl Own ints hide unhide ret_int ret_bool grown_refl grown_trans grown_drewN)
open css (Sls OwnS tot Apart own_ne own_ne' own_kind own_mono)
open cf (Box)
open wo (Made)
open app (stepI made_nil)
set_option linter.unusedVariables false
def OwnE (lo hi : Nat) (w : World) (v : Value) (D : List (Value × List Int)) : Prop :=
 w.ownsRow lo 30 1 v D.length (D.map (·.1)) ∧ (∀ k, v.ownBlock = some k → k < hi) ∧ (∀ p ∈ D, Own lo hi w p.1 p.2) ∧ D.Pairwise Apart
theorem OwnE.of {lo hi : Nat} {w : World} {v : Value} {LL : List (List Int)} (h : OwnS lo hi w v LL) : ∃ D, D.map (·.2) = LL ∧ OwnE lo hi w v D := by
 obtain ⟨D, e, h1, h2, h3, h4⟩ := h
 exact ⟨D, e, h1, h2, h3, h4⟩
theorem OwnE.to {lo hi : Nat} {w : World} {v : Value} {D : List (Value × List Int)} (h : OwnE lo hi w v D) : OwnS lo hi w v (D.map (·.2)) := ⟨D, rfl, h.1, h.2.1, h.2.2.1, h.2.2.2⟩
structure BldD (W0 w : World) (p : Nat) (v : Value) (r : Bool) (D : List (Value × List Int)) : Prop where
 lo : W0.heap.size ≤ p
 g : W0.grownBy w none
 b : Box 44 w p v (.bool r)
 o : OwnE W0.heap.size w.heap.size w v D
theorem BldD.bld {W0 w : World} {p : Nat} {v : Value} {r : Bool} {D : List (Value × List Int)} (h : BldD W0 w p v r D) : Bld W0 w p v r (D.map (·.2)) := ⟨h.lo, h.g, h.b, h.o.to⟩
theorem Bld.withD {W0 w : World} {p : Nat} {v : Value} {r : Bool} {CC : List (List Int)} (h : Bld W0 w p v r CC) : ∃ D, D.map (·.2) = CC ∧ BldD W0 w p v r D := by
 obtain ⟨D, e, hD⟩ := OwnE.of h.o
 exact ⟨D, e, h.lo, h.g, h.b, hD⟩
theorem rowk {w w' : World} {lo n : Nat} {t : TypeId} {v : Value} {xs : List Value} (h : w.ownsRow lo t 1 v n xs) (g : w.grownBy w' none) : w'.ownsRow lo t 1 v n xs := h.kept g (by
 cases v.ownBlock with
 | none => exact .inl rfl
 | some k => exact .inr (fun e => by cases e))
theorem OwnE.kept {lo hi : Nat} {w w' : World} {v : Value} {D : List (Value × List Int)} (h : OwnE lo hi w v D) (g : w.grownBy w' none) : OwnE lo hi w' v D :=
 ⟨rowk h.1 g, h.2.1, fun p hp => (h.2.2.1 p hp).kept g, h.2.2.2⟩
theorem OwnE.sub {lo hi hi' : Nat} {w : World} {v : Value} {D : List (Value × List Int)} (h : OwnE lo hi w v D) (a : hi ≤ hi') : OwnE lo hi' w v D :=
 ⟨h.1, fun k e => Nat.lt_of_lt_of_le (h.2.1 k e) a, fun p hp => ⟨(h.2.2.1 p hp).1, fun k e => Nat.lt_of_lt_of_le ((h.2.2.1 p hp).2 k e) a⟩, h.2.2.2⟩
theorem BldD.kept {W0 w w1 : World} {p : Nat} {v : Value} {r : Bool} {D : List (Value × List Int)} (h : BldD W0 w p v r D) (g : w.grownBy w1 none) : BldD W0 w1 p v r D :=
 ⟨h.lo, grown_trans h.g g, h.b.kept g, (h.o.kept g).sub g.size⟩
theorem ownE_set {lo hi : Nat} {w : World} {t' : TypeId} {v : Value} {D : List (Value × List Int)} {c i : Nat} {u x y : Value} (h : OwnE lo hi w v D) (t1 : (t' : Nat) ≠ 30) (t2 : (t' : Nat) ≠ 3) (hb : Box t' w c x y) : OwnE lo hi (w.setCell ⟨c, i, none⟩ u) v D :=
 ⟨own_set h.1 t1 hb, h.2.1, fun p hp => ⟨own_set (h.2.2.1 p hp).1 t2 hb, (h.2.2.1 p hp).2⟩, h.2.2.2⟩
theorem BldD.flag {W0 w : World} {p : Nat} {v : Value} {r : Bool} {D : List (Value × List Int)} (h : BldD W0 w p v r D) (r' : Bool) : BldD W0 (w.setCell ⟨p, 1, none⟩ (.bool r')) p v r' D :=
 ⟨h.lo, cf.grown_set h.g h.lo, h.b.set1 _, by rw [cf.size_set]; exact ownE_set h.o tyB.1 tyB.2 h.b⟩
theorem BldD.other {W0 w : World} {p c i : Nat} {v u : Value} {r : Bool} {D : List (Value × List Int)} (h : BldD W0 w p v r D) (hc : W0.heap.size ≤ c) (h1 : c ≠ p) (h2 : v.ownBlock ≠ some c) (h3 : ∀ q ∈ D, q.1.ownBlock ≠ some c) : BldD W0 (w.setCell ⟨c, i, none⟩ u) p v r D := by
 refine ⟨h.lo, cf.grown_set h.g hc, h.b.setO h1, ?_⟩
 rw [cf.size_set]
 obtain ⟨o1, o2, o3, o4⟩ := h.o
 refine ⟨own_at o1 (fun k e => set_other (fun e' => h2 (e' ▸ e))), o2, fun q hq => ⟨own_at (o3 q hq).1 (fun k e => set_other (fun e' => h3 q hq (e' ▸ e))), (o3 q hq).2⟩, o4⟩
theorem growD {lo mid : Nat} {wr w1 : World} {v v' u : Value} {D : List (Value × List Int)} {L : List Int} {o : Obj} (ho : wr.ownsRow lo 30 1 v D.length (D.map (·.1))) (hin : ∀ p ∈ D, Own lo mid wr p.1 p.2) (hp : D.Pairwise Apart)
  (hu : Own mid wr.heap.size wr u L) (hlo : lo ≤ mid) (hmid : mid ≤ wr.heap.size) (h1 : w1.ownsRow lo 30 1 v' (D.length + 1) (D.map (·.1) ++ [u])) (hg : (wr.alloc o).grownBy w1 v.ownBlock) :
  OwnE lo w1.heap.size w1 v' (D ++ [(u, L)]) := by
 have sz := hg.size
 simp only [World.size_alloc] at sz
 have hoA := ho.alloc o
 have kp : ∀ (p : Value) (n : Nat) (xs : List Value), wr.ownsRow lo 3 1 p n xs → w1.ownsRow lo 3 1 p n xs := fun p n xs h => (h.alloc o).kept hg (own_ne' hoA (h.alloc o))
 refine ⟨?_, fun k e => (h1.lt k e).2, ?_, ?_⟩
 ·have e1 : (D ++ [(u, L)]).length = D.length + 1 := by simp
  have e2 : (D ++ [(u, L)]).map (fun p : Value × List Int => p.1) = D.map (fun p : Value × List Int => p.1) ++ [u] := by simp
  rw [e1, e2]
  exact h1
 ·intro p hp'
  rw [List.mem_append, List.mem_singleton] at hp'
  rcases hp' with hp' | rfl
  ·exact ⟨kp _ _ _ (hin p hp').1, fun k e => by have := (hin p hp').2 k e; omega⟩
  ·exact ⟨kp _ _ _ (own_mono hu.1 hlo), fun k e => by have := hu.2 k e; omega⟩
 ·rw [List.pairwise_append]
  refine ⟨hp, List.pairwise_singleton _ _, fun a ha b hb => ?_⟩
  rw [List.mem_singleton] at hb
  subst hb
  intro k e e'
  have h1 := (hin a ha).2 k e
  have h2 := (hu.1.lt k e').1
  omega
theorem stepM {ops : Array Oper} {o : Oper} {a : Act} {K : Act → World → Prop} {Q : Exit → Act → World → Prop} {E : Prop} {lo mid : Nat} {wr : World} {v u : Value} {D : List (Value × List Int)} {L : List Int}
  (h : OwnE lo mid wr v D) (hu : Own mid wr.heap.size wr u L) (hlo : lo ≤ mid) (hmid : mid ≤ wr.heap.size) (hM : D.length ≤ 1048576) (hgd : o.guard = none) (s x : Operand)
  (ho : o.op = .call { callee := .builtin .append, args := #[s, x], argTypes := #[25, 25] }) (hs : a.eval s = v) (hx : a.eval x = .slice (some ⟨wr.heap.size, 0, none⟩) 1 1)
  (hK : ∀ g cap w1, OwnE lo w1.heap.size w1 (.slice (some ⟨g, 0, none⟩) (D.length + 1) cap) (D ++ [(u, L)]) → (wr.alloc (.cells #[u] 30)).grownBy w1 v.ownBlock → (v.ownBlock = some g ∨ wr.heap.size ≤ g) → K (a.put o.dst (.slice (some ⟨g, 0, none⟩) (D.length + 1) cap)) w1) :
  if Region.wanted o (yielded ops a.tmps) = true then Oper.wp Tryd.prog o a (wr.alloc (.cells #[u] 30)) K Q else E := by
 obtain ⟨i0, hi, hz0, hz1, hz2⟩ := info_parts css.infoSl
 obtain ⟨hw, hb, hin, hp⟩ := h
 refine step_append_lies _ hgd s x 25 ho lo 30 i0 (.slice none 0 0) 1 24 Tryd.underlying25 hi hz0 hz1 hz2 rfl (by decide) v D.length (D.map (·.1)) hs (hw.alloc _) ⟨wr.heap.size, 0, none⟩ 1 1 [u] hx rfl ?_ ?_ (by decide) ?_ ?_ ?_ (wr.heap.size + 1) (World.size_alloc ..) ?_
 ·intro j y hj
  match j, hj with
  | 0, hj => simp at hj; subst hj; simp [Addr.add]
 ·intro y hy
  simp at hy
  subst hy
  exact gr.own_one hu
 ·unfold maxLen; omega
 ·omega
 ·simp; omega
 ·intro g cap w1 h1 hg hn _
  exact hK g cap w1 (growD hw hin hp hu hlo hmid h1 hg) hg (by rcases hn with e | e; exact .inl e; exact .inr (by omega))
theorem BldD.put {W0 wr w2 w1 : World} {p g cap' : Nat} {v u : Value} {D : List (Value × List Int)} {L : List Int} (h : BldD W0 wr p v false D) (g2 : wr.grownBy w2 none)
  (h1 : OwnE W0.heap.size w1.heap.size w1 (.slice (some ⟨g, 0, none⟩) (D.length + 1) cap') (D ++ [(u, L)])) (g1 : (w2.alloc (.cells #[u] 30)).grownBy w1 v.ownBlock) (hn : v.ownBlock = some g ∨ w2.heap.size ≤ g) :
  (w1.cell? ⟨p, 0, none⟩ = some v ∧ w1.frozen? ⟨p, 0, none⟩ = false ∧ w1.cell? ⟨p, 1, none⟩ = some (.bool false)) ∧ BldD W0 (w1.setCell ⟨p, 0, none⟩ (.slice (some ⟨g, 0, none⟩) (D.length + 1) cap')) p (.slice (some ⟨g, 0, none⟩) (D.length + 1) cap') false (D ++ [(u, L)])
   ∧ Fr p v (.slice (some ⟨g, 0, none⟩) (D.length + 1) cap') wr (w1.setCell ⟨p, 0, none⟩ (.slice (some ⟨g, 0, none⟩) (D.length + 1) cap')) := by
 have hl : (D.map (·.2)).length = D.length := List.length_map _
 have B := Bld.put (L := L) (cap' := cap') h.bld g2 (by rw [hl]; have := h1.to; rw [List.map_append] at this; exact this) g1 hn
 rw [hl] at B
 obtain ⟨b1, b2, b3⟩ := B
 have hb1 : Box 44 w1 p v (.bool false) := by
  have gA := grown_trans (r := none) g2 (World.grownBy_alloc w2 (.cells #[u] 30) none)
  exact (h.kept gA).b.by g1 (box_ne (h.kept gA).o.1 tyB.1 (h.kept gA).b)
 exact ⟨b1, ⟨b2.lo, b2.g, b2.b, by rw [cf.size_set]; exact ownE_set h1 tyB.1 tyB.2 hb1⟩, b3⟩
def AddD (W0 : World) (p : Nat) (v : Value) (r : Bool) (D : List (Value × List Int)) (C : List Int) (w : World) (e : Ending) (w' : World) : Prop :=
 e = .returned (.bool (!addR r (D.map (·.2)))) ∧ ∃ v' D', D'.map (·.2) = addC r (D.map (·.2)) C ∧ BldD W0 w' p v' (addR r (D.map (·.2))) D' ∧ Fr p v v' w w' ∧ (D' = D ∨ ∃ u, D' = D ++ [(u, C)] ∧ ∀ k, u.ownBlock = some k → w.heap.size ≤ k)
theorem addR_yes {D : List (Value × List Int)} (h : D.length = 120) : addR false (D.map (·.2)) = true := by simp [addR, h]
theorem addR_no {D : List (Value × List Int)} (h : D.length ≠ 120) : addR false (D.map (·.2)) = false := by simp [addR, h]
theorem addC_no {r : Bool} {CC : List (List Int)} {C : List Int} (h : addR r CC = true) : addC r CC C = CC := by simp [addC, h]
theorem addC_yes {r : Bool} {CC : List (List Int)} {C : List Int} (h : addR r CC = false) : addC r CC C = CC ++ [C] := by simp [addC, h]
set_option maxRecDepth 10000 in
set_option maxHeartbeats 4000000 in
theorem addD (p : Nat) (v u : Value) (r : Bool) (D : List (Value × List Int)) (C : List Int) (lo hi : Nat) (W0 w : World) (hC : C.length ≤ 1048576) (hL : D.length ≤ 120) (hb : BldD W0 w p v r D) (hu : Own lo hi w u C) :
  Calls Tryd.prog 15 #[.pointer (some ⟨p, 0, none⟩), u] w fun e w' => AddD W0 p v r D C w e w' := by
 obtain ⟨a, cap, ev⟩ := hb.bld.o.len
 rw [List.length_map] at ev
 subst ev
 have c0 := hb.b.c0
 have c1 := hb.b.c1
 have f1 := hb.b.f 1
 have HB := hide hb
 cases r
 ·by_cases hl : D.length = 120
  ·have R := hide (And.intro (addR_yes hl) (addC_no (C := C) (addR_yes hl)))
   have hl' : ((D.length : Int) == 120) = true := by simp; omega
   clear hb hu hl
   go_enter Tryd.func15, Tryd.ntmps15
   go_wp2
   go_ret
   refine ⟨ret_bool (by rw [(unhide R).1]; rfl), _, D, (unhide R).2.symm, ?_, Fr.flag _, .inl rfl⟩
   rw [(unhide R).1]
   exact (unhide HB).flag true
  ·have R := hide (And.intro (addR_no hl) (addC_yes (C := C) (addR_no hl)))
   have hl' : ((D.length : Int) == 120) = false := by simp; omega
   obtain ⟨W1, hW1⟩ : ∃ W1, W1 = w.setCell ⟨p, 1, none⟩ (.bool false) := ⟨_, rfl⟩
   have B1 : BldD W0 W1 p (.slice a D.length cap) false D := by rw [hW1]; exact hb.flag false
   have F1 : Fr p (.slice a D.length cap) (.slice a D.length cap) w W1 := by rw [hW1]; exact Fr.flag _
   have SZ : Hid (W1.heap.size = w.heap.size) := by show _ = _; rw [hW1]; exact cf.size_set ..
   obtain ⟨ua, uc, rfl, _⟩ := hu.sl
   have U1 : Own lo hi W1 (.slice ua C.length uc) C := by
    rw [hW1]
    exact ⟨own_set hu.1 tyB.2 hb.b, hu.2⟩
   have mn := made_nil W1
   have U0 := hide ((U1.kept mn.2).kept (cf.grown_drew _ none))
   have MN := hide (And.intro (mn.1.drew) (grown_trans (r := none) mn.2 (cf.grown_drew _ none)))
   have k0 := B1.b.c0
   have k01 := B1.b.c1
   have kf0 := B1.b.f 0
   have k1 := (B1.b.kept mn.2).c0
   have Q := hide B1
   have F1' := hide F1
   have hM : D.length ≤ 1048576 := by omega
   clear hb hu hl B1 F1 U1 mn hL
   go_enter Tryd.func15, Tryd.ntmps15
   go_upto_region 3 with fail
   rw [← hW1]
   clear hW1 c0 c1 f1 HB hl'
   go_wp2_with fail
   go_region_law
    (first
     | (refine stepI (A := []) (unhide MN).2 (unhide MN).1 (unhide U0) (by show 0 + C.length ≤ 4194304; omega) (by rfl) _ _ (by rfl) (by rfl) (by rfl) ?_; intro y w1 m1 g1; have m1' : Made W1 w1 y C := m1; obtain ⟨ya, yc, e3, _⟩ := sl.Sl.of_own m1'.1; subst e3; have Y1 := hide (Own.of m1'.1); have G1 := hide m1'.2; have k1 := ((unhide Q).b.kept (unhide G1)).c0; have k2 := ((unhide Q).b.kept (unhide G1)).f 0; have k9 := (((unhide Q).b.kept (unhide G1)).kept (World.grownBy_alloc w1 (.cells #[.slice ya C.length yc] 30) none)).c0; clear m1 m1' g1)
     | (refine stepM ((unhide Q).o.kept (unhide G1)) (unhide Y1) (unhide Q).g.size (unhide G1).size hM (by rfl) _ _ (by rfl) (by rfl) (by rfl) ?_; intro g3 cap3 w3 h3 g3' n3; have R3 := hide ((unhide Q).put (unhide G1) h3 g3' n3); have k3 := (unhide R3).1.1; have k4 := (unhide R3).1.2.1; have k5 := (unhide R3).1.2.2; clear h3 g3' n3))
   all_goals
    go_wp2_with fail
    go_ret
    refine ⟨ret_bool (by rw [(unhide R).1]; rfl), _, D ++ [(.slice ya C.length yc, C)], ?_, ?_, (unhide F1').trans (unhide R3).2.2, .inr ⟨.slice ya C.length yc, rfl, fun k e => ?_⟩⟩
    ·rw [(unhide R).2, List.map_append]
     rfl
    ·rw [(unhide R).1]
     exact (unhide R3).2.1
    ·have h1 := ((unhide Y1).1.lt k e).1
     have h2 := unhide SZ
     omega
 ·have e1 : addR true (D.map (·.2)) = true := by simp [addR]
  have R := hide (And.intro e1 (addC_no (C := C) e1))
  clear hb hu e1
  go_enter Tryd.func15, Tryd.ntmps15
  go_wp2
  go_ret
  refine ⟨ret_bool (by rw [(unhide R).1]; rfl), _, D, (unhide R).2.symm, ?_, Fr.flag _, .inl rfl⟩
  rw [(unhide R).1]
  exact (unhide HB).flag true
end Go.Proofs.YtfhmdpbnnieohaaDoor.t2
namespace Go.Proofs.YtfhmdpbnnieohaaDoor.t2
open Go.ChangeShapes Go.WideShapes Go.ChangeAt Go.RowKit
open sl (Sl Own ints hide unhide ret_int ret_bool grown_refl grown_trans grown_drewN)
open css (Sls OwnS tot Apart own_ne own_ne' own_kind own_mono)
open cf (Box)
set_option linter.unusedVariables false
def Var (t : TypeId) (w : World) (c : Nat) (x : Value) : Prop := w.heap[c]? = some (.cells #[x] t (0, 0))
theorem Var.cell {t : TypeId} {w : World} {c : Nat} {x : Value} (h : Var t w c x) : w.cell? ⟨c, 0, none⟩ = some x := by
 unfold Var at h
 unfold World.cell?
 rw [h]
 rfl
theorem Var.f {t : TypeId} {w : World} {c : Nat} {x : Value} (h : Var t w c x) : w.frozen? ⟨c, 0, none⟩ = false := by
 unfold Var at h
 unfold World.frozen?
 rw [h]
 rfl
theorem Var.lt {t : TypeId} {w : World} {c : Nat} {x : Value} (h : Var t w c x) : c < w.heap.size := (Array.getElem?_eq_some_iff.1 h).1
theorem Var.set {t : TypeId} {w : World} {c : Nat} {x : Value} (h : Var t w c x) (u : Value) : Var t (w.setCell ⟨c, 0, none⟩ u) c u := by
 unfold Var at *
 simp [World.setCell, Array.getElem?_modify, h]
theorem Var.same {t : TypeId} {w w' : World} {c : Nat} {x : Value} (h : Var t w c x) (e : w'.heap[c]? = w.heap[c]?) : Var t w' c x := e.trans h
theorem Var.new (t : TypeId) (w : World) (x : Value) : Var t (w.alloc (.cells #[x] t)) w.heap.size x := by
 show (w.heap.push _)[w.heap.size]? = _
 simp
theorem Var.ne {t t' : TypeId} {w : World} {lo n c : Nat} {v x : Value} {xs : List Value} (h : Var t' w c x) (ho : w.ownsRow lo t 1 v n xs) (ht : (t' : Nat) ≠ t) : v.ownBlock ≠ some c := by
 intro e
 obtain ⟨cs, fz, hc⟩ := own_kind ho c e
 unfold Var at h
 rw [h] at hc
 simp only [Option.some.injEq, Obj.cells.injEq] at hc
 exact ht hc.2.1
theorem Var.box {t t' : TypeId} {w : World} {c p : Nat} {x y z : Value} (h : Var t' w c x) (hb : Box t w p y z) : c ≠ p := by
 rintro rfl
 unfold Var at h
 unfold cf.Box at hb
 rw [h] at hb
 simp at hb
structure Pk (W0 Wb w : World) (p b1 b2 b3 b4 b5 m : Nat) (t3 t5 : TypeId) (x3 x5 lv vb : Value) (L : List Int) (P : List Int) (pv v : Value) (r : Bool) (D : List (Value × List Int)) : Prop where
 bld : BldD W0 w p v r D
 len : D.length ≤ 120
 le : W0.heap.size ≤ Wb.heap.size
 fr : Fr p vb v Wb w
 c1 : Var 3 w b1 (.int .i64 (m : Int))
 c2 : Var 30 w b2 pv
 c3 : Var t3 w b3 x3
 c4 : Var 30 w b4 lv
 c5 : Var t5 w b5 x5
 l2 : Wb.heap.size ≤ b2
 row : w.ownsRow Wb.heap.size 3 1 pv P.length (ints P)
 list : w.ownsRow 0 3 1 lv L.length (ints L)
 d1 : pv.ownBlock ≠ some b1
 d2 : v.ownBlock ≠ some b2
 d4 : v.ownBlock ≠ some b4
 d24 : b4 ≠ b2
 dl : ∀ k, lv.ownBlock = some k → pv.ownBlock ≠ some k
 dd : ∀ q ∈ D, ∀ k, q.1.ownBlock = some k → pv.ownBlock ≠ some k
 t3i : (t3 : Nat) ≠ 3 ∧ (t3 : Nat) ≠ 30
 t5i : (t5 : Nat) ≠ 3 ∧ (t5 : Nat) ≠ 30
variable {W0 Wb w : World} {p b1 b2 b3 b4 b5 m : Nat} {t3 t5 : TypeId} {x3 x5 lv vb : Value} {L P : List Int} {pv v : Value} {r : Bool} {D : List (Value × List Int)}
theorem Pk.tell {w' : World} {v' : Value} {r' : Bool} {D' : List (Value × List Int)} {C : List Int} (h : Pk W0 Wb w p b1 b2 b3 b4 b5 m t3 t5 x3 x5 lv vb L P pv v r D) (hb : BldD W0 w' p v' r' D') (hl : D'.length ≤ 120) (hf : Fr p v v' w w') (hd : D' = D ∨ ∃ u, D' = D ++ [(u, C)] ∧ ∀ k, u.ownBlock = some k → w.heap.size ≤ k) :
  Pk W0 Wb w' p b1 b2 b3 b4 b5 m t3 t5 x3 x5 lv vb L P pv v' r' D' := by
 have ty := css.types_ne
 have hv := h.bld.o.1
 have same : ∀ {t : TypeId} {c : Nat} {x : Value}, Var t w c x → v.ownBlock ≠ some c → w'.heap[c]? = w.heap[c]? := fun k hn => hf.block _ k.lt (k.box h.bld.b) hn
 have n1 : v.ownBlock ≠ some b1 := h.c1.ne hv (fun e => ty e.symm)
 have n3 : v.ownBlock ≠ some b3 := h.c3.ne hv h.t3i.2
 have n5 : v.ownBlock ≠ some b5 := h.c5.ne hv h.t5i.2
 have rows : ∀ {lo n : Nat} {q : Value} {xs : List Value}, w.ownsRow lo 3 1 q n xs → w'.ownsRow lo 3 1 q n xs := fun ho => own_at ho (fun k e => hf.block k (ho.lt k e).2 (fun e' => box_ne ho tyB.2 (e' ▸ h.bld.b) e) (own_ne hv ho k e))
 have o' : ∀ c, c < w.heap.size → v.ownBlock ≠ some c → v'.ownBlock ≠ some c := by
  intro c hc hn e
  rcases hf.own with e' | ⟨k, e', hk⟩
  ·exact hn (e'.symm.trans e)
  ·rw [e'] at e
   cases e
   omega
 refine ⟨hb, hl, h.le, h.fr.trans hf, h.c1.same (same h.c1 n1), h.c2.same (same h.c2 h.d2), h.c3.same (same h.c3 n3), h.c4.same (same h.c4 h.d4), h.c5.same (same h.c5 n5), h.l2, rows h.row, rows h.list, h.d1, o' _ h.c2.lt h.d2, o' _ h.c4.lt h.d4, h.d24, h.dl, ?_, h.t3i, h.t5i⟩
 intro q hq k e
 rcases hd with rfl | ⟨u, rfl, hu⟩
 ·exact h.dd q hq k e
 ·rw [List.mem_append, List.mem_singleton] at hq
  rcases hq with hq | rfl
  ·exact h.dd q hq k e
  ·intro e'
   have h1 := hu k e
   have h2 := (h.row.lt k e').2
   omega
theorem Pk.put {w1 : World} {P' : List Int} {pv' : Value} (h : Pk W0 Wb w p b1 b2 b3 b4 b5 m t3 t5 x3 x5 lv vb L P pv v r D) (g : w.grownBy w1 pv.ownBlock) (ho : w1.ownsRow Wb.heap.size 3 1 pv' P'.length (ints P')) (hn : pv'.ownBlock = pv.ownBlock ∨ ∃ k, pv'.ownBlock = some k ∧ w.heap.size ≤ k) :
  Var 30 w1 b2 pv ∧ Pk W0 Wb (w1.setCell ⟨b2, 0, none⟩ pv') p b1 b2 b3 b4 b5 m t3 t5 x3 x5 lv vb L P' pv' v r D := by
 have ty := css.types_ne
 have hv := h.bld.o.1
 have hw := h.row
 have n2 : pv.ownBlock ≠ some b2 := h.c2.ne hw ty
 have n3 : pv.ownBlock ≠ some b3 := h.c3.ne hw h.t3i.1
 have n4 : pv.ownBlock ≠ some b4 := h.c4.ne hw ty
 have n5 : pv.ownBlock ≠ some b5 := h.c5.ne hw h.t5i.1
 have blk : ∀ c, c < w.heap.size → pv.ownBlock ≠ some c → w1.heap[c]? = w.heap[c]? := fun c hc hn => g.block c hc (fun e => hn e.symm)
 have v1 : Var 3 w1 b1 (.int .i64 (m : Int)) := h.c1.same (blk _ h.c1.lt h.d1)
 have v2 : Var 30 w1 b2 pv := h.c2.same (blk _ h.c2.lt n2)
 have v3 : Var t3 w1 b3 x3 := h.c3.same (blk _ h.c3.lt n3)
 have v4 : Var 30 w1 b4 lv := h.c4.same (blk _ h.c4.lt n4)
 have v5 : Var t5 w1 b5 x5 := h.c5.same (blk _ h.c5.lt n5)
 have pb : pv.ownBlock ≠ some p := box_ne hw tyB.2 h.bld.b
 have l1 := h.le
 have l2 := h.l2
 have bb : Box 44 w1 p v (.bool r) := (blk p h.bld.b.lt pb).trans h.bld.b
 have g0 : W0.grownBy w1 none := ⟨g.os.trans h.bld.g.os, g.tape.trans h.bld.g.tape, g.output.trans h.bld.g.output, Nat.le_trans h.bld.g.size g.size, fun k hk _ => by
  rw [blk k (Nat.lt_of_lt_of_le hk h.bld.g.size) (fun e => by have := (hw.lt k e).1; omega)]
  exact h.bld.g.block k hk (fun e => by cases e)⟩
 obtain ⟨o1, o2, o3, o4⟩ := h.bld.o
 have oe : OwnE W0.heap.size w1.heap.size w1 v D := by
  refine ⟨own_at o1 (fun k e => blk k (o1.lt k e).2 (fun e' => own_ne o1 hw k e' e)), fun k e => Nat.lt_of_lt_of_le (o2 k e) g.size, fun q hq => ⟨own_at (o3 q hq).1 (fun k e => blk k ((o3 q hq).1.lt k e).2 (h.dd q hq k e)), fun k e => Nat.lt_of_lt_of_le ((o3 q hq).2 k e) g.size⟩, o4⟩
 have b1w : BldD W0 w1 p v r D := ⟨h.bld.lo, g0, bb, oe⟩
 have li : w1.ownsRow 0 3 1 lv L.length (ints L) := own_at h.list (fun k e => blk k (h.list.lt k e).2 (h.dl k e))
 have oth : ∀ c, c ≠ b2 → (w1.setCell ⟨b2, 0, none⟩ pv').heap[c]? = w1.heap[c]? := fun c hc => set_other hc
 have nt : ∀ {t : TypeId} {c : Nat} {x : Value}, Var t w1 c x → (t : Nat) ≠ 30 → c ≠ b2 := by
  rintro t c x k ht rfl
  unfold Var at k v2
  rw [v2] at k
  simp only [Option.some.injEq, Obj.cells.injEq] at k
  exact ht k.2.1.symm
 have rown : ∀ {lo n : Nat} {q : Value} {xs : List Value}, w1.ownsRow lo 3 1 q n xs → (w1.setCell ⟨b2, 0, none⟩ pv').ownsRow lo 3 1 q n xs := fun ho => own_at ho (fun k e => oth k (fun e' => v2.ne ho ty (e' ▸ e)))
 have nw : ∀ k, k < w.heap.size → pv.ownBlock ≠ some k → pv'.ownBlock ≠ some k := by
  intro k hk hn' e
  rcases hn with e' | ⟨j, e', hj⟩
  ·exact hn' (e'.symm.trans e)
  ·rw [e'] at e
   cases e
   omega
 refine ⟨v2, b1w.other (by omega) (v2.box bb) h.d2 (fun q hq => v2.ne (oe.2.2.1 q hq).1 ty), h.len, h.le, ?_, v1.same (oth _ (nt v1 (fun e => ty e.symm))), v2.set _, v3.same (oth _ (nt v3 h.t3i.2)), v4.same (oth _ h.d24), v5.same (oth _ (nt v5 h.t5i.2)), h.l2, rown ho, rown li, nw _ h.c1.lt h.d1, h.d2, h.d4, h.d24, fun k e => nw k (h.list.lt k e).2 (h.dl k e), fun q hq k e => nw k ((h.bld.o.2.2.1 q hq).1.lt k e).2 (h.dd q hq k e), h.t3i, h.t5i⟩
 refine ⟨by rw [cf.size_set]; exact Nat.le_trans h.fr.size g.size, fun k hk hp hvb => ?_, h.fr.own⟩
 rw [oth k (by omega), blk k (Nat.lt_of_lt_of_le hk h.fr.size) (fun e => by have := (hw.lt k e).1; omega)]
 exact h.fr.block k hk hp hvb
end Go.Proofs.YtfhmdpbnnieohaaDoor.t2
namespace Go.Proofs.YtfhmdpbnnieohaaDoor.t2
open Go.ChangeShapes Go.WideShapes Go.ChangeAt Go.RowKit
open sl (Sl Own ints hide unhide ret_int ret_bool grown_refl grown_trans grown_drewN)
open css (Sls OwnS tot Apart own_ne own_ne' own_kind own_mono)
open cf (Box)
set_option linter.unusedVariables false
variable {W0 Wb w : World} {p b1 b2 b3 b4 b5 m : Nat} {t3 t5 : TypeId} {x3 x5 lv vb : Value} {L P : List Int} {pv v : Value} {r : Bool} {D : List (Value × List Int)}
theorem Pk.kept {w' : World} (h : Pk W0 Wb w p b1 b2 b3 b4 b5 m t3 t5 x3 x5 lv vb L P pv v r D) (g : w.grownBy w' none) : Pk W0 Wb w' p b1 b2 b3 b4 b5 m t3 t5 x3 x5 lv vb L P pv v r D := by
 have s : ∀ {t : TypeId} {c : Nat} {x : Value}, Var t w c x → Var t w' c x := fun k => k.same (g.block _ k.lt (fun e => by cases e))
 exact ⟨h.bld.kept g, h.len, h.le, h.fr.more g, s h.c1, s h.c2, s h.c3, s h.c4, s h.c5, h.l2, rowk h.row g, rowk h.list g, h.d1, h.d2, h.d4, h.d24, h.dl, h.dd, h.t3i, h.t5i⟩
theorem ints_snoc (M : List Int) (x : Int) : ints (M ++ [x]) = ints M ++ [.int .i64 x] := by simp [ints]
theorem stepP {ops : Array Oper} {o : Oper} {a : Act} {K : Act → World → Prop} {Q : Exit → Act → World → Prop} {E : Prop} {lo : Nat} {wr : World} {v : Value} {M : List Int} {y : Int}
  (hw : wr.ownsRow lo 3 1 v M.length (ints M)) (hlo : lo ≤ wr.heap.size) (hM : M.length ≤ 1048576) (hgd : o.guard = none) (s x : Operand)
  (ho : o.op = .call { callee := .builtin .append, args := #[s, x], argTypes := #[30, 30] }) (hs : a.eval s = v) (hx : a.eval x = .slice (some ⟨wr.heap.size, 0, none⟩) 1 1)
  (hK : ∀ g cap w1, w1.ownsRow lo 3 1 (.slice (some ⟨g, 0, none⟩) (M.length + 1) cap) (M.length + 1) (ints (M ++ [y])) → (wr.alloc (.cells #[.int .i64 y] 3)).grownBy w1 v.ownBlock → (v.ownBlock = some g ∨ wr.heap.size ≤ g) → K (a.put o.dst (.slice (some ⟨g, 0, none⟩) (M.length + 1) cap)) w1) :
  if Region.wanted o (yielded ops a.tmps) = true then Oper.wp Tryd.prog o a (wr.alloc (.cells #[.int .i64 y] 3)) K Q else E := by
 obtain ⟨i0, hi, hz0, hz1, hz2⟩ := info_parts sl.info3
 refine step_append_lies _ hgd s x 30 ho lo 3 i0 (.int .i64 0) 1 8 Tryd.underlying30 hi hz0 hz1 hz2 rfl (by decide) v M.length (ints M) hs (hw.alloc _) ⟨wr.heap.size, 0, none⟩ 1 1 [.int .i64 y] hx rfl ?_ ?_ (by decide) ?_ ?_ ?_ (wr.heap.size + 1) (World.size_alloc ..) ?_
 ·intro j u hj
  match j, hj with
  | 0, hj => simp at hj; subst hj; simp [Addr.add]
 ·intro u hu
  simp at hu
  subst hu
  rfl
 ·unfold maxLen; omega
 ·omega
 ·simp; omega
 ·intro g cap w1 h1 hg hn _
  refine hK g cap w1 ?_ hg (by rcases hn with e | e; exact .inl e; exact .inr (by omega))
  rw [ints_snoc]
  exact h1
theorem stepPd {ops : Array Oper} {o : Oper} {a : Act} {K : Act → World → Prop} {Q : Exit → Act → World → Prop} {E : Prop} {lo : Nat} {wr : World} {v : Value} {M : List Int} {y : Int}
  (hw : wr.ownsRow lo 3 1 v M.length (ints M)) (hlo : lo ≤ wr.heap.size) (hM : M.length ≤ 1048576) (hgd : o.guard = none) (s x : Operand)
  (ho : o.op = .call { callee := .builtin .append, args := #[s, x], argTypes := #[30, 30] }) (hs : a.eval s = v) (hx : a.eval x = .slice (some ⟨wr.heap.size, 0, none⟩) 1 1)
  (hK : ∀ g cap w1, w1.ownsRow lo 3 1 (.slice (some ⟨g, 0, none⟩) (M.length + 1) cap) (M.length + 1) (ints (M ++ [y])) → (wr.alloc (.cells #[.int .i64 y] 3)).grownBy w1 v.ownBlock → (v.ownBlock = some g ∨ wr.heap.size ≤ g) → K (a.put o.dst (.slice (some ⟨g, 0, none⟩) (M.length + 1) cap)) w1) :
  if Region.wanted o (yielded ops a.tmps) = true then Oper.wp Tryd.prog o a (wr.alloc (.cells #[.int .i64 y] 3)).drew K Q else E := by
 have gd := cf.grown_drew wr none
 have r := stepP (ops := ops) (o := o) (a := a) (K := K) (Q := Q) (E := E) (wr := wr.drew) (rowk hw gd) hlo hM hgd s x ho hs hx (fun g cap w1 h1 g1 hn => hK g cap w1 h1 (sl.grown_trans' (cf.grown_drew (wr.alloc (.cells #[.int .i64 y] 3)) v.ownBlock) g1) hn)
 exact r
theorem Pk.push {w1 : World} {g cap : Nat} {y : Int} (h : Pk W0 Wb w p b1 b2 b3 b4 b5 m t3 t5 x3 x5 lv vb L P pv v r D) (ho : w1.ownsRow Wb.heap.size 3 1 (.slice (some ⟨g, 0, none⟩) (P.length + 1) cap) (P.length + 1) (ints (P ++ [y]))) (g1 : (w.alloc (.cells #[.int .i64 y] 3)).grownBy w1 pv.ownBlock) (hn : pv.ownBlock = some g ∨ w.heap.size ≤ g) :
  Var 30 w1 b2 pv ∧ Pk W0 Wb (w1.setCell ⟨b2, 0, none⟩ (.slice (some ⟨g, 0, none⟩) (P.length + 1) cap)) p b1 b2 b3 b4 b5 m t3 t5 x3 x5 lv vb L (P ++ [y]) (.slice (some ⟨g, 0, none⟩) (P.length + 1) cap) v r D :=
 h.put (sl.grown_trans' (World.grownBy_alloc w (.cells #[.int .i64 y] 3) pv.ownBlock) g1) (by rw [List.length_append]; exact ho) (by
  rcases hn with e | e
  ·exact .inl e.symm
  ·exact .inr ⟨g, rfl, e⟩)
theorem Pk.pop {g cap : Nat} {P : List Int} {y : Int} (h : Pk W0 Wb w p b1 b2 b3 b4 b5 m t3 t5 x3 x5 lv vb L (P ++ [y]) (.slice (some ⟨g, 0, none⟩) (P.length + 1) cap) v r D) :
  Pk W0 Wb (w.setCell ⟨b2, 0, none⟩ (.slice (some ⟨g, 0, none⟩) P.length cap)) p b1 b2 b3 b4 b5 m t3 t5 x3 x5 lv vb L P (.slice (some ⟨g, 0, none⟩) P.length cap) v r D := by
 have hr := h.row
 rw [List.length_append] at hr
 have ht := qw.own_take (k := P.length) hr (by simp)
 have e : (ints (P ++ [y])).take P.length = ints P := by
  rw [ints_snoc]
  simp [ints]
 rw [e] at ht
 exact (h.put ⟨rfl, rfl, rfl, Nat.le_refl _, fun _ _ _ => rfl⟩ ht (.inl rfl)).2
end Go.Proofs.YtfhmdpbnnieohaaDoor.t2
namespace Go.Proofs.YtfhmdpbnnieohaaDoor.t2
open Go.ChangeShapes Go.WideShapes Go.ChangeAt Go.RowKit
open sl (Sl Own ints hide unhide ret_int ret_bool grown_refl grown_trans grown_drewN)
open css (Sls OwnS tot Apart own_ne own_ne' own_kind own_mono)
open cf (Box)
set_option linter.unusedVariables false
def tellV (p : Nat) : Value := .func (.func 15) #[.pointer (some ⟨p, 0, none⟩)] #[]
def pickV (b1 b2 b3 b4 b5 : Nat) : Value := .func (.func 58) #[] #[.pointer (some ⟨b1, 0, none⟩), .pointer (some ⟨b2, 0, none⟩), .pointer (some ⟨b3, 0, none⟩), .pointer (some ⟨b4, 0, none⟩), .pointer (some ⟨b5, 0, none⟩)]
def PickE (W0 Wb : World) (p b1 b2 b3 b4 b5 m : Nat) (t3 t5 : TypeId) (lv vb : Value) (L P : List Int) (r : Bool) (D : List (Value × List Int)) (Cs : List (List Int)) (e : Ending) (w' : World) : Prop :=
 ∃ b P' pv' v' r' D', e = .returned (.bool b) ∧ Pk W0 Wb w' p b1 b2 b3 b4 b5 m t3 t5 (tellV p) (pickV b1 b2 b3 b4 b5) lv vb L P' pv' v' r' D' ∧ r' = addsR r (D.map (·.2)) Cs ∧ D'.map (·.2) = addsC r (D.map (·.2)) Cs ∧ (b = true → P' = P) ∧ (b = false → r' = true)
set_option maxRecDepth 10000 in
set_option maxHeartbeats 4000000 in
theorem pick0 (W0 Wb w : World) (p b1 b2 b3 b4 b5 m k : Nat) (t3 t5 : TypeId) (lv vb pv v : Value) (L P : List Int) (r : Bool) (D : List (Value × List Int)) (hm : P.length = m) (hM : m ≤ 1048576)
  (h : Pk W0 Wb w p b1 b2 b3 b4 b5 m t3 t5 (tellV p) (pickV b1 b2 b3 b4 b5) lv vb L P pv v r D) :
  Calls Tryd.prog 58 #[.int .i64 (k : Int), .pointer (some ⟨b1, 0, none⟩), .pointer (some ⟨b2, 0, none⟩), .pointer (some ⟨b3, 0, none⟩), .pointer (some ⟨b4, 0, none⟩), .pointer (some ⟨b5, 0, none⟩)] w fun e w' => PickE W0 Wb p b1 b2 b3 b4 b5 m t3 t5 lv vb L P r D (told P L 0 k) e w' := by
 have k1 := h.c1.cell
 have k2 := h.c2.cell
 have k3 := h.c3.cell
 obtain ⟨pa, pc, rfl, _⟩ := Sl.of_own h.row
 have A := hide (addD p v (.slice pa P.length pc) r D P _ _ W0 w (by omega) h.len h.bld (Own.of h.row))
 have H := hide h
 subst hm
 unfold tellV at k3
 clear h
 go_enter Tryd.func58, Tryd.ntmps58
 go_wp2_with fail
 refine (unhide A).mono ?_; rintro e w1 ⟨rfl, v', D', e1, hb, hf, hd⟩
 have hl : D'.length ≤ 120 := by
  have h1 := addC_len r (D.map (·.2)) P (by rw [List.length_map]; exact (unhide H).len)
  rw [← e1, List.length_map] at h1
  exact h1
 have R := hide (And.intro ((unhide H).tell hb hl hf hd) e1)
 clear hb hf hd e1 hl A
 go_wp2_with fail
 go_ret
 refine ⟨_, P, _, v', _, D', rfl, (unhide R).1, ?_, ?_, fun _ => rfl, fun e => ?_⟩
 ·rw [told_zero]
  rfl
 ·rw [told_zero]
  exact (unhide R).2
 ·simpa using e
theorem comb {r r' r'' : Bool} {CC CC' CC'' A B : List (List Int)} (h1 : r' = addsR r CC A) (h2 : CC' = addsC r CC A) (h3 : r'' = addsR r' CC' B) (h4 : CC'' = addsC r' CC' B) : r'' = addsR r CC (A ++ B) ∧ CC'' = addsC r CC (A ++ B) := by
 subst h1 h2 h3 h4
 have := adds_app A r CC B
 exact ⟨this.1.symm, this.2.symm⟩
theorem halt {r : Bool} {CC CC' A B : List (List Int)} (h1 : true = addsR r CC A) (h2 : CC' = addsC r CC A) : true = addsR r CC (A ++ B) ∧ CC' = addsC r CC (A ++ B) := by
 have := adds_stop A B r CC h1.symm
 exact ⟨this.1.symm, h2.trans this.2.symm⟩
theorem Pk.form {W0 Wb w : World} {p b1 b2 b3 b4 b5 m : Nat} {t3 t5 : TypeId} {x3 x5 lv vb : Value} {L P : List Int} {x : Int} {pv v : Value} {r : Bool} {D : List (Value × List Int)} (h : Pk W0 Wb w p b1 b2 b3 b4 b5 m t3 t5 x3 x5 lv vb L (P ++ [x]) pv v r D) : ∃ g cap, pv = .slice (some ⟨g, 0, none⟩) (P.length + 1) cap ∧ P.length + 1 ≤ cap ∧ cap ≤ 9223372036854775807 := by
 obtain ⟨_, h2⟩ := h.row
 rcases h2 with ⟨_, h0⟩ | ⟨g, cap, cur, e, _, _, hn, hm, _⟩
 ·simp at h0
 ·refine ⟨g, cap, by rw [e, List.length_append]; rfl, ?_, ?_⟩
  ·rw [List.length_append] at hn
   exact hn
  ·unfold maxLen at hm
   exact hm
set_option maxRecDepth 10000 in
set_option maxHeartbeats 8000000 in
theorem pick (W0 Wb : World) (p b1 b2 b3 b4 b5 m : Nat) (t3 t5 : TypeId) (lv vb : Value) (L : List Int) (hM : m ≤ 1048576) (hL : L.length ≤ 1048576) : ∀ (j : Nat) (w : World) (k : Nat) (pv v : Value) (P : List Int) (r : Bool) (D : List (Value × List Int)), P.length + j = m → k ≤ L.length →
  Pk W0 Wb w p b1 b2 b3 b4 b5 m t3 t5 (tellV p) (pickV b1 b2 b3 b4 b5) lv vb L P pv v r D →
  Calls Tryd.prog 58 #[.int .i64 (k : Int), .pointer (some ⟨b1, 0, none⟩), .pointer (some ⟨b2, 0, none⟩), .pointer (some ⟨b3, 0, none⟩), .pointer (some ⟨b4, 0, none⟩), .pointer (some ⟨b5, 0, none⟩)] w fun e w' => PickE W0 Wb p b1 b2 b3 b4 b5 m t3 t5 lv vb L P r D (told P L j k) e w' := by
 intro j
 induction j with
 | zero => exact fun w k pv v P r D hm hk h => pick0 W0 Wb w p b1 b2 b3 b4 b5 m k t3 t5 lv vb pv v L P r D hm hM h
 | succ j ih =>
  intro w k pv v P r D hm hk h
  have IH := hide ih
  clear ih
  have k1 := h.c1.cell
  have k2 := h.c2.cell
  obtain ⟨pa, pc, rfl, _⟩ := Sl.of_own h.row
  have H := hide h
  have hsub : (m : Int) - (P.length : Int) = (j : Int) + 1 := by omega
  have hz : ((j : Int) + 1 == 0) = false := by simp; omega
  have hm1 : (P.length : Int) ≤ (m : Int) := by omega
  have HM := hide hm
  clear h hm
  go_enter Tryd.func58, Tryd.ntmps58
  go_wp2_with fail
  go_loopw [9] (fun i wr => ∃ (k' : Nat) (v' : Value) (r' : Bool) (D' : List (Value × List Int)) (pv' : Value) (A : List (List Int)), i = .int .i64 (k' : Int) ∧ k' ≤ L.length ∧ Hid (Pk W0 Wb wr p b1 b2 b3 b4 b5 m t3 t5 (tellV p) (pickV b1 b2 b3 b4 b5) lv vb L P pv' v' r' D') ∧ Hid (told P L (j + 1) k = A ++ told P L (j + 1) k' ∧ r' = addsR r (D.map (·.2)) A ∧ D'.map (·.2) = addsC r (D.map (·.2)) A)) (fun i _ => L.length + 1 - (intOf i).toNat)
  case atStart => exact ⟨k, v, r, D, _, [], rfl, hk, H, by show _ ∧ _ ∧ _; exact ⟨rfl, rfl, rfl⟩⟩
  case round =>
   obtain ⟨k', v', r', D', pv', A, rfl, hk', hp, ha⟩ := hrel
   clear H k1 k2
   have hp0 := unhide hp
   obtain ⟨la, lc, elv, hlc⟩ := Sl.of_own hp0.list
   subst elv
   have k4 := hp0.c4.cell
   by_cases hc : k' + (j + 1) ≤ L.length
   ·have hc' : (k' : Int) + ((j : Int) + 1) ≤ (L.length : Int) := by omega
    have hkl : k' < L.length := by omega
    have hi' : (k' : Int) < (L.length : Int) := by omega
    rcases hlc with h | ⟨lb, lo, rfl, hlb, hcb⟩
    ·rw [h] at hkl
     simp at hkl
    ·have c1 := hcb k' hkl
     have ts := told_step P L j k' hkl
     obtain ⟨a1, a2, a3⟩ := unhide ha
     rw [ts] at a1
     obtain ⟨qa, qc, rfl, _⟩ := Sl.of_own hp0.row
     generalize L.getD k' 0 = x at *
     have gA := World.grownBy_alloc wr (.cells #[.int .i64 x] 3) none
     have q2 := hp0.c2.cell
     have qf := hp0.c2.f
     have q3 := (hp0.kept gA).c2.cell
     have q4 := (hp0.kept gA).c4.cell
     have PL : P.length ≤ 1048576 := by have := unhide HM; omega
     have RW := hide hp0.row
     have RL := hide (Nat.le_trans hp0.fr.size (Nat.le_refl _))
     have HA := hide (And.intro a1 (And.intro a2 a3))
     clear hcb hlb ts a1 a2 a3 ha hp0 gA
     go_wp2_with fail
     go_region_law
      (first
       | (refine stepPd (unhide RW) (unhide RL) PL (by rfl) _ _ (by rfl) (by rfl) (by rfl) ?_; intro g3 cap3 w3 h3 g3' n3; have R3 := hide ((unhide hp).push h3 g3' n3); have y1 := (unhide R3).1.cell; have y2 := (unhide R3).1.f; clear h3 g3' n3))
     all_goals
      generalize hW5 : w3.setCell ⟨b2, 0, none⟩ (.slice (some ⟨g3, 0, none⟩) (P.length + 1) cap3) = W5 at *
      have P5 := hide (unhide R3).2
      have z5 := (unhide P5).c5.cell
      unfold pickV at z5
      have ih := unhide IH W5 (k' + 1) _ v' (P ++ [x]) r' D' (by rw [List.length_append]; have := unhide HM; simp only [List.length_cons, List.length_nil]; omega) (by omega) (unhide P5)
      rw [show ((k' + 1 : Nat) : Int) = (k' : Int) + 1 by omega] at ih
      have CI := hide ih
      clear hW5 R3 ih y1 y2 q2 qf q3 q4 k4 c1 RW RL
      go_wp2_with fail
      refine (unhide CI).mono ?_; rintro e w6 ⟨b, P', pv6, v6, r6, D6, rfl, p6, e6, f6, s6, t6⟩
      have hh := comb (unhide HA).2.1 (unhide HA).2.2 e6 f6
      have TA := (unhide HA).1
      cases b
      ·have hr := t6 rfl
       have E1 : r6 = addsR r (D.map (·.2)) (told P L (j + 1) k) := by
        rw [TA, ← List.append_assoc, hr]
        rw [hr] at hh
        exact (halt hh.1 hh.2).1
       have E2 : D6.map (·.2) = addsC r (D.map (·.2)) (told P L (j + 1) k) := by
        rw [TA, ← List.append_assoc]
        rw [hr] at hh
        exact (halt hh.1 hh.2).2
       have R := hide (And.intro p6 (And.intro E1 (And.intro E2 hr)))
       clear hh TA e6 f6 s6 t6 p6 hr HA CI P5 z5 E1 E2
       go_wp2_with fail
       go_ret
       exact ⟨false, P', pv6, v6, r6, D6, rfl, (unhide R).1, (unhide R).2.1, (unhide R).2.2.1, (fun e => by cases e), fun _ => (unhide R).2.2.2⟩
      ·have hP := s6 rfl
       subst hP
       obtain ⟨g6, cap6, rfl, n6, m6⟩ := p6.form
       have q6 := p6.c2.cell
       have qf6 := p6.c2.f
       have P6 := hide p6.pop
       have R : Hid (told P L (j + 1) k = (A ++ told (P ++ [x]) L j (k' + 1)) ++ told P L (j + 1) (k' + 1) ∧ r6 = addsR r (D.map (·.2)) (A ++ told (P ++ [x]) L j (k' + 1)) ∧ D6.map (·.2) = addsC r (D.map (·.2)) (A ++ told (P ++ [x]) L j (k' + 1))) := ⟨by rw [TA, List.append_assoc], hh.1, hh.2⟩
       clear hh TA e6 f6 s6 t6 p6 HA CI P5 z5
       go_wp2_with fail
       go_roundw
       case rel => exact ⟨k' + 1, v6, r6, D6, _, _, by go_num, by omega, P6, R⟩
       case measure => simp [intOf]; omega
   ·have hc' : ¬ (k' : Int) + ((j : Int) + 1) ≤ (L.length : Int) := by omega
    have te := told_end P L (j + 1) k' (by omega) (by omega)
    obtain ⟨a1, a2, a3⟩ := unhide ha
    rw [te, List.append_nil] at a1
    have R := hide (And.intro hp0 (And.intro (show r' = addsR r (D.map (·.2)) (told P L (j + 1) k) by rw [a1]; exact a2) (show D'.map (·.2) = addsC r (D.map (·.2)) (told P L (j + 1) k) by rw [a1]; exact a3)))
    clear hlc te a1 a2 a3 ha hp0 hp
    go_wp2_with fail
    go_ret
    exact ⟨true, P, pv', v', r', D', rfl, (unhide R).1, (unhide R).2.1, (unhide R).2.2, fun _ => rfl, fun e => by cases e⟩
end Go.Proofs.YtfhmdpbnnieohaaDoor.t2
namespace Go.Proofs.YtfhmdpbnnieohaaDoor.t2
open Go.ChangeShapes Go.WideShapes Go.ChangeAt Go.RowKit
open sl (Sl Own ints hide unhide ret_int ret_bool grown_refl grown_trans grown_drewN)
open css (Sls OwnS tot Apart own_ne own_ne' own_kind own_mono)
open cf (Box)
set_option linter.unusedVariables false
theorem told_all (L : List Int) (m : Nat) : told [] L m 0 = subs L m := by
 unfold told
 simp
def ini6 (w : World) (u : Value) (m p : Nat) : World :=
 (((((w.alloc (.cells #[u] 30)).alloc (.cells #[.int .i64 (m : Int)] 3)).alloc (.cells #[tellV p] 45)).alloc (.cells (madeCells #[.int .i64 0] m) 3)).alloc (.cells #[.slice (some ⟨w.heap.size + 3, 0, none⟩) 0 m] 30)).alloc (.cells #[pickV (w.heap.size + 1) (w.heap.size + 4) (w.heap.size + 2) w.heap.size (w.heap.size + 5)] 109)
theorem Var.kept {t : TypeId} {w w' : World} {c : Nat} {x : Value} (h : Var t w c x) (g : w.grownBy w' none) : Var t w' c x := h.same (g.block _ h.lt (fun e => by cases e))
theorem ini6_pk {W0 w : World} {p m : Nat} {v u : Value} {r : Bool} {D : List (Value × List Int)} {L : List Int} {lo hi : Nat} (hm : m ≤ 1048576) (hb : BldD W0 w p v r D) (hl : D.length ≤ 120) (hu : Own lo hi w u L) :
  Pk W0 w (ini6 w u m p) p (w.heap.size + 1) (w.heap.size + 4) (w.heap.size + 2) w.heap.size (w.heap.size + 5) m 45 109 (tellV p) (pickV (w.heap.size + 1) (w.heap.size + 4) (w.heap.size + 2) w.heap.size (w.heap.size + 5)) u v L [] (.slice (some ⟨w.heap.size + 3, 0, none⟩) 0 m) v r D := by
 have g1 := World.grownBy_alloc w (.cells #[u] 30) none
 have v1 := Var.new 30 w u
 unfold ini6
 generalize hw1 : w.alloc (.cells #[u] 30) = w1 at *
 have s1 : w1.heap.size = w.heap.size + 1 := by rw [← hw1]; exact World.size_alloc ..
 have g2 := World.grownBy_alloc w1 (.cells #[.int .i64 (m : Int)] 3) none
 have v2 := Var.new 3 w1 (.int .i64 (m : Int))
 generalize hw2 : w1.alloc (.cells #[.int .i64 (m : Int)] 3) = w2 at *
 have s2 : w2.heap.size = w.heap.size + 2 := by rw [← hw2, World.size_alloc]; omega
 have g3 := World.grownBy_alloc w2 (.cells #[tellV p] 45) none
 have v3 := Var.new 45 w2 (tellV p)
 generalize hw3 : w2.alloc (.cells #[tellV p] 45) = w3 at *
 have s3 : w3.heap.size = w.heap.size + 3 := by rw [← hw3, World.size_alloc]; omega
 have g4 := World.grownBy_alloc w3 (.cells (madeCells #[.int .i64 0] m) 3) none
 have o4 := (gc.madeI w3 m hm).1
 generalize hw4 : w3.alloc (.cells (madeCells #[.int .i64 0] m) 3) = w4 at *
 have s4 : w4.heap.size = w.heap.size + 4 := by rw [← hw4, World.size_alloc]; omega
 rw [s3] at o4
 have g5 := World.grownBy_alloc w4 (.cells #[.slice (some ⟨w.heap.size + 3, 0, none⟩) 0 m] 30) none
 have v5 := Var.new 30 w4 (.slice (some ⟨w.heap.size + 3, 0, none⟩) 0 m)
 generalize hw5 : w4.alloc (.cells #[.slice (some ⟨w.heap.size + 3, 0, none⟩) 0 m] 30) = w5 at *
 have s5 : w5.heap.size = w.heap.size + 5 := by rw [← hw5, World.size_alloc]; omega
 generalize pickV (w.heap.size + 1) (w.heap.size + 4) (w.heap.size + 2) w.heap.size (w.heap.size + 5) = pk at *
 have g6 := World.grownBy_alloc w5 (.cells #[pk] 109) none
 have v6 := Var.new 109 w5 pk
 generalize hw6 : w5.alloc (.cells #[pk] 109) = w6 at *
 rw [s1] at v2
 rw [s2] at v3
 rw [s4] at v5
 rw [s5] at v6
 have h56 := g6
 have h46 := grown_trans (r := none) g5 g6
 have h36 := grown_trans (r := none) g4 h46
 have h26 := grown_trans (r := none) g3 h36
 have h16 := grown_trans (r := none) g2 h26
 have h06 := grown_trans (r := none) g1 h16
 have vb := v_lt hb.bld
 have ub : ∀ k, u.ownBlock = some k → k < w.heap.size := fun k e => (hu.1.lt k e).2
 refine ⟨hb.kept h06, hl, hb.g.size, Fr.more (Fr.refl p v w) h06, v2.kept h26, v5.kept g6, v3.kept h36, v1.kept h16, v6, Nat.le_add_right _ _, ?_, ?_, ?_, ?_, ?_, ?_, ?_, ?_, ?_, ?_⟩
 ·exact own_mono (rowk o4 h46) (by omega)
 ·exact own_mono (hu.kept h06).1 (Nat.zero_le _)
 ·intro e; have e2 : w.heap.size + 3 = w.heap.size + 1 := Option.some.inj e; omega
 ·intro e; have := vb _ e; omega
 ·intro e; have := vb _ e; omega
 ·omega
 ·intro k e e'; have e2 : w.heap.size + 3 = k := Option.some.inj e'; have := ub k e; omega
 ·intro q hq k e e'; have e2 : w.heap.size + 3 = k := Option.some.inj e'; have := (hb.o.2.2.1 q hq).2 k e; omega
 ·decide
 ·decide
set_option maxRecDepth 10000 in
set_option maxHeartbeats 4000000 in
theorem eachSubset (p m : Nat) (v u : Value) (r : Bool) (CC : List (List Int)) (L : List Int) (lo hi : Nat) (W0 w : World) (hm : m ≤ 1048576) (hL : L.length ≤ 1048576) (hl : CC.length ≤ 120) (hb : Bld W0 w p v r CC) (hu : Own lo hi w u L) :
  Calls Tryd.prog 38 #[u, .int .i64 (m : Int), tellV p] w fun e w' => MetF W0 p v w (addsR r CC (subs L m)) (addsC r CC (subs L m)) e w' := by
 obtain ⟨D, rfl, hd⟩ := hb.withD
 rw [List.length_map] at hl
 have K := ini6_pk (m := m) hm hd hl hu
 have C := hide (pick W0 w p _ _ _ _ _ m _ _ u v L hm hL m _ 0 _ v [] r D (by simp) (Nat.zero_le _) K)
 have mk := hide (gc.mkI m hm)
 obtain ⟨ua, uc, rfl, _⟩ := hu.sl
 clear hd hb hu K hl
 have z := unhide mk
 unfold tellV
 go_enter Tryd.func38, Tryd.ntmps38
 go_wp2_with fail
 refine (unhide C).mono ?_; rintro e w1 ⟨b, P', pv', v', r', D', rfl, pk, e1, e2, _, _⟩
 have R : Hid (MetF W0 p v w (addsR r (D.map (·.2)) (subs L m)) (addsC r (D.map (·.2)) (subs L m)) (.returned (.tuple #[])) w1) := by
  rw [told_all] at e1 e2
  refine ⟨rfl, v', ?_, pk.fr⟩
  rw [← e1, ← e2]
  exact pk.bld.bld
 clear pk e1 e2 C mk z
 go_wp2_with fail
 exact end0 rfl rfl (unhide R)
end Go.Proofs.YtfhmdpbnnieohaaDoor.t2
