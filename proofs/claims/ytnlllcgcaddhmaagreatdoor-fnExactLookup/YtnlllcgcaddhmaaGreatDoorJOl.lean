/- The solver's least answer: a range over a function that returns in its first round. -/
import Derived.Test.YtnlllcgcaddhmaaGreatDoorJOk
import Derived.Test.YtnlllcgcaddhmaaGreatDoorJXCu
import Derived.Test.YtnlllcgcaddhmaaGreatDoorJXLr
import Derived.Test.YtnlllcgcaddhmaaGreatDoorJXLs5
namespace Go.Proofs.YtnlllcgcaddhmaaGreatDoor.ks
open Go.RowKit Go.Shelf
open srt (Tab swp oppN)
open bset (placeN setOf)
open kd (SV Slv LostE lost)
open km (wdB plc Sat Conf Path left_)
open lq (holds)
open sl (hide unhide grown_refl grown_trans)
set_option linter.unusedVariables false
attribute [local go_sem] Oper.semAt_some
theorem range_first {α : Type} {P : Program} {n : Nat} {g : Operand} {ps : Array Tmp} {assign body : Code} {Q : Exit → Act → World → Prop} {a : Act} {w : World} (h1 : 1 ≤ n) {gf : Nat} {lb : Array Value} (hg : a.eval g = .func (.func gf) #[] lb) (eg : ∀ args w, (callFunc gf args).run P w = .ok (.enter gf args) w)
  (encs : α → Array Value) (hps : ∀ x, (encs x).size = ps.size) (good : α → Prop) (N : Prop) (S : α → Prop) (Kb : Nat → Prop)
  (hit : ∀ (lp : Nat) (W : World) (Jx : α → World → Prop), w.grownBy W none → (∀ x A A', Jx x A → Below W.heap.size A A' → Jx x A') →
   (∀ m x W1, good x → Below W.heap.size W W1 → YieldAt Fence.wide m P lp (encs x) W1 fun e W' => e = .returned (.bool false) ∧ Jx x W' ∧ (∀ k, (W.heap.size ≤ k ∨ Kb k) → k < W1.heap.size → W'.heap[k]? = W1.heap[k]?)) →
   CallsIn Fence.wide (n - 1) P gf (#[.func (.yield lp) #[] #[]] ++ lb) W fun e W' => (∃ v, e = .returned v) ∧ ((N ∧ W.grownBy W' none) ∨ ∃ x, S x ∧ Jx x W'))
  (Ix : α → World → Prop) (hIx : ∀ x A A', Ix x A → Below w.heap.size A A' → Ix x A') (hKb : ∀ k, Kb k → k < w.heap.size) (a₁ : α → Act)
  (hassign : ∀ (l m : Nat) (x : α) (W : World) (K : Act → World → Prop), K (a₁ x) W → assign.wpIn (Fence.wide.inRound l) m P (Exit.then K (fun _ _ _ => False)) { tmps := (ps.zip (encs x)).foldl (fun t (p, v) => t.setIfInBounds p v) a.tmps, defers := [] } W)
  (hbody : ∀ (l m : Nat) (x : α) (W : World), good x → Below w.heap.size w W → body.wpIn (Fence.wide.inRound l) m P (fun e _ W' => e = .ret ∧ Ix x W' ∧ (∀ k, (w.heap.size ≤ k ∨ Kb k) → k < W.heap.size → W'.heap[k]? = W.heap[k]?)) (a₁ x) W)
  (hdone : ∀ W, N → w.grownBy W none → W.heap[w.heap.size]? = some (.deferred (some [])) → Q .normal { a with defers := { target := .collected w.heap.size, args := #[] } :: a.defers } W)
  (hstop : ∀ x W, S x → Ix x W → W.heap[w.heap.size]? = some (.deferred (some [])) → Code.ret.wpIn Fence.wide n P Q { a with defers := { target := .collected w.heap.size, args := #[] } :: a.defers } W) :
  (Code.rangeFunc g ps assign body).wpIn Fence.wide n P Q a w := by
 refine wpIn_rangeFunc ?_
 intro fn hfn
 obtain ⟨rc, hrc⟩ : ∃ rc : LoopState → Option Code → Loop, rc = fun st pe => { state := st, pending := pe, fn, tmps := a.tmps, params := ps, assign, body, defers := w.heap.size } := ⟨_, rfl⟩
 obtain ⟨W, hW⟩ : ∃ W, (w.alloc (.deferred (some []))).alloc (.loop (rc .ready none)) = W := ⟨_, rfl⟩
 have hz : W.heap.size = w.heap.size + 1 + 1 := by rw [← hW]; simp
 have gW : w.grownBy W none := by rw [← hW]; exact grown_trans (World.grownBy_alloc _ _ none) (World.grownBy_alloc _ _ none)
 have hL : W.heap[w.heap.size + 1]? = some (.loop (rc .ready none)) := by
  have := World.alloc_heap_new (w.alloc (.deferred (some []))) (.loop (rc .ready none))
  rw [World.size_alloc, hW] at this
  exact this
 have hD : W.heap[w.heap.size]? = some (.deferred (some [])) := by
  have := (World.grownBy_alloc (w.alloc (.deferred (some []))) (.loop (rc .ready none)) none).block w.heap.size (by simp) (fun e => by cases e)
  rw [hW] at this
  exact this.trans (World.alloc_heap_new w _)
 refine ⟨w.heap.size + 1, [{ target := .collected w.heap.size, args := #[] }], W, { target := .fn (.func gf) lb, args := #[.func (.yield (w.heap.size + 1)) #[] #[]] }, W, gf, #[.func (.yield (w.heap.size + 1)) #[] #[]] ++ lb, W, ?_, ?_, ?_, ?_, fun _ => h1, ?_⟩
 ·rw [← hW, hrc]; exact run_enterLoop_outer _ _ _ _ _
 ·simp only [resolve, hg]
  simp [go_sem]
 ·intro f' hf'; trivial
 ·simp [invoke, go_sem, eg]
 refine (hit (w.heap.size + 1) W (fun x V => Ix x V ∧ V.heap[w.heap.size + 1]? = some (.loop (rc .done (some .ret))) ∧ V.heap[w.heap.size]? = some (.deferred (some []))) gW ?_ ?_).mono ?_
 ·rintro x A A' ⟨h1, h2, h3⟩ hb
  exact ⟨hIx x A A' h1 ⟨hb.os, hb.tape, hb.output, hb.size, fun k hk => hb.block k (by omega)⟩, (hb.block _ (by omega)).trans h2, (hb.block _ (by omega)).trans h3⟩
 ·intro m x W1 hgood hb
  have hl : W1.heap[w.heap.size + 1]? = some (.loop (rc .ready none)) := (hb.block _ (by omega)).trans hL
  have hd : W1.heap[w.heap.size]? = some (.deferred (some [])) := (hb.block _ (by omega)).trans hD
  have hlt : w.heap.size + 1 < W1.heap.size := (Array.getElem?_eq_some_iff.1 hl).1
  have hy := run_yield (P := P) (args := encs x) hl (by rw [hrc]; exact hps x)
  rw [hrc] at hy
  refine ⟨fn, _, assign, body, hy, roundIn_of_wpIn hfn (hassign _ _ x W1 _ ⟨_, run_beginRound hl (by rw [hrc]), ?_⟩)⟩
  have gB : W1.grownBy (W1.putObj (w.heap.size + 1) (.loop { rc .ready none with state := .busy })) (some (w.heap.size + 1)) := grownBy_putObj' _ _ _
  have hl2 : (W1.putObj (w.heap.size + 1) (.loop { rc .ready none with state := .busy })).heap[w.heap.size + 1]? = some (.loop { rc .ready none with state := .busy }) := World.putObj_heap_same hlt
  refine wpIn_mono (hbody _ _ x _ hgood ?_) ?_
  ·exact ⟨gB.os.trans (hb.os.trans gW.os), gB.tape.trans (hb.tape.trans gW.tape), gB.output.trans (hb.output.trans gW.output), Nat.le_trans (Nat.le_trans gW.size hb.size) gB.size, fun k hk => (gB.block k (by omega) (fun e => by cases e; omega)).trans ((hb.block k (by omega)).trans (gW.block k hk (fun e => by cases e)))⟩
  ·rintro e a3 W3 ⟨rfl, hi, hk⟩
   have hl3 : W3.heap[w.heap.size + 1]? = some (.loop { rc .ready none with state := .busy }) := (hk _ (.inl (by omega)) (by rw [World.putObj_size]; omega)).trans hl2
   have hd3 : W3.heap[w.heap.size]? = some (.deferred (some [])) := (hk _ (.inl (by omega)) (by rw [World.putObj_size]; omega)).trans ((World.putObj_heap_other (by omega)).trans hd)
   have g3 : W3.grownBy (W3.putObj (w.heap.size + 1) (.loop (rc .done (some .ret)))) (some (w.heap.size + 1)) := grownBy_putObj' _ _ _
   have hs3 : w.heap.size + 1 < W3.heap.size := (Array.getElem?_eq_some_iff.1 hl3).1
   refine ⟨.bool false, W3.putObj (w.heap.size + 1) (.loop (rc .done (some .ret))), ?_, rfl, ⟨?_, World.putObj_heap_same hs3, (World.putObj_heap_other (by omega)).trans hd3⟩, ?_⟩
   ·have := run_endRound (P := P) (some .ret) hl3
    rw [hrc] at this ⊢
    exact this
   ·exact hIx x _ _ hi ⟨g3.os, g3.tape, g3.output, g3.size, fun k hk => g3.block k (by omega) (fun e => by cases e; omega)⟩
   ·intro k h1 h2
    have hne : k ≠ w.heap.size + 1 := by
     rcases h1 with h | h
     ·omega
     ·have := hKb k h
      omega
    refine (World.putObj_heap_other hne).trans ((hk k ?_ (by rw [World.putObj_size]; exact h2)).trans (World.putObj_heap_other hne))
    rcases h1 with h | h
    ·exact .inl (by omega)
    ·exact .inr h
 ·rintro e W2 ⟨⟨v, rfl⟩, ⟨hN, hg2⟩ | ⟨x, hS, hi, hl, hd⟩⟩
  ·have hl : W2.heap[w.heap.size + 1]? = some (.loop (rc .ready none)) := (hg2.block _ (by omega) (fun e => by cases e)).trans hL
   have hd : W2.heap[w.heap.size]? = some (.deferred (some [])) := (hg2.block _ (by omega) (fun e => by cases e)).trans hD
   have hr := run_endLoop (P := P) hl (by rw [hrc]; simp)
   refine ⟨none, _, by rw [hr, hrc], hdone _ hN ?_ ((World.putObj_heap_other (by omega)).trans hd)⟩
   exact cu.grow1 (grown_trans (r := none) gW hg2) (grownBy_putObj' W2 (w.heap.size + 1) _) (by omega)
  ·have hs2 : w.heap.size + 1 < W2.heap.size := (Array.getElem?_eq_some_iff.1 hl).1
   have hr := run_endLoop (P := P) hl (by rw [hrc]; simp)
   refine ⟨some .ret, _, by rw [hr, hrc], hstop x _ hS (hIx x _ _ hi ?_) ((World.putObj_heap_other (by omega)).trans hd)⟩
   exact ⟨rfl, rfl, rfl, by rw [World.putObj_size]; exact Nat.le_refl _, fun k hk => World.putObj_heap_other (by omega)⟩
def LeastE (n : Nat) (LL : List (List Int)) (a : List Int) (w : World) (e : Ending) (w' : World) : Prop :=
 w.grownBy w' none ∧ ((left_ n LL a [] = none ∧ e = .returned (.tuple #[.int .u64 0, .bool false])) ∨ ∃ l P, left_ n LL a [] = some l ∧ Word l P ∧ holds LL a l = true ∧ e = .returned (.tuple #[.int .u64 (P : Int), .bool true]))
set_option maxRecDepth 100000 in
set_option maxHeartbeats 4000000 in
theorem least (n : Nat) (LL : List (List Int)) (a : List Int) (s : SV) (c m : Nat) (hR : Right n LL s) (ha : ∀ x ∈ a, ok.litIn (n : Int) x = true) (w : World) (hS : Slv w c s) (hT : Tab w) :
  CallsIn Fence.wide (m + 2) Tryz.prog 169 #[.pointer (some ⟨c, 0, none⟩), .int .u64 (setOf a : Int)] w fun e w' => LeastE n LL a w e w' := by
 have HS := hide hS
 have HT := hide hT
 have AN := hide (fun w => answers c (setOf a) w)
 have hcl := hS.lt
 clear hS hT
 refine callsIn_of_wp_marks Tryz.func169 rfl trivial ?_ rfl
 simp only [Tryz.ntmps169, List.size_toArray, List.length_cons, List.length_nil, Nat.reduceAdd, Nat.reduceSub, Array.replicate_succ, Array.replicate_zero, List.push_toArray, List.append_toArray, List.nil_append, List.cons_append]
 gi_wp2_with (refine ⟨trivial, ?_⟩; gi_at_call 196; refine (callsIn_wide.2 (unhide AN _)).mono ?_; rintro e w5 ⟨rfl, h5⟩; have H5 := hide h5; clear h5)
 try simp only [World.size_alloc]
 have h5 := unhide H5
 have r0 : Boxed w5 w.heap.size 153 (.int .u64 0) := by
  rw [h5]
  exact (((Boxed.new w _ _).alloc _).alloc _).alloc _
 have r1 : Boxed w5 (w.heap.size + 1) 4 (.bool false) := by
  rw [h5]
  have := Boxed.new (w.alloc (.cells #[.int .u64 0] 153)) 4 (.bool false)
  rw [World.size_alloc] at this
  exact (this.alloc _).alloc _
 have r2 : Boxed w5 (w.heap.size + 1 + 1) 163 (.pointer (some ⟨c, 0, none⟩)) := by
  rw [h5]
  have := Boxed.new ((w.alloc (.cells #[.int .u64 0] 153)).alloc (.cells #[.bool false] 4)) 163 (.pointer (some ⟨c, 0, none⟩))
  rw [World.size_alloc, World.size_alloc] at this
  exact this.alloc _
 have r3 : Boxed w5 (w.heap.size + 1 + 1 + 1) 153 (.int .u64 (setOf a : Int)) := by
  rw [h5]
  have := Boxed.new (((w.alloc (.cells #[.int .u64 0] 153)).alloc (.cells #[.bool false] 4)).alloc (.cells #[.pointer (some ⟨c, 0, none⟩)] 163)) 153 (.int .u64 (setOf a : Int))
  rw [World.size_alloc, World.size_alloc, World.size_alloc] at this
  exact this
 have g5 : w.grownBy w5 none := by
  rw [h5]
  exact grown_trans (grown_trans (grown_trans (r := none) (World.grownBy_alloc _ _ none) (World.grownBy_alloc _ _ none)) (World.grownBy_alloc _ _ none)) (World.grownBy_alloc _ _ none)
 have hs5 : w5.heap.size = w.heap.size + 1 + 1 + 1 + 1 := by
  rw [h5]
  simp
 clear h5 H5 AN
 refine range_first (α := List Int × Nat) (by omega) (gf := 208) (lb := #[.pointer (some ⟨w.heap.size + 1 + 1, 0, none⟩), .pointer (some ⟨w.heap.size + 1 + 1 + 1, 0, none⟩)]) rfl (enters_of Tryz.func208 (by kernel_rfl) rfl)
  (fun x => #[.int .u64 (x.2 : Int)]) (fun _ => rfl) (fun x => Word x.1 x.2 ∧ holds LL a x.1 = true) (left_ n LL a [] = none) (fun x => left_ n LL a [] = some x.1 ∧ Word x.1 x.2 ∧ holds LL a x.1 = true) (fun k => k = w.heap.size + 1 + 1 ∨ k = c) ?it
  (fun x W => Boxed W w.heap.size 153 (.int .u64 (x.2 : Int)) ∧ Boxed W (w.heap.size + 1) 4 (.bool true) ∧ Below w.heap.size w W) ?ix ?kb
  (fun x => { tmps := #[.pointer (some ⟨c, 0, none⟩), .int .u64 (setOf a : Int), undef, undef, .pointer (some ⟨w.heap.size, 0, none⟩), .pointer (some ⟨w.heap.size + 1, 0, none⟩), .int .u64 (x.2 : Int), .pointer (some ⟨c, 0, none⟩), .int .u64 (setOf a : Int), .func (.func 208) #[] #[.pointer (some ⟨w.heap.size + 1 + 1, 0, none⟩), .pointer (some ⟨w.heap.size + 1 + 1 + 1, 0, none⟩)], .int .u64 (x.2 : Int), undef], defers := [] }) ?assign ?body ?done ?stop
 case it =>
  intro lp W Jx gW hJ hY
  refine (iter n LL a s (w.heap.size + 1 + 1) (w.heap.size + 1 + 1 + 1) c lp _ hR ha W (fun l V => ∃ P, Word l P ∧ holds LL a l = true ∧ Jx (l, P) V) ?_ ?_ (r2.kept gW (fun e => by cases e)) (r3.kept gW (fun e => by cases e)) ((unhide HS).kept (grown_trans g5 gW)) ((unhide HT).below (sl.below_of (grown_trans g5 gW)))).mono ?_
  ·rintro x A A' ⟨P, h1, h2, h3⟩ hb
   exact ⟨P, h1, h2, hJ _ _ _ h3 hb⟩
  ·intro m x P W1 h1 h2 hb
   obtain ⟨f, t, asg, bd, hy, hr⟩ := hY m (x, P) W1 ⟨h1, h2⟩ hb
   exact ⟨f, t, asg, bd, hy, hr.mono (fun e V h => ⟨h.1, ⟨P, h1, h2, h.2.1⟩, fun k hk => h.2.2 k hk⟩)⟩
  ·rintro e V ⟨hv, h | ⟨l, h1, P, h2, h3, h4⟩⟩
   ·exact ⟨hv, .inl h⟩
   ·exact ⟨hv, .inr ⟨(l, P), ⟨h1, h2, h3⟩, h4⟩⟩
 case ix =>
  rintro x A A' ⟨h1, h2, h3⟩ hb
  exact ⟨(hb.block _ (by omega)).trans h1, (hb.block _ (by omega)).trans h2, h3.trans ⟨hb.os, hb.tape, hb.output, hb.size, fun k hk => hb.block k (by omega)⟩⟩
 case kb =>
  rintro k (rfl | rfl) <;> omega
 case assign =>
  intro l m x W K hK
  gi_wp2
  exact hK
 case body =>
  rintro l m ⟨x, P⟩ W ⟨hw, hh⟩ hb
  have q0 : Boxed W w.heap.size 153 (.int .u64 0) := (hb.block _ (by omega)).trans r0
  have q1 : Boxed W (w.heap.size + 1) 4 (.bool false) := (hb.block _ (by omega)).trans r1
  have c0 := q0.cell
  have f0 := q0.frozen
  have q1' := q1.kept (sl.grown_setCell W w.heap.size 0 (.int .u64 (P : Int))) (fun e => by simp at e)
  have c1 := q1'.cell
  have f1 := q1'.frozen
  have HB := hide hb
  have Q0 := hide q0
  have Q1 := hide q1'
  clear hb q0 q1 q1'
  gi_wp2
  refine ⟨⟨?_, (unhide Q1).set _, ?_⟩, ?_⟩
  ·exact ((unhide Q0).set _).kept (sl.grown_setCell _ (w.heap.size + 1) 0 (.bool true)) (fun e => by simp at e)
  ·have k1 := sl.grown_setCell W w.heap.size 0 (.int .u64 (P : Int))
   have k2 := sl.grown_setCell (W.setCell ⟨w.heap.size, 0, none⟩ (.int .u64 (P : Int))) (w.heap.size + 1) 0 (.bool true)
   have hb := unhide HB
   have hz := hb.size
   exact ⟨k2.os.trans (k1.os.trans (hb.os.trans g5.os)), k2.tape.trans (k1.tape.trans (hb.tape.trans g5.tape)), k2.output.trans (k1.output.trans (hb.output.trans g5.output)), Nat.le_trans g5.size (Nat.le_trans hz (Nat.le_trans k1.size k2.size)),
    fun k hk => (k2.block k (Nat.lt_of_lt_of_le (by omega) k1.size) (fun e => by cases e; omega)).trans ((k1.block k (by omega) (fun e => by cases e; omega)).trans ((hb.block k (by omega)).trans (g5.block k hk (fun e => by cases e))))⟩
  ·intro k hk hlt
   have k1 := sl.grown_setCell W w.heap.size 0 (.int .u64 (P : Int))
   have k2 := sl.grown_setCell (W.setCell ⟨w.heap.size, 0, none⟩ (.int .u64 (P : Int))) (w.heap.size + 1) 0 (.bool true)
   exact (k2.block k (Nat.lt_of_lt_of_le hlt k1.size) (fun e => by cases e; omega)).trans (k1.block k hlt (fun e => by cases e; omega))
 case done =>
  intro W hN hg hd
  rw [hs5] at hd
  have q0 := r0.kept hg (fun e => by cases e)
  have q1 := r1.kept hg (fun e => by cases e)
  have c0 := q0.cell
  have f0 := q0.frozen
  have q1' := q1.kept (sl.grown_setCell W w.heap.size 0 (.int .u64 0)) (fun e => by simp at e)
  have c1 := q1'.cell
  have f1 := q1'.frozen
  have HN := hide hN
  have HG := hide hg
  have Q0 := hide q0
  have Q1 := hide q1'
  clear hg q0 q1 q1' hN
  gi_wp2
  rw [hs5]
  have k1 := sl.grown_setCell W w.heap.size 0 (.int .u64 0)
  have k2 := sl.grown_setCell (W.setCell ⟨w.heap.size, 0, none⟩ (.int .u64 0)) (w.heap.size + 1) 0 (.bool false)
  have hd' := (KeepsOthers.setCell (W.setCell ⟨w.heap.size, 0, none⟩ (.int .u64 0)) ⟨w.heap.size + 1, 0, none⟩ (.bool false)).same (w.heap.size + 1 + 1 + 1 + 1) _ ((KeepsOthers.setCell W ⟨w.heap.size, 0, none⟩ (.int .u64 0)).same (w.heap.size + 1 + 1 + 1 + 1) _ hd rfl) rfl
  refine ⟨by simp, .inl ⟨_, _, rfl, run_takeDeferred hd', ?_⟩⟩
  have gz := grownBy_putObj' ((W.setCell ⟨w.heap.size, 0, none⟩ (.int .u64 0)).setCell ⟨w.heap.size + 1, 0, none⟩ (.bool false)) (w.heap.size + 1 + 1 + 1 + 1) (.deferred none)
  have z0 := ((((unhide Q0).set (.int .u64 0)).kept k2 (fun e => by simp at e)).kept gz (fun e => by have := Option.some.inj e; omega)).cell
  have z1 := (((unhide Q1).set (.bool false)).kept gz (fun e => by have := Option.some.inj e; omega)).cell
  refine ⟨.tuple #[.int .u64 0, .bool false], by simp [results, Tryz.f169, go_sem, z0, z1], ?_, .inl ⟨unhide HN, rfl⟩⟩
  exact cu.grow1 (cu.grow1 (cu.grow1 (grown_trans (r := none) g5 (unhide HG)) k1 (by omega)) k2 (by omega)) gz (by omega)
 case stop =>
  rintro ⟨x, P⟩ W ⟨h1, h2, h3⟩ ⟨hi1, hi2, hi3⟩ hd
  rw [hs5] at hd
  gi_wp2
  refine ⟨by simp, .inl ⟨_, _, rfl, run_takeDeferred hd, ?_⟩⟩
  have gz := grownBy_putObj' W (w.heap.size + 1 + 1 + 1 + 1) (.deferred none)
  have z0 := (hi1.kept gz (fun e => by have := Option.some.inj e; omega)).cell
  have z1 := (hi2.kept gz (fun e => by have := Option.some.inj e; omega)).cell
  refine ⟨.tuple #[.int .u64 (P : Int), .bool true], by simp [results, Tryz.f169, go_sem, z0, z1], ?_, .inr ⟨x, P, h1, h2, h3, rfl⟩⟩
  exact cu.grow1 (sl.of_below hi3) gz (by omega)
end Go.Proofs.YtnlllcgcaddhmaaGreatDoor.ks
namespace Go.Proofs.YtnlllcgcaddhmaaGreatDoor.ks
open Go.ChangeShapes Go.WideShapes Go.ChangeAt Go.RowKit
open kd (SV Slv)
open km (left_ plc wdB)
open lq (Bits holds)
open srt (Tab)
open lits (okB)
open bset (setOf setOf_lt placeN)
open wo (Made)
open sl (Sl ints hide unhide grown_refl grown_trans own_stored ints_length)
set_option linter.unusedVariables false
theorem part_skip (L : List Int) (k : Nat) (h : k < L.length) (h0 : L.getD k 0 = 0) : sl.part L (k + 1) = sl.part L k := by
 have e : L[k] = 0 := by rw [List.getD_eq_getElem?_getD, List.getElem?_eq_getElem h] at h0; exact h0
 unfold sl.part
 rw [List.take_succ_eq_append_getElem h, e, show L.length - k = (L.length - (k + 1)) + 1 by omega, List.replicate_succ, List.append_assoc]
 rfl
theorem left_bits {n : Nat} {LL : List (List Int)} {a l : List Int} (h : left_ n LL a [] = some l) : Bits n l := by
 unfold km.left_ at h
 exact (lq.lst_some h).1
theorem word_at {l : List Int} {P k : Nat} (h : Word l P) (hk : k < l.length) : P.testBit (2 * k) = decide (l.getD k 0 = 1) := by
 rw [h.2, wdB, show 2 * k / 2 = k by omega, decide_eq_true hk, Bool.true_and, decide_eq_decide]
 unfold km.plc
 split
 ·rename_i e; exact ⟨fun _ => e, fun _ => rfl⟩
 ·rename_i e; constructor
  ·intro z; omega
  ·intro z; exact absurd z e
set_option maxRecDepth 100000 in
set_option maxHeartbeats 4000000 in
theorem leastAssignment (n : Nat) (LL : List (List Int)) (a : List Int) (s : SV) (c : Nat) (hR : Right n LL s) (ha : ∀ x ∈ a, ok.litIn (n : Int) x = true) (w : World) (hS : Slv w c s) (hT : Tab w) :
  Calls Tryz.prog 126 #[.pointer (some ⟨c, 0, none⟩), .int .u64 (setOf a : Int)] w fun e w' => lq.FromE w (left_ n LL a []) e w' := by
 have C := hide (callsIn_wide.1 (least n LL a s c 0 hR ha w hS hT))
 have HS := hide hS
 have HR := hide hR
 obtain ⟨i0, hi, hz0, hz1, hz2⟩ := info_parts sl.info3
 have h24 := hR.n24
 clear hS hT hR ha
 go_enter Tryz.func126, Tryz.ntmps126
 go_wp2_with fail
 refine (unhide C).mono ?_
 rintro e w1 ⟨g1, ⟨hN, rfl⟩ | ⟨l, P, hN, hW, hh, rfl⟩⟩
 ·have G1 := hide g1
  have HN := hide hN
  clear g1 hN
  go_wp2_with fail
  go_ret2
  rw [unhide HN]
  exact ⟨_, rfl, World.ownsRow_lit w1 #[] 0 (unhide G1).size (Nat.zero_le _) rfl, grown_trans (unhide G1) (World.grownBy_alloc _ _ _)⟩
 ·have hb := left_bits hN
  have hl := hb.1
  have HN := hide hN
  have x0 := ((unhide HS).kept g1).cell (k := 0) (by decide)
  rw [kd.at0, (unhide HR).sn] at x0
  have G1 := hide g1
  have HW := hide hW
  have hP := hW.1
  have HBT := hide hb.2
  subst hl
  have Z : Hid (∀ w' : World, w'.ownsRow w1.heap.size 3 1 (.slice (some ⟨w1.heap.size, 0, none⟩) l.length l.length) l.length (madeCells #[Value.int .i64 0] l.length).toList → w'.ownsRow w1.heap.size 3 1 (.slice (some ⟨w1.heap.size, 0, none⟩) l.length l.length) l.length (ints (sl.part l 0))) := by
   intro w' h
   have e : (madeCells #[Value.int .i64 0] l.length).toList = ints (sl.part l 0) := by
    rw [sl.part_zero, toList_madeCells_one]
    simp [ints]
   rw [e] at h
   exact h
  clear g1 hN hW hh hb C HS HR
  go_wp2_with (first | (at_make; refine wpList_make_full _ rfl _ _ 34 rfl w1.heap.size 3 i0 (.int .i64 0) 1 Tryz.underlying34 hi hz0 hz1 _ _ _ _ l.length rfl rfl (by rfl) (by rfl) ?b1 ?b2 ?b3 ?_))
  case b1 => rw [hz2]; omega
  case b2 => unfold maxLen; omega
  case b3 => exact Nat.le_refl _
  intro w2 hown hgrow
  have O := hide (unhide Z w2 hown)
  have G := hide hgrow
  clear hown hgrow Z x0
  go_wp2_with fail
  go_loopw [26] (fun i wr => ∃ k : Nat, k ≤ l.length ∧ i = .int .i64 k ∧ wr.ownsRow w1.heap.size 3 1 (.slice (some ⟨w1.heap.size, 0, none⟩) l.length l.length) l.length (ints (sl.part l k)) ∧ w1.grownBy wr none) (fun i _ => l.length - (intOf i).toNat)
  case atStart => exact ⟨0, Nat.zero_le _, rfl, unhide O, unhide G⟩
  case round =>
   obtain ⟨k, hk, rfl, hown, hg⟩ := hrel
   by_cases hlt : k < l.length
   ·have c2 : wr.cell? ⟨w1.heap.size, k, none⟩ = (ints (sl.part l k))[k]? := hown.cellAt k (by omega)
    obtain ⟨x, hx⟩ : ∃ x, (ints (sl.part l k))[k]? = some x := ⟨_, List.getElem?_eq_getElem (by rw [ints_length, sl.part_length _ _ hk]; exact hlt)⟩
    rw [hx] at c2
    have c3 : wr.frozen? ⟨w1.heap.size, k, none⟩ = false := hown.frozenAt k
    have hi' : (k : Int) < (l.length : Int) := by omega
    have hw := word_at (unhide HW) hlt
    have hpl := srt.place_pos k (by omega)
    have CH := fun w' => bset.hasC P ((k : Int) + 1) w' hP hpl.1
    rw [hpl.2, hw] at CH
    by_cases hv : l.getD k 0 = 1
    ·rw [decide_eq_true hv] at CH
     have O' := hide (own_stored l.length (sl.part_length l k hk) (sl.part_length l (k + 1) hlt) hown k 1 (by rw [← hv]; exact sl.part_set l k hlt))
     have G' : Hid (w1.grownBy (wr.setCell ⟨w1.heap.size, k, none⟩ (.int .i64 1)) none) := ⟨hg.os, hg.tape, hg.output, by simpa [World.setCell] using hg.size, fun j hj _ => (Below.heap_setCell _ _ _ _ (by show j ≠ w1.heap.size; omega)).trans (hg.block j hj (fun e => by cases e))⟩
     have CH' := hide CH
     clear hown hg hx O G hv hw CH
     go_wp2_with fail
     refine (unhide CH' _).mono ?_
     rintro e w3 ⟨rfl, hw⟩
     have hw' := hw.symm
     clear hw
     subst hw'
     go_wp2_with fail
     go_roundw
     case rel => exact ⟨k + 1, by omega, by go_num, unhide O', unhide G'⟩
     case measure => simp [intOf]; omega
    ·rw [decide_eq_false hv] at CH
     have hv0 : l.getD k 0 = 0 := by
      have hm : l.getD k 0 ∈ l := by
       rw [List.getD_eq_getElem?_getD, List.getElem?_eq_getElem hlt]
       exact List.getElem_mem hlt
      rcases unhide HBT _ hm with z | z
      ·exact z
      ·exact absurd z hv
     rw [← part_skip l k hlt hv0] at hown
     have O' := hide hown
     have G' := hide hg
     have CH' := hide CH
     clear hown hg hx O G hv hw CH hv0
     go_wp2_with fail
     refine (unhide CH' _).mono ?_
     rintro e w3 ⟨rfl, hw⟩
     have hw' := hw.symm
     clear hw
     subst hw'
     go_wp2_with fail
     go_roundw
     case rel => exact ⟨k + 1, by omega, by go_num, unhide O', unhide G'⟩
     case measure => simp [intOf]; omega
   ·have hk' : k = l.length := by omega
    subst hk'
    have O' := hide hown
    have G' := hide hg
    clear hown hg O G
    go_wp2_with fail
    go_ret2
    rw [unhide HN]
    refine ⟨_, rfl, ?_, grown_trans (unhide G1) (unhide G')⟩
    have o := unhide O'
    rw [sl.part_all] at o
    exact css.own_mono o (unhide G1).size
end Go.Proofs.YtnlllcgcaddhmaaGreatDoor.ks
namespace Go.Proofs.YtnlllcgcaddhmaaGreatDoor.ks
open Go.ChangeShapes Go.WideShapes Go.ChangeAt Go.RowKit
open kd (SV Slv)
open km (left_)
open lq (solveL FromE lits_in solve_no made_sub)
open srt (Tab)
open bset (setOf setOf_lt)
open css (Sls tot)
open cf (Box)
open ok (cnfB litIn)
open wo (Made)
open sl (Sl ints hide unhide grown_refl grown_trans)
set_option linter.unusedVariables false
theorem cnf_parts {n : Int} {LL : List (List Int)} (h : cnfB n LL = true) : ∃ m : Nat, n = (m : Int) ∧ m ≤ 24 ∧ LL.length ≤ 120 := by
 unfold ok.cnfB at h
 rw [Bool.and_eq_true, Bool.and_eq_true, decide_eq_true_iff, decide_eq_true_iff] at h
 obtain ⟨m, rfl⟩ := Int.eq_ofNat_of_zero_le h.1.1.1
 exact ⟨m, rfl, by omega, h.1.2⟩
theorem solve_yes {m : Nat} {LL : List (List Int)} {a : List Int} (hc : cnfB (m : Int) LL = true) (hl : a.all (litIn (m : Int)) = true) : solveL (m : Int) LL a = left_ m LL a [] := by
 unfold lq.solveL
 rw [hc, hl]
 rfl
set_option maxRecDepth 100000 in
set_option maxHeartbeats 4000000 in
theorem implSolveWith (v u : Value) (n : Int) (LL : List (List Int)) (a : List Int) (w : World) (hT : Tab w) (hn : tot LL ≤ 1048576) (ha : a.length ≤ 1048576) (hv : Sls w v LL) (hu : Sl w u a) :
  Calls Tryz.prog 75 #[.agg #[.int .i64 n, v], u] w fun e w' => FromE w (solveL n LL a) e w' := by
 obtain ⟨O, hO⟩ : ∃ O, solveL n LL a = O := ⟨_, rfl⟩
 rw [hO]
 have HO := hide hO
 clear hO
 have g0 := World.grownBy_alloc w (.cells #[.int .i64 n, v] 26) none
 have C1 := ok.implCnfOk v n LL _ hn (hv.kept g0)
 have F0 := hide (Box.new 26 w (.int .i64 n) v)
 have HU := hide (hu.kept g0 (.inl rfl))
 have HV := hide (hv.kept g0)
 have HT := hide (hT.kept g0)
 have G0 := hide g0
 have x0 := (unhide F0).c0
 have x1 := (unhide F0).c1
 clear g0 hv hu hT
 cases hc : cnfB n LL
 ·rw [hc] at C1
  have CC := hide C1
  have E := hide ((unhide HO).symm.trans (solve_no (n := n) (LL := LL) (a := a) (by rw [hc]; rfl)))
  clear C1 hc HV HU
  go_enter Tryz.func75, Tryz.ntmps75
  go_wp2_with fail
  refine (unhide CC).mono ?_; rintro e w1 ⟨rfl, g1⟩
  have G1 := hide (grown_trans (r := none) (unhide G0) g1)
  clear g1 CC x0 x1
  go_wp2_with fail
  go_ret2
  rw [unhide E]
  exact ⟨_, rfl, made_sub (unhide G1) (app.made_nil _)⟩
 rw [hc] at C1
 have CC := hide C1
 have HC := hide hc
 clear C1 hc
 go_enter Tryz.func75, Tryz.ntmps75
 go_wp2_with fail
 refine (unhide CC).mono ?_; rintro e w1 ⟨rfl, g1⟩
 have G1 := hide (grown_trans (r := none) (unhide G0) g1)
 have F1 := hide ((unhide F0).kept g1)
 have U1 := hide ((unhide HU).kept g1 (.inl rfl))
 have V1 := hide ((unhide HV).kept g1)
 have T1 := hide ((unhide HT).kept g1)
 have y0 := (unhide F1).c0
 have y1 := (unhide F1).c1
 have CL := ok.literalsOf u a n w1 ha (unhide U1)
 clear g1 CC x0 x1 G0 F0 HU HV HT
 cases hl : a.all (litIn n)
 ·rw [hl] at CL
  have C2 := hide CL
  have E := hide ((unhide HO).symm.trans (solve_no (n := n) (LL := LL) (a := a) (by rw [hl, Bool.and_false])))
  clear CL hl V1 U1 HC
  go_wp2_with fail
  refine (unhide C2).mono ?_; rintro e w2 ⟨rfl, hw⟩; have hw' := hw.symm; clear hw; subst hw'
  go_wp2_with fail
  go_ret2
  rw [unhide E]
  exact ⟨_, rfl, made_sub (unhide G1) (app.made_nil _)⟩
 rw [hl] at CL
 have C2 := hide CL
 obtain ⟨m, rfl, h24, h120⟩ := cnf_parts (unhide HC)
 have E := (unhide HO).symm.trans (solve_yes (unhide HC) hl)
 subst E
 have HA : Hid (∀ x ∈ a, litIn (m : Int) x = true) := List.all_eq_true.1 hl
 have CS := hide (solverOf v m LL w1 (unhide T1) h24 h120 hn (lits_in (unhide HC)) (unhide V1))
 clear CL hl HO V1 F1
 go_wp2_with fail
 refine (unhide C2).mono ?_; rintro e w2 ⟨rfl, hw⟩; have hw' := hw.symm; clear hw; subst hw'
 go_wp2_with fail
 refine (unhide CS).mono ?_; rintro e w2 ⟨c, s, rfl, h1, h2, g2⟩
 have H1 := hide h1
 have H2 := hide h2
 have G2 := hide g2
 have CO := hide (bset.litsOf u a w2 ha ((unhide U1).kept g2 (.inl rfl)))
 have CB := hide (leastAssignment m LL a s c h2 (unhide HA) w2 h1 ((unhide T1).kept g2))
 clear h1 h2 g2 y0 y1 CS C2
 go_wp2_with fail
 refine (unhide CO).mono ?_; rintro e w3 ⟨rfl, hw⟩; have hw' := hw.symm; clear hw; subst hw'
 go_wp2_with fail
 refine (unhide CB).mono ?_; rintro e w3 ⟨r, rfl, m3⟩
 have M3 := hide m3
 clear m3 CB CO
 go_wp2_with fail
 go_ret2
 exact ⟨r, rfl, made_sub (grown_trans (unhide G1) (unhide G2)) (unhide M3)⟩
set_option maxRecDepth 100000 in
set_option maxHeartbeats 4000000 in
theorem implSolve (v : Value) (n : Int) (LL : List (List Int)) (w : World) (hT : Tab w) (hn : tot LL ≤ 1048576) (hv : Sls w v LL) :
  Calls Tryz.prog 36 #[.agg #[.int .i64 n, v]] w fun e w' => FromE w (solveL n LL []) e w' := by
 have g0 := World.grownBy_alloc w (.cells #[.int .i64 n, v] 26) none
 have F0 := hide (Box.new 26 w (.int .i64 n) v)
 have C := hide (implSolveWith v (.slice none 0 0) n LL [] _ (hT.kept g0) hn (Nat.zero_le _) (hv.kept g0) ⟨none, 0, rfl, .inl rfl⟩)
 have G0 := hide g0
 have x0 := (unhide F0).c0
 have x1 := (unhide F0).c1
 clear g0 hv hT
 go_enter Tryz.func36, Tryz.ntmps36
 go_wp2_with fail
 refine (unhide C).mono ?_; rintro e w3 ⟨r, rfl, m3⟩
 have M3 := hide m3
 clear m3 C
 go_wp2_with fail
 go_ret2
 exact ⟨r, rfl, made_sub (unhide G0) (unhide M3)⟩
end Go.Proofs.YtnlllcgcaddhmaaGreatDoor.ks
namespace Go.Proofs.YtnlllcgcaddhmaaGreatDoor.ks
open lq (solveL FromE)
open css (Sls tot)
open sl (ints)
set_option linter.unusedVariables false
theorem solve_len (n : Int) (LL : List (List Int)) (a : List Int) : ((solveL n LL a).getD []).length ≤ 24 := by
 unfold lq.solveL
 split
 ·rename_i h
  rw [Bool.and_eq_true] at h
  obtain ⟨m, rfl, h24, _⟩ := cnf_parts h.1
  cases e : lq.lst ((m : Int)).toNat (lq.holds LL a) with
  | none => exact Nat.zero_le _
  | some l =>
   have := (lq.lst_some e).1.1
   show l.length ≤ 24
   omega
 ·exact Nat.zero_le _
end Go.Proofs.YtnlllcgcaddhmaaGreatDoor.ks
