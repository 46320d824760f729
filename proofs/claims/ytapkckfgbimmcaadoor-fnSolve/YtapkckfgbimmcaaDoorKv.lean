/- The solver's least answer: a range over a function that returns in its first round. -/
import Derived.Test.YtapkckfgbimmcaaDoorKu
import Derived.Test.YtapkckfgbimmcaaDoorCu
namespace Go.Proofs.YtapkckfgbimmcaaDoor.ks
open Go.RowKit Go.Shelf
open Go.Proofs.YtapkckfgbimmcaaDoor.srt (Tab swp oppN)
open Go.Proofs.YtapkckfgbimmcaaDoor.bset (placeN setOf)
open Go.Proofs.YtapkckfgbimmcaaDoor.kd (SV Slv LostE lost)
open Go.Proofs.YtapkckfgbimmcaaDoor.km (wdB plc Sat Conf Path left_)
open Go.Proofs.YtapkckfgbimmcaaDoor.lq (holds)
open Go.Proofs.YtapkckfgbimmcaaDoor.sl (hide unhide grown_refl grown_trans)
set_option linter.unusedVariables false
attribute [local go_sem] Oper.semAt_some
/-- a range over a function whose round, if there is one, returns from the caller: the function ranged over may write its own blocks behind it -/
theorem range_first {α : Type} {P : Program} {n : Nat} {g : Operand} {ps : Array Tmp} {assign body : Code} {Q : Exit → Act → World → Prop} {a : Act} {w : World} (h1 : 1 ≤ n) {gf : Nat} {lb : Array Value} (hg : a.eval g = .func (.func gf) #[] lb) (eg : ∀ args w, (callFunc gf args).run P w = .ok (.enter gf args) w)
    (encs : α → Array Value) (hps : ∀ x, (encs x).size = ps.size) (good : α → Prop) (N : Prop) (S : α → Prop) (Kb : Nat → Prop)
    (hit : ∀ (lp : Nat) (W : World) (Jx : α → World → Prop), w.grownBy W none → (∀ x A A', Jx x A → Below W.heap.size A A' → Jx x A') →
      (∀ m x W1, good x → Below W.heap.size W W1 → YieldAt Fence.wide m P lp (encs x) W1 fun e W' => e = .returned (.bool false) ∧ Jx x W' ∧ (∀ k, (W.heap.size ≤ k ∨ Kb k) → k < W1.heap.size → W'.heap[k]? = W1.heap[k]?)) →
      CallsIn Fence.wide (n - 1) P gf (#[.func (.yield lp) #[] #[]] ++ lb) W fun e W' => (∃ v, e = .returned v) ∧ ((N ∧ W.grownBy W' none) ∨ ∃ x, S x ∧ Jx x W'))
    (Ix : α → World → Prop) (hIx : ∀ x A A', Ix x A → Below w.heap.size A A' → Ix x A') (hKb : ∀ k, Kb k → k < w.heap.size) (a₁ : α → Act)
    (hassign : ∀ (l m : Nat) (x : α) (W : World) (K : Act → World → Prop), K (a₁ x) W → assign.wpIn (Fence.wide.inRound l) m P (Exit.then K (fun _ _ _ => False)) { tmps := (ps.zip (encs x)).foldl (fun t (p, v) => t.setIfInBounds p v) a.tmps, defers := [] } W)
    (hbody : ∀ (l m : Nat) (x : α) (W : World), good x → Below w.heap.size w W → body.wpIn (Fence.wide.inRound l) m P (fun e _ W' => e = .ret ∧ Ix x W' ∧ (∀ k, (w.heap.size ≤ k ∨ Kb k) → k < W.heap.size → W'.heap[k]? = W.heap[k]?)) (a₁ x) W)
    (hdone : ∀ W, N → w.grownBy W none → W.heap[w.heap.size]? = some (.deferred (some [])) → Q .normal { a with defers := { target := .collected w.heap.size, args := #[] } :: a.defers } W)
    (hstop : ∀ x W, S x → Ix x W → W.heap[w.heap.size]? = some (.deferred (some [])) → Code.ret.wpIn Fence.wide n P Q { a with defers := { target := .collected w.heap.size, args := #[] } :: a.defers } W) :
    (Code.rangeFunc g ps assign body).wpIn Fence.wide n P Q a w := by
  refine wpIn_rangeFunc ?_
  intro fn hfn
  obtain ⟨rc, hrc⟩ : ∃ rc : LoopState → Option Code → Loop, rc = fun st pe => { state := st, pending := pe, fn, tmps := a.tmps, params := ps, assign, body, defers := w.heap.size } := ⟨_, rfl⟩
  obtain ⟨W, hW⟩ : ∃ W, (w.alloc (.deferred (some []))).alloc (.loop (rc .ready none)) = W := ⟨_, rfl⟩
  have hz : W.heap.size = w.heap.size + 1 + 1 := by rw [← hW]; simp
  have gW : w.grownBy W none := by rw [← hW]; exact grown_trans (World.grownBy_alloc _ _ none) (World.grownBy_alloc _ _ none)
  have hL : W.heap[w.heap.size + 1]? = some (.loop (rc .ready none)) := by
    have := World.alloc_heap_new (w.alloc (.deferred (some []))) (.loop (rc .ready none))
    rw [World.size_alloc, hW] at this
    exact this
  have hD : W.heap[w.heap.size]? = some (.deferred (some [])) := by
    have := (World.grownBy_alloc (w.alloc (.deferred (some []))) (.loop (rc .ready none)) none).block w.heap.size (by simp) (fun e => by cases e)
    rw [hW] at this
    exact this.trans (World.alloc_heap_new w _)
  refine ⟨w.heap.size + 1, [{ target := .collected w.heap.size, args := #[] }], W, { target := .fn (.func gf) lb, args := #[.func (.yield (w.heap.size + 1)) #[] #[]] }, W, gf, #[.func (.yield (w.heap.size + 1)) #[] #[]] ++ lb, W, ?_, ?_, ?_, ?_, fun _ => h1, ?_⟩
  · rw [← hW, hrc]; exact run_enterLoop_outer _ _ _ _ _
  · simp only [resolve, hg]
    simp [go_sem]
  · intro f' hf'; trivial
  · simp [invoke, go_sem, eg]
  refine (hit (w.heap.size + 1) W (fun x V => Ix x V ∧ V.heap[w.heap.size + 1]? = some (.loop (rc .done (some .ret))) ∧ V.heap[w.heap.size]? = some (.deferred (some []))) gW ?_ ?_).mono ?_
  · rintro x A A' ⟨h1, h2, h3⟩ hb
    exact ⟨hIx x A A' h1 ⟨hb.os, hb.tape, hb.output, hb.size, fun k hk => hb.block k (by omega)⟩, (hb.block _ (by omega)).trans h2, (hb.block _ (by omega)).trans h3⟩
  · intro m x W1 hgood hb
    have hl : W1.heap[w.heap.size + 1]? = some (.loop (rc .ready none)) := (hb.block _ (by omega)).trans hL
    have hd : W1.heap[w.heap.size]? = some (.deferred (some [])) := (hb.block _ (by omega)).trans hD
    have hlt : w.heap.size + 1 < W1.heap.size := (Array.getElem?_eq_some_iff.1 hl).1
    have hy := run_yield (P := P) (args := encs x) hl (by rw [hrc]; exact hps x)
    rw [hrc] at hy
    refine ⟨fn, _, assign, body, hy, roundIn_of_wpIn hfn (hassign _ _ x W1 _ ⟨_, run_beginRound hl (by rw [hrc]), ?_⟩)⟩
    have gB : W1.grownBy (W1.putObj (w.heap.size + 1) (.loop { rc .ready none with state := .busy })) (some (w.heap.size + 1)) := grownBy_putObj' _ _ _
    have hl2 : (W1.putObj (w.heap.size + 1) (.loop { rc .ready none with state := .busy })).heap[w.heap.size + 1]? = some (.loop { rc .ready none with state := .busy }) := World.putObj_heap_same hlt
    refine wpIn_mono (hbody _ _ x _ hgood ?_) ?_
    · exact ⟨gB.os.trans (hb.os.trans gW.os), gB.tape.trans (hb.tape.trans gW.tape), gB.output.trans (hb.output.trans gW.output), Nat.le_trans (Nat.le_trans gW.size hb.size) gB.size, fun k hk => (gB.block k (by omega) (fun e => by cases e; omega)).trans ((hb.block k (by omega)).trans (gW.block k hk (fun e => by cases e)))⟩
    · rintro e a3 W3 ⟨rfl, hi, hk⟩
      have hl3 : W3.heap[w.heap.size + 1]? = some (.loop { rc .ready none with state := .busy }) := (hk _ (.inl (by omega)) (by rw [World.putObj_size]; omega)).trans hl2
      have hd3 : W3.heap[w.heap.size]? = some (.deferred (some [])) := (hk _ (.inl (by omega)) (by rw [World.putObj_size]; omega)).trans ((World.putObj_heap_other (by omega)).trans hd)
      have g3 : W3.grownBy (W3.putObj (w.heap.size + 1) (.loop (rc .done (some .ret)))) (some (w.heap.size + 1)) := grownBy_putObj' _ _ _
      have hs3 : w.heap.size + 1 < W3.heap.size := (Array.getElem?_eq_some_iff.1 hl3).1
      refine ⟨.bool false, W3.putObj (w.heap.size + 1) (.loop (rc .done (some .ret))), ?_, rfl, ⟨?_, World.putObj_heap_same hs3, (World.putObj_heap_other (by omega)).trans hd3⟩, ?_⟩
      · have := run_endRound (P := P) (some .ret) hl3
        rw [hrc] at this ⊢
        exact this
      · exact hIx x _ _ hi ⟨g3.os, g3.tape, g3.output, g3.size, fun k hk => g3.block k (by omega) (fun e => by cases e; omega)⟩
      · intro k h1 h2
        have hne : k ≠ w.heap.size + 1 := by
          rcases h1 with h | h
          · omega
          · have := hKb k h
            omega
        refine (World.putObj_heap_other hne).trans ((hk k ?_ (by rw [World.putObj_size]; exact h2)).trans (World.putObj_heap_other hne))
        rcases h1 with h | h
        · exact .inl (by omega)
        · exact .inr h
  · rintro e W2 ⟨⟨v, rfl⟩, ⟨hN, hg2⟩ | ⟨x, hS, hi, hl, hd⟩⟩
    · have hl : W2.heap[w.heap.size + 1]? = some (.loop (rc .ready none)) := (hg2.block _ (by omega) (fun e => by cases e)).trans hL
      have hd : W2.heap[w.heap.size]? = some (.deferred (some [])) := (hg2.block _ (by omega) (fun e => by cases e)).trans hD
      have hr := run_endLoop (P := P) hl (by rw [hrc]; simp)
      refine ⟨none, _, by rw [hr, hrc], hdone _ hN ?_ ((World.putObj_heap_other (by omega)).trans hd)⟩
      exact cu.grow1 (grown_trans (r := none) gW hg2) (grownBy_putObj' W2 (w.heap.size + 1) _) (by omega)
    · have hs2 : w.heap.size + 1 < W2.heap.size := (Array.getElem?_eq_some_iff.1 hl).1
      have hr := run_endLoop (P := P) hl (by rw [hrc]; simp)
      refine ⟨some .ret, _, by rw [hr, hrc], hstop x _ hS (hIx x _ _ hi ?_) ((World.putObj_heap_other (by omega)).trans hd)⟩
      exact ⟨rfl, rfl, rfl, by rw [World.putObj_size]; exact Nat.le_refl _, fun k hk => World.putObj_heap_other (by omega)⟩
/-- what least answers -/
def LeastE (n : Nat) (LL : List (List Int)) (a : List Int) (w : World) (e : Ending) (w' : World) : Prop :=
  w.grownBy w' none ∧ ((left_ n LL a [] = none ∧ e = .returned (.tuple #[.int .u64 0, .bool false])) ∨ ∃ l P, left_ n LL a [] = some l ∧ Word l P ∧ holds LL a l = true ∧ e = .returned (.tuple #[.int .u64 (P : Int), .bool true]))
set_option maxRecDepth 100000 in
set_option maxHeartbeats 4000000 in
theorem least (n : Nat) (LL : List (List Int)) (a : List Int) (s : SV) (c m : Nat) (hR : Right n LL s) (ha : ∀ x ∈ a, ok.litIn (n : Int) x = true) (w : World) (hS : Slv w c s) (hT : Tab w) :
    CallsIn Fence.wide (m + 2) Tryd.prog 63 #[.pointer (some ⟨c, 0, none⟩), .int .u64 (setOf a : Int)] w fun e w' => LeastE n LL a w e w' := by
  have HS := hide hS
  have HT := hide hT
  have AN := hide (fun w => answers c (setOf a) w)
  have hcl := hS.lt
  clear hS hT
  refine callsIn_of_wp_marks Tryd.func63 rfl trivial ?_ rfl
  simp only [Tryd.ntmps63, List.size_toArray, List.length_cons, List.length_nil, Nat.reduceAdd, Nat.reduceSub, Array.replicate_succ, Array.replicate_zero, List.push_toArray, List.append_toArray, List.nil_append, List.cons_append]
  gi_wp2_with (refine ⟨trivial, ?_⟩; gi_at_call 96; refine (callsIn_wide.2 (unhide AN _)).mono ?_; rintro e w5 ⟨rfl, h5⟩; have H5 := hide h5; clear h5)
  try simp only [World.size_alloc]
  have h5 := unhide H5
  have r0 : Boxed w5 w.heap.size 59 (.int .u64 0) := by
    rw [h5]
    exact (((Boxed.new w _ _).alloc _).alloc _).alloc _
  have r1 : Boxed w5 (w.heap.size + 1) 4 (.bool false) := by
    rw [h5]
    have := Boxed.new (w.alloc (.cells #[.int .u64 0] 59)) 4 (.bool false)
    rw [World.size_alloc] at this
    exact (this.alloc _).alloc _
  have r2 : Boxed w5 (w.heap.size + 1 + 1) 61 (.pointer (some ⟨c, 0, none⟩)) := by
    rw [h5]
    have := Boxed.new ((w.alloc (.cells #[.int .u64 0] 59)).alloc (.cells #[.bool false] 4)) 61 (.pointer (some ⟨c, 0, none⟩))
    rw [World.size_alloc, World.size_alloc] at this
    exact this.alloc _
  have r3 : Boxed w5 (w.heap.size + 1 + 1 + 1) 59 (.int .u64 (setOf a : Int)) := by
    rw [h5]
    have := Boxed.new (((w.alloc (.cells #[.int .u64 0] 59)).alloc (.cells #[.bool false] 4)).alloc (.cells #[.pointer (some ⟨c, 0, none⟩)] 61)) 59 (.int .u64 (setOf a : Int))
    rw [World.size_alloc, World.size_alloc, World.size_alloc] at this
    exact this
  have g5 : w.grownBy w5 none := by
    rw [h5]
    exact grown_trans (grown_trans (grown_trans (r := none) (World.grownBy_alloc _ _ none) (World.grownBy_alloc _ _ none)) (World.grownBy_alloc _ _ none)) (World.grownBy_alloc _ _ none)
  have hs5 : w5.heap.size = w.heap.size + 1 + 1 + 1 + 1 := by
    rw [h5]
    simp
  clear h5 H5 AN
  refine range_first (α := List Int × Nat) (by omega) (gf := 108) (lb := #[.pointer (some ⟨w.heap.size + 1 + 1, 0, none⟩), .pointer (some ⟨w.heap.size + 1 + 1 + 1, 0, none⟩)]) rfl (enters_of Tryd.func108 (by kernel_rfl) rfl)
    (fun x => #[.int .u64 (x.2 : Int)]) (fun _ => rfl) (fun x => Word x.1 x.2 ∧ holds LL a x.1 = true) (left_ n LL a [] = none) (fun x => left_ n LL a [] = some x.1 ∧ Word x.1 x.2 ∧ holds LL a x.1 = true) (fun k => k = w.heap.size + 1 + 1 ∨ k = c) ?it
    (fun x W => Boxed W w.heap.size 59 (.int .u64 (x.2 : Int)) ∧ Boxed W (w.heap.size + 1) 4 (.bool true) ∧ Below w.heap.size w W) ?ix ?kb
    (fun x => { tmps := #[.pointer (some ⟨c, 0, none⟩), .int .u64 (setOf a : Int), undef, undef, .pointer (some ⟨w.heap.size, 0, none⟩), .pointer (some ⟨w.heap.size + 1, 0, none⟩), .int .u64 (x.2 : Int), .pointer (some ⟨c, 0, none⟩), .int .u64 (setOf a : Int), .func (.func 108) #[] #[.pointer (some ⟨w.heap.size + 1 + 1, 0, none⟩), .pointer (some ⟨w.heap.size + 1 + 1 + 1, 0, none⟩)], .int .u64 (x.2 : Int), undef], defers := [] }) ?assign ?body ?done ?stop
  case it =>
    intro lp W Jx gW hJ hY
    refine (iter n LL a s (w.heap.size + 1 + 1) (w.heap.size + 1 + 1 + 1) c lp _ hR ha W (fun l V => ∃ P, Word l P ∧ holds LL a l = true ∧ Jx (l, P) V) ?_ ?_ (r2.kept gW (fun e => by cases e)) (r3.kept gW (fun e => by cases e)) ((unhide HS).kept (grown_trans g5 gW)) ((unhide HT).below (sl.below_of (grown_trans g5 gW)))).mono ?_
    · rintro x A A' ⟨P, h1, h2, h3⟩ hb
      exact ⟨P, h1, h2, hJ _ _ _ h3 hb⟩
    · intro m x P W1 h1 h2 hb
      obtain ⟨f, t, asg, bd, hy, hr⟩ := hY m (x, P) W1 ⟨h1, h2⟩ hb
      exact ⟨f, t, asg, bd, hy, hr.mono (fun e V h => ⟨h.1, ⟨P, h1, h2, h.2.1⟩, fun k hk => h.2.2 k hk⟩)⟩
    · rintro e V ⟨hv, h | ⟨l, h1, P, h2, h3, h4⟩⟩
      · exact ⟨hv, .inl h⟩
      · exact ⟨hv, .inr ⟨(l, P), ⟨h1, h2, h3⟩, h4⟩⟩
  case ix =>
    rintro x A A' ⟨h1, h2, h3⟩ hb
    exact ⟨(hb.block _ (by omega)).trans h1, (hb.block _ (by omega)).trans h2, h3.trans ⟨hb.os, hb.tape, hb.output, hb.size, fun k hk => hb.block k (by omega)⟩⟩
  case kb =>
    rintro k (rfl | rfl) <;> omega
  case assign =>
    intro l m x W K hK
    gi_wp2
    exact hK
  case body =>
    rintro l m ⟨x, P⟩ W ⟨hw, hh⟩ hb
    have q0 : Boxed W w.heap.size 59 (.int .u64 0) := (hb.block _ (by omega)).trans r0
    have q1 : Boxed W (w.heap.size + 1) 4 (.bool false) := (hb.block _ (by omega)).trans r1
    have c0 := q0.cell
    have f0 := q0.frozen
    have q1' := q1.kept (sl.grown_setCell W w.heap.size 0 (.int .u64 (P : Int))) (fun e => by simp at e)
    have c1 := q1'.cell
    have f1 := q1'.frozen
    have HB := hide hb
    have Q0 := hide q0
    have Q1 := hide q1'
    clear hb q0 q1 q1'
    gi_wp2
    refine ⟨⟨?_, (unhide Q1).set _, ?_⟩, ?_⟩
    · exact ((unhide Q0).set _).kept (sl.grown_setCell _ (w.heap.size + 1) 0 (.bool true)) (fun e => by simp at e)
    · have k1 := sl.grown_setCell W w.heap.size 0 (.int .u64 (P : Int))
      have k2 := sl.grown_setCell (W.setCell ⟨w.heap.size, 0, none⟩ (.int .u64 (P : Int))) (w.heap.size + 1) 0 (.bool true)
      have hb := unhide HB
      have hz := hb.size
      exact ⟨k2.os.trans (k1.os.trans (hb.os.trans g5.os)), k2.tape.trans (k1.tape.trans (hb.tape.trans g5.tape)), k2.output.trans (k1.output.trans (hb.output.trans g5.output)), Nat.le_trans g5.size (Nat.le_trans hz (Nat.le_trans k1.size k2.size)),
        fun k hk => (k2.block k (Nat.lt_of_lt_of_le (by omega) k1.size) (fun e => by cases e; omega)).trans ((k1.block k (by omega) (fun e => by cases e; omega)).trans ((hb.block k (by omega)).trans (g5.block k hk (fun e => by cases e))))⟩
    · intro k hk hlt
      have k1 := sl.grown_setCell W w.heap.size 0 (.int .u64 (P : Int))
      have k2 := sl.grown_setCell (W.setCell ⟨w.heap.size, 0, none⟩ (.int .u64 (P : Int))) (w.heap.size + 1) 0 (.bool true)
      exact (k2.block k (Nat.lt_of_lt_of_le hlt k1.size) (fun e => by cases e; omega)).trans (k1.block k hlt (fun e => by cases e; omega))
  case done =>
    intro W hN hg hd
    rw [hs5] at hd
    have q0 := r0.kept hg (fun e => by cases e)
    have q1 := r1.kept hg (fun e => by cases e)
    have c0 := q0.cell
    have f0 := q0.frozen
    have q1' := q1.kept (sl.grown_setCell W w.heap.size 0 (.int .u64 0)) (fun e => by simp at e)
    have c1 := q1'.cell
    have f1 := q1'.frozen
    have HN := hide hN
    have HG := hide hg
    have Q0 := hide q0
    have Q1 := hide q1'
    clear hg q0 q1 q1' hN
    gi_wp2
    rw [hs5]
    have k1 := sl.grown_setCell W w.heap.size 0 (.int .u64 0)
    have k2 := sl.grown_setCell (W.setCell ⟨w.heap.size, 0, none⟩ (.int .u64 0)) (w.heap.size + 1) 0 (.bool false)
    have hd' := (KeepsOthers.setCell (W.setCell ⟨w.heap.size, 0, none⟩ (.int .u64 0)) ⟨w.heap.size + 1, 0, none⟩ (.bool false)).same (w.heap.size + 1 + 1 + 1 + 1) _ ((KeepsOthers.setCell W ⟨w.heap.size, 0, none⟩ (.int .u64 0)).same (w.heap.size + 1 + 1 + 1 + 1) _ hd rfl) rfl
    refine ⟨by simp, .inl ⟨_, _, rfl, run_takeDeferred hd', ?_⟩⟩
    have gz := grownBy_putObj' ((W.setCell ⟨w.heap.size, 0, none⟩ (.int .u64 0)).setCell ⟨w.heap.size + 1, 0, none⟩ (.bool false)) (w.heap.size + 1 + 1 + 1 + 1) (.deferred none)
    have z0 := ((((unhide Q0).set (.int .u64 0)).kept k2 (fun e => by simp at e)).kept gz (fun e => by have := Option.some.inj e; omega)).cell
    have z1 := (((unhide Q1).set (.bool false)).kept gz (fun e => by have := Option.some.inj e; omega)).cell
    refine ⟨.tuple #[.int .u64 0, .bool false], by simp [results, Tryd.f63, go_sem, z0, z1], ?_, .inl ⟨unhide HN, rfl⟩⟩
    exact cu.grow1 (cu.grow1 (cu.grow1 (grown_trans (r := none) g5 (unhide HG)) k1 (by omega)) k2 (by omega)) gz (by omega)
  case stop =>
    rintro ⟨x, P⟩ W ⟨h1, h2, h3⟩ ⟨hi1, hi2, hi3⟩ hd
    rw [hs5] at hd
    gi_wp2
    refine ⟨by simp, .inl ⟨_, _, rfl, run_takeDeferred hd, ?_⟩⟩
    have gz := grownBy_putObj' W (w.heap.size + 1 + 1 + 1 + 1) (.deferred none)
    have z0 := (hi1.kept gz (fun e => by have := Option.some.inj e; omega)).cell
    have z1 := (hi2.kept gz (fun e => by have := Option.some.inj e; omega)).cell
    refine ⟨.tuple #[.int .u64 (P : Int), .bool true], by simp [results, Tryd.f63, go_sem, z0, z1], ?_, .inr ⟨x, P, h1, h2, h3, rfl⟩⟩
    exact cu.grow1 (sl.of_below hi3) gz (by omega)
end Go.Proofs.YtapkckfgbimmcaaDoor.ks
