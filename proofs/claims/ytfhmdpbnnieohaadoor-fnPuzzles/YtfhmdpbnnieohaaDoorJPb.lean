/- What force of the program's watcher answers; no condition but on the sizes. -/
import Derived.Test.YtfhmdpbnnieohaaDoorJPa
import Derived.Test.YtfhmdpbnnieohaaDoorJPn
import Derived.Deep.AppendLies
import Derived.WalkMore
import Derived.Test.YtfhmdpbnnieohaaDoorJXCk
import Derived.Defers
import Derived.Test.YtfhmdpbnnieohaaDoorJXVt
import Derived.BigQuiet
import Derived.Test.YtfhmdpbnnieohaaDoorJXSu
import Derived.Deep.MidRow
import Derived.Deep.RegionHeld3
import Derived.Laws.Tables
namespace Go.Proofs.YtfhmdpbnnieohaaDoor.wm
open Go.ChangeShapes Go.WideShapes Go.ChangeAt Go.RowKit
open wm0 (end0 ret0 stepW listW listB)
open lits (okB okB_iff)
open bset (placeN placeN_le placeC withN withN_lt withN_bit withC)
open srt (Tab)
open wo (Made)
open sl (Sl Own ints hide unhide ret_int ret_bool grown_refl grown_trans grown_drewN)
set_option linter.unusedVariables false
def Far (B c : Nat) (s : WS) : Prop := ∀ k, Foot c s k → B ≤ k
theorem Far.stp {B c : Nat} {s s' : WS} {w w' : World} (h : Far B c s) (k : Stp c s s' w w') (hB : B ≤ w.heap.size) : Far B c s' := by
 intro b f
 rcases k.foot b f with q | q
 ·exact h b q
 ·omega
theorem grown_stp {c : Nat} {s s' : WS} {wB w w' : World} (g : wB.grownBy w none) (h : Far wB.heap.size c s) (k : Stp c s s' w w') : wB.grownBy w' none :=
 ⟨k.os.trans g.os, k.tape.trans g.tape, k.output.trans g.output, Nat.le_trans g.size k.size, fun b hb _ => (k.block b (Nat.lt_of_lt_of_le hb g.size) (fun f => by have := h b f; omega)).trans (g.block b hb (fun e => by cases e))⟩
theorem Wat.by {w w' : World} {c : Nat} {s : WS} {r : Option Nat} (h : Wat w c s) (g : w.grownBy w' r) (hr : ∀ k, r = some k → ¬ Foot c s k) : Wat w' c s := by
 have nr : ∀ {v : Value}, (∀ k, v.ownBlock = some k → Foot c s k) → v.ownBlock = none ∨ v.ownBlock ≠ r := by
  intro v hv
  cases e : v.ownBlock with
  | none => exact .inl rfl
  | some k => exact .inr (fun e' => hr k e'.symm (hv k e))
 exact ⟨by rw [g.block c h.lt (fun e => hr c e.symm (.inl rfl))]; exact h.blk, h.len, h.cl.kept g (nr fun k e => .inr (.inl e)), fun p hp => (h.ls p hp).kept g (nr fun k e => .inr (.inr ⟨p, hp, e⟩)), h.ap, h.ty⟩
theorem own_stp {c : Nat} {s s' : WS} {w w' : World} {b n : Nat} {v : Value} {xs : List Value} (h : w.ownsRow b 3 1 v n xs) (k : Stp c s s' w w') (hn : ∀ q, v.ownBlock = some q → ¬ Foot c s q) : w'.ownsRow b 3 1 v n xs := by
 refine ⟨h.1, ?_⟩
 rcases h.2 with hz | ⟨g, cap, cur, rfl, hb, hgg, rest⟩
 ·exact .inl hz
 ·refine .inr ⟨g, cap, cur, rfl, hb, ?_, rest⟩
  rw [k.block g (Array.getElem?_eq_some_iff.1 hgg).1 (hn g rfl)]
  exact hgg
theorem apart_stp {c : Nat} {s s' : WS} {w w' : World} {b n : Nat} {v : Value} {xs : List Value} (h : w.ownsRow b 3 1 v n xs) (k : Stp c s s' w w') (hn : ∀ q, v.ownBlock = some q → ¬ Foot c s q) : ∀ q, v.ownBlock = some q → ¬ Foot c s' q := by
 intro q e f
 rcases k.foot q f with z | z
 ·exact hn q e z
 ·have := (h.lt q e).2
  omega
def JT (Ss : List Nat) (T : Nat) (P : PS) (R : Nat) (l : Int) (F C : List Int) : Prop := Jn Ss P R l F C ∧ P.tk = T
theorem rew_tk (P : PS) (i : Nat) (l : Int) : (P.rew i l).tk = P.tk := by
 unfold PS.rew
 split
 ·rfl
 ·split
  ·rfl
  ·split <;> rfl
theorem fitT (Ss : List Nat) (T : Nat) : Fit (JT Ss T) Ss.length where
 size := fun P R l F C h => (fit Ss).size P R l F C h.1
 word := fun P R l F C h => (fit Ss).word P R l F C h.1
 all := fun P R l F C h => (fit Ss).all P R l F C h.1
 lit0 := fun P R l F C h => (fit Ss).lit0 P R l F C h.1
 lost := fun P R l F C h => (fit Ss).lost P R l F C h.1
 lens := fun P R l F C h => (fit Ss).lens P R l F C h.1
 next := fun P R l F h h0 h1 => ⟨(fit Ss).next P R l F h.1 h0 h1, h.2⟩
 stay := fun P R l F i C h hm => ⟨(fit Ss).stay P R l F i C h.1 hm, by rw [rew_tk]; exact h.2⟩
 move := fun P R l F i C h hm => ⟨(fit Ss).move P R l F i C h.1 hm, by show (P.rew i l).tk = T; rw [rew_tk]; exact h.2⟩
structure Frc (Ss : List Nat) (wB : World) (c : Nat) (s : WS) (w : World) (pv : Value) (p : List Int) : Prop where
 wat : Wat w c s
 tb : Tab wB
 jn : ∃ l F, Jn Ss s.ps 0 l F []
 g : wB.grownBy w none
 far : Far wB.heap.size c s
 own : w.ownsRow wB.heap.size 3 1 pv p.length (ints p)
 ap : ∀ q, pv.ownBlock = some q → ¬ Foot c s q
theorem Frc.tab {Ss : List Nat} {wB : World} {c : Nat} {s : WS} {w : World} {pv : Value} {p : List Int} (h : Frc Ss wB c s w pv p) : TabF c s w :=
 ⟨h.tb.kept h.g, fun f => by have := h.far _ f; have := tab_lt h.tb; omega⟩
theorem Frc.stp {Ss : List Nat} {wB : World} {c : Nat} {s s' : WS} {w w' : World} {pv : Value} {p : List Int} (h : Frc Ss wB c s w pv p) (k : Stp c s s' w w') (hw : Wat w' c s') (hj : ∃ l F, Jn Ss s'.ps 0 l F []) : Frc Ss wB c s' w' pv p :=
 ⟨hw, h.tb, hj, grown_stp h.g h.far k, h.far.stp k h.g.size, own_stp h.own k h.ap, apart_stp h.own k h.ap⟩
theorem wait_facts {Ss : List Nat} {s : WS} {l : Int} {F : List Int} (h : Jn Ss s.ps 0 l F []) {v : Value} {C : List Int} (hC : s.A.getD 0 nil_ = (v, C)) : (∀ x ∈ C, ∃ k : Nat, x = (k : Int) ∧ k < s.K.length) ∧ C.length ≤ 4194304 ∧
  (s.em = false → ∀ k : Nat, (k : Int) ∈ C → clsd (s.K.getD k zk).1 s.tk = false → opn (s.K.getD k zk).1 s.tk ≠ 0) := by
 have e0 : s.ps.A.getD 0 [] = C := by rw [ps_getD, hC]
 have hlen : s.K.length = Ss.length := h.len
 refine ⟨fun x hx => ?_, ?_, fun he k hk hc => ?_⟩
 ·obtain ⟨k, hk, hk', _⟩ := h.idx 0 x (by rw [e0]; exact hx)
  exact ⟨k, hk, by rw [hlen]; exact hk'⟩
 ·have := h.bd
  unfold wgt at this
  rw [e0] at this
  omega
 ·obtain ⟨k', e, hk', _⟩ := h.idx 0 (k : Int) (by rw [e0]; exact hk)
  have : k' = k := by omega
  subst this
  have hs : (s.K.getD k' zk).1 = Ss.getD k' 0 := h.sets k' hk'
  rw [hs] at hc ⊢
  exact (h.open_ he hk' hc).1
theorem Frc.push {Ss : List Nat} {wB w w1 : World} {c g cap : Nat} {s : WS} {pv : Value} {p : List Int} {x : Int} (h : Frc Ss wB c s w pv p) {o : Obj}
  (hown : w1.ownsRow wB.heap.size 3 1 (.slice (some ⟨g, 0, none⟩) (p.length + 1) cap) (p.length + 1) (ints p ++ [.int .i64 x])) (hg : (w.alloc o).grownBy w1 pv.ownBlock) (hl : pv.ownBlock = some g ∨ w.heap.size ≤ g) :
  Frc Ss wB c s w1 (.slice (some ⟨g, 0, none⟩) (p.length + 1) cap) (p ++ [x]) := by
 have ga := World.grownBy_alloc w o none
 have wa := h.wat.kept ga
 have wb : Wat w1 c s := wa.by hg h.ap
 refine ⟨wb, h.tb, h.jn, ?_, h.far, ?_, fun q e f => ?_⟩
 ·exact ⟨hg.os.trans h.g.os, hg.tape.trans h.g.tape, hg.output.trans h.g.output, Nat.le_trans h.g.size (Nat.le_trans ga.size hg.size), fun b hb _ => by
   rw [hg.block b (Nat.lt_of_lt_of_le hb (Nat.le_trans h.g.size ga.size)) (fun e => by have := (h.own.lt b e.symm).1; omega), ga.block b (Nat.lt_of_lt_of_le hb h.g.size) (fun e => by cases e)]
   exact h.g.block b hb (fun e => by cases e)⟩
 ·rw [List.length_append, app.ints_append]
  exact hown
 ·have e' : g = q := by simpa [Value.ownBlock] using e
  subst e'
  rcases hl with z | z
  ·exact h.ap g z f
  ·have hlt : g < w.heap.size := by
    rcases f with f | f | ⟨p', hp', f⟩
    ·subst f
     exact h.wat.lt
    ·exact (h.wat.cl.lt g f).2
    ·exact ((h.wat.ls p' hp').lt g f).2
   omega
structure Run (c : Nat) (s0 s : WS) (w0 w : World) (p0 p : Value) : Prop where
 os : w.os = w0.os
 tape : w.tape = w0.tape
 output : w.output = w0.output
 size : w0.heap.size ≤ w.heap.size
 block : ∀ k, k < w0.heap.size → ¬ Foot c s0 k → p0.ownBlock ≠ some k → w.heap[k]? = w0.heap[k]?
 foot : ∀ k, Foot c s k → Foot c s0 k ∨ w0.heap.size ≤ k
 path : ∀ k, p.ownBlock = some k → p0.ownBlock = some k ∨ w0.heap.size ≤ k
theorem Run.refl (c : Nat) (s : WS) (w : World) (p : Value) : Run c s s w w p p := ⟨rfl, rfl, rfl, Nat.le_refl _, fun _ _ _ _ => rfl, fun _ h => .inl h, fun _ h => .inl h⟩
theorem Run.stp {c : Nat} {s0 s s' : WS} {w0 w w' : World} {p0 p : Value} (h : Run c s0 s w0 w p0 p) (k : Stp c s s' w w') : Run c s0 s' w0 w' p0 p :=
 ⟨k.os.trans h.os, k.tape.trans h.tape, k.output.trans h.output, Nat.le_trans h.size k.size,
  fun b hb hn hp => (k.block b (Nat.lt_of_lt_of_le hb h.size) (fun f => by
   rcases h.foot b f with f' | f'
   ·exact hn f'
   ·omega)).trans (h.block b hb hn hp),
  fun b f => by
   rcases k.foot b f with f' | f'
   ·exact h.foot b f'
   ·exact .inr (Nat.le_trans h.size f'), h.path⟩
theorem Run.push {c g n cap : Nat} {s0 s : WS} {w0 w w1 : World} {p0 p : Value} {o : Obj} (h : Run c s0 s w0 w p0 p) (hg : (w.alloc o).grownBy w1 p.ownBlock) (hl : p.ownBlock = some g ∨ w.heap.size ≤ g) : Run c s0 s w0 w1 p0 (.slice (some ⟨g, 0, none⟩) n cap) := by
 have ga := World.grownBy_alloc w o none
 refine ⟨hg.os.trans h.os, hg.tape.trans h.tape, hg.output.trans h.output, Nat.le_trans h.size (Nat.le_trans ga.size hg.size), fun b hb hn hp => ?_, h.foot, fun b e => ?_⟩
 ·have hbw := Nat.lt_of_lt_of_le hb h.size
  rw [hg.block b (Nat.lt_of_lt_of_le hbw ga.size) (fun e => by
   rcases h.path b e.symm with q | q
   ·exact hp q
   ·omega), ga.block b hbw (fun e => by cases e)]
  exact h.block b hb hn hp
 ·have e' : g = b := by simpa [Value.ownBlock] using e
  subst e'
  rcases hl with z | z
  ·exact h.path g z
  ·exact .inr (Nat.le_trans h.size z)
theorem Run.done {c : Nat} {s0 s : WS} {w0 w : World} {p0 p : Value} (h : Run c s0 s w0 w p0 p) (h0 : p0.ownBlock = none) (hs : s.ty = s0.ty ∧ s.ex = s0.ex) : Stp c s0 s w0 w :=
 ⟨h.os, h.tape, h.output, h.size, fun k hk hn => h.block k hk hn (by rw [h0]; simp), h.foot, hs⟩
def At (Ss : List Nat) (wB : World) (c : Nat) (w : World) (pv : Value) (F : List Int × Bool) (E : Nat × TypeId × List Value) (J : WS → World → Value → Prop) (m n : Nat) (p : List Int) (s : WS) : Prop := Frc Ss wB c s w pv p ∧ frc Ss n s.tk p = F ∧ p.length + n = m ∧ 49 ≤ n + pc s.tk ∧ frt Ss n s.tk = E.1 ∧ (s.ty = E.2.1 ∧ s.ex = E.2.2) ∧ J s w pv
theorem pv_form {w : World} {b : Nat} {v : Value} {p : List Int} (h : w.ownsRow b 3 1 v p.length (ints p)) : ∃ a c, v = .slice a p.length c := by
 obtain ⟨a, c, e, _⟩ := Sl.of_own h
 exact ⟨a, c, e⟩
set_option maxRecDepth 100000 in
set_option maxHeartbeats 8000000 in
theorem force {Ss : List Nat} {wB w : World} {c : Nat} {s : WS} {pv : Value} {p : List Int} (h : Frc Ss wB c s w pv p) (hN : Ss.length ≤ 1048576) (hp : p.length ≤ 1048576) (hS : ∀ S ∈ Ss, S < 2 ^ 48) :
  Calls Tryd.prog 71 #[.pointer (some ⟨c, 0, none⟩), pv] w fun e w' => ∃ u s', e = .returned (.tuple #[u, .bool (frc Ss 49 s.tk p).2]) ∧ Frc Ss wB c s' w' u (frc Ss 49 s.tk p).1 ∧ (s'.tk = frt Ss 49 s.tk ∧ s'.ty = s.ty ∧ s'.ex = s.ex) ∧ Run c s s' w w' pv u := by
 have st : Hid (At Ss wB c w pv (frc Ss 49 s.tk p) (frt Ss 49 s.tk, s.ty, s.ex) (fun s' w' u => Run c s s' w w' pv u) (p.length + 49) 49 p s) := ⟨h, rfl, rfl, by omega, rfl, ⟨rfl, rfl⟩, Run.refl _ _ _ _⟩
 generalize frc Ss 49 s.tk p = F at *
 have hJ1 : Hid (∀ s1 s2 wr w2 p1, Run c s s1 w wr pv p1 → Stp c s1 s2 wr w2 → Run c s s2 w w2 pv p1) := fun s1 s2 wr w2 p1 h k => h.stp k
 have hJ2 : Hid (∀ s1 wr w2 p1 (o : Obj) g n cap, Run c s s1 w wr pv p1 → (wr.alloc o).grownBy w2 p1.ownBlock → (p1.ownBlock = some g ∨ wr.heap.size ≤ g) → Run c s s1 w w2 pv (.slice (some ⟨g, 0, none⟩) n cap)) := fun s1 wr w2 p1 o g n cap h k l => h.push k l
 have post : ∀ {e : Ending} {w' : World}, (∃ u s', e = .returned (.tuple #[u, .bool F.2]) ∧ Frc Ss wB c s' w' u F.1 ∧ (s'.tk = (frt Ss 49 s.tk, s.ty, s.ex).1 ∧ s'.ty = (frt Ss 49 s.tk, s.ty, s.ex).2.1 ∧ s'.ex = (frt Ss 49 s.tk, s.ty, s.ex).2.2) ∧ (fun s' w' u => Run c s s' w w' pv u) s' w' u) → ∃ u s', e = .returned (.tuple #[u, .bool F.2]) ∧ Frc Ss wB c s' w' u F.1 ∧ (s'.tk = frt Ss 49 s.tk ∧ s'.ty = s.ty ∧ s'.ex = s.ex) ∧ Run c s s' w w' pv u := fun h => h
 refine Calls.mono ?_ (fun e w' => post)
 clear post
 generalize hJ : (fun s' w' u => Run c s s' w w' pv u) = J at *
 replace hJ1 : Hid (∀ s1 s2 wr w2 p1, J s1 wr p1 → Stp c s1 s2 wr w2 → J s2 w2 p1) := by rw [← hJ]; exact hJ1
 replace hJ2 : Hid (∀ s1 wr w2 p1 (o : Obj) g n cap, J s1 wr p1 → (wr.alloc o).grownBy w2 p1.ownBlock → (p1.ownBlock = some g ∨ wr.heap.size ≤ g) → J s1 w2 (.slice (some ⟨g, 0, none⟩) n cap)) := by rw [← hJ]; exact hJ2
 clear hJ
 generalize (frt Ss 49 s.tk, s.ty, s.ex) = E at *
 generalize hm : p.length + 49 = m at *
 have hm' : m ≤ 1048700 := by omega
 have HSS := hide hS
 clear h hm hS
 go_enter Tryd.func71, Tryd.ntmps71
 go_wp2
 go_step3
 go_wp2
 go_step3
 go_wp2
 go_loopw [1] (fun pv wr => ∃ (n : Nat) (p : List Int) (s : WS), slLen pv + n = m ∧ Hid (At Ss wB c wr pv F E J m n p s)) (fun pv _ => m - slLen pv)
 case atStart =>
  refine ⟨49, p, s, ?_, st⟩
  obtain ⟨a, c', e⟩ := pv_form (unhide st).1.own
  rw [e]
  exact (unhide st).2.2.1
 case round =>
  obtain ⟨n, p1, s1, hn, ha⟩ := hrel
  clear st
  obtain ⟨fr, f1, f2, f3, f4, f5, f6⟩ := unhide ha
  have hn0 : n ≠ 0 := fun e => by
   have := pc_le s1.tk
   omega
  obtain ⟨n', rfl⟩ : ∃ n', n = n' + 1 := ⟨n - 1, by omega⟩
  obtain ⟨l, F0, jn⟩ := fr.jn
  obtain ⟨v, C, eC⟩ : ∃ v C, s1.A.getD 0 nil_ = (v, C) := ⟨_, _, rfl⟩
  have wf := wait_facts jn eC
  have cu := unit fr.wat fr.tab (by show s1.K.length ≤ _; rw [show s1.K.length = Ss.length from jn.len]; exact hN) jn.tk (fun i hi => by
   have hi' : i < Ss.length := by rw [← show s1.K.length = Ss.length from jn.len]; exact hi
   rw [show (s1.K.getD i zk).1 = Ss.getD i 0 from jn.sets i hi']
   exact jn.wd i hi') eC wf.1 wf.2.1 wf.2.2
  have eu := jn.unit
  have eu1 : s1.ps.uniX = (unitN Ss s1.tk).1 := congrArg Prod.fst eu
  have eu2 : (!s1.em) = (unitN Ss s1.tk).2 := congrArg Prod.snd eu
  rw [eu1, eu2] at cu
  have un := unit_new (Ss := Ss) (T := s1.tk) (unhide HSS)
  have NX : Hid (∀ s2 w2, Wat w2 c s2 → Stp c s1 s2 wr w2 → s2.ps = s1.ps.uni → Frc Ss wB c s2 w2 u1 p1 ∧ s2.tk = s1.tk ∧ s2.em = s1.em ∧ (s2.ty = E.2.1 ∧ s2.ex = E.2.2) ∧ J s2 w2 u1) := by
   intro s2 w2 q1 q2 q3
   have ej : Jn Ss s2.ps 0 l F0 [] := by rw [q3]; exact jn.uni
   refine ⟨fr.stp q2 q1 ⟨l, F0, ej⟩, ?_, ?_, ⟨q2.same.1.trans f5.1, q2.same.2.trans f5.2⟩, unhide hJ1 _ _ _ _ _ f6 q2⟩
   ·have : s2.ps.tk = s1.ps.tk := by rw [q3]; unfold PS.uni; split <;> rfl
    exact this
   ·have : s2.ps.em = s1.ps.em := by rw [q3]; unfold PS.uni; split <;> rfl
    exact this
  obtain ⟨pa, pcap, ep⟩ := pv_form fr.own
  cases hok : (unitN Ss s1.tk).2
  ·rw [hok] at cu
   have eF : F = (p1, false) := by rw [← f1]; exact frc_stop hok
   have eG : E.1 = s1.tk := by rw [← f4]; exact frt_stop hok
   have EG := hide eG
   have CU := hide cu
   clear cu eu eu1 eu2 un wf jn fr f1 f2 f3 f4 f5 f6 ha hok eC eG
   subst eF
   subst ep
   generalize (unitN Ss s1.tk).1 = x at *
   go_wp2_with fail
   refine (unhide CU).mono ?_; rintro e w2 ⟨s2, rfl, q1, q2, q3⟩
   have nx := unhide NX s2 w2 q1 q2 q3
   have R2 := hide (And.intro nx.1 (And.intro (And.intro (nx.2.1.trans (unhide EG).symm) nx.2.2.2.1) nx.2.2.2.2))
   clear CU q1 q2 q3 NX nx EG
   go_wp2_with fail
   rw [Exit.noGoto_ret]
   go_ret2
   exact ⟨_, _, rfl, unhide R2⟩
  ·rw [hok] at cu
   by_cases hx0 : (unitN Ss s1.tk).1 = 0
   ·rw [hx0] at cu
    have eF : F = (p1, true) := by rw [← f1]; exact frc_end hok hx0
    have eG : E.1 = s1.tk := by rw [← f4]; exact frt_end hx0
    have EG := hide eG
    have CU := hide cu
    clear cu eu eu1 eu2 un wf jn fr f1 f2 f3 f4 f5 f6 ha hok eC hx0 eG
    subst eF
    subst ep
    go_wp2_with fail
    refine (unhide CU).mono ?_; rintro e w2 ⟨s2, rfl, q1, q2, q3⟩
    have nx := unhide NX s2 w2 q1 q2 q3
    have R2 := hide (And.intro nx.1 (And.intro (And.intro (nx.2.1.trans (unhide EG).symm) nx.2.2.2.1) nx.2.2.2.2))
    clear CU q1 q2 q3 NX nx EG
    go_wp2_with fail
    rw [Exit.noGoto_ret]
    go_ret2
    exact ⟨_, _, rfl, unhide R2⟩
   ·have un' := un hok hx0
    have eF := frc_more (n := n') (p := p1) hok hx0
    rw [f1] at eF
    have eG := frt_more (n := n') hok hx0
    rw [f4] at eG
    have hem : s1.em = false := by
     have : (!s1.em) = true := eu2.trans hok
     simpa using this
    generalize hxx : (unitN Ss s1.tk).1 = x at *
    have bd := okB_iff.1 un'.1
    have hpc := pc_with un'.1 un'.2.1
    have htk : s1.tk < 2 ^ 48 := jn.tk
    have CU := hide cu
    have hw0 := withC 0 x
    have TKE : Hid (∀ s2 w2, Frc Ss wB c s2 w2 u1 p1 → s2.tk = s1.tk → s2.em = s1.em → (s2.ty = E.2.1 ∧ s2.ex = E.2.2) ∧ J s2 w2 u1 → Calls Tryd.prog 70 #[.pointer (some ⟨c, 0, none⟩), .int .u64 ((withN 0 x : Nat) : Int)] w2 fun e w' => ∃ s', e = .returned (.tuple #[]) ∧ Frc Ss wB c s' w' u1 p1 ∧ s'.tk = withN s1.tk x ∧ (s'.ty = E.2.1 ∧ s'.ex = E.2.2) ∧ J s' w' u1) := by
     intro s2 w2 q e1 e2 e3
     obtain ⟨l2, F2, j2⟩ := q.jn
     have hL : withN 0 x < 2 ^ 48 := withN_lt (by decide) un'.1
     have js := j2.start (l' := l2) hL (fun b hb => by
      rw [withN_bit, Nat.zero_testBit, Bool.false_or, decide_eq_true_iff] at hb
      rw [← hb, show s2.ps.tk = s1.tk from e1]
      exact un'.2.1) (fun z => by
      have : s2.em = true := z
      rw [e2, hem] at this
      cases this)
     refine (take (l0 := l2) (F0 := []) (fitT Ss (s2.tk ||| withN 0 x)) hN q.wat q.tab hL j2.tk ⟨js, rfl⟩).mono ?_
     rintro e w' ⟨s', l', F', rfl, t1, t2, t3⟩
     refine ⟨s', rfl, q.stp t2 t1 ⟨l', F', t3.1⟩, ?_, ⟨t2.same.1.trans e3.1.1, t2.same.2.trans e3.1.2⟩, unhide hJ1 _ _ _ _ _ e3.2 t2⟩
     have : s'.tk = s2.tk ||| withN 0 x := t3.2
     rw [this, e1]
     unfold bset.withN
     rw [Nat.zero_or]
    have W0 := hide (fun w => withC 0 x w (by decide) un'.1)
    have FX : Hid (F = frc Ss n' (withN s1.tk x) (p1 ++ [x])) := eF
    have GX : Hid (E.1 = frt Ss n' (withN s1.tk x)) := eG
    have hp1 : p1.length ≤ 1048700 := by omega
    obtain ⟨b0, b1, b2⟩ := bd
    have hmm := hide (And.intro f2 (And.intro f3 hpc))
    clear cu eu eu1 eu2 un un' wf jn fr f1 f2 f3 f4 f5 f6 ha hok eC hx0 eF eG hem hw0 hpc
    subst ep
    generalize withN 0 x = wx at *
    go_wp2_with fail
    refine (unhide CU).mono ?_; rintro e w2 ⟨s2, rfl, q1, q2, q3⟩
    obtain ⟨r1, r2, r3, r4⟩ := unhide NX s2 w2 q1 q2 q3
    have CT := hide (unhide TKE s2 w2 r1 r2 r3 r4)
    clear CU q1 q2 q3 NX TKE r1 r2 r3 r4
    have hxz : (x == 0) = false := by simpa using b0
    go_wp2_with fail
    refine (unhide W0 _).mono ?_; rintro e w3 ⟨rfl, hw⟩; have hw' := hw.symm; clear hw; subst hw'
    go_wp2_with fail
    refine (unhide CT).mono ?_; rintro e w4 ⟨s4, rfl, r4, r5, r6⟩
    have R4 := hide r4
    have R5 := hide r5
    have R7 := hide r6
    have ga := World.grownBy_alloc w4 (.cells #[.int .i64 x] 3) none
    have OWB := hide (r4.own.kept ga (ne_none _))
    have hBs : wB.heap.size ≤ (w4.alloc (.cells #[.int .i64 x] 3)).heap.size := Nat.le_trans r4.g.size ga.size
    have HBs := hide hBs
    have NC := hide (new_cell w4 x)
    clear CT W0 r4 r5 r6 hBs
    go_wp2_with (at_builtin; refine listB (unhide OWB) (unhide NC) (unhide HBs) (by omega) rfl _ _ rfl rfl rfl ?_)
    intro g5 cap5 w5 o5 g5' l5
    have R8 := hide (unhide hJ2 _ _ _ _ _ g5 (p1.length + 1) cap5 (unhide R7).2 g5' (by
     rcases l5 with z | z
     ·exact .inl z
     ·exact .inr (Nat.le_of_succ_le z)))
    have R6 := hide ((unhide R4).push o5 g5' (by
     rcases l5 with z | z
     ·exact .inl z
     ·exact .inr (Nat.le_of_succ_le z)))
    clear o5 g5' l5 OWB NC HBs ga R4
    have hk := unhide hmm
    go_wp2_with fail
    go_roundw
    case rel => exact ⟨n', p1 ++ [x], s4, by show p1.length + 1 + n' = m; omega, unhide R6, by rw [unhide R5]; exact (unhide FX).symm, by rw [List.length_append]; show p1.length + 1 + n' = m; omega, by rw [unhide R5]; omega, by rw [unhide R5]; exact (unhide GX).symm, (unhide R7).1, unhide R8⟩
    case measure => show m - (p1.length + 1) < m - p1.length; omega
end Go.Proofs.YtfhmdpbnnieohaaDoor.wm
namespace Go.Proofs.YtfhmdpbnnieohaaDoor.wm
open Go.ChangeShapes Go.WideShapes Go.ChangeAt Go.RowKit
open wm0 (end0 ret0 stepW listW listB)
open lits (okB okB_iff)
open bset (placeN placeN_le placeC)
open srt (Tab woN woN_lt fstI)
open sl (Sl Own ints hide unhide ret_int ret_bool grown_refl grown_trans grown_drewN)
set_option linter.unusedVariables false
theorem infoK : (Tryd.prog.info? 125).map (fun i => (i.zero, i.size, i.bytes)) = some (some (.agg #[.int .u64 0, .int .i8 0, .int .i8 0]), 3, 16) := by kernel_rfl
theorem rowsK_snoc (K : List (Nat × Int × Int)) (S : Nat) (a b : Int) : rowsK (K ++ [(S, a, b)]) = rowsK K ++ [.int .u64 (S : Int), .int .i8 a, .int .i8 b] := by
 unfold rowsK
 rw [List.flatMap_append]
 rfl
theorem listK {ops : Array Oper} {rest : List Oper} {o : Oper} {a : Act} {Q : Exit → Act → World → Prop} {wr : World} {v : Value} {K : List (Nat × Int × Int)} {S : Nat} {x y : Int} {b : Nat}
  (hw : wr.ownsRow 0 125 3 v K.length (rowsK K)) (hb : wr.heap[b]? = some (.cells #[.int .u64 (S : Int), .int .i8 x, .int .i8 y] 125 (0, 0))) (hM : K.length ≤ 1048576) (hgd : o.guard = none) (s t : Operand)
  (ho : o.op = .call { callee := .builtin .append, args := #[s, t], argTypes := #[85, 85] }) (hs : a.eval s = v) (hx : a.eval t = .slice (some ⟨b, 0, none⟩) 1 1)
  (hK : ∀ g cap w1, w1.ownsRow 0 125 3 (.slice (some ⟨g, 0, none⟩) (K.length + 1) cap) (K.length + 1) (rowsK (K ++ [(S, x, y)])) → wr.grownBy w1 v.ownBlock → (v.ownBlock = some g ∨ wr.heap.size ≤ g) → wpList Tryd.prog ops Q rest (a.put o.dst (.slice (some ⟨g, 0, none⟩) (K.length + 1) cap)) w1) :
  wpList Tryd.prog ops Q (o :: rest) a wr := by
 obtain ⟨i0, hi, hz0, hz1, hz2⟩ := info_parts infoK
 refine wpList_append_lies _ hgd s t 85 ho 0 125 i0 _ 3 16 Tryd.underlying85 hi hz0 hz1 hz2 rfl (by decide) v K.length (rowsK K) hs hw ⟨b, 0, none⟩ 1 1 [.int .u64 (S : Int), .int .i8 x, .int .i8 y] hx rfl ?_ ?_ (by decide) ?_ ?_ (Nat.zero_le _) wr.heap.size rfl ?_
 ·intro j u hj
  rw [Addr.add_lit, Nat.zero_add]
  simp only [World.cell?, hb]
  simpa using hj
 ·intro u hu
  simp at hu
  rcases hu with rfl | rfl | rfl <;> rfl
 ·unfold maxLen; omega
 ·omega
 ·intro g cap w1 h1 hg hl _
  refine hK g cap w1 ?_ hg (by rcases hl with q | q; exact .inl q; exact .inr (by omega))
  rw [rowsK_snoc]
  exact h1
theorem Wat.addK {w w0 w1 : World} {c g cap : Nat} {s : WS} {K' : List (Nat × Int × Int)} (h : Wat w c s) (g0 : w.grownBy w0 none)
  (hown : w1.ownsRow 0 125 3 (.slice (some ⟨g, 0, none⟩) K'.length cap) K'.length (rowsK K')) (hg : w0.grownBy w1 s.V.ownBlock) (hl : s.V.ownBlock = some g ∨ w.heap.size ≤ g) :
  Wat (w1.setCell ⟨c, 0, none⟩ (.slice (some ⟨g, 0, none⟩) K'.length cap)) c { s with V := .slice (some ⟨g, 0, none⟩) K'.length cap, K := K' } ∧ Stp c s { s with V := .slice (some ⟨g, 0, none⟩) K'.length cap, K := K' } w (w1.setCell ⟨c, 0, none⟩ (.slice (some ⟨g, 0, none⟩) K'.length cap)) := by
 have h0 := h.kept g0
 have hnc := row_nec h0.cl h0.blk h0.ty.1
 have hb1 : w1.heap[c]? = some (.cells s.cells.toArray s.ty (0, 0)) := by
  rw [hg.block c h0.lt (fun e => by
   rcases hnc with q | q
   ·rw [q] at e; cases e
   ·exact q e.symm)]
  exact h0.blk
 have g2 := sl.grown_setCell w1 c 0 (.slice (some ⟨g, 0, none⟩) K'.length cap)
 refine ⟨⟨put hb1 ⟨rfl, rfl⟩ (by decide) (fun k hk => ?_), h.len, hown.kept g2 (row_nec hown hb1 h.ty.1), fun p hp => ?_, h.ap, h.ty⟩, ⟨g2.os.trans (hg.os.trans g0.os), g2.tape.trans (hg.tape.trans g0.tape), g2.output.trans (hg.output.trans g0.output), Nat.le_trans g0.size (Nat.le_trans hg.size g2.size), fun k hk hn => ?_, fun k f => ?_, rfl, rfl⟩⟩
 ·by_cases e : k = 0
  ·subst e
   rfl
  ·rw [if_neg e]
   unfold WS.at
   rw [if_neg e, if_neg e]
 ·have := (h0.ls p hp).kept hg (row_ne (h0.ls p hp) h0.cl (fun e => types3 e.symm))
  exact this.kept g2 (row_nec this hb1 h.ty.2)
 ·rw [g2.block k (Nat.lt_of_lt_of_le hk (Nat.le_trans g0.size hg.size)) (fun e => hn (.inl (by cases e; rfl)))]
  rw [hg.block k (Nat.lt_of_lt_of_le hk g0.size) (fun e => hn (.inr (.inl e.symm)))]
  exact g0.block k hk (fun e => by cases e)
 ·rcases f with f | f | f
  ·exact .inl (.inl f)
  ·have e : g = k := by
    have : (Value.slice (some ⟨g, 0, none⟩) K'.length cap).ownBlock = some k := f
    simpa [Value.ownBlock] using this
   subst e
   rcases hl with q | q
   ·exact .inl (.inr (.inl q))
   ·exact .inr q
  ·exact .inl (.inr (.inr f))
def PS.add (P : PS) (S : Nat) : PS :=
 if S = 0 then { P with K := P.K ++ [(0, 0, 0)], em := true, ho := true }
 else if woN S (fstI S) = 0 then { (((P.more 0 (P.K.length : Int)).more 49 (P.K.length : Int)).more (1 + placeN (fstI S)) (P.K.length : Int)) with K := P.K ++ [(S, fstI S, fstI S)] }
 else { ((P.more (1 + placeN (fstI (woN S (fstI S)))) (P.K.length : Int)).more (1 + placeN (fstI S)) (P.K.length : Int)) with K := P.K ++ [(S, fstI S, fstI (woN S (fstI S)))] }
theorem new_block (w : World) (o : Obj) : (w.alloc o).heap[w.heap.size]? = some o := by
 show (w.heap.push o)[w.heap.size]? = _
 simp
theorem Wat.keep {w w1 : World} {c k : Nat} {s : WS} {o : Obj} {r : Option Nat} (h : Wat w c s) (hr : r = none ∨ r ≠ some c) (g : (w.alloc o).grownBy w1 r) (hk : k < 54) : w1.cell? ⟨c, k, none⟩ = some (s.at k) ∧ w1.frozen? ⟨c, k, none⟩ = false := by
 have h0 := h.kept (World.grownBy_alloc w o none)
 have e : w1.heap[c]? = (w.alloc o).heap[c]? := g.block c h0.lt (fun e => by
  rcases hr with q | q
  ·rw [q] at e; cases e
  ·exact q e.symm)
 exact ⟨(World.cell?_of_block (a := ⟨c, k, none⟩) e).trans (h0.cell hk), (World.frozen?_of_block (a := ⟨c, k, none⟩) e).trans (h0.fz _)⟩
structure AddK (c : Nat) (s : WS) (w : World) (v : Value) (k : Nat × Int × Int) : Prop where
 own : (w.alloc (.cells #[.int .u64 (k.1 : Int), .int .i8 k.2.1, .int .i8 k.2.2] 125)).ownsRow 0 125 3 v s.K.length (rowsK s.K)
 cell : ∀ w1, (w.alloc (.cells #[.int .u64 (k.1 : Int), .int .i8 k.2.1, .int .i8 k.2.2] 125)).grownBy w1 v.ownBlock → w1.cell? ⟨c, 0, none⟩ = some v ∧ w1.frozen? ⟨c, 0, none⟩ = false
 fin : ∀ g cap w1, w1.ownsRow 0 125 3 (.slice (some ⟨g, 0, none⟩) (s.K.length + 1) cap) (s.K.length + 1) (rowsK (s.K ++ [k])) → (w.alloc (.cells #[.int .u64 (k.1 : Int), .int .i8 k.2.1, .int .i8 k.2.2] 125)).grownBy w1 v.ownBlock → (v.ownBlock = some g ∨ w.heap.size + 1 ≤ g) →
  ∃ s', Wat (w1.setCell ⟨c, 0, none⟩ (.slice (some ⟨g, 0, none⟩) (s.K.length + 1) cap)) c s' ∧ Stp c s s' w (w1.setCell ⟨c, 0, none⟩ (.slice (some ⟨g, 0, none⟩) (s.K.length + 1) cap)) ∧ s'.ps = { s.ps with K := s.K ++ [k] } ∧ s'.em = s.em
theorem addK_of {c : Nat} {s : WS} {w : World} {v : Value} (h : Wat w c s) (e : s.V = v) (k : Nat × Int × Int) : AddK c s w v k := by
 subst e
 have ga := World.grownBy_alloc w (.cells #[.int .u64 (k.1 : Int), .int .i8 k.2.1, .int .i8 k.2.2] 125) none
 refine ⟨h.cl.kept ga (ne_none _), fun w1 g1 => ?_, fun g cap w1 o1 g1 l1 => ?_⟩
 ·exact h.keep (k := 0) (row_nec h.cl h.blk h.ty.1) g1 (by decide)
 ·have el : (s.K ++ [k]).length = s.K.length + 1 := by simp
  have := h.addK (K' := s.K ++ [k]) (g := g) (cap := cap) ga (by rw [el]; exact o1) g1 (by rcases l1 with q | q; exact .inl q; exact .inr (by omega))
  rw [el] at this
  exact ⟨_, this.1, this.2, rfl, rfl⟩
structure AddL (c : Nat) (s : WS) (w : World) (j q : Nat) (y : Int) (v : Value) (L : List Int) : Prop where
 own : (w.alloc (.cells #[.int .i64 y] 3)).ownsRow 0 3 1 v L.length (ints L)
 cell : ∀ w1, (w.alloc (.cells #[.int .i64 y] 3)).grownBy w1 v.ownBlock → w1.cell? ⟨c, q, none⟩ = some v ∧ w1.frozen? ⟨c, q, none⟩ = false
 fin : ∀ g cap w1, w1.ownsRow 0 3 1 (.slice (some ⟨g, 0, none⟩) (L.length + 1) cap) (L.length + 1) (ints L ++ [.int .i64 y]) → (w.alloc (.cells #[.int .i64 y] 3)).grownBy w1 v.ownBlock → (v.ownBlock = some g ∨ w.heap.size ≤ g) →
  ∃ s', Upd c s s' j y w (w1.setCell ⟨c, q, none⟩ (.slice (some ⟨g, 0, none⟩) (L.length + 1) cap))
theorem addL_of {c j q : Nat} {s : WS} {w : World} (h : Wat w c s) (hj : j < 50) (hq : pos j = q) (y : Int) : ∃ a cp L, (s.A.getD j nil_) = (.slice a L.length cp, L) ∧ s.at q = .slice a L.length cp ∧ AddL c s w j q y (.slice a L.length cp) L := by
 subst hq
 have hjl : j < s.A.length := by rw [h.len]; exact hj
 have own0 := h.ls _ (mem_getD hjl)
 have ea := atPos s hj
 obtain ⟨v, L, eA⟩ : ∃ v L, s.A.getD j nil_ = (v, L) := ⟨_, _, rfl⟩
 rw [eA] at own0 ea
 obtain ⟨a, cp, ev, _⟩ := Sl.of_own own0
 have ev' : v = .slice a L.length cp := ev
 subst ev'
 refine ⟨a, cp, L, eA, ea, own0.kept (World.grownBy_alloc w _ none) (ne_none _), fun w1 g1 => ?_, fun g cap w1 o1 g1 l1 => ?_⟩
 ·have := h.keep (k := pos j) (row_nec own0 h.blk h.ty.2) g1 (pos_lt hj)
  rw [ea] at this
  exact this
 ·have := h.one (y := y) (w1 := w1) (g := g) (cap := cap) hj (World.grownBy_alloc w (.cells #[.int .i64 y] 3) none) (by rw [eA]; exact o1) (by rw [eA]; exact g1) (by rw [eA]; exact l1)
  rw [eA] at this
  exact this
set_option maxRecDepth 100000 in
set_option maxHeartbeats 8000000 in
theorem add {w : World} {c S : Nat} {s : WS} (h : Wat w c s) (hTab : TabF c s w) (hS : S < 2 ^ 48) (hl : s.K.length ≤ 1048576) (hb : ∀ j, (s.A.getD j nil_).2.length ≤ 4194000) :
  Calls Tryd.prog 46 #[.pointer (some ⟨c, 0, none⟩), .int .u64 (S : Int)] w fun e w' => ∃ s', e = .returned (.tuple #[]) ∧ Wat w' c s' ∧ Stp c s s' w w' ∧ s'.ps = s.ps.add S := by
 obtain ⟨a0, cap0, eV⟩ := h.vform
 have x0 := h.cell (k := 0) (by decide)
 rw [at0, eV] at x0
 have f0 := h.fz 0
 by_cases h0 : S = 0
 ·subst h0
  have EP : Hid (s.ps.add 0 = { s.ps with K := s.K ++ [(0, 0, 0)], em := true, ho := true }) := rfl
  have AK := hide (addK_of h eV (0, 0, 0))
  have ne0 := World.new_ne w _ x0
  have NB := hide (new_block w (.cells #[.int .u64 0, .int .i8 0, .int .i8 0] 125))
  clear h
  go_enter Tryd.func46, Tryd.ntmps46
  go_wp2_with (at_builtin; refine listK (S := 0) (x := 0) (y := 0) (b := w.heap.size) (unhide AK).own (unhide NB) hl rfl _ _ rfl rfl rfl ?_)
  intro g cap w1 o1 g1 l1
  have y0 := ((unhide AK).cell w1 g1).1
  have y1 := ((unhide AK).cell w1 g1).2
  obtain ⟨s', q1, q2, q3, q4⟩ := (unhide AK).fin g cap w1 o1 g1 (by rcases l1 with q | q; exact .inl q; exact .inr q)
  have k5 := q1.setEm true
  have f51 := q1.fz 51
  have x51 := q1.cell (k := 51) (by decide)
  rw [at51] at x51
  have k6 := k5.1.setHo true
  have f53 := k5.1.fz 53
  have x53 := k5.1.cell (k := 53) (by decide)
  rw [at53] at x53
  have R : Hid (Wat _ c { s' with em := true, ho := true } ∧ Stp c s { s' with em := true, ho := true } w _ ∧ ({ s' with em := true, ho := true } : WS).ps = s.ps.add 0) := ⟨k6.1, (q2.trans k5.2).trans k6.2, by
   rw [unhide EP]
   show ({ s'.ps with em := true, ho := true } : PS) = _
   rw [q3]⟩
  clear o1 g1 l1 q1 q2 q3 q4 k5 k6 AK NB
  go_wp2_with fail
  exact ret0 rfl rfl ⟨rfl, _, unhide R⟩
 ·have hSp : 0 < S := by omega
  have hS0 : ((S : Int) == 0) = false := by simp [h0]
  have fs := fst_spec hSp hS
  have CF := hide (srt.first S w hTab.1 hSp hS)
  have CW := hide (srt.without S (fstI S) w hS fs.1)
  have hrl : woN S (fstI S) < 2 ^ 48 := woN_lt hS
  have hi' : (0 : Int) ≤ (s.K.length : Int) := by omega
  by_cases hr : woN S (fstI S) = 0
  ·have EP : Hid (s.ps.add S = { (((s.ps.more 0 (s.K.length : Int)).more 49 (s.K.length : Int)).more (1 + placeN (fstI S)) (s.K.length : Int)) with K := s.K ++ [(S, fstI S, fstI S)] }) := by
    show _ = _
    unfold PS.add
    rw [if_neg h0, if_pos hr]
    rfl
   have hr0 : ((woN S (fstI S) : Int) != 0) = false := by rw [hr]; rfl
   have x50 := h.cell (k := 50) (by decide)
   have f50 := h.fz 50
   obtain ⟨a1, c1, L1, eA1, eat1, AL1⟩ := addL_of h (j := 0) (q := 50) (by decide) rfl (s.K.length : Int)
   rw [eat1] at x50
   have hb0 := hb 0
   rw [eA1] at hb0
   have NB := hide (new_cell w (s.K.length : Int))
   have EV := hide eV
   have HB := hide hb
   have ALH := hide AL1
   clear AL1 eA1 eat1 h hTab hb
   generalize hy : fstI S = y at *
   have HFS := hide fs.1
   rw [hr] at CW
   go_enter Tryd.func46, Tryd.ntmps46
   go_wp2_with fail
   refine (unhide CF).mono ?_; rintro e w2 ⟨rfl, hw⟩; have hw' := hw.symm; clear hw; subst hw'
   go_wp2_with fail
   refine (unhide CW).mono ?_; rintro e w2 ⟨rfl, hw⟩; have hw' := hw.symm; clear hw; subst hw'
   clear CF CW
   go_wp2_with (at_builtin; refine listW (unhide ALH).own (unhide NB) (by omega) rfl _ _ rfl rfl rfl ?_)
   intro g cap w1 o1 g1 l1
   have y0 := ((unhide ALH).cell w1 g1).1
   have y1 := ((unhide ALH).cell w1 g1).2
   obtain ⟨s0, u0⟩ := (unhide ALH).fin g cap w1 o1 g1 (by rcases l1 with q | q; exact .inl q; exact .inr (Nat.le_of_succ_le q))
   have x52 := u0.1.cell (k := 52) (by decide)
   have f52 := u0.1.fz 52
   obtain ⟨a2, c2, L2, eA2, eat2, AL2⟩ := addL_of u0.1 (j := 49) (q := 52) (by decide) rfl (s.K.length : Int)
   rw [eat2] at x52
   have hb49 : L2.length ≤ 4194000 := by
    have e := u0.2.2.2.2.2.2.2 49 (by decide)
    rw [eA2] at e
    have := unhide HB 49
    rw [← e] at this
    exact this
   have NB2 := hide (new_cell (w1.setCell ⟨c, 50, none⟩ (.slice (some ⟨g, 0, none⟩) (L1.length + 1) cap)) (s.K.length : Int))
   have es : (w1.setCell ⟨c, 50, none⟩ (.slice (some ⟨g, 0, none⟩) (L1.length + 1) cap)).heap.size = w1.heap.size := by simp
   rw [es] at NB2
   have ES := hide es
   clear es
   have ALH2 := hide AL2
   have U0 := hide u0
   clear o1 g1 l1 ALH NB u0 AL2 eA2 eat2
   go_wp2_with (at_builtin; refine listW (unhide ALH2).own (unhide NB2) (by omega) rfl _ _ rfl rfl rfl ?_)
   intro g' cap' w1' o1 g1 l1
   have y0' := ((unhide ALH2).cell w1' g1).1
   have y1' := ((unhide ALH2).cell w1' g1).2
   obtain ⟨s1, u1⟩ := (unhide ALH2).fin g' cap' w1' o1 g1 (by rcases l1 with q | q; exact .inl q; exact .inr (by rw [unhide ES]; exact Nat.le_of_succ_le q))
   have hb1 : (s1.A.getD (1 + placeN y) nil_).2.length ≤ 4194304 := by
    have hp := placeN_le (unhide HFS)
    rw [u1.2.2.2.2.2.2.2 _ (by omega), (unhide U0).2.2.2.2.2.2.2 _ (by omega)]
    have := unhide HB (1 + placeN y)
    omega
   have CWa := hide (watch (i := (s.K.length : Int)) (x := y) u1.1 (unhide HFS) hb1)
   have U1 := hide u1
   clear o1 g1 l1 ALH2 NB2 u1
   go_wp2_with fail
   refine (unhide CWa).mono ?_; rintro e w3 ⟨s3, rfl, u3⟩
   have eV3 : s3.V = .slice a0 s.K.length cap0 := by rw [u3.2.2.1, (unhide U1).2.2.1, (unhide U0).2.2.1]; exact unhide EV
   have eK3 : s3.K = s.K := by rw [u3.2.2.2.1, (unhide U1).2.2.2.1, (unhide U0).2.2.2.1]
   have AK := addK_of u3.1 eV3 (S, y, y)
   have EE : Hid (∀ s4 : WS, s4.ps = { s3.ps with K := s3.K ++ [(S, y, y)] } → s4.ps = s.ps.add S) := by
    intro s4 q
    rw [q, unhide EP, u3.ps, (unhide U1).ps, (unhide U0).ps, eK3]
   have ST := hide (((unhide U0).2.1.trans (unhide U1).2.1).trans u3.2.1)
   have z0 := u3.1.cell (k := 0) (by decide)
   rw [at0, eV3] at z0
   have ne3 := World.new_ne w3 _ z0
   have NB := hide (new_block w3 (.cells #[.int .u64 (S : Int), .int .i8 y, .int .i8 y] 125))
   have HAK := hide AK
   have hl3 : s3.K.length ≤ 1048576 := by rw [eK3]; exact hl
   have EK3 := hide eK3
   clear CWa U1 U0 u3 AK EP eV3 eK3
   go_wp2_with (at_builtin; refine listK (K := s3.K) (S := S) (x := y) (y := y) (b := w3.heap.size) (unhide HAK).own (unhide NB) hl3 rfl _ _ rfl rfl rfl ?_)
   intro g5 cap5 w5 o5 g5' l5
   have v0 := ((unhide HAK).cell w5 g5').1
   have v1 := ((unhide HAK).cell w5 g5').2
   obtain ⟨s5, q1, q2, q3, q4⟩ := (unhide HAK).fin g5 cap5 w5 o5 g5' (by rcases l5 with q | q; exact .inl q; exact .inr q)
   have R : Hid (Wat _ c s5 ∧ Stp c s s5 w _ ∧ s5.ps = s.ps.add S) := ⟨q1, (unhide ST).trans q2, unhide EE s5 q3⟩
   clear o5 g5' l5 q1 q2 q3 q4 HAK NB EE ST
   go_wp2_with fail
   first
    | exact end0 rfl rfl ⟨_, rfl, unhide R⟩
    | exact ret0 rfl rfl ⟨_, rfl, unhide R⟩
  ·have hrp : 0 < woN S (fstI S) := by omega
   have fz := fst_spec hrp hrl
   have CF2 := hide (srt.first (woN S (fstI S)) w hTab.1 hrp hrl)
   have hne : placeN (fstI (woN S (fstI S))) ≠ placeN (fstI S) := by
    have := fz.2
    rw [srt.woN_bit _ _ _ hS fs.1, Bool.and_eq_true, Bool.not_eq_true', decide_eq_false_iff_not] at this
    exact fun e => this.2 e.symm
   have EP : Hid (s.ps.add S = { ((s.ps.more (1 + placeN (fstI (woN S (fstI S)))) (s.K.length : Int)).more (1 + placeN (fstI S)) (s.K.length : Int)) with K := s.K ++ [(S, fstI S, fstI (woN S (fstI S)))] }) := by
    show _ = _
    unfold PS.add
    rw [if_neg h0, if_neg hr]
    rfl
   have hr0 : ((woN S (fstI S) : Int) != 0) = true := by simp; omega
   have hb1 := hb (1 + placeN (fstI (woN S (fstI S))))
   have CW1 := hide (watch (i := (s.K.length : Int)) (x := fstI (woN S (fstI S))) h fz.1 (by omega))
   have EV := hide eV
   have HB := hide hb
   have HNE := hide hne
   have HFS := hide fs.1
   clear h hTab hb hb1 hne fz hr hrp hrl
   generalize hz : fstI (woN S (fstI S)) = z at *
   generalize woN S (fstI S) = r at *
   generalize hy : fstI S = y at *
   go_enter Tryd.func46, Tryd.ntmps46
   go_wp2_with fail
   refine (unhide CF).mono ?_; rintro e w2 ⟨rfl, hw⟩; have hw' := hw.symm; clear hw; subst hw'
   go_wp2_with fail
   refine (unhide CW).mono ?_; rintro e w2 ⟨rfl, hw⟩; have hw' := hw.symm; clear hw; subst hw'
   go_wp2_with fail
   refine (unhide CF2).mono ?_; rintro e w2 ⟨rfl, hw⟩; have hw' := hw.symm; clear hw; subst hw'
   clear CF CW CF2
   go_wp2_with fail
   refine (unhide CW1).mono ?_; rintro e w1 ⟨s1, rfl, u1⟩
   have hb1 : (s1.A.getD (1 + placeN y) nil_).2.length ≤ 4194304 := by
    rw [u1.2.2.2.2.2.2.2 _ (fun e => unhide HNE (by omega))]
    have := unhide HB (1 + placeN y)
    omega
   have CWa := hide (watch (i := (s.K.length : Int)) (x := y) u1.1 (unhide HFS) hb1)
   have U1 := hide u1
   clear CW1 u1
   go_wp2_with fail
   refine (unhide CWa).mono ?_; rintro e w3 ⟨s3, rfl, u3⟩
   have eV3 : s3.V = .slice a0 s.K.length cap0 := by rw [u3.2.2.1, (unhide U1).2.2.1]; exact unhide EV
   have eK3 : s3.K = s.K := by rw [u3.2.2.2.1, (unhide U1).2.2.2.1]
   have AK := addK_of u3.1 eV3 (S, y, z)
   have EE : Hid (∀ s4 : WS, s4.ps = { s3.ps with K := s3.K ++ [(S, y, z)] } → s4.ps = s.ps.add S) := by
    intro s4 q
    rw [q, unhide EP, u3.ps, (unhide U1).ps, eK3]
   have ST := hide ((unhide U1).2.1.trans u3.2.1)
   have z0 := u3.1.cell (k := 0) (by decide)
   rw [at0, eV3] at z0
   have ne3 := World.new_ne w3 _ z0
   have NB := hide (new_block w3 (.cells #[.int .u64 (S : Int), .int .i8 y, .int .i8 z] 125))
   have HAK := hide AK
   have hl3 : s3.K.length ≤ 1048576 := by rw [eK3]; exact hl
   clear CWa U1 u3 AK EP eV3 eK3
   go_wp2_with (at_builtin; refine listK (K := s3.K) (S := S) (x := y) (y := z) (b := w3.heap.size) (unhide HAK).own (unhide NB) hl3 rfl _ _ rfl rfl rfl ?_)
   intro g5 cap5 w5 o5 g5' l5
   have v0 := ((unhide HAK).cell w5 g5').1
   have v1 := ((unhide HAK).cell w5 g5').2
   obtain ⟨s5, q1, q2, q3, q4⟩ := (unhide HAK).fin g5 cap5 w5 o5 g5' (by rcases l5 with q | q; exact .inl q; exact .inr q)
   have R : Hid (Wat _ c s5 ∧ Stp c s s5 w _ ∧ s5.ps = s.ps.add S) := ⟨q1, (unhide ST).trans q2, unhide EE s5 q3⟩
   clear o5 g5' l5 q1 q2 q3 q4 HAK NB EE ST
   go_wp2_with fail
   first
    | exact end0 rfl rfl ⟨_, rfl, unhide R⟩
    | exact ret0 rfl rfl ⟨_, rfl, unhide R⟩
end Go.Proofs.YtfhmdpbnnieohaaDoor.wm
namespace Go.Proofs.YtfhmdpbnnieohaaDoor.wm
open Go.ChangeShapes Go.WideShapes Go.ChangeAt Go.RowKit
open wm0 (end0 ret0 stepW listW listB)
open lits (okB okB_iff)
open bset (placeN placeN_le placeC placeN_inj setOf setOf_lt)
open srt (Tab woN woN_lt woN_bit fstI swp)
open css (Sls)
open sl (Sl Own ints hide unhide ret_int ret_bool grown_refl grown_trans grown_drewN)
set_option linter.unusedVariables false
theorem opn0 {S : Nat} (hS : S < 2 ^ 48) (b : Nat) : (opn S 0).testBit b = S.testBit b := by
 rw [opn_bit _ _ _ hS, Nat.zero_testBit]
 simp
theorem clsd0 (S : Nat) : clsd S 0 = false := by
 unfold clsd
 rw [Nat.and_zero]
 rfl
theorem opn00 {S : Nat} (hS : S < 2 ^ 48) : opn S 0 = S := Nat.eq_of_testBit_eq fun b => opn0 hS b
theorem K_snoc_old {K : List (Nat × Int × Int)} {k : Nat × Int × Int} {j : Nat} (h : j < K.length) : (K ++ [k]).getD j zk = K.getD j zk := by
 rw [List.getD, List.getD, List.getElem?_append_left h]
theorem K_snoc_new {K : List (Nat × Int × Int)} {k : Nat × Int × Int} : (K ++ [k]).getD K.length zk = k := by
 rw [List.getD, List.getElem?_append_right (Nat.le_refl _)]
 simp
theorem S_snoc_old {Ss : List Nat} {S j : Nat} (h : j < Ss.length) : (Ss ++ [S]).getD j 0 = Ss.getD j 0 := by
 rw [List.getD, List.getD, List.getElem?_append_left h]
theorem S_snoc_new {Ss : List Nat} {S : Nat} : (Ss ++ [S]).getD Ss.length 0 = S := by
 rw [List.getD, List.getElem?_append_right (Nat.le_refl _)]
 simp
theorem Jn.grow {Ss : List Nat} {P P' : PS} {S : Nat} {k : Nat × Int × Int} (h : Jn Ss P 0 0 [] []) (h0 : P.tk = 0) (hS : S < 2 ^ 48) (hN : Ss.length < 1048576) (htk : P'.tk = 0) (hK : P'.K = P.K ++ [k]) (hk : k.1 = S) (hal : P'.A.length = 50)
  (hA : ∀ j x, x ∈ P.A.getD j [] → x ∈ P'.A.getD j []) (hidx : ∀ j x, x ∈ P'.A.getD j [] → x ∈ P.A.getD j [] ∨ (x = (Ss.length : Int) ∧ S ≠ 0)) (hbd : wgt P' 0 ≤ 4194304) (htt : tot P' ≤ tot P + 2) (h49 : S ≠ 0 → k.2.1 = k.2.2 → (Ss.length : Int) ∈ P'.A.getD 49 []) (h49o : (Ss.length : Int) ∈ P'.A.getD 49 [] → ∀ a b, S.testBit a = true → S.testBit b = true → a = b) (h49n : (P'.A.getD 49 []).length ≤ (P.A.getD 49 []).length + 1) (hho : P'.ho = true ↔ P.ho = true ∨ S = 0) (hem : P.em = true → P'.em = true)
  (hez : S = 0 → P'.em = true) (hes : P'.em = true → P.em = true ∨ S = 0)
  (hwat : S ≠ 0 → okB k.2.1 = true ∧ okB k.2.2 = true ∧ S.testBit (placeN k.2.1) = true ∧ S.testBit (placeN k.2.2) = true ∧ (Ss.length : Int) ∈ P'.A.getD (1 + placeN k.2.1) [] ∧ (Ss.length : Int) ∈ P'.A.getD (1 + placeN k.2.2) [])
  (hwt : (Ss.length : Int) ∈ P'.A.getD 0 [] → ∀ a b, S.testBit a = true → S.testBit b = true → a = b)
  (hst : S ≠ 0 → ((Ss.length : Int) ∈ P'.A.getD 0 [] ∧ ∀ b, S.testBit b = true → b = placeN k.2.1) ∨ k.2.1 ≠ k.2.2) : Jn (Ss ++ [S]) P' 0 0 [] [] := by
 have hlen : P.K.length = Ss.length := h.len
 have cs : ∀ {i}, i < (Ss ++ [S]).length → i < Ss.length ∨ i = Ss.length := fun {i} hi => by rw [List.length_append] at hi; simp at hi; omega
 have ko : ∀ i, i < Ss.length → P'.K.getD i zk = P.K.getD i zk := fun i hi => by rw [hK]; exact K_snoc_old (by omega)
 have kn : P'.K.getD Ss.length zk = k := by rw [hK, ← hlen]; exact K_snoc_new
 refine ⟨(by rw [hK]; simp [hlen]), fun i hi => ?_, fun i hi => ?_, (by rw [htk]; decide), (by decide), hal, fun b hb => (by rw [Nat.zero_testBit] at hb; cases hb), fun i hi hSi => ?_, fun j x hx => ?_, fun x hx => (by cases hx), fun q => absurd rfl q, fun q => absurd rfl q, (by simpa using hbd), (by simp; omega), ?_, Nat.zero_le _, fun i hi hSi => ?_, fun q hq => ?_, ?_, ?_, fun q hq _ => ?_, fun he => ?_, fun i hi hz => ?_, fun i hi hSi _ => ?_⟩
 ·rcases cs hi with q | q
  ·rw [ko i q, S_snoc_old q]
   exact h.sets i q
  ·subst q
   rw [kn, S_snoc_new]
   exact hk
 ·rcases cs hi with q | q
  ·rw [S_snoc_old q]
   exact h.wd i q
  ·subst q
   rw [S_snoc_new]
   exact hS
 ·rcases cs hi with q | q
  ·rw [S_snoc_old q] at hSi ⊢
   rw [ko i q]
   have := h.wat i q hSi
   exact ⟨this.1, this.2.1, this.2.2.1, this.2.2.2.1, hA _ _ this.2.2.2.2.1, hA _ _ this.2.2.2.2.2⟩
  ·subst q
   rw [S_snoc_new] at hSi ⊢
   rw [kn]
   exact hwat hSi
 ·rcases hidx j x hx with q | ⟨q1, q2⟩
  ·obtain ⟨k', e1, e2, e3⟩ := h.idx j x q
   exact ⟨k', e1, by rw [List.length_append]; omega, by rw [S_snoc_old e2]; exact e3⟩
  ·exact ⟨Ss.length, q1, by simp, by rw [S_snoc_new]; exact q2⟩
 ·have := h.tt
  rw [List.length_append, List.length_singleton]
  omega
 ·rcases cs hi with q | q
  ·rw [S_snoc_old q] at hSi
   rw [ko i q]
   exact fun e => hA _ _ (h.sg i q hSi e)
  ·subst q
   rw [S_snoc_new] at hSi
   rw [kn]
   exact h49 hSi
 ·rcases hidx 49 _ hq with z | ⟨z1, z2⟩
  ·obtain ⟨k', e1, e2, e3⟩ := h.idx 49 _ z
   have : k' = q := by omega
   subst this
   rw [S_snoc_old e2]
   exact h.so k' z
  ·have : q = Ss.length := by omega
   subst this
   rw [S_snoc_new]
   exact h49o hq
 ·have := h.sn
  rw [List.length_append, List.length_singleton]
  omega
 ·rw [hho, h.hz]
  constructor
  ·rintro (⟨i, hi, e⟩ | e)
   ·exact ⟨i, by rw [List.length_append]; omega, by rw [S_snoc_old hi]; exact e⟩
   ·exact ⟨Ss.length, by simp, by rw [S_snoc_new]; exact e⟩
  ·rintro ⟨i, hi, e⟩
   rcases cs hi with q | q
   ·rw [S_snoc_old q] at e
    exact .inl ⟨i, q, e⟩
   ·subst q
    rw [S_snoc_new] at e
    exact .inr e
 ·rw [htk]
  rcases hidx 0 _ hq with z | ⟨z1, z2⟩
  ·obtain ⟨k', e1, e2, e3⟩ := h.idx 0 _ z
   have : k' = q := by omega
   subst this
   rw [S_snoc_old e2]
   have := h.wt k' z (by rw [h0]; exact clsd0 _)
   rw [h0] at this
   exact this
  ·have : q = Ss.length := by omega
   subst this
   rw [S_snoc_new, opn00 hS]
   exact hwt hq
 ·rw [htk]
  rcases hes he with z | z
  ·obtain ⟨i, hi, hc, ho⟩ := h.es z
   rw [h0] at hc ho
   exact ⟨i, by rw [List.length_append]; omega, by rw [S_snoc_old hi]; exact hc, by rw [S_snoc_old hi]; exact ho⟩
  ·exact ⟨Ss.length, by simp, clsd0 _, by rw [S_snoc_new, opn00 hS]; exact z⟩
 ·rcases cs hi with q | q
  ·rw [S_snoc_old q] at hz
   exact hem (h.ez i q hz)
  ·subst q
   rw [S_snoc_new] at hz
   exact hez hz
 ·have nl : ∀ p, ¬ lost P' p := fun p z => by
   have : P'.tk.testBit (placeN (-p)) = true := z
   rw [htk, Nat.zero_testBit] at this
   cases this
  rcases cs hi with q | q
  ·rw [S_snoc_old q] at hSi ⊢
   rw [ko i q]
   rcases h.st i q hSi (by rw [h0]; exact clsd0 _) with ⟨a1, y, a2, a3, a4⟩ | ⟨b1, b2⟩ | ⟨c1, c2, c3⟩ | ⟨d1, d2, d3⟩
   ·rw [h0] at a3 a4
    exact .inl ⟨hA _ _ a1, y, a2, by rw [htk]; exact a3, by rw [htk]; exact a4⟩
   ·rw [h0] at b2
    exact .inr (.inl ⟨hem b1, by rw [htk]; exact b2⟩)
   ·exact .inr (.inr (.inl ⟨c1, fun z => absurd z (nl _), fun z => absurd z (nl _)⟩))
   ·exfalso
    have nl0 : ∀ p, ¬ lost P p := fun p z => by
     have : P.tk.testBit (placeN (-p)) = true := z
     rw [h0, Nat.zero_testBit] at this
     cases this
    rcases d3 with z | z
    ·exact nl0 _ z.1
    ·exact nl0 _ z.1
  ·subst q
   rw [S_snoc_new] at hSi ⊢
   rw [kn]
   rcases hst hSi with ⟨z1, z2⟩ | z
   ·refine .inl ⟨z1, k.2.1, .inl rfl, ?_, fun b hb => ?_⟩
    ·rw [htk, opn00 hS]
     exact (hwat hSi).2.2.1
    ·rw [htk, opn00 hS] at hb
     exact z2 b hb
   ·exact .inr (.inr (.inl ⟨z, fun z => absurd z (nl _), fun z => absurd z (nl _)⟩))
theorem Jn.add {Ss : List Nat} {P : PS} {S : Nat} (h : Jn Ss P 0 0 [] []) (h0 : P.tk = 0) (hS : S < 2 ^ 48) (hb : wgt P 0 ≤ 3 * Ss.length) (hN : Ss.length < 1048576) : Jn (Ss ++ [S]) (P.add S) 0 0 [] [] ∧ (P.add S).tk = 0 ∧ wgt (P.add S) 0 ≤ 3 * (Ss ++ [S]).length := by
 have hlen : P.K.length = Ss.length := h.len
 have l1 : (Ss ++ [S]).length = Ss.length + 1 := by simp
 unfold PS.add
 by_cases hz : S = 0
 ·rw [if_pos hz]
  have no49 : (Ss.length : Int) ∉ P.A.getD 49 [] := fun q => by
   obtain ⟨k', e1, e2, e3⟩ := h.idx 49 _ q
   omega
  refine ⟨h.grow (k := (0, 0, 0)) h0 hS hN h0 rfl hz.symm h.al (fun _ _ q => q) (fun _ _ q => .inl q) ?_ (Nat.le_add_right _ _) (fun q => absurd hz q) (fun q => absurd q no49) (Nat.le_add_right _ _) ⟨fun _ => .inr hz, fun _ => rfl⟩ (fun _ => rfl) (fun _ => rfl) (fun _ => .inr hz) (fun q => absurd hz q) (fun q => ?_) (fun q => absurd hz q), h0, ?_⟩
  ·show wgt P 0 ≤ _
   omega
  ·obtain ⟨k', e1, e2, e3⟩ := h.idx 0 _ q
   omega
  ·rw [l1]
   show wgt P 0 ≤ _
   omega
 ·rw [if_neg hz]
  have hSp : 0 < S := by omega
  have fs := fst_spec hSp hS
  have hfl := placeN_le fs.1
  by_cases hr : woN S (fstI S) = 0
  ·rw [if_pos hr]
   have one := (one_iff hS hz).1 hr
   generalize fstI S = y at *
   obtain ⟨P1, hP1⟩ : ∃ P1, P1 = P.more 0 (P.K.length : Int) := ⟨_, rfl⟩
   obtain ⟨P2, hP2⟩ : ∃ P2, P2 = P1.more 49 (P.K.length : Int) := ⟨_, rfl⟩
   have w1 : wgt P1 0 ≤ wgt P 0 + 1 := by rw [hP1]; exact wgt_more
   have w2 : wgt P2 0 ≤ wgt P1 0 := by
    rw [hP2]
    unfold wgt
    have e0 : (P1.more 49 (P.K.length : Int)).A.getD 0 [] = P1.A.getD 0 [] := by rw [more_get, if_neg (fun e => by omega)]
    rw [e0]
    have := sumR_le (n := 48) (f := wf (P1.more 49 (P.K.length : Int)) 0) (g := wf P1 0) (fun p hp => by
     have e : (P1.more 49 (P.K.length : Int)).A.getD (1 + p) [] = P1.A.getD (1 + p) [] := by rw [more_get, if_neg (fun e => by omega)]
     unfold wf
     rw [e]
     exact Nat.le_refl _)
    omega
   have w3 := wgt_more (P := P2) (R := 0) (j := 1 + placeN y) (y := (P.K.length : Int))
   have t1 : tot P1 ≤ tot P := by rw [hP1]; exact tot_more0
   have t2 : tot P2 ≤ tot P1 := by
    rw [hP2]
    refine sumR_le (fun p hp => ?_)
    rw [more_get, if_neg (fun e => by omega)]
    exact Nat.le_refl _
   have t3 := tot_more (P := P2) (q := placeN y) (y := (P.K.length : Int)) (by omega)
   have l0 : P1.A.length = 50 := by rw [hP1]; show (P.A.set 0 _).length = 50; rw [List.length_set]; exact h.al
   have la : P2.A.length = 50 := by rw [hP2]; show (P1.A.set 49 _).length = 50; rw [List.length_set]; exact l0
   have m0 : ∀ {j x}, x ∈ P.A.getD j [] → x ∈ P1.A.getD j [] := fun q => by rw [hP1]; exact more_mem q
   have m1 : ∀ {j x}, x ∈ P1.A.getD j [] → x ∈ P2.A.getD j [] := fun q => by rw [hP2]; exact more_mem q
   have n1 : (P.K.length : Int) ∈ P1.A.getD 0 [] := by rw [hP1]; exact more_new (by rw [h.al]; decide)
   have n2 : (P.K.length : Int) ∈ P2.A.getD 49 [] := by rw [hP2]; exact more_new (by rw [l0]; decide)
   have e49 : (P2.more (1 + placeN y) (P.K.length : Int)).A.getD 49 [] = P.A.getD 49 [] ++ [(P.K.length : Int)] := by
    rw [more_get, if_neg (fun e => by omega), hP2, more_get, if_pos ⟨rfl, by rw [l0]; decide⟩, hP1, more_get, if_neg (fun e => by omega)]
   have ho2 : P2.ho = P.ho := by rw [hP2, hP1]; rfl
   have em2 : P2.em = P.em := by rw [hP2, hP1]; rfl
   have tk2 : P2.tk = P.tk := by rw [hP2, hP1]; rfl
   rw [← hP1, ← hP2]
   refine ⟨h.grow (k := (S, y, y)) h0 hS hN (tk2.trans h0) rfl rfl (by show (P2.A.set _ _).length = 50; rw [List.length_set]; exact la) (fun j x q => more_mem (P := P2) (m1 (m0 q))) (fun j x q => ?_) ?_ ?_ (fun _ _ => ?_) (fun _ => one) ?_ ?_ (fun q => em2.trans q) (fun q => absurd q hz) (fun q => .inl (em2.symm.trans q)) (fun _ => ?_) (fun _ => one) (fun _ => .inl ⟨?_, fun b hb => one b _ hb fs.2⟩), tk2.trans h0, ?_⟩
   ·rcases more_of (P := P2) q with z | z
    ·rw [hP2] at z
     rcases more_of z with z | z
     ·rw [hP1] at z
      rcases more_of z with z | z
      ·exact .inl z
      ·exact .inr ⟨by rw [z.2, hlen], hz⟩
     ·exact .inr ⟨by rw [z.2, hlen], hz⟩
    ·exact .inr ⟨by rw [z.2, hlen], hz⟩
   ·show wgt (P2.more (1 + placeN y) (P.K.length : Int)) 0 ≤ _
    omega
   ·show tot (P2.more (1 + placeN y) (P.K.length : Int)) ≤ _
    omega
   ·show (Ss.length : Int) ∈ (P2.more (1 + placeN y) (P.K.length : Int)).A.getD 49 []
    rw [e49, hlen]
    simp
   ·show ((P2.more (1 + placeN y) (P.K.length : Int)).A.getD 49 []).length ≤ _
    rw [e49]
    simp
   ·show P2.ho = true ↔ _
    rw [ho2]
    exact ⟨fun q => .inl q, fun q => q.resolve_right hz⟩
   ·have := more_new (P := P2) (j := 1 + placeN y) (y := (P.K.length : Int)) (by rw [la]; omega)
    rw [hlen] at this
    rw [hlen]
    exact ⟨fs.1, fs.1, fs.2, fs.2, this, this⟩
   ·have := more_mem (P := P2) (j := 1 + placeN y) (y := (P.K.length : Int)) (m1 n1)
    rw [hlen] at this
    rw [hlen]
    exact this
   ·rw [l1]
    show wgt (P2.more (1 + placeN y) (P.K.length : Int)) 0 ≤ _
    omega
  ·rw [if_neg hr]
   have fz := fst_spec (Nat.pos_of_ne_zero hr) (woN_lt hS)
   have fzb := fz.2
   rw [woN_bit _ _ _ hS fs.1, Bool.and_eq_true, Bool.not_eq_true', decide_eq_false_iff_not] at fzb
   have hzl := placeN_le fz.1
   generalize fstI (woN S (fstI S)) = z at *
   generalize fstI S = y at *
   have w1 := wgt_more (P := P) (R := 0) (j := 1 + placeN z) (y := (P.K.length : Int))
   have w2 := wgt_more (P := P.more (1 + placeN z) (P.K.length : Int)) (R := 0) (j := 1 + placeN y) (y := (P.K.length : Int))
   have la : (P.more (1 + placeN z) (P.K.length : Int)).A.length = 50 := by show (P.A.set _ _).length = 50; rw [List.length_set]; exact h.al
   have t1 := tot_more (P := P) (q := placeN z) (y := (P.K.length : Int)) (by omega)
   have t2 := tot_more (P := P.more (1 + placeN z) (P.K.length : Int)) (q := placeN y) (y := (P.K.length : Int)) (by omega)
   have e49 : ((P.more (1 + placeN z) (P.K.length : Int)).more (1 + placeN y) (P.K.length : Int)).A.getD 49 [] = P.A.getD 49 [] := by
    rw [more_get, if_neg (fun e => by omega), more_get, if_neg (fun e => by omega)]
   have no49 : (Ss.length : Int) ∉ P.A.getD 49 [] := fun q => by
    obtain ⟨k', e1, e2, e3⟩ := h.idx 49 _ q
    omega
   have hyz : y ≠ z := fun e => fzb.2 (by rw [e])
   refine ⟨h.grow (k := (S, y, z)) h0 hS hN h0 rfl rfl (by show ((P.more (1 + placeN z) (P.K.length : Int)).A.set _ _).length = 50; rw [List.length_set]; exact la) (fun j x q => more_mem (P := P.more (1 + placeN z) (P.K.length : Int)) (more_mem q)) (fun j x q => ?_) ?_ ?_ (fun _ e => absurd e hyz) (fun q => absurd (show (Ss.length : Int) ∈ P.A.getD 49 [] by rw [← e49]; exact q) no49) ?_ ⟨fun q => .inl q, fun q => q.resolve_right hz⟩ (fun q => q) (fun q => absurd q hz) (fun q => .inl q) (fun _ => ?_) (fun q => ?_) (fun _ => .inr (fun e => fzb.2 (by show placeN y = placeN z; rw [show y = z from e]))), h0, ?_⟩
   ·rcases more_of (P := P.more (1 + placeN z) (P.K.length : Int)) q with q | q
    ·rcases more_of q with q | q
     ·exact .inl q
     ·exact .inr ⟨by rw [q.2, hlen], hz⟩
    ·exact .inr ⟨by rw [q.2, hlen], hz⟩
   ·show wgt ((P.more (1 + placeN z) (P.K.length : Int)).more (1 + placeN y) (P.K.length : Int)) 0 ≤ _
    omega
   ·show tot ((P.more (1 + placeN z) (P.K.length : Int)).more (1 + placeN y) (P.K.length : Int)) ≤ _
    omega
   ·show (((P.more (1 + placeN z) (P.K.length : Int)).more (1 + placeN y) (P.K.length : Int)).A.getD 49 []).length ≤ _
    rw [e49]
    exact Nat.le_add_right _ _
   ·have m1 := more_new (P := P.more (1 + placeN z) (P.K.length : Int)) (j := 1 + placeN y) (y := (P.K.length : Int)) (by rw [la]; omega)
    have m2 := more_mem (P := P.more (1 + placeN z) (P.K.length : Int)) (j := 1 + placeN y) (y := (P.K.length : Int)) (more_new (P := P) (j := 1 + placeN z) (y := (P.K.length : Int)) (by rw [h.al]; omega))
    rw [hlen] at m1 m2
    rw [hlen]
    exact ⟨fs.1, fz.1, fs.2, fzb.1, m1, m2⟩
   ·exfalso
    rcases more_of (P := P.more (1 + placeN z) (P.K.length : Int)) q with q | q
    ·rcases more_of q with q | q
     ·obtain ⟨k', e1, e2, e3⟩ := h.idx 0 _ q
      omega
     ·omega
    ·omega
   ·rw [l1]
    show wgt ((P.more (1 + placeN z) (P.K.length : Int)).more (1 + placeN y) (P.K.length : Int)) 0 ≤ _
    omega
def WS.zero (v : Value) : WS := ⟨v, [], List.replicate 50 nil_, 0, false, false, 88, []⟩
theorem zero_cells (v : Value) : (WS.zero v).cells.toArray = #[v, .slice none 0 0, .slice none 0 0, .slice none 0 0, .slice none 0 0, .slice none 0 0, .slice none 0 0, .slice none 0 0, .slice none 0 0, .slice none 0 0, .slice none 0 0, .slice none 0 0, .slice none 0 0, .slice none 0 0, .slice none 0 0, .slice none 0 0, .slice none 0 0, .slice none 0 0, .slice none 0 0, .slice none 0 0, .slice none 0 0, .slice none 0 0, .slice none 0 0, .slice none 0 0, .slice none 0 0, .slice none 0 0, .slice none 0 0, .slice none 0 0, .slice none 0 0, .slice none 0 0, .slice none 0 0, .slice none 0 0, .slice none 0 0, .slice none 0 0, .slice none 0 0, .slice none 0 0, .slice none 0 0, .slice none 0 0, .slice none 0 0, .slice none 0 0, .slice none 0 0, .slice none 0 0, .slice none 0 0, .slice none 0 0, .slice none 0 0, .slice none 0 0, .slice none 0 0, .slice none 0 0, .slice none 0 0, .int .u64 0, .slice none 0 0, .bool false, .slice none 0 0, .bool false] := by rfl
theorem Wat.zero {w w1 : World} {v : Value} (ho : w1.ownsRow w.heap.size 125 3 v 0 []) : Wat (w1.alloc (.cells (WS.zero v).cells.toArray 88)) w1.heap.size (WS.zero v) := by
 refine ⟨new_block _ _, by simp [WS.zero], ?_, fun p hp => ?_, ?_, types0⟩
 ·exact (css.own_mono ho (Nat.zero_le _)).alloc _
 ·have : p = nil_ := List.eq_of_mem_replicate hp
  subst this
  exact World.ownsRow_nil _ _ _ _
 ·show (List.replicate 50 nil_).Pairwise css.Apart
  rw [List.pairwise_replicate]
  right
  intro g e
  cases e
theorem rep_get (j : Nat) : ((List.replicate 50 nil_).map (·.2)).getD j [] = ([] : List Int) := by
 rw [List.map_replicate, List.getD, List.getElem?_replicate]
 split <;> rfl
theorem wgt_zero (v : Value) : wgt (WS.zero v).ps 0 = 0 := by
 have g0 : ∀ j, (WS.zero v).ps.A.getD j [] = [] := rep_get
 unfold wgt
 rw [g0]
 have : ∀ n, sumR n (wf (WS.zero v).ps 0) = 0 := by
  intro n
  induction n with
  | zero => rfl
  | succ n ih =>
   show sumR n _ + wf _ _ n = 0
   rw [ih]
   unfold wf
   rw [g0]
   split <;> rfl
 rw [this]
 rfl
theorem tot_zero (v : Value) : tot (WS.zero v).ps = 0 := by
 have g0 : ∀ j, (WS.zero v).ps.A.getD j [] = [] := rep_get
 have : ∀ n, sumR n (fun p => ((WS.zero v).ps.A.getD (1 + p) []).length) = 0 := by
  intro n
  induction n with
  | zero => rfl
  | succ n ih =>
   show sumR n _ + ((WS.zero v).ps.A.getD (1 + n) []).length = 0
   rw [ih, g0]
   rfl
 exact this 48
theorem Jn.zero (v : Value) : Jn [] (WS.zero v).ps 0 0 [] [] := by
 have g0 : ∀ j, (WS.zero v).ps.A.getD j [] = [] := rep_get
 have w0 := wgt_zero v
 refine ⟨rfl, fun i hi => (by cases hi), fun i hi => (by cases hi), (by show (0 : Nat) < _; decide), (by decide), (by show ((List.replicate 50 nil_).map (·.2)).length = 50; simp), fun b hb => (by rw [Nat.zero_testBit] at hb; cases hb), fun i hi => (by cases hi), fun j x hx => (by rw [g0] at hx; cases hx), fun x hx => (by cases hx), fun q => absurd rfl q, fun q => absurd rfl q, (by rw [w0]; decide), (by decide), (by rw [tot_zero]; decide), Nat.zero_le _, fun i hi => (by cases hi), fun k hk => (by rw [g0] at hk; cases hk), (by rw [g0]; exact Nat.zero_le _), ⟨fun q => (by cases q), fun ⟨i, hi, _⟩ => (by cases hi)⟩, fun k hk => (by rw [g0] at hk; cases hk), fun q => (by cases q), fun i hi => (by cases hi), fun i hi => (by cases hi)⟩
structure Wof (Ss : List Nat) (t : TypeId) (x : List Value) (wB w : World) (c : Nat) (s : WS) : Prop where
 wat : Wat w c s
 g : wB.grownBy w none
 far : Far wB.heap.size c s
 jn : Jn Ss s.ps 0 0 [] []
 tk : s.tk = 0
 bd : wgt s.ps 0 ≤ 3 * Ss.length
 tx : s.ty = t ∧ s.ex = x
theorem Wof.tab {Ss : List Nat} {t : TypeId} {x : List Value} {wB w : World} {c : Nat} {s : WS} (h : Wof Ss t x wB w c s) (hT : Tab wB) : TabF c s w :=
 ⟨hT.kept h.g, fun f => by have := h.far _ f; have := tab_lt hT; omega⟩
theorem Wof.bds {Ss : List Nat} {t : TypeId} {x : List Value} {wB w : World} {c : Nat} {s : WS} (h : Wof Ss t x wB w c s) (hN : Ss.length ≤ 1048576) : ∀ j, (s.A.getD j nil_).2.length ≤ 4194000 := by
 intro j
 have hbd := h.bd
 rw [← ps_getD]
 by_cases j0 : j = 0
 ·subst j0
  unfold wgt at hbd
  omega
 ·by_cases j48 : j ≤ 48
  ·have := wgt_at (P := s.ps) (R := 0) (q := j - 1) (by omega) (by rw [show s.ps.tk = 0 from h.tk, Nat.zero_testBit]; rfl)
   rw [show 1 + (j - 1) = j by omega] at this
   omega
  ·by_cases j49 : j = 49
   ·subst j49
    have := h.jn.sn
    omega
   ·rw [List.getD, List.getElem?_eq_none (by rw [h.jn.al]; omega)]
    exact Nat.zero_le _
theorem Wof.more {Ss : List Nat} {t : TypeId} {x : List Value} {wB w w' : World} {c S : Nat} {s s' : WS} (h : Wof Ss t x wB w c s) (hN : Ss.length < 1048576) (hS : S < 2 ^ 48) (q1 : Wat w' c s') (q2 : Stp c s s' w w') (q3 : s'.ps = s.ps.add S) : Wof (Ss ++ [S]) t x wB w' c s' := by
 have ja := h.jn.add (S := S) h.tk hS h.bd hN
 refine ⟨q1, grown_stp h.g h.far q2, h.far.stp q2 h.g.size, by rw [q3]; exact ja.1, ?_, by rw [q3]; exact ja.2.2, q2.same.1.trans h.tx.1, q2.same.2.trans h.tx.2⟩
 have : s'.ps.tk = 0 := by rw [q3]; exact ja.2.1
 exact this
theorem Wof.add {Ss : List Nat} {t : TypeId} {x : List Value} {wB w : World} {c S : Nat} {s : WS} (h : Wof Ss t x wB w c s) (hT : Tab wB) (hN : Ss.length < 1048576) (hS : S < 2 ^ 48) :
  Calls Tryd.prog 46 #[.pointer (some ⟨c, 0, none⟩), .int .u64 (S : Int)] w fun e w' => ∃ s', e = .returned (.tuple #[]) ∧ Wof (Ss ++ [S]) t x wB w' c s' := by
 refine (wm.add (S := S) h.wat (h.tab hT) hS (by rw [show s.K.length = _ from h.jn.len]; omega) (h.bds (by omega))).mono ?_
 rintro e w' ⟨s', rfl, q1, q2, q3⟩
 exact ⟨s', rfl, h.more hN hS q1 q2 q3⟩
set_option maxRecDepth 100000 in
set_option maxHeartbeats 8000000 in
theorem watcherOf (v : Value) (LL : List (List Int)) (w : World) (hT : Tab w) (hn : css.tot LL ≤ 1048576) (hv : Sls w v LL) :
  Calls Tryd.prog 45 #[v] w fun e w' => ∃ c s, e = .returned (.pointer (some ⟨c, 0, none⟩)) ∧ Wof (LL.map setOf) 88 [] w w' c s := by
 have hl := Nat.le_trans (css.tot_len LL) hn
 obtain ⟨i0, hi, hz0, hz1, hz2⟩ := info_parts infoK
 have HV := hide hv
 obtain ⟨a, cap, rfl, ha⟩ := hv
 have HA := hide ha
 have HT := hide hT
 clear ha hT
 go_enter Tryd.func45, Tryd.ntmps45
 go_wp2_with (first | (at_make; refine wpList_make_own _ rfl _ _ 85 rfl w.heap.size 125 i0 _ 3 Tryd.underlying85 hi hz0 hz1 _ _ _ LL.length rfl rfl (by rfl) ?b1 ?b2 ?b3 ?_) | go_in)
 case b1 => rw [hz2]; omega
 case b2 => unfold maxLen; omega
 case b3 => exact Nat.le_refl _
 intro w1 hown hgrow
 have hz := Wat.zero hown
 have st : Hid (Wof [] 88 [] w (w1.alloc (.cells (WS.zero (.slice (some ⟨w.heap.size, 0, none⟩) 0 LL.length)).cells.toArray 88)) w1.heap.size (WS.zero (.slice (some ⟨w.heap.size, 0, none⟩) 0 LL.length))) := by
  refine ⟨hz, grown_trans hgrow (World.grownBy_alloc _ _ _), fun k f => ?_, Jn.zero _, rfl, ?_, rfl, rfl⟩
  ·rcases f with f | f | ⟨p, hp, f⟩
   ·rw [f]
    exact hgrow.size
   ·have : (Value.slice (some ⟨w.heap.size, 0, none⟩) 0 LL.length).ownBlock = some k := f
    have e : w.heap.size = k := by simpa [Value.ownBlock] using this
    omega
   ·have : p = nil_ := List.eq_of_mem_replicate hp
    subst this
    cases f
  ·have := (Jn.zero (.slice (some ⟨w.heap.size, 0, none⟩) 0 LL.length)).bd
   have z : wgt (WS.zero (.slice (some ⟨w.heap.size, 0, none⟩) 0 LL.length)).ps 0 = 0 := wgt_zero _
   rw [z]
   exact Nat.zero_le _
 rw [zero_cells] at st
 clear hz hown hgrow
 go_wp2_with fail
 go_loopw [13] (fun iv wr => ∃ (k : Nat) (s : WS), k ≤ LL.length ∧ iv = .int .i64 (k : Int) ∧ Hid (Wof ((LL.take k).map setOf) 88 [] w wr w1.heap.size s)) (fun iv _ => LL.length - (intOf iv).toNat)
 case atStart => exact ⟨0, _, Nat.zero_le _, rfl, st⟩
 case round =>
  obtain ⟨k, s, hk, rfl, hw⟩ := hrel
  clear st
  by_cases hlt : k < LL.length
  ·rcases unhide HA with h | ⟨b, off, rfl, hb, hcb⟩
   ·rw [h] at hlt
    simp at hlt
   ·obtain ⟨u, hu, hs⟩ := hcb k hlt
    have hg := (unhide hw).g
    have c1 : wr.cell? ⟨b, off + k, none⟩ = some u := hg.cell hu (fun e => by cases e)
    have hi' : (k : Int) < (LL.length : Int) := by omega
    have hL := Nat.le_trans (css.tot_in LL k) hn
    have hts := css.take_snoc LL k hlt
    have hlk : ((LL.take k).map setOf).length = k := by rw [List.length_map, List.length_take]; omega
    generalize LL.getD k [] = L at *
    have CL := hide (bset.litsOf u L wr hL (hs.kept hg (.inl rfl)))
    have EM : (LL.take (k + 1)).map setOf = (LL.take k).map setOf ++ [setOf L] := by rw [hts]; simp
    have ww := unhide hw
    have CA := hide (ww.add (S := setOf L) (unhide HT) (by rw [hlk]; omega) (setOf_lt L))
    rw [← EM] at CA
    clear hcb hs hu hg hts ww hw EM
    go_wp2_with fail
    refine (unhide CL).mono ?_; rintro e w2 ⟨rfl, hww⟩; have hw' := hww.symm; clear hww; subst hw'
    go_wp2_with fail
    refine (unhide CA).mono ?_; rintro e w2 ⟨s2, rfl, r2⟩
    have R2 := hide r2
    clear CL CA r2
    go_wp2_with fail
    go_roundw
    case rel => exact ⟨k + 1, s2, by omega, by go_num, R2⟩
    case measure => simp [intOf]; omega
  ·have hi' : ¬ (k : Int) < (LL.length : Int) := by omega
   have e : LL.take k = LL := List.take_of_length_le (by omega)
   rw [e] at hw
   clear HA e
   go_wp2_with fail
   go_ret
   first
    | exact ⟨_, s, rfl, unhide hw⟩
    | exact ⟨_, rfl, s, unhide hw⟩
    | exact ⟨rfl, s, unhide hw⟩
end Go.Proofs.YtfhmdpbnnieohaaDoor.wm
namespace Go.Proofs.YtfhmdpbnnieohaaDoor.wm
open Go.ChangeShapes Go.WideShapes Go.ChangeAt Go.RowKit
open wm0 (end0 ret0 stepW listW listB)
open lits (okB okB_iff)
open bset (placeN placeN_le placeC placeN_inj setOf setOf_lt)
open srt (Tab)
open css (Sls)
open cf (Box)
open ok (cnfB litIn)
open wo (Made)
open sl (Sl Own ints hide unhide ret_int ret_bool grown_refl grown_trans grown_drewN)
set_option linter.unusedVariables false
structure Wta (Ss : List Nat) (T : Nat) (wB w : World) (c : Nat) (s : WS) : Prop where
 wat : Wat w c s
 g : wB.grownBy w none
 far : Far wB.heap.size c s
 jn : ∃ l F, Jn Ss s.ps 0 l F []
 tk : s.tk = T
theorem foot_lt {w : World} {c k : Nat} {s : WS} (h : Wat w c s) (f : Foot c s k) : k < w.heap.size := by
 rcases f with f | f | ⟨p, hp, f⟩
 ·subst f
  exact h.lt
 ·exact (h.cl.lt k f).2
 ·exact ((h.ls p hp).lt k f).2
end Go.Proofs.YtfhmdpbnnieohaaDoor.wm
namespace Go.Proofs.YtfhmdpbnnieohaaDoor.wm
open Go.ChangeShapes Go.WideShapes Go.ChangeAt Go.RowKit
open wm0 (end0 ret0 stepW listW listB)
open lits (okB okB_iff)
open bset (placeN placeN_le placeN_inj setOf setOf_lt)
open srt (Tab)
open sl (Sl Own ints hide unhide ret_int ret_bool grown_refl grown_trans grown_drewN)
set_option linter.unusedVariables false
def PS.forget (P : PS) : PS := { P with tk := 0, A := P.A.set 0 (P.A.getD 49 []), em := P.ho }
theorem Jn.forget {Ss : List Nat} {P : PS} {R : Nat} {l : Int} {F C : List Int} (h : Jn Ss P R l F C) : Jn Ss P.forget 0 0 [] [] ∧ wgt P.forget 0 ≤ 3 * Ss.length := by
 have al := h.al
 have g0 : P.forget.A.getD 0 [] = P.A.getD 49 [] := by
  show (P.A.set 0 _).getD 0 [] = _
  rw [getD_set, if_pos ⟨rfl, by omega⟩]
 have gj : ∀ j, j ≠ 0 → P.forget.A.getD j [] = P.A.getD j [] := fun j hj => by
  show (P.A.set 0 _).getD j [] = _
  rw [getD_set, if_neg (fun q => hj q.1)]
 have ht : tot P.forget = tot P := by
  unfold tot
  congr 1
  funext p
  rw [gj _ (by omega)]
 have hw : wgt P.forget 0 ≤ 3 * Ss.length := by
  unfold wgt
  rw [g0]
  have h1 : sumR 48 (wf P.forget 0) ≤ tot P.forget := sumR_le (fun p hp => by
   unfold wf
   split
   ·exact Nat.zero_le _
   ·exact Nat.le_refl _)
  have := h.tt
  have := h.sn
  omega
 refine ⟨⟨h.len, h.sets, h.wd, (by show (0 : Nat) < 2 ^ 48; decide), (by decide), (by show (P.A.set 0 _).length = 50; rw [List.length_set]; exact al), fun b hb => (by rw [Nat.zero_testBit] at hb; cases hb), fun i hi h0 => ?_, fun j x hx => ?_, fun x hx => (by cases hx), fun q => absurd rfl q, fun q => absurd rfl q, (by have := h.nl; show _ + 0 ≤ _; omega), h.nl, by rw [ht]; exact h.tt, Nat.zero_le _, fun i hi h0 e => ?_, fun k hk => ?_, ?_, h.hz, fun k hk _ a b ha hb => ?_, fun he => ?_, fun i hi h0 => ?_, fun i hi h0 _ => ?_⟩, hw⟩
 ·have := h.wat i hi h0
  rw [gj _ (by omega), gj _ (by omega)]
  exact this
 ·by_cases j0 : j = 0
  ·subst j0
   rw [g0] at hx
   exact h.idx 49 x hx
  ·rw [gj j j0] at hx
   exact h.idx j x hx
 ·rw [gj _ (by omega)]
  exact h.sg i hi h0 e
 ·rw [gj _ (by omega)] at hk
  exact h.so k hk
 ·rw [gj _ (by omega)]
  exact h.sn
 ·rw [g0] at hk
  obtain ⟨k', e, hk', _⟩ := h.idx 49 (k : Int) hk
  have : k' = k := by omega
  subst this
  have hS := h.wd k' hk'
  rw [show P.forget.tk = 0 from rfl, opn0 hS] at ha hb
  exact h.so k' hk a b ha hb
 ·obtain ⟨i, hi, h0⟩ := h.hz.1 he
  refine ⟨i, hi, clsd0 _, ?_⟩
  rw [h0]
  exact opn00 (by decide)
 ·exact h.hz.2 ⟨i, hi, h0⟩
 ·have hS := h.wd i hi
  have hw' := h.wat i hi h0
  have no : ∀ p, ¬ lost P.forget p := fun p q => by
   unfold lost at q
   rw [show P.forget.tk = 0 from rfl, Nat.zero_testBit] at q
   cases q
  by_cases e : (P.K.getD i zk).2.1 = (P.K.getD i zk).2.2
  ·refine .inl ⟨?_, (P.K.getD i zk).2.1, .inl rfl, ?_, fun b hb => ?_⟩
   ·rw [g0]
    exact h.sg i hi h0 e
   ·rw [show P.forget.tk = 0 from rfl, opn0 hS]
    exact hw'.2.2.1
   ·rw [show P.forget.tk = 0 from rfl, opn0 hS] at hb
    exact h.so i (h.sg i hi h0 e) b _ hb hw'.2.2.1
  ·exact .inr (.inr (.inl ⟨e, fun q => absurd q (no _), fun q => absurd q (no _)⟩))
theorem stepF {ops : Array Oper} {E : Prop} {o : Oper} {a : Act} {K : Act → World → Prop} {Q : Exit → Act → World → Prop} {wr : World} {va u : Value} {C : List Int}
  (hA : wr.ownsRow 0 3 1 va 0 []) (hu : wr.ownsRow 0 3 1 u C.length (ints C)) (hl : C.length ≤ 4194304) (hgd : o.guard = none) (s x : Operand)
  (ho : o.op = .call { callee := .builtin .append, args := #[s, x], argTypes := #[30, 30] }) (hs : a.eval s = va) (hx : a.eval x = u)
  (h : ∀ ad cap w1, w1.ownsRow 0 3 1 (.slice ad C.length cap) C.length (ints C) → wr.grownBy w1 va.ownBlock → ((Value.slice ad C.length cap).ownBlock = va.ownBlock ∨ (Value.slice ad C.length cap).ownBlock = some wr.heap.size) → K (a.put o.dst (.slice ad C.length cap)) w1) :
  if Region.wanted o (yielded ops a.tmps) = true then Oper.wp Tryd.prog o a wr K Q else E := by
 rw [if_pos (by simp [Region.wanted, hgd])]
 obtain ⟨i0, hi, hz0, hz1, hz2⟩ := info_parts sl.info3
 have hu' := hu
 rcases hu'.2 with ⟨e, h0⟩ | ⟨g, cap, cur, e, hgb, hh, hn, hm, hsc, ht⟩
 ·have eC : C = [] := List.eq_nil_of_length_eq_zero h0
  subst eC
  obtain ⟨ad, cp, ev⟩ : ∃ ad cp, va = .slice ad 0 cp := by
   rcases hA.2 with ⟨hv, _⟩ | ⟨g, cap, cur, hv, _⟩
   ·exact ⟨none, 0, hv⟩
   ·exact ⟨_, cap, hv⟩
  refine app.wp_none s x 30 ho 0 3 i0 1 Tryd.underlying30 hi va 0 [] hs hA (hx.trans e) ?_
  subst ev
  exact h ad cp wr hA ⟨rfl, rfl, rfl, Nat.le_refl _, fun _ _ _ => rfl⟩ (.inl rfl)
 ·subst e
  obtain ⟨v', w', hr, h2, h3, _, h5⟩ := run_append_own_at (P := Tryd.prog) wr 0 30 o.type 3 i0 (.int .i64 0) 1 8 Tryd.underlying30 hi hz0 hz1 hz2 rfl (by decide) va 0 [] hA ⟨g, 0, none⟩ C.length cap (ints C) (by rw [sl.ints_length]; omega) (by
   intro j y hj
   have hjl : j < C.length := by
    have := (List.getElem?_eq_some_iff.1 hj).1
    rwa [sl.ints_length] at this
   rw [Addr.add_lit, Nat.zero_add, hu.cellAt j (by omega)]
   exact hj) (ints_oneCell .i64 C) (by unfold maxLen; omega) (by omega) (Nat.zero_le _)
  rw [Nat.zero_add, List.nil_append] at h2
  obtain ⟨ad, cp, ev⟩ : ∃ ad cp, v' = .slice ad C.length cp := by
   rcases h2.2 with ⟨hv, h0⟩ | ⟨g, cap, cur, hv, _⟩
   ·exact ⟨none, 0, by rw [hv, h0]⟩
   ·exact ⟨_, cap, hv⟩
  subst ev
  unfold Oper.wp execOp
  simp only [ho, resolve, invoke, builtin, Sem.run_bind, Sem.run_pure, Result.andThen_ok, List.map_toArray, List.map_cons, List.map_nil, hs, hx, hr]
  exact h ad cp w' h2 h3 h5
theorem cut_own {w : World} {a : Option Addr} {n cap : Nat} {xs : List Value} (h : w.ownsRow 0 3 1 (.slice a n cap) n xs) : w.ownsRow 0 3 1 (.slice a 0 cap) 0 [] := by
 rcases h.2 with ⟨hv, h0⟩ | ⟨g, cp, cur, hv, hr⟩
 ·rw [Value.slice.injEq] at hv
  obtain ⟨rfl, _, rfl⟩ := hv
  exact World.ownsRow_nil _ _ _ _
 ·rw [Value.slice.injEq] at hv
  obtain ⟨rfl, _, rfl⟩ := hv
  have := own_cut h (Nat.zero_le n)
  rw [List.take_zero] at this
  exact this
def Fgt (c : Nat) (s : WS) (w w' : World) : Prop := ∃ s', Wat w' c s' ∧ Stp c s s' w w' ∧ s'.ps = s.ps.forget
set_option maxRecDepth 100000 in
set_option maxHeartbeats 8000000 in
theorem forget {w : World} {c : Nat} {s : WS} (u : FrameMode) (h : Wat w c s) (hb : (s.A.getD 49 nil_).2.length ≤ 4194304) :
  CallsD Tryd.prog 69 #[.pointer (some ⟨c, 0, none⟩)] u w fun e u' w' => u' = u ∧ e = .returned (.tuple #[]) ∧ Fgt c s w w' := by
 have x49 := h.cell (k := 49) (by decide)
 rw [at49] at x49
 have f49 := h.fz 49
 have k0 := h.setTk 0
 obtain ⟨w1, hw1⟩ : ∃ w1, w1 = w.setCell ⟨c, 49, none⟩ (.int .u64 0) := ⟨_, rfl⟩
 rw [show ((0 : Nat) : Int) = 0 from rfl, ← hw1] at k0
 obtain ⟨s1, es1⟩ : ∃ s1 : WS, s1 = { s with tk := 0 } := ⟨_, rfl⟩
 rw [← es1] at k0
 have hl0 : 0 < s1.A.length := by rw [k0.1.len]; decide
 have hl49 : 49 < s1.A.length := by rw [k0.1.len]; decide
 obtain ⟨v0, C0, e0⟩ : ∃ v C, s1.A.getD 0 nil_ = (v, C) := ⟨_, _, rfl⟩
 obtain ⟨v9, C, e9⟩ : ∃ v C, s1.A.getD 49 nil_ = (v, C) := ⟨_, _, rfl⟩
 have own0 := k0.1.ls _ (mem_getD hl0)
 have own9 := k0.1.ls _ (mem_getD hl49)
 rw [e0] at own0
 rw [e9] at own9
 obtain ⟨a0, c0, ev0, _⟩ := Sl.of_own own0
 obtain ⟨a9, c9, ev9, _⟩ := Sl.of_own own9
 replace ev0 : v0 = .slice a0 C0.length c0 := ev0
 replace ev9 : v9 = .slice a9 C.length c9 := ev9
 subst ev0 ev9
 have hC : C.length ≤ 4194304 := by
  have : (s1.A.getD 49 nil_).2.length ≤ 4194304 := by rw [es1]; exact hb
  rw [e9] at this
  exact this
 have x50 := k0.1.cell (k := 50) (by decide)
 have x52 := k0.1.cell (k := 52) (by decide)
 have f50 := k0.1.fz 50
 rw [at50, e0] at x50
 rw [at52, e9] at x52
 replace x50 : w1.cell? ⟨c, 50, none⟩ = some (.slice a0 C0.length c0) := x50
 replace x52 : w1.cell? ⟨c, 52, none⟩ = some (.slice a9 C.length c9) := x52
 have OA := hide ((cut_own own0).kept (cf.grown_drew w1 none) (ne_none _))
 have OU := hide (own9.kept (cf.grown_drew w1 none) (ne_none _))
 have NX : Hid (∀ ad cap w2, w2.ownsRow 0 3 1 (.slice ad C.length cap) C.length (ints C) → w1.drew.grownBy w2 (Value.slice a0 0 c0).ownBlock → ((Value.slice ad C.length cap).ownBlock = (Value.slice a0 0 c0).ownBlock ∨ (Value.slice ad C.length cap).ownBlock = some w1.drew.heap.size) →
   (w2.cell? ⟨c, 50, none⟩ = some (.slice a0 C0.length c0) ∧ w2.frozen? ⟨c, 50, none⟩ = false) ∧ ∃ s2, Wat (w2.setCell ⟨c, 50, none⟩ (.slice ad C.length cap)) c s2 ∧ Stp c s s2 w (w2.setCell ⟨c, 50, none⟩ (.slice ad C.length cap)) ∧ s2 = { s1 with A := s1.A.set 0 (.slice ad C.length cap, C) }) := by
  intro ad cap w2 o g hl
  have hob : (s1.A.getD 0 nil_).1.ownBlock = (Value.slice a0 0 c0).ownBlock := by rw [e0]; cases a0 <;> rfl
  have lv := k0.1.listv (j := 0) (v := .slice ad C.length cap) (M := C) (by decide) (cf.grown_drew w1 none) o (by rw [hob]; exact g) (fun g' q => by
   rw [hob]
   rcases hl with z | z
   ·exact .inl (z ▸ q)
   ·rw [z] at q
    cases q
    exact .inr (Nat.le_refl _))
  have hd := k0.1.kept (cf.grown_drew w1 none)
  have hnc := row_nec (unhide OA) hd.blk hd.ty.2
  have eb : w2.heap[c]? = w1.drew.heap[c]? := g.block c hd.lt (fun e => by
   rcases hnc with q | q
   ·rw [q] at e; cases e
   ·exact q e.symm)
  refine ⟨⟨(World.cell?_of_block (a := ⟨c, 50, none⟩) eb).trans x50, (World.frozen?_of_block (a := ⟨c, 50, none⟩) eb).trans f50⟩, _, lv.1, k0.2.trans lv.2, rfl⟩
 have EP : Hid (∀ ad cap, ({ s1 with A := s1.A.set 0 (.slice ad C.length cap, C), em := s1.ho } : WS).ps = s.ps.forget) := by
  intro ad cap
  show (⟨s1.K, (s1.A.set 0 _).map (·.2), s1.tk, s1.ho, s1.ho⟩ : PS) = _
  have e : s.ps.A.getD 49 [] = C := by
   rw [ps_getD]
   have : s1.A.getD 49 nil_ = s.A.getD 49 nil_ := by rw [es1]
   rw [← this, e9]
  unfold PS.forget
  rw [e, List.map_set, es1]
  rfl
 have HH := hide (And.intro h k0)
 clear own0 own9 hl0 hl49 e0 e9 h k0 hb
 go_enter_d Tryd.func69, Tryd.ntmps69
 go_wp2_with fail
 rw [← hw1]
 clear hw1 es1 x49 f49
 go_region_law (first
  | (refine stepF (unhide OA) (unhide OU) hC rfl _ _ rfl rfl rfl ?_; intro ad cap w2 o2 g2 l2; obtain ⟨⟨y0, y1⟩, s2, q1, q2, q3⟩ := unhide NX ad cap w2 o2 g2 l2; have R2 := hide (And.intro q1 (And.intro q2 q3)); clear o2 g2 l2 q1 q2 q3))
 all_goals
  have q1 := (unhide R2).1
  have x53 := q1.cell (k := 53) (by decide)
  rw [at53] at x53
  have x51 := q1.cell (k := 51) (by decide)
  rw [at51] at x51
  have f51 := q1.fz 51
  have k3 := q1.setEm s2.ho
  have R3 : Hid (Fgt c s w ((w2.setCell ⟨c, 50, none⟩ (.slice ad C.length cap)).setCell ⟨c, 51, none⟩ (.bool s2.ho))) := ⟨_, k3.1, (unhide R2).2.1.trans k3.2, by
   rw [← unhide EP ad cap, (unhide R2).2.2]⟩
  clear q1 k3 R2
  go_wp2_with fail
  exact end0 rfl rfl ⟨rfl, unhide R3⟩
end Go.Proofs.YtfhmdpbnnieohaaDoor.wm
namespace Go.Proofs.YtfhmdpbnnieohaaDoor.wm
open Go.ChangeShapes Go.WideShapes Go.ChangeAt Go.RowKit
open wm0 (end0 ret0 stepW listW listB)
open lits (okB okB_iff)
open bset (placeN placeN_le placeC placeN_inj setOf setOf_lt withN withN_lt)
open srt (Tab oppN oppN_lt andN andN_lt orN_eq andN_eq or_lt)
open cnt (ev)
open sl (Sl Own ints hide unhide ret_int ret_bool grown_refl grown_trans grown_drewN)
set_option linter.unusedVariables false
theorem Wof.take {Ss : List Nat} {t : TypeId} {x : List Value} {wB w : World} {c L : Nat} {s : WS} (h : Wof Ss t x wB w c s) (hT : Tab wB) (hN : Ss.length ≤ 1048576) (hL : L < 2 ^ 48) :
  Calls Tryd.prog 70 #[.pointer (some ⟨c, 0, none⟩), .int .u64 (L : Int)] w fun e w' => ∃ s', e = .returned (.tuple #[]) ∧ Wta Ss L wB w' c s' ∧ Stp c s s' w w' := by
 have js := h.jn.start (l' := 0) hL (fun b _ => by rw [show s.ps.tk = 0 from h.tk, Nat.zero_testBit]) (fun z => by
  obtain ⟨i, hi, _, ho⟩ := h.jn.es z
  rw [show s.ps.tk = 0 from h.tk, opn00 (h.jn.wd i hi)] at ho
  exact ⟨i, hi, ho⟩)
 refine (wm.take (l0 := 0) (F0 := []) (fitT Ss (s.tk ||| L)) hN h.wat (h.tab hT) hL (by rw [h.tk]; decide) ⟨js, rfl⟩).mono ?_
 rintro e w' ⟨s', l', F', rfl, t1, t2, t3⟩
 refine ⟨s', rfl, ⟨t1, grown_stp h.g h.far t2, h.far.stp t2 h.g.size, ⟨l', F', t3.1⟩, ?_⟩, t2⟩
 have : s'.tk = s.tk ||| L := t3.2
 rw [this, h.tk, Nat.zero_or]
theorem Wta.nil {Ss : List Nat} {T c : Nat} {wB w : World} {s : WS} (h : Wta Ss T wB w c s) (hT : Tab wB) : Frc Ss wB c s w (.slice none 0 0) [] :=
 ⟨h.wat, hT, h.jn, h.g, h.far, World.ownsRow_nil _ _ _ _, fun q e => by cases e⟩
theorem Wof.forgot {Ss : List Nat} {t : TypeId} {x : List Value} {wB w w' : World} {c : Nat} {s s' : WS} (h : Wat w c s) (hj : ∃ l F, Jn Ss s.ps 0 l F []) (hg : wB.grownBy w none) (hf : Far wB.heap.size c s) (hx : s.ty = t ∧ s.ex = x) (k : Wat w' c s') (st : Stp c s s' w w') (e : s'.ps = s.ps.forget) : Wof Ss t x wB w' c s' := by
 obtain ⟨l, F, j⟩ := hj
 refine ⟨k, grown_stp hg hf st, hf.stp st hg.size, by rw [e]; exact j.forget.1, ?_, by rw [e]; exact j.forget.2, st.same.1.trans hx.1, st.same.2.trans hx.2⟩
 have : s'.ps.tk = 0 := by rw [e]; rfl
 exact this
def failB (Ss : List Nat) (L : Nat) : Bool := !(frc Ss 49 L []).2
def leftN (n : Nat) (T : Nat) : Nat := andN (ev n) (T ||| oppN T)
def failN (n : Nat) (Ss : List Nat) (L : Nat) : Nat := if failB Ss L then 0 else leftN n (frt Ss 49 L)
def FailE (Ss : List Nat) (t : TypeId) (n : Nat) (wB : World) (c : Nat) (s : WS) (L : Nat) (w : World) (e : Ending) (w' : World) : Prop :=
 ∃ s', e = .returned (.tuple #[.int .u64 (failN n Ss L : Int), .bool (failB Ss L)]) ∧ Wof Ss t [.int .i64 (n : Int)] wB w' c s' ∧ Stp c s s' w w'
theorem ex_cell {w : World} {c : Nat} {s : WS} {v : Value} (h : Wat w c s) (hx : s.ex = [v]) : w.cell? ⟨c, 54, none⟩ = some v := by
 simp only [World.cell?, h.blk, List.getElem?_toArray, cells_ex s (k := 54) (by decide), hx]
 rfl
theorem jn49 {Ss : List Nat} {w : World} {c : Nat} {s : WS} (h : Wat w c s) (hj : ∃ l F, Jn Ss s.ps 0 l F []) (hN : Ss.length ≤ 1048576) : (s.A.getD 49 nil_).2.length ≤ 4194304 := by
 obtain ⟨l, F, j⟩ := hj
 have := j.sn
 rw [ps_getD] at this
 omega
set_option maxRecDepth 100000 in
set_option maxHeartbeats 8000000 in
theorem fails {Ss : List Nat} {t : TypeId} {wB w : World} {c n L : Nat} {s : WS} (h : Wof Ss t [.int .i64 (n : Int)] wB w c s) (hT : Tab wB) (hN : Ss.length ≤ 1048576) (hS : ∀ S ∈ Ss, S < 2 ^ 48) (hn : n ≤ 24) (hL : L < 2 ^ 48) :
  Calls Tryd.prog 47 #[.pointer (some ⟨c, 0, none⟩), .int .u64 (L : Int)] w fun e w' => FailE Ss t n wB c s L w e w' := by
 have CT := hide (h.take hT hN hL)
 have HX := hide h.tx
 have HT := hide hT
 have HS := hide hS
 have HN := hide hN
 clear h hT hS hN
 go_enter_defers Tryd.func47, Tryd.ntmps47
 go_wp2_with fail
 refine (unhide CT).mono ?_; rintro e w1 ⟨s1, rfl, wt, st⟩
 have cf := force (wt.nil (unhide HT)) (unhide HN) (Nat.zero_le _) (unhide HS)
 rw [wt.tk] at cf
 have CF := hide cf
 have ST := hide st
 clear wt st CT cf
 cases hb : (frc Ss 49 L []).2
 ·have hfb : failB Ss L = true := by unfold failB; rw [hb]; rfl
  have hfn : failN n Ss L = 0 := by unfold failN; rw [hfb]; rfl
  rw [hb] at CF
  go_wp2_with fail
  refine (unhide CF).mono ?_; rintro e w2 ⟨u, s2, rfl, f2, e2, r2⟩
  obtain ⟨pa, pcap, ep⟩ := pv_form f2.own
  have CG := hide (fun m => forget m f2.wat (jn49 f2.wat f2.jn (unhide HN)))
  have S2 := (unhide ST).trans (r2.done rfl e2.2)
  have NX : Hid (∀ w', Fgt c s2 w2 w' → FailE Ss t n wB c s L w (.returned (.tuple #[.int .u64 0, .bool true])) w') := by
   rintro w' ⟨s', q1, q2, q3⟩
   refine ⟨s', by rw [hfn, hfb]; rfl, Wof.forgot f2.wat f2.jn f2.g f2.far ⟨S2.same.1.trans (unhide HX).1, S2.same.2.trans (unhide HX).2⟩ q1 q2 q3, S2.trans q2⟩
  subst ep
  clear f2 e2 r2 S2 CF ST hfb hfn hb
  go_wp2_with fail
  refine leaves_cons (f := 69) (args := #[.pointer (some ⟨c, 0, none⟩)]) (by simp) (by simp [go_sem]) ?_
  refine (unhide CG _).mono ?_
  rintro e u' w'' ⟨rfl, rfl, r⟩
  simp [Leaves, settle]
  refine ⟨_, results_tmp2 rfl _ _ _, ?_⟩
  exact unhide NX _ r
 ·have hfb : failB Ss L = false := by unfold failB; rw [hb]; rfl
  have hfn : failN n Ss L = leftN n (frt Ss 49 L) := by unfold failN; rw [hfb]; rfl
  rw [hb] at CF
  go_wp2_with fail
  refine (unhide CF).mono ?_; rintro e w2 ⟨u, s2, rfl, f2, e2, r2⟩
  obtain ⟨pa, pcap, ep⟩ := pv_form f2.own
  have CG := hide (fun m k => forget m (f2.wat.kept (grown_drewN w2 k)) (jn49 f2.wat f2.jn (unhide HN)))
  have S2 := (unhide ST).trans (r2.done rfl e2.2)
  have hx2 : s2.ty = t ∧ s2.ex = [.int .i64 (n : Int)] := ⟨S2.same.1.trans (unhide HX).1, S2.same.2.trans (unhide HX).2⟩
  have x49 := f2.wat.cell (k := 49) (by decide)
  rw [at49] at x49
  have x54 := ex_cell f2.wat hx2.2
  have htk : s2.tk < 2 ^ 48 := by
   obtain ⟨l, F, j⟩ := f2.jn
   exact j.tk
  have NX : Hid (∀ k w', Fgt c s2 (w2.drewN k) w' → FailE Ss t n wB c s L w (.returned (.tuple #[.int .u64 (leftN n s2.tk : Int), .bool false])) w') := by
   rintro k w' ⟨s', q1, q2, q3⟩
   have gk := grown_drewN w2 k
   refine ⟨s', by rw [hfn, hfb, e2.1], Wof.forgot (f2.wat.kept gk) f2.jn (grown_trans f2.g gk) f2.far hx2 q1 q2 q3, (S2.trans (Stp.of_grown gk)).trans q2⟩
  have c2 := hide (fun w => vt.variablesTo n w hn)
  have c3 := hide (fun w => srt.opposites s2.tk w htk)
  have e5 : Hid (((leftN n s2.tk : Nat) : Int) = bits .andNot .u64 (ev n : Int) (bits .or .u64 (s2.tk : Int) (oppN s2.tk : Int))) := by
   show _ = _
   rw [orN_eq s2.tk (oppN s2.tk) htk (oppN_lt _), andN_eq (ev n) (s2.tk ||| oppN s2.tk) (fm.ev_lt48 n hn) (or_lt htk (oppN_lt _))]
   rfl
  subst ep
  clear f2 e2 r2 S2 CF ST hfb hfn hb hx2 htk
  rw [unhide e5] at NX
  clear e5
  generalize s2.tk = tk at *
  generalize oppN tk = ok at *
  generalize ev n = en at *
  go_wp2_with fail
  go_quiet (first | (go_at_call 56; exact Calls.quiet_of_same (unhide c2 _)) | (go_at_call 72; exact Calls.quiet_of_same (unhide c3 _)))
  go_wp2_with fail
  refine leaves_cons (f := 69) (args := #[.pointer (some ⟨c, 0, none⟩)]) (by simp) (by simp [go_sem]) ?_
  refine (unhide CG _ _).mono ?_
  rintro e u' w'' ⟨rfl, rfl, r⟩
  simp [Leaves, settle]
  refine ⟨_, results_tmp2 rfl _ _ _, ?_⟩
  exact unhide NX _ _ r
end Go.Proofs.YtfhmdpbnnieohaaDoor.wm
namespace Go.Proofs.YtfhmdpbnnieohaaDoor.wm
open Go.ChangeShapes Go.WideShapes Go.ChangeAt Go.RowKit
open wm0 (end0 ret0 stepW listW listB)
open lits (okB okB_iff)
open bset (placeN placeN_le placeC placeN_inj setOf setOf_lt withN withN_lt)
open srt (Tab oppN oppN_lt andN andN_lt orN_eq andN_eq or_lt)
open css (Sls)
open cf (Box)
open su (words)
open sl (Sl Own ints hide unhide ret_int ret_bool grown_refl grown_trans grown_drewN)
set_option linter.unusedVariables false
theorem built_checker (s : WS) (n : Int) : Tryd.prog.built 92 [(0, .agg ((List.range 54).map s.at).toArray), (1, .int .i64 n)] = some ((List.range 54).map s.at ++ [Value.int .i64 n]).toArray := by kernel_rfl
theorem sizeW : (Tryd.prog.info? 88).map (·.size) = some 54 := by kernel_rfl
theorem types9 : (125 : Nat) ≠ 92 ∧ (3 : Nat) ≠ 92 := by decide
theorem wp_buildC {o : Oper} {a : Act} {w : World} {K : Act → World → Prop} {Q : Exit → Act → World → Prop} (t : TypeId) (parts : Array (Nat × Operand)) (ho : o.op = .build t parts) (cells : Array Value)
  (hc : Tryd.prog.built t (parts.map fun (i, x) => (i, a.eval x)).toList = some cells) (h : K (a.put o.dst (.agg cells)) w) : o.wp Tryd.prog a w K Q := by
 unfold Oper.wp execOp
 simp only [ho, Sem.run_bind, run_build w t _ cells hc, Result.andThen_ok]
 exact h
theorem Wof.copy {Ss : List Nat} {wB w : World} {c : Nat} {s : WS} {n : Int} (h : Wof Ss 88 [] wB w c s) :
  Wof Ss 92 [.int .i64 n] wB (w.alloc (.cells ((List.range 54).map s.at ++ [Value.int .i64 n]).toArray 92)) w.heap.size { s with ty := 92, ex := [.int .i64 n] } := by
 have ga := World.grownBy_alloc w (.cells ((List.range 54).map s.at ++ [Value.int .i64 n]).toArray 92) none
 refine ⟨⟨new_block _ _, h.wat.len, h.wat.cl.kept ga (ne_none _), fun p hp => (h.wat.ls p hp).kept ga (ne_none _), h.wat.ap, types9⟩, grown_trans h.g ga, fun k f => ?_, h.jn, h.tk, h.bd, rfl, rfl⟩
 rcases f with f | f | ⟨p, hp, f⟩
 ·rw [f]
  exact h.g.size
 ·exact h.far k (.inr (.inl f))
 ·exact h.far k (.inr (.inr ⟨p, hp, f⟩))
theorem watcher_row {Ss : List Nat} {wB w : World} {c : Nat} {s : WS} (h : Wof Ss 88 [] wB w c s) : w.heap[c]? = some (.cells ((List.range 54).map s.at).toArray 88 (0, 0)) := by
 have e : s.cells = (List.range 54).map s.at := by unfold WS.cells; rw [h.tx.2, List.append_nil]
 have := h.wat.blk
 rw [e, h.tx.1] at this
 exact this
def ChkE (Ss : List Nat) (n : Int) (w : World) (e : Ending) (w' : World) : Prop := ∃ c s, e = .returned (.pointer (some ⟨c, 0, none⟩)) ∧ Wof Ss 92 [.int .i64 n] w w' c s
set_option maxRecDepth 100000 in
set_option maxHeartbeats 8000000 in
theorem checkerOf (v u : Value) (n : Int) (LL : List (List Int)) (AU : List Nat) (b : Nat) (w : World) (hT : Tab w) (hn : css.tot LL ≤ 1048576) (hv : Sls w v LL) (hu : w.ownsRow b 75 1 u AU.length (words AU)) (hA : ∀ S ∈ AU, S < 2 ^ 48) (hl : LL.length + AU.length ≤ 1048576) :
  Calls Tryd.prog 22 #[.agg #[.int .i64 n, v], u] w fun e w' => ChkE (LL.map setOf ++ AU) n w e w' := by
 have g0 := World.grownBy_alloc w (.cells #[.int .i64 n, v] 27) none
 have B0 := hide (Box.new 27 w (.int .i64 n) v)
 have CW := hide (fun (w1 : World) (g : w.grownBy w1 none) => watcherOf v LL w1 (hT.kept g) hn (hv.kept g))
 have x0 := (unhide B0).c0
 have x1 := (unhide B0).c1
 have G0 := hide g0
 have HU := hide hu
 have HT := hide hT
 have HA := hide hA
 obtain ⟨ua, uc, eu⟩ : ∃ a c, u = .slice a AU.length c := by
  rcases hu.2 with ⟨hv, h0⟩ | ⟨g, cap, cur, hv, _⟩
  ·exact ⟨none, 0, by rw [hv, h0]⟩
  ·exact ⟨_, cap, hv⟩
 obtain ⟨va, vc, ev, _⟩ := id hv
 subst eu ev
 clear g0 hv hu hT hA
 go_enter Tryd.func22, Tryd.ntmps22
 go_wp2_with fail
 generalize hW0 : w.alloc (.cells #[.int .i64 n, .slice va LL.length vc] 27) = W0 at *
 have GD := hide (grown_trans (r := none) (unhide G0) (cf.grown_drew W0 none))
 refine wp_region_noPanic ?_
 refine wp_region_held_drew (S := fun w' => w'.cell? ⟨w.heap.size, 0, none⟩ = some (.int .i64 n) ∧ w'.cell? ⟨w.heap.size, 1, none⟩ = some (.slice va LL.length vc)) (by kernel_rfl) ⟨x0, x1⟩ (fun hHeld => ?_)
 refine wpAnyH_take (i := 0) (v := ?vx1) rfl (by kernel_rfl) (by kernel_rfl) (by kernel_rfl) (fun _ _ _ h => h) (Or.inl ⟨by rfl, ?yx1⟩) (by assumption) ?rx1
 case yx1 => first | (intro w hSw; go_simp; done) | (intro w hSw; go_simp; with_reducible rfl)
 try simp only [Act.put, List.getElem_toArray, List.getElem_cons_zero, List.setIfInBounds_toArray, List.set_cons_zero, List.set_cons_succ]
 refine wpAnyH_take (i := 1) (v := ?vx2) rfl (by kernel_rfl) (by kernel_rfl) (by kernel_rfl) (fun _ _ _ h => h) (Or.inl ⟨by rfl, ?yx2⟩) (by assumption) ?rx2
 case yx2 => first | (intro w hSw; have h1 := hSw.1; have h2 := hSw.2; go_simp; done) | (intro w hSw; have h1 := hSw.1; have h2 := hSw.2; go_simp; with_reducible rfl)
 try simp only [Act.put, List.getElem_toArray, List.getElem_cons_succ, List.getElem_cons_zero, List.setIfInBounds_toArray, List.set_cons_zero, List.set_cons_succ]
 refine wpAnyH_take (i := 5) (v := ?vx3) rfl (by kernel_rfl) (by kernel_rfl) (by kernel_rfl) (fun _ _ _ h => h) (Or.inl ⟨by rfl, ?yx3⟩) (by assumption) ?rx3
 case yx3 => first | (intro w hSw; go_simp; done) | (intro w hSw; go_simp; with_reducible rfl)
 try simp only [Act.put, List.getElem_toArray, List.getElem_cons_succ, List.getElem_cons_zero, List.setIfInBounds_toArray, List.set_cons_zero, List.set_cons_succ]
 refine wpAnyH_take (i := 6) (v := ?vx4) rfl (by kernel_rfl) (by kernel_rfl) (by kernel_rfl) (fun _ _ _ h => h) (Or.inl ⟨by rfl, ?yx4⟩) (by assumption) ?rx4
 case yx4 => first | (intro w hSw; have h1 := hSw.1; have h2 := hSw.2; go_simp; done) | (intro w hSw; have h1 := hSw.1; have h2 := hSw.2; go_simp; with_reducible rfl)
 try simp only [Act.put, List.getElem_toArray, List.getElem_cons_succ, List.getElem_cons_zero, List.setIfInBounds_toArray, List.set_cons_zero, List.set_cons_succ]
 refine wpAnyH_ready (rs := [2]) (by kernel_rfl) (by simp) ?_
 refine AllReadyH.cons rfl (fun K hK => ?_) AllReadyH.nil
 rw [if_pos (by rfl)]
 simp only [List.getElem_toArray, List.getElem_cons_succ, List.getElem_cons_zero]
 go_simp
 refine (unhide CW _ (unhide GD)).mono ?_
 rintro e w1 ⟨c, s, rfl, m1⟩
 have gz := grown_trans (r := none) (unhide GD) m1.g
 have b1 := (unhide B0).kept (grown_trans (r := none) (cf.grown_drew W0 none) m1.g)
 have ROW := watcher_row m1
 have CP := hide (m1.copy (n := n))
 have hsz : Hid ((Tryd.prog.info? 88).map (·.size) = some ((List.range 54).map s.at).toArray.size) := by show _ = _; rw [sizeW]; rfl
 have BC := built_checker s n
 have GC := hide (fun (e : Unit) => grown_trans (r := none) gz (World.grownBy_alloc w1 (.cells ((List.range 54).map s.at ++ [Value.int .i64 n]).toArray 92) none))
 refine hK.out _ _ ⟨b1.c0, b1.c1⟩ (fun hHeld2 => ?_)
 clear hK K
 try simp only [Act.put, List.getElem_toArray, List.getElem_cons_succ, List.getElem_cons_zero, List.setIfInBounds_toArray, List.set_cons_zero, List.set_cons_succ]
 refine wpAnyH_take (i := 3) (v := ?vx5) rfl (by kernel_rfl) (by kernel_rfl) (by kernel_rfl) (fun _ _ _ h => h) (Or.inl ⟨by rfl, ?yx5⟩) (by assumption) ?rx5
 case yx5 => first | (intro w hSw; go_simp; done) | (intro w hSw; go_simp; with_reducible rfl)
 try simp only [Act.put, List.getElem_toArray, List.getElem_cons_succ, List.getElem_cons_zero, List.setIfInBounds_toArray, List.set_cons_zero, List.set_cons_succ]
 refine wpAnyH_ready (rs := [4]) (by kernel_rfl) (by simp) ?_
 refine AllReadyH.cons rfl (fun K hK => ?_) AllReadyH.nil
 rw [if_pos (by rfl)]
 simp only [List.getElem_toArray, List.getElem_cons_succ, List.getElem_cons_zero]
 refine wp_load_row 88 (.tmp 11) rfl c rfl _ _ _ _ ROW Tryd.underlying88 rfl (unhide hsz) ?_
 refine hK.out _ _ ⟨b1.c0, b1.c1⟩ (fun hHeld3 => ?_)
 clear hK K
 generalize hC : ((List.range 54).map s.at).toArray = C at *
 simp only [Act.put, List.setIfInBounds_toArray, List.set_cons_zero, List.set_cons_succ]
 refine wpAnyH_ready (rs := [7]) (by kernel_rfl) (by simp) ?_
 refine AllReadyH.cons rfl (fun K hK => ?_) AllReadyH.nil
 rw [if_pos (by rfl)]
 simp only [List.getElem_toArray, List.getElem_cons_succ, List.getElem_cons_zero]
 refine wp_buildC _ _ rfl ((List.range 54).map s.at ++ [Value.int .i64 n]).toArray (by simp only [List.map_toArray, List.map_cons, List.map_nil]; exact BC) ?_
 refine hK.out _ _ ⟨b1.c0, b1.c1⟩ (fun hHeld4 => ?_)
 clear hK K
 generalize hD : ((List.range 54).map s.at ++ [Value.int .i64 n]).toArray = D at *
 simp only [Act.put, List.setIfInBounds_toArray, List.set_cons_zero, List.set_cons_succ]
 refine wpAnyH_ready (rs := [8]) (by kernel_rfl) (by simp) ?_
 refine AllReadyH.cons rfl (fun K hK => ?_) AllReadyH.nil
 rw [if_pos (by rfl)]
 simp only [List.getElem_toArray, List.getElem_cons_succ, List.getElem_cons_zero]
 go_simp
 have b2 := b1.kept (World.grownBy_alloc w1 (.cells D 92) none)
 refine hK.out _ _ ⟨b2.c0, b2.c1⟩ (fun hHeld5 => ?_)
 clear hK K
 try simp only [Act.put, List.getElem_toArray, List.getElem_cons_succ, List.getElem_cons_zero, List.setIfInBounds_toArray, List.set_cons_zero, List.set_cons_succ]
 refine wpAnyH_take (i := 9) (v := ?vx6) rfl (by kernel_rfl) (by kernel_rfl) (by kernel_rfl) (fun _ _ _ h => h) (Or.inl ⟨by rfl, ?yx6⟩) (by assumption) ?rx6
 case yx6 => first | (intro w hSw; go_simp; done) | (intro w hSw; go_simp; with_reducible rfl)
 try simp only [Act.put, List.getElem_toArray, List.getElem_cons_succ, List.getElem_cons_zero, List.setIfInBounds_toArray, List.set_cons_zero, List.set_cons_succ]
 refine wpAnyH_done (by kernel_rfl) ?_ _
 refine NoPanic.normal ?_
 have ST : Hid (∃ s', Wof (LL.map setOf ++ AU.take 0) 92 [.int .i64 n] w (w1.alloc (.cells D 92)) w1.heap.size s') := by
  have q := unhide CP
  rw [List.take_zero, List.append_nil]
  exact ⟨_, q.wat, unhide GC (), fun k f => Nat.le_trans (unhide GD).size (q.far k f), q.jn, q.tk, q.bd, q.tx⟩
 have hl' : AU.length ≤ 1048576 := by omega
 clear m1 gz b1 b2 ROW CP hsz BC GC hHeld hHeld2 hHeld3 hHeld4 hHeld5 hC hD x0 x1 CW B0 GD hW0 G0
 generalize w1.heap.size = c' at *
 generalize w1.alloc (.cells D 92) = W1 at *
 go_wp2_with fail
 go_loopw [19] (fun iv wr => ∃ (k : Nat) (s : WS), k ≤ AU.length ∧ iv = .int .i64 (k : Int) ∧ Hid (Wof (LL.map setOf ++ AU.take k) 92 [.int .i64 n] w wr c' s)) (fun iv _ => AU.length - (intOf iv).toNat)
 case atStart =>
  obtain ⟨s', q⟩ := unhide ST
  exact ⟨0, s', Nat.zero_le _, rfl, q⟩
 case round =>
  obtain ⟨k, s, hk, rfl, hw⟩ := hrel
  clear ST
  by_cases hlt : k < AU.length
  ·have ww := unhide hw
   have hu := (unhide HU).kept ww.g (ne_none _)
   obtain ⟨ug, ucap, e, _⟩ := hu.form (by omega)
   rw [Value.slice.injEq] at e
   obtain ⟨rfl, _, rfl⟩ := e
   have c1 : wr.cell? ⟨ug, k, none⟩ = some (.int .u64 ((AU.getD k 0 : Nat) : Int)) := by
    rw [hu.cellAt k (by omega)]
    simp [su.words, hlt]
   have hi' : (k : Int) < (AU.length : Int) := by omega
   have hS : AU.getD k 0 < 2 ^ 48 := unhide HA _ (by simp [hlt])
   have hts : AU.take (k + 1) = AU.take k ++ [AU.getD k 0] := by
    rw [List.take_succ_eq_append_getElem hlt]
    simp [hlt]
   have CA := hide (ww.add (S := AU.getD k 0) (unhide HT) (by rw [List.length_append, List.length_map, List.length_take]; omega) hS)
   rw [List.append_assoc, ← hts] at CA
   clear ww hu hts hw
   generalize AU.getD k 0 = S at *
   go_wp2_with fail
   refine (unhide CA).mono ?_; rintro e w2 ⟨s2, rfl, r2⟩
   have R2 := hide r2
   clear CA r2
   go_wp2_with fail
   go_roundw
   case rel => exact ⟨k + 1, s2, by omega, by go_num, R2⟩
   case measure => simp [intOf]; omega
  ·have hi' : ¬ (k : Int) < (AU.length : Int) := by omega
   have e : AU.take k = AU := List.take_of_length_le (by omega)
   rw [e] at hw
   clear e
   go_wp2_with fail
   go_ret
   exact ⟨_, s, rfl, unhide hw⟩
end Go.Proofs.YtfhmdpbnnieohaaDoor.wm
namespace Go.Proofs.YtfhmdpbnnieohaaDoor.wm
open Go.ChangeShapes Go.WideShapes Go.ChangeAt Go.RowKit
open lits (okB okB_iff)
open bset (setOf setOf_lt)
open srt (Tab oppN oppN_lt)
open css (Sls)
open ok (clB)
open sl (Sl Own ints hide unhide ret_int ret_bool grown_refl grown_trans grown_drewN)
set_option linter.unusedVariables false
def badN (n : Int) : List Nat → List (List Int) → Nat
 | _, [] => 0
 | Ss, L :: LL => if clB n L && failB Ss (oppN (setOf L)) then badN n (Ss ++ [setOf L]) LL + 1 else 0
theorem bad_le (n : Int) (LL : List (List Int)) : ∀ Ss, badN n Ss LL ≤ LL.length := by
 induction LL with
 | nil => exact fun _ => Nat.le_refl _
 | cons L LL ih =>
  intro Ss
  unfold badN
  split
  ·exact Nat.succ_le_succ (ih _)
  ·exact Nat.zero_le _
def BadAt (n : Int) (Ss : List Nat) (LL : List (List Int)) (R k : Nat) : Prop := R = k + badN n (Ss ++ (LL.take k).map setOf) (LL.drop k)
theorem BadAt.start (n : Int) (Ss : List Nat) (LL : List (List Int)) : BadAt n Ss LL (badN n Ss LL) 0 := by
 unfold BadAt
 simp
theorem BadAt.cons {n : Int} {Ss : List Nat} {LL : List (List Int)} {R k : Nat} (h : BadAt n Ss LL R k) (hk : k < LL.length) : R = k + badN n (Ss ++ (LL.take k).map setOf) (LL.getD k [] :: LL.drop (k + 1)) := by
 unfold BadAt at h
 rw [List.drop_eq_getElem_cons hk] at h
 rw [show LL.getD k [] = LL[k] by simp [hk]]
 exact h
theorem BadAt.stop {n : Int} {Ss : List Nat} {LL : List (List Int)} {R k : Nat} (h : BadAt n Ss LL R k) (hk : k < LL.length) (hb : (clB n (LL.getD k []) && failB (Ss ++ (LL.take k).map setOf) (oppN (setOf (LL.getD k [])))) = false) : R = k := by
 have := h.cons hk
 unfold badN at this
 rw [hb] at this
 simpa using this
theorem BadAt.next {n : Int} {Ss : List Nat} {LL : List (List Int)} {R k : Nat} (h : BadAt n Ss LL R k) (hk : k < LL.length) (hb : (clB n (LL.getD k []) && failB (Ss ++ (LL.take k).map setOf) (oppN (setOf (LL.getD k [])))) = true) : BadAt n Ss LL R (k + 1) := by
 have := h.cons hk
 unfold badN at this
 rw [hb, if_pos rfl] at this
 unfold BadAt
 rw [css.take_snoc LL k hk, List.map_append, ← List.append_assoc]
 show R = k + 1 + badN n (Ss ++ (LL.take k).map setOf ++ [setOf (LL.getD k [])]) (LL.drop (k + 1))
 omega
theorem BadAt.fin {n : Int} {Ss : List Nat} {LL : List (List Int)} {R k : Nat} (h : BadAt n Ss LL R k) (hk : ¬ k < LL.length) (hk' : k ≤ LL.length) : R = LL.length := by
 unfold BadAt at h
 rw [List.drop_of_length_le (by omega)] at h
 unfold badN at h
 omega
set_option maxRecDepth 100000 in
set_option maxHeartbeats 8000000 in
theorem firstBad {Ss : List Nat} {t : TypeId} {wB w : World} {c n : Nat} {s : WS} (v : Value) (LL : List (List Int)) (h : Wof Ss t [.int .i64 (n : Int)] wB w c s) (hT : Tab wB) (hn : n ≤ 24) (hN : Ss.length + LL.length ≤ 1048576) (hS : ∀ S ∈ Ss, S < 2 ^ 48) (htt : css.tot LL ≤ 1048576) (hv : Sls wB v LL) :
  Calls Tryd.prog 51 #[.pointer (some ⟨c, 0, none⟩), v] w fun e w' => e = .returned (.int .i64 (badN (n : Int) Ss LL : Int)) ∧ wB.grownBy w' none := by
 have B0 := hide (BadAt.start (n : Int) Ss LL)
 generalize badN (n : Int) Ss LL = R at *
 have H0 := hide h
 have HT := hide hT
 have HS := hide hS
 have hl := Nat.le_trans (css.tot_len LL) htt
 obtain ⟨a, cap, rfl, ha⟩ := hv
 have HA := hide ha
 clear ha h hT hS
 go_enter Tryd.func51, Tryd.ntmps51
 go_wp2_with fail
 go_loopw [12] (fun iv wr => ∃ (k : Nat) (s : WS), k ≤ LL.length ∧ iv = .int .i64 (k : Int) ∧ Hid (Wof (Ss ++ (LL.take k).map setOf) t [.int .i64 (n : Int)] wB wr c s) ∧ Hid (BadAt (n : Int) Ss LL R k)) (fun iv _ => LL.length - (intOf iv).toNat)
 case atStart => exact ⟨0, s, Nat.zero_le _, rfl, by rw [List.take_zero, List.map_nil, List.append_nil]; exact H0, B0⟩
 case round =>
  obtain ⟨k, s1, hk, rfl, hw, hb⟩ := hrel
  clear H0 B0
  by_cases hlt : k < LL.length
  ·rcases unhide HA with h | ⟨b, off, rfl, hbb, hcb⟩
   ·rw [h] at hlt
    simp at hlt
   ·obtain ⟨u, hu, hs⟩ := hcb k hlt
    have ww := unhide hw
    have c1 : wr.cell? ⟨b, off + k, none⟩ = some u := ww.g.cell hu (fun e => by cases e)
    have x54 := ex_cell ww.wat ww.tx.2
    have hi' : (k : Int) < (LL.length : Int) := by omega
    have hL := Nat.le_trans (css.tot_in LL k) htt
    have hsr : Sl wr u (LL.getD k []) := hs.kept ww.g (.inl rfl)
    have CC := ok.clauseOf u (LL.getD k []) (n : Int) wr hL hsr
    have CL := hide (bset.litsOf u (LL.getD k []) wr hL hsr)
    have hlen : (Ss ++ (LL.take k).map setOf).length < 1048576 := by rw [List.length_append, List.length_map, List.length_take]; omega
    have hSS : ∀ S ∈ Ss ++ (LL.take k).map setOf, S < 2 ^ 48 := by
     intro S hS
     rcases List.mem_append.1 hS with q | q
     ·exact unhide HS S q
     ·exact set_bd _ S q
    have CO := hide (srt.opposites (setOf (LL.getD k [])) wr (setOf_lt _))
    have cf := fails ww (unhide HT) (Nat.le_of_lt hlen) hSS hn (oppN_lt (setOf (LL.getD k [])))
    have NX : Hid (∀ s2 w2, Wof (Ss ++ (LL.take k).map setOf) t [.int .i64 (n : Int)] wB w2 c s2 → Calls Tryd.prog 46 #[.pointer (some ⟨c, 0, none⟩), .int .u64 (setOf (LL.getD k []) : Int)] w2 fun e w' => ∃ s', e = .returned (.tuple #[]) ∧ Wof (Ss ++ (LL.take (k + 1)).map setOf) t [.int .i64 (n : Int)] wB w' c s') := by
     intro s2 w2 q
     have := q.add (S := setOf (LL.getD k [])) (unhide HT) hlen (setOf_lt _)
     rw [css.take_snoc LL k hlt, List.map_append, ← List.append_assoc]
     exact this
    have ST := hide (fun hx => (unhide hb).stop hlt hx)
    have NB := hide (fun hx => (unhide hb).next hlt hx)
    have GW := hide ww.g
    clear hcb hs hu ww hsr hSS hlen hw hb
    cases hcl : clB (n : Int) (LL.getD k [])
    ·rw [hcl] at CC
     have R1 := hide (unhide ST (by rw [hcl]; rfl))
     have CC' := hide CC
     clear CC cf NX ST NB CL CO hcl
     go_wp2_with fail
     refine (unhide CC').mono ?_; rintro e w2 ⟨rfl, hww⟩; have hw' := hww.symm; clear hww; subst hw'
     go_wp2_with fail
     go_ret
     exact ⟨by rw [unhide R1]; rfl, unhide GW⟩
    ·rw [hcl] at CC
     rw [hcl] at ST NB
     have CC' := hide CC
     have CF := hide cf
     clear CC hcl cf
     generalize setOf (LL.getD k []) = S at *
     generalize oppN S = O at *
     generalize hfb : failB (Ss ++ (LL.take k).map setOf) O = fb at *
     go_wp2_with fail
     refine (unhide CC').mono ?_; rintro e w2 ⟨rfl, hww⟩; have hw' := hww.symm; clear hww; subst hw'
     go_wp2_with fail
     refine (unhide CL).mono ?_; rintro e w2 ⟨rfl, hww⟩; have hw' := hww.symm; clear hww; subst hw'
     go_wp2_with fail
     refine (unhide CO).mono ?_; rintro e w2 ⟨rfl, hww⟩; have hw' := hww.symm; clear hww; subst hw'
     go_wp2_with fail
     refine (unhide CF).mono ?_; rintro e w2 ⟨s2, rfl, r2, _⟩
     rw [hfb]
     have CA := hide (unhide NX s2 w2 r2)
     have G2 := hide r2.g
     clear r2 CC' CL CO CF NX hfb
     cases fb
     ·have R1 := hide (unhide ST rfl)
      clear ST NB CA
      go_wp2_with fail
      go_ret
      exact ⟨by rw [unhide R1]; rfl, unhide G2⟩
     ·have R1 := hide (unhide NB rfl)
      clear ST NB
      go_wp2_with fail
      refine (unhide CA).mono ?_; rintro e w3 ⟨s3, rfl, r3⟩
      have R3 := hide r3
      clear CA r3
      go_wp2_with fail
      go_roundw
      case rel => exact ⟨k + 1, s3, by omega, by go_num, R3, R1⟩
      case measure => simp [intOf]; omega
  ·have hi' : ¬ (k : Int) < (LL.length : Int) := by omega
   have R1 := hide ((unhide hb).fin hlt hk)
   have GW := hide (unhide hw).g
   clear hb hw
   go_wp2_with fail
   go_ret
   exact ⟨by rw [unhide R1]; rfl, unhide GW⟩
end Go.Proofs.YtfhmdpbnnieohaaDoor.wm
