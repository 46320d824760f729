/- What force of the program's watcher answers; no condition but on the sizes. -/
import Derived.Test.YtheigbmkldlicaaDoorWl
import Derived.Test.YtheigbmkldlicaaDoorTw
import Derived.WalkMore
namespace Go.Proofs.YtheigbmkldlicaaDoor.wm
open Go.ChangeShapes Go.WideShapes Go.ChangeAt Go.RowKit
open Go.Proofs.YtheigbmkldlicaaDoor.wm0 (end0 ret0 stepW listW listB)
open Go.Proofs.YtheigbmkldlicaaDoor.lits (okB okB_iff)
open Go.Proofs.YtheigbmkldlicaaDoor.bset (placeN placeN_le placeC withN withN_lt withN_bit withC)
open Go.Proofs.YtheigbmkldlicaaDoor.srt (Tab)
open Go.Proofs.YtheigbmkldlicaaDoor.wo (Made)
open Go.Proofs.YtheigbmkldlicaaDoor.sl (Sl Own ints hide unhide ret_int ret_bool grown_refl grown_trans grown_drewN)
set_option linter.unusedVariables false

/-- all of a watcher lies behind a place -/
def Far (B c : Nat) (s : WS) : Prop := ∀ k, Foot c s k → B ≤ k
theorem Far.stp {B c : Nat} {s s' : WS} {w w' : World} (h : Far B c s) (k : Stp c s s' w w') (hB : B ≤ w.heap.size) : Far B c s' := by
  intro b f
  rcases k.foot b f with q | q
  · exact h b q
  · omega
theorem grown_stp {c : Nat} {s s' : WS} {wB w w' : World} (g : wB.grownBy w none) (h : Far wB.heap.size c s) (k : Stp c s s' w w') : wB.grownBy w' none :=
  ⟨k.os.trans g.os, k.tape.trans g.tape, k.output.trans g.output, Nat.le_trans g.size k.size, fun b hb _ => (k.block b (Nat.lt_of_lt_of_le hb g.size) (fun f => by have := h b f; omega)).trans (g.block b hb (fun e => by cases e))⟩
theorem Wat.by {w w' : World} {c : Nat} {s : WS} {r : Option Nat} (h : Wat w c s) (g : w.grownBy w' r) (hr : ∀ k, r = some k → ¬ Foot c s k) : Wat w' c s := by
  have nr : ∀ {v : Value}, (∀ k, v.ownBlock = some k → Foot c s k) → v.ownBlock = none ∨ v.ownBlock ≠ r := by
    intro v hv
    cases e : v.ownBlock with
    | none => exact .inl rfl
    | some k => exact .inr (fun e' => hr k e'.symm (hv k e))
  exact ⟨by rw [g.block c h.lt (fun e => hr c e.symm (.inl rfl))]; exact h.blk, h.len, h.cl.kept g (nr fun k e => .inr (.inl e)), fun p hp => (h.ls p hp).kept g (nr fun k e => .inr (.inr ⟨p, hp, e⟩)), h.ap, h.ty⟩
theorem own_stp {c : Nat} {s s' : WS} {w w' : World} {b n : Nat} {v : Value} {xs : List Value} (h : w.ownsRow b 3 1 v n xs) (k : Stp c s s' w w') (hn : ∀ q, v.ownBlock = some q → ¬ Foot c s q) : w'.ownsRow b 3 1 v n xs := by
  refine ⟨h.1, ?_⟩
  rcases h.2 with hz | ⟨g, cap, cur, rfl, hb, hgg, rest⟩
  · exact .inl hz
  · refine .inr ⟨g, cap, cur, rfl, hb, ?_, rest⟩
    rw [k.block g (Array.getElem?_eq_some_iff.1 hgg).1 (hn g rfl)]
    exact hgg
theorem apart_stp {c : Nat} {s s' : WS} {w w' : World} {b n : Nat} {v : Value} {xs : List Value} (h : w.ownsRow b 3 1 v n xs) (k : Stp c s s' w w') (hn : ∀ q, v.ownBlock = some q → ¬ Foot c s q) : ∀ q, v.ownBlock = some q → ¬ Foot c s' q := by
  intro q e f
  rcases k.foot q f with z | z
  · exact hn q e z
  · have := (h.lt q e).2
    omega
/-- the same, with what is taken -/
def JT (Ss : List Nat) (T : Nat) (P : PS) (R : Nat) (l : Int) (F C : List Int) : Prop := Jn Ss P R l F C ∧ P.tk = T
theorem rew_tk (P : PS) (i : Nat) (l : Int) : (P.rew i l).tk = P.tk := by
  unfold PS.rew
  split
  · rfl
  · split
    · rfl
    · split <;> rfl
theorem fitT (Ss : List Nat) (T : Nat) : Fit (JT Ss T) Ss.length where
  size := fun P R l F C h => (fit Ss).size P R l F C h.1
  word := fun P R l F C h => (fit Ss).word P R l F C h.1
  all := fun P R l F C h => (fit Ss).all P R l F C h.1
  lit0 := fun P R l F C h => (fit Ss).lit0 P R l F C h.1
  lost := fun P R l F C h => (fit Ss).lost P R l F C h.1
  lens := fun P R l F C h => (fit Ss).lens P R l F C h.1
  next := fun P R l F h h0 h1 => ⟨(fit Ss).next P R l F h.1 h0 h1, h.2⟩
  stay := fun P R l F i C h hm => ⟨(fit Ss).stay P R l F i C h.1 hm, by rw [rew_tk]; exact h.2⟩
  move := fun P R l F i C h hm => ⟨(fit Ss).move P R l F i C h.1 hm, by show (P.rew i l).tk = T; rw [rew_tk]; exact h.2⟩
/-- a watcher, and a path of the call's own beside it -/
structure Frc (Ss : List Nat) (wB : World) (c : Nat) (s : WS) (w : World) (pv : Value) (p : List Int) : Prop where
  wat : Wat w c s
  tb : Tab wB
  jn : ∃ l F, Jn Ss s.ps 0 l F []
  g : wB.grownBy w none
  far : Far wB.heap.size c s
  own : w.ownsRow wB.heap.size 3 1 pv p.length (ints p)
  ap : ∀ q, pv.ownBlock = some q → ¬ Foot c s q
theorem Frc.tab {Ss : List Nat} {wB : World} {c : Nat} {s : WS} {w : World} {pv : Value} {p : List Int} (h : Frc Ss wB c s w pv p) : TabF c s w :=
  ⟨h.tb.kept h.g, fun f => by have := h.far _ f; have := tab_lt h.tb; omega⟩
theorem Frc.stp {Ss : List Nat} {wB : World} {c : Nat} {s s' : WS} {w w' : World} {pv : Value} {p : List Int} (h : Frc Ss wB c s w pv p) (k : Stp c s s' w w') (hw : Wat w' c s') (hj : ∃ l F, Jn Ss s'.ps 0 l F []) : Frc Ss wB c s' w' pv p :=
  ⟨hw, h.tb, hj, grown_stp h.g h.far k, h.far.stp k h.g.size, own_stp h.own k h.ap, apart_stp h.own k h.ap⟩
/-- the watcher's own list that waits -/
theorem wait_facts {Ss : List Nat} {s : WS} {l : Int} {F : List Int} (h : Jn Ss s.ps 0 l F []) {v : Value} {C : List Int} (hC : s.A.getD 0 nil_ = (v, C)) : (∀ x ∈ C, ∃ k : Nat, x = (k : Int) ∧ k < s.K.length) ∧ C.length ≤ 4194304 ∧
    (s.em = false → ∀ k : Nat, (k : Int) ∈ C → clsd (s.K.getD k zk).1 s.tk = false → opn (s.K.getD k zk).1 s.tk ≠ 0) := by
  have e0 : s.ps.A.getD 0 [] = C := by rw [ps_getD, hC]
  have hlen : s.K.length = Ss.length := h.len
  refine ⟨fun x hx => ?_, ?_, fun he k hk hc => ?_⟩
  · obtain ⟨k, hk, hk', _⟩ := h.idx 0 x (by rw [e0]; exact hx)
    exact ⟨k, hk, by rw [hlen]; exact hk'⟩
  · have := h.bd
    unfold wgt at this
    rw [e0] at this
    omega
  · obtain ⟨k', e, hk', _⟩ := h.idx 0 (k : Int) (by rw [e0]; exact hk)
    have : k' = k := by omega
    subst this
    have hs : (s.K.getD k' zk).1 = Ss.getD k' 0 := h.sets k' hk'
    rw [hs] at hc ⊢
    exact (h.open_ he hk' hc).1
/-- one literal more behind the path -/
theorem Frc.push {Ss : List Nat} {wB w w1 : World} {c g cap : Nat} {s : WS} {pv : Value} {p : List Int} {x : Int} (h : Frc Ss wB c s w pv p) {o : Obj}
    (hown : w1.ownsRow wB.heap.size 3 1 (.slice (some ⟨g, 0, none⟩) (p.length + 1) cap) (p.length + 1) (ints p ++ [.int .i64 x])) (hg : (w.alloc o).grownBy w1 pv.ownBlock) (hl : pv.ownBlock = some g ∨ w.heap.size ≤ g) :
    Frc Ss wB c s w1 (.slice (some ⟨g, 0, none⟩) (p.length + 1) cap) (p ++ [x]) := by
  have ga := World.grownBy_alloc w o none
  have wa := h.wat.kept ga
  have wb : Wat w1 c s := wa.by hg h.ap
  refine ⟨wb, h.tb, h.jn, ?_, h.far, ?_, fun q e f => ?_⟩
  · exact ⟨hg.os.trans h.g.os, hg.tape.trans h.g.tape, hg.output.trans h.g.output, Nat.le_trans h.g.size (Nat.le_trans ga.size hg.size), fun b hb _ => by
      rw [hg.block b (Nat.lt_of_lt_of_le hb (Nat.le_trans h.g.size ga.size)) (fun e => by have := (h.own.lt b e.symm).1; omega), ga.block b (Nat.lt_of_lt_of_le hb h.g.size) (fun e => by cases e)]
      exact h.g.block b hb (fun e => by cases e)⟩
  · rw [List.length_append, app.ints_append]
    exact hown
  · have e' : g = q := by simpa [Value.ownBlock] using e
    subst e'
    rcases hl with z | z
    · exact h.ap g z f
    · have hlt : g < w.heap.size := by
        rcases f with f | f | ⟨p', hp', f⟩
        · subst f
          exact h.wat.lt
        · exact (h.wat.cl.lt g f).2
        · exact ((h.wat.ls p' hp').lt g f).2
      omega

/-- nothing but the watcher's blocks and the path's is written; what both lead to later was theirs or is new -/
structure Run (c : Nat) (s0 s : WS) (w0 w : World) (p0 p : Value) : Prop where
  os : w.os = w0.os
  tape : w.tape = w0.tape
  output : w.output = w0.output
  size : w0.heap.size ≤ w.heap.size
  block : ∀ k, k < w0.heap.size → ¬ Foot c s0 k → p0.ownBlock ≠ some k → w.heap[k]? = w0.heap[k]?
  foot : ∀ k, Foot c s k → Foot c s0 k ∨ w0.heap.size ≤ k
  path : ∀ k, p.ownBlock = some k → p0.ownBlock = some k ∨ w0.heap.size ≤ k
theorem Run.refl (c : Nat) (s : WS) (w : World) (p : Value) : Run c s s w w p p := ⟨rfl, rfl, rfl, Nat.le_refl _, fun _ _ _ _ => rfl, fun _ h => .inl h, fun _ h => .inl h⟩
theorem Run.stp {c : Nat} {s0 s s' : WS} {w0 w w' : World} {p0 p : Value} (h : Run c s0 s w0 w p0 p) (k : Stp c s s' w w') : Run c s0 s' w0 w' p0 p :=
  ⟨k.os.trans h.os, k.tape.trans h.tape, k.output.trans h.output, Nat.le_trans h.size k.size,
    fun b hb hn hp => (k.block b (Nat.lt_of_lt_of_le hb h.size) (fun f => by
      rcases h.foot b f with f' | f'
      · exact hn f'
      · omega)).trans (h.block b hb hn hp),
    fun b f => by
      rcases k.foot b f with f' | f'
      · exact h.foot b f'
      · exact .inr (Nat.le_trans h.size f'), h.path⟩
theorem Run.push {c g n cap : Nat} {s0 s : WS} {w0 w w1 : World} {p0 p : Value} {o : Obj} (h : Run c s0 s w0 w p0 p) (hg : (w.alloc o).grownBy w1 p.ownBlock) (hl : p.ownBlock = some g ∨ w.heap.size ≤ g) : Run c s0 s w0 w1 p0 (.slice (some ⟨g, 0, none⟩) n cap) := by
  have ga := World.grownBy_alloc w o none
  refine ⟨hg.os.trans h.os, hg.tape.trans h.tape, hg.output.trans h.output, Nat.le_trans h.size (Nat.le_trans ga.size hg.size), fun b hb hn hp => ?_, h.foot, fun b e => ?_⟩
  · have hbw := Nat.lt_of_lt_of_le hb h.size
    rw [hg.block b (Nat.lt_of_lt_of_le hbw ga.size) (fun e => by
      rcases h.path b e.symm with q | q
      · exact hp q
      · omega), ga.block b hbw (fun e => by cases e)]
    exact h.block b hb hn hp
  · have e' : g = b := by simpa [Value.ownBlock] using e
    subst e'
    rcases hl with z | z
    · exact h.path g z
    · exact .inr (Nat.le_trans h.size z)
theorem Run.done {c : Nat} {s0 s : WS} {w0 w : World} {p0 p : Value} (h : Run c s0 s w0 w p0 p) (h0 : p0.ownBlock = none) (hs : s.ty = s0.ty ∧ s.ex = s0.ex) : Stp c s0 s w0 w :=
  ⟨h.os, h.tape, h.output, h.size, fun k hk hn => h.block k hk hn (by rw [h0]; simp), h.foot, hs⟩
/-- the loop's place: n rounds are left -/
def At (Ss : List Nat) (wB : World) (c : Nat) (w : World) (pv : Value) (F : List Int × Bool) (E : Nat × TypeId × List Value) (J : WS → World → Value → Prop) (m n : Nat) (p : List Int) (s : WS) : Prop := Frc Ss wB c s w pv p ∧ frc Ss n s.tk p = F ∧ p.length + n = m ∧ 49 ≤ n + pc s.tk ∧ frt Ss n s.tk = E.1 ∧ (s.ty = E.2.1 ∧ s.ex = E.2.2) ∧ J s w pv
theorem pv_form {w : World} {b : Nat} {v : Value} {p : List Int} (h : w.ownsRow b 3 1 v p.length (ints p)) : ∃ a c, v = .slice a p.length c := by
  obtain ⟨a, c, e, _⟩ := Sl.of_own h
  exact ⟨a, c, e⟩

set_option maxRecDepth 100000 in
set_option maxHeartbeats 8000000 in
theorem force {Ss : List Nat} {wB w : World} {c : Nat} {s : WS} {pv : Value} {p : List Int} (h : Frc Ss wB c s w pv p) (hN : Ss.length ≤ 1048576) (hp : p.length ≤ 1048576) (hS : ∀ S ∈ Ss, S < 2 ^ 48) :
    Calls Tryd.prog 144 #[.pointer (some ⟨c, 0, none⟩), pv] w fun e w' => ∃ u s', e = .returned (.tuple #[u, .bool (frc Ss 49 s.tk p).2]) ∧ Frc Ss wB c s' w' u (frc Ss 49 s.tk p).1 ∧ (s'.tk = frt Ss 49 s.tk ∧ s'.ty = s.ty ∧ s'.ex = s.ex) ∧ Run c s s' w w' pv u := by
  have st : Hid (At Ss wB c w pv (frc Ss 49 s.tk p) (frt Ss 49 s.tk, s.ty, s.ex) (fun s' w' u => Run c s s' w w' pv u) (p.length + 49) 49 p s) := ⟨h, rfl, rfl, by omega, rfl, ⟨rfl, rfl⟩, Run.refl _ _ _ _⟩
  generalize frc Ss 49 s.tk p = F at *
  have hJ1 : Hid (∀ s1 s2 wr w2 p1, Run c s s1 w wr pv p1 → Stp c s1 s2 wr w2 → Run c s s2 w w2 pv p1) := fun s1 s2 wr w2 p1 h k => h.stp k
  have hJ2 : Hid (∀ s1 wr w2 p1 (o : Obj) g n cap, Run c s s1 w wr pv p1 → (wr.alloc o).grownBy w2 p1.ownBlock → (p1.ownBlock = some g ∨ wr.heap.size ≤ g) → Run c s s1 w w2 pv (.slice (some ⟨g, 0, none⟩) n cap)) := fun s1 wr w2 p1 o g n cap h k l => h.push k l
  have post : ∀ {e : Ending} {w' : World}, (∃ u s', e = .returned (.tuple #[u, .bool F.2]) ∧ Frc Ss wB c s' w' u F.1 ∧ (s'.tk = (frt Ss 49 s.tk, s.ty, s.ex).1 ∧ s'.ty = (frt Ss 49 s.tk, s.ty, s.ex).2.1 ∧ s'.ex = (frt Ss 49 s.tk, s.ty, s.ex).2.2) ∧ (fun s' w' u => Run c s s' w w' pv u) s' w' u) → ∃ u s', e = .returned (.tuple #[u, .bool F.2]) ∧ Frc Ss wB c s' w' u F.1 ∧ (s'.tk = frt Ss 49 s.tk ∧ s'.ty = s.ty ∧ s'.ex = s.ex) ∧ Run c s s' w w' pv u := fun h => h
  refine Calls.mono ?_ (fun e w' => post)
  clear post
  generalize hJ : (fun s' w' u => Run c s s' w w' pv u) = J at *
  replace hJ1 : Hid (∀ s1 s2 wr w2 p1, J s1 wr p1 → Stp c s1 s2 wr w2 → J s2 w2 p1) := by rw [← hJ]; exact hJ1
  replace hJ2 : Hid (∀ s1 wr w2 p1 (o : Obj) g n cap, J s1 wr p1 → (wr.alloc o).grownBy w2 p1.ownBlock → (p1.ownBlock = some g ∨ wr.heap.size ≤ g) → J s1 w2 (.slice (some ⟨g, 0, none⟩) n cap)) := by rw [← hJ]; exact hJ2
  clear hJ
  generalize (frt Ss 49 s.tk, s.ty, s.ex) = E at *
  generalize hm : p.length + 49 = m at *
  have hm' : m ≤ 1048700 := by omega
  have HSS := hide hS
  clear h hm hS
  go_enter Tryd.func144, Tryd.ntmps144
  go_wp2
  go_step3
  go_wp2
  go_step3
  go_wp2
  go_loopw [1] (fun pv wr => ∃ (n : Nat) (p : List Int) (s : WS), slLen pv + n = m ∧ Hid (At Ss wB c wr pv F E J m n p s)) (fun pv _ => m - slLen pv)
  case atStart =>
    refine ⟨49, p, s, ?_, st⟩
    obtain ⟨a, c', e⟩ := pv_form (unhide st).1.own
    rw [e]
    exact (unhide st).2.2.1
  case round =>
    obtain ⟨n, p1, s1, hn, ha⟩ := hrel
    clear st
    obtain ⟨fr, f1, f2, f3, f4, f5, f6⟩ := unhide ha
    have hn0 : n ≠ 0 := fun e => by
      have := pc_le s1.tk
      omega
    obtain ⟨n', rfl⟩ : ∃ n', n = n' + 1 := ⟨n - 1, by omega⟩
    obtain ⟨l, F0, jn⟩ := fr.jn
    obtain ⟨v, C, eC⟩ : ∃ v C, s1.A.getD 0 nil_ = (v, C) := ⟨_, _, rfl⟩
    have wf := wait_facts jn eC
    have cu := unit fr.wat fr.tab (by show s1.K.length ≤ _; rw [show s1.K.length = Ss.length from jn.len]; exact hN) jn.tk (fun i hi => by
      have hi' : i < Ss.length := by rw [← show s1.K.length = Ss.length from jn.len]; exact hi
      rw [show (s1.K.getD i zk).1 = Ss.getD i 0 from jn.sets i hi']
      exact jn.wd i hi') eC wf.1 wf.2.1 wf.2.2
    have eu := jn.unit
    have eu1 : s1.ps.uniX = (unitN Ss s1.tk).1 := congrArg Prod.fst eu
    have eu2 : (!s1.em) = (unitN Ss s1.tk).2 := congrArg Prod.snd eu
    rw [eu1, eu2] at cu
    have un := unit_new (Ss := Ss) (T := s1.tk) (unhide HSS)
    have NX : Hid (∀ s2 w2, Wat w2 c s2 → Stp c s1 s2 wr w2 → s2.ps = s1.ps.uni → Frc Ss wB c s2 w2 u1 p1 ∧ s2.tk = s1.tk ∧ s2.em = s1.em ∧ (s2.ty = E.2.1 ∧ s2.ex = E.2.2) ∧ J s2 w2 u1) := by
      intro s2 w2 q1 q2 q3
      have ej : Jn Ss s2.ps 0 l F0 [] := by rw [q3]; exact jn.uni
      refine ⟨fr.stp q2 q1 ⟨l, F0, ej⟩, ?_, ?_, ⟨q2.same.1.trans f5.1, q2.same.2.trans f5.2⟩, unhide hJ1 _ _ _ _ _ f6 q2⟩
      · have : s2.ps.tk = s1.ps.tk := by rw [q3]; unfold PS.uni; split <;> rfl
        exact this
      · have : s2.ps.em = s1.ps.em := by rw [q3]; unfold PS.uni; split <;> rfl
        exact this
    obtain ⟨pa, pcap, ep⟩ := pv_form fr.own
    cases hok : (unitN Ss s1.tk).2
    · rw [hok] at cu
      have eF : F = (p1, false) := by rw [← f1]; exact frc_stop hok
      have eG : E.1 = s1.tk := by rw [← f4]; exact frt_stop hok
      have EG := hide eG
      have CU := hide cu
      clear cu eu eu1 eu2 un wf jn fr f1 f2 f3 f4 f5 f6 ha hok eC eG
      subst eF
      subst ep
      generalize (unitN Ss s1.tk).1 = x at *
      go_wp2_with fail
      refine (unhide CU).mono ?_; rintro e w2 ⟨s2, rfl, q1, q2, q3⟩
      have nx := unhide NX s2 w2 q1 q2 q3
      have R2 := hide (And.intro nx.1 (And.intro (And.intro (nx.2.1.trans (unhide EG).symm) nx.2.2.2.1) nx.2.2.2.2))
      clear CU q1 q2 q3 NX nx EG
      go_wp2_with fail
      rw [Exit.noGoto_ret]
      go_ret2
      exact ⟨_, _, rfl, unhide R2⟩
    · rw [hok] at cu
      by_cases hx0 : (unitN Ss s1.tk).1 = 0
      · rw [hx0] at cu
        have eF : F = (p1, true) := by rw [← f1]; exact frc_end hok hx0
        have eG : E.1 = s1.tk := by rw [← f4]; exact frt_end hx0
        have EG := hide eG
        have CU := hide cu
        clear cu eu eu1 eu2 un wf jn fr f1 f2 f3 f4 f5 f6 ha hok eC hx0 eG
        subst eF
        subst ep
        go_wp2_with fail
        refine (unhide CU).mono ?_; rintro e w2 ⟨s2, rfl, q1, q2, q3⟩
        have nx := unhide NX s2 w2 q1 q2 q3
        have R2 := hide (And.intro nx.1 (And.intro (And.intro (nx.2.1.trans (unhide EG).symm) nx.2.2.2.1) nx.2.2.2.2))
        clear CU q1 q2 q3 NX nx EG
        go_wp2_with fail
        rw [Exit.noGoto_ret]
        go_ret2
        exact ⟨_, _, rfl, unhide R2⟩
      · have un' := un hok hx0
        have eF := frc_more (n := n') (p := p1) hok hx0
        rw [f1] at eF
        have eG := frt_more (n := n') hok hx0
        rw [f4] at eG
        have hem : s1.em = false := by
          have : (!s1.em) = true := eu2.trans hok
          simpa using this
        generalize hxx : (unitN Ss s1.tk).1 = x at *
        have bd := okB_iff.1 un'.1
        have hpc := pc_with un'.1 un'.2.1
        have htk : s1.tk < 2 ^ 48 := jn.tk
        have CU := hide cu
        have hw0 := withC 0 x
        have TKE : Hid (∀ s2 w2, Frc Ss wB c s2 w2 u1 p1 → s2.tk = s1.tk → s2.em = s1.em → (s2.ty = E.2.1 ∧ s2.ex = E.2.2) ∧ J s2 w2 u1 → Calls Tryd.prog 143 #[.pointer (some ⟨c, 0, none⟩), .int .u64 ((withN 0 x : Nat) : Int)] w2 fun e w' => ∃ s', e = .returned (.tuple #[]) ∧ Frc Ss wB c s' w' u1 p1 ∧ s'.tk = withN s1.tk x ∧ (s'.ty = E.2.1 ∧ s'.ex = E.2.2) ∧ J s' w' u1) := by
          intro s2 w2 q e1 e2 e3
          obtain ⟨l2, F2, j2⟩ := q.jn
          have hL : withN 0 x < 2 ^ 48 := withN_lt (by decide) un'.1
          have js := j2.start (l' := l2) hL (fun b hb => by
            rw [withN_bit, Nat.zero_testBit, Bool.false_or, decide_eq_true_iff] at hb
            rw [← hb, show s2.ps.tk = s1.tk from e1]
            exact un'.2.1) (fun z => by
            have : s2.em = true := z
            rw [e2, hem] at this
            cases this)
          refine (take (l0 := l2) (F0 := []) (fitT Ss (s2.tk ||| withN 0 x)) hN q.wat q.tab hL j2.tk ⟨js, rfl⟩).mono ?_
          rintro e w' ⟨s', l', F', rfl, t1, t2, t3⟩
          refine ⟨s', rfl, q.stp t2 t1 ⟨l', F', t3.1⟩, ?_, ⟨t2.same.1.trans e3.1.1, t2.same.2.trans e3.1.2⟩, unhide hJ1 _ _ _ _ _ e3.2 t2⟩
          have : s'.tk = s2.tk ||| withN 0 x := t3.2
          rw [this, e1]
          unfold bset.withN
          rw [Nat.zero_or]
        have W0 := hide (fun w => withC 0 x w (by decide) un'.1)
        have FX : Hid (F = frc Ss n' (withN s1.tk x) (p1 ++ [x])) := eF
        have GX : Hid (E.1 = frt Ss n' (withN s1.tk x)) := eG
        have hp1 : p1.length ≤ 1048700 := by omega
        obtain ⟨b0, b1, b2⟩ := bd
        have hmm := hide (And.intro f2 (And.intro f3 hpc))
        clear cu eu eu1 eu2 un un' wf jn fr f1 f2 f3 f4 f5 f6 ha hok eC hx0 eF eG hem hw0 hpc
        subst ep
        generalize withN 0 x = wx at *
        go_wp2_with fail
        refine (unhide CU).mono ?_; rintro e w2 ⟨s2, rfl, q1, q2, q3⟩
        obtain ⟨r1, r2, r3, r4⟩ := unhide NX s2 w2 q1 q2 q3
        have CT := hide (unhide TKE s2 w2 r1 r2 r3 r4)
        clear CU q1 q2 q3 NX TKE r1 r2 r3 r4
        have hxz : (x == 0) = false := by simpa using b0
        go_wp2_with fail
        refine (unhide W0 _).mono ?_; rintro e w3 ⟨rfl, hw⟩; have hw' := hw.symm; clear hw; subst hw'
        go_wp2_with fail
        refine (unhide CT).mono ?_; rintro e w4 ⟨s4, rfl, r4, r5, r6⟩
        have R4 := hide r4
        have R5 := hide r5
        have R7 := hide r6
        have ga := World.grownBy_alloc w4 (.cells #[.int .i64 x] 3) none
        have OWB := hide (r4.own.kept ga (ne_none _))
        have hBs : wB.heap.size ≤ (w4.alloc (.cells #[.int .i64 x] 3)).heap.size := Nat.le_trans r4.g.size ga.size
        have HBs := hide hBs
        have NC := hide (new_cell w4 x)
        clear CT W0 r4 r5 r6 hBs
        go_wp2_with (at_builtin; refine listB (unhide OWB) (unhide NC) (unhide HBs) (by omega) rfl _ _ rfl rfl rfl ?_)
        intro g5 cap5 w5 o5 g5' l5
        have R8 := hide (unhide hJ2 _ _ _ _ _ g5 (p1.length + 1) cap5 (unhide R7).2 g5' (by
          rcases l5 with z | z
          · exact .inl z
          · exact .inr (Nat.le_of_succ_le z)))
        have R6 := hide ((unhide R4).push o5 g5' (by
          rcases l5 with z | z
          · exact .inl z
          · exact .inr (Nat.le_of_succ_le z)))
        clear o5 g5' l5 OWB NC HBs ga R4
        have hk := unhide hmm
        go_wp2_with fail
        go_roundw
        case rel => exact ⟨n', p1 ++ [x], s4, by show p1.length + 1 + n' = m; omega, unhide R6, by rw [unhide R5]; exact (unhide FX).symm, by rw [List.length_append]; show p1.length + 1 + n' = m; omega, by rw [unhide R5]; omega, by rw [unhide R5]; exact (unhide GX).symm, (unhide R7).1, unhide R8⟩
        case measure => show m - (p1.length + 1) < m - p1.length; omega
end Go.Proofs.YtheigbmkldlicaaDoor.wm
