/- AndGate: what the program and its model answer at any number and any list of at most 2^20 numbers. -/
import Derived.Test.YtmmfhcfanbfniaaT6
namespace Go.Proofs.Ytmmfhcfanbfniaa.t2
open Go.ChangeShapes Go.WideShapes Go.ChangeAt Go.RowKit
open Go.Proofs.Ytmmfhcfanbfniaa.lits (okB okB_iff)
open Go.Proofs.Ytmmfhcfanbfniaa.sl (Sl Own ints hide unhide ret_int ret_bool grown_refl grown_trans grown_drewN)
open Go.Proofs.Ytmmfhcfanbfniaa.css (Sls OwnS tot Apart own_ne own_ne' own_kind own_mono)
open Go.Proofs.Ytmmfhcfanbfniaa.cf (Box)
open Go.Proofs.Ytmmfhcfanbfniaa.wo (Made)
open Go.Proofs.Ytmmfhcfanbfniaa.sp (negL)
set_option linter.unusedVariables false

theorem neg_ok {x : Int} (h : okB x = true) : wrap64 (-x) = -x := by
  have := ok_bd h
  unfold wrap64
  omega
theorem list_ok {L : List Int} (h : listB L = true) : L.length ≤ 24 ∧ ∀ y ∈ L, okB y = true := by
  simp only [listB, Bool.and_eq_true, decide_eq_true_eq, List.all_eq_true] at h
  exact h
theorem andC_len (a x : Int) (L : List Int) : (andC a x L).length = L.length + 1 := by simp [andC, andP]
set_option maxRecDepth 10000 in
set_option maxHeartbeats 4000000 in
theorem implAndGate (x : Int) (u : Value) (L : List Int) (lo hi : Nat) (w : World) (hL : L.length ≤ 1048576) (hu : Own lo hi w u L) (hh : hi ≤ w.heap.size) :
    Calls Try.prog 32 #[.int .i64 x, u] w fun e w' => AnsE w (okB x && listB L) (andC (-x) x L) e w' := by
  have gB := World.grownBy_alloc w (.cells #[.slice none 0 0, .bool false] 70) none
  have hb := Bld.new w
  have CM := gate_and w.heap.size _ u false (!okB x) [] (if okB x then andC (-x) x L else []) x L lo hi w _ hL hb (hu.kept gB) (by
    intro h w1 b1 u1 hs
    rw [World.size_alloc] at hs
    have lo_ := list_ok h
    have := andG _ _ _ _ [] x L lo hi w w1 lo_.1 lo_.2 (by simp) b1 u1 (by omega)
    refine this.mono (fun e w' h => ?_)
    cases hx : okB x
    · rw [hx] at h
      have ay := adds_yes (andC (wrap64 (-x)) x L) []
      have hh := h.met
      simp only [Bool.not_false] at hh
      rw [ay.1, ay.2] at hh
      exact hh
    · rw [hx] at h
      have an := adds_no (andC (wrap64 (-x)) x L) [] (by rw [andC_len]; simp; omega)
      have hh := h.met
      simp only [Bool.not_true] at hh
      rw [an.1, an.2, neg_ok hx] at hh
      exact hh)
  have CM' := CM.mono (fun e w' h => h.eq (b' := okB x && listB L) (CC' := andC (-x) x L) (by cases okB x <;> cases listB L <;> rfl) (by cases okB x <;> simp))
  obtain ⟨ua, uc, rfl, _⟩ := hu.sl
  clear gB hb hu CM
  generalize (okB x && listB L) = bb at *
  have CC := hide CM'
  clear CM'
  go_enter Try.func32, Try.ntmps32
  go_wp2_with fail
  refine (unhide CC).mono ?_; rintro e w2 ⟨q, rfl, o2, g2⟩
  have O2 := hide (And.intro o2 g2)
  clear o2 g2 CC
  go_wp2_with fail
  go_ret2
  exact ⟨_, rfl, (unhide O2).1, (unhide O2).2⟩

/-- clauses and one list more, each in memory of its own -/
structure Two (w wr : World) (v u : Value) (D : List (Value × List Int)) (N : List Int) : Prop where
  g : w.grownBy wr none
  o : wr.ownsRow w.heap.size 24 1 v D.length (D.map (·.1))
  i : ∀ p ∈ D, Own w.heap.size wr.heap.size wr p.1 p.2
  p : D.Pairwise Apart
  l : Own w.heap.size wr.heap.size wr u N
  a : ∀ q ∈ D, Apart q (u, N)
theorem Two.kept {w wr w1 : World} {v u : Value} {D : List (Value × List Int)} {N : List Int} (h : Two w wr v u D N) (g : wr.grownBy w1 none) : Two w w1 v u D N :=
  ⟨grown_trans h.g g, own_at h.o (fun k e => g.block k ((h.o.lt k e).2) (fun e => by cases e)), fun p hp => css.own_sub ((h.i p hp).kept g) (Nat.le_refl _) g.size, h.p, css.own_sub (h.l.kept g) (Nat.le_refl _) g.size, h.a⟩
/-- 'append(out, c)', c laid ahead -/
theorem appendD {ops : Array Oper} {rest : List Oper} {o : Oper} {a : Act} {Q : Exit → Act → World → Prop} {wr : World} {lo : Nat} {v u : Value} {D : List (Value × List Int)}
    (hw : wr.ownsRow lo 24 1 v D.length (D.map (·.1))) (hu : u.oneCell' = true) (hlo : lo ≤ wr.heap.size) (hM : D.length ≤ 1048576) (hgd : o.guard = none) (s x : Operand)
    (ho : o.op = .call { callee := .builtin .append, args := #[s, x], argTypes := #[29, 29] }) (hs : a.eval s = v) (hx : a.eval x = .slice (some ⟨wr.heap.size, 0, none⟩) 1 1)
    (hK : ∀ g cap w1, w1.ownsRow lo 24 1 (.slice (some ⟨g, 0, none⟩) (D.length + 1) cap) (D.length + 1) (D.map (·.1) ++ [u]) → (wr.alloc (.cells #[u] 24)).grownBy w1 v.ownBlock → wpList Try.prog ops Q rest (a.put o.dst (.slice (some ⟨g, 0, none⟩) (D.length + 1) cap)) w1) :
    wpList Try.prog ops Q (o :: rest) a (wr.alloc (.cells #[u] 24)) := by
  obtain ⟨i0, hi, hz0, hz1, hz2⟩ := info_parts css.infoSl
  refine wpList_append_lies _ hgd s x 29 ho lo 24 i0 (.slice none 0 0) 1 24 Try.underlying29 hi hz0 hz1 hz2 rfl (by decide) v D.length (D.map (·.1)) hs (hw.alloc _) ⟨wr.heap.size, 0, none⟩ 1 1 [u] hx rfl ?_ ?_ (by decide) ?_ ?_ ?_ (wr.heap.size + 1) (World.size_alloc ..) ?_
  · intro j y hj
    match j, hj with
    | 0, hj => simp at hj; subst hj; simp [Addr.add]
  · intro y hy
    simp at hy
    subst hy
    exact hu
  · unfold maxLen; omega
  · omega
  · simp; omega
  · intro g cap w1 h1 hg _ _
    exact hK g cap w1 h1 hg
/-- 'append(last, y)' -/
theorem appendL {ops : Array Oper} {rest : List Oper} {o : Oper} {a : Act} {Q : Exit → Act → World → Prop} {wr : World} {lo : Nat} {v : Value} {N : List Int} {y : Int}
    (hw : wr.ownsRow lo 3 1 v N.length (ints N)) (hlo : lo ≤ wr.heap.size) (hM : N.length ≤ 1048576) (hgd : o.guard = none) (s x : Operand)
    (ho : o.op = .call { callee := .builtin .append, args := #[s, x], argTypes := #[24, 24] }) (hs : a.eval s = v) (hx : a.eval x = .slice (some ⟨wr.heap.size, 0, none⟩) 1 1)
    (hK : ∀ g cap w1, w1.ownsRow lo 3 1 (.slice (some ⟨g, 0, none⟩) (N.length + 1) cap) (N.length + 1) (ints (N ++ [y])) → (wr.alloc (.cells #[.int .i64 y] 3)).grownBy w1 v.ownBlock → (v.ownBlock = some g ∨ g = wr.heap.size + 1) → wpList Try.prog ops Q rest (a.put o.dst (.slice (some ⟨g, 0, none⟩) (N.length + 1) cap)) w1) :
    wpList Try.prog ops Q (o :: rest) a (wr.alloc (.cells #[.int .i64 y] 3)) := by
  obtain ⟨i0, hi, hz0, hz1, hz2⟩ := info_parts sl.info3
  refine wpList_append_lies _ hgd s x 24 ho lo 3 i0 (.int .i64 0) 1 8 Try.underlying24 hi hz0 hz1 hz2 rfl (by decide) v N.length (ints N) hs (hw.alloc _) ⟨wr.heap.size, 0, none⟩ 1 1 [.int .i64 y] hx rfl ?_ ?_ (by decide) ?_ ?_ ?_ (wr.heap.size + 1) (World.size_alloc ..) ?_
  · intro j z hj
    match j, hj with
    | 0, hj => simp at hj; subst hj; simp [Addr.add]
  · intro z hz
    simp at hz
    subst hz
    rfl
  · unfold maxLen; omega
  · omega
  · simp; omega
  · intro g cap w1 h1 hg hn _
    exact hK g cap w1 (by rw [app.ints_append]; exact h1) hg hn

theorem by_refl {w w1 : World} {r : Option Nat} {k : Nat} (g : w.grownBy w1 r) (hk : k < w.heap.size) (h : r ≠ some k) : w1.heap[k]? = w.heap[k]? := g.block k hk (fun e => h e.symm)
/-- one clause more -/
theorem Two.clause {w wr w1 : World} {v u q : Value} {D : List (Value × List Int)} {N C : List Int} {g cap : Nat} {o : Obj} (h : Two w wr v u D N) (hq : Own wr.heap.size (wr.heap.size + 1) (wr.alloc o) q C)
    (h1 : w1.ownsRow w.heap.size 24 1 (.slice (some ⟨g, 0, none⟩) (D.length + 1) cap) (D.length + 1) (D.map (·.1) ++ [q])) (g1 : ((wr.alloc o).alloc (.cells #[q] 24)).grownBy w1 v.ownBlock) :
    Two w w1 (.slice (some ⟨g, 0, none⟩) (D.length + 1) cap) u (D ++ [(q, C)]) N := by
  have gA := grown_trans (r := none) (World.grownBy_alloc wr o none) (World.grownBy_alloc (wr.alloc o) (.cells #[q] 24) none)
  have hA := h.kept gA
  have hq' := hq.kept (World.grownBy_alloc (wr.alloc o) (.cells #[q] 24) none)
  have s1 := g1.size
  have sA : ((wr.alloc o).alloc (.cells #[q] 24)).heap.size = wr.heap.size + 1 + 1 := by simp only [World.size_alloc]
  have sg := hA.g.size
  have sr := h.g.size
  have kp : ∀ (p : Value) (M : List Int) (lo hi : Nat), Own lo hi ((wr.alloc o).alloc (.cells #[q] 24)) p M → hi ≤ wr.heap.size + 2 → Own lo hi w1 p M := fun p M lo hi hp hh => ⟨own_at hp.1 (fun k e => by_refl g1 (by have := hp.2 k e; omega) (fun e' => own_ne hA.o hp.1 k e e')), hp.2⟩
  refine ⟨?_, ?_, ?_, ?_, ?_, ?_⟩
  · exact ⟨g1.os.trans hA.g.os, g1.tape.trans hA.g.tape, g1.output.trans hA.g.output, Nat.le_trans sg s1, fun k hk _ => by
      rw [by_refl g1 (by omega) (fun e => by have := (hA.o.lt k e).1; omega)]
      exact hA.g.block k hk (fun e => by cases e)⟩
  · rw [List.length_append, List.map_append]
    exact h1
  · intro p hp
    rw [List.mem_append, List.mem_singleton] at hp
    rcases hp with hp | rfl
    · exact css.own_sub (kp _ _ _ _ (hA.i p hp) (by omega)) (Nat.le_refl _) s1
    · exact css.own_sub (kp _ _ _ _ hq' (by omega)) (by omega) (by omega)
  · rw [List.pairwise_append]
    refine ⟨h.p, List.pairwise_singleton _ _, fun a ha b hb => ?_⟩
    rw [List.mem_singleton] at hb
    subst hb
    intro k e e'
    have := (h.i a ha).2 k e
    have := (hq.1.lt k e').1
    omega
  · exact css.own_sub (kp _ _ _ _ hA.l (by omega)) (Nat.le_refl _) s1
  · intro p hp
    rw [List.mem_append, List.mem_singleton] at hp
    rcases hp with hp | rfl
    · exact h.a p hp
    · intro k e e'
      have := h.l.2 k e'
      have := (hq.1.lt k e).1
      omega
/-- one number more -/
theorem Two.num {w wr w1 : World} {v u : Value} {D : List (Value × List Int)} {N : List Int} {y : Int} {g cap : Nat} {o : Obj} (h : Two w wr v u D N)
    (h1 : w1.ownsRow w.heap.size 3 1 (.slice (some ⟨g, 0, none⟩) (N.length + 1) cap) (N.length + 1) (ints (N ++ [y]))) (g1 : (wr.alloc o).grownBy w1 u.ownBlock) (hn : u.ownBlock = some g ∨ g = wr.heap.size + 1) :
    Two w w1 v (.slice (some ⟨g, 0, none⟩) (N.length + 1) cap) D (N ++ [y]) := by
  have gA := World.grownBy_alloc wr o none
  have hA := h.kept gA
  have s1 := g1.size
  have sA : (wr.alloc o).heap.size = wr.heap.size + 1 := by simp only [World.size_alloc]
  have sg := hA.g.size
  have ap : ∀ q ∈ D, Apart q ((.slice (some ⟨g, 0, none⟩) (N.length + 1) cap : Value), N ++ [y]) := by
    intro q hq k e e'
    cases e'
    rcases hn with e2 | e2
    · exact h.a q hq g e e2
    · have := (h.i q hq).2 g e
      omega
  refine ⟨?_, ?_, ?_, h.p, ?_, ap⟩
  · exact ⟨g1.os.trans hA.g.os, g1.tape.trans hA.g.tape, g1.output.trans hA.g.output, Nat.le_trans sg s1, fun k hk _ => by
      rw [by_refl g1 (by omega) (fun e => by have := (hA.l.1.lt k e).1; omega)]
      exact hA.g.block k hk (fun e => by cases e)⟩
  · exact own_at hA.o (fun k e => by_refl g1 ((hA.o.lt k e).2) (fun e' => own_ne hA.o hA.l.1 k e' e))
  · intro p hp
    exact css.own_sub ⟨own_at (hA.i p hp).1 (fun k e => by_refl g1 ((hA.i p hp).2 k e) (fun e' => h.a p hp k e e')), (hA.i p hp).2⟩ (Nat.le_refl _) s1
  · refine ⟨?_, fun k e => (h1.lt k e).2⟩
    rw [List.length_append]
    exact h1
theorem Two.form {w wr : World} {v u : Value} {D : List (Value × List Int)} {N : List Int} (h : Two w wr v u D N) : (∃ a c, v = .slice a D.length c) ∧ ∃ a c, u = .slice a N.length c := by
  constructor
  · rcases h.o.2 with ⟨e, e0⟩ | ⟨g, cap, cur, e, _⟩
    · exact ⟨none, 0, by rw [e0]; exact e⟩
    · exact ⟨_, _, e⟩
  · obtain ⟨a, c, e, _⟩ := h.l.sl
    exact ⟨a, c, e⟩
theorem Two.done {w wr w1 : World} {v u : Value} {D : List (Value × List Int)} {N : List Int} {g cap : Nat} (h : Two w wr v u D N)
    (h1 : w1.ownsRow w.heap.size 24 1 (.slice (some ⟨g, 0, none⟩) (D.length + 1) cap) (D.length + 1) (D.map (·.1) ++ [u])) (g1 : (wr.alloc (.cells #[u] 24)).grownBy w1 v.ownBlock) :
    OwnS w.heap.size w1.heap.size w1 (.slice (some ⟨g, 0, none⟩) (D.length + 1) cap) (D.map (·.2) ++ [N]) ∧ w.grownBy w1 none := by
  have gA := World.grownBy_alloc wr (.cells #[u] 24) none
  have hA := h.kept gA
  have s1 := g1.size
  have sA : (wr.alloc (.cells #[u] 24)).heap.size = wr.heap.size + 1 := by simp only [World.size_alloc]
  have sg := hA.g.size
  have kp : ∀ (p : Value) (M : List Int) (lo hi : Nat), Own lo hi (wr.alloc (.cells #[u] 24)) p M → hi ≤ wr.heap.size + 1 → Own lo hi w1 p M := fun p M lo hi hp hh => ⟨own_at hp.1 (fun k e => by_refl g1 (by have := hp.2 k e; omega) (fun e' => own_ne hA.o hp.1 k e e')), hp.2⟩
  refine ⟨⟨D ++ [(u, N)], by simp, ?_, fun k e => (h1.lt k e).2, ?_, ?_⟩, ?_⟩
  · rw [List.length_append, List.map_append]
    exact h1
  · intro p hp
    rw [List.mem_append, List.mem_singleton] at hp
    rcases hp with hp | rfl
    · exact css.own_sub (kp _ _ _ _ (hA.i p hp) (by omega)) (Nat.le_refl _) s1
    · exact css.own_sub (kp _ _ _ _ hA.l (by omega)) (Nat.le_refl _) s1
  · rw [List.pairwise_append]
    refine ⟨h.p, List.pairwise_singleton _ _, fun a ha b hb => ?_⟩
    rw [List.mem_singleton] at hb
    subst hb
    exact h.a a ha
  · exact ⟨g1.os.trans hA.g.os, g1.tape.trans hA.g.tape, g1.output.trans hA.g.output, Nat.le_trans sg s1, fun k hk _ => by
      rw [by_refl g1 (by omega) (fun e => by have := (hA.o.lt k e).1; omega)]
      exact hA.g.block k hk (fun e => by cases e)⟩
theorem Two.start (w : World) (x : Int) : Two w ((w.alloc (.cells #[] 24)).alloc (.cells #[.int .i64 x] 3)) (.slice (some ⟨w.heap.size, 0, none⟩) 0 0) (.slice (some ⟨w.heap.size + 1, 0, none⟩) 1 1) [] [x] := by
  have g0 := World.grownBy_alloc w (.cells #[] 24) none
  have g1 := World.grownBy_alloc (w.alloc (.cells #[] 24)) (.cells #[.int .i64 x] 3) none
  have o1 := own_litN (w.alloc (.cells #[] 24)) 1 [x] #[.int .i64 x] rfl rfl (by decide)
  have s1 : ((w.alloc (.cells #[] 24)).alloc (.cells #[.int .i64 x] 3)).heap.size = w.heap.size + 1 + 1 := by simp only [World.size_alloc]
  rw [World.size_alloc] at o1
  refine ⟨grown_trans g0 g1, ?_, (fun p hp => by cases hp), .nil, css.own_sub o1 (by omega) (by omega), (fun p hp => by cases hp)⟩
  exact own_at (World.ownsRow_lit w #[] 0 (Nat.le_refl _) (Nat.zero_le _) rfl) (fun k e => g1.block k (by cases e; rw [World.size_alloc]; exact Nat.lt_succ_self _) (fun e => by cases e))
def AndS (w wr : World) (v u : Value) (M : List (List Int)) (N : List Int) : Prop := ∃ D : List (Value × List Int), D.map (·.2) = M ∧ Two w wr v u D N
theorem neg_step (L : List Int) (k : Nat) (h : k < L.length) : negL (L.take (k + 1)) = negL (L.take k) ++ [-(L.getD k 0)] := sp.neg_snoc L k h
set_option maxRecDepth 10000 in
set_option maxHeartbeats 4000000 in
theorem specAndGate (x : Int) (u : Value) (L : List Int) (w : World) (hL : L.length ≤ 1048576) (hu : Sl w u L) :
    Calls Try.prog 33 #[.int .i64 x, u] w fun e w' => AnsE w (okB x && listB L) (andC (-x) x L) e w' := by
  have g0 := World.grownBy_alloc w (.cells #[] 24) none
  have hu0 := hu.kept g0 (.inl rfl)
  have cx := lits.specLitOk x
  have cl := l13List u L _ hL hu0
  have HU := hide (fun (wr : World) (g : w.grownBy wr none) => hu.kept g (.inl rfl))
  obtain ⟨ua, uc, rfl, _⟩ := hu
  cases hx : okB x
  · rw [hx] at cx
    have CX := hide cx
    clear cx cl hx hu0 g0
    go_enter Try.func33, Try.ntmps33
    go_wp2_with fail
    refine (unhide CX _).mono ?_; rintro e w' ⟨rfl, hw⟩; have hw' := hw.symm; clear hw; subst hw'
    go_wp2_with fail
    go_ret2
    exact ans_no (grown_refl _)
  rw [hx] at cx
  cases hl : listB L
  · rw [hl] at cl
    have CX := hide cx
    have CL := hide cl
    clear cx cl hx hl hu0 g0
    go_enter Try.func33, Try.ntmps33
    go_wp2_with fail
    refine (unhide CX _).mono ?_; rintro e w' ⟨rfl, hw⟩; have hw' := hw.symm; clear hw; subst hw'
    go_wp2_with fail
    refine (unhide CL).mono ?_; rintro e w' ⟨rfl, hw⟩; have hw' := hw.symm; clear hw; subst hw'
    go_wp2_with fail
    go_ret2
    exact ans_no (grown_refl _)
  rw [hl] at cl
  obtain ⟨h24, hok⟩ := list_ok hl
  obtain ⟨x0, x1⟩ := ok_bd hx
  have CX := hide cx
  have CL := hide cl
  have HC := hide hok
  have ST : Hid (AndS w ((w.alloc (.cells #[] 24)).alloc (.cells #[.int .i64 x] 3)) (.slice (some ⟨w.heap.size, 0, none⟩) 0 0) (.slice (some ⟨w.heap.size + 1, 0, none⟩) 1 1) (andP (-x) (L.take 0)) (x :: negL (L.take 0))) := ⟨[], rfl, Two.start w x⟩
  clear cx cl hx hl hok hu0 g0
  go_enter Try.func33, Try.ntmps33
  go_wp2_with fail
  refine (unhide CX _).mono ?_; rintro e w' ⟨rfl, hw⟩; have hw' := hw.symm; clear hw; subst hw'
  go_wp2_with fail
  refine (unhide CL).mono ?_; rintro e w' ⟨rfl, hw⟩; have hw' := hw.symm; clear hw; subst hw'
  clear CX CL
  go_wp2_with fail
  go_loopw [6, 7, 8] (fun v q i wr => ∃ k : Nat, k ≤ L.length ∧ i = .int .i64 k ∧ Hid (AndS w wr v q (andP (-x) (L.take k)) (x :: negL (L.take k)))) (fun _ _ i _ => L.length - (intOf i).toNat)
  case atStart => exact ⟨0, Nat.zero_le _, rfl, ST⟩
  case round =>
    obtain ⟨k, hk, rfl, hm⟩ := hrel
    clear ST
    by_cases hlt : k < L.length
    · obtain ⟨D, hD, T⟩ := unhide hm
      have lD : D.length ≤ 1048576 := by
        have := congrArg List.length hD
        simp only [andP, List.length_map, List.length_take] at this
        omega
      have lN : (x :: negL (L.take k)).length ≤ 1048576 := by
        simp only [negL, List.length_cons, List.length_map, List.length_take]
        omega
      obtain ⟨a', cap', e', ha'⟩ := unhide HU wr T.g
      cases e'
      rcases ha' with h | ⟨b, off, rfl, hb, hcb⟩
      · rw [h] at hlt
        simp at hlt
      have c1 := hcb k hlt
      have HC2 := hide (fun (w1 : World) (g : w.grownBy w1 none) => (unhide HU w1 g))
      have hi' : (k : Int) < (L.length : Int) := by omega
      have bd := ok_bd (unhide HC (L.getD k 0) (by rw [show L.getD k 0 = L[k] by simp [hlt]]; exact List.getElem_mem hlt))
      have cell2 : Hid (∀ w1 : World, w.grownBy w1 none → w1.cell? ⟨b, off + k, none⟩ = some (.int .i64 (L.getD k 0))) := by
        intro w1 g
        obtain ⟨a2, cap2, e2, h2⟩ := unhide HU w1 g
        cases e2
        rcases h2 with h | ⟨b2, off2, e3, _, hc2⟩
        · rw [h] at hlt
          simp at hlt
        · cases e3
          exact hc2 k hlt
      have e1 : Hid (andP (-x) (L.take (k + 1)) = D.map (·.2) ++ [[-x, L.getD k 0]]) := by
        rw [hD]
        exact andP_step (-x) L k hlt
      have e2 : Hid (x :: negL (L.take (k + 1)) = (x :: negL (L.take k)) ++ [-(L.getD k 0)]) := by
        show _ = _
        rw [neg_step L k hlt]
        rfl
      generalize L.getD k 0 = y at *
      generalize x :: negL (L.take k) = N at *
      obtain ⟨⟨va, vc, rfl⟩, qa, qc, rfl⟩ := T.form
      obtain ⟨y0, y1⟩ := bd
      have TT := hide T
      have O1 := hide (T.o.alloc (.cells #[.int .i64 (-x), .int .i64 y] 3))
      have hlo : w.heap.size ≤ (wr.alloc (.cells #[.int .i64 (-x), .int .i64 y] 3)).heap.size := by rw [World.size_alloc]; have := T.g.size; omega
      have HLO := hide hlo
      clear T hcb HU hm hD HC HC2 hlo
      go_wp2_with (at_builtin; refine appendD (D := D) (unhide O1) rfl (unhide HLO) lD rfl _ _ rfl rfl (by rw [World.size_alloc]; rfl) ?_)
      intro g2 cap2 w1 h1 g1
      have T1 := (unhide TT).clause (own_litN wr 2 [-x, y] #[.int .i64 (-x), .int .i64 y] rfl rfl (by decide)) h1 g1
      have c2 := unhide cell2 w1 T1.g
      have TT1 := hide T1
      have hlo := hide T1.g.size
      clear h1 g1 T1 TT O1 HLO cell2 c1
      go_wp2_with (at_builtin; refine appendL (unhide TT1).l.1 (unhide hlo) lN rfl _ _ rfl rfl rfl ?_)
      intro g3 cap3 w2 h2 g2' n2
      have T2 : Hid (AndS w w2 (.slice (some ⟨g2, 0, none⟩) (D.length + 1) cap2) (.slice (some ⟨g3, 0, none⟩) (N.length + 1) cap3) (andP (-x) (L.take (k + 1))) (x :: negL (L.take (k + 1)))) := by
        refine ⟨D ++ [(.slice (some ⟨wr.heap.size, 0, none⟩) 2 2, [-x, y])], by rw [unhide e1]; simp, ?_⟩
        rw [unhide e2]
        exact (unhide TT1).num h2 g2' n2
      clear h2 g2' n2 TT1 hlo e1 e2
      go_wp2
      go_roundw
      case rel => exact ⟨k + 1, by omega, by go_num, T2⟩
      case measure => simp [intOf]; omega
    · have hi' : ¬ (k : Int) < (L.length : Int) := by omega
      have e : L.take k = L := List.take_of_length_le (by omega)
      rw [e] at hm
      obtain ⟨D, hD, T⟩ := unhide hm
      have lD : D.length ≤ 1048576 := by
        have := congrArg List.length hD
        simp only [andP, List.length_map] at this
        omega
      have e1 : Hid (andC (-x) x L = D.map (·.2) ++ [x :: negL L]) := by
        rw [hD]
        rfl
      generalize x :: negL L = N at *
      obtain ⟨⟨va, vc, rfl⟩, qa, qc, rfl⟩ := T.form
      have TT := hide T
      have hlo := hide T.g.size
      clear T hm hD HU HC e
      go_wp2_with (at_builtin; refine appendD (D := D) (unhide TT).o rfl (unhide hlo) lD rfl _ _ rfl rfl rfl ?_)
      intro g2 cap2 w1 h1 g1
      have R := hide ((unhide TT).done h1 g1)
      clear h1 g1 TT hlo
      go_wp2
      go_ret2
      exact ⟨_, rfl, by rw [unhide e1]; exact (unhide R).1, (unhide R).2⟩
theorem bothAndGate (x : Int) (L : List Int) (hL : L.length ≤ 1048576) : ∃ (R : List (List Int)) (bo : Bool), tot R ≤ 1048576 ∧ (∀ w u, Sl w u L → Calls Try.prog 33 #[.int .i64 x, u] w fun e w' => ∃ u, e = .returned (.tuple #[u, .bool bo]) ∧ OwnS w.heap.size w'.heap.size w' u R ∧ w.grownBy w' none)
    ∧ ∀ w u lo hi, Own lo hi w u L → hi ≤ w.heap.size → Calls Try.prog 32 #[.int .i64 x, u] w fun e w' => ∃ u, e = .returned (.tuple #[u, .bool bo]) ∧ OwnS w.heap.size w'.heap.size w' u R ∧ w.grownBy w' none := by
  refine ⟨if (okB x && listB L) then andC (-x) x L else [], (okB x && listB L), ?_, fun w u h => specAndGate x u L w hL h, fun w u lo hi h hh => implAndGate x u L lo hi w hL h hh⟩
  cases h : (okB x && listB L)
  · simp [tot]
  · have hl := (list_ok (Bool.and_eq_true _ _ ▸ h : _ ∧ listB L = true).2).1
    have s2 : ∀ M : List Int, ((andP (-x) M).map List.length).sum = 2 * M.length := by
      intro M
      induction M with
      | nil => rfl
      | cons y M ih =>
        have : andP (-x) (y :: M) = [-x, y] :: andP (-x) M := rfl
        rw [this, List.map_cons, List.sum_cons, ih]
        simp
        omega
    simp only [if_true, tot, andC_len]
    simp only [andC, List.map_append, List.sum_append, s2, List.map_cons, List.map_nil, List.sum_cons, List.sum_nil, List.length_cons, negL, List.length_map]
    omega
end Go.Proofs.Ytmmfhcfanbfniaa.t2
