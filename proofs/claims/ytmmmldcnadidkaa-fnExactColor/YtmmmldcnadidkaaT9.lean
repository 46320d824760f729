/- The builder of stage 13 with the values that hold its clauses: what add does to them; no condition but on sizes. -/
import Derived.Test.YtmmmldcnadidkaaT8
namespace Go.Proofs.Ytmmmldcnadidkaa.t2
open Go.ChangeShapes Go.WideShapes Go.ChangeAt Go.RowKit
open Go.Proofs.Ytmmmldcnadidkaa.sl (Sl Own ints hide unhide ret_int ret_bool grown_refl grown_trans grown_drewN)
open Go.Proofs.Ytmmmldcnadidkaa.css (Sls OwnS tot Apart own_ne own_ne' own_kind own_mono)
open Go.Proofs.Ytmmmldcnadidkaa.cf (Box)
open Go.Proofs.Ytmmmldcnadidkaa.wo (Made)
open Go.Proofs.Ytmmmldcnadidkaa.app (stepI made_nil)
set_option linter.unusedVariables false

/-- lists of one's own, with the values that hold them -/
def OwnE (lo hi : Nat) (w : World) (v : Value) (D : List (Value × List Int)) : Prop :=
  w.ownsRow lo 35 1 v D.length (D.map (·.1)) ∧ (∀ k, v.ownBlock = some k → k < hi) ∧ (∀ p ∈ D, Own lo hi w p.1 p.2) ∧ D.Pairwise Apart
theorem OwnE.of {lo hi : Nat} {w : World} {v : Value} {LL : List (List Int)} (h : OwnS lo hi w v LL) : ∃ D, D.map (·.2) = LL ∧ OwnE lo hi w v D := by
  obtain ⟨D, e, h1, h2, h3, h4⟩ := h
  exact ⟨D, e, h1, h2, h3, h4⟩
theorem OwnE.to {lo hi : Nat} {w : World} {v : Value} {D : List (Value × List Int)} (h : OwnE lo hi w v D) : OwnS lo hi w v (D.map (·.2)) := ⟨D, rfl, h.1, h.2.1, h.2.2.1, h.2.2.2⟩
/-- a builder, with the values that hold its clauses -/
structure BldD (W0 w : World) (p : Nat) (v : Value) (r : Bool) (D : List (Value × List Int)) : Prop where
  lo : W0.heap.size ≤ p
  g : W0.grownBy w none
  b : Box 42 w p v (.bool r)
  o : OwnE W0.heap.size w.heap.size w v D
theorem BldD.bld {W0 w : World} {p : Nat} {v : Value} {r : Bool} {D : List (Value × List Int)} (h : BldD W0 w p v r D) : Bld W0 w p v r (D.map (·.2)) := ⟨h.lo, h.g, h.b, h.o.to⟩
theorem Bld.withD {W0 w : World} {p : Nat} {v : Value} {r : Bool} {CC : List (List Int)} (h : Bld W0 w p v r CC) : ∃ D, D.map (·.2) = CC ∧ BldD W0 w p v r D := by
  obtain ⟨D, e, hD⟩ := OwnE.of h.o
  exact ⟨D, e, h.lo, h.g, h.b, hD⟩
theorem rowk {w w' : World} {lo n : Nat} {t : TypeId} {v : Value} {xs : List Value} (h : w.ownsRow lo t 1 v n xs) (g : w.grownBy w' none) : w'.ownsRow lo t 1 v n xs := h.kept g (by
  cases v.ownBlock with
  | none => exact .inl rfl
  | some k => exact .inr (fun e => by cases e))
theorem OwnE.kept {lo hi : Nat} {w w' : World} {v : Value} {D : List (Value × List Int)} (h : OwnE lo hi w v D) (g : w.grownBy w' none) : OwnE lo hi w' v D :=
  ⟨rowk h.1 g, h.2.1, fun p hp => (h.2.2.1 p hp).kept g, h.2.2.2⟩
theorem OwnE.sub {lo hi hi' : Nat} {w : World} {v : Value} {D : List (Value × List Int)} (h : OwnE lo hi w v D) (a : hi ≤ hi') : OwnE lo hi' w v D :=
  ⟨h.1, fun k e => Nat.lt_of_lt_of_le (h.2.1 k e) a, fun p hp => ⟨(h.2.2.1 p hp).1, fun k e => Nat.lt_of_lt_of_le ((h.2.2.1 p hp).2 k e) a⟩, h.2.2.2⟩
theorem BldD.kept {W0 w w1 : World} {p : Nat} {v : Value} {r : Bool} {D : List (Value × List Int)} (h : BldD W0 w p v r D) (g : w.grownBy w1 none) : BldD W0 w1 p v r D :=
  ⟨h.lo, grown_trans h.g g, h.b.kept g, (h.o.kept g).sub g.size⟩
theorem ownE_set {lo hi : Nat} {w : World} {t' : TypeId} {v : Value} {D : List (Value × List Int)} {c i : Nat} {u x y : Value} (h : OwnE lo hi w v D) (t1 : (t' : Nat) ≠ 35) (t2 : (t' : Nat) ≠ 3) (hb : Box t' w c x y) : OwnE lo hi (w.setCell ⟨c, i, none⟩ u) v D :=
  ⟨own_set h.1 t1 hb, h.2.1, fun p hp => ⟨own_set (h.2.2.1 p hp).1 t2 hb, (h.2.2.1 p hp).2⟩, h.2.2.2⟩
theorem BldD.flag {W0 w : World} {p : Nat} {v : Value} {r : Bool} {D : List (Value × List Int)} (h : BldD W0 w p v r D) (r' : Bool) : BldD W0 (w.setCell ⟨p, 1, none⟩ (.bool r')) p v r' D :=
  ⟨h.lo, cf.grown_set h.g h.lo, h.b.set1 _, by rw [cf.size_set]; exact ownE_set h.o tyB.1 tyB.2 h.b⟩
/-- a write into a block that is none of the builder's -/
theorem BldD.other {W0 w : World} {p c i : Nat} {v u : Value} {r : Bool} {D : List (Value × List Int)} (h : BldD W0 w p v r D) (hc : W0.heap.size ≤ c) (h1 : c ≠ p) (h2 : v.ownBlock ≠ some c) (h3 : ∀ q ∈ D, q.1.ownBlock ≠ some c) : BldD W0 (w.setCell ⟨c, i, none⟩ u) p v r D := by
  refine ⟨h.lo, cf.grown_set h.g hc, h.b.setO h1, ?_⟩
  rw [cf.size_set]
  obtain ⟨o1, o2, o3, o4⟩ := h.o
  refine ⟨own_at o1 (fun k e => set_other (fun e' => h2 (e' ▸ e))), o2, fun q hq => ⟨own_at (o3 q hq).1 (fun k e => set_other (fun e' => h3 q hq (e' ▸ e))), (o3 q hq).2⟩, o4⟩
theorem growD {lo mid : Nat} {wr w1 : World} {v v' u : Value} {D : List (Value × List Int)} {L : List Int} {o : Obj} (ho : wr.ownsRow lo 35 1 v D.length (D.map (·.1))) (hin : ∀ p ∈ D, Own lo mid wr p.1 p.2) (hp : D.Pairwise Apart)
    (hu : Own mid wr.heap.size wr u L) (hlo : lo ≤ mid) (hmid : mid ≤ wr.heap.size) (h1 : w1.ownsRow lo 35 1 v' (D.length + 1) (D.map (·.1) ++ [u])) (hg : (wr.alloc o).grownBy w1 v.ownBlock) :
    OwnE lo w1.heap.size w1 v' (D ++ [(u, L)]) := by
  have sz := hg.size
  simp only [World.size_alloc] at sz
  have hoA := ho.alloc o
  have kp : ∀ (p : Value) (n : Nat) (xs : List Value), wr.ownsRow lo 3 1 p n xs → w1.ownsRow lo 3 1 p n xs := fun p n xs h => (h.alloc o).kept hg (own_ne' hoA (h.alloc o))
  refine ⟨?_, fun k e => (h1.lt k e).2, ?_, ?_⟩
  · have e1 : (D ++ [(u, L)]).length = D.length + 1 := by simp
    have e2 : (D ++ [(u, L)]).map (fun p : Value × List Int => p.1) = D.map (fun p : Value × List Int => p.1) ++ [u] := by simp
    rw [e1, e2]
    exact h1
  · intro p hp'
    rw [List.mem_append, List.mem_singleton] at hp'
    rcases hp' with hp' | rfl
    · exact ⟨kp _ _ _ (hin p hp').1, fun k e => by have := (hin p hp').2 k e; omega⟩
    · exact ⟨kp _ _ _ (own_mono hu.1 hlo), fun k e => by have := hu.2 k e; omega⟩
  · rw [List.pairwise_append]
    refine ⟨hp, List.pairwise_singleton _ _, fun a ha b hb => ?_⟩
    rw [List.mem_singleton] at hb
    subst hb
    intro k e e'
    have h1 := (hin a ha).2 k e
    have h2 := (hu.1.lt k e').1
    omega
/-- 'append(clauses, c)', as stepN, with the values -/
theorem stepM {ops : Array Oper} {o : Oper} {a : Act} {K : Act → World → Prop} {Q : Exit → Act → World → Prop} {E : Prop} {lo mid : Nat} {wr : World} {v u : Value} {D : List (Value × List Int)} {L : List Int}
    (h : OwnE lo mid wr v D) (hu : Own mid wr.heap.size wr u L) (hlo : lo ≤ mid) (hmid : mid ≤ wr.heap.size) (hM : D.length ≤ 1048576) (hgd : o.guard = none) (s x : Operand)
    (ho : o.op = .call { callee := .builtin .append, args := #[s, x], argTypes := #[24, 24] }) (hs : a.eval s = v) (hx : a.eval x = .slice (some ⟨wr.heap.size, 0, none⟩) 1 1)
    (hK : ∀ g cap w1, OwnE lo w1.heap.size w1 (.slice (some ⟨g, 0, none⟩) (D.length + 1) cap) (D ++ [(u, L)]) → (wr.alloc (.cells #[u] 35)).grownBy w1 v.ownBlock → (v.ownBlock = some g ∨ wr.heap.size ≤ g) → K (a.put o.dst (.slice (some ⟨g, 0, none⟩) (D.length + 1) cap)) w1) :
    if Region.wanted o (yielded ops a.tmps) = true then Oper.wp Try.prog o a (wr.alloc (.cells #[u] 35)) K Q else E := by
  obtain ⟨i0, hi, hz0, hz1, hz2⟩ := info_parts css.infoSl
  obtain ⟨hw, hb, hin, hp⟩ := h
  refine step_append_lies _ hgd s x 24 ho lo 35 i0 (.slice none 0 0) 1 24 Try.underlying24 hi hz0 hz1 hz2 rfl (by decide) v D.length (D.map (·.1)) hs (hw.alloc _) ⟨wr.heap.size, 0, none⟩ 1 1 [u] hx rfl ?_ ?_ (by decide) ?_ ?_ ?_ (wr.heap.size + 1) (World.size_alloc ..) ?_
  · intro j y hj
    match j, hj with
    | 0, hj => simp at hj; subst hj; simp [Addr.add]
  · intro y hy
    simp at hy
    subst hy
    exact gr.own_one hu
  · unfold maxLen; omega
  · omega
  · simp; omega
  · intro g cap w1 h1 hg hn _
    exact hK g cap w1 (growD hw hin hp hu hlo hmid h1 hg) hg (by rcases hn with e | e; exact .inl e; exact .inr (by omega))
theorem BldD.put {W0 wr w2 w1 : World} {p g cap' : Nat} {v u : Value} {D : List (Value × List Int)} {L : List Int} (h : BldD W0 wr p v false D) (g2 : wr.grownBy w2 none)
    (h1 : OwnE W0.heap.size w1.heap.size w1 (.slice (some ⟨g, 0, none⟩) (D.length + 1) cap') (D ++ [(u, L)])) (g1 : (w2.alloc (.cells #[u] 35)).grownBy w1 v.ownBlock) (hn : v.ownBlock = some g ∨ w2.heap.size ≤ g) :
    (w1.cell? ⟨p, 0, none⟩ = some v ∧ w1.frozen? ⟨p, 0, none⟩ = false ∧ w1.cell? ⟨p, 1, none⟩ = some (.bool false)) ∧ BldD W0 (w1.setCell ⟨p, 0, none⟩ (.slice (some ⟨g, 0, none⟩) (D.length + 1) cap')) p (.slice (some ⟨g, 0, none⟩) (D.length + 1) cap') false (D ++ [(u, L)])
      ∧ Fr p v (.slice (some ⟨g, 0, none⟩) (D.length + 1) cap') wr (w1.setCell ⟨p, 0, none⟩ (.slice (some ⟨g, 0, none⟩) (D.length + 1) cap')) := by
  have hl : (D.map (·.2)).length = D.length := List.length_map _
  have B := Bld.put (L := L) (cap' := cap') h.bld g2 (by rw [hl]; have := h1.to; rw [List.map_append] at this; exact this) g1 hn
  rw [hl] at B
  obtain ⟨b1, b2, b3⟩ := B
  have hb1 : Box 42 w1 p v (.bool false) := by
    have gA := grown_trans (r := none) g2 (World.grownBy_alloc w2 (.cells #[u] 35) none)
    exact (h.kept gA).b.by g1 (box_ne (h.kept gA).o.1 tyB.1 (h.kept gA).b)
  exact ⟨b1, ⟨b2.lo, b2.g, b2.b, by rw [cf.size_set]; exact ownE_set h1 tyB.1 tyB.2 hb1⟩, b3⟩
/-- what add does, with the values -/
def AddD (W0 : World) (p : Nat) (v : Value) (r : Bool) (D : List (Value × List Int)) (C : List Int) (w : World) (e : Ending) (w' : World) : Prop :=
  e = .returned (.bool (!addR r (D.map (·.2)))) ∧ ∃ v' D', D'.map (·.2) = addC r (D.map (·.2)) C ∧ BldD W0 w' p v' (addR r (D.map (·.2))) D' ∧ Fr p v v' w w' ∧ (D' = D ∨ ∃ u, D' = D ++ [(u, C)] ∧ ∀ k, u.ownBlock = some k → w.heap.size ≤ k)
theorem addR_yes {D : List (Value × List Int)} (h : D.length = 120) : addR false (D.map (·.2)) = true := by simp [addR, h]
theorem addR_no {D : List (Value × List Int)} (h : D.length ≠ 120) : addR false (D.map (·.2)) = false := by simp [addR, h]
theorem addC_no {r : Bool} {CC : List (List Int)} {C : List Int} (h : addR r CC = true) : addC r CC C = CC := by simp [addC, h]
theorem addC_yes {r : Bool} {CC : List (List Int)} {C : List Int} (h : addR r CC = false) : addC r CC C = CC ++ [C] := by simp [addC, h]

set_option maxRecDepth 10000 in
set_option maxHeartbeats 4000000 in
theorem addD (p : Nat) (v u : Value) (r : Bool) (D : List (Value × List Int)) (C : List Int) (lo hi : Nat) (W0 w : World) (hC : C.length ≤ 1048576) (hL : D.length ≤ 120) (hb : BldD W0 w p v r D) (hu : Own lo hi w u C) :
    Calls Try.prog 31 #[.pointer (some ⟨p, 0, none⟩), u] w fun e w' => AddD W0 p v r D C w e w' := by
  obtain ⟨a, cap, ev⟩ := hb.bld.o.len
  rw [List.length_map] at ev
  subst ev
  have c0 := hb.b.c0
  have c1 := hb.b.c1
  have f1 := hb.b.f 1
  have HB := hide hb
  cases r
  · by_cases hl : D.length = 120
    · have R := hide (And.intro (addR_yes hl) (addC_no (C := C) (addR_yes hl)))
      have hl' : ((D.length : Int) == 120) = true := by simp; omega
      clear hb hu hl
      go_enter Try.func31, Try.ntmps31
      go_wp2
      go_ret
      refine ⟨ret_bool (by rw [(unhide R).1]; rfl), _, D, (unhide R).2.symm, ?_, Fr.flag _, .inl rfl⟩
      rw [(unhide R).1]
      exact (unhide HB).flag true
    · have R := hide (And.intro (addR_no hl) (addC_yes (C := C) (addR_no hl)))
      have hl' : ((D.length : Int) == 120) = false := by simp; omega
      obtain ⟨W1, hW1⟩ : ∃ W1, W1 = w.setCell ⟨p, 1, none⟩ (.bool false) := ⟨_, rfl⟩
      have B1 : BldD W0 W1 p (.slice a D.length cap) false D := by rw [hW1]; exact hb.flag false
      have F1 : Fr p (.slice a D.length cap) (.slice a D.length cap) w W1 := by rw [hW1]; exact Fr.flag _
      have SZ : Hid (W1.heap.size = w.heap.size) := by show _ = _; rw [hW1]; exact cf.size_set ..
      obtain ⟨ua, uc, rfl, _⟩ := hu.sl
      have U1 : Own lo hi W1 (.slice ua C.length uc) C := by
        rw [hW1]
        exact ⟨own_set hu.1 tyB.2 hb.b, hu.2⟩
      have mn := made_nil W1
      have U0 := hide ((U1.kept mn.2).kept (cf.grown_drew _ none))
      have MN := hide (And.intro (mn.1.drew) (grown_trans (r := none) mn.2 (cf.grown_drew _ none)))
      have k0 := B1.b.c0
      have k01 := B1.b.c1
      have kf0 := B1.b.f 0
      have k1 := (B1.b.kept mn.2).c0
      have Q := hide B1
      have F1' := hide F1
      have hM : D.length ≤ 1048576 := by omega
      clear hb hu hl B1 F1 U1 mn hL
      go_enter Try.func31, Try.ntmps31
      go_upto_region 3 with fail
      rw [← hW1]
      clear hW1 c0 c1 f1 HB hl'
      go_wp2_with fail
      go_region_law
        (first
          | (refine stepI (A := []) (unhide MN).2 (unhide MN).1 (unhide U0) (by show 0 + C.length ≤ 4194304; omega) (by rfl) _ _ (by rfl) (by rfl) (by rfl) ?_; intro y w1 m1 g1; have m1' : Made W1 w1 y C := m1; obtain ⟨ya, yc, e3, _⟩ := sl.Sl.of_own m1'.1; subst e3; have Y1 := hide (Own.of m1'.1); have G1 := hide m1'.2; have k1 := ((unhide Q).b.kept (unhide G1)).c0; have k2 := ((unhide Q).b.kept (unhide G1)).f 0; have k9 := (((unhide Q).b.kept (unhide G1)).kept (World.grownBy_alloc w1 (.cells #[.slice ya C.length yc] 35) none)).c0; clear m1 m1' g1)
          | (refine stepM ((unhide Q).o.kept (unhide G1)) (unhide Y1) (unhide Q).g.size (unhide G1).size hM (by rfl) _ _ (by rfl) (by rfl) (by rfl) ?_; intro g3 cap3 w3 h3 g3' n3; have R3 := hide ((unhide Q).put (unhide G1) h3 g3' n3); have k3 := (unhide R3).1.1; have k4 := (unhide R3).1.2.1; have k5 := (unhide R3).1.2.2; clear h3 g3' n3))
      all_goals
        go_wp2_with fail
        go_ret
        refine ⟨ret_bool (by rw [(unhide R).1]; rfl), _, D ++ [(.slice ya C.length yc, C)], ?_, ?_, (unhide F1').trans (unhide R3).2.2, .inr ⟨.slice ya C.length yc, rfl, fun k e => ?_⟩⟩
        · rw [(unhide R).2, List.map_append]
          rfl
        · rw [(unhide R).1]
          exact (unhide R3).2.1
        · have h1 := ((unhide Y1).1.lt k e).1
          have h2 := unhide SZ
          omega
  · have e1 : addR true (D.map (·.2)) = true := by simp [addR]
    have R := hide (And.intro e1 (addC_no (C := C) e1))
    clear hb hu e1
    go_enter Try.func31, Try.ntmps31
    go_wp2
    go_ret
    refine ⟨ret_bool (by rw [(unhide R).1]; rfl), _, D, (unhide R).2.symm, ?_, Fr.flag _, .inl rfl⟩
    rw [(unhide R).1]
    exact (unhide HB).flag true
end Go.Proofs.Ytmmmldcnadidkaa.t2
