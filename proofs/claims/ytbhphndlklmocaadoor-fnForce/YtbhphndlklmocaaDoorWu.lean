/- What unit of the program's watcher answers and does; no condition but on the words, the literals and the sizes. -/
import Derived.Test.YtbhphndlklmocaaDoorWt
import Derived.ArgAppend
namespace Go.Proofs.YtbhphndlklmocaaDoor.wm
open Go.ChangeShapes Go.WideShapes Go.ChangeAt Go.RowKit
open Go.Proofs.YtbhphndlklmocaaDoor.lits (okB okB_iff)
open Go.Proofs.YtbhphndlklmocaaDoor.bset (placeN placeN_le placeC)
open Go.Proofs.YtbhphndlklmocaaDoor.srt (Tab woN woN_lt fstI oppN oppN_lt andN andN_lt orN_eq or_lt)
open Go.Proofs.YtbhphndlklmocaaDoor.sl (Sl Own ints hide unhide ret_int ret_bool grown_refl grown_trans grown_drewN)
set_option linter.unusedVariables false

/-- one number more where there is room -/
theorem roomW {ops : Array Oper} {rest : List Oper} {o : Oper} {a : Act} {Q : Exit → Act → World → Prop} {wr : World} {g m cap b : Nat} {y : Int}
    (hb : wr.cell? ⟨b, 0, none⟩ = some (.int .i64 y)) (hroom : m + 1 ≤ cap) (hso : (wr.cell? ⟨g, m, none⟩).isSome = true) (hf : wr.frozen? ⟨g, m, none⟩ = false) (hgd : o.guard = none) (s x : Operand)
    (ho : o.op = .call { callee := .builtin .append, args := #[s, x], argTypes := #[32, 32] }) (hs : a.eval s = .slice (some ⟨g, 0, none⟩) m cap) (hx : a.eval x = .slice (some ⟨b, 0, none⟩) 1 1)
    (hK : wpList Tryd.prog ops Q rest (a.put o.dst (.slice (some ⟨g, 0, none⟩) (m + 1) cap)) (wr.setCell ⟨g, m, none⟩ (.int .i64 y))) :
    wpList Tryd.prog ops Q (o :: rest) a wr := by
  obtain ⟨i0, hi, hz0, hz1, hz2⟩ := info_parts sl.info3
  refine wpList_plain hgd fun K hK' => ?_
  have hrun := run_append_room_cells (P := Tryd.prog) wr 32 o.type 3 i0 Tryd.underlying32 hi g 0 m cap ⟨b, 0, none⟩ 1 1 [.int .i64 y] (by rw [hz1]; rfl) (by
    intro j u hj
    match j, hj with
    | 0, hj => simp at hj; subst hj; simpa [Addr.add] using hb) (by
    intro u hu
    simp at hu
    subst hu
    rfl) hroom (by
    intro j hj
    have : j = 0 := by simpa using hj
    subst this
    rw [hz1]
    simpa using hso) (by
    intro j hj
    have : j = 0 := by simpa using hj
    subst this
    rw [hz1]
    simpa using hf)
  unfold Oper.wp
  simp [execOp, ho, resolve, invoke, builtin, hs, hx, hrun, Result.andThen]
  refine hK' _ _ ?_
  rw [hz1, Nat.mul_one]
  exact hK
/-- what waits is written in its own row -/
theorem Wat.row0 {w w0 : World} {c g n cap k : Nat} {s : WS} {C C' : List Int} {u : Value} (h : Wat w c s) (e : s.A.getD 0 nil_ = (.slice (some ⟨g, 0, none⟩) n cap, C)) (g0 : w.grownBy w0 none) (hn : C.length = n) (hC : C'.length = n) (hset : (ints C).set k u = ints C') :
    Wat (w0.setCell ⟨g, k, none⟩ u) c { s with A := s.A.set 0 (.slice (some ⟨g, 0, none⟩) n cap, C') } ∧ Stp c s { s with A := s.A.set 0 (.slice (some ⟨g, 0, none⟩) n cap, C') } w (w0.setCell ⟨g, k, none⟩ u) := by
  have hjl : 0 < s.A.length := by rw [h.len]; decide
  have h0 := h.kept g0
  have hown := h0.ls _ (mem_getD hjl)
  have hnc := row_nec hown h0.blk types2
  rw [e] at hown hnc
  have gg := sl.grown_setCell w0 g k u
  have hgc : g ≠ c := by
    rcases hnc with q | q
    · cases q
    · intro e'; subst e'; exact q rfl
  have hown' : w0.ownsRow 0 3 1 (.slice (some ⟨g, 0, none⟩) n cap) n (ints C) := by rw [← hn] at hown ⊢; exact hown
  have hst := (hown'.stored k u).1
  rw [hset] at hst
  have hob : (s.A.getD 0 nil_).1.ownBlock = some g := by rw [e]; rfl
  refine ⟨⟨?_, by rw [List.length_set]; exact h.len, ?_, ?_, ?_⟩, ⟨gg.os.trans g0.os, gg.tape.trans g0.tape, gg.output.trans g0.output, Nat.le_trans g0.size gg.size, ?_, ?_⟩⟩
  · have ec : ({ s with A := s.A.set 0 (.slice (some ⟨g, 0, none⟩) n cap, C') } : WS).cells = s.cells := by
      unfold WS.cells
      apply List.map_congr_left
      intro q _
      have ea : ∀ q, ((s.A.set 0 (Value.slice (some ⟨g, 0, none⟩) n cap, C')).getD q nil_).1 = (s.A.getD q nil_).1 := by
        intro q
        by_cases hq : q = 0
        · subst hq
          rw [e]
          simp [hjl]
        · rw [List.getD, List.getElem?_set_ne (fun e => hq e.symm)]
          rfl
      unfold WS.at
      simp only [ea]
    rw [ec, gg.block c h0.lt (fun e => hgc (by cases e; rfl))]
    exact h0.blk
  · exact h0.cl.kept gg (by
      rcases row_ne h0.cl (h0.ls _ (mem_getD hjl)) types3 with q | q
      · exact .inl q
      · rw [hob] at q
        exact .inr q)
  · intro p hp
    obtain ⟨i, hi, rfl⟩ := List.mem_iff_getElem.1 hp
    rw [List.length_set] at hi
    rw [List.getElem_set]
    by_cases e0 : 0 = i
    · rw [if_pos e0]
      show (w0.setCell ⟨g, k, none⟩ u).ownsRow 0 3 1 (.slice (some ⟨g, 0, none⟩) n cap) C'.length (ints C')
      rw [hC]
      exact hst
    · rw [if_neg e0]
      have hr := h0.ls _ (mem_getD hi)
      have ha := apart_of h.ap hi hjl (fun q => e0 q.symm)
      rw [show s.A.getD i nil_ = s.A[i] by simp [hi]] at hr ha
      exact hr.kept gg (by
        cases q : (s.A[i]).1.ownBlock with
        | none => exact .inl rfl
        | some g' => exact .inr (fun e => ha g' q (by rw [hob]; exact e.symm)))
  · rw [List.pairwise_iff_getElem]
    intro a b ha hb hab
    rw [List.length_set] at ha hb
    have key := List.pairwise_iff_getElem.1 h.ap a b ha hb hab
    rw [List.getElem_set, List.getElem_set, if_neg (show ¬ 0 = b by omega)]
    by_cases e0 : 0 = a
    · subst e0
      rw [if_pos rfl]
      intro g' q1 q2
      have : s.A[0] = s.A.getD 0 nil_ := by simp [hjl]
      exact key g' (by rw [this, e]; exact q1) q2
    · rw [if_neg e0]
      exact key
  · intro k' hk' hn'
    rw [gg.block k' (Nat.lt_of_lt_of_le hk' g0.size) (fun e => hn' (.inr (.inr ⟨_, mem_getD hjl, by rw [hob]; exact e.symm⟩)))]
    exact g0.block k' hk' (fun e => by cases e)
  · intro k' f
    refine .inl ?_
    rcases f with f | f | ⟨p, hp, f⟩
    · exact .inl f
    · exact .inr (.inl f)
    · obtain ⟨i, hi, rfl⟩ := List.mem_iff_getElem.1 hp
      rw [List.length_set] at hi
      rw [List.getElem_set] at f
      by_cases e0 : 0 = i
      · rw [if_pos e0] at f
        exact .inr (.inr ⟨_, mem_getD hjl, by rw [hob]; exact f⟩)
      · rw [if_neg e0] at f
        exact .inr (.inr ⟨_, List.getElem_mem hi, f⟩)
theorem own_cut {w : World} {b g n m cap : Nat} {xs : List Value} (h : w.ownsRow b 3 1 (.slice (some ⟨g, 0, none⟩) n cap) n xs) (hm : m ≤ n) : w.ownsRow b 3 1 (.slice (some ⟨g, 0, none⟩) m cap) m (xs.take m) := by
  obtain ⟨h1, h2⟩ := h
  rcases h2 with ⟨e, _⟩ | ⟨g', cap', cur, e, hg, hh, hn, hm', hs, ht⟩
  · cases e
  · simp only [Value.slice.injEq, Option.some.injEq, Addr.mk.injEq, and_true, true_and] at e
    obtain ⟨rfl, rfl⟩ := e
    refine ⟨by rw [List.length_take]; omega, .inr ⟨g, cap, cur, rfl, hg, hh, by omega, hm', hs, ?_⟩⟩
    rw [← ht, List.take_take]
    congr 1
    omega

/-- whether what waits may still be single -/
def live (P : PS) (x : Int) : Bool := !clsd (P.K.getD x.toNat zk).1 P.tk
def still (P : PS) : List Int := (P.A.getD 0 []).filter (live P)
def least (P : PS) (F : List Int) : Nat := F.foldl (fun a x => min a x.toNat) P.K.length
def PS.uni (P : PS) : PS := if P.em then P else { P with A := P.A.set 0 (still P) }
def PS.uniX (P : PS) : Int := if P.em then 0 else if least P (still P) = P.K.length then 0 else fstI (opn (P.K.getD (least P (still P)) zk).1 P.tk)
theorem least_snoc (P : PS) (F : List Int) (x : Int) : least P (F ++ [x]) = min (least P F) x.toNat := by unfold least; rw [List.foldl_append]; rfl
theorem least_le (P : PS) (F : List Int) : least P F ≤ P.K.length := by
  unfold least
  suffices H : ∀ (F : List Int) (a : Nat), F.foldl (fun a x => min a x.toNat) a ≤ a from H F _
  intro F
  induction F with
  | nil => intro a; exact Nat.le_refl _
  | cons x l ih => intro a; exact Nat.le_trans (ih _) (Nat.min_le_left _ _)
theorem least_mem (P : PS) (F : List Int) : least P F = P.K.length ∨ ∃ x ∈ F, x.toNat = least P F := by
  unfold least
  suffices H : ∀ (F : List Int) (a : Nat), F.foldl (fun a x => min a x.toNat) a = a ∨ ∃ x ∈ F, x.toNat = F.foldl (fun a x => min a x.toNat) a from H F _
  intro F
  induction F with
  | nil => intro a; exact .inl rfl
  | cons x l ih =>
    intro a
    rw [List.foldl_cons]
    rcases ih (min a x.toNat) with q | ⟨y, hy, q⟩
    · rcases Nat.le_total a x.toNat with hle | hle
      · rw [q, Nat.min_eq_left hle]
        exact .inl rfl
      · exact .inr ⟨x, by simp, by rw [q, Nat.min_eq_right hle]⟩
    · exact .inr ⟨y, by simp [hy], q⟩
theorem least_all (P : PS) (F : List Int) : ∀ x ∈ F, least P F ≤ x.toNat := by
  unfold least
  suffices H : ∀ (F : List Int) (a : Nat), F.foldl (fun a x => min a x.toNat) a ≤ a ∧ ∀ x ∈ F, F.foldl (fun a x => min a x.toNat) a ≤ x.toNat from (H F _).2
  intro F
  induction F with
  | nil => intro a; exact ⟨Nat.le_refl _, fun x hx => by cases hx⟩
  | cons y l ih =>
    intro a
    rw [List.foldl_cons]
    have k := ih (min a y.toNat)
    refine ⟨Nat.le_trans k.1 (Nat.min_le_left _ _), fun x hx => ?_⟩
    rcases List.mem_cons.1 hx with rfl | hx
    · exact Nat.le_trans k.1 (Nat.min_le_right _ _)
    · exact k.2 x hx
end Go.Proofs.YtbhphndlklmocaaDoor.wm
