/- A list of the watcher written in its own row, one number more where there is room, a row cut short; no condition but on sizes. -/
import Derived.Test.YtheigbmkldlicaaDoorWr
import Derived.ArgAppend
namespace Go.Proofs.YtheigbmkldlicaaDoor.wm
open Go.ChangeShapes Go.WideShapes Go.ChangeAt Go.RowKit
open Go.Proofs.YtheigbmkldlicaaDoor.wm0 (end0 ret0 stepW listW listB)
open Go.Proofs.YtheigbmkldlicaaDoor.lits (okB okB_iff)
open Go.Proofs.YtheigbmkldlicaaDoor.bset (placeN placeN_le placeC)
open Go.Proofs.YtheigbmkldlicaaDoor.srt (Tab woN woN_lt fstI oppN oppN_lt andN andN_lt orN_eq or_lt)
open Go.Proofs.YtheigbmkldlicaaDoor.sl (Sl Own ints hide unhide ret_int ret_bool grown_refl grown_trans grown_drewN)
set_option linter.unusedVariables false

/-- one number more where there is room -/
theorem roomW {ops : Array Oper} {rest : List Oper} {o : Oper} {a : Act} {Q : Exit → Act → World → Prop} {wr : World} {g m cap b : Nat} {y : Int}
    (hb : wr.cell? ⟨b, 0, none⟩ = some (.int .i64 y)) (hroom : m + 1 ≤ cap) (hso : (wr.cell? ⟨g, m, none⟩).isSome = true) (hf : wr.frozen? ⟨g, m, none⟩ = false) (hgd : o.guard = none) (s x : Operand)
    (ho : o.op = .call { callee := .builtin .append, args := #[s, x], argTypes := #[31, 31] }) (hs : a.eval s = .slice (some ⟨g, 0, none⟩) m cap) (hx : a.eval x = .slice (some ⟨b, 0, none⟩) 1 1)
    (hK : wpList Tryd.prog ops Q rest (a.put o.dst (.slice (some ⟨g, 0, none⟩) (m + 1) cap)) (wr.setCell ⟨g, m, none⟩ (.int .i64 y))) :
    wpList Tryd.prog ops Q (o :: rest) a wr := by
  obtain ⟨i0, hi, hz0, hz1, hz2⟩ := info_parts sl.info3
  refine wpList_plain hgd fun K hK' => ?_
  have hrun := run_append_room_cells (P := Tryd.prog) wr 31 o.type 3 i0 Tryd.underlying31 hi g 0 m cap ⟨b, 0, none⟩ 1 1 [.int .i64 y] (by rw [hz1]; rfl) (by
    intro j u hj
    match j, hj with
    | 0, hj => simp at hj; subst hj; simpa [Addr.add] using hb) (by
    intro u hu
    simp at hu
    subst hu
    rfl) hroom (by
    intro j hj
    have : j = 0 := by simpa using hj
    subst this
    rw [hz1]
    simpa using hso) (by
    intro j hj
    have : j = 0 := by simpa using hj
    subst this
    rw [hz1]
    simpa using hf)
  unfold Oper.wp
  simp [execOp, ho, resolve, invoke, builtin, hs, hx, hrun, Result.andThen]
  refine hK' _ _ ?_
  rw [hz1, Nat.mul_one]
  exact hK
/-- a list is written in its own row -/
theorem Wat.rowj {w w0 : World} {c g n cap k j : Nat} {s : WS} {C C' : List Int} {u : Value} (h : Wat w c s) (hj : j < 50) (e : s.A.getD j nil_ = (.slice (some ⟨g, 0, none⟩) n cap, C)) (g0 : w.grownBy w0 none) (hn : C.length = n) (hC : C'.length = n) (hset : (ints C).set k u = ints C') :
    Wat (w0.setCell ⟨g, k, none⟩ u) c { s with A := s.A.set j (.slice (some ⟨g, 0, none⟩) n cap, C') } ∧ Stp c s { s with A := s.A.set j (.slice (some ⟨g, 0, none⟩) n cap, C') } w (w0.setCell ⟨g, k, none⟩ u) := by
  have hjl : j < s.A.length := by rw [h.len]; exact hj
  have h0 := h.kept g0
  have hown := h0.ls _ (mem_getD hjl)
  have hnc := row_nec hown h0.blk h0.ty.2
  rw [e] at hown hnc
  have gg := sl.grown_setCell w0 g k u
  have hgc : g ≠ c := by
    rcases hnc with q | q
    · cases q
    · intro e'; subst e'; exact q rfl
  have hown' : w0.ownsRow 0 3 1 (.slice (some ⟨g, 0, none⟩) n cap) n (ints C) := by rw [← hn] at hown ⊢; exact hown
  have hst := (hown'.stored k u).1
  rw [hset] at hst
  have hob : (s.A.getD j nil_).1.ownBlock = some g := by rw [e]; rfl
  have ea : ∀ q, ((s.A.set j (Value.slice (some ⟨g, 0, none⟩) n cap, C')).getD q nil_).1 = (s.A.getD q nil_).1 := by
    intro q
    by_cases hq : q = j
    · subst hq
      rw [e]
      simp [hjl]
    · rw [List.getD, List.getElem?_set_ne (fun e => hq e.symm)]
      rfl
  have eg : ∀ q (hq : q < (s.A.set j (Value.slice (some ⟨g, 0, none⟩) n cap, C')).length) (hq' : q < s.A.length), ((s.A.set j (Value.slice (some ⟨g, 0, none⟩) n cap, C'))[q]).1 = (s.A[q]).1 := by
    intro q hq hq'
    have := ea q
    rw [List.getD, List.getD, List.getElem?_eq_getElem hq, List.getElem?_eq_getElem hq'] at this
    exact this
  refine ⟨⟨?_, by rw [List.length_set]; exact h.len, ?_, ?_, ?_, h.ty⟩, ⟨gg.os.trans g0.os, gg.tape.trans g0.tape, gg.output.trans g0.output, Nat.le_trans g0.size gg.size, ?_, ?_, rfl, rfl⟩⟩
  · have ec : ({ s with A := s.A.set j (.slice (some ⟨g, 0, none⟩) n cap, C') } : WS).cells = s.cells := by
      unfold WS.cells
      refine congrArg (· ++ s.ex) ?_
      apply List.map_congr_left
      intro q _
      unfold WS.at
      simp only [ea]
    rw [ec, gg.block c h0.lt (fun e => hgc (by cases e; rfl))]
    exact h0.blk
  · exact h0.cl.kept gg (by
      rcases row_ne h0.cl (h0.ls _ (mem_getD hjl)) types3 with q | q
      · exact .inl q
      · rw [hob] at q
        exact .inr q)
  · intro p hp
    obtain ⟨i, hi, rfl⟩ := List.mem_iff_getElem.1 hp
    rw [List.length_set] at hi
    rw [List.getElem_set]
    by_cases e0 : j = i
    · rw [if_pos e0]
      show (w0.setCell ⟨g, k, none⟩ u).ownsRow 0 3 1 (.slice (some ⟨g, 0, none⟩) n cap) C'.length (ints C')
      rw [hC]
      exact hst
    · rw [if_neg e0]
      have hr := h0.ls _ (mem_getD hi)
      have ha := apart_of h.ap hi hjl (fun q => e0 q.symm)
      rw [show s.A.getD i nil_ = s.A[i] by simp [hi]] at hr ha
      exact hr.kept gg (by
        cases q : (s.A[i]).1.ownBlock with
        | none => exact .inl rfl
        | some g' => exact .inr (fun e => ha g' q (by rw [hob]; exact e.symm)))
  · rw [List.pairwise_iff_getElem]
    intro a b ha hb hab
    have ha' := ha
    have hb' := hb
    rw [List.length_set] at ha' hb'
    have key := List.pairwise_iff_getElem.1 h.ap a b ha' hb' hab
    intro g' q1 q2
    rw [eg a ha ha'] at q1
    rw [eg b hb hb'] at q2
    exact key g' q1 q2
  · intro k' hk' hn'
    rw [gg.block k' (Nat.lt_of_lt_of_le hk' g0.size) (fun e => hn' (.inr (.inr ⟨_, mem_getD hjl, by rw [hob]; exact e.symm⟩)))]
    exact g0.block k' hk' (fun e => by cases e)
  · intro k' f
    refine .inl ?_
    rcases f with f | f | ⟨p, hp, f⟩
    · exact .inl f
    · exact .inr (.inl f)
    · obtain ⟨i, hi, rfl⟩ := List.mem_iff_getElem.1 hp
      have hi' := hi
      rw [List.length_set] at hi'
      rw [eg i hi hi'] at f
      exact .inr (.inr ⟨_, List.getElem_mem hi', f⟩)
theorem own_cut {w : World} {b g n m cap : Nat} {xs : List Value} (h : w.ownsRow b 3 1 (.slice (some ⟨g, 0, none⟩) n cap) n xs) (hm : m ≤ n) : w.ownsRow b 3 1 (.slice (some ⟨g, 0, none⟩) m cap) m (xs.take m) := by
  obtain ⟨h1, h2⟩ := h
  rcases h2 with ⟨e, _⟩ | ⟨g', cap', cur, e, hg, hh, hn, hm', hs, ht⟩
  · cases e
  · simp only [Value.slice.injEq, Option.some.injEq, Addr.mk.injEq, and_true, true_and] at e
    obtain ⟨rfl, rfl⟩ := e
    refine ⟨by rw [List.length_take]; omega, .inr ⟨g, cap, cur, rfl, hg, hh, by omega, hm', hs, ?_⟩⟩
    rw [← ht, List.take_take]
    congr 1
    omega

end Go.Proofs.YtheigbmkldlicaaDoor.wm
