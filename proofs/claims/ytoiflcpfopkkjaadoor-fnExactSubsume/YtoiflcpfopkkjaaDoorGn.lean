/- Subsume of the model: what it answers at every formula that holds at most 2^20 values; both sides together. -/
import Derived.Test.YtoiflcpfopkkjaaDoorGm
import Derived.Test.YtoiflcpfopkkjaaDoorMs
import Derived.Deep.RegionLaw
namespace Go.Proofs.YtoiflcpfopkkjaaDoor.gm
open Go.ChangeShapes Go.WideShapes Go.ChangeAt Go.RowKit
open Go.Proofs.YtoiflcpfopkkjaaDoor.sl (Sl Own ints marks hide unhide ret_int ret_bool grown_refl grown_trans grown_drewN below_of of_below)
open Go.Proofs.YtoiflcpfopkkjaaDoor.css (Sls OwnS Outs tot sumLen marksS own_mono infoSl)
open Go.Proofs.YtoiflcpfopkkjaaDoor.cf (Box)
open Go.Proofs.YtoiflcpfopkkjaaDoor.ok (cnfB)
open Go.Proofs.YtoiflcpfopkkjaaDoor.lits (okB varI)
open Go.Proofs.YtoiflcpfopkkjaaDoor.cls (hasB)
open Go.Proofs.YtoiflcpfopkkjaaDoor.bset (setOf placeN subB)
open Go.Proofs.YtoiflcpfopkkjaaDoor.srt (srt litI okTo Tab)
open Go.Proofs.YtoiflcpfopkkjaaDoor.cs (cnfS good)
open Go.Proofs.YtoiflcpfopkkjaaDoor.le (lessL)
open Go.Proofs.YtoiflcpfopkkjaaDoor.cso (srtN srtR srtB)
open Go.Proofs.YtoiflcpfopkkjaaDoor.gb (Rd Kpt flt KeptE)
open Go.Proofs.YtoiflcpfopkkjaaDoor.gj (KeptO kpt_own rd_own len_in out_end)
open Go.Proofs.YtoiflcpfopkkjaaDoor.ge (outN outR OutE ini_all out_no out_yes OwnD)
set_option linter.unusedVariables false

/-- clauses in order: one that has some literals of another alone is that one, or shorter -/
theorem sub_lt {LL : List (List Int)} {D C : List Int} (hD : D ∈ cnfS LL) (hC : C ∈ cnfS LL) (h : subB D C = true) : D = C ∨ D.length < C.length := by
  obtain ⟨d, _, _, rfl⟩ := ms.good_mem.1 (cs.cnfS_mem.1 hD)
  obtain ⟨c, _, _, rfl⟩ := ms.good_mem.1 (cs.cnfS_mem.1 hC)
  generalize setOf d = S at *
  generalize setOf c = T at *
  have hst : ∀ i, i < 48 → S.testBit i = true → T.testBit i = true := by
    intro i hi hs
    have pl := ms.place_lit i hi
    have hm : litI i ∈ srt S 48 := by
      unfold srt.srt
      exact List.mem_map_of_mem (List.mem_filter.2 ⟨List.mem_range.2 hi, hs⟩)
    unfold bset.subB at h
    rw [List.all_eq_true] at h
    have h1 := h _ hm
    unfold cls.hasB at h1
    have h2 := (ms.srt_mem.1 (of_decide_eq_true h1)).2
    rw [pl] at h2
    exact h2
  have e : (List.range 48).filter (fun i => S.testBit i) = ((List.range 48).filter (fun i => T.testBit i)).filter (fun i => S.testBit i) := by
    rw [List.filter_filter]
    apply List.filter_congr
    intro i hi
    rw [List.mem_range] at hi
    cases hs : S.testBit i
    · simp
    · rw [hst i hi hs]
      rfl
  have hsub : ((List.range 48).filter (fun i => S.testBit i)).Sublist ((List.range 48).filter (fun i => T.testBit i)) := by
    rw [e]
    exact List.filter_sublist
  unfold srt.srt
  rw [List.length_map, List.length_map]
  have hle := hsub.length_le
  by_cases hq : ((List.range 48).filter (fun i => S.testBit i)).length = ((List.range 48).filter (fun i => T.testBit i)).length
  · left
    rw [hsub.eq_of_length hq]
  · right
    omega
theorem up_ne {LL : List (List Int)} {i j : Nat} (hi : i < (cnfS LL).length) (hj : j < (cnfS LL).length) (h : i ≠ j) : (cnfS LL)[i] ≠ (cnfS LL)[j] := by
  have u := cs.cnfS_up LL
  unfold cs.Up at u
  rw [List.pairwise_iff_getElem] at u
  intro e
  rcases Nat.lt_or_gt_of_ne h with hl | hl
  · have := u i j hi hj hl
    rw [e, cs.less_ord.irr] at this
    cases this
  · have := u j i hj hi hl
    rw [e, cs.less_ord.irr] at this
    cases this
/-- what the model looks at -/
def kpB (R : List (List Int)) (i j : Nat) : Bool := !((List.range j).any fun t => decide (t ≠ i) && subB (R.getD t []) (R.getD i []))
theorem kp_zero (R : List (List Int)) (i : Nat) : kpB R i 0 = true := rfl
theorem kp_step (R : List (List Int)) (i j : Nat) : kpB R i (j + 1) = (kpB R i j && !(decide (j ≠ i) && subB (R.getD j []) (R.getD i []))) := by
  unfold kpB
  rw [List.range_succ, List.any_append]
  simp
theorem kp_end (LL : List (List Int)) (i : Nat) (h : i < (cnfS LL).length) : kpB (cnfS LL) i (cnfS LL).length = !subsB (cnfS LL) ((cnfS LL).getD i []) := by
  unfold kpB subsB
  congr 1
  rw [Bool.eq_iff_iff, List.any_eq_true, List.any_eq_true]
  have gd : ∀ t, t < (cnfS LL).length → (cnfS LL).getD t [] = (cnfS LL)[t]! := by
    intro t ht
    simp [ht]
  constructor
  · rintro ⟨t, ht, hq⟩
    rw [List.mem_range] at ht
    rw [Bool.and_eq_true, decide_eq_true_iff] at hq
    have e1 : (cnfS LL).getD t [] = (cnfS LL)[t] := by simp [ht]
    have e2 : (cnfS LL).getD i [] = (cnfS LL)[i] := by simp [h]
    rw [e1, e2] at hq
    rw [e2]
    refine ⟨(cnfS LL)[t], List.getElem_mem ht, ?_⟩
    rcases sub_lt (List.getElem_mem ht) (List.getElem_mem h) hq.2 with e | e
    · exact absurd e (up_ne ht h hq.1)
    · rw [decide_eq_true e, hq.2]
      rfl
  · rintro ⟨D, hD, hq⟩
    rw [Bool.and_eq_true, decide_eq_true_iff] at hq
    obtain ⟨t, ht, rfl⟩ := List.getElem_of_mem hD
    have e1 : (cnfS LL).getD t [] = (cnfS LL)[t] := by simp [ht]
    refine ⟨t, List.mem_range.2 ht, ?_⟩
    rw [e1, hq.2, decide_eq_true (show t ≠ i by
      rintro rfl
      rw [e1] at hq
      omega)]
    rfl

/-- a struct variable that holds n and a row of the call's own over values of others; beside it others, that stay -/
def MidG (w wr : World) (c : Nat) (n : Int) (D : List (Value × List Int)) (Bs : List (Nat × Value × Value)) : Prop :=
  w.heap.size ≤ c ∧ w.grownBy wr none ∧ (∀ b ∈ Bs, b.1 ≠ c ∧ Box 26 wr b.1 b.2.1 b.2.2) ∧ ∃ a cap, Box 26 wr c (.int .i64 n) (.slice a D.length cap) ∧ wr.ownsRow w.heap.size 37 1 (.slice a D.length cap) D.length (D.map (·.1))
theorem row_kept {w w' : World} {lo n : Nat} {t : TypeId} {v : Value} {xs : List Value} (h : w.ownsRow lo t 1 v n xs) (g : w.grownBy w' none) : w'.ownsRow lo t 1 v n xs := h.kept g (by
  cases v.ownBlock with
  | none => exact .inl rfl
  | some k => exact .inr (fun e => by cases e))
theorem MidG.kept {w wr w1 : World} {c : Nat} {n : Int} {D : List (Value × List Int)} {Bs : List (Nat × Value × Value)} (h : MidG w wr c n D Bs) (g : wr.grownBy w1 none) : MidG w w1 c n D Bs := by
  obtain ⟨hc, hg, hB, a, cap, hb, ho⟩ := h
  exact ⟨hc, grown_trans hg g, fun b hb => ⟨(hB b hb).1, (hB b hb).2.kept g⟩, a, cap, hb.kept g, row_kept ho g⟩
theorem MidG.box {w wr : World} {c : Nat} {n : Int} {D : List (Value × List Int)} {Bs : List (Nat × Value × Value)} (h : MidG w wr c n D Bs) (b : Nat) (x y : Value) (hb : (b, x, y) ∈ Bs) : Box 26 wr b x y := (h.2.2.1 _ hb).2
theorem stepG {ops : Array Oper} {o : Oper} {a : Act} {K : Act → World → Prop} {Q : Exit → Act → World → Prop} {E : Prop} {lo : Nat} {wr : World} {v : Value} {D : List (Value × List Int)} {p : Value × List Int}
    (hw : wr.ownsRow lo 37 1 v D.length (D.map (·.1))) (hu : p.1.oneCell' = true) (hlo : lo ≤ wr.heap.size) (hM : D.length ≤ 1048576) (hgd : o.guard = none) (s x : Operand)
    (ho : o.op = .call { callee := .builtin .append, args := #[s, x], argTypes := #[22, 22] }) (hs : a.eval s = v) (hx : a.eval x = .slice (some ⟨wr.heap.size, 0, none⟩) 1 1)
    (hK : ∀ g cap w1, w1.ownsRow lo 37 1 (.slice (some ⟨g, 0, none⟩) (D.length + 1) cap) (D.length + 1) (D.map (·.1) ++ [p.1]) → (wr.alloc (.cells #[p.1] 37)).grownBy w1 v.ownBlock → K (a.put o.dst (.slice (some ⟨g, 0, none⟩) (D.length + 1) cap)) w1) :
    if Region.wanted o (yielded ops a.tmps) = true then Oper.wp Tryd.prog o a (wr.alloc (.cells #[p.1] 37)) K Q else E := by
  obtain ⟨i0, hi, hz0, hz1, hz2⟩ := info_parts infoSl
  refine step_append_lies _ hgd s x 22 ho lo 37 i0 (.slice none 0 0) 1 24 Tryd.underlying22 hi hz0 hz1 hz2 rfl (by decide) v D.length (D.map (·.1)) hs (hw.alloc _) ⟨wr.heap.size, 0, none⟩ 1 1 [p.1] hx rfl ?_ ?_ (by decide) ?_ ?_ ?_ (wr.heap.size + 1) (World.size_alloc ..) ?_
  · intro j y hj
    match j, hj with
    | 0, hj => simp at hj; subst hj; simp [Addr.add]
  · intro y hy
    simp at hy
    subst hy
    exact hu
  · unfold maxLen; omega
  · omega
  · simp; omega
  · intro g cap w1 h1 hg _ _
    exact hK g cap w1 h1 hg
theorem MidG.step {w wr w2 w1 : World} {c : Nat} {n : Int} {D : List (Value × List Int)} {p : Value × List Int} {Bs : List (Nat × Value × Value)} {a : Option Addr} {cap g cap' : Nat} (hc : w.heap.size ≤ c) (hg : w.grownBy wr none) (hB : ∀ b ∈ Bs, b.1 ≠ c ∧ Box 26 wr b.1 b.2.1 b.2.2) (hb : Box 26 wr c (.int .i64 n) (.slice a D.length cap)) (ho : wr.ownsRow w.heap.size 37 1 (.slice a D.length cap) D.length (D.map (·.1)))
    (g2 : wr.grownBy w2 none) (h1 : w1.ownsRow w.heap.size 37 1 (.slice (some ⟨g, 0, none⟩) (D.length + 1) cap') (D.length + 1) (D.map (·.1) ++ [p.1])) (g1 : (w2.alloc (.cells #[p.1] 37)).grownBy w1 (Value.slice a D.length cap).ownBlock) :
    (w1.cell? ⟨c, 1, none⟩ = some (.slice a D.length cap) ∧ w1.frozen? ⟨c, 1, none⟩ = false) ∧ MidG w (w1.setCell ⟨c, 1, none⟩ (.slice (some ⟨g, 0, none⟩) (D.length + 1) cap')) c n (D ++ [p]) Bs := by
  have gA := grown_trans (r := none) g2 (World.grownBy_alloc w2 (.cells #[p.1] 37) none)
  have hb2 := hb.kept gA
  have hw := row_kept ho gA
  have hb1 := hb2.by g1 (gr.box_ne hw gr.ty1 hb2)
  have hgA : w.grownBy (w2.alloc (.cells #[p.1] 37)) none := grown_trans hg gA
  have hg1 : w.grownBy w1 none := ⟨g1.os.trans hgA.os, g1.tape.trans hgA.tape, g1.output.trans hgA.output, Nat.le_trans hgA.size g1.size, fun k hk _ => by
    rw [g1.block k (Nat.lt_of_lt_of_le hk hgA.size) (fun e => by have := (hw.lt k e.symm).1; omega)]
    exact hgA.block k hk (fun e => by cases e)⟩
  have hB1 : ∀ b ∈ Bs, Box 26 w1 b.1 b.2.1 b.2.2 := by
    intro b hb'
    have hbb := (hB _ hb').2.kept gA
    exact hbb.by g1 (gr.box_ne hw gr.ty1 hbb)
  have e1 : (D ++ [p]).length = D.length + 1 := by simp
  have e2 : (D ++ [p]).map (fun p : Value × List Int => p.1) = D.map (fun p : Value × List Int => p.1) ++ [p.1] := by simp
  refine ⟨⟨hb1.c1, hb1.f 1⟩, hc, cf.grown_set hg1 hc, fun b hb' => ⟨(hB b hb').1, (hB1 b hb').setO (fun e => (hB b hb').1 e.symm)⟩, some ⟨g, 0, none⟩, cap', ?_, ?_⟩
  · rw [e1]
    exact hb1.set1 _
  · rw [e1, e2]
    exact gr.own_set h1 gr.ty1 hb1
end Go.Proofs.YtoiflcpfopkkjaaDoor.gm
