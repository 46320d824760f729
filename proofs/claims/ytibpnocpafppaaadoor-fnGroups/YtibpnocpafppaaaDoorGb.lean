/- kept over lists of lists: what it keeps, in a row of its own over the values of the list that came in; one theorem for each function that is handed to it; no condition but on sizes. -/
import Derived.Test.YtibpnocpafppaaaDoorGr
import Derived.Test.YtibpnocpafppaaaDoorRow
namespace Go.Proofs.YtibpnocpafppaaaDoor.gb
open Go.ChangeShapes Go.WideShapes Go.ChangeAt Go.RowKit
open Go.Proofs.YtibpnocpafppaaaDoor.sl (Sl Own ints hide unhide ret_int ret_bool grown_refl grown_trans grown_drewN)
open Go.Proofs.YtibpnocpafppaaaDoor.css (Sls OwnS tot Apart own_ne own_ne' own_kind own_mono infoSl)
open Go.Proofs.YtibpnocpafppaaaDoor.cf (Box)
set_option linter.unusedVariables false

/-- the slice value v holds the values of D; each reads as its list -/
def Rd (w : World) (v : Value) (D : List (Value × List Int)) : Prop :=
  ∃ a cap, v = .slice a D.length cap ∧ (D = [] ∨ ∃ b off, a = some ⟨b, off, none⟩ ∧ b < w.heap.size ∧ ∀ i, i < D.length → w.cell? ⟨b, off + i, none⟩ = (D.map (·.1))[i]?) ∧ ∀ p ∈ D, Sl w p.1 p.2
theorem Rd.kept {w w' : World} {v : Value} {D : List (Value × List Int)} (h : Rd w v D) (g : w.grownBy w' none) : Rd w' v D := by
  obtain ⟨a, cap, rfl, h, hs⟩ := h
  refine ⟨a, cap, rfl, ?_, fun p hp => (hs p hp).kept g (.inl rfl)⟩
  rcases h with h | ⟨b, off, rfl, hb, hc⟩
  · exact .inl h
  · refine .inr ⟨b, off, rfl, Nat.lt_of_lt_of_le hb g.size, fun i hi => ?_⟩
    have e := hc i hi
    rw [List.getElem?_eq_getElem (by simpa using hi)] at e ⊢
    exact g.cell e (fun e => by cases e)
theorem Rd.of {w : World} {v : Value} {LL : List (List Int)} (h : Sls w v LL) : ∃ D : List (Value × List Int), D.map (·.2) = LL ∧ Rd w v D := by
  obtain ⟨a, cap, rfl, h⟩ := h
  rcases h with rfl | ⟨b, off, rfl, hb, hc⟩
  · exact ⟨[], rfl, a, cap, rfl, .inl rfl, fun p hp => by cases hp⟩
  · obtain ⟨f, hf⟩ := Go.Deep.choose_lt hc
    refine ⟨(List.range LL.length).map (fun i => (f i, LL.getD i [])), ?_, some ⟨b, off, none⟩, cap, by simp, .inr ⟨b, off, rfl, hb, fun i hi => ?_⟩, fun p hp => ?_⟩
    · rw [List.map_map]
      apply List.ext_getElem
      · simp
      · intro i h1 h2
        simp [h2]
    · have hi' : i < LL.length := by simpa using hi
      rw [(hf i hi').1]
      simp [hi']
    · rw [List.mem_map] at hp
      obtain ⟨i, hi, rfl⟩ := hp
      rw [List.mem_range] at hi
      exact (hf i hi).2
theorem Rd.own {lo hi : Nat} {w : World} {v : Value} {D : List (Value × List Int)} (ho : w.ownsRow lo 31 1 v D.length (D.map (·.1))) (hin : ∀ p ∈ D, Sl w p.1 p.2) : Rd w v D := by
  have ho' := ho
  obtain ⟨_, h2⟩ := ho
  rcases h2 with ⟨rfl, h0⟩ | ⟨g, cap, cur, rfl, hg, hh, hn, hm, hs, ht⟩
  · have : D = [] := List.eq_nil_of_length_eq_zero h0
    subst this
    exact ⟨none, 0, rfl, .inl rfl, hin⟩
  · refine ⟨some ⟨g, 0, none⟩, cap, rfl, .inr ⟨g, 0, rfl, (Array.getElem?_eq_some_iff.1 hh).1, fun i hi' => ?_⟩, hin⟩
    rw [Nat.zero_add, ho'.cellAt i (by omega)]

/-- a row of the call's own over values of D -/
def Kpt (w w' : World) (u : Value) (D : List (Value × List Int)) : Prop := w'.ownsRow w.heap.size 31 1 u D.length (D.map (·.1)) ∧ w.grownBy w' none
theorem Kpt.kept {w w1 w2 : World} {u : Value} {D : List (Value × List Int)} (h : Kpt w w1 u D) (g : w1.grownBy w2 none) : Kpt w w2 u D :=
  ⟨h.1.kept g (by cases u.ownBlock with
    | none => exact .inl rfl
    | some k => exact .inr (fun e => by cases e)), grown_trans h.2 g⟩
theorem Kpt.len {w w' : World} {u : Value} {D : List (Value × List Int)} (h : Kpt w w' u D) : ∃ a cap, u = .slice a D.length cap := by
  obtain ⟨⟨_, h2⟩, _⟩ := h
  rcases h2 with ⟨rfl, h0⟩ | ⟨g, cap, cur, rfl, _⟩
  · exact ⟨none, 0, by rw [h0]⟩
  · exact ⟨_, cap, rfl⟩
theorem kpt_made (w : World) (n : Nat) (hn : n ≤ 1048576) : Kpt w (w.alloc (.cells (madeCells #[.slice none 0 0] n) 31)) (.slice (some ⟨w.heap.size, 0, none⟩) 0 n) [] :=
  ⟨World.ownsRow_made w _ n (Nat.le_refl _) (by unfold maxLen; omega) (by rw [size_madeCells, Nat.mul_one]), World.grownBy_alloc _ _ _⟩
theorem sl_one {w : World} {v : Value} {L : List Int} (h : Sl w v L) : v.oneCell' = true := by
  obtain ⟨a, cap, rfl, _⟩ := h
  rfl
/-- one value more -/
theorem appendK {ops : Array Oper} {rest : List Oper} {o : Oper} {a : Act} {Q : Exit → Act → World → Prop} {w wr : World} {v : Value} {D : List (Value × List Int)} {p : Value × List Int}
    (h : Kpt w wr v D) (hu : p.1.oneCell' = true) (hD : D.length ≤ 1048576) (hgd : o.guard = none) (s x : Operand)
    (ho : o.op = .call { callee := .builtin .append, args := #[s, x], argTypes := #[24, 24] }) (hs : a.eval s = v) (hx : a.eval x = .slice (some ⟨wr.heap.size, 0, none⟩) 1 1)
    (hK : ∀ g cap w1, Kpt w w1 (.slice (some ⟨g, 0, none⟩) (D.length + 1) cap) (D ++ [p]) → wpList Tryd.prog ops Q rest (a.put o.dst (.slice (some ⟨g, 0, none⟩) (D.length + 1) cap)) w1) :
    wpList Tryd.prog ops Q (o :: rest) a (wr.alloc (.cells #[p.1] 31)) := by
  obtain ⟨i0, hi, hz0, hz1, hz2⟩ := info_parts infoSl
  obtain ⟨hw, hg0⟩ := h
  have hsz := hg0.size
  refine wpList_append_lies _ hgd s x 24 ho w.heap.size 31 i0 (.slice none 0 0) 1 24 Tryd.underlying24 hi hz0 hz1 hz2 rfl (by decide) v D.length (D.map (·.1)) hs (hw.alloc _) ⟨wr.heap.size, 0, none⟩ 1 1 [p.1] hx rfl ?_ ?_ (by decide) ?_ ?_ ?_ (wr.heap.size + 1) (World.size_alloc ..) ?_
  · intro j y hj
    match j, hj with
    | 0, hj => simp at hj; subst hj; simp [Addr.add]
  · intro y hy
    simp at hy
    subst hy
    exact hu
  · unfold maxLen; omega
  · omega
  · simp; omega
  · intro g cap w1 h1 hg _ _
    refine hK g cap w1 ⟨?_, ?_⟩
    · have e1 : (D ++ [p]).length = D.length + 1 := by simp
      have e2 : (D ++ [p]).map (fun p : Value × List Int => p.1) = D.map (fun p : Value × List Int => p.1) ++ [p.1] := by simp
      rw [e1, e2]
      exact h1
    · have gA := grown_trans (r := none) hg0 (World.grownBy_alloc wr (.cells #[p.1] 31) none)
      exact ⟨hg.os.trans gA.os, hg.tape.trans gA.tape, hg.output.trans gA.output, Nat.le_trans gA.size hg.size, fun k hk _ => by
        rw [hg.block k (Nat.lt_of_lt_of_le hk gA.size) (fun e => by have := (hw.lt k e.symm).1; omega)]
        exact gA.block k hk (fun e => by cases e)⟩

/-- what is kept of the first k -/
def flt (B : List Int → Bool) (D : List (Value × List Int)) : List (Value × List Int) := D.filter fun p => B p.2
theorem flt_map (B : List Int → Bool) (D : List (Value × List Int)) : (flt B D).map (·.2) = (D.map (·.2)).filter B := by
  unfold flt
  induction D with
  | nil => rfl
  | cons p D ih =>
    cases h : B p.2 <;> simp [h] <;> exact ih
theorem flt_yes {B : List Int → Bool} {D : List (Value × List Int)} {k : Nat} (h : k < D.length) (e : B D[k].2 = true) : flt B (D.take (k + 1)) = flt B (D.take k) ++ [D[k]] := by
  unfold flt
  rw [List.take_succ_eq_append_getElem h, List.filter_append]
  simp [e]
theorem flt_no {B : List Int → Bool} {D : List (Value × List Int)} {k : Nat} (h : k < D.length) (e : B D[k].2 = false) : flt B (D.take (k + 1)) = flt B (D.take k) := by
  unfold flt
  rw [List.take_succ_eq_append_getElem h, List.filter_append]
  simp [e]
theorem flt_len (B : List Int → Bool) (D : List (Value × List Int)) (k : Nat) : (flt B (D.take k)).length ≤ k := by
  unfold flt
  have := List.length_filter_le (fun p : Value × List Int => B p.2) (D.take k)
  rw [List.length_take] at this
  omega
def KeptE (B : List Int → Bool) (D : List (Value × List Int)) (w : World) (e : Ending) (w' : World) : Prop := ∃ u, e = .returned u ∧ Kpt w w' u (flt B D)

set_option maxHeartbeats 1000000 in
theorem kept_having (v q : Value) (D : List (Value × List Int)) (B : List Int → Bool) (w : World) (hD : D.length ≤ 1048576) (hv : Rd w v D)
    (hB : ∀ p ∈ D, ∀ w1, w.grownBy w1 none → Calls Tryd.prog 125 #[p.1, q] w1 fun e w' => e = .returned (.bool (B p.2)) ∧ w1.grownBy w' none) :
    Calls Tryd.prog 51 #[v, .func (.func 125) #[] #[q]] w fun e w' => KeptE B D w e w' := by
  obtain ⟨a, cap, rfl, ha, hs⟩ := hv
  have HA := hide ha
  have HS := hide hs
  have HB := hide hB
  have hmk := gr.mk0 D.length hD
  have K0 := hide (kpt_made w D.length hD)
  clear ha hs hB
  go_enter Tryd.func51, Tryd.ntmps51
  go_wp2_with fail
  go_loopw [5, 13] (fun u i wr => ∃ k : Nat, k ≤ D.length ∧ i = .int .i64 k ∧ Hid (Kpt w wr u (flt B (D.take k)))) (fun _ i _ => D.length - (intOf i).toNat)
  case atStart => exact ⟨0, Nat.zero_le _, rfl, by show Kpt _ _ _ _; rw [List.take_zero]; exact unhide K0⟩
  case round =>
    obtain ⟨k, hk, rfl, hkp⟩ := hrel
    clear hmk K0
    by_cases hlt : k < D.length
    · rcases unhide HA with h | ⟨b, off, rfl, hb, hcb⟩
      · rw [h] at hlt
        simp at hlt
      · have g1 := (unhide hkp).2
        have c1 := hcb k hlt
        rw [List.getElem?_eq_getElem (by simpa using hlt)] at c1
        have c2 := g1.cell c1 (fun e => by cases e)
        rw [List.getElem_map] at c2
        have hi' : (k : Int) < (D.length : Int) := by omega
        have hm := List.getElem_mem hlt
        have h1 := flt_yes (B := B) hlt
        have h2 := flt_no (B := B) hlt
        have h3 := flt_len B D k
        have hs1 := sl_one (unhide HS _ hm)
        obtain ⟨ua, ub, eu, _⟩ := unhide HS _ hm
        have cx := unhide HB _ hm wr g1
        have hkp' := unhide hkp
        obtain ⟨oa, oc, rfl⟩ := hkp'.len
        generalize flt B (D.take k) = M at *
        generalize D[k] = q at *
        obtain ⟨q1, L⟩ := q
        simp only at eu c2 cx h1 h2 hs1
        subst eu
        have KP := hide hkp'
        have S1 := hide hs1
        clear hcb HA HS HB hkp hkp' g1 c1 hm hs1
        cases hx : B L
        · rw [hx] at cx
          have CX := hide cx
          have H := hide (h2 hx)
          clear cx h1 h2 hx
          go_wp2_with fail
          refine (unhide CX).mono ?_; rintro e w2 ⟨rfl, g2⟩
          have KP2 := hide ((unhide KP).kept g2)
          clear g2 CX KP
          go_wp2_with fail
          go_roundw
          case rel => exact ⟨k + 1, by omega, by go_num, by show Kpt _ _ _ _; rw [unhide H]; exact unhide KP2⟩
          case measure => simp [intOf]; omega
        · rw [hx] at cx
          have CX := hide cx
          have H := hide (h1 hx)
          clear cx h1 h2 hx
          go_wp2_with fail
          refine (unhide CX).mono ?_; rintro e w2 ⟨rfl, g2⟩
          have KP2 := hide ((unhide KP).kept g2)
          have hM : M.length ≤ 1048576 := by omega
          clear g2 CX KP
          go_wp2_with (at_builtin; refine appendK (p := (Value.slice ua L.length ub, L)) (unhide KP2) (unhide S1) hM rfl _ _ rfl rfl rfl ?_)
          intro g3 cap3 w3 k3
          have K3 := hide k3
          clear k3
          go_wp2_with fail
          go_roundw
          case rel => exact ⟨k + 1, by omega, by go_num, by show Kpt _ _ _ _; rw [unhide H]; exact unhide K3⟩
          case measure => simp [intOf]; omega
    · have hi' : ¬ (k : Int) < (D.length : Int) := by omega
      have e1 : D.take k = D := List.take_of_length_le (by omega)
      rw [e1] at hkp
      obtain ⟨oa, oc, rfl⟩ := (unhide hkp).len
      clear HA HS HB e1
      go_wp2_with fail
      go_ret
      exact ⟨_, rfl, unhide hkp⟩

set_option maxHeartbeats 1000000 in
theorem kept_subsume (v q : Value) (D : List (Value × List Int)) (B : List Int → Bool) (w : World) (hD : D.length ≤ 1048576) (hv : Rd w v D)
    (hB : ∀ p ∈ D, ∀ w1, w.grownBy w1 none → Calls Tryd.prog 52 #[p.1, q] w1 fun e w' => e = .returned (.bool (B p.2)) ∧ w1.grownBy w' none) :
    Calls Tryd.prog 51 #[v, .func (.func 52) #[] #[q]] w fun e w' => KeptE B D w e w' := by
  obtain ⟨a, cap, rfl, ha, hs⟩ := hv
  have HA := hide ha
  have HS := hide hs
  have HB := hide hB
  have hmk := gr.mk0 D.length hD
  have K0 := hide (kpt_made w D.length hD)
  clear ha hs hB
  go_enter Tryd.func51, Tryd.ntmps51
  go_wp2_with fail
  go_loopw [5, 13] (fun u i wr => ∃ k : Nat, k ≤ D.length ∧ i = .int .i64 k ∧ Hid (Kpt w wr u (flt B (D.take k)))) (fun _ i _ => D.length - (intOf i).toNat)
  case atStart => exact ⟨0, Nat.zero_le _, rfl, by show Kpt _ _ _ _; rw [List.take_zero]; exact unhide K0⟩
  case round =>
    obtain ⟨k, hk, rfl, hkp⟩ := hrel
    clear hmk K0
    by_cases hlt : k < D.length
    · rcases unhide HA with h | ⟨b, off, rfl, hb, hcb⟩
      · rw [h] at hlt
        simp at hlt
      · have g1 := (unhide hkp).2
        have c1 := hcb k hlt
        rw [List.getElem?_eq_getElem (by simpa using hlt)] at c1
        have c2 := g1.cell c1 (fun e => by cases e)
        rw [List.getElem_map] at c2
        have hi' : (k : Int) < (D.length : Int) := by omega
        have hm := List.getElem_mem hlt
        have h1 := flt_yes (B := B) hlt
        have h2 := flt_no (B := B) hlt
        have h3 := flt_len B D k
        have hs1 := sl_one (unhide HS _ hm)
        obtain ⟨ua, ub, eu, _⟩ := unhide HS _ hm
        have cx := unhide HB _ hm wr g1
        have hkp' := unhide hkp
        obtain ⟨oa, oc, rfl⟩ := hkp'.len
        generalize flt B (D.take k) = M at *
        generalize D[k] = q at *
        obtain ⟨q1, L⟩ := q
        simp only at eu c2 cx h1 h2 hs1
        subst eu
        have KP := hide hkp'
        have S1 := hide hs1
        clear hcb HA HS HB hkp hkp' g1 c1 hm hs1
        cases hx : B L
        · rw [hx] at cx
          have CX := hide cx
          have H := hide (h2 hx)
          clear cx h1 h2 hx
          go_wp2_with fail
          refine (unhide CX).mono ?_; rintro e w2 ⟨rfl, g2⟩
          have KP2 := hide ((unhide KP).kept g2)
          clear g2 CX KP
          go_wp2_with fail
          go_roundw
          case rel => exact ⟨k + 1, by omega, by go_num, by show Kpt _ _ _ _; rw [unhide H]; exact unhide KP2⟩
          case measure => simp [intOf]; omega
        · rw [hx] at cx
          have CX := hide cx
          have H := hide (h1 hx)
          clear cx h1 h2 hx
          go_wp2_with fail
          refine (unhide CX).mono ?_; rintro e w2 ⟨rfl, g2⟩
          have KP2 := hide ((unhide KP).kept g2)
          have hM : M.length ≤ 1048576 := by omega
          clear g2 CX KP
          go_wp2_with (at_builtin; refine appendK (p := (Value.slice ua L.length ub, L)) (unhide KP2) (unhide S1) hM rfl _ _ rfl rfl rfl ?_)
          intro g3 cap3 w3 k3
          have K3 := hide k3
          clear k3
          go_wp2_with fail
          go_roundw
          case rel => exact ⟨k + 1, by omega, by go_num, by show Kpt _ _ _ _; rw [unhide H]; exact unhide K3⟩
          case measure => simp [intOf]; omega
    · have hi' : ¬ (k : Int) < (D.length : Int) := by omega
      have e1 : D.take k = D := List.take_of_length_le (by omega)
      rw [e1] at hkp
      obtain ⟨oa, oc, rfl⟩ := (unhide hkp).len
      clear HA HS HB e1
      go_wp2_with fail
      go_ret
      exact ⟨_, rfl, unhide hkp⟩

set_option maxHeartbeats 1000000 in
theorem kept_neither (v q : Value) (D : List (Value × List Int)) (B : List Int → Bool) (w : World) (hD : D.length ≤ 1048576) (hv : Rd w v D)
    (hB : ∀ p ∈ D, ∀ w1, w.grownBy w1 none → Calls Tryd.prog 72 #[p.1, q] w1 fun e w' => e = .returned (.bool (B p.2)) ∧ w1.grownBy w' none) :
    Calls Tryd.prog 51 #[v, .func (.func 72) #[] #[q]] w fun e w' => KeptE B D w e w' := by
  obtain ⟨a, cap, rfl, ha, hs⟩ := hv
  have HA := hide ha
  have HS := hide hs
  have HB := hide hB
  have hmk := gr.mk0 D.length hD
  have K0 := hide (kpt_made w D.length hD)
  clear ha hs hB
  go_enter Tryd.func51, Tryd.ntmps51
  go_wp2_with fail
  go_loopw [5, 13] (fun u i wr => ∃ k : Nat, k ≤ D.length ∧ i = .int .i64 k ∧ Hid (Kpt w wr u (flt B (D.take k)))) (fun _ i _ => D.length - (intOf i).toNat)
  case atStart => exact ⟨0, Nat.zero_le _, rfl, by show Kpt _ _ _ _; rw [List.take_zero]; exact unhide K0⟩
  case round =>
    obtain ⟨k, hk, rfl, hkp⟩ := hrel
    clear hmk K0
    by_cases hlt : k < D.length
    · rcases unhide HA with h | ⟨b, off, rfl, hb, hcb⟩
      · rw [h] at hlt
        simp at hlt
      · have g1 := (unhide hkp).2
        have c1 := hcb k hlt
        rw [List.getElem?_eq_getElem (by simpa using hlt)] at c1
        have c2 := g1.cell c1 (fun e => by cases e)
        rw [List.getElem_map] at c2
        have hi' : (k : Int) < (D.length : Int) := by omega
        have hm := List.getElem_mem hlt
        have h1 := flt_yes (B := B) hlt
        have h2 := flt_no (B := B) hlt
        have h3 := flt_len B D k
        have hs1 := sl_one (unhide HS _ hm)
        obtain ⟨ua, ub, eu, _⟩ := unhide HS _ hm
        have cx := unhide HB _ hm wr g1
        have hkp' := unhide hkp
        obtain ⟨oa, oc, rfl⟩ := hkp'.len
        generalize flt B (D.take k) = M at *
        generalize D[k] = q at *
        obtain ⟨q1, L⟩ := q
        simp only at eu c2 cx h1 h2 hs1
        subst eu
        have KP := hide hkp'
        have S1 := hide hs1
        clear hcb HA HS HB hkp hkp' g1 c1 hm hs1
        cases hx : B L
        · rw [hx] at cx
          have CX := hide cx
          have H := hide (h2 hx)
          clear cx h1 h2 hx
          go_wp2_with fail
          refine (unhide CX).mono ?_; rintro e w2 ⟨rfl, g2⟩
          have KP2 := hide ((unhide KP).kept g2)
          clear g2 CX KP
          go_wp2_with fail
          go_roundw
          case rel => exact ⟨k + 1, by omega, by go_num, by show Kpt _ _ _ _; rw [unhide H]; exact unhide KP2⟩
          case measure => simp [intOf]; omega
        · rw [hx] at cx
          have CX := hide cx
          have H := hide (h1 hx)
          clear cx h1 h2 hx
          go_wp2_with fail
          refine (unhide CX).mono ?_; rintro e w2 ⟨rfl, g2⟩
          have KP2 := hide ((unhide KP).kept g2)
          have hM : M.length ≤ 1048576 := by omega
          clear g2 CX KP
          go_wp2_with (at_builtin; refine appendK (p := (Value.slice ua L.length ub, L)) (unhide KP2) (unhide S1) hM rfl _ _ rfl rfl rfl ?_)
          intro g3 cap3 w3 k3
          have K3 := hide k3
          clear k3
          go_wp2_with fail
          go_roundw
          case rel => exact ⟨k + 1, by omega, by go_num, by show Kpt _ _ _ _; rw [unhide H]; exact unhide K3⟩
          case measure => simp [intOf]; omega
    · have hi' : ¬ (k : Int) < (D.length : Int) := by omega
      have e1 : D.take k = D := List.take_of_length_le (by omega)
      rw [e1] at hkp
      obtain ⟨oa, oc, rfl⟩ := (unhide hkp).len
      clear HA HS HB e1
      go_wp2_with fail
      go_ret
      exact ⟨_, rfl, unhide hkp⟩

set_option maxHeartbeats 1000000 in
theorem kept_part (v q : Value) (D : List (Value × List Int)) (B : List Int → Bool) (w : World) (hD : D.length ≤ 1048576) (hv : Rd w v D)
    (hB : ∀ p ∈ D, ∀ w1, w.grownBy w1 none → Calls Tryd.prog 95 #[p.1, q] w1 fun e w' => e = .returned (.bool (B p.2)) ∧ w1.grownBy w' none) :
    Calls Tryd.prog 51 #[v, .func (.func 95) #[] #[q]] w fun e w' => KeptE B D w e w' := by
  obtain ⟨a, cap, rfl, ha, hs⟩ := hv
  have HA := hide ha
  have HS := hide hs
  have HB := hide hB
  have hmk := gr.mk0 D.length hD
  have K0 := hide (kpt_made w D.length hD)
  clear ha hs hB
  go_enter Tryd.func51, Tryd.ntmps51
  go_wp2_with fail
  go_loopw [5, 13] (fun u i wr => ∃ k : Nat, k ≤ D.length ∧ i = .int .i64 k ∧ Hid (Kpt w wr u (flt B (D.take k)))) (fun _ i _ => D.length - (intOf i).toNat)
  case atStart => exact ⟨0, Nat.zero_le _, rfl, by show Kpt _ _ _ _; rw [List.take_zero]; exact unhide K0⟩
  case round =>
    obtain ⟨k, hk, rfl, hkp⟩ := hrel
    clear hmk K0
    by_cases hlt : k < D.length
    · rcases unhide HA with h | ⟨b, off, rfl, hb, hcb⟩
      · rw [h] at hlt
        simp at hlt
      · have g1 := (unhide hkp).2
        have c1 := hcb k hlt
        rw [List.getElem?_eq_getElem (by simpa using hlt)] at c1
        have c2 := g1.cell c1 (fun e => by cases e)
        rw [List.getElem_map] at c2
        have hi' : (k : Int) < (D.length : Int) := by omega
        have hm := List.getElem_mem hlt
        have h1 := flt_yes (B := B) hlt
        have h2 := flt_no (B := B) hlt
        have h3 := flt_len B D k
        have hs1 := sl_one (unhide HS _ hm)
        obtain ⟨ua, ub, eu, _⟩ := unhide HS _ hm
        have cx := unhide HB _ hm wr g1
        have hkp' := unhide hkp
        obtain ⟨oa, oc, rfl⟩ := hkp'.len
        generalize flt B (D.take k) = M at *
        generalize D[k] = q at *
        obtain ⟨q1, L⟩ := q
        simp only at eu c2 cx h1 h2 hs1
        subst eu
        have KP := hide hkp'
        have S1 := hide hs1
        clear hcb HA HS HB hkp hkp' g1 c1 hm hs1
        cases hx : B L
        · rw [hx] at cx
          have CX := hide cx
          have H := hide (h2 hx)
          clear cx h1 h2 hx
          go_wp2_with fail
          refine (unhide CX).mono ?_; rintro e w2 ⟨rfl, g2⟩
          have KP2 := hide ((unhide KP).kept g2)
          clear g2 CX KP
          go_wp2_with fail
          go_roundw
          case rel => exact ⟨k + 1, by omega, by go_num, by show Kpt _ _ _ _; rw [unhide H]; exact unhide KP2⟩
          case measure => simp [intOf]; omega
        · rw [hx] at cx
          have CX := hide cx
          have H := hide (h1 hx)
          clear cx h1 h2 hx
          go_wp2_with fail
          refine (unhide CX).mono ?_; rintro e w2 ⟨rfl, g2⟩
          have KP2 := hide ((unhide KP).kept g2)
          have hM : M.length ≤ 1048576 := by omega
          clear g2 CX KP
          go_wp2_with (at_builtin; refine appendK (p := (Value.slice ua L.length ub, L)) (unhide KP2) (unhide S1) hM rfl _ _ rfl rfl rfl ?_)
          intro g3 cap3 w3 k3
          have K3 := hide k3
          clear k3
          go_wp2_with fail
          go_roundw
          case rel => exact ⟨k + 1, by omega, by go_num, by show Kpt _ _ _ _; rw [unhide H]; exact unhide K3⟩
          case measure => simp [intOf]; omega
    · have hi' : ¬ (k : Int) < (D.length : Int) := by omega
      have e1 : D.take k = D := List.take_of_length_le (by omega)
      rw [e1] at hkp
      obtain ⟨oa, oc, rfl⟩ := (unhide hkp).len
      clear HA HS HB e1
      go_wp2_with fail
      go_ret
      exact ⟨_, rfl, unhide hkp⟩

set_option maxHeartbeats 1000000 in
theorem kept_many (v : Value) (D : List (Value × List Int)) (B : List Int → Bool) (w : World) (hD : D.length ≤ 1048576) (hv : Rd w v D)
    (hB : ∀ p ∈ D, ∀ w1, w.grownBy w1 none → Calls Tryd.prog 99 #[p.1] w1 fun e w' => e = .returned (.bool (B p.2)) ∧ w1.grownBy w' none) :
    Calls Tryd.prog 51 #[v, .func (.func 99) #[] #[]] w fun e w' => KeptE B D w e w' := by
  obtain ⟨a, cap, rfl, ha, hs⟩ := hv
  have HA := hide ha
  have HS := hide hs
  have HB := hide hB
  have hmk := gr.mk0 D.length hD
  have K0 := hide (kpt_made w D.length hD)
  clear ha hs hB
  go_enter Tryd.func51, Tryd.ntmps51
  go_wp2_with fail
  go_loopw [5, 13] (fun u i wr => ∃ k : Nat, k ≤ D.length ∧ i = .int .i64 k ∧ Hid (Kpt w wr u (flt B (D.take k)))) (fun _ i _ => D.length - (intOf i).toNat)
  case atStart => exact ⟨0, Nat.zero_le _, rfl, by show Kpt _ _ _ _; rw [List.take_zero]; exact unhide K0⟩
  case round =>
    obtain ⟨k, hk, rfl, hkp⟩ := hrel
    clear hmk K0
    by_cases hlt : k < D.length
    · rcases unhide HA with h | ⟨b, off, rfl, hb, hcb⟩
      · rw [h] at hlt
        simp at hlt
      · have g1 := (unhide hkp).2
        have c1 := hcb k hlt
        rw [List.getElem?_eq_getElem (by simpa using hlt)] at c1
        have c2 := g1.cell c1 (fun e => by cases e)
        rw [List.getElem_map] at c2
        have hi' : (k : Int) < (D.length : Int) := by omega
        have hm := List.getElem_mem hlt
        have h1 := flt_yes (B := B) hlt
        have h2 := flt_no (B := B) hlt
        have h3 := flt_len B D k
        have hs1 := sl_one (unhide HS _ hm)
        obtain ⟨ua, ub, eu, _⟩ := unhide HS _ hm
        have cx := unhide HB _ hm wr g1
        have hkp' := unhide hkp
        obtain ⟨oa, oc, rfl⟩ := hkp'.len
        generalize flt B (D.take k) = M at *
        generalize D[k] = q at *
        obtain ⟨q1, L⟩ := q
        simp only at eu c2 cx h1 h2 hs1
        subst eu
        have KP := hide hkp'
        have S1 := hide hs1
        clear hcb HA HS HB hkp hkp' g1 c1 hm hs1
        cases hx : B L
        · rw [hx] at cx
          have CX := hide cx
          have H := hide (h2 hx)
          clear cx h1 h2 hx
          go_wp2_with fail
          refine (unhide CX).mono ?_; rintro e w2 ⟨rfl, g2⟩
          have KP2 := hide ((unhide KP).kept g2)
          clear g2 CX KP
          go_wp2_with fail
          go_roundw
          case rel => exact ⟨k + 1, by omega, by go_num, by show Kpt _ _ _ _; rw [unhide H]; exact unhide KP2⟩
          case measure => simp [intOf]; omega
        · rw [hx] at cx
          have CX := hide cx
          have H := hide (h1 hx)
          clear cx h1 h2 hx
          go_wp2_with fail
          refine (unhide CX).mono ?_; rintro e w2 ⟨rfl, g2⟩
          have KP2 := hide ((unhide KP).kept g2)
          have hM : M.length ≤ 1048576 := by omega
          clear g2 CX KP
          go_wp2_with (at_builtin; refine appendK (p := (Value.slice ua L.length ub, L)) (unhide KP2) (unhide S1) hM rfl _ _ rfl rfl rfl ?_)
          intro g3 cap3 w3 k3
          have K3 := hide k3
          clear k3
          go_wp2_with fail
          go_roundw
          case rel => exact ⟨k + 1, by omega, by go_num, by show Kpt _ _ _ _; rw [unhide H]; exact unhide K3⟩
          case measure => simp [intOf]; omega
    · have hi' : ¬ (k : Int) < (D.length : Int) := by omega
      have e1 : D.take k = D := List.take_of_length_le (by omega)
      rw [e1] at hkp
      obtain ⟨oa, oc, rfl⟩ := (unhide hkp).len
      clear HA HS HB e1
      go_wp2_with fail
      go_ret
      exact ⟨_, rfl, unhide hkp⟩
end Go.Proofs.YtibpnocpafppaaaDoor.gb
