/- 'append(a, b...)' where both lie in memory of the call's own: lists of numbers, and lists of lists; no condition but on sizes. -/
import Derived.Test.YtibpnocpafppaaaDoorGr
import Derived.Test.YtibpnocpafppaaaDoorWo
import Derived.Laws.AppendOwnNone
namespace Go.Proofs.YtibpnocpafppaaaDoor.app
open Go.ChangeShapes Go.WideShapes Go.ChangeAt Go.RowKit
open Go.Proofs.YtibpnocpafppaaaDoor.sl (Sl Own ints marks hide unhide ret_int ret_bool grown_refl grown_trans grown_drewN below_of of_below)
open Go.Proofs.YtibpnocpafppaaaDoor.css (Sls OwnS Outs tot sumLen marksS Apart own_ne own_ne' own_kind own_mono infoSl)
open Go.Proofs.YtibpnocpafppaaaDoor.cf (Box)
open Go.Proofs.YtibpnocpafppaaaDoor.wo (Made)
set_option linter.unusedVariables false

theorem ints_append (L M : List Int) : ints (L ++ M) = ints L ++ ints M := by simp [ints]
theorem made_nil (w : World) : Made w (w.alloc (.cells #[] 3)) (.slice (some ⟨w.heap.size, 0, none⟩) 0 0) [] :=
  ⟨World.ownsRow_lit w #[] 0 (Nat.le_refl _) (Nat.zero_le _) rfl, World.grownBy_alloc _ _ _⟩
theorem wp_none {w : World} {o : Oper} {a : Act} {K : Act → World → Prop} {Q : Exit → Act → World → Prop} (s x : Operand) (t : TypeId) (ho : o.op = .call { callee := .builtin .append, args := #[s, x], argTypes := #[t, t] })
    (base : Nat) (e : TypeId) (i : TypeInfo) (size : Nat) (ht : Tryd.prog.underlying t = some (.slice e)) (hi : Tryd.prog.info? e = some i)
    (v : Value) (n : Nat) (xs : List Value) (hs : a.eval s = v) (hown : w.ownsRow base e size v n xs) (hx : a.eval x = .slice none 0 0) (h : K (a.put o.dst v) w) : o.wp Tryd.prog a w K Q := by
  have hrun := run_append_owned_none (P := Tryd.prog) (w := w) base t o.type e i size ht hi v n xs hown
  unfold Oper.wp
  simp [execOp, ho, resolve, invoke, builtin, hs, hx, hrun, Result.andThen]
  exact h

/-- numbers behind numbers -/
theorem wpI {o : Oper} {a : Act} {K : Act → World → Prop} {Q : Exit → Act → World → Prop} {w wr : World} {va vb : Value} {A B : List Int} {lo hi : Nat}
    (hg : w.grownBy wr none) (hA : wr.ownsRow w.heap.size 3 1 va A.length (ints A)) (hB : Own lo hi wr vb B) (hl : A.length + B.length ≤ 4194304) (s x : Operand)
    (ho : o.op = .call { callee := .builtin .append, args := #[s, x], argTypes := #[31, 31] }) (hs : a.eval s = va) (hx : a.eval x = vb)
    (h : ∀ v' w1, Made w w1 v' (A ++ B) → wr.grownBy w1 va.ownBlock → K (a.put o.dst v') w1) : o.wp Tryd.prog a wr K Q := by
  obtain ⟨i0, hi, hz0, hz1, hz2⟩ := info_parts sl.info3
  have hsz := hg.size
  have hB' := hB.1
  obtain ⟨_, h2⟩ := hB'
  rcases h2 with ⟨rfl, h0⟩ | ⟨g, cap, cur, rfl, hgb, hh, hn, hm, hsc, ht⟩
  · have e : B = [] := List.eq_nil_of_length_eq_zero h0
    subst e
    refine wp_none s x 31 ho w.heap.size 3 i0 1 Tryd.underlying31 hi va A.length (ints A) hs hA hx ?_
    refine h va wr ⟨?_, hg⟩ ⟨rfl, rfl, rfl, Nat.le_refl _, fun _ _ _ => rfl⟩
    rw [List.append_nil]
    exact hA
  · refine wp_append_own _ s x 31 ho w.heap.size 3 i0 (.int .i64 0) 1 8 Tryd.underlying31 hi hz0 hz1 hz2 rfl (by decide) va A.length (ints A) hs hA ⟨g, 0, none⟩ B.length cap (ints B) hx (by rw [sl.ints_length]; omega) ?_ ?_ ?_ ?_ ?_ ?_
    · intro j u hj
      rw [Addr.add_lit, Nat.zero_add]
      have hjl : j < B.length := by
        have := (List.getElem?_eq_some_iff.1 hj).1
        rwa [sl.ints_length] at this
      rw [hB.1.cellAt j (by omega)]
      exact hj
    · exact ints_oneCell .i64 B
    · unfold maxLen
      omega
    · omega
    · exact hsz
    · intro v' w1 hown' hgrow _
      refine h v' w1 ⟨?_, ⟨hgrow.os.trans hg.os, hgrow.tape.trans hg.tape, hgrow.output.trans hg.output, Nat.le_trans hsz hgrow.size, fun k hk _ => ?_⟩⟩ hgrow
      · rw [List.length_append, ints_append]
        exact hown'
      · rw [hgrow.block k (by omega) (fun e => by have := (hA.lt k e.symm).1; omega)]
        exact hg.block k hk (fun e => by cases e)
theorem stepI {ops : Array Oper} {E : Prop} {o : Oper} {a : Act} {K : Act → World → Prop} {Q : Exit → Act → World → Prop} {w wr : World} {va vb : Value} {A B : List Int} {lo hi : Nat}
    (hg : w.grownBy wr none) (hA : wr.ownsRow w.heap.size 3 1 va A.length (ints A)) (hB : Own lo hi wr vb B) (hl : A.length + B.length ≤ 4194304) (hgd : o.guard = none) (s x : Operand)
    (ho : o.op = .call { callee := .builtin .append, args := #[s, x], argTypes := #[31, 31] }) (hs : a.eval s = va) (hx : a.eval x = vb)
    (h : ∀ v' w1, Made w w1 v' (A ++ B) → wr.grownBy w1 va.ownBlock → K (a.put o.dst v') w1) : if Region.wanted o (yielded ops a.tmps) = true then Oper.wp Tryd.prog o a wr K Q else E := by
  rw [if_pos (by simp [Region.wanted, hgd])]
  exact wpI hg hA hB hl s x ho hs hx h
theorem appendI {ops : Array Oper} {rest : List Oper} {o : Oper} {a : Act} {Q : Exit → Act → World → Prop} {w wr : World} {va vb : Value} {A B : List Int} {lo hi : Nat}
    (hg : w.grownBy wr none) (hA : wr.ownsRow w.heap.size 3 1 va A.length (ints A)) (hB : Own lo hi wr vb B) (hl : A.length + B.length ≤ 4194304) (hgd : o.guard = none) (s x : Operand)
    (ho : o.op = .call { callee := .builtin .append, args := #[s, x], argTypes := #[31, 31] }) (hs : a.eval s = va) (hx : a.eval x = vb)
    (h : ∀ v' w1, Made w w1 v' (A ++ B) → wr.grownBy w1 va.ownBlock → wpList Tryd.prog ops Q rest (a.put o.dst v') w1) : wpList Tryd.prog ops Q (o :: rest) a wr :=
  wpList_plain hgd fun K hK => wpI hg hA hB hl s x ho hs hx fun v' w1 m g => hK _ _ (h v' w1 m g)

/-- lists behind lists -/
theorem wpJ {o : Oper} {a : Act} {K : Act → World → Prop} {Q : Exit → Act → World → Prop} {wr : World} {va vb : Value} {A B : List (List Int)} {lo mid mid' hi : Nat}
    (hA : OwnS lo mid wr va A) (hB : OwnS mid' hi wr vb B) (hm : mid ≤ mid') (hlo : lo ≤ mid') (hh : hi ≤ wr.heap.size) (hls : lo ≤ wr.heap.size) (hl : A.length + B.length ≤ 1048576) (s x : Operand)
    (ho : o.op = .call { callee := .builtin .append, args := #[s, x], argTypes := #[24, 24] }) (hs : a.eval s = va) (hx : a.eval x = vb)
    (h : ∀ v' w1, OwnS lo w1.heap.size w1 v' (A ++ B) → wr.grownBy w1 va.ownBlock → K (a.put o.dst v') w1) : o.wp Tryd.prog a wr K Q := by
  obtain ⟨i0, hi0, hz0, hz1, hz2⟩ := info_parts infoSl
  have hA0 := hA
  obtain ⟨D, rfl, hw, hb, hin, hp⟩ := hA
  obtain ⟨E, rfl, hw', hb', hin', hp'⟩ := hB
  simp only [List.length_map] at hl
  have key : ∀ v' w1, w1.ownsRow lo 31 1 v' (D.length + E.length) (D.map (·.1) ++ E.map (·.1)) → wr.grownBy w1 va.ownBlock → K (a.put o.dst v') w1 := by
    intro v' w1 hown hgrow
    have sz := hgrow.size
    refine h v' w1 ⟨D ++ E, by simp, ?_, fun k e => (hown.lt k e).2, ?_, ?_⟩ hgrow
    · rw [List.length_append, List.map_append]
      exact hown
    · intro p hp''
      rw [List.mem_append] at hp''
      rcases hp'' with hp'' | hp''
      · exact ⟨(hin p hp'').1.kept hgrow (own_ne' hw (hin p hp'').1), fun k e => by have := ((hin p hp'').1.lt k e).2; omega⟩
      · exact ⟨(own_mono (hin' p hp'').1 hlo).kept hgrow (own_ne' hw (hin' p hp'').1), fun k e => by have := ((hin' p hp'').1.lt k e).2; omega⟩
    · rw [List.pairwise_append]
      refine ⟨hp, hp', fun p hp1 q hq => ?_⟩
      intro k e e'
      have h1 := (hin p hp1).2 k e
      have h2 := ((hin' q hq).1.lt k e').1
      omega
  have hw2 := hw'
  obtain ⟨_, h2⟩ := hw'
  rcases h2 with ⟨rfl, h0⟩ | ⟨g, cap, cur, rfl, hgb, hhh, hn, hmm, hsc, ht⟩
  · have e : E = [] := List.eq_nil_of_length_eq_zero h0
    subst e
    refine wp_none s x 24 ho lo 31 i0 1 Tryd.underlying24 hi0 va D.length (D.map (·.1)) hs hw hx ?_
    refine key va wr ?_ ⟨rfl, rfl, rfl, Nat.le_refl _, fun _ _ _ => rfl⟩
    simpa using hw
  · refine wp_append_own _ s x 24 ho lo 31 i0 (.slice none 0 0) 1 24 Tryd.underlying24 hi0 hz0 hz1 hz2 rfl (by decide) va D.length (D.map (·.1)) hs hw ⟨g, 0, none⟩ E.length cap (E.map (·.1)) hx (by rw [List.length_map]; omega) ?_ ?_ ?_ ?_ ?_ ?_
    · intro j u hj
      rw [Addr.add_lit, Nat.zero_add]
      have hjl : j < E.length := by
        have := (List.getElem?_eq_some_iff.1 hj).1
        rwa [List.length_map] at this
      rw [hw2.cellAt j (by omega)]
      exact hj
    · intro u hu
      rw [List.mem_map] at hu
      obtain ⟨p, hp1, rfl⟩ := hu
      exact gr.own_one (hin' p hp1)
    · unfold maxLen
      omega
    · omega
    · exact hls
    · intro v' w1 hown' hgrow _
      exact key v' w1 hown' hgrow
theorem stepJ {ops : Array Oper} {E : Prop} {o : Oper} {a : Act} {K : Act → World → Prop} {Q : Exit → Act → World → Prop} {wr : World} {va vb : Value} {A B : List (List Int)} {lo mid mid' hi : Nat}
    (hA : OwnS lo mid wr va A) (hB : OwnS mid' hi wr vb B) (hm : mid ≤ mid') (hlo : lo ≤ mid') (hh : hi ≤ wr.heap.size) (hls : lo ≤ wr.heap.size) (hl : A.length + B.length ≤ 1048576) (hgd : o.guard = none) (s x : Operand)
    (ho : o.op = .call { callee := .builtin .append, args := #[s, x], argTypes := #[24, 24] }) (hs : a.eval s = va) (hx : a.eval x = vb)
    (h : ∀ v' w1, OwnS lo w1.heap.size w1 v' (A ++ B) → wr.grownBy w1 va.ownBlock → K (a.put o.dst v') w1) : if Region.wanted o (yielded ops a.tmps) = true then Oper.wp Tryd.prog o a wr K Q else E := by
  rw [if_pos (by simp [Region.wanted, hgd])]
  exact wpJ hA hB hm hlo hh hls hl s x ho hs hx h

/-- one of the lists: where it lies -/
theorem own_at {lo hi : Nat} {w : World} {v : Value} {LL : List (List Int)} (h : OwnS lo hi w v LL) (k : Nat) (hk : k < LL.length) :
    ∃ g cap u, v = .slice (some ⟨g, 0, none⟩) LL.length cap ∧ g < hi ∧ w.cell? ⟨g, k, none⟩ = some u ∧ Own lo hi w u (LL.getD k []) := by
  obtain ⟨D, rfl, hw, hb, hin, hp⟩ := h
  rw [List.length_map] at *
  have hw' := hw
  obtain ⟨_, h2⟩ := hw
  rcases h2 with ⟨rfl, h0⟩ | ⟨g, cap, cur, rfl, _⟩
  · omega
  · refine ⟨g, cap, D[k].1, rfl, hb g rfl, ?_, ?_⟩
    · rw [hw'.cellAt k (by omega)]
      simp [hk]
    · rw [css.map2_getD hk]
      exact hin _ (List.getElem_mem hk)
theorem grown_app {w w1 w2 : World} {o : Obj} {v : Value} {n : Nat} {xs : List Value} {t : TypeId} (g : w.grownBy w1 none) (hw : w1.ownsRow w.heap.size t 1 v n xs) (g1 : (w1.alloc o).grownBy w2 v.ownBlock) : w.grownBy w2 none := by
  have hgA : w.grownBy (w1.alloc o) none := grown_trans g (World.grownBy_alloc w1 o none)
  exact ⟨g1.os.trans hgA.os, g1.tape.trans hgA.tape, g1.output.trans hgA.output, Nat.le_trans hgA.size g1.size, fun k hk _ => by
    rw [g1.block k (Nat.lt_of_lt_of_le hk hgA.size) (fun e => by have := (hw.lt k e.symm).1; omega)]
    exact hgA.block k hk (fun e => by cases e)⟩
theorem grown_appS {lo hi : Nat} {w w1 w2 : World} {o : Obj} {v : Value} {LL : List (List Int)} (g : w.grownBy w1 none) (h : OwnS w.heap.size hi w1 v LL) (g1 : (w1.alloc o).grownBy w2 v.ownBlock) : w.grownBy w2 none := by
  obtain ⟨D, rfl, hw, _⟩ := h
  exact grown_app g hw g1
theorem grown_joinS {hi : Nat} {w w1 w2 : World} {v : Value} {LL : List (List Int)} (g : w.grownBy w1 none) (h : OwnS w.heap.size hi w1 v LL) (g1 : w1.grownBy w2 v.ownBlock) : w.grownBy w2 none := by
  obtain ⟨D, rfl, hw, _⟩ := h
  exact ⟨g1.os.trans g.os, g1.tape.trans g.tape, g1.output.trans g.output, Nat.le_trans g.size g1.size, fun k hk _ => by
    rw [g1.block k (Nat.lt_of_lt_of_le hk g.size) (fun e => by have := (hw.lt k e.symm).1; omega)]
    exact g.block k hk (fun e => by cases e)⟩

set_option maxHeartbeats 800000 in
/-- impl.copyLists: the same lists, in memory of their own -/
theorem copyLists (v : Value) (LL : List (List Int)) (lo hi : Nat) (w : World) (hn : tot LL ≤ 1048576) (hv : OwnS lo hi w v LL) :
    Calls Tryd.prog 96 #[v] w fun e w' => ∃ u, e = .returned u ∧ OwnS w.heap.size w'.heap.size w' u LL ∧ w.grownBy w' none := by
  have hl := Nat.le_trans (css.tot_len LL) hn
  obtain ⟨a, cap, rfl⟩ := hv.len
  have HV := hide hv
  have hmk := gr.mk0 LL.length hl
  have hp : (0 : Int) ≤ (LL.length : Int) := Int.natCast_nonneg _
  have st := hide (And.intro ((gr.ownS_made w LL.length w.heap.size (Nat.le_refl _) hl)) (World.grownBy_alloc w (.cells (madeCells #[.slice none 0 0] LL.length) 31) none))
  clear hv
  go_enter Tryd.func96, Tryd.ntmps96
  go_wp2
  clear hmk
  go_loopw [3, 11] (fun u i wr => ∃ k : Nat, k ≤ LL.length ∧ i = .int .i64 k ∧ Hid (OwnS w.heap.size wr.heap.size wr u (LL.take k) ∧ w.grownBy wr none)) (fun _ i _ => LL.length - (intOf i).toNat)
  case atStart => exact ⟨0, Nat.zero_le _, rfl, by obtain ⟨h1, h2⟩ := unhide st; exact ⟨h1.sub (Nat.le_refl _) (by rw [World.size_alloc]; exact Nat.le_refl _), h2⟩⟩
  case round =>
    obtain ⟨k, hk, rfl, hm⟩ := hrel
    clear st
    by_cases hlt : k < LL.length
    · obtain ⟨g, cap', u', e, hgl, c0, hu0⟩ := own_at ((unhide HV).kept (unhide hm).2) k hlt
      simp only [Value.slice.injEq] at e
      obtain ⟨rfl, _, rfl⟩ := e
      have hi' : (k : Int) < (LL.length : Int) := by omega
      have hL := Nat.le_trans (css.tot_in LL k) hn
      have hts := css.take_snoc LL k hlt
      have hM : (LL.take k).length ≤ 1048576 := by rw [List.length_take]; omega
      generalize LL.getD k [] = L at *
      generalize LL.take k = M at *
      have HT := hide hts
      obtain ⟨ua, uc, e1, _⟩ := hu0.sl
      subst e1
      have mn := made_nil wr
      have U0 := hide (hu0.kept mn.2)
      have MN := hide mn
      obtain ⟨oa, oc, e2⟩ := (unhide hm).1.len
      subst e2
      clear hu0 hts HV mn
      go_wp2_with (at_builtin; refine appendI (A := []) (unhide MN).2 (unhide MN).1 (unhide U0) (by show 0 + L.length ≤ 4194304; omega) rfl _ _ rfl rfl rfl ?_)
      intro y w1 m1 g1
      have m1' : Made wr w1 y L := m1
      obtain ⟨ya, yc, e3, _⟩ := sl.Sl.of_own m1'.1
      subst e3
      have Y1 := hide (Own.of m1'.1)
      have G1 := hide m1'.2
      have O1 := hide ((unhide hm).1.kept m1'.2)
      have GW := hide (grown_trans (r := none) (unhide hm).2 m1'.2)
      have s1 := hide (unhide hm).2.size
      clear m1 m1' g1 MN U0 hm
      go_wp2_with (at_builtin; refine gr.appendR (unhide O1) (unhide Y1) (unhide s1) (unhide G1).size hM rfl _ _ rfl rfl rfl ?_)
      intro g2 cap2 w2 o2 gr2
      have R := hide (And.intro o2 (grown_appS (lo := 0) (unhide GW) (unhide O1) gr2))
      rw [← unhide HT] at R
      clear o2 gr2 O1 Y1 GW G1 s1
      go_wp2
      go_roundw
      case rel => exact ⟨k + 1, by omega, by go_num, R⟩
      case measure => simp [intOf]; omega
    · have hi' : ¬ (k : Int) < (LL.length : Int) := by omega
      have e : LL.take k = LL := List.take_of_length_le (by omega)
      rw [e] at hm
      clear HV e
      go_wp2
      go_ret
      exact ⟨_, rfl, unhide hm⟩
end Go.Proofs.YtibpnocpafppaaaDoor.app
