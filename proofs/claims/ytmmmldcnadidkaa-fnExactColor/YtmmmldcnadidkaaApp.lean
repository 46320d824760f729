/- 'append(a, b...)' where both lie in memory of the call's own: lists of numbers, and lists of lists; no condition but on sizes. -/
import Derived.Test.YtmmmldcnadidkaaGr
import Derived.Test.YtmmmldcnadidkaaWo
import Derived.Laws.AppendOwnNone
namespace Go.Proofs.Ytmmmldcnadidkaa.app
open Go.ChangeShapes Go.WideShapes Go.ChangeAt Go.RowKit
open Go.Proofs.Ytmmmldcnadidkaa.sl (Sl Own ints marks hide unhide ret_int ret_bool grown_refl grown_trans grown_drewN below_of of_below)
open Go.Proofs.Ytmmmldcnadidkaa.css (Sls OwnS Outs tot sumLen marksS Apart own_ne own_ne' own_kind own_mono infoSl)
open Go.Proofs.Ytmmmldcnadidkaa.cf (Box)
open Go.Proofs.Ytmmmldcnadidkaa.wo (Made)
set_option linter.unusedVariables false

theorem ints_append (L M : List Int) : ints (L ++ M) = ints L ++ ints M := by simp [ints]
theorem made_nil (w : World) : Made w (w.alloc (.cells #[] 3)) (.slice (some ⟨w.heap.size, 0, none⟩) 0 0) [] :=
  ⟨World.ownsRow_lit w #[] 0 (Nat.le_refl _) (Nat.zero_le _) rfl, World.grownBy_alloc _ _ _⟩
theorem wp_none {w : World} {o : Oper} {a : Act} {K : Act → World → Prop} {Q : Exit → Act → World → Prop} (s x : Operand) (t : TypeId) (ho : o.op = .call { callee := .builtin .append, args := #[s, x], argTypes := #[t, t] })
    (base : Nat) (e : TypeId) (i : TypeInfo) (size : Nat) (ht : Try.prog.underlying t = some (.slice e)) (hi : Try.prog.info? e = some i)
    (v : Value) (n : Nat) (xs : List Value) (hs : a.eval s = v) (hown : w.ownsRow base e size v n xs) (hx : a.eval x = .slice none 0 0) (h : K (a.put o.dst v) w) : o.wp Try.prog a w K Q := by
  have hrun := run_append_owned_none (P := Try.prog) (w := w) base t o.type e i size ht hi v n xs hown
  unfold Oper.wp
  simp [execOp, ho, resolve, invoke, builtin, hs, hx, hrun, Result.andThen]
  exact h

/-- numbers behind numbers -/
theorem wpI {o : Oper} {a : Act} {K : Act → World → Prop} {Q : Exit → Act → World → Prop} {w wr : World} {va vb : Value} {A B : List Int} {lo hi : Nat}
    (hg : w.grownBy wr none) (hA : wr.ownsRow w.heap.size 3 1 va A.length (ints A)) (hB : Own lo hi wr vb B) (hl : A.length + B.length ≤ 4194304) (s x : Operand)
    (ho : o.op = .call { callee := .builtin .append, args := #[s, x], argTypes := #[35, 35] }) (hs : a.eval s = va) (hx : a.eval x = vb)
    (h : ∀ v' w1, Made w w1 v' (A ++ B) → wr.grownBy w1 va.ownBlock → K (a.put o.dst v') w1) : o.wp Try.prog a wr K Q := by
  obtain ⟨i0, hi, hz0, hz1, hz2⟩ := info_parts sl.info3
  have hsz := hg.size
  have hB' := hB.1
  obtain ⟨_, h2⟩ := hB'
  rcases h2 with ⟨rfl, h0⟩ | ⟨g, cap, cur, rfl, hgb, hh, hn, hm, hsc, ht⟩
  · have e : B = [] := List.eq_nil_of_length_eq_zero h0
    subst e
    refine wp_none s x 35 ho w.heap.size 3 i0 1 Try.underlying35 hi va A.length (ints A) hs hA hx ?_
    refine h va wr ⟨?_, hg⟩ ⟨rfl, rfl, rfl, Nat.le_refl _, fun _ _ _ => rfl⟩
    rw [List.append_nil]
    exact hA
  · refine wp_append_own _ s x 35 ho w.heap.size 3 i0 (.int .i64 0) 1 8 Try.underlying35 hi hz0 hz1 hz2 rfl (by decide) va A.length (ints A) hs hA ⟨g, 0, none⟩ B.length cap (ints B) hx (by rw [sl.ints_length]; omega) ?_ ?_ ?_ ?_ ?_ ?_
    · intro j u hj
      rw [Addr.add_lit, Nat.zero_add]
      have hjl : j < B.length := by
        have := (List.getElem?_eq_some_iff.1 hj).1
        rwa [sl.ints_length] at this
      rw [hB.1.cellAt j (by omega)]
      exact hj
    · exact ints_oneCell .i64 B
    · unfold maxLen
      omega
    · omega
    · exact hsz
    · intro v' w1 hown' hgrow _
      refine h v' w1 ⟨?_, ⟨hgrow.os.trans hg.os, hgrow.tape.trans hg.tape, hgrow.output.trans hg.output, Nat.le_trans hsz hgrow.size, fun k hk _ => ?_⟩⟩ hgrow
      · rw [List.length_append, ints_append]
        exact hown'
      · rw [hgrow.block k (by omega) (fun e => by have := (hA.lt k e.symm).1; omega)]
        exact hg.block k hk (fun e => by cases e)
theorem stepI {ops : Array Oper} {E : Prop} {o : Oper} {a : Act} {K : Act → World → Prop} {Q : Exit → Act → World → Prop} {w wr : World} {va vb : Value} {A B : List Int} {lo hi : Nat}
    (hg : w.grownBy wr none) (hA : wr.ownsRow w.heap.size 3 1 va A.length (ints A)) (hB : Own lo hi wr vb B) (hl : A.length + B.length ≤ 4194304) (hgd : o.guard = none) (s x : Operand)
    (ho : o.op = .call { callee := .builtin .append, args := #[s, x], argTypes := #[35, 35] }) (hs : a.eval s = va) (hx : a.eval x = vb)
    (h : ∀ v' w1, Made w w1 v' (A ++ B) → wr.grownBy w1 va.ownBlock → K (a.put o.dst v') w1) : if Region.wanted o (yielded ops a.tmps) = true then Oper.wp Try.prog o a wr K Q else E := by
  rw [if_pos (by simp [Region.wanted, hgd])]
  exact wpI hg hA hB hl s x ho hs hx h
theorem appendI {ops : Array Oper} {rest : List Oper} {o : Oper} {a : Act} {Q : Exit → Act → World → Prop} {w wr : World} {va vb : Value} {A B : List Int} {lo hi : Nat}
    (hg : w.grownBy wr none) (hA : wr.ownsRow w.heap.size 3 1 va A.length (ints A)) (hB : Own lo hi wr vb B) (hl : A.length + B.length ≤ 4194304) (hgd : o.guard = none) (s x : Operand)
    (ho : o.op = .call { callee := .builtin .append, args := #[s, x], argTypes := #[35, 35] }) (hs : a.eval s = va) (hx : a.eval x = vb)
    (h : ∀ v' w1, Made w w1 v' (A ++ B) → wr.grownBy w1 va.ownBlock → wpList Try.prog ops Q rest (a.put o.dst v') w1) : wpList Try.prog ops Q (o :: rest) a wr :=
  wpList_plain hgd fun K hK => wpI hg hA hB hl s x ho hs hx fun v' w1 m g => hK _ _ (h v' w1 m g)

/-- lists behind lists -/
theorem wpJ {o : Oper} {a : Act} {K : Act → World → Prop} {Q : Exit → Act → World → Prop} {wr : World} {va vb : Value} {A B : List (List Int)} {lo mid mid' hi : Nat}
    (hA : OwnS lo mid wr va A) (hB : OwnS mid' hi wr vb B) (hm : mid ≤ mid') (hlo : lo ≤ mid') (hh : hi ≤ wr.heap.size) (hls : lo ≤ wr.heap.size) (hl : A.length + B.length ≤ 1048576) (s x : Operand)
    (ho : o.op = .call { callee := .builtin .append, args := #[s, x], argTypes := #[24, 24] }) (hs : a.eval s = va) (hx : a.eval x = vb)
    (h : ∀ v' w1, OwnS lo w1.heap.size w1 v' (A ++ B) → wr.grownBy w1 va.ownBlock → K (a.put o.dst v') w1) : o.wp Try.prog a wr K Q := by
  obtain ⟨i0, hi0, hz0, hz1, hz2⟩ := info_parts infoSl
  have hA0 := hA
  obtain ⟨D, rfl, hw, hb, hin, hp⟩ := hA
  obtain ⟨E, rfl, hw', hb', hin', hp'⟩ := hB
  simp only [List.length_map] at hl
  have key : ∀ v' w1, w1.ownsRow lo 35 1 v' (D.length + E.length) (D.map (·.1) ++ E.map (·.1)) → wr.grownBy w1 va.ownBlock → K (a.put o.dst v') w1 := by
    intro v' w1 hown hgrow
    have sz := hgrow.size
    refine h v' w1 ⟨D ++ E, by simp, ?_, fun k e => (hown.lt k e).2, ?_, ?_⟩ hgrow
    · rw [List.length_append, List.map_append]
      exact hown
    · intro p hp''
      rw [List.mem_append] at hp''
      rcases hp'' with hp'' | hp''
      · exact ⟨(hin p hp'').1.kept hgrow (own_ne' hw (hin p hp'').1), fun k e => by have := ((hin p hp'').1.lt k e).2; omega⟩
      · exact ⟨(own_mono (hin' p hp'').1 hlo).kept hgrow (own_ne' hw (hin' p hp'').1), fun k e => by have := ((hin' p hp'').1.lt k e).2; omega⟩
    · rw [List.pairwise_append]
      refine ⟨hp, hp', fun p hp1 q hq => ?_⟩
      intro k e e'
      have h1 := (hin p hp1).2 k e
      have h2 := ((hin' q hq).1.lt k e').1
      omega
  have hw2 := hw'
  obtain ⟨_, h2⟩ := hw'
  rcases h2 with ⟨rfl, h0⟩ | ⟨g, cap, cur, rfl, hgb, hhh, hn, hmm, hsc, ht⟩
  · have e : E = [] := List.eq_nil_of_length_eq_zero h0
    subst e
    refine wp_none s x 24 ho lo 35 i0 1 Try.underlying24 hi0 va D.length (D.map (·.1)) hs hw hx ?_
    refine key va wr ?_ ⟨rfl, rfl, rfl, Nat.le_refl _, fun _ _ _ => rfl⟩
    simpa using hw
  · refine wp_append_own _ s x 24 ho lo 35 i0 (.slice none 0 0) 1 24 Try.underlying24 hi0 hz0 hz1 hz2 rfl (by decide) va D.length (D.map (·.1)) hs hw ⟨g, 0, none⟩ E.length cap (E.map (·.1)) hx (by rw [List.length_map]; omega) ?_ ?_ ?_ ?_ ?_ ?_
    · intro j u hj
      rw [Addr.add_lit, Nat.zero_add]
      have hjl : j < E.length := by
        have := (List.getElem?_eq_some_iff.1 hj).1
        rwa [List.length_map] at this
      rw [hw2.cellAt j (by omega)]
      exact hj
    · intro u hu
      rw [List.mem_map] at hu
      obtain ⟨p, hp1, rfl⟩ := hu
      exact gr.own_one (hin' p hp1)
    · unfold maxLen
      omega
    · omega
    · exact hls
    · intro v' w1 hown' hgrow _
      exact key v' w1 hown' hgrow
theorem stepJ {ops : Array Oper} {E : Prop} {o : Oper} {a : Act} {K : Act → World → Prop} {Q : Exit → Act → World → Prop} {wr : World} {va vb : Value} {A B : List (List Int)} {lo mid mid' hi : Nat}
    (hA : OwnS lo mid wr va A) (hB : OwnS mid' hi wr vb B) (hm : mid ≤ mid') (hlo : lo ≤ mid') (hh : hi ≤ wr.heap.size) (hls : lo ≤ wr.heap.size) (hl : A.length + B.length ≤ 1048576) (hgd : o.guard = none) (s x : Operand)
    (ho : o.op = .call { callee := .builtin .append, args := #[s, x], argTypes := #[24, 24] }) (hs : a.eval s = va) (hx : a.eval x = vb)
    (h : ∀ v' w1, OwnS lo w1.heap.size w1 v' (A ++ B) → wr.grownBy w1 va.ownBlock → K (a.put o.dst v') w1) : if Region.wanted o (yielded ops a.tmps) = true then Oper.wp Try.prog o a wr K Q else E := by
  rw [if_pos (by simp [Region.wanted, hgd])]
  exact wpJ hA hB hm hlo hh hls hl s x ho hs hx h

/-- one of the lists: where it lies -/
theorem own_at {lo hi : Nat} {w : World} {v : Value} {LL : List (List Int)} (h : OwnS lo hi w v LL) (k : Nat) (hk : k < LL.length) :
    ∃ g cap u, v = .slice (some ⟨g, 0, none⟩) LL.length cap ∧ g < hi ∧ w.cell? ⟨g, k, none⟩ = some u ∧ Own lo hi w u (LL.getD k []) := by
  obtain ⟨D, rfl, hw, hb, hin, hp⟩ := h
  rw [List.length_map] at *
  have hw' := hw
  obtain ⟨_, h2⟩ := hw
  rcases h2 with ⟨rfl, h0⟩ | ⟨g, cap, cur, rfl, _⟩
  · omega
  · refine ⟨g, cap, D[k].1, rfl, hb g rfl, ?_, ?_⟩
    · rw [hw'.cellAt k (by omega)]
      simp [hk]
    · rw [css.map2_getD hk]
      exact hin _ (List.getElem_mem hk)
theorem grown_app {w w1 w2 : World} {o : Obj} {v : Value} {n : Nat} {xs : List Value} {t : TypeId} (g : w.grownBy w1 none) (hw : w1.ownsRow w.heap.size t 1 v n xs) (g1 : (w1.alloc o).grownBy w2 v.ownBlock) : w.grownBy w2 none := by
  have hgA : w.grownBy (w1.alloc o) none := grown_trans g (World.grownBy_alloc w1 o none)
  exact ⟨g1.os.trans hgA.os, g1.tape.trans hgA.tape, g1.output.trans hgA.output, Nat.le_trans hgA.size g1.size, fun k hk _ => by
    rw [g1.block k (Nat.lt_of_lt_of_le hk hgA.size) (fun e => by have := (hw.lt k e.symm).1; omega)]
    exact hgA.block k hk (fun e => by cases e)⟩
theorem grown_appS {lo hi : Nat} {w w1 w2 : World} {o : Obj} {v : Value} {LL : List (List Int)} (g : w.grownBy w1 none) (h : OwnS w.heap.size hi w1 v LL) (g1 : (w1.alloc o).grownBy w2 v.ownBlock) : w.grownBy w2 none := by
  obtain ⟨D, rfl, hw, _⟩ := h
  exact grown_app g hw g1
theorem grown_joinS {hi : Nat} {w w1 w2 : World} {v : Value} {LL : List (List Int)} (g : w.grownBy w1 none) (h : OwnS w.heap.size hi w1 v LL) (g1 : w1.grownBy w2 v.ownBlock) : w.grownBy w2 none := by
  obtain ⟨D, rfl, hw, _⟩ := h
  exact ⟨g1.os.trans g.os, g1.tape.trans g.tape, g1.output.trans g.output, Nat.le_trans g.size g1.size, fun k hk _ => by
    rw [g1.block k (Nat.lt_of_lt_of_le hk g.size) (fun e => by have := (hw.lt k e.symm).1; omega)]
    exact g.block k hk (fun e => by cases e)⟩

end Go.Proofs.Ytmmmldcnadidkaa.app
