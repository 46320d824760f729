/- What the law of resolving draws (two clauses and a number), the values that a code tells, and plain mathematics of what two clauses are resolved to; whatever the bytes; nothing old is written. -/
import Derived.Test.YtmbmkbkghblcmaaDoorDCl
import Derived.Test.YtmbmkbkghblcmaaDoorTr
import Derived.Test.YtmbmkbkghblcmaaDoorRes
namespace Go.Proofs.YtmbmkbkghblcmaaDoor.drs
open Go.ChangeShapes Go.WideShapes Go.ChangeAt Go.RowKit
open Go.Proofs.YtmbmkbkghblcmaaDoor.lits (okB varI okB_iff)
open Go.Proofs.YtmbmkbkghblcmaaDoor.cls (hasB okAll)
open Go.Proofs.YtmbmkbkghblcmaaDoor.bset (setOf subB placeN)
open Go.Proofs.YtmbmkbkghblcmaaDoor.srt (srt sortL sortB litI)
open Go.Proofs.YtmbmkbkghblcmaaDoor.res (resL resB canB both)
open Go.Proofs.YtmbmkbkghblcmaaDoor.tr (litT clT)
open Go.Proofs.YtmbmkbkghblcmaaDoor.sl (Sl Own ints hide unhide ret_bool grown_refl grown_trans grown_trans' of_below below_of grown_drewN)
open Go.Proofs.YtmbmkbkghblcmaaDoor.draw (Cur Bs I64 newCur grown_new)
open Go.Proofs.YtmbmkbkghblcmaaDoor.dcls (MadeC)
open Go.Proofs.YtmbmkbkghblcmaaDoor.wo (Made woL)
set_option linter.unusedVariables false

theorem mem_srt (S n : Nat) (y : Int) : y ∈ srt S n ↔ ∃ j, j < n ∧ S.testBit j = true ∧ litI j = y := by
  unfold srt
  simp only [List.mem_map, List.mem_filter, List.mem_range]
  constructor
  · rintro ⟨j, ⟨h1, h2⟩, h3⟩
    exact ⟨j, h1, h2, h3⟩
  · rintro ⟨j, h1, h2, h3⟩
    exact ⟨j, ⟨h1, h2⟩, h3⟩
theorem lit_place {y : Int} (h : okB y = true) : litI (placeN y) = y := by
  have a := okB_iff.1 h
  unfold srt.litI bset.placeN lits.placeI
  split <;> split <;> omega
theorem place_lit {j : Nat} (h : j < 48) : okB (litI j) = true ∧ placeN (litI j) = j := by
  constructor
  · rw [okB_iff]
    unfold srt.litI
    split <;> omega
  · unfold srt.litI bset.placeN lits.placeI
    split <;> split <;> omega
/-- what is put in order has just the literals that it had -/
theorem mem_sort {L : List Int} (h : okAll L = true) (y : Int) : y ∈ sortL L ↔ y ∈ L := by
  rw [srt.sortL_yes h, mem_srt]
  have hall := res.okAll_all h
  constructor
  · rintro ⟨j, h1, h2, rfl⟩
    obtain ⟨o, p⟩ := place_lit h1
    rw [← p, bset.setOf_has L _ o] at h2
    simpa [hasB] using h2
  · intro hy
    have o : okB y = true := by rw [List.all_eq_true] at hall; exact hall y hy
    refine ⟨placeN y, by have := bset.placeN_le o; omega, ?_, lit_place o⟩
    rw [bset.setOf_has L y o]
    simpa [hasB] using hy
theorem litT_neg {A : List Int} {v : Int} (h1 : 1 ≤ v) (h2 : v ≤ 24) (a : litT A v = true) (b : litT A (-v) = true) : False := by
  have e1 : varI v = v := by rw [lits.varI_yes ⟨by omega, by omega, by omega⟩, if_neg (by omega)]
  have e2 : varI (-v) = v := by rw [lits.varI_yes ⟨by omega, by omega, by omega⟩, if_pos (by omega)]; omega
  unfold tr.litT at a b
  rw [e1, if_neg (by omega), decide_eq_true (show 0 < v by omega)] at a
  rw [e2, if_neg (by omega), decide_eq_false (show ¬ 0 < -v by omega)] at b
  rw [beq_iff_eq] at a b
  rw [a] at b
  cases b
/-- what two clauses are resolved to is true wherever both are -/
theorem res_true {A L M : List Int} {v : Int} (hc : canB L M v = true) (ho : okAll (both L M v) = true) (hL : clT A L = true) (hM : clT A M = true) : clT A (resL L M v) = true := by
  obtain ⟨_, _, v1, v2, _, _⟩ := res.can_of hc
  rw [(res.res_yes hc).1]
  unfold tr.clT at *
  rw [List.any_eq_true] at *
  obtain ⟨l, hl, tl⟩ := hL
  obtain ⟨m, hm, tm⟩ := hM
  have inb : ∀ y, (y ∈ L ∧ y ≠ v) ∨ (y ∈ M ∧ y ≠ -v) → y ∈ sortL (both L M v) := by
    intro y hy
    rw [mem_sort ho]
    unfold res.both wo.woL
    rw [List.mem_append, List.mem_filter, List.mem_filter]
    rcases hy with ⟨h1, h2⟩ | ⟨h1, h2⟩
    · exact .inl ⟨h1, by simpa using h2⟩
    · exact .inr ⟨h1, by simpa using h2⟩
  by_cases e : l = v
  · by_cases e' : m = -v
    · subst e e'
      exact (litT_neg v1 v2 tl tm).elim
    · exact ⟨m, inb m (.inr ⟨hm, e'⟩), tm⟩
  · exact ⟨l, inb l (.inl ⟨hl, e⟩), tl⟩
theorem res_sub {L M : List Int} {v : Int} (hc : canB L M v = true) (ho : okAll (both L M v) = true) : subB (resL L M v) (L ++ M) = true := by
  rw [(res.res_yes hc).1]
  unfold bset.subB
  rw [List.all_eq_true]
  intro y hy
  rw [mem_sort ho] at hy
  unfold res.both wo.woL at hy
  rw [List.mem_append, List.mem_filter, List.mem_filter] at hy
  unfold cls.hasB
  rw [decide_eq_true_iff, List.mem_append]
  rcases hy with h | h
  · exact .inl h.1
  · exact .inr h.1
theorem wo_has (L : List Int) (v : Int) : hasB (woL L v) v = false := by
  unfold cls.hasB wo.woL
  rw [decide_eq_false_iff_not, List.mem_filter]
  simp
/-- the law's ways: nothing and no; or clauses that can be resolved -/
theorem ways (L M : List Int) (v : Int) : (resL L M v = [] ∧ resB L M v = false) ∨ (canB L M v = true ∧ okAll (both L M v) = true) := by
  cases hc : canB L M v
  · exact .inl (res.res_no hc)
  · cases ho : okAll (both L M v)
    · refine .inl ?_
      rw [(res.res_yes hc).1, (res.res_yes hc).2, srt.sortL_no ho, srt.sortB_no ho]
      exact ⟨rfl, rfl⟩
    · exact .inr ⟨rfl, rfl⟩

/-- an operation whose guard lets it be done -/
theorem guard_off {ops : Array Oper} {rest : List Oper} {o : Oper} {a : Act} {w : World} {Q : Exit → Act → World → Prop} (hw : Region.wanted o (yielded ops a.tmps) = true) (h : wpList Tryd.prog ops Q ({ o with guard := none } :: rest) a w) : wpList Tryd.prog ops Q (o :: rest) a w := by
  unfold wpList at h ⊢
  rw [if_pos hw]
  rw [if_pos (by simp [Region.wanted])] at h
  exact h
/-- 'append(a, b...)', both of the call's own: where it may write, too -/
theorem append2g {ops : Array Oper} {rest : List Oper} {o : Oper} {a : Act} {Q : Exit → Act → World → Prop} {w wr : World} {va vb : Value} {A B : List Int}
    (hg : w.grownBy wr none) (hA : wr.ownsRow w.heap.size 3 1 va A.length (ints A)) (hB : Sl wr vb B) (hl : A.length + B.length ≤ 4194304) (hgd : o.guard = none) (s x : Operand)
    (ho : o.op = .call { callee := .builtin .append, args := #[s, x], argTypes := #[24, 24] }) (hs : a.eval s = va) (hx : a.eval x = vb) (hx0 : B = [] → vb = .slice none 0 0 ∨ ∃ ad c, vb = .slice (some ad) 0 c)
    (h : ∀ v' w1, Made w w1 v' (A ++ B) ∧ wr.grownBy w1 va.ownBlock → wpList Tryd.prog ops Q rest (a.put o.dst v') w1) :
    wpList Tryd.prog ops Q (o :: rest) a wr := by
  obtain ⟨i0, hi, hz0, hz1, hz2⟩ := info_parts sl.info3
  have hsz := hg.size
  have key : ∀ v' w1, w1.ownsRow w.heap.size 3 1 v' (A.length + B.length) (ints A ++ ints B) → wr.grownBy w1 va.ownBlock → wpList Tryd.prog ops Q rest (a.put o.dst v') w1 := by
    intro v' w1 hown' hgrow
    refine h v' w1 ⟨⟨?_, ⟨hgrow.os.trans hg.os, hgrow.tape.trans hg.tape, hgrow.output.trans hg.output, Nat.le_trans hsz hgrow.size, fun k hk _ => ?_⟩⟩, hgrow⟩
    · rw [List.length_append, res.ints_append]
      exact hown'
    · rw [hgrow.block k (by omega) (fun e => by have := (hA.lt k e.symm).1; omega)]
      exact hg.block k hk (fun e => by cases e)
  have nil : vb = .slice none 0 0 → B = [] → wpList Tryd.prog ops Q (o :: rest) a wr := by
    intro e e'
    subst e e'
    refine wpList_append_own_none hgd s x 24 ho w.heap.size 3 i0 1 Tryd.underlying24 hi va A.length (ints A) hs hA hx ?_
    refine h va wr ⟨⟨?_, hg⟩, ⟨rfl, rfl, rfl, Nat.le_refl _, fun _ _ _ => rfl⟩⟩
    rw [List.append_nil]
    exact hA
  have some' : ∀ b off cap, vb = .slice (some ⟨b, off, none⟩) B.length cap → (∀ i, i < B.length → wr.cell? ⟨b, off + i, none⟩ = some (.int .i64 (B.getD i 0))) → wpList Tryd.prog ops Q (o :: rest) a wr := by
    intro b off cap e hc
    subst e
    refine wpList_append_own _ hgd s x 24 ho w.heap.size 3 i0 (.int .i64 0) 1 8 Tryd.underlying24 hi hz0 hz1 hz2 rfl (by decide) va A.length (ints A) hs hA ⟨b, off, none⟩ B.length cap (ints B) hx (by rw [sl.ints_length]; omega) ?_ ?_ ?_ ?_ ?_ ?_
    · intro j u hj
      rw [Addr.add_lit]
      have hjl : j < B.length := by
        have := (List.getElem?_eq_some_iff.1 hj).1
        rwa [sl.ints_length] at this
      rw [hc j hjl]
      rw [← hj]
      simp [sl.ints, hjl]
    · exact ints_oneCell .i64 B
    · unfold maxLen
      omega
    · omega
    · exact hsz
    · intro v' w1 hown' hgrow _
      exact key v' w1 hown' hgrow
  obtain ⟨ad, cap, rfl, hb⟩ := hB
  rcases hb with rfl | ⟨b, off, rfl, _, hc⟩
  · rcases hx0 rfl with e | ⟨ad', c', e⟩
    · exact nil e rfl
    · simp only [Value.slice.injEq] at e
      obtain ⟨rfl, _, rfl⟩ := e
      obtain ⟨b, off, spot⟩ := ad'
      refine wpList_append_own _ hgd s x 24 ho w.heap.size 3 i0 (.int .i64 0) 1 8 Tryd.underlying24 hi hz0 hz1 hz2 rfl (by decide) va A.length (ints A) hs hA ⟨b, off, spot⟩ 0 cap [] hx rfl ?_ ?_ ?_ ?_ ?_ ?_
      · intro j u hj
        simp at hj
      · intro u hu
        cases hu
      · unfold maxLen
        omega
      · simp at hl
        omega
      · exact hsz
      · intro v' w1 hown' hgrow _
        exact key v' w1 hown' hgrow
  · exact some' b off cap rfl hc
theorem own_nil {w : World} {lo n : Nat} {v : Value} {xs : List Value} (h : w.ownsRow lo 3 1 v n xs) : n = 0 → v = .slice none 0 0 ∨ ∃ ad c, v = .slice (some ad) 0 c := by
  intro e
  obtain ⟨_, h2⟩ := h
  rcases h2 with ⟨rfl, _⟩ | ⟨g, cap, cur, rfl, _⟩
  · exact .inl rfl
  · subst e
    exact .inr ⟨_, _, rfl⟩

set_option maxHeartbeats 400000 in
theorem at_ (a : Option Addr) (n cap : Nat) (i : Int) (w : World) (hn : n ≤ 1048576) (i0 : 0 ≤ i) (i1 : i ≤ 1000) (hB : Bs w a n) :
    Calls Tryd.prog 48 #[.slice a n cap, .int .i64 i] w fun e w' => ∃ x : Int, e = .returned (.int .i64 x) ∧ 0 ≤ x ∧ x ≤ 255 ∧ w' = w := by
  obtain ⟨k, rfl⟩ := Int.eq_ofNat_of_zero_le i0
  by_cases h : k < n
  · rcases hB with h0 | ⟨b, off, rfl, hb, hx⟩
    · omega
    · obtain ⟨x, hx1, c1⟩ := hx k h
      have hi : (k : Int) < (n : Int) := by omega
      clear hx
      go_enter Tryd.func48, Tryd.ntmps48
      go_wp2
      go_ret
      exact ⟨_, rfl, by omega, by omega, rfl⟩
  · have hi : decide ((k : Int) < (n : Int)) = false := decide_eq_false (by omega)
    clear hB
    go_enter Tryd.func48, Tryd.ntmps48
    go_wp2
    go_ret
    refine ⟨_, rfl, ?_, ?_, rfl⟩
    · omega
    · omega

set_option maxHeartbeats 800000 in
theorem values (a : Option Addr) (n cap : Nat) (m : Nat) (w : World) (hn : n ≤ 1048576) (hm : m ≤ 24) (hB : Bs w a n) :
    Calls Tryd.prog 14 #[.slice a n cap, .int .i64 (m : Int)] w fun e w' => ∃ v X, e = .returned v ∧ X.length = m ∧ (∀ x ∈ X, x = 0 ∨ x = 1) ∧ Made w w' v X := by
  have HB := hide hB
  clear hB
  have START := hide (srt.made_nil w)
  go_enter Tryd.func14, Tryd.ntmps14
  go_wp2
  go_loopw [5, 6] (fun u i wr => ∃ (k : Nat) (X : List Int), k ≤ m ∧ X.length = k ∧ i = .int .i64 k ∧ Hid (∀ x ∈ X, x = 0 ∨ x = 1) ∧ Hid (Made w wr u X)) (fun _ i _ => m - (intOf i).toNat)
  case atStart => exact ⟨0, [], Nat.zero_le _, rfl, rfl, (fun x hx => by cases hx), START⟩
  case round =>
    obtain ⟨k, X, hk, hX, rfl, hb, hmd⟩ := hrel
    clear START
    by_cases hlt : k < m
    · have hi : (k : Int) < (m : Int) := by omega
      have C := hide (at_ a n cap ((k : Int) + 5) wr hn (by omega) (by omega) ((unhide HB).below (below_of (unhide hmd).2)))
      go_wp2_with fail
      refine (unhide C).mono ?_; rintro e w2 ⟨x, rfl, x0, x1, hw⟩
      have hw' := hw.symm
      clear hw
      subst hw'
      have hx2 : x.tmod 2 = x % 2 := Int.tmod_eq_emod_of_nonneg x0
      have B2 : Hid (∀ y ∈ X ++ [x % 2], y = 0 ∨ y = 1) := by
        intro y hy
        rw [List.mem_append, List.mem_singleton] at hy
        rcases hy with hy | rfl
        · exact unhide hb y hy
        · omega
      clear C hb
      generalize hz : x % 2 = z at *
      clear hz
      go_wp2_with (at_builtin; refine wo.append1 (unhide hmd).2 (unhide hmd).1 (by omega) rfl _ _ rfl rfl rfl ?_)
      intro v' w3 R
      have R3 := hide R
      clear R hmd
      go_wp2
      go_roundw
      case rel => exact ⟨k + 1, X ++ [z], by omega, by rw [List.length_append, hX]; rfl, by go_num, B2, R3⟩
      case measure => simp [intOf]; omega
    · have hi : ¬ (k : Int) < (m : Int) := by omega
      go_wp2
      go_ret
      exact ⟨_, rfl, X, by omega, unhide hb, unhide hmd⟩

theorem madeC_own {c : Nat} {w wr w1 : World} {lo : Nat} {v : Value} {L : List Int} (h : wr.ownsRow lo 3 1 v L.length (ints L)) (hc : c < lo) (g : wr.grownBy w1 (some c)) : w1.ownsRow lo 3 1 v L.length (ints L) := by
  refine h.kept g ?_
  cases e : v.ownBlock with
  | none => exact .inl rfl
  | some k => exact .inr (fun e' => by cases e'; have := (h.lt _ e).1; omega)

theorem cur_ty : (88 : Nat) ≠ 3 := by decide
theorem cur_ne {w : World} {c lo n : Nat} {v : Value} {xs : List Value} (h : w.ownsRow lo 3 1 v n xs) (hc : Cur w c) : v.ownBlock ≠ some c := by
  intro e
  obtain ⟨cs, fz, hk⟩ := css.own_kind h c e
  obtain ⟨_, _, _, _, _, _, _, hb, _⟩ := hc
  rw [hb] at hk
  simp only [Option.some.injEq, Obj.cells.injEq] at hk
  exact cur_ty hk.2.1
theorem row_turn {w w1 : World} {c lo : Nat} {v : Value} {L : List Int} (h : w.ownsRow lo 3 1 v L.length (ints L)) (hc : Cur w c) (g : w.grownBy w1 (some c)) : w1.ownsRow lo 3 1 v L.length (ints L) := by
  refine h.kept g ?_
  cases e : v.ownBlock with
  | none => exact .inl rfl
  | some k => exact .inr (fun e' => cur_ne h hc (e.trans e'))
theorem row_none {w w1 : World} {lo : Nat} {v : Value} {L : List Int} (h : w.ownsRow lo 3 1 v L.length (ints L)) (g : w.grownBy w1 none) : w1.ownsRow lo 3 1 v L.length (ints L) := by
  refine h.kept g ?_
  cases e : v.ownBlock with
  | none => exact .inl rfl
  | some k => exact .inr (fun e' => by cases e')

set_option maxHeartbeats 1600000 in
theorem drawResolve (a : Option Addr) (n cap : Nat) (w : World) (hn : n ≤ 1048576) (hB : Bs w a n) :
    Calls Tryd.prog 10 #[.slice a n cap] w fun e w' => ∃ (va vb : Value) (L M : List Int) (v : Int), e = .returned (.tuple #[va, vb, .int .i64 v]) ∧ L.length ≤ 60 ∧ M.length ≤ 60 ∧ -1 ≤ v ∧ v ≤ 25 ∧ (∃ lo, w'.ownsRow lo 3 1 va L.length (ints L)) ∧ (∃ lo, w'.ownsRow lo 3 1 vb M.length (ints M)) ∧ w.grownBy w' none := by
  have HB := hide hB
  clear hB
  go_enter Tryd.func10, Tryd.ntmps10
  go_wp2_with fail
  refine (newCur a n cap _ hn (unhide HB)).mono ?_; rintro e w1 ⟨rfl, hc1, g1⟩
  have C1 := hide hc1
  have G1 := hide g1
  have l1 := hide hc1.lt
  clear hc1 g1 HB
  go_wp2_with fail
  refine (draw.below _ _ _ (unhide C1) (by decide) (by decide)).mono ?_; rintro e w2 ⟨x, rfl, x0, x1, hc2, g2⟩
  have C2 := hide hc2
  have G2 := hide (grown_new (unhide G1) g2 (Nat.le_refl _))
  have l2 := hide (Nat.lt_of_lt_of_le (unhide l1) g2.size)
  clear hc2 g2 C1 G1 l1
  go_wp2_with fail
  refine (dcls.clause _ _ _ _ (unhide C2) (by decide) (by decide) (by decide) (by decide)).mono ?_; rintro e w3 ⟨va, L, rfl, hL, hm⟩
  obtain ⟨aa, ca, rfl⟩ := hm.form
  have M3 := hide hm
  clear hm C2
  go_wp2_with (at_builtin; refine dcls.appendC (unhide M3) (unhide l2) (by omega) rfl _ _ rfl rfl rfl ?_)
  intro va' w4 m4
  obtain ⟨ab, cb, rfl⟩ := m4.form
  have hL4 : (L ++ [1 + x]).length ≤ 60 := by rw [List.length_append]; show L.length + 1 ≤ 60; omega
  generalize L ++ [1 + x] = L4 at *
  have O4 := hide m4.1
  have C4 := hide m4.2.2
  have G4 := hide (grown_new (unhide G2) m4.2.1 (Nat.le_refl _))
  have l4 := hide (Nat.lt_of_lt_of_le (unhide l2) m4.2.1.size)
  clear m4 M3 hL G2
  go_wp2_with fail
  have g4 := World.grownBy_alloc w4 (.cells #[.int .i64 (-(1 + x))] 3) none
  have hb : (w4.alloc (.cells #[.int .i64 (-(1 + x))] 3)).ownsRow w4.heap.size 3 1 (.slice (some ⟨w4.heap.size, 0, none⟩) 1 1) 1 (ints [-(1 + x)]) := World.ownsRow_lit w4 _ 1 (Nat.le_refl _) (by decide) rfl
  have C4' := hide ((unhide C4).kept g4 (fun r e => by cases e))
  have G4' := hide (grown_trans (r := none) (unhide G4) g4)
  have OA4 := hide (row_none (L := L4) (unhide O4) g4)
  have OB4 := hide hb
  have lt4 := hide (fun k e => ((unhide O4).lt k e).2)
  clear g4 hb C4 G4 O4
  refine (dcls.clause _ _ _ _ (unhide C4') (by decide) (by decide) (by decide) (by decide)).mono ?_; rintro e w5 ⟨vb, M, rfl, hM, m5⟩
  obtain ⟨ac, cc, rfl⟩ := m5.form
  have OA5 := hide (row_turn (unhide OA4) (unhide C4') m5.2.1)
  have OB5 := hide (row_turn (L := [-(1 + x)]) (unhide OB4) (unhide C4') m5.2.1)
  have G5 := hide (grown_new (unhide G4') m5.2.1 (Nat.le_refl _))
  have C5 := hide m5.2.2
  have OM5 := hide m5.1
  clear m5 C4' G4' OA4 OB4
  go_wp2_with (at_builtin; refine append2g (A := [-(1 + x)]) (unhide G5) (res.own_mono (unhide OB5) (Nat.le_of_lt (unhide l4))) (sl.Sl.of_own (unhide OM5)) (by show 1 + M.length ≤ 4194304; omega) rfl _ _ rfl rfl rfl (fun e => own_nil (unhide OM5) (by rw [e]; rfl)) ?_)
  intro vb' w6 m6 g6
  have hM6 : (-(1 + x) :: M).length ≤ 60 := by rw [List.length_cons]; omega
  have m6' : Made w w6 vb' (-(1 + x) :: M) := m6
  clear m6
  have m6 := m6'
  clear m6'
  generalize -(1 + x) :: M = M6 at *
  have OA6 := hide ((unhide OA5).kept g6 (by
    cases e : (Value.slice ab L4.length cb).ownBlock with
    | none => exact .inl rfl
    | some k => exact .inr (fun e' => by cases e'; exact Nat.lt_irrefl _ (unhide lt4 _ e))))
  have OB6 := hide m6.1
  have G6 := hide m6.2
  have C6 := hide ((unhide C5).kept g6 (fun r e => by cases e; exact unhide l4))
  obtain ⟨ad, cd, e6, _⟩ := sl.Sl.of_own m6.1
  subst e6
  clear m6 g6 OA5 OB5 G5 C5 OM5 lt4 l4
  go_wp2_with fail
  refine (draw.once _ _ _ (unhide C6) (by decide) (by decide)).mono ?_; rintro e w7 ⟨b, rfl, hc7, g7⟩
  have OA7 := hide (row_turn (unhide OA6) (unhide C6) g7)
  have OB7 := hide (row_turn (unhide OB6) (unhide C6) g7)
  have G7 := hide (grown_new (unhide G6) g7 (Nat.le_refl _))
  have C7 := hide hc7
  clear hc7 g7 OA6 OB6 G6 C6
  cases b
  · go_wp2_with fail
    go_ret3
    exact ⟨_, _, L4, M6, _, rfl, hL4, hM6, by omega, by omega, ⟨_, unhide OA7⟩, ⟨_, unhide OB7⟩, unhide G7⟩
  · go_wp2_with fail
    have g8 := World.grownBy_alloc w7 (.cells #[.int .i64 0, .int .i64 (-1), .int .i64 25, .int .i64 3] 3) none
    have o8 : (w7.alloc (.cells #[.int .i64 0, .int .i64 (-1), .int .i64 25, .int .i64 3] 3)).ownsRow w7.heap.size 3 1 (.slice (some ⟨w7.heap.size, 0, none⟩) 4 4) 4 (ints [0, -1, 25, 3]) := World.ownsRow_lit w7 _ 4 (Nat.le_refl _) (by decide) rfl
    have C8 := hide ((unhide C7).kept g8 (fun r e => by cases e))
    have OA8 := hide (row_none (unhide OA7) g8)
    have OB8 := hide (row_none (unhide OB7) g8)
    have G8 := hide (grown_trans (r := none) (unhide G7) g8)
    refine (draw.pickInt _ _ [0, -1, 25, 3] _ (unhide C8) (by decide) (by decide) (sl.Sl.of_own (L := [0, -1, 25, 3]) o8) (fun k e => by cases e; exact (unhide C7).lt)).mono ?_; rintro e w9 ⟨y, rfl, hy, hc9, g9⟩
    have OA9 := hide (row_turn (unhide OA8) (unhide C8) g9)
    have OB9 := hide (row_turn (unhide OB8) (unhide C8) g9)
    have G9 := hide (grown_new (unhide G8) g9 (Nat.le_refl _))
    have hy' : -1 ≤ y ∧ y ≤ 25 := by
      simp only [List.mem_cons, List.not_mem_nil, or_false] at hy
      omega
    clear hc9 g9 OA8 OB8 G8 C8 g8 o8 OA7 OB7 G7 C7 hy
    go_wp2_with fail
    go_ret3
    exact ⟨_, _, L4, M6, _, rfl, hL4, hM6, hy'.1, hy'.2, ⟨_, unhide OA9⟩, ⟨_, unhide OB9⟩, unhide G9⟩
end Go.Proofs.YtmbmkbkghblcmaaDoor.drs
