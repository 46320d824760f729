/- What Resolve (of the program and of its model) answers at every two lists of at most 2^20 numbers and every number, where the library's table of places lies as its text lays it. -/
import Derived.Test.YtibpnocpafppaaaDoorJLc
import Derived.Laws.AppendOwnNone
namespace Go.Proofs.YtibpnocpafppaaaDoor.res
open Go.ChangeShapes Go.WideShapes Go.ChangeAt Go.RowKit
open lits (okB okB_iff)
open cls (hasB okAll)
open srt (sortL sortB Tab made_nil)
open wo (woL Made)
open sl (Sl ints hide unhide ret_int ret_bool grown_refl grown_trans)
set_option linter.unusedVariables false
def canB (L M : List Int) (v : Int) : Bool := okAll L && okAll M && decide (1 ≤ v ∧ v ≤ 24) && hasB L v && hasB M (-v)
def both (L M : List Int) (v : Int) : List Int := woL L v ++ woL M (-v)
def resL (L M : List Int) (v : Int) : List Int := if canB L M v then sortL (both L M v) else []
def resB (L M : List Int) (v : Int) : Bool := canB L M v && sortB (both L M v)
theorem okAll_len {L : List Int} (h : okAll L = true) : L.length ≤ 48 := by
 unfold okAll at h
 rw [Bool.and_eq_true, decide_eq_true_iff] at h
 exact h.2
theorem okAll_all {L : List Int} (h : okAll L = true) : L.all okB = true := by
 unfold okAll at h
 rw [Bool.and_eq_true] at h
 exact h.1
theorem wo_all {L : List Int} (x : Int) (h : L.all okB = true) : (woL L x).all okB = true := by
 rw [List.all_eq_true] at *
 intro y hy
 exact h y (List.mem_filter.1 hy).1
theorem both_ok {L M : List Int} {v : Int} (hL : okAll L = true) (hM : okAll M = true) : okAll (both L M v) = decide ((both L M v).length ≤ 48) := by
 have h : (both L M v).all okB = true := by
  unfold both
  rw [List.all_append, wo_all v (okAll_all hL), wo_all (-v) (okAll_all hM)]
  rfl
 unfold okAll
 rw [h]
 rfl
theorem both_len {L M : List Int} {v : Int} (hL : okAll L = true) (hM : okAll M = true) : (both L M v).length ≤ 96 := by
 unfold both
 rw [List.length_append]
 have h1 := Nat.le_trans (wo.woL_le L v) (okAll_len hL)
 have h2 := Nat.le_trans (wo.woL_le M (-v)) (okAll_len hM)
 omega
theorem resL_len (L M : List Int) (v : Int) : (resL L M v).length ≤ 48 := by
 unfold resL
 split
 ·exact srt.sortL_len _
 ·exact Nat.zero_le _
theorem res_no {L M : List Int} {v : Int} (h : canB L M v = false) : resL L M v = [] ∧ resB L M v = false := by
 unfold resL resB
 rw [h]
 exact ⟨rfl, rfl⟩
theorem res_yes {L M : List Int} {v : Int} (h : canB L M v = true) : resL L M v = sortL (both L M v) ∧ resB L M v = sortB (both L M v) := by
 unfold resL resB
 rw [h]
 exact ⟨rfl, rfl⟩
theorem ints_append (L M : List Int) : ints (L ++ M) = ints L ++ ints M := by simp [ints]
theorem can_of {L M : List Int} {v : Int} (h : canB L M v = true) : okAll L = true ∧ okAll M = true ∧ 1 ≤ v ∧ v ≤ 24 ∧ hasB L v = true ∧ hasB M (-v) = true := by
 unfold canB at h
 simp only [Bool.and_eq_true, decide_eq_true_iff] at h
 exact ⟨h.1.1.1.1, h.1.1.1.2, h.1.1.2.1, h.1.1.2.2, h.1.2, h.2⟩
theorem own_mono {w : World} {base base' : Nat} {e : TypeId} {v : Value} {n : Nat} {xs : List Value} (h : w.ownsRow base e 1 v n xs) (hb : base' ≤ base) : w.ownsRow base' e 1 v n xs := by
 obtain ⟨h1, h2⟩ := h
 refine ⟨h1, ?_⟩
 rcases h2 with h2 | ⟨g, cap, cur, e1, hg, r⟩
 ·exact .inl h2
 ·exact .inr ⟨g, cap, cur, e1, Nat.le_trans hb hg, r⟩
theorem made_trans {w w1 w2 : World} {u : Value} {M : List Int} (h : Made w1 w2 u M) (g : w.grownBy w1 none) : Made w w2 u M :=
 ⟨own_mono h.1 g.size, grown_trans g h.2⟩
theorem append2 {ops : Array Oper} {rest : List Oper} {o : Oper} {a : Act} {Q : Exit → Act → World → Prop} {w wr : World} {va vb : Value} {A B : List Int} {base' : Nat}
  (hg : w.grownBy wr none) (hA : wr.ownsRow w.heap.size 3 1 va A.length (ints A)) (hB : wr.ownsRow base' 3 1 vb B.length (ints B)) (hl : A.length + B.length ≤ 4194304) (hgd : o.guard = none) (s x : Operand)
  (ho : o.op = .call { callee := .builtin .append, args := #[s, x], argTypes := #[31, 31] }) (hs : a.eval s = va) (hx : a.eval x = vb)
  (h : ∀ v' w1, Made w w1 v' (A ++ B) → wpList Tryd.prog ops Q rest (a.put o.dst v') w1) :
  wpList Tryd.prog ops Q (o :: rest) a wr := by
 obtain ⟨i0, hi, hz0, hz1, hz2⟩ := info_parts sl.info3
 have hsz := hg.size
 have hB' := hB
 obtain ⟨_, h2⟩ := hB'
 rcases h2 with ⟨rfl, h0⟩ | ⟨g, cap, cur, rfl, hgb, hh, hn, hm, hsc, ht⟩
 ·have e : B = [] := List.eq_nil_of_length_eq_zero h0
  subst e
  refine wpList_append_own_none hgd s x 31 ho w.heap.size 3 i0 1 Tryd.underlying31 hi va A.length (ints A) hs hA hx ?_
  refine h va wr ⟨?_, hg⟩
  rw [List.append_nil]
  exact hA
 ·refine wpList_append_own _ hgd s x 31 ho w.heap.size 3 i0 (.int .i64 0) 1 8 Tryd.underlying31 hi hz0 hz1 hz2 rfl (by decide) va A.length (ints A) hs hA ⟨g, 0, none⟩ B.length cap (ints B) hx (by rw [sl.ints_length]; omega) ?_ ?_ ?_ ?_ ?_ ?_
  ·intro j u hj
   rw [Addr.add_lit, Nat.zero_add]
   have hjl : j < B.length := by
    have := (List.getElem?_eq_some_iff.1 hj).1
    rwa [sl.ints_length] at this
   rw [hB.cellAt j (by omega)]
   exact hj
  ·exact ints_oneCell .i64 B
  ·unfold maxLen
   omega
  ·omega
  ·exact hsz
  ·intro v' w1 hown' hgrow _
   refine h v' w1 ⟨?_, ⟨hgrow.os.trans hg.os, hgrow.tape.trans hg.tape, hgrow.output.trans hg.output, Nat.le_trans hsz hgrow.size, fun k hk _ => ?_⟩⟩
   ·rw [List.length_append, ints_append]
    exact hown'
   ·rw [hgrow.block k (by omega) (fun e => by have := (hA.lt k e.symm).1; omega)]
    exact hg.block k hk (fun e => by cases e)
theorem inC (x a b : Int) (w : World) : Calls Tryd.prog 75 #[.int .i64 x, .int .i64 a, .int .i64 b] w fun e w' => e = .returned (.bool (decide (a ≤ x ∧ x ≤ b))) ∧ w' = w := by
 by_cases h1 : a ≤ x
 ·by_cases h2 : x ≤ b
  ·rw [decide_eq_true ⟨h1, h2⟩]
   go_enter Tryd.func75, Tryd.ntmps75
   go_wp2
   go_ret
   exact ⟨rfl, rfl⟩
  ·rw [decide_eq_false (fun h => h2 h.2)]
   go_enter Tryd.func75, Tryd.ntmps75
   go_wp2
   go_ret
   exact ⟨rfl, rfl⟩
 ·rw [decide_eq_false (fun h => h1 h.1)]
  have h1' : decide (a ≤ x) = false := decide_eq_false h1
  go_enter Tryd.func75, Tryd.ntmps75
  go_wp2
  go_ret
  exact ⟨rfl, rfl⟩
theorem specResolve (a b : Value) (L M : List Int) (v : Int) (w : World) (hL : L.length ≤ 1048576) (hM : M.length ≤ 1048576) (ha : Sl w a L) (hb : Sl w b M) :
  Calls Tryd.prog 77 #[a, b, .int .i64 v] w fun e w' => ∃ u, e = .returned (.tuple #[u, .bool (resB L M v)]) ∧ Made w w' u (resL L M v) := by
 have HA := hide ha
 have HB := hide hb
 clear ha hb
 have no : canB L M v = false → resL L M v = [] ∧ resB L M v = false := res_no
 have c1 := cls.specClauseOk a L w hL (unhide HA)
 have c2 := cls.specClauseOk b M w hM (unhide HB)
 have c3 := inC v 1 24 w
 have c4 := cls.specClauseHas a L v w hL (unhide HA)
 have c5 := cls.specClauseHas b M (-v) w hM (unhide HB)
 cases hc1 : okAll L
 ·rw [hc1] at c1
  have hno : canB L M v = false := by unfold canB; rw [hc1]; simp
  have C1 := hide c1
  clear c1 c2 c3 c4 c5
  clear hc1
  rw [(no (hno)).1, (no (hno)).2]
  clear no
  go_enter Tryd.func77, Tryd.ntmps77
  go_wp2_with fail
  refine (unhide C1).mono ?_; rintro e w2 ⟨rfl, hw⟩; have hw' := hw.symm; clear hw; subst hw'
  go_wp2_with fail
  go_ret2
  exact ⟨_, rfl, made_nil w⟩
 ·rw [hc1] at c1
  cases hc2 : okAll M
  ·rw [hc2] at c2
   have hno : canB L M v = false := by unfold canB; rw [hc1, hc2]; simp
   have C1 := hide c1
   have C2 := hide c2
   clear c1 c2 c3 c4 c5
   clear hc1 hc2
   rw [(no (hno)).1, (no (hno)).2]
   clear no
   go_enter Tryd.func77, Tryd.ntmps77
   go_wp2_with fail
   refine (unhide C1).mono ?_; rintro e w2 ⟨rfl, hw⟩; have hw' := hw.symm; clear hw; subst hw'
   go_wp2_with fail
   refine (unhide C2).mono ?_; rintro e w2 ⟨rfl, hw⟩; have hw' := hw.symm; clear hw; subst hw'
   go_wp2_with fail
   go_ret2
   exact ⟨_, rfl, made_nil w⟩
  ·rw [hc2] at c2
   cases hc3 : decide (1 ≤ v ∧ v ≤ 24)
   ·rw [hc3] at c3
    have hno : canB L M v = false := by unfold canB; rw [hc1, hc2, hc3]; simp
    have C1 := hide c1
    have C2 := hide c2
    have C3 := hide c3
    clear c1 c2 c3 c4 c5
    clear hc1 hc2 hc3
    rw [(no (hno)).1, (no (hno)).2]
    clear no
    go_enter Tryd.func77, Tryd.ntmps77
    go_wp2_with fail
    refine (unhide C1).mono ?_; rintro e w2 ⟨rfl, hw⟩; have hw' := hw.symm; clear hw; subst hw'
    go_wp2_with fail
    refine (unhide C2).mono ?_; rintro e w2 ⟨rfl, hw⟩; have hw' := hw.symm; clear hw; subst hw'
    go_wp2_with fail
    refine (unhide C3).mono ?_; rintro e w2 ⟨rfl, hw⟩; have hw' := hw.symm; clear hw; subst hw'
    go_wp2_with fail
    go_ret2
    exact ⟨_, rfl, made_nil w⟩
   ·rw [hc3] at c3
    cases hc4 : hasB L v
    ·rw [hc4] at c4
     have hno : canB L M v = false := by unfold canB; rw [hc1, hc2, hc3, hc4]; simp
     have C1 := hide c1
     have C2 := hide c2
     have C3 := hide c3
     have C4 := hide c4
     clear c1 c2 c3 c4 c5
     clear hc1 hc2 hc3 hc4
     rw [(no (hno)).1, (no (hno)).2]
     clear no
     go_enter Tryd.func77, Tryd.ntmps77
     go_wp2_with fail
     refine (unhide C1).mono ?_; rintro e w2 ⟨rfl, hw⟩; have hw' := hw.symm; clear hw; subst hw'
     go_wp2_with fail
     refine (unhide C2).mono ?_; rintro e w2 ⟨rfl, hw⟩; have hw' := hw.symm; clear hw; subst hw'
     go_wp2_with fail
     refine (unhide C3).mono ?_; rintro e w2 ⟨rfl, hw⟩; have hw' := hw.symm; clear hw; subst hw'
     go_wp2_with fail
     refine (unhide C4).mono ?_; rintro e w2 ⟨rfl, hw⟩; have hw' := hw.symm; clear hw; subst hw'
     go_wp2_with fail
     go_ret2
     exact ⟨_, rfl, made_nil w⟩
    ·rw [hc4] at c4
     cases hc5 : hasB M (-v)
     ·rw [hc5] at c5
      have hno : canB L M v = false := by unfold canB; rw [hc1, hc2, hc3, hc4, hc5]; simp
      have C1 := hide c1
      have C2 := hide c2
      have C3 := hide c3
      have C4 := hide c4
      have C5 := hide c5
      clear c1 c2 c3 c4 c5
      have hr := of_decide_eq_true hc3
      obtain ⟨v0, v1⟩ := hr
      clear hc1 hc2 hc3 hc4 hc5
      rw [(no (hno)).1, (no (hno)).2]
      clear no
      go_enter Tryd.func77, Tryd.ntmps77
      go_wp2_with fail
      refine (unhide C1).mono ?_; rintro e w2 ⟨rfl, hw⟩; have hw' := hw.symm; clear hw; subst hw'
      go_wp2_with fail
      refine (unhide C2).mono ?_; rintro e w2 ⟨rfl, hw⟩; have hw' := hw.symm; clear hw; subst hw'
      go_wp2_with fail
      refine (unhide C3).mono ?_; rintro e w2 ⟨rfl, hw⟩; have hw' := hw.symm; clear hw; subst hw'
      go_wp2_with fail
      refine (unhide C4).mono ?_; rintro e w2 ⟨rfl, hw⟩; have hw' := hw.symm; clear hw; subst hw'
      go_wp2_with fail
      refine (unhide C5).mono ?_; rintro e w2 ⟨rfl, hw⟩; have hw' := hw.symm; clear hw; subst hw'
      go_wp2_with fail
      go_ret2
      exact ⟨_, rfl, made_nil w⟩
     ·rw [hc5] at c5
      have hcan : canB L M v = true := by unfold canB; rw [hc1, hc2, hc3, hc4, hc5]; rfl
      obtain ⟨e1, e2⟩ := res_yes hcan
      have hok := both_ok (v := v) hc1 hc2
      have hlen := both_len (v := v) hc1 hc2
      have hr := of_decide_eq_true hc3
      obtain ⟨v0, v1⟩ := hr
      have C1 := hide c1
      have C2 := hide c2
      have C3 := hide c3
      have C4 := hide c4
      have C5 := hide c5
      clear c1 c2 c3 c4 c5 hc1 hc2 hc3 hc4 hc5 no hcan
      rw [e1, e2]
      clear e1 e2
      have HOK := hide hok
      clear hok
      go_enter Tryd.func77, Tryd.ntmps77
      go_wp2_with fail
      refine (unhide C1).mono ?_; rintro e w2 ⟨rfl, hw⟩; have hw' := hw.symm; clear hw; subst hw'
      go_wp2_with fail
      refine (unhide C2).mono ?_; rintro e w2 ⟨rfl, hw⟩; have hw' := hw.symm; clear hw; subst hw'
      go_wp2_with fail
      refine (unhide C3).mono ?_; rintro e w2 ⟨rfl, hw⟩; have hw' := hw.symm; clear hw; subst hw'
      go_wp2_with fail
      refine (unhide C4).mono ?_; rintro e w2 ⟨rfl, hw⟩; have hw' := hw.symm; clear hw; subst hw'
      go_wp2_with fail
      refine (unhide C5).mono ?_; rintro e w2 ⟨rfl, hw⟩; have hw' := hw.symm; clear hw; subst hw'
      clear C1 C2 C3 C4 C5
      go_wp2_with fail
      refine (wo.specClauseWithout a L v _ hL (unhide HA)).mono ?_; rintro e w1 ⟨u1, rfl, o1, g1⟩
      have G1 := hide g1
      have O1 := hide (sl.Own.of o1)
      clear o1 g1
      go_wp2_with fail
      refine (wo.specClauseWithout b M (-v) _ hM ((unhide HB).kept (unhide G1) (.inl rfl))).mono ?_; rintro e w2 ⟨u2, rfl, o2, g2⟩
      have o1 := ((unhide O1).kept g2).1
      have g12 := grown_trans (r := none) (unhide G1) g2
      have hl : (woL L v).length + (woL M (-v)).length ≤ 4194304 := by have := wo.woL_le L v; have := wo.woL_le M (-v); omega
      go_wp2_with (at_builtin; refine append2 g12 o1 o2 hl rfl _ _ rfl rfl rfl ?_)
      intro u3 w3 R
      clear o1 o2 g2 g12 hl G1 O1
      obtain ⟨N, hN⟩ : ∃ N, N = both L M v := ⟨_, rfl⟩
      have R' : Made w w3 u3 N := by rw [hN]; exact R
      have hlenN : N.length ≤ 96 := by rw [hN]; exact hlen
      have HN := hide hN
      clear R hlen
      obtain ⟨o3, g3⟩ := R'
      have S3 := hide (sl.Sl.of_own o3)
      have G3 := hide g3
      obtain ⟨au, capu, hu, _⟩ := unhide S3
      clear o3 g3
      rw [hu]
      by_cases h48 : N.length ≤ 48
      ·have hok' : okAll N = true := by rw [hN, unhide HOK, ← hN]; exact decide_eq_true h48
       have hi' : ¬ (48 : Int) < (N.length : Int) := by omega
       have EL := hide (srt.sortL_yes hok')
       have EB := hide (srt.sortB_yes hok')
       clear hok' HOK hN
       rw [hu] at S3
       go_wp2_with fail
       refine (srt.l01Sort _ N _ (by omega) (unhide S3)).mono ?_; rintro e w4 ⟨u4, rfl, o4, g4⟩
       have R4 := made_trans (M := srt.srt (bset.setOf N) 48) ⟨o4, g4⟩ (unhide G3)
       clear o4 g4
       go_wp2_with fail
       go_ret2
       exact ⟨_, by rw [← unhide HN, unhide EB]; rfl, by rw [← unhide HN, unhide EL]; exact R4⟩
      ·have hok' : okAll N = false := by rw [hN, unhide HOK, ← hN]; exact decide_eq_false h48
       have hi' : (48 : Int) < (N.length : Int) := by omega
       have EL := hide (srt.sortL_no hok')
       have EB := hide (srt.sortB_no hok')
       clear hok' HOK hN
       go_wp2_with fail
       go_ret2
       exact ⟨_, by rw [← unhide HN, unhide EB]; rfl, by rw [← unhide HN, unhide EL]; exact made_trans (made_nil _) (unhide G3)⟩
theorem implResolve (a b : Value) (L M : List Int) (v : Int) (w : World) (hT : Tab w) (hL : L.length ≤ 1048576) (hM : M.length ≤ 1048576) (ha : Sl w a L) (hb : Sl w b M) :
  Calls Tryd.prog 74 #[a, b, .int .i64 v] w fun e w' => ∃ u, e = .returned (.tuple #[u, .bool (resB L M v)]) ∧ Made w w' u (resL L M v) := by
 have HT := hide hT
 clear hT
 have HA := hide ha
 have HB := hide hb
 clear ha hb
 have no : canB L M v = false → resL L M v = [] ∧ resB L M v = false := res_no
 have c1 := cls.implClauseOk a L w hL (unhide HA)
 have c2 := cls.implClauseOk b M w hM (unhide HB)
 have c4 := cls.implClauseHas a L v w hL (unhide HA)
 have c5 := cls.implClauseHas b M (-v) w hM (unhide HB)
 by_cases v0 : v < 1
 ·have hno : canB L M v = false := by unfold canB; rw [decide_eq_false (p := 1 ≤ v ∧ v ≤ 24) (by omega)]; simp
  clear c1 c2 c4 c5
  rw [(no (hno)).1, (no (hno)).2]
  clear no
  go_enter Tryd.func74, Tryd.ntmps74
  go_wp2_with fail
  go_ret2
  exact ⟨_, rfl, made_nil w⟩
 ·have v0' : decide (v < 1) = false := decide_eq_false v0
  by_cases v1 : 24 < v
  ·have hno : canB L M v = false := by unfold canB; rw [decide_eq_false (p := 1 ≤ v ∧ v ≤ 24) (by omega)]; simp
   clear c1 c2 c4 c5
   rw [(no (hno)).1, (no (hno)).2]
   clear no
   go_enter Tryd.func74, Tryd.ntmps74
   go_wp2_with fail
   go_ret2
   exact ⟨_, rfl, made_nil w⟩
  ·have v1' : decide (24 < v) = false := decide_eq_false v1
   have hc3 : decide (1 ≤ v ∧ v ≤ 24) = true := decide_eq_true (by omega)
   cases hc1 : okAll L
   ·rw [hc1] at c1
    have hno : canB L M v = false := by unfold canB; rw [hc1]; simp
    have C1 := hide c1
    clear c1 c2 c4 c5 hc3
    clear hc1
    rw [(no (hno)).1, (no (hno)).2]
    clear no
    go_enter Tryd.func74, Tryd.ntmps74
    go_wp2_with fail
    refine (unhide C1).mono ?_; rintro e w2 ⟨rfl, hw⟩; have hw' := hw.symm; clear hw; subst hw'
    go_wp2_with fail
    go_ret2
    exact ⟨_, rfl, made_nil w⟩
   ·rw [hc1] at c1
    cases hc2 : okAll M
    ·rw [hc2] at c2
     have hno : canB L M v = false := by unfold canB; rw [hc1, hc2]; simp
     have C1 := hide c1
     have C2 := hide c2
     clear c1 c2 c4 c5 hc3
     clear hc1 hc2
     rw [(no (hno)).1, (no (hno)).2]
     clear no
     go_enter Tryd.func74, Tryd.ntmps74
     go_wp2_with fail
     refine (unhide C1).mono ?_; rintro e w2 ⟨rfl, hw⟩; have hw' := hw.symm; clear hw; subst hw'
     go_wp2_with fail
     refine (unhide C2).mono ?_; rintro e w2 ⟨rfl, hw⟩; have hw' := hw.symm; clear hw; subst hw'
     go_wp2_with fail
     go_ret2
     exact ⟨_, rfl, made_nil w⟩
    ·rw [hc2] at c2
     cases hc4 : hasB L v
     ·rw [hc4] at c4
      have hno : canB L M v = false := by unfold canB; rw [hc1, hc2, hc4]; simp
      have C1 := hide c1
      have C2 := hide c2
      have C4 := hide c4
      clear c1 c2 c4 c5 hc3
      clear hc1 hc2 hc4
      rw [(no (hno)).1, (no (hno)).2]
      clear no
      go_enter Tryd.func74, Tryd.ntmps74
      go_wp2_with fail
      refine (unhide C1).mono ?_; rintro e w2 ⟨rfl, hw⟩; have hw' := hw.symm; clear hw; subst hw'
      go_wp2_with fail
      refine (unhide C2).mono ?_; rintro e w2 ⟨rfl, hw⟩; have hw' := hw.symm; clear hw; subst hw'
      go_wp2_with fail
      refine (unhide C4).mono ?_; rintro e w2 ⟨rfl, hw⟩; have hw' := hw.symm; clear hw; subst hw'
      go_wp2_with fail
      go_ret2
      exact ⟨_, rfl, made_nil w⟩
     ·rw [hc4] at c4
      cases hc5 : hasB M (-v)
      ·rw [hc5] at c5
       have hno : canB L M v = false := by unfold canB; rw [hc1, hc2, hc4, hc5]; simp
       have C1 := hide c1
       have C2 := hide c2
       have C4 := hide c4
       have C5 := hide c5
       clear c1 c2 c4 c5 hc3
       clear hc1 hc2 hc4 hc5
       rw [(no (hno)).1, (no (hno)).2]
       clear no
       go_enter Tryd.func74, Tryd.ntmps74
       go_wp2_with fail
       refine (unhide C1).mono ?_; rintro e w2 ⟨rfl, hw⟩; have hw' := hw.symm; clear hw; subst hw'
       go_wp2_with fail
       refine (unhide C2).mono ?_; rintro e w2 ⟨rfl, hw⟩; have hw' := hw.symm; clear hw; subst hw'
       go_wp2_with fail
       refine (unhide C4).mono ?_; rintro e w2 ⟨rfl, hw⟩; have hw' := hw.symm; clear hw; subst hw'
       go_wp2_with fail
       refine (unhide C5).mono ?_; rintro e w2 ⟨rfl, hw⟩; have hw' := hw.symm; clear hw; subst hw'
       go_wp2_with fail
       go_ret2
       exact ⟨_, rfl, made_nil w⟩
      ·rw [hc5] at c5
       have hcan : canB L M v = true := by unfold canB; rw [hc1, hc2, hc3, hc4, hc5]; rfl
       obtain ⟨e1, e2⟩ := res_yes hcan
       have hlen := both_len (v := v) hc1 hc2
       have C1 := hide c1
       have C2 := hide c2
       have C4 := hide c4
       have C5 := hide c5
       clear c1 c2 c4 c5 hc1 hc2 hc4 hc5 no hcan hc3
       rw [e1, e2]
       clear e1 e2
       go_enter Tryd.func74, Tryd.ntmps74
       go_wp2_with fail
       refine (unhide C1).mono ?_; rintro e w2 ⟨rfl, hw⟩; have hw' := hw.symm; clear hw; subst hw'
       go_wp2_with fail
       refine (unhide C2).mono ?_; rintro e w2 ⟨rfl, hw⟩; have hw' := hw.symm; clear hw; subst hw'
       go_wp2_with fail
       refine (unhide C4).mono ?_; rintro e w2 ⟨rfl, hw⟩; have hw' := hw.symm; clear hw; subst hw'
       go_wp2_with fail
       refine (unhide C5).mono ?_; rintro e w2 ⟨rfl, hw⟩; have hw' := hw.symm; clear hw; subst hw'
       clear C1 C2 C4 C5
       go_wp2_with fail
       refine (wo.implClauseWithout a L v _ hL (unhide HA)).mono ?_; rintro e w1 ⟨u1, rfl, o1, g1⟩
       have G1 := hide g1
       have O1 := hide (sl.Own.of o1)
       clear o1 g1
       go_wp2_with fail
       refine (wo.implClauseWithout b M (-v) _ hM ((unhide HB).kept (unhide G1) (.inl rfl))).mono ?_; rintro e w2 ⟨u2, rfl, o2, g2⟩
       have o1 := ((unhide O1).kept g2).1
       have g12 := grown_trans (r := none) (unhide G1) g2
       have hl : (woL L v).length + (woL M (-v)).length ≤ 4194304 := by have := wo.woL_le L v; have := wo.woL_le M (-v); omega
       go_wp2_with (at_builtin; refine append2 g12 o1 o2 hl rfl _ _ rfl rfl rfl ?_)
       intro u3 w3 R
       clear o1 o2 g2 g12 hl G1 O1
       obtain ⟨N, hN⟩ : ∃ N, N = both L M v := ⟨_, rfl⟩
       have R' : Made w w3 u3 N := by rw [hN]; exact R
       have hlenN : N.length ≤ 96 := by rw [hN]; exact hlen
       have HN := hide hN
       clear R hlen
       obtain ⟨o3, g3⟩ := R'
       clear hN
       have S3 := hide (sl.Sl.of_own o3)
       have G3 := hide g3
       clear o3 g3
       go_wp2_with fail
       refine (srt.implClauseSort _ N _ ((unhide HT).kept (unhide G3)) (by omega) (unhide S3)).mono ?_; rintro e w4 ⟨u4, rfl, r4⟩
       have R4 := made_trans r4 (unhide G3)
       clear r4
       go_wp2_with fail
       go_ret2
       exact ⟨_, by rw [← unhide HN]; rfl, by rw [← unhide HN]; exact R4⟩
end Go.Proofs.YtibpnocpafppaaaDoor.res
