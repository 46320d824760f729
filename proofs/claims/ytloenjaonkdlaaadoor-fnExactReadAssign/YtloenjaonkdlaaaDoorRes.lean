/- What Resolve (of the program and of its model) answers at every two lists of at most 2^20 numbers and every number, where the library's table of places lies as its text lays it. -/
import Derived.Test.YtloenjaonkdlaaaDoorSrtS
import Derived.Laws.AppendOwnNone
namespace Go.Proofs.YtloenjaonkdlaaaDoor.res
open Go.ChangeShapes Go.WideShapes Go.ChangeAt Go.RowKit
open Go.Proofs.YtloenjaonkdlaaaDoor.lits (okB okB_iff)
open Go.Proofs.YtloenjaonkdlaaaDoor.cls (hasB okAll)
open Go.Proofs.YtloenjaonkdlaaaDoor.srt (sortL sortB Tab made_nil)
open Go.Proofs.YtloenjaonkdlaaaDoor.wo (woL Made)
open Go.Proofs.YtloenjaonkdlaaaDoor.sl (Sl ints hide unhide ret_int ret_bool grown_refl grown_trans)
set_option linter.unusedVariables false

/-- whether two clauses can be resolved by v -/
def canB (L M : List Int) (v : Int) : Bool := okAll L && okAll M && decide (1 ≤ v ∧ v ≤ 24) && hasB L v && hasB M (-v)
/-- what is left of both -/
def both (L M : List Int) (v : Int) : List Int := woL L v ++ woL M (-v)
def resL (L M : List Int) (v : Int) : List Int := if canB L M v then sortL (both L M v) else []
def resB (L M : List Int) (v : Int) : Bool := canB L M v && sortB (both L M v)
theorem okAll_len {L : List Int} (h : okAll L = true) : L.length ≤ 48 := by
  unfold okAll at h
  rw [Bool.and_eq_true, decide_eq_true_iff] at h
  exact h.2
theorem okAll_all {L : List Int} (h : okAll L = true) : L.all okB = true := by
  unfold okAll at h
  rw [Bool.and_eq_true] at h
  exact h.1
theorem wo_all {L : List Int} (x : Int) (h : L.all okB = true) : (woL L x).all okB = true := by
  rw [List.all_eq_true] at *
  intro y hy
  exact h y (List.mem_filter.1 hy).1
theorem both_ok {L M : List Int} {v : Int} (hL : okAll L = true) (hM : okAll M = true) : okAll (both L M v) = decide ((both L M v).length ≤ 48) := by
  have h : (both L M v).all okB = true := by
    unfold both
    rw [List.all_append, wo_all v (okAll_all hL), wo_all (-v) (okAll_all hM)]
    rfl
  unfold okAll
  rw [h]
  rfl
theorem both_len {L M : List Int} {v : Int} (hL : okAll L = true) (hM : okAll M = true) : (both L M v).length ≤ 96 := by
  unfold both
  rw [List.length_append]
  have h1 := Nat.le_trans (wo.woL_le L v) (okAll_len hL)
  have h2 := Nat.le_trans (wo.woL_le M (-v)) (okAll_len hM)
  omega
theorem resL_len (L M : List Int) (v : Int) : (resL L M v).length ≤ 48 := by
  unfold resL
  split
  · exact srt.sortL_len _
  · exact Nat.zero_le _
theorem res_no {L M : List Int} {v : Int} (h : canB L M v = false) : resL L M v = [] ∧ resB L M v = false := by
  unfold resL resB
  rw [h]
  exact ⟨rfl, rfl⟩
theorem res_yes {L M : List Int} {v : Int} (h : canB L M v = true) : resL L M v = sortL (both L M v) ∧ resB L M v = sortB (both L M v) := by
  unfold resL resB
  rw [h]
  exact ⟨rfl, rfl⟩
theorem ints_append (L M : List Int) : ints (L ++ M) = ints L ++ ints M := by simp [ints]
theorem can_of {L M : List Int} {v : Int} (h : canB L M v = true) : okAll L = true ∧ okAll M = true ∧ 1 ≤ v ∧ v ≤ 24 ∧ hasB L v = true ∧ hasB M (-v) = true := by
  unfold canB at h
  simp only [Bool.and_eq_true, decide_eq_true_iff] at h
  exact ⟨h.1.1.1.1, h.1.1.1.2, h.1.1.2.1, h.1.1.2.2, h.1.2, h.2⟩

theorem own_mono {w : World} {base base' : Nat} {e : TypeId} {v : Value} {n : Nat} {xs : List Value} (h : w.ownsRow base e 1 v n xs) (hb : base' ≤ base) : w.ownsRow base' e 1 v n xs := by
  obtain ⟨h1, h2⟩ := h
  refine ⟨h1, ?_⟩
  rcases h2 with h2 | ⟨g, cap, cur, e1, hg, r⟩
  · exact .inl h2
  · exact .inr ⟨g, cap, cur, e1, Nat.le_trans hb hg, r⟩
theorem made_trans {w w1 w2 : World} {u : Value} {M : List Int} (h : Made w1 w2 u M) (g : w.grownBy w1 none) : Made w w2 u M :=
  ⟨own_mono h.1 g.size, grown_trans g h.2⟩

/-- 'append(a, b...)', both slices of the call's own -/
theorem append2 {ops : Array Oper} {rest : List Oper} {o : Oper} {a : Act} {Q : Exit → Act → World → Prop} {w wr : World} {va vb : Value} {A B : List Int} {base' : Nat}
    (hg : w.grownBy wr none) (hA : wr.ownsRow w.heap.size 3 1 va A.length (ints A)) (hB : wr.ownsRow base' 3 1 vb B.length (ints B)) (hl : A.length + B.length ≤ 4194304) (hgd : o.guard = none) (s x : Operand)
    (ho : o.op = .call { callee := .builtin .append, args := #[s, x], argTypes := #[24, 24] }) (hs : a.eval s = va) (hx : a.eval x = vb)
    (h : ∀ v' w1, Made w w1 v' (A ++ B) → wpList Tryd.prog ops Q rest (a.put o.dst v') w1) :
    wpList Tryd.prog ops Q (o :: rest) a wr := by
  obtain ⟨i0, hi, hz0, hz1, hz2⟩ := info_parts sl.info3
  have hsz := hg.size
  have hB' := hB
  obtain ⟨_, h2⟩ := hB'
  rcases h2 with ⟨rfl, h0⟩ | ⟨g, cap, cur, rfl, hgb, hh, hn, hm, hsc, ht⟩
  · have e : B = [] := List.eq_nil_of_length_eq_zero h0
    subst e
    refine wpList_append_own_none hgd s x 24 ho w.heap.size 3 i0 1 Tryd.underlying24 hi va A.length (ints A) hs hA hx ?_
    refine h va wr ⟨?_, hg⟩
    rw [List.append_nil]
    exact hA
  · refine wpList_append_own _ hgd s x 24 ho w.heap.size 3 i0 (.int .i64 0) 1 8 Tryd.underlying24 hi hz0 hz1 hz2 rfl (by decide) va A.length (ints A) hs hA ⟨g, 0, none⟩ B.length cap (ints B) hx (by rw [sl.ints_length]; omega) ?_ ?_ ?_ ?_ ?_ ?_
    · intro j u hj
      rw [Addr.add_lit, Nat.zero_add]
      have hjl : j < B.length := by
        have := (List.getElem?_eq_some_iff.1 hj).1
        rwa [sl.ints_length] at this
      rw [hB.cellAt j (by omega)]
      exact hj
    · exact ints_oneCell .i64 B
    · unfold maxLen
      omega
    · omega
    · exact hsz
    · intro v' w1 hown' hgrow _
      refine h v' w1 ⟨?_, ⟨hgrow.os.trans hg.os, hgrow.tape.trans hg.tape, hgrow.output.trans hg.output, Nat.le_trans hsz hgrow.size, fun k hk _ => ?_⟩⟩
      · rw [List.length_append, ints_append]
        exact hown'
      · rw [hgrow.block k (by omega) (fun e => by have := (hA.lt k e.symm).1; omega)]
        exact hg.block k hk (fun e => by cases e)

theorem inC (x a b : Int) (w : World) : Calls Tryd.prog 69 #[.int .i64 x, .int .i64 a, .int .i64 b] w fun e w' => e = .returned (.bool (decide (a ≤ x ∧ x ≤ b))) ∧ w' = w := by
  by_cases h1 : a ≤ x
  · by_cases h2 : x ≤ b
    · rw [decide_eq_true ⟨h1, h2⟩]
      go_enter Tryd.func69, Tryd.ntmps69
      go_wp2
      go_ret
      exact ⟨rfl, rfl⟩
    · rw [decide_eq_false (fun h => h2 h.2)]
      go_enter Tryd.func69, Tryd.ntmps69
      go_wp2
      go_ret
      exact ⟨rfl, rfl⟩
  · rw [decide_eq_false (fun h => h1 h.1)]
    have h1' : decide (a ≤ x) = false := decide_eq_false h1
    go_enter Tryd.func69, Tryd.ntmps69
    go_wp2
    go_ret
    exact ⟨rfl, rfl⟩

end Go.Proofs.YtloenjaonkdlaaaDoor.res
