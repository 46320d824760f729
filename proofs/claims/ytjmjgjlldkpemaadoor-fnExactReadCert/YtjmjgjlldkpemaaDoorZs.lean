/- Slices of words of 32 bits in memory, and what the small helpers on them (an equality, marks) do; no condition but that a list has at most 2^20 elements. -/
import Derived.Test.YtjmjgjlldkpemaaDoorSl
import Derived.Laws.AppendOwnNone
namespace Go.Proofs.YtjmjgjlldkpemaaDoor.zs
open Go.ChangeShapes Go.WideShapes Go.ChangeAt Go.RowKit
open Go.Proofs.YtjmjgjlldkpemaaDoor.sl (hide unhide ret_int ret_bool grown_refl grown_trans grown_trans' grown_drewN below_of of_below marks marks_length marks_getD marked marked_length marked_zero marked_all grown_setCell)
set_option linter.unusedVariables false

/-- the cells of a list of numbers -/
def ints (L : List Int) : List Value := L.map (Value.int .u32)
theorem ints_length (L : List Int) : (ints L).length = L.length := by simp [ints]

/-- the slice value v reads as the list L -/
def Sl (w : World) (v : Value) (L : List Int) : Prop :=
  ∃ a cap, v = .slice a L.length cap ∧ (L = [] ∨ ∃ b off, a = some ⟨b, off, none⟩ ∧ b < w.heap.size ∧ ∀ i, i < L.length → w.cell? ⟨b, off + i, none⟩ = some (.int .u32 (L.getD i 0)))

theorem Sl.kept {w w' : World} {v : Value} {L : List Int} {row : Option Nat} (h : Sl w v L) (g : w.grownBy w' row) (hr : row = none ∨ v.ownBlock ≠ row) : Sl w' v L := by
  obtain ⟨a, cap, rfl, h⟩ := h
  refine ⟨a, cap, rfl, ?_⟩
  rcases h with h | ⟨b, off, rfl, hb, hc⟩
  · exact .inl h
  · refine .inr ⟨b, off, rfl, Nat.lt_of_lt_of_le hb g.size, fun i hi => ?_⟩
    have e : w'.heap[b]? = w.heap[b]? := g.block b hb (by cases hr with
      | inl h => rw [h]; exact fun h => by cases h
      | inr h => exact h)
    rw [← hc i hi]
    exact World.cell?_of_block (a := ⟨b, off + i, none⟩) e

theorem Sl.of_own {w : World} {base : Nat} {e : TypeId} {v : Value} {L : List Int} (h : w.ownsRow base e 1 v L.length (ints L)) : Sl w v L := by
  have h' := h
  obtain ⟨_, h⟩ := h
  rcases h with ⟨rfl, h0⟩ | ⟨g, cap, cur, rfl, hg, hh, hn, hm, hs, ht⟩
  · have : L = [] := List.eq_nil_of_length_eq_zero h0
    subst this
    exact ⟨none, 0, rfl, .inl rfl⟩
  · refine ⟨_, cap, rfl, .inr ⟨g, 0, rfl, ?_, fun i hi => ?_⟩⟩
    · exact (Array.getElem?_eq_some_iff.1 hh).1
    · rw [Nat.zero_add, h'.cellAt i (by omega)]
      simp [ints, hi]

theorem infoW : (Tryd.prog.info? 149).map (fun i => (i.zero, i.size, i.bytes)) = some (some (.int .u32 0), 1, 4) := by kernel_rfl

theorem own_stored {w : World} {base g cap : Nat} {e : TypeId} {L M : List Int} (n : Nat) (hn : L.length = n) (hm : M.length = n) (h : w.ownsRow base e 1 (.slice (some ⟨g, 0, none⟩) n cap) n (ints L)) (j : Nat) (x : Int) (hx : (ints L).set j (.int .u32 x) = ints M) :
    (w.setCell ⟨g, j, none⟩ (.int .u32 x)).ownsRow base e 1 (.slice (some ⟨g, 0, none⟩) n cap) n (ints M) := by
  rw [← hx]
  exact (h.stored j _).1
theorem marked_set (L : List Int) (k : Int) (j : Nat) (h : j < L.length) : (ints (marked L k j)).set j (.int .u32 (k + (j : Int))) = ints (marked L k (j + 1)) := by
  have e3 : ints (marked L k j) = ints (marks k j) ++ (.int .u32 L[j] :: ints (L.drop (j + 1))) := by
    unfold marked ints
    rw [List.map_append, List.drop_eq_getElem_cons h, List.map_cons]
  have e4 : ints (marked L k (j + 1)) = ints (marks k j) ++ (.int .u32 (k + (j : Int)) :: ints (L.drop (j + 1))) := by
    unfold marked marks ints
    rw [List.range_succ]
    simp
  rw [e3, e4, List.set_append_right _ _ (by rw [ints_length, marks_length]; exact Nat.le_refl _)]
  rw [show j - (ints (marks k j)).length = 0 from by rw [ints_length, marks_length]; omega]
  rfl

/-- v is a slice of the call's own that reads as L; its block lies from lo on, below hi -/
def Own (lo hi : Nat) (w : World) (v : Value) (L : List Int) : Prop := w.ownsRow lo 149 1 v L.length (ints L) ∧ ∀ k, v.ownBlock = some k → k < hi
theorem Own.of {lo : Nat} {w : World} {v : Value} {L : List Int} (h : w.ownsRow lo 149 1 v L.length (ints L)) : Own lo w.heap.size w v L := ⟨h, fun k e => (h.lt k e).2⟩
theorem Own.sl {lo hi : Nat} {w : World} {v : Value} {L : List Int} (h : Own lo hi w v L) : Sl w v L := Sl.of_own h.1
theorem Own.kept {lo hi : Nat} {w w' : World} {v : Value} {L : List Int} (h : Own lo hi w v L) (g : w.grownBy w' none) : Own lo hi w' v L :=
  ⟨h.1.kept g (by cases v.ownBlock with
    | none => exact .inl rfl
    | some k => exact .inr (fun e => by cases e)), h.2⟩
theorem Own.kept_by {lo hi lo' hi' : Nat} {w w' : World} {v u : Value} {L M : List Int} (h : Own lo hi w v L) (k : Own lo' hi' w u M) (d : hi ≤ lo' ∨ hi' ≤ lo) (g : w.grownBy w' u.ownBlock) : Own lo hi w' v L := by
  refine ⟨h.1.kept g ?_, h.2⟩
  cases e : v.ownBlock with
  | none => exact .inl rfl
  | some i =>
    refine .inr (fun e' => ?_)
    have h1 := (h.1.lt i e).1
    have h2 := h.2 i e
    have k1 := (k.1.lt i e'.symm).1
    have k2 := k.2 i e'.symm
    omega
theorem Own.marked {lo hi : Nat} {w w' : World} {v : Value} {L : List Int} {q : Int} (h : Own lo hi w v L) (k : w'.ownsRow lo 149 1 v L.length (ints (marks q L.length))) : Own lo hi w' v (marks q L.length) :=
  ⟨by rw [marks_length]; exact k, h.2⟩
theorem Sl.below {w w' : World} {v : Value} {L : List Int} (h : Sl w v L) (b : Below w.heap.size w w') : Sl w' v L := h.kept (of_below b) (.inl rfl)
theorem below_none {a w w' : World} (b : Below a.heap.size a w) (g : w.grownBy w' none) : Below a.heap.size a w' := b.grown g b.size (fun k e => by cases e)
theorem below_by {a w w' : World} {lo hi : Nat} {u : Value} {M : List Int} (b : Below a.heap.size a w) (k : Own lo hi w u M) (hlo : a.heap.size ≤ lo) (g : w.grownBy w' u.ownBlock) : Below a.heap.size a w' :=
  b.grown g b.size (fun i e => Nat.le_trans hlo (k.1.lt i e).1)

/-- v is a slice of words of the call's own, made since w -/
def Made (w w1 : World) (v : Value) (M : List Int) : Prop := w1.ownsRow w.heap.size 149 1 v M.length (ints M) ∧ w.grownBy w1 none
theorem made_nil (w : World) : Made w (w.alloc (.cells #[] 149)) (.slice (some ⟨w.heap.size, 0, none⟩) 0 0) [] :=
  ⟨World.ownsRow_lit w #[] 0 (Nat.le_refl _) (Nat.zero_le _) rfl, World.grownBy_alloc _ _ _⟩
theorem ints_append (L M : List Int) : ints (L ++ M) = ints L ++ ints M := by simp [ints]
/-- words behind words: 'append(a, b...)', a of the call's own -/
theorem wpT {o : Oper} {a : Act} {K : Act → World → Prop} {Q : Exit → Act → World → Prop} {w wr : World} {va : Value} {A B : List Int} {ad : Addr} {cap : Nat}
    (hg : w.grownBy wr none) (hA : wr.ownsRow w.heap.size 149 1 va A.length (ints A)) (hB : ∀ j, j < B.length → wr.cell? (ad.add j) = some (.int .u32 (B.getD j 0))) (hl : A.length + B.length ≤ 4194304) (s x : Operand)
    (ho : o.op = .call { callee := .builtin .append, args := #[s, x], argTypes := #[157, 157] }) (hs : a.eval s = va) (hx : a.eval x = .slice (some ad) B.length cap)
    (h : ∀ v' w1, Made w w1 v' (A ++ B) → wr.grownBy w1 va.ownBlock → K (a.put o.dst v') w1) : o.wp Tryd.prog a wr K Q := by
  obtain ⟨i0, hi, hz0, hz1, hz2⟩ := info_parts infoW
  have hsz := hg.size
  refine wp_append_own _ s x 157 ho w.heap.size 149 i0 (.int .u32 0) 1 4 Tryd.underlying157 hi hz0 hz1 hz2 rfl (by decide) va A.length (ints A) hs hA ad B.length cap (ints B) hx (by rw [ints_length]; omega) ?_ ?_ ?_ ?_ ?_ ?_
  · intro j u hj
    have hjl : j < B.length := by
      have := (List.getElem?_eq_some_iff.1 hj).1
      rwa [ints_length] at this
    rw [hB j hjl, ← hj]
    simp [ints, hjl]
  · exact ints_oneCell .u32 B
  · unfold maxLen
    omega
  · omega
  · exact hsz
  · intro v' w1 hown' hgrow _
    refine h v' w1 ⟨?_, ⟨hgrow.os.trans hg.os, hgrow.tape.trans hg.tape, hgrow.output.trans hg.output, Nat.le_trans hsz hgrow.size, fun k hk _ => ?_⟩⟩ hgrow
    · rw [List.length_append, ints_append]
      exact hown'
    · rw [hgrow.block k (by omega) (fun e => by have := (hA.lt k e.symm).1; omega)]
      exact hg.block k hk (fun e => by cases e)
theorem stepT {ops : Array Oper} {E : Prop} {o : Oper} {a : Act} {K : Act → World → Prop} {Q : Exit → Act → World → Prop} {w wr : World} {va : Value} {A B : List Int} {ad : Addr} {n cap : Nat}
    (hg : w.grownBy wr none) (hA : wr.ownsRow w.heap.size 149 1 va A.length (ints A)) (hB : ∀ j, j < B.length → wr.cell? (ad.add j) = some (.int .u32 (B.getD j 0))) (hl : A.length + B.length ≤ 4194304) (hn : n = B.length) (hgd : o.guard = none) (s x : Operand)
    (ho : o.op = .call { callee := .builtin .append, args := #[s, x], argTypes := #[157, 157] }) (hs : a.eval s = va) (hx : a.eval x = .slice (some ad) n cap)
    (h : ∀ v' w1, Made w w1 v' (A ++ B) → wr.grownBy w1 va.ownBlock → K (a.put o.dst v') w1) : if Region.wanted o (yielded ops a.tmps) = true then Oper.wp Tryd.prog o a wr K Q else E := by
  rw [if_pos (by simp [Region.wanted, hgd])]
  subst hn
  exact wpT hg hA hB hl s x ho hs hx h
theorem appendT {ops : Array Oper} {rest : List Oper} {o : Oper} {a : Act} {Q : Exit → Act → World → Prop} {w wr : World} {va : Value} {A B : List Int} {ad : Addr} {n cap : Nat}
    (hg : w.grownBy wr none) (hA : wr.ownsRow w.heap.size 149 1 va A.length (ints A)) (hB : ∀ j, j < B.length → wr.cell? (ad.add j) = some (.int .u32 (B.getD j 0))) (hl : A.length + B.length ≤ 4194304) (hn : n = B.length) (hgd : o.guard = none) (s x : Operand)
    (ho : o.op = .call { callee := .builtin .append, args := #[s, x], argTypes := #[157, 157] }) (hs : a.eval s = va) (hx : a.eval x = .slice (some ad) n cap)
    (h : ∀ v' w1, Made w w1 v' (A ++ B) → wr.grownBy w1 va.ownBlock → wpList Tryd.prog ops Q rest (a.put o.dst v') w1) : wpList Tryd.prog ops Q (o :: rest) a wr := by
  subst hn
  exact wpList_plain hgd fun K hK => wpT hg hA hB hl s x ho hs hx fun v' w1 m g => hK _ _ (h v' w1 m g)
/-- one word laid down for an append -/
theorem one_at (wr : World) (y : Int) : ∀ j, j < [y].length → (wr.alloc (.cells #[.int .u32 y] 149)).cell? ((⟨wr.heap.size, 0, none⟩ : Addr).add j) = some (.int .u32 ([y].getD j 0)) := by
  intro j hj
  match j, hj with
  | 0, _ => simp [Addr.add]
end Go.Proofs.YtjmjgjlldkpemaaDoor.zs
