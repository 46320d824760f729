/- Slices of words of 32 bits in memory, and what the small helpers on them (an equality, marks) do; no condition but that a list has at most 2^20 elements. -/
import Derived.Test.YtfmmdnikeoloeaaSl
import Derived.Laws.AppendOwnNone
namespace Go.Proofs.Ytfmmdnikeoloeaa.zs
open Go.ChangeShapes Go.WideShapes Go.ChangeAt Go.RowKit
open Go.Proofs.Ytfmmdnikeoloeaa.sl (hide unhide ret_int ret_bool grown_refl grown_trans grown_trans' grown_drewN below_of of_below marks marks_length marks_getD marked marked_length marked_zero marked_all grown_setCell)
set_option linter.unusedVariables false

/-- the cells of a list of numbers -/
def ints (L : List Int) : List Value := L.map (Value.int .u32)
theorem ints_length (L : List Int) : (ints L).length = L.length := by simp [ints]

/-- the slice value v reads as the list L -/
def Sl (w : World) (v : Value) (L : List Int) : Prop :=
  ∃ a cap, v = .slice a L.length cap ∧ (L = [] ∨ ∃ b off, a = some ⟨b, off, none⟩ ∧ b < w.heap.size ∧ ∀ i, i < L.length → w.cell? ⟨b, off + i, none⟩ = some (.int .u32 (L.getD i 0)))

theorem Sl.kept {w w' : World} {v : Value} {L : List Int} {row : Option Nat} (h : Sl w v L) (g : w.grownBy w' row) (hr : row = none ∨ v.ownBlock ≠ row) : Sl w' v L := by
  obtain ⟨a, cap, rfl, h⟩ := h
  refine ⟨a, cap, rfl, ?_⟩
  rcases h with h | ⟨b, off, rfl, hb, hc⟩
  · exact .inl h
  · refine .inr ⟨b, off, rfl, Nat.lt_of_lt_of_le hb g.size, fun i hi => ?_⟩
    have e : w'.heap[b]? = w.heap[b]? := g.block b hb (by cases hr with
      | inl h => rw [h]; exact fun h => by cases h
      | inr h => exact h)
    rw [← hc i hi]
    exact World.cell?_of_block (a := ⟨b, off + i, none⟩) e

theorem Sl.of_own {w : World} {base : Nat} {e : TypeId} {v : Value} {L : List Int} (h : w.ownsRow base e 1 v L.length (ints L)) : Sl w v L := by
  have h' := h
  obtain ⟨_, h⟩ := h
  rcases h with ⟨rfl, h0⟩ | ⟨g, cap, cur, rfl, hg, hh, hn, hm, hs, ht⟩
  · have : L = [] := List.eq_nil_of_length_eq_zero h0
    subst this
    exact ⟨none, 0, rfl, .inl rfl⟩
  · refine ⟨_, cap, rfl, .inr ⟨g, 0, rfl, ?_, fun i hi => ?_⟩⟩
    · exact (Array.getElem?_eq_some_iff.1 hh).1
    · rw [Nat.zero_add, h'.cellAt i (by omega)]
      simp [ints, hi]

/-- equal lists: eqW says yes -/
theorem eqW (v u : Value) (L : List Int) (w : World) (hL : L.length ≤ 1048576) (hv : Sl w v L) (hu : Sl w u L) :
    Calls Try.prog 9 #[v, u] w fun e w' => e = .returned (.bool true) ∧ w.grownBy w' none := by
  obtain ⟨a, cap, rfl, ha⟩ := hv
  obtain ⟨c, cap', rfl, hc⟩ := hu
  rcases ha with rfl | ⟨b, off, rfl, hb, hcb⟩
  · go_enter Try.func9, Try.ntmps9
    go_wp2
    refine wp_loop_rounds 1 ?_
    rw [rounds_succ]
    go_wp2
    go_ret
    exact ⟨rfl, grown_refl _⟩
  · rcases hc with rfl | ⟨d, off', rfl, hd, hcd⟩
    · go_enter Try.func9, Try.ntmps9
      go_wp2
      refine wp_loop_rounds 1 ?_
      rw [rounds_succ]
      go_wp2
      go_ret
      exact ⟨rfl, grown_refl _⟩
    · have HB := hide hcb
      have HD := hide hcd
      clear hcb hcd
      go_enter Try.func9, Try.ntmps9
      go_wp2
      go_loopw [5] (fun i wr => ∃ k : Nat, k ≤ L.length ∧ i = .int .i64 k ∧ w.grownBy wr none) (fun i _ => L.length - (intOf i).toNat)
      case atStart => exact ⟨0, Nat.zero_le _, rfl, grown_refl _⟩
      case round =>
        obtain ⟨k, hk, rfl, hg⟩ := hrel
        by_cases hlt : k < L.length
        · have c1 : wr.cell? ⟨b, off + k, none⟩ = some (.int .u32 (L.getD k 0)) := hg.cell (unhide HB k hlt) (fun e => by cases e)
          have c2 : wr.cell? ⟨d, off' + k, none⟩ = some (.int .u32 (L.getD k 0)) := hg.cell (unhide HD k hlt) (fun e => by cases e)
          have hi : (k : Int) < (L.length : Int) := by omega
          have G := hide hg
          clear hg
          go_wp2
          go_quiet (fail)
          go_wp2
          go_roundw
          case rel => exact ⟨k + 1, by omega, by go_num, grown_trans (unhide G) (grown_drewN _ _)⟩
          case measure => simp [intOf]; omega
        · have hi : ¬ (k : Int) < (L.length : Int) := by omega
          have G := hide hg
          clear hg
          go_wp2
          go_ret
          exact ⟨rfl, unhide G⟩

theorem infoW : (Try.prog.info? 30).map (fun i => (i.zero, i.size, i.bytes)) = some (some (.int .u32 0), 1, 4) := by kernel_rfl

theorem own_stored {w : World} {base g cap : Nat} {e : TypeId} {L M : List Int} (n : Nat) (hn : L.length = n) (hm : M.length = n) (h : w.ownsRow base e 1 (.slice (some ⟨g, 0, none⟩) n cap) n (ints L)) (j : Nat) (x : Int) (hx : (ints L).set j (.int .u32 x) = ints M) :
    (w.setCell ⟨g, j, none⟩ (.int .u32 x)).ownsRow base e 1 (.slice (some ⟨g, 0, none⟩) n cap) n (ints M) := by
  rw [← hx]
  exact (h.stored j _).1
theorem marked_set (L : List Int) (k : Int) (j : Nat) (h : j < L.length) : (ints (marked L k j)).set j (.int .u32 (k + (j : Int))) = ints (marked L k (j + 1)) := by
  have e3 : ints (marked L k j) = ints (marks k j) ++ (.int .u32 L[j] :: ints (L.drop (j + 1))) := by
    unfold marked ints
    rw [List.map_append, List.drop_eq_getElem_cons h, List.map_cons]
  have e4 : ints (marked L k (j + 1)) = ints (marks k j) ++ (.int .u32 (k + (j : Int)) :: ints (L.drop (j + 1))) := by
    unfold marked marks ints
    rw [List.range_succ]
    simp
  rw [e3, e4, List.set_append_right _ _ (by rw [ints_length, marks_length]; exact Nat.le_refl _)]
  rw [show j - (ints (marks k j)).length = 0 from by rw [ints_length, marks_length]; omega]
  rfl

/-- marks are written into a list of the call's own -/
theorem markW (v : Value) (L : List Int) (k : Int) (base : Nat) (w : World) (hL : L.length ≤ 1048576) (k0 : 0 ≤ k) (k1 : k ≤ 1048576) (ho : w.ownsRow base 30 1 v L.length (ints L)) :
    Calls Try.prog 10 #[v, .int .i64 k] w fun e w' => e = .returned (.int .i64 (k + (L.length : Int))) ∧ w'.ownsRow base 30 1 v L.length (ints (marks k L.length)) ∧ w.grownBy w' v.ownBlock := by
  have ho' := ho
  obtain ⟨_, h⟩ := ho'
  rcases h with ⟨rfl, h0⟩ | ⟨g, cap, cur, rfl, _, _, _, _, _, _⟩
  · have hl : L = [] := List.eq_nil_of_length_eq_zero h0
    subst hl
    have O := hide ho
    clear ho h0
    go_enter Try.func10, Try.ntmps10
    go_wp2
    refine wp_loop_rounds 1 ?_
    rw [rounds_succ]
    go_wp2
    go_ret
    exact ⟨by simp, unhide O, grown_refl _⟩
  · have O := hide ho
    clear ho
    go_enter Try.func10, Try.ntmps10
    go_wp2
    go_loopw [1, 5] (fun q i wr => ∃ j : Nat, j ≤ L.length ∧ i = .int .i64 j ∧ q = .int .i64 (k + (j : Int)) ∧ wr.ownsRow base 30 1 (.slice (some ⟨g, 0, none⟩) L.length cap) L.length (ints (marked L k j)) ∧ w.grownBy wr (some g)) (fun _ i _ => L.length - (intOf i).toNat)
    case atStart => exact ⟨0, Nat.zero_le _, rfl, by simp, by rw [marked_zero]; exact unhide O, ⟨rfl, rfl, rfl, Nat.le_refl _, fun _ _ _ => rfl⟩⟩
    case round =>
      obtain ⟨j, hj, rfl, rfl, hown, hg⟩ := hrel
      by_cases hlt : j < L.length
      · have c2 : wr.cell? ⟨g, j, none⟩ = (ints (marked L k j))[j]? := hown.cellAt j (by omega)
        obtain ⟨x, hx⟩ : ∃ x, (ints (marked L k j))[j]? = some x := ⟨_, List.getElem?_eq_getElem (by rw [ints_length, marked_length _ _ _ hj]; exact hlt)⟩
        rw [hx] at c2
        have c3 : wr.frozen? ⟨g, j, none⟩ = false := hown.frozenAt j
        have hi' : (j : Int) < (L.length : Int) := by omega
        have O' := hide (own_stored L.length (marked_length L k j hj) (marked_length L k (j + 1) hlt) hown j _ (marked_set L k j hlt))
        have G' := hide (grown_trans' hg (grown_setCell wr g j (.int .u32 (k + (j : Int)))))
        clear hown hg hx O
        go_wp2
        go_roundw
        case rel => exact ⟨j + 1, by omega, by go_num, by go_num, unhide O', unhide G'⟩
        case measure => simp [intOf]; omega
      · have hi' : ¬ (j : Int) < (L.length : Int) := by omega
        have hkl : j = L.length := by omega
        rw [hkl, marked_all] at hown
        have O' := hide hown
        have G' := hide hg
        have HK := hide hkl
        clear hown hg hkl O
        go_wp2
        go_ret
        exact ⟨ret_int (by rw [unhide HK]), unhide O', unhide G'⟩

/-- the marks are there still -/
theorem heldW (v : Value) (n : Nat) (k : Int) (w : World) (hn : n ≤ 1048576) (k0 : 0 ≤ k) (k1 : k ≤ 1048576) (hv : Sl w v (marks k n)) :
    Calls Try.prog 11 #[v, .int .i64 k] w fun e w' => e = .returned (.int .i64 (k + (n : Int))) ∧ w' = w := by
  obtain ⟨a, cap, rfl, ha⟩ := hv
  rw [marks_length]
  have HA := hide ha
  clear ha
  go_enter Try.func11, Try.ntmps11
  go_wp2
  go_loop [1, 5] (fun q i => ∃ j : Nat, j ≤ n ∧ i = .int .i64 j ∧ q = .int .i64 (k + (j : Int))) (fun _ i => n - (intOf i).toNat)
  case atStart => exact ⟨0, Nat.zero_le _, rfl, by simp⟩
  case round =>
    obtain ⟨j, hj, rfl, rfl⟩ := hrel
    by_cases hlt : j < n
    · rcases unhide HA with h | ⟨b, off, rfl, hb, hcb⟩
      · have := marks_length k n
        rw [h] at this
        simp at this
        omega
      · have c1 : w.cell? ⟨b, off + j, none⟩ = some (.int .u32 (k + (j : Int))) := by
          have := hcb j (by rw [marks_length]; exact hlt)
          rw [marks_getD k n j hlt] at this
          exact this
        have hi' : (j : Int) < (n : Int) := by omega
        clear hcb HA
        go_wp2
        go_round
        case rel => exact ⟨j + 1, by omega, by go_num, by go_num⟩
        case measure => simp [intOf]; omega
    · have hi' : ¬ (j : Int) < (n : Int) := by omega
      have HK : Hid (j = n) := by show j = n; omega
      clear HA
      go_wp2
      go_ret
      exact ⟨ret_int (by rw [unhide HK]), rfl⟩

/-- v is a slice of the call's own that reads as L; its block lies from lo on, below hi -/
def Own (lo hi : Nat) (w : World) (v : Value) (L : List Int) : Prop := w.ownsRow lo 30 1 v L.length (ints L) ∧ ∀ k, v.ownBlock = some k → k < hi
theorem Own.of {lo : Nat} {w : World} {v : Value} {L : List Int} (h : w.ownsRow lo 30 1 v L.length (ints L)) : Own lo w.heap.size w v L := ⟨h, fun k e => (h.lt k e).2⟩
theorem Own.sl {lo hi : Nat} {w : World} {v : Value} {L : List Int} (h : Own lo hi w v L) : Sl w v L := Sl.of_own h.1
theorem Own.kept {lo hi : Nat} {w w' : World} {v : Value} {L : List Int} (h : Own lo hi w v L) (g : w.grownBy w' none) : Own lo hi w' v L :=
  ⟨h.1.kept g (by cases v.ownBlock with
    | none => exact .inl rfl
    | some k => exact .inr (fun e => by cases e)), h.2⟩
theorem Own.kept_by {lo hi lo' hi' : Nat} {w w' : World} {v u : Value} {L M : List Int} (h : Own lo hi w v L) (k : Own lo' hi' w u M) (d : hi ≤ lo' ∨ hi' ≤ lo) (g : w.grownBy w' u.ownBlock) : Own lo hi w' v L := by
  refine ⟨h.1.kept g ?_, h.2⟩
  cases e : v.ownBlock with
  | none => exact .inl rfl
  | some i =>
    refine .inr (fun e' => ?_)
    have h1 := (h.1.lt i e).1
    have h2 := h.2 i e
    have k1 := (k.1.lt i e'.symm).1
    have k2 := k.2 i e'.symm
    omega
theorem Own.marked {lo hi : Nat} {w w' : World} {v : Value} {L : List Int} {q : Int} (h : Own lo hi w v L) (k : w'.ownsRow lo 30 1 v L.length (ints (marks q L.length))) : Own lo hi w' v (marks q L.length) :=
  ⟨by rw [marks_length]; exact k, h.2⟩
theorem Sl.below {w w' : World} {v : Value} {L : List Int} (h : Sl w v L) (b : Below w.heap.size w w') : Sl w' v L := h.kept (of_below b) (.inl rfl)
theorem below_none {a w w' : World} (b : Below a.heap.size a w) (g : w.grownBy w' none) : Below a.heap.size a w' := b.grown g b.size (fun k e => by cases e)
theorem below_by {a w w' : World} {lo hi : Nat} {u : Value} {M : List Int} (b : Below a.heap.size a w) (k : Own lo hi w u M) (hlo : a.heap.size ≤ lo) (g : w.grownBy w' u.ownBlock) : Below a.heap.size a w' :=
  b.grown g b.size (fun i e => Nat.le_trans hlo (k.1.lt i e).1)

/-- v is a slice of words of the call's own, made since w -/
def Made (w w1 : World) (v : Value) (M : List Int) : Prop := w1.ownsRow w.heap.size 30 1 v M.length (ints M) ∧ w.grownBy w1 none
theorem made_nil (w : World) : Made w (w.alloc (.cells #[] 30)) (.slice (some ⟨w.heap.size, 0, none⟩) 0 0) [] :=
  ⟨World.ownsRow_lit w #[] 0 (Nat.le_refl _) (Nat.zero_le _) rfl, World.grownBy_alloc _ _ _⟩
theorem ints_append (L M : List Int) : ints (L ++ M) = ints L ++ ints M := by simp [ints]
/-- words behind words: 'append(a, b...)', a of the call's own -/
theorem wpT {o : Oper} {a : Act} {K : Act → World → Prop} {Q : Exit → Act → World → Prop} {w wr : World} {va : Value} {A B : List Int} {ad : Addr} {cap : Nat}
    (hg : w.grownBy wr none) (hA : wr.ownsRow w.heap.size 30 1 va A.length (ints A)) (hB : ∀ j, j < B.length → wr.cell? (ad.add j) = some (.int .u32 (B.getD j 0))) (hl : A.length + B.length ≤ 4194304) (s x : Operand)
    (ho : o.op = .call { callee := .builtin .append, args := #[s, x], argTypes := #[22, 22] }) (hs : a.eval s = va) (hx : a.eval x = .slice (some ad) B.length cap)
    (h : ∀ v' w1, Made w w1 v' (A ++ B) → wr.grownBy w1 va.ownBlock → K (a.put o.dst v') w1) : o.wp Try.prog a wr K Q := by
  obtain ⟨i0, hi, hz0, hz1, hz2⟩ := info_parts infoW
  have hsz := hg.size
  refine wp_append_own _ s x 22 ho w.heap.size 30 i0 (.int .u32 0) 1 4 Try.underlying22 hi hz0 hz1 hz2 rfl (by decide) va A.length (ints A) hs hA ad B.length cap (ints B) hx (by rw [ints_length]; omega) ?_ ?_ ?_ ?_ ?_ ?_
  · intro j u hj
    have hjl : j < B.length := by
      have := (List.getElem?_eq_some_iff.1 hj).1
      rwa [ints_length] at this
    rw [hB j hjl, ← hj]
    simp [ints, hjl]
  · exact ints_oneCell .u32 B
  · unfold maxLen
    omega
  · omega
  · exact hsz
  · intro v' w1 hown' hgrow _
    refine h v' w1 ⟨?_, ⟨hgrow.os.trans hg.os, hgrow.tape.trans hg.tape, hgrow.output.trans hg.output, Nat.le_trans hsz hgrow.size, fun k hk _ => ?_⟩⟩ hgrow
    · rw [List.length_append, ints_append]
      exact hown'
    · rw [hgrow.block k (by omega) (fun e => by have := (hA.lt k e.symm).1; omega)]
      exact hg.block k hk (fun e => by cases e)
theorem stepT {ops : Array Oper} {E : Prop} {o : Oper} {a : Act} {K : Act → World → Prop} {Q : Exit → Act → World → Prop} {w wr : World} {va : Value} {A B : List Int} {ad : Addr} {n cap : Nat}
    (hg : w.grownBy wr none) (hA : wr.ownsRow w.heap.size 30 1 va A.length (ints A)) (hB : ∀ j, j < B.length → wr.cell? (ad.add j) = some (.int .u32 (B.getD j 0))) (hl : A.length + B.length ≤ 4194304) (hn : n = B.length) (hgd : o.guard = none) (s x : Operand)
    (ho : o.op = .call { callee := .builtin .append, args := #[s, x], argTypes := #[22, 22] }) (hs : a.eval s = va) (hx : a.eval x = .slice (some ad) n cap)
    (h : ∀ v' w1, Made w w1 v' (A ++ B) → wr.grownBy w1 va.ownBlock → K (a.put o.dst v') w1) : if Region.wanted o (yielded ops a.tmps) = true then Oper.wp Try.prog o a wr K Q else E := by
  rw [if_pos (by simp [Region.wanted, hgd])]
  subst hn
  exact wpT hg hA hB hl s x ho hs hx h
theorem appendT {ops : Array Oper} {rest : List Oper} {o : Oper} {a : Act} {Q : Exit → Act → World → Prop} {w wr : World} {va : Value} {A B : List Int} {ad : Addr} {n cap : Nat}
    (hg : w.grownBy wr none) (hA : wr.ownsRow w.heap.size 30 1 va A.length (ints A)) (hB : ∀ j, j < B.length → wr.cell? (ad.add j) = some (.int .u32 (B.getD j 0))) (hl : A.length + B.length ≤ 4194304) (hn : n = B.length) (hgd : o.guard = none) (s x : Operand)
    (ho : o.op = .call { callee := .builtin .append, args := #[s, x], argTypes := #[22, 22] }) (hs : a.eval s = va) (hx : a.eval x = .slice (some ad) n cap)
    (h : ∀ v' w1, Made w w1 v' (A ++ B) → wr.grownBy w1 va.ownBlock → wpList Try.prog ops Q rest (a.put o.dst v') w1) : wpList Try.prog ops Q (o :: rest) a wr := by
  subst hn
  exact wpList_plain hgd fun K hK => wpT hg hA hB hl s x ho hs hx fun v' w1 m g => hK _ _ (h v' w1 m g)
/-- one word laid down for an append -/
theorem one_at (wr : World) (y : Int) : ∀ j, j < [y].length → (wr.alloc (.cells #[.int .u32 y] 30)).cell? ((⟨wr.heap.size, 0, none⟩ : Addr).add j) = some (.int .u32 ([y].getD j 0)) := by
  intro j hj
  match j, hj with
  | 0, _ => simp [Addr.add]
end Go.Proofs.Ytfmmdnikeoloeaa.zs
