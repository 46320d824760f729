/- What putInOrder makes of rows: the same rows, in order. -/
import Derived.Test.YtibpnocpafppaaaDoorRw
import Derived.Laws.OwnMore
import Derived.Deep.QuietTactic
import Derived.BigQuiet
namespace Go.Proofs.YtibpnocpafppaaaDoor.pio
open Go.ChangeShapes Go.WideShapes Go.ChangeAt Go.RowKit
open Go.Proofs.YtibpnocpafppaaaDoor.sl (hide unhide grown_refl grown_trans grown_drewN below_of of_below)
open Go.Proofs.YtibpnocpafppaaaDoor.ro (cells8 size8 pad pad_len one8 infoRow aheadL ahead_less)
open Go.Proofs.YtibpnocpafppaaaDoor.mk (Fine)
open Go.Proofs.YtibpnocpafppaaaDoor.cs (Up Ord less_ord put_up)
open Go.Proofs.YtibpnocpafppaaaDoor.le (lessL)
open Go.Proofs.YtibpnocpafppaaaDoor.rws (cellsR cellsR_len row_kept)
set_option linter.unusedVariables false

/-- a row's cells -/
def rowC (L : List Int) : List Value := (cells8 (pad L)).toList
theorem rowC_len {L : List Int} (h : Fine L) : (rowC L).length = 24 := by
  unfold rowC
  rw [Array.length_toList, size8, pad_len h.1]
theorem rowC_one (L : List Int) : ∀ v ∈ rowC L, v.oneCell' = true := by
  intro v hv
  have := one8 (pad L)
  rw [Array.all_eq_true_iff_forall_mem] at this
  exact this v (by simpa [rowC] using hv)
theorem split (A B : List (List Int)) (c : List Int) : cellsR (A ++ c :: B) = cellsR A ++ (rowC c ++ cellsR B) := by
  unfold rws.cellsR rowC
  rw [List.flatMap_append, List.flatMap_cons]
/-- cells written one behind the other -/
def setAll (xs : List Value) (o : Nat) (ys : List Value) : List Value := match ys with
  | [] => xs
  | y :: ys => setAll (xs.set o y) (o + 1) ys
theorem end0 {P : Program} {fn : Func} {R : Ending → World → Prop} {a : Act} {w : World} (h : fn.results = #[]) (hd : a.defers = []) (hr : R (.returned (.tuple #[])) w) : bodyPost P fn R .normal a w :=
  ⟨hd, _, by simp [results, h], hr⟩
theorem setAll_eq (ys : List Value) : ∀ (P Z : List Value) (o : Nat) (R : List Value), P.length = o → Z.length = ys.length → setAll (P ++ (Z ++ R)) o ys = P ++ (ys ++ R) := by
  induction ys with
  | nil =>
    intro P Z o R hP hZ
    have : Z = [] := List.eq_nil_of_length_eq_zero hZ
    rw [this]
    rfl
  | cons y ys ih =>
    intro P Z o R hP hZ
    cases Z with
    | nil => cases hZ
    | cons z Z =>
      have e : (P ++ (z :: Z ++ R)).set o y = (P ++ [y]) ++ (Z ++ R) := by
        rw [← hP]
        simp
      show setAll ((P ++ (z :: Z ++ R)).set o y) (o + 1) ys = _
      rw [e, ih (P ++ [y]) Z (o + 1) R (by simp [hP]) (by simpa using hZ)]
      simp
theorem own_setAll {base size g n cap : Nat} {e : TypeId} (ys : List Value) : ∀ (o : Nat) (w : World) (xs : List Value), w.ownsRow base e size (.slice (some ⟨g, 0, none⟩) n cap) n xs →
    (w.setCells g o ys).ownsRow base e size (.slice (some ⟨g, 0, none⟩) n cap) n (setAll xs o ys) ∧ w.grownBy (w.setCells g o ys) (some g) := by
  induction ys with
  | nil =>
    intro o w xs h
    exact ⟨h, ⟨rfl, rfl, rfl, Nat.le_refl _, fun _ _ _ => rfl⟩⟩
  | cons y ys ih =>
    intro o w xs h
    obtain ⟨h1, g1⟩ := h.stored o y
    obtain ⟨h2, g2⟩ := ih (o + 1) _ _ h1
    exact ⟨h2, sl.grown_trans' g1 g2⟩
/-- the rows X lie in block g -/
def Lie (lo : Nat) (w : World) (g n cap : Nat) (X : List (List Int)) : Prop := w.ownsRow lo 69 24 (.slice (some ⟨g, 0, none⟩) n cap) n (cellsR X)
theorem Lie.cell {lo g n cap : Nat} {w : World} {X : List (List Int)} (h : Lie lo w g n cap X) {j : Nat} {v : Value} (hv : (cellsR X)[j]? = some v) : w.cell? ⟨g, j, none⟩ = some v := by
  have hj : j < n * 24 := by
    have := (List.getElem?_eq_some_iff.1 hv).1
    rw [h.1] at this
    exact this
  rw [h.cellAt j hj]
  exact hv
theorem Lie.range {lo g n cap : Nat} {w : World} {A B : List (List Int)} {c : List Int} (h : Lie lo w g n cap (A ++ c :: B)) (hA : ∀ L ∈ A, Fine L) {o : Nat} (ho : A.length * 24 = o) : w.rangeAt g o (rowC c) := by
  intro j v hv
  refine h.cell ?_
  rw [split, List.getElem?_append_right (by rw [cellsR_len A (fun L hL => (hA L hL).1)]; omega), cellsR_len A (fun L hL => (hA L hL).1), ho, Nat.add_sub_cancel_left, List.getElem?_append_left (List.getElem?_eq_some_iff.1 hv).1]
  exact hv
theorem Lie.there {lo g n cap : Nat} {w : World} {A B : List (List Int)} {c : List Int} (h : Lie lo w g n cap (A ++ c :: B)) (hA : ∀ L ∈ A, Fine L) (hc : Fine c) {o : Nat} (ho : A.length * 24 = o) : w.there g o 24 := by
  intro j hj
  have r := h.range hA ho
  refine ⟨?_, h.frozenAt _⟩
  have : j < (rowC c).length := by rw [rowC_len hc]; exact hj
  rw [r j _ (List.getElem?_eq_getElem this)]
  rfl
theorem Lie.put {lo g n cap : Nat} {w : World} {A B : List (List Int)} {c d : List Int} (h : Lie lo w g n cap (A ++ c :: B)) (hA : ∀ L ∈ A, Fine L) (hc : Fine c) (hd : Fine d) {o : Nat} (ho : A.length * 24 = o) :
    Lie lo (w.setCells g o (rowC d)) g n cap (A ++ d :: B) ∧ w.grownBy (w.setCells g o (rowC d)) (some g) := by
  obtain ⟨h1, g1⟩ := own_setAll (rowC d) o w _ h
  refine ⟨?_, g1⟩
  unfold Lie
  rw [split] at h1 ⊢
  rw [setAll_eq (rowC d) (cellsR A) (rowC c) o (cellsR B) (by rw [cellsR_len A (fun L hL => (hA L hL).1), ho]) (by rw [rowC_len hc, rowC_len hd])] at h1
  exact h1
theorem Lie.kept {lo g n cap : Nat} {w w' : World} {X : List (List Int)} (h : Lie lo w g n cap X) (k : w.grownBy w' none) : Lie lo w' g n cap X := row_kept h k
theorem range_kept {w w' : World} {b o : Nat} {cs : List Value} (h : w.rangeAt b o cs) (k : w.grownBy w' none) : w'.rangeAt b o cs := fun j v hv => k.cell (h j v hv) (fun e => by cases e)

theorem grown_wide {w w' : World} {r : Option Nat} (h : w.grownBy w' none) : w.grownBy w' r := grown_trans (grown_refl w) h
/-- behind i rounds -/
def OutI (lo : Nat) (w wr : World) (g cap : Nat) (X : List (List Int)) (i : Nat) : Prop :=
  w.grownBy wr (some g) ∧ ∃ S, Lie lo wr g X.length cap (S ++ X.drop i) ∧ S.length = i ∧ Up lessL S ∧ ∀ x, x ∈ S ↔ x ∈ X.take i
/-- in the midst of a round: the element stands at j -/
def InI (lo : Nat) (w wr : World) (g cap : Nat) (X : List (List Int)) (i j : Nat) : Prop :=
  w.grownBy wr (some g) ∧ ∃ A B c, Lie lo wr g X.length cap (A ++ c :: (B ++ X.drop (i + 1))) ∧ A.length = j ∧ A.length + B.length = i ∧ Up lessL (A ++ B) ∧ (∀ x, x ∈ A ++ B ↔ x ∈ X.take i) ∧ X[i]? = some c ∧ ∀ b ∈ B, lessL c b = true
theorem OutI.in_ {lo : Nat} {w wr : World} {g cap : Nat} {X : List (List Int)} {i : Nat} (h : OutI lo w wr g cap X i) (hi : i < X.length) : InI lo w wr g cap X i i := by
  obtain ⟨h1, S, h2, h3, h4, h5⟩ := h
  refine ⟨h1, S, [], X[i], ?_, h3, by simpa using h3, by rw [List.append_nil]; exact h4, by rw [List.append_nil]; exact h5, List.getElem?_eq_getElem hi, by simp⟩
  rw [List.drop_eq_getElem_cons hi] at h2
  exact h2
theorem fine_A {X : List (List Int)} {A B : List (List Int)} {i : Nat} (hX : ∀ L ∈ X, Fine L) (h : ∀ x, x ∈ A ++ B ↔ x ∈ X.take i) : (∀ L ∈ A, Fine L) ∧ ∀ L ∈ B, Fine L :=
  ⟨fun L hL => hX L (List.mem_of_mem_take ((h L).1 (by simp [hL]))), fun L hL => hX L (List.mem_of_mem_take ((h L).1 (by simp [hL])))⟩
theorem not_in {X : List (List Int)} {i : Nat} {c : List Int} (hn : X.Nodup) (h : X[i]? = some c) : c ∉ X.take i := by
  intro hm
  obtain ⟨hi, e⟩ := List.getElem?_eq_some_iff.1 h
  obtain ⟨k, hk, e'⟩ := List.mem_take_iff_getElem.1 hm
  have hk' : k < X.length := by omega
  have := (List.getElem_inj (h₀ := hk') (h₁ := hi) hn).1 (e'.trans e.symm)
  omega
theorem out_of {lo : Nat} {w wr : World} {g cap : Nat} {X : List (List Int)} {i : Nat} (hX : ∀ L ∈ X, Fine L) (hn : X.Nodup) {A B : List (List Int)} {c : List Int} (h1 : w.grownBy wr (some g)) (h2 : Lie lo wr g X.length cap (A ++ c :: (B ++ X.drop (i + 1)))) (h4 : A.length + B.length = i) (h5 : Up lessL (A ++ B)) (h6 : ∀ x, x ∈ A ++ B ↔ x ∈ X.take i) (h7 : X[i]? = some c) (h8 : ∀ b ∈ B, lessL c b = true)
    (hA : A = [] ∨ ∃ A' a, A = A' ++ [a] ∧ lessL c a = false) : OutI lo w wr g cap X (i + 1) := by
  obtain ⟨fA, fB⟩ := fine_A hX h6
  have fc := hX c (List.mem_of_getElem? h7)
  have hi := (List.getElem?_eq_some_iff.1 h7).1
  have hcA : c ∉ A := fun hm => not_in hn h7 ((h6 c).1 (by simp [hm]))
  refine ⟨h1, A ++ c :: B, by simpa using h2, by simp; omega, put_up less_ord h5 (fun L hL => (fA L hL).2) (fun L hL => (fB L hL).2) fc.2 hcA h8 hA, fun x => ?_⟩
  have ht : X.take (i + 1) = X.take i ++ [c] := by
    rw [List.take_succ_eq_append_getElem hi]
    congr 2
    rw [List.getElem?_eq_getElem hi] at h7
    exact Option.some.inj h7
  have := h6 x
  rw [List.mem_append] at this
  rw [ht, List.mem_append, List.mem_cons, List.mem_append, List.mem_singleton, ← this]
  constructor
  · rintro (q | q | q)
    · exact .inl (.inl q)
    · exact .inr q
    · exact .inl (.inr q)
  · rintro ((q | q) | q)
    · exact .inl q
    · exact .inr (.inr q)
    · exact .inr (.inl q)
theorem InI.out0 {lo : Nat} {w wr : World} {g cap : Nat} {X : List (List Int)} {i : Nat} (hX : ∀ L ∈ X, Fine L) (hn : X.Nodup) (h : InI lo w wr g cap X i 0) : OutI lo w wr g cap X (i + 1) := by
  obtain ⟨h1, A, B, c, h2, h3, h4, h5, h6, h7, h8⟩ := h
  exact out_of hX hn h1 h2 h4 h5 h6 h7 h8 (.inl (List.eq_nil_of_length_eq_zero h3))
/-- what stands at j and ahead of it -/
theorem next {lo : Nat} {w wr : World} {g cap : Nat} {X : List (List Int)} {i q : Nat} (hX : ∀ L ∈ X, Fine L) (hn : X.Nodup) (h : InI lo w wr g cap X i (q + 1)) :
    ∃ A a R c, Lie lo wr g X.length cap (A ++ a :: (c :: R)) ∧ A.length = q ∧ Fine a ∧ Fine c ∧ (∀ L ∈ A, Fine L) ∧ (lessL c a = false → ∀ wr', wr.grownBy wr' none → OutI lo w wr' g cap X (i + 1)) ∧
      (lessL c a = true → ∀ wr', Lie lo wr' g X.length cap (A ++ c :: (a :: R)) → wr.grownBy wr' (some g) → InI lo w wr' g cap X i q) := by
  obtain ⟨h1, A0, B, c, h2, h3, h4, h5, h6, h7, h8⟩ := h
  obtain ⟨fA, fB⟩ := fine_A hX h6
  have fc := hX c (List.mem_of_getElem? h7)
  rcases List.eq_nil_or_concat A0 with e | ⟨A, a, e⟩
  · rw [e] at h3
    cases h3
  · rw [List.concat_eq_append] at e
    subst e
    have hl : A.length = q := by simpa using h3
    have h2' : Lie lo wr g X.length cap (A ++ a :: (c :: (B ++ X.drop (i + 1)))) := by
      rw [List.append_assoc] at h2
      exact h2
    refine ⟨A, a, B ++ X.drop (i + 1), c, h2', hl, fA a (by simp), fc, fun L hL => fA L (by simp [hL]), fun hlt wr' k => ?_, fun hlt wr' h2n k => ?_⟩
    · exact out_of hX hn (sl.grown_trans' h1 (grown_wide k)) (h2.kept k) h4 h5 h6 h7 h8 (.inr ⟨A, a, rfl, hlt⟩)
    · refine ⟨sl.grown_trans' h1 k, A, a :: B, c, by simpa using h2n, hl, by simp at h4 ⊢; omega, by rw [List.append_assoc] at h5; exact h5, fun x => by rw [← h6 x]; simp, h7, fun b hb => ?_⟩
      rcases List.mem_cons.1 hb with rfl | hb
      · exact hlt
      · exact h8 b hb
theorem OutI.drewN {lo : Nat} {w wr : World} {g cap : Nat} {X : List (List Int)} {i : Nat} (h : OutI lo w wr g cap X i) (m : Nat) : OutI lo w (wr.drewN m) g cap X i := by
  obtain ⟨h1, S, h2, h3⟩ := h
  exact ⟨sl.grown_trans' h1 (grown_wide (grown_drewN wr m)), S, h2.kept (grown_drewN wr m), h3⟩
/-- two rows change places -/
theorem swapped {lo g n cap q : Nat} {wr : World} {A R : List (List Int)} {a c : List Int} (h : Lie lo wr g n cap (A ++ a :: (c :: R))) (hA : ∀ L ∈ A, Fine L) (ha : Fine a) (hc : Fine c) (hl : A.length = q) (w' : World) (k : wr.grownBy w' none) :
    Lie lo ((w'.setCells g ((q + 1) * 24) (rowC a)).setCells g (q * 24) (rowC c)) g n cap (A ++ c :: (a :: R)) ∧ wr.grownBy ((w'.setCells g ((q + 1) * 24) (rowC a)).setCells g (q * 24) (rowC c)) (some g) ∧ w'.there g ((q + 1) * 24) 24 ∧ w'.there g (q * 24) 24 := by
  have h' : Lie lo w' g n cap ((A ++ [a]) ++ c :: R) := by rw [List.append_assoc]; exact h.kept k
  have hA' : ∀ L ∈ A ++ [a], Fine L := fun L hL => by
    rcases List.mem_append.1 hL with q | q
    · exact hA L q
    · rw [List.mem_singleton] at q
      rw [q]
      exact ha
  have o1 : (A ++ [a]).length * 24 = (q + 1) * 24 := by rw [List.length_append, hl]; rfl
  obtain ⟨p1, g1⟩ := h'.put hA' hc ha o1
  rw [List.append_assoc] at p1
  obtain ⟨p2, g2⟩ := Lie.put (A := A) (B := a :: R) (c := a) (d := c) p1 hA ha hc (show A.length * 24 = q * 24 by rw [hl])
  exact ⟨p2, sl.grown_trans' (sl.grown_trans' (grown_wide k) g1) g2, h'.there hA' hc o1, Lie.there (h.kept k) hA ha (show A.length * 24 = q * 24 by rw [hl])⟩
theorem there_len {w : World} {b o : Nat} {cs : List Value} (h : w.there b o 24) (hl : cs.length = 24) : w.there b o (List.toArray cs).size := by
  rw [List.size_toArray, hl]
  exact h
theorem region_drew {P : Program} {ops : Array Oper} {Q : Exit → Act → World → Prop} {id : Nat} {a : Act} {w : World} (hm : P.follows .mixedOrders = true) (h : wpAny P .any ops Q ops.size (Array.replicate ops.size false) a w.drew) : (Code.region id ops true).wp P Q a w := wp_region_any hm h
theorem ahead_is {c a : List Int} (hc : Fine c) (ha : Fine a) : aheadL (pad c) (pad a) = lessL c a :=
  ahead_less c a _ _ hc.2 ha.2 (by have := hc.1; have := ha.1; omega)

set_option maxRecDepth 10000 in
set_option maxHeartbeats 1600000 in
theorem putInOrder (lo g cap : Nat) (X : List (List Int)) (w : World) (hX : ∀ L ∈ X, Fine L) (hn : X.Nodup) (hl : X.length ≤ 1048576) (h : Lie lo w g X.length cap X) :
    Calls Tryd.prog 65 #[.slice (some ⟨g, 0, none⟩) X.length cap, .func (.func 66) #[] #[]] w fun e w' => e = .returned (.tuple #[]) ∧ OutI lo w w' g cap X X.length := by
  have ST : Hid (OutI lo w w g cap X 0) := ⟨⟨rfl, rfl, rfl, Nat.le_refl _, fun _ _ _ => rfl⟩, [], by simpa using h, rfl, List.Pairwise.nil, by simp⟩
  clear h
  go_enter Tryd.func65, Tryd.ntmps65
  go_wp2_with fail
  go_loopw [8] (fun i wr => ∃ k : Nat, k ≤ X.length ∧ i = .int .i64 k ∧ Hid (OutI lo w wr g cap X k)) (fun i _ => X.length - (intOf i).toNat)
  case atStart => exact ⟨0, Nat.zero_le _, rfl, ST⟩
  case round =>
    obtain ⟨k, hk, rfl, hm⟩ := hrel
    clear ST
    by_cases hlt : k < X.length
    · have hi' : (k : Int) < (X.length : Int) := by omega
      have S2 := hide ((unhide hm).in_ hlt)
      clear hm
      go_wp2_with fail
      generalize hwq : wr = wq at *
      clear hwq
      go_loopw [5] (fun i wr => ∃ j : Nat, j ≤ k ∧ i = .int .i64 j ∧ Hid (InI lo w wr g cap X k j)) (fun i _ => (intOf i).toNat)
      case atStart => exact ⟨k, Nat.le_refl _, rfl, S2⟩
      case round =>
        obtain ⟨j, hj, rfl, hm⟩ := hrel
        clear S2
        by_cases h0 : j = 0
        · subst h0
          have OU := hide ((unhide hm).out0 hX hn)
          clear hm
          go_wp2_with fail
          go_quiet (fail)
          go_wp2_with fail
          go_roundw
          case rel => exact ⟨k + 1, by omega, by go_num, OutI.drewN (unhide OU) _⟩
          case measure => simp [intOf]; omega
        · obtain ⟨q, rfl⟩ : ∃ q, j = q + 1 := ⟨j - 1, by omega⟩
          clear h0
          obtain ⟨A, a, R, c, hLie, hAl, hfa, hfc, hfA, hstop, hgo⟩ := next hX hn (unhide hm)
          have hqn : q + 1 < X.length := by omega
          have hLie' : Lie lo wr g X.length cap ((A ++ [a]) ++ c :: R) := by rw [List.append_assoc]; exact hLie
          have hfA' : ∀ L ∈ A ++ [a], Fine L := fun L hL => by
            rcases List.mem_append.1 hL with q | q
            · exact hfA L q
            · rw [List.mem_singleton] at q
              rw [q]
              exact hfa
          have ra : wr.rangeAt g (q * 24) (rowC a) := hLie.range hfA (by rw [hAl])
          have rc : wr.rangeAt g ((q + 1) * 24) (rowC c) := hLie'.range hfA' (by rw [List.length_append, hAl]; rfl)
          have SW := hide (swapped hLie hfA hfa hfc hAl)
          have CA := ro.rowAhead (pad c) (pad a) wr.drew (pad_len hfc.1) (pad_len hfa.1) (mk.pad_bd hfc) (mk.pad_bd hfa)
          rw [ahead_is hfc hfa] at CA
          have ea : (rowC a).toArray = cells8 (pad a) := by simp [rowC]
          have ec : (rowC c).toArray = cells8 (pad c) := by simp [rowC]
          rw [← ea, ← ec] at CA
          have ca := hide CA
          have la := rowC_len hfa
          have lc := rowC_len hfc
          have oa := rowC_one a
          have oc := rowC_one c
          have hu := Tryd.underlying69
          have ia : (Tryd.prog.info? 69).map (·.size) = some (rowC a).length := by rw [la]; exact infoRow
          have ic : (Tryd.prog.info? 69).map (·.size) = some (rowC c).length := by rw [lc]; exact infoRow
          have HS := hide hstop
          have HG := hide hgo
          have HL := hide hLie
          have HFA := hide hfA
          have HFa := hide hfa
          have HFc := hide hfc
          have HAl := hide hAl
          clear hLie hLie' hfA hfA' hfa hfc hAl hstop hgo CA ea ec hm
          generalize rowC a = ds at *
          generalize rowC c = cs at *
          have i1 : (0 : Int) ≤ (q : Int) := by omega
          have i5 : (0 : Int) ≤ (q : Int) + 1 := by omega
          have i2 : (q : Int) < (X.length : Int) := by omega
          have i3 : (q : Int) + 1 < (X.length : Int) := by omega
          have i4 : IntKind.i64.wrap (q : Int) = (q : Int) := IntWalk.i64_in _ ⟨by omega, by omega⟩
          cases hb : lessL c a
          · rw [hb] at ca
            have hs := hide (unhide HS hb)
            clear HS HG hb
            go_wp2_with fail
            refine wp_region_noPanic ?_
            refine wp_region_held_drew (S := fun w' => w'.rangeAt g (q * 24) ds ∧ w'.rangeAt g ((q + 1) * 24) cs) (by kernel_rfl) ⟨ra, rc⟩ (fun hHeld => ?_)
            refine wpAnyH_take (i := 0) (v := ?vx1) rfl (by kernel_rfl) (by kernel_rfl) (by kernel_rfl) (fun _ _ _ h => h) (Or.inl ⟨by rfl, ?yx1⟩) (by assumption) ?rx1
            case yx1 => first | (intro w hSw; go_simp; done) | (intro w hSw; go_simp; with_reducible rfl)
            simp only [Act.put, List.getElem_toArray, List.getElem_cons_zero, List.setIfInBounds_toArray, List.set_cons_zero, List.set_cons_succ]
            refine wpAnyH_take (i := 1) (v := ?vx2) rfl (by kernel_rfl) (by kernel_rfl) (by kernel_rfl) (fun _ _ _ h => h) (Or.inl ⟨by rfl, ?yx2⟩) (by assumption) ?rx2
            case yx2 => first | (intro w hSw; go_simp; done) | (intro w hSw; go_simp; with_reducible rfl)
            simp only [Act.put, List.getElem_toArray, List.getElem_cons_succ, List.getElem_cons_zero, List.setIfInBounds_toArray, List.set_cons_zero, List.set_cons_succ]
            refine wpAnyH_take (i := 2) (v := ?vx3) rfl (by kernel_rfl) (by kernel_rfl) (by kernel_rfl) (fun _ _ _ h => h) (Or.inl ⟨by rfl, ?yx3⟩) (by assumption) ?rx3
            case yx3 => first | (intro w hSw; go_simp; done) | (intro w hSw; go_simp; with_reducible rfl)
            simp only [Act.put, List.getElem_toArray, List.getElem_cons_succ, List.getElem_cons_zero, List.setIfInBounds_toArray, List.set_cons_zero, List.set_cons_succ]
            refine wpAnyH_take (i := 3) (v := ?vx4) rfl (by kernel_rfl) (by kernel_rfl) (by kernel_rfl) (fun _ _ _ h => h) (Or.inl ⟨by rfl, ?yx4⟩) (by assumption) ?rx4
            case yx4 => first | (intro w hSw; go_simp; done) | (intro w hSw; go_simp; with_reducible rfl)
            simp only [Act.put, List.getElem_toArray, List.getElem_cons_succ, List.getElem_cons_zero, List.setIfInBounds_toArray, List.set_cons_zero, List.set_cons_succ]
            refine wpAnyH_take (i := 4) (v := ?vx5) rfl (by kernel_rfl) (by kernel_rfl) (by kernel_rfl) (fun _ _ _ h => h) (Or.inl ⟨by rfl, ?yx5⟩) (by assumption) ?rx5
            case yx5 => first | (intro w hSw; go_simp; done) | (intro w hSw; go_simp; with_reducible rfl)
            simp only [Act.put, List.getElem_toArray, List.getElem_cons_succ, List.getElem_cons_zero, List.setIfInBounds_toArray, List.set_cons_zero, List.set_cons_succ]
            refine wpAnyH_take (i := 5) (v := ?vx6) rfl (by kernel_rfl) (by kernel_rfl) (by kernel_rfl) (fun _ _ _ h => h) (Or.inl ⟨by rfl, ?yx6⟩) (by assumption) ?rx6
            case yx6 => first | (intro w hSw; go_simp; done) | (intro w hSw; go_simp; with_reducible rfl)
            simp only [Act.put, List.getElem_toArray, List.getElem_cons_succ, List.getElem_cons_zero, List.setIfInBounds_toArray, List.set_cons_zero, List.set_cons_succ]
            refine wpAnyH_take (i := 6) (v := ?vx7) rfl (by kernel_rfl) (by kernel_rfl) (by kernel_rfl) (fun _ _ _ h => h) (Or.inl ⟨by rfl, ?yx7⟩) (by assumption) ?rx7
            case yx7 => first | (intro w hSw; go_simp; done) | (intro w hSw; go_simp; with_reducible rfl)
            simp only [Act.put, List.getElem_toArray, List.getElem_cons_succ, List.getElem_cons_zero, List.setIfInBounds_toArray, List.set_cons_zero, List.set_cons_succ]
            refine wpAnyH_take (i := 7) (v := .agg (List.toArray cs)) rfl (by kernel_rfl) (by kernel_rfl) (by kernel_rfl) (fun _ _ _ h => h) ?yx8 (by assumption) ?rx8
            case yx8 => exact yieldsIf_load_mid (by rfl) _ _ rfl _ _ rfl cs _ (fun w (hSw : w.rangeAt g (q * 24) ds ∧ w.rangeAt g ((q + 1) * 24) cs) => hSw.2) hu rfl ic
            simp only [Act.put, List.getElem_toArray, List.getElem_cons_succ, List.getElem_cons_zero, List.setIfInBounds_toArray, List.set_cons_zero, List.set_cons_succ]
            refine wpAnyH_take (i := 8) (v := ?vx9) rfl (by kernel_rfl) (by kernel_rfl) (by kernel_rfl) (fun _ _ _ h => h) (Or.inl ⟨by rfl, ?yx9⟩) (by assumption) ?rx9
            case yx9 => first | (intro w hSw; go_simp; done) | (intro w hSw; go_simp; with_reducible rfl)
            simp only [Act.put, List.getElem_toArray, List.getElem_cons_succ, List.getElem_cons_zero, List.setIfInBounds_toArray, List.set_cons_zero, List.set_cons_succ]
            refine wpAnyH_take (i := 9) (v := ?vx10) rfl (by kernel_rfl) (by kernel_rfl) (by kernel_rfl) (fun _ _ _ h => h) (Or.inl ⟨by rfl, ?yx10⟩) (by assumption) ?rx10
            case yx10 => first | (intro w hSw; go_simp; done) | (intro w hSw; go_simp; with_reducible rfl)
            simp only [Act.put, List.getElem_toArray, List.getElem_cons_succ, List.getElem_cons_zero, List.setIfInBounds_toArray, List.set_cons_zero, List.set_cons_succ]
            refine wpAnyH_take (i := 10) (v := ?vx11) rfl (by kernel_rfl) (by kernel_rfl) (by kernel_rfl) (fun _ _ _ h => h) (Or.inl ⟨by rfl, ?yx11⟩) (by assumption) ?rx11
            case yx11 => first | (intro w hSw; go_simp; done) | (intro w hSw; go_simp; with_reducible rfl)
            simp only [Act.put, List.getElem_toArray, List.getElem_cons_succ, List.getElem_cons_zero, List.setIfInBounds_toArray, List.set_cons_zero, List.set_cons_succ]
            refine wpAnyH_take (i := 11) (v := ?vx12) rfl (by kernel_rfl) (by kernel_rfl) (by kernel_rfl) (fun _ _ _ h => h) (Or.inl ⟨by rfl, ?yx12⟩) (by assumption) ?rx12
            case yx12 => first | (intro w hSw; go_simp; done) | (intro w hSw; go_simp; with_reducible rfl)
            simp only [Act.put, List.getElem_toArray, List.getElem_cons_succ, List.getElem_cons_zero, List.setIfInBounds_toArray, List.set_cons_zero, List.set_cons_succ]
            refine wpAnyH_take (i := 12) (v := .agg (List.toArray ds)) rfl (by kernel_rfl) (by kernel_rfl) (by kernel_rfl) (fun _ _ _ h => h) ?yx13 (by assumption) ?rx13
            case yx13 => exact yieldsIf_load_mid (by rfl) _ _ rfl _ _ rfl ds _ (fun w (hSw : w.rangeAt g (q * 24) ds ∧ w.rangeAt g ((q + 1) * 24) cs) => hSw.1) hu rfl ia
            simp only [Act.put, List.getElem_toArray, List.getElem_cons_succ, List.getElem_cons_zero, List.setIfInBounds_toArray, List.set_cons_zero, List.set_cons_succ]
            refine wpAnyH_ready (rs := [13]) (by kernel_rfl) (by simp) ?_
            refine AllReadyH.cons rfl (fun K hK => ?_) AllReadyH.nil
            rw [if_pos (by rfl)]
            simp only [List.getElem_toArray, List.getElem_cons_succ, List.getElem_cons_zero]
            go_simp
            refine (unhide ca).mono ?_
            rintro e w2 ⟨rfl, g2⟩
            have G2 := hide (grown_trans (r := none) (cf.grown_drew wr none) g2)
            refine hK.out _ _ ⟨range_kept hHeld.1 g2, range_kept hHeld.2 g2⟩ (fun hHeld2 => ?_)
            clear hK K g2 hHeld ca
            refine wpAnyH_take (i := 14) (v := ?vx14) rfl (by kernel_rfl) (by kernel_rfl) (by kernel_rfl) (fun _ _ _ h => h) (Or.inl ⟨by rfl, ?yx14⟩) (by assumption) ?rx14
            case yx14 => first | (intro w hSw; go_simp; done) | (intro w hSw; go_simp; with_reducible rfl)
            simp only [Act.put, List.getElem_toArray, List.getElem_cons_succ, List.getElem_cons_zero, List.setIfInBounds_toArray, List.set_cons_zero, List.set_cons_succ]
            refine wpAnyH_done (by kernel_rfl) ?_ _
            refine NoPanic.normal ?_
            go_wp2_with fail
            go_roundw
            case rel => exact ⟨k + 1, by omega, by go_num, unhide hs _ (unhide G2)⟩
            case measure => simp [intOf]; omega
          · rw [hb] at ca
            have hs := hide (unhide HG hb)
            have RA := hide ra
            have RC := hide rc
            clear HS HG hb
            go_wp2_with fail
            refine wp_region_noPanic ?_
            refine wp_region_held_drew (S := fun w' => w'.rangeAt g (q * 24) ds ∧ w'.rangeAt g ((q + 1) * 24) cs) (by kernel_rfl) ⟨ra, rc⟩ (fun hHeld => ?_)
            refine wpAnyH_take (i := 0) (v := ?vx15) rfl (by kernel_rfl) (by kernel_rfl) (by kernel_rfl) (fun _ _ _ h => h) (Or.inl ⟨by rfl, ?yx15⟩) (by assumption) ?rx15
            case yx15 => first | (intro w hSw; go_simp; done) | (intro w hSw; go_simp; with_reducible rfl)
            simp only [Act.put, List.getElem_toArray, List.getElem_cons_zero, List.setIfInBounds_toArray, List.set_cons_zero, List.set_cons_succ]
            refine wpAnyH_take (i := 1) (v := ?vx16) rfl (by kernel_rfl) (by kernel_rfl) (by kernel_rfl) (fun _ _ _ h => h) (Or.inl ⟨by rfl, ?yx16⟩) (by assumption) ?rx16
            case yx16 => first | (intro w hSw; go_simp; done) | (intro w hSw; go_simp; with_reducible rfl)
            simp only [Act.put, List.getElem_toArray, List.getElem_cons_succ, List.getElem_cons_zero, List.setIfInBounds_toArray, List.set_cons_zero, List.set_cons_succ]
            refine wpAnyH_take (i := 2) (v := ?vx17) rfl (by kernel_rfl) (by kernel_rfl) (by kernel_rfl) (fun _ _ _ h => h) (Or.inl ⟨by rfl, ?yx17⟩) (by assumption) ?rx17
            case yx17 => first | (intro w hSw; go_simp; done) | (intro w hSw; go_simp; with_reducible rfl)
            simp only [Act.put, List.getElem_toArray, List.getElem_cons_succ, List.getElem_cons_zero, List.setIfInBounds_toArray, List.set_cons_zero, List.set_cons_succ]
            refine wpAnyH_take (i := 3) (v := ?vx18) rfl (by kernel_rfl) (by kernel_rfl) (by kernel_rfl) (fun _ _ _ h => h) (Or.inl ⟨by rfl, ?yx18⟩) (by assumption) ?rx18
            case yx18 => first | (intro w hSw; go_simp; done) | (intro w hSw; go_simp; with_reducible rfl)
            simp only [Act.put, List.getElem_toArray, List.getElem_cons_succ, List.getElem_cons_zero, List.setIfInBounds_toArray, List.set_cons_zero, List.set_cons_succ]
            refine wpAnyH_take (i := 4) (v := ?vx19) rfl (by kernel_rfl) (by kernel_rfl) (by kernel_rfl) (fun _ _ _ h => h) (Or.inl ⟨by rfl, ?yx19⟩) (by assumption) ?rx19
            case yx19 => first | (intro w hSw; go_simp; done) | (intro w hSw; go_simp; with_reducible rfl)
            simp only [Act.put, List.getElem_toArray, List.getElem_cons_succ, List.getElem_cons_zero, List.setIfInBounds_toArray, List.set_cons_zero, List.set_cons_succ]
            refine wpAnyH_take (i := 5) (v := ?vx20) rfl (by kernel_rfl) (by kernel_rfl) (by kernel_rfl) (fun _ _ _ h => h) (Or.inl ⟨by rfl, ?yx20⟩) (by assumption) ?rx20
            case yx20 => first | (intro w hSw; go_simp; done) | (intro w hSw; go_simp; with_reducible rfl)
            simp only [Act.put, List.getElem_toArray, List.getElem_cons_succ, List.getElem_cons_zero, List.setIfInBounds_toArray, List.set_cons_zero, List.set_cons_succ]
            refine wpAnyH_take (i := 6) (v := ?vx21) rfl (by kernel_rfl) (by kernel_rfl) (by kernel_rfl) (fun _ _ _ h => h) (Or.inl ⟨by rfl, ?yx21⟩) (by assumption) ?rx21
            case yx21 => first | (intro w hSw; go_simp; done) | (intro w hSw; go_simp; with_reducible rfl)
            simp only [Act.put, List.getElem_toArray, List.getElem_cons_succ, List.getElem_cons_zero, List.setIfInBounds_toArray, List.set_cons_zero, List.set_cons_succ]
            refine wpAnyH_take (i := 7) (v := .agg (List.toArray cs)) rfl (by kernel_rfl) (by kernel_rfl) (by kernel_rfl) (fun _ _ _ h => h) ?yx22 (by assumption) ?rx22
            case yx22 => exact yieldsIf_load_mid (by rfl) _ _ rfl _ _ rfl cs _ (fun w (hSw : w.rangeAt g (q * 24) ds ∧ w.rangeAt g ((q + 1) * 24) cs) => hSw.2) hu rfl ic
            simp only [Act.put, List.getElem_toArray, List.getElem_cons_succ, List.getElem_cons_zero, List.setIfInBounds_toArray, List.set_cons_zero, List.set_cons_succ]
            refine wpAnyH_take (i := 8) (v := ?vx23) rfl (by kernel_rfl) (by kernel_rfl) (by kernel_rfl) (fun _ _ _ h => h) (Or.inl ⟨by rfl, ?yx23⟩) (by assumption) ?rx23
            case yx23 => first | (intro w hSw; go_simp; done) | (intro w hSw; go_simp; with_reducible rfl)
            simp only [Act.put, List.getElem_toArray, List.getElem_cons_succ, List.getElem_cons_zero, List.setIfInBounds_toArray, List.set_cons_zero, List.set_cons_succ]
            refine wpAnyH_take (i := 9) (v := ?vx24) rfl (by kernel_rfl) (by kernel_rfl) (by kernel_rfl) (fun _ _ _ h => h) (Or.inl ⟨by rfl, ?yx24⟩) (by assumption) ?rx24
            case yx24 => first | (intro w hSw; go_simp; done) | (intro w hSw; go_simp; with_reducible rfl)
            simp only [Act.put, List.getElem_toArray, List.getElem_cons_succ, List.getElem_cons_zero, List.setIfInBounds_toArray, List.set_cons_zero, List.set_cons_succ]
            refine wpAnyH_take (i := 10) (v := ?vx25) rfl (by kernel_rfl) (by kernel_rfl) (by kernel_rfl) (fun _ _ _ h => h) (Or.inl ⟨by rfl, ?yx25⟩) (by assumption) ?rx25
            case yx25 => first | (intro w hSw; go_simp; done) | (intro w hSw; go_simp; with_reducible rfl)
            simp only [Act.put, List.getElem_toArray, List.getElem_cons_succ, List.getElem_cons_zero, List.setIfInBounds_toArray, List.set_cons_zero, List.set_cons_succ]
            refine wpAnyH_take (i := 11) (v := ?vx26) rfl (by kernel_rfl) (by kernel_rfl) (by kernel_rfl) (fun _ _ _ h => h) (Or.inl ⟨by rfl, ?yx26⟩) (by assumption) ?rx26
            case yx26 => first | (intro w hSw; go_simp; done) | (intro w hSw; go_simp; with_reducible rfl)
            simp only [Act.put, List.getElem_toArray, List.getElem_cons_succ, List.getElem_cons_zero, List.setIfInBounds_toArray, List.set_cons_zero, List.set_cons_succ]
            refine wpAnyH_take (i := 12) (v := .agg (List.toArray ds)) rfl (by kernel_rfl) (by kernel_rfl) (by kernel_rfl) (fun _ _ _ h => h) ?yx27 (by assumption) ?rx27
            case yx27 => exact yieldsIf_load_mid (by rfl) _ _ rfl _ _ rfl ds _ (fun w (hSw : w.rangeAt g (q * 24) ds ∧ w.rangeAt g ((q + 1) * 24) cs) => hSw.1) hu rfl ia
            simp only [Act.put, List.getElem_toArray, List.getElem_cons_succ, List.getElem_cons_zero, List.setIfInBounds_toArray, List.set_cons_zero, List.set_cons_succ]
            refine wpAnyH_ready (rs := [13]) (by kernel_rfl) (by simp) ?_
            refine AllReadyH.cons rfl (fun K hK => ?_) AllReadyH.nil
            rw [if_pos (by rfl)]
            simp only [List.getElem_toArray, List.getElem_cons_succ, List.getElem_cons_zero]
            go_simp
            refine (unhide ca).mono ?_
            rintro e w2 ⟨rfl, g2⟩
            have G2 := hide (grown_trans (r := none) (cf.grown_drew wr none) g2)
            refine hK.out _ _ ⟨range_kept hHeld.1 g2, range_kept hHeld.2 g2⟩ (fun hHeld2 => ?_)
            clear hK K g2 hHeld ca
            refine wpAnyH_take (i := 14) (v := ?vx28) rfl (by kernel_rfl) (by kernel_rfl) (by kernel_rfl) (fun _ _ _ h => h) (Or.inl ⟨by rfl, ?yx28⟩) (by assumption) ?rx28
            case yx28 => first | (intro w hSw; go_simp; done) | (intro w hSw; go_simp; with_reducible rfl)
            simp only [Act.put, List.getElem_toArray, List.getElem_cons_succ, List.getElem_cons_zero, List.setIfInBounds_toArray, List.set_cons_zero, List.set_cons_succ]
            refine wpAnyH_done (by kernel_rfl) ?_ _
            refine NoPanic.normal ?_
            go_wp2_with fail
            clear ra rc hHeld2
            have ra := range_kept (unhide RA) (unhide G2)
            have rc := range_kept (unhide RC) (unhide G2)
            refine region_drew (by kernel_rfl) ?_
            refine wpAny_take (i := 0) (v := ?vx29) rfl (by kernel_rfl) (by kernel_rfl) (by kernel_rfl) (fun _ _ _ h => h) (Or.inl ⟨by rfl, ?yx29⟩) ?rx29
            case yx29 => first | (intro w; go_simp; done) | (intro w; go_simp; with_reducible rfl)
            simp only [Act.put, List.getElem_toArray, List.getElem_cons_zero, List.setIfInBounds_toArray, List.set_cons_zero, List.set_cons_succ]
            refine wpAny_take (i := 1) (v := ?vx30) rfl (by kernel_rfl) (by kernel_rfl) (by kernel_rfl) (fun _ _ _ h => h) (Or.inl ⟨by rfl, ?yx30⟩) ?rx30
            case yx30 => first | (intro w; go_simp; done) | (intro w; go_simp; with_reducible rfl)
            simp only [Act.put, List.getElem_toArray, List.getElem_cons_succ, List.getElem_cons_zero, List.setIfInBounds_toArray, List.set_cons_zero, List.set_cons_succ]
            refine wpAny_take (i := 2) (v := ?vx31) rfl (by kernel_rfl) (by kernel_rfl) (by kernel_rfl) (fun _ _ _ h => h) (Or.inl ⟨by rfl, ?yx31⟩) ?rx31
            case yx31 => first | (intro w; go_simp; done) | (intro w; go_simp; with_reducible rfl)
            simp only [Act.put, List.getElem_toArray, List.getElem_cons_succ, List.getElem_cons_zero, List.setIfInBounds_toArray, List.set_cons_zero, List.set_cons_succ]
            refine wpAny_take (i := 3) (v := ?vx32) rfl (by kernel_rfl) (by kernel_rfl) (by kernel_rfl) (fun _ _ _ h => h) (Or.inl ⟨by rfl, ?yx32⟩) ?rx32
            case yx32 => first | (intro w; go_simp; done) | (intro w; go_simp; with_reducible rfl)
            simp only [Act.put, List.getElem_toArray, List.getElem_cons_succ, List.getElem_cons_zero, List.setIfInBounds_toArray, List.set_cons_zero, List.set_cons_succ]
            refine wpAny_take (i := 4) (v := ?vx33) rfl (by kernel_rfl) (by kernel_rfl) (by kernel_rfl) (fun _ _ _ h => h) (Or.inl ⟨by rfl, ?yx33⟩) ?rx33
            case yx33 => first | (intro w; go_simp; done) | (intro w; go_simp; with_reducible rfl)
            simp only [Act.put, List.getElem_toArray, List.getElem_cons_succ, List.getElem_cons_zero, List.setIfInBounds_toArray, List.set_cons_zero, List.set_cons_succ]
            refine wpAny_take (i := 5) (v := ?vx34) rfl (by kernel_rfl) (by kernel_rfl) (by kernel_rfl) (fun _ _ _ h => h) (Or.inl ⟨by rfl, ?yx34⟩) ?rx34
            case yx34 => first | (intro w; go_simp; done) | (intro w; go_simp; with_reducible rfl)
            simp only [Act.put, List.getElem_toArray, List.getElem_cons_succ, List.getElem_cons_zero, List.setIfInBounds_toArray, List.set_cons_zero, List.set_cons_succ]
            refine wpAny_take (i := 6) (v := ?vx35) rfl (by kernel_rfl) (by kernel_rfl) (by kernel_rfl) (fun _ _ _ h => h) (Or.inl ⟨by rfl, ?yx35⟩) ?rx35
            case yx35 => first | (intro w; go_simp; done) | (intro w; go_simp; with_reducible rfl)
            simp only [Act.put, List.getElem_toArray, List.getElem_cons_succ, List.getElem_cons_zero, List.setIfInBounds_toArray, List.set_cons_zero, List.set_cons_succ]
            refine wpAny_take (i := 7) (v := ?vx36) rfl (by kernel_rfl) (by kernel_rfl) (by kernel_rfl) (fun _ _ _ h => h) (Or.inl ⟨by rfl, ?yx36⟩) ?rx36
            case yx36 => first | (intro w; go_simp; done) | (intro w; go_simp; with_reducible rfl)
            simp only [Act.put, List.getElem_toArray, List.getElem_cons_succ, List.getElem_cons_zero, List.setIfInBounds_toArray, List.set_cons_zero, List.set_cons_succ]
            refine wpAny_take (i := 8) (v := ?vx37) rfl (by kernel_rfl) (by kernel_rfl) (by kernel_rfl) (fun _ _ _ h => h) (Or.inl ⟨by rfl, ?yx37⟩) ?rx37
            case yx37 => first | (intro w; go_simp; done) | (intro w; go_simp; with_reducible rfl)
            simp only [Act.put, List.getElem_toArray, List.getElem_cons_succ, List.getElem_cons_zero, List.setIfInBounds_toArray, List.set_cons_zero, List.set_cons_succ]
            refine wpAny_take (i := 10) (v := ?vx38) rfl (by kernel_rfl) (by kernel_rfl) (by kernel_rfl) (fun _ _ _ h => h) (Or.inl ⟨by rfl, ?yx38⟩) ?rx38
            case yx38 => first | (intro w; go_simp; done) | (intro w; go_simp; with_reducible rfl)
            simp only [Act.put, List.getElem_toArray, List.getElem_cons_succ, List.getElem_cons_zero, List.setIfInBounds_toArray, List.set_cons_zero, List.set_cons_succ]
            refine wpAny_take (i := 11) (v := ?vx39) rfl (by kernel_rfl) (by kernel_rfl) (by kernel_rfl) (fun _ _ _ h => h) (Or.inl ⟨by rfl, ?yx39⟩) ?rx39
            case yx39 => first | (intro w; go_simp; done) | (intro w; go_simp; with_reducible rfl)
            simp only [Act.put, List.getElem_toArray, List.getElem_cons_succ, List.getElem_cons_zero, List.setIfInBounds_toArray, List.set_cons_zero, List.set_cons_succ]
            refine wpAny_take (i := 12) (v := ?vx40) rfl (by kernel_rfl) (by kernel_rfl) (by kernel_rfl) (fun _ _ _ h => h) (Or.inl ⟨by rfl, ?yx40⟩) ?rx40
            case yx40 => first | (intro w; go_simp; done) | (intro w; go_simp; with_reducible rfl)
            simp only [Act.put, List.getElem_toArray, List.getElem_cons_succ, List.getElem_cons_zero, List.setIfInBounds_toArray, List.set_cons_zero, List.set_cons_succ]
            obtain ⟨FL, FG, t1, t2⟩ := unhide SW w2.drew (grown_trans (r := none) (unhide G2) (cf.grown_drew w2 none))
            have t2' := World.there_setCells t2 g ((q + 1) * 24) ds
            have fin := hide (unhide hs _ FL FG)
            clear FL FG t2 SW
            refine wpAny_ready (rs := [9, 13]) (by kernel_rfl) (by simp) ?_
            refine AllReady.cons rfl (fun K hK => ?_) (AllReady.cons rfl (fun K hK => ?_) AllReady.nil)
            · rw [if_pos (by rfl)]
              refine wp_load_mid _ _ rfl _ _ rfl ds _ ra hu rfl ia ?_
              refine hK _ _ ?_
              clear hK K
              simp only [Act.put, List.getElem_toArray, List.getElem_cons_succ, List.getElem_cons_zero, List.setIfInBounds_toArray, List.set_cons_zero, List.set_cons_succ]
              refine wpAny_ready (rs := [13]) (by kernel_rfl) (by simp) ?_
              refine AllReady.cons rfl (fun K hK => ?_) AllReady.nil
              rw [if_pos (by rfl)]
              refine wp_load_mid _ _ rfl _ _ rfl cs _ rc hu rfl ic ?_
              refine hK _ _ ?_
              clear hK K
              simp only [Act.put, List.getElem_toArray, List.getElem_cons_succ, List.getElem_cons_zero, List.setIfInBounds_toArray, List.set_cons_zero, List.set_cons_succ]
              refine wpAny_take (i := 14) (v := ?vx41) rfl (by kernel_rfl) (by kernel_rfl) (by kernel_rfl) (fun _ _ _ h => h) (Or.inl ⟨by rfl, ?yx41⟩) ?rx41
              case yx41 => first | (intro w; go_simp; done) | (intro w; go_simp; with_reducible rfl)
              simp only [Act.put, List.getElem_toArray, List.getElem_cons_succ, List.getElem_cons_zero, List.setIfInBounds_toArray, List.set_cons_zero, List.set_cons_succ]
              refine wpAny_ready (rs := [15]) (by kernel_rfl) (by simp) ?_
              refine AllReady.cons rfl (fun K hK => ?_) AllReady.nil
              rw [if_pos (by rfl)]
              refine wp_store_mid _ _ _ rfl _ _ (List.toArray ds) rfl rfl (there_len t1 la) (by rw [List.size_toArray]; exact ia) (all_oneCell_toArray oa) ?_
              refine hK _ _ ?_
              clear hK K
              simp only [Act.put, List.getElem_toArray, List.getElem_cons_succ, List.getElem_cons_zero]
              refine wpAny_take (i := 16) (v := ?vx42) rfl (by kernel_rfl) (by kernel_rfl) (by kernel_rfl) (fun _ _ _ h => h) (Or.inl ⟨by rfl, ?yx42⟩) ?rx42
              case yx42 => first | (intro w; go_simp; done) | (intro w; go_simp; with_reducible rfl)
              simp only [Act.put, List.getElem_toArray, List.getElem_cons_succ, List.getElem_cons_zero, List.setIfInBounds_toArray, List.set_cons_zero, List.set_cons_succ]
              refine wpAny_ready (rs := [17]) (by kernel_rfl) (by simp) ?_
              refine AllReady.cons rfl (fun K hK => ?_) AllReady.nil
              rw [if_pos (by rfl)]
              refine wp_store_mid _ _ _ rfl _ _ (List.toArray cs) rfl rfl (there_len t2' lc) (by rw [List.size_toArray]; exact ic) (all_oneCell_toArray oc) ?_
              refine hK _ _ ?_
              clear hK K
              simp only [Act.put, List.getElem_toArray, List.getElem_cons_succ, List.getElem_cons_zero]
              refine wpAny_done (by kernel_rfl) ?_ _
              go_wp2_with fail
              go_roundw
              case rel => exact ⟨q, by omega, by go_num, unhide fin⟩
              case measure => simp [intOf]
            · rw [if_pos (by rfl)]
              refine wp_load_mid _ _ rfl _ _ rfl cs _ rc hu rfl ic ?_
              refine hK _ _ ?_
              clear hK K
              simp only [Act.put, List.getElem_toArray, List.getElem_cons_succ, List.getElem_cons_zero, List.setIfInBounds_toArray, List.set_cons_zero, List.set_cons_succ]
              refine wpAny_ready (rs := [9]) (by kernel_rfl) (by simp) ?_
              refine AllReady.cons rfl (fun K hK => ?_) AllReady.nil
              rw [if_pos (by rfl)]
              refine wp_load_mid _ _ rfl _ _ rfl ds _ ra hu rfl ia ?_
              refine hK _ _ ?_
              clear hK K
              simp only [Act.put, List.getElem_toArray, List.getElem_cons_succ, List.getElem_cons_zero, List.setIfInBounds_toArray, List.set_cons_zero, List.set_cons_succ]
              refine wpAny_take (i := 14) (v := ?vx43) rfl (by kernel_rfl) (by kernel_rfl) (by kernel_rfl) (fun _ _ _ h => h) (Or.inl ⟨by rfl, ?yx43⟩) ?rx43
              case yx43 => first | (intro w; go_simp; done) | (intro w; go_simp; with_reducible rfl)
              simp only [Act.put, List.getElem_toArray, List.getElem_cons_succ, List.getElem_cons_zero, List.setIfInBounds_toArray, List.set_cons_zero, List.set_cons_succ]
              refine wpAny_ready (rs := [15]) (by kernel_rfl) (by simp) ?_
              refine AllReady.cons rfl (fun K hK => ?_) AllReady.nil
              rw [if_pos (by rfl)]
              refine wp_store_mid _ _ _ rfl _ _ (List.toArray ds) rfl rfl (there_len t1 la) (by rw [List.size_toArray]; exact ia) (all_oneCell_toArray oa) ?_
              refine hK _ _ ?_
              clear hK K
              simp only [Act.put, List.getElem_toArray, List.getElem_cons_succ, List.getElem_cons_zero]
              refine wpAny_take (i := 16) (v := ?vx44) rfl (by kernel_rfl) (by kernel_rfl) (by kernel_rfl) (fun _ _ _ h => h) (Or.inl ⟨by rfl, ?yx44⟩) ?rx44
              case yx44 => first | (intro w; go_simp; done) | (intro w; go_simp; with_reducible rfl)
              simp only [Act.put, List.getElem_toArray, List.getElem_cons_succ, List.getElem_cons_zero, List.setIfInBounds_toArray, List.set_cons_zero, List.set_cons_succ]
              refine wpAny_ready (rs := [17]) (by kernel_rfl) (by simp) ?_
              refine AllReady.cons rfl (fun K hK => ?_) AllReady.nil
              rw [if_pos (by rfl)]
              refine wp_store_mid _ _ _ rfl _ _ (List.toArray cs) rfl rfl (there_len t2' lc) (by rw [List.size_toArray]; exact ic) (all_oneCell_toArray oc) ?_
              refine hK _ _ ?_
              clear hK K
              simp only [Act.put, List.getElem_toArray, List.getElem_cons_succ, List.getElem_cons_zero]
              refine wpAny_done (by kernel_rfl) ?_ _
              go_wp2_with fail
              go_roundw
              case rel => exact ⟨q, by omega, by go_num, unhide fin⟩
              case measure => simp [intOf]
    · have hi' : ¬ (k : Int) < (X.length : Int) := by omega
      have e : k = X.length := by omega
      rw [e] at hm
      clear e
      go_wp2_with fail
      exact end0 rfl rfl ⟨rfl, unhide hm⟩
end Go.Proofs.YtibpnocpafppaaaDoor.pio
