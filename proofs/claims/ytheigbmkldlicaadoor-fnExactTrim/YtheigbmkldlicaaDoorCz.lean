/- The lists of the program's clauseList, cut apart and copied; no condition but on the sizes. -/
import Derived.Test.YtheigbmkldlicaaDoorCk
namespace Go.Proofs.YtheigbmkldlicaaDoor.ck
open Go.ChangeShapes Go.WideShapes Go.ChangeAt Go.RowKit
open Go.Proofs.YtheigbmkldlicaaDoor.css (OwnS Mid)
open Go.Proofs.YtheigbmkldlicaaDoor.sl (ints hide unhide grown_refl grown_trans)
set_option linter.unusedVariables false
theorem set_comm (w : World) {a g i : Nat} (u : Value) (cs : Array Value) (h : a ≠ g) : (w.setCell ⟨a, i, none⟩ u).setRow g cs = (w.setRow g cs).setCell ⟨a, i, none⟩ u := by
  unfold World.setCell World.setRow
  congr 1
  apply Array.ext_getElem?
  intro k
  simp only [Array.getElem?_modify]
  by_cases e1 : g = k
  · by_cases e2 : a = k
    · omega
    · rw [if_pos e1, if_neg e2, if_neg e2, if_pos e1]
  · rw [if_neg e1]
    by_cases e2 : a = k
    · rw [if_pos e2, if_pos e2, if_neg e1]
    · rw [if_neg e2, if_neg e2, if_neg e1]
theorem flat_step {LL : List (List Int)} {k : Nat} (h : k < LL.length) : (LL.take (k + 1)).flatten.length = (LL.take k).flatten.length + (LL.getD k []).length := by
  rw [css.take_snoc LL k h]
  simp
theorem flat_le (LL : List (List Int)) (k : Nat) : (LL.take k).flatten.length ≤ LL.flatten.length := by
  have e : LL.flatten = (LL.take k).flatten ++ (LL.drop k).flatten := by rw [← List.flatten_append, List.take_append_drop]
  rw [e, List.length_append]
  omega
theorem flat_at {LL : List (List Int)} {k j : Nat} (h : k < LL.length) (hj : j < (LL.getD k []).length) : LL.flatten[(LL.take k).flatten.length + j]? = (LL.getD k [])[j]? := by
  have e : LL.flatten = (LL.take k).flatten ++ ((LL.getD k []) ++ (LL.drop (k + 1)).flatten) := by
    have h1 : LL = LL.take k ++ (LL.getD k [] :: LL.drop (k + 1)) := by
      conv => lhs; rw [← List.take_append_drop k LL, List.drop_eq_getElem_cons h]
      rw [List.getD_eq_getElem?_getD, List.getElem?_eq_getElem h]
      rfl
    conv => lhs; rw [h1]
    rw [List.flatten_append, List.flatten_cons]
  rw [e, List.getElem?_append_right (by omega), Nat.add_sub_cancel_left, List.getElem?_append_left hj]
/-- the inner list is copied in: it was made, laid into the outer row, and filled -/
theorem fill {w wr w2 : World} {n : Nat} {M : List (List Int)} {L : List Int} (hm : Mid w wr n M) (hk : M.length < n) (g2 : wr.grownBy w2 none)
    (ho : w2.ownsRow wr.heap.size 3 1 (.slice (some ⟨wr.heap.size, 0, none⟩) L.length L.length) L.length (ints (List.replicate L.length 0))) :
    Mid w ((w2.setCell ⟨w.heap.size, M.length, none⟩ (.slice (some ⟨wr.heap.size, 0, none⟩) L.length L.length)).setRow wr.heap.size (ints L).toArray) n (M ++ [L]) := by
  have hsz := hm.grown.size
  have hlt : w.heap.size < wr.heap.size := by
    obtain ⟨D, _, o, _⟩ := hm
    exact (o.lt w.heap.size rfl).2
  rw [set_comm w2 _ _ (by omega)]
  refine hm.step hk ?_ ?_
  · refine ⟨g2.os, g2.tape, g2.output, ?_, fun j hj hr => ?_⟩
    · show wr.heap.size ≤ (w2.setRow wr.heap.size _).heap.size
      have : (w2.setRow wr.heap.size (ints L).toArray).heap.size = w2.heap.size := by simp [World.setRow]
      rw [this]
      exact g2.size
    · rw [setRow_other w2 wr.heap.size j _ (by omega)]
      exact g2.block j hj hr
  · rcases ho.2 with ⟨e, _⟩ | ⟨g', cap', cur, e, hb, hh, hn, hm', hs, ht⟩
    · cases e
    · rw [Value.slice.injEq] at e
      obtain ⟨e1, _, rfl⟩ := e
      have eg : wr.heap.size = g' := by simpa using e1
      subst eg
      refine ⟨by rw [sl.ints_length]; omega, .inr ⟨wr.heap.size, L.length, (ints L).toArray, rfl, Nat.le_refl _, setRow_heap w2 _ _ _ _ _ hh, hn, hm', by simp [sl.ints_length], ?_⟩⟩
      rw [Nat.mul_one]
      show List.take L.length (ints L) = ints L
      exact List.take_of_length_le (by rw [sl.ints_length]; exact Nat.le_refl _)
set_option maxRecDepth 100000 in
set_option maxHeartbeats 8000000 in
theorem lists {t : TypeId} {pr : List Value} {o : Nat} (c : Nat) {W0 : World} {va ve : Value} {LL : List (List Int)} (w : World) (hL : LL.length ≤ 1048576) (hF : LL.flatten.length ≤ 4194304) (h : Cl t pr o W0 w c va ve LL) :
    Calls Tryd.prog 51 #[.pointer (some ⟨c, o, none⟩)] w fun e w' => ∃ r, e = .returned r ∧ OwnS w.heap.size w'.heap.size w' r LL ∧ w.grownBy w' none := by
  have x0 := h.bx.c0
  have x1 := h.bx.c1
  obtain ⟨ea, ec, ee⟩ : ∃ a cap, ve = .slice a LL.length cap := by
    rcases h.e.2 with ⟨hv, h0⟩ | ⟨g, cap, cur, hv, _⟩
    · exact ⟨none, 0, by rw [hv, h0]⟩
    · exact ⟨_, cap, hv⟩
  obtain ⟨la, lc, el⟩ : ∃ a cap, va = .slice a LL.flatten.length cap := by
    rcases h.l.2 with ⟨hv, h0⟩ | ⟨g, cap, cur, hv, _⟩
    · exact ⟨none, 0, by rw [hv, h0]⟩
    · exact ⟨_, cap, hv⟩
  subst ee el
  obtain ⟨i0, hi, hz0, hz1, hz2⟩ := info_parts css.infoSl
  obtain ⟨j0, hj, hy0, hy1, hy2⟩ := info_parts sl.info3
  have HC := hide h
  have HF := hide hF
  obtain ⟨F, hF0⟩ : ∃ F, F = LL.flatten := ⟨_, rfl⟩
  obtain ⟨fl, hfl⟩ : ∃ fl, fl = LL.flatten.length := ⟨_, rfl⟩
  rw [← hfl] at x0
  have HFL := hide hfl
  clear h hF hfl hF0
  go_enter Tryd.func51, Tryd.ntmps51
  go_wp2_with (first | (at_make; refine wpList_make_full _ rfl _ _ 24 rfl w.heap.size 31 i0 (.slice none 0 0) 1 Tryd.underlying24 hi hz0 hz1 _ _ _ _ LL.length rfl rfl (by rfl) (by rfl) ?b1 ?b2 ?b3 ?_))
  case b1 => rw [hz2]; omega
  case b2 => unfold maxLen; omega
  case b3 => exact Nat.le_refl _
  intro w1 hown hgrow
  have y1 := ((unhide HC).bx.kept hgrow).c1
  have O := hide (Mid.start hown hgrow)
  clear hown hgrow x0 x1
  go_wp2_with fail
  clear y1
  go_loopw [4, 19] (fun sv iv wr => ∃ (k st : Nat), k ≤ LL.length ∧ sv = .int .i64 (st : Int) ∧ Hid (st = (LL.take k).flatten.length) ∧ iv = .int .i64 (k : Int) ∧ Hid (Mid w wr LL.length (LL.take k))) (fun _ iv _ => LL.length - (intOf iv).toNat)
  case atStart => exact ⟨0, 0, Nat.zero_le _, rfl, rfl, rfl, O⟩
  case round =>
    obtain ⟨k, st, hk, rfl, hst, rfl, hmid⟩ := hrel
    clear O
    by_cases hlt : k < LL.length
    · have hg := (unhide hmid).grown
      have hc := (unhide HC).kept hg
      have c0 := hc.bx.c0
      rw [← unhide HFL] at c0
      have hi' : (k : Int) < (LL.length : Int) := by omega
      obtain ⟨eg, ecap, e, _⟩ := hc.e.form (by omega)
      rw [Value.slice.injEq] at e
      obtain ⟨rfl, hz, rfl⟩ := e
      clear hz
      have c1 : wr.cell? ⟨eg, k, none⟩ = some (.int .i64 (((LL.take (k + 1)).flatten.length : Nat) : Int)) := by
        rw [hc.e.cellAt k (by omega)]
        simp [sl.ints, ends_at hlt]
      have hfs := flat_step hlt
      have hfle := flat_le LL (k + 1)
      rw [← unhide hst] at hfs
      have hFu := unhide HF
      have htl : (LL.take k).length = k := by rw [List.length_take]; omega
      have hts := css.take_snoc LL k hlt
      obtain ⟨en, hen⟩ : ∃ en, en = (LL.take (k + 1)).flatten.length := ⟨_, rfl⟩
      rw [← hen] at c1 hfs hfle
      have HEN := hide hen
      rw [← unhide HFL] at hfle hFu
      have hin : en = st + (LL.getD k []).length := hfs
      have SRC : Hid (∀ lg, la = some ⟨lg, 0, none⟩ → ∀ w', wr.grownBy w' none → ∀ j y, (ints (LL.getD k []))[j]? = some y → w'.cell? ⟨lg, st + j, none⟩ = some y) := by
        intro lg e w' gg j y hj
        have hjl : j < (LL.getD k []).length := by
          have := (List.getElem?_eq_some_iff.1 hj).1
          rwa [sl.ints_length] at this
        have hl := hc.l
        rw [e] at hl
        have hfa := flat_at hlt hjl
        rw [← unhide hst] at hfa
        refine gg.cell ((hl.cellAt (st + j) (by rw [← unhide HFL]; omega)).trans ?_) (fun e => by cases e)
        rw [← hj]
        simp only [sl.ints, List.getElem?_map, hfa]
      have HTS := hide hts
      have HTL := hide htl
      clear hg hc hfs hen hts htl
      generalize LL.getD k [] = L at *
      have hLl : L.length ≤ 4194304 := by omega
      subst hin
      have hcap : fl ≤ lc := by
        rcases (unhide HC).l.2 with ⟨e, h0⟩ | ⟨g', cap', cur, e, _, _, hn', _⟩
        · rw [unhide HFL, h0]; exact Nat.zero_le _
        · rw [Value.slice.injEq] at e
          obtain ⟨_, _, rfl⟩ := e
          rw [unhide HFL]
          exact hn'
      have b1 : (0 : Int) ≤ (st : Int) := by omega
      have b3 : ((st + L.length : Nat) : Int) ≤ (lc : Int) := by omega
      have CM := hide (fun (w2 : World) (g2 : wr.grownBy w2 none) => (unhide hmid).cell (by rw [unhide HTL]; exact hlt) g2)
      rw [unhide HTL] at CM
      have EN : Hid (st + L.length = (LL.take (k + 1)).flatten.length) := unhide HEN
      have hfp : L.length ≤ fl := by omega
      clear HEN hfle hFu
      by_cases hL0 : L.length = 0
      · have eL : L = [] := List.eq_nil_of_length_eq_zero hL0
        subst eL
        have b2 : ((st + ([] : List Int).length : Nat) : Int) = (st : Int) := by simp
        rw [b2] at c1 b3
        have NX : Hid (∀ w2 u, wr.grownBy w2 none → w2.ownsRow wr.heap.size 3 1 u 0 [] → Mid w (w2.setCell ⟨w.heap.size, k, none⟩ u) LL.length (LL.take (k + 1))) := by
          intro w2 u g2 o2
          have := (unhide hmid).step (by rw [unhide HTL]; exact hlt) g2 (L := []) o2
          rw [unhide HTL, ← unhide HTS] at this
          exact this
        clear hL0 b2 SRC hLl
        go_wp2_with (first | (at_make; refine wpList_make_full _ rfl _ _ 31 rfl wr.heap.size 3 j0 (.int .i64 0) 1 Tryd.underlying31 hj hy0 hy1 _ _ _ _ 0 rfl rfl (by rfl) (by rfl) ?b1 ?b2 ?b3 ?_))
        case b1 => rw [hy2]; omega
        case b2 => unfold maxLen; omega
        case b3 => exact Nat.le_refl _
        intro w2 o2 g2
        obtain ⟨⟨x, hx⟩, hf⟩ := unhide CM w2 g2
        have M2 := hide (unhide NX w2 _ g2 (by simpa [madeCells] using o2))
        have hcp : ∀ w', (Builtin.copy_ #[31, 31] 3 #[.slice (some ⟨wr.heap.size, 0, none⟩) 0 0, .slice la 0 0]).run Tryd.prog w' = .ok (goInt 0) w' := fun w' => run_copy_none (P := Tryd.prog) w' 31 31 3 3 _ _ _ _ _ _ Tryd.underlying31 (by rw [hj, Option.map_some, hy1]) rfl
        clear o2 g2 NX CM c0 c1
        go_wp2_with fail
        go_roundw
        case rel => exact ⟨k + 1, st, by omega, rfl, by show st = _; have := unhide EN; simpa using this, by go_num, unhide M2⟩
        case measure => simp [intOf]; omega
      · obtain ⟨lg, lcap, e, _⟩ := (unhide HC).l.form (by rw [← unhide HFL]; omega)
        rw [Value.slice.injEq] at e
        obtain ⟨rfl, hz, rfl⟩ := e
        clear hz
        have b2 : (st : Int) ≤ ((st + L.length : Nat) : Int) := by omega
        have b4 : ¬ st + L.length = st := by omega
        have b5 : (0 : Int) ≤ ((st + L.length : Nat) : Int) := by omega
        have b6 : st + L.length - st = L.length := by omega
        obtain ⟨en, hen⟩ : ∃ en, en = st + L.length := ⟨_, rfl⟩
        rw [← hen] at c1 b2 b3 b4 b5 b6
        have NX : Hid (∀ w2, wr.grownBy w2 none → w2.ownsRow wr.heap.size 3 1 (.slice (some ⟨wr.heap.size, 0, none⟩) L.length L.length) L.length (ints (List.replicate L.length 0)) → Mid w ((w2.setCell ⟨w.heap.size, k, none⟩ (.slice (some ⟨wr.heap.size, 0, none⟩) L.length L.length)).setRow wr.heap.size (ints L).toArray) LL.length (LL.take (k + 1))) := by
          intro w2 g2 o2
          have := fill (unhide hmid) (by rw [unhide HTL]; exact hlt) g2 o2
          rw [unhide HTL, ← unhide HTS] at this
          exact this
        have SR := hide (unhide SRC lg rfl)
        have HEN := hide hen
        have hLw := (unhide hmid).grown.size
        clear hen SRC
        go_wp2_with (first | (at_make; refine wpList_make_full _ rfl _ _ 31 rfl wr.heap.size 3 j0 (.int .i64 0) 1 Tryd.underlying31 hj hy0 hy1 _ _ _ _ L.length rfl rfl (by rfl) (by rfl) ?b1 ?b2 ?b3 ?_))
        case b1 => rw [hy2]; omega
        case b2 => unfold maxLen; omega
        case b3 => exact Nat.le_refl _
        intro w2 o2 g2
        obtain ⟨⟨x, hx⟩, hf⟩ := unhide CM w2 g2
        have ez : (madeCells #[Value.int .i64 0] L.length).toList = ints (List.replicate L.length 0) := by
          rw [toList_madeCells_one]
          simp [sl.ints]
        rw [ez] at o2
        have M2 := hide (unhide NX w2 g2 o2)
        have hblk : w2.heap[wr.heap.size]? = some (.cells (ints (List.replicate L.length 0)).toArray 3 (0, 0)) := by
          rcases o2.2 with ⟨e, _⟩ | ⟨g', cap', cur, e, hb, hh, hn, hm', hs, ht⟩
          · cases e
          · rw [Value.slice.injEq] at e
            obtain ⟨e1, _, rfl⟩ := e
            have eg' : wr.heap.size = g' := by simpa using e1
            subst eg'
            rw [hh]
            congr 2
            rw [← ht, List.take_of_length_le (by simp; omega)]
        have hne : w.heap.size ≠ wr.heap.size := by
          obtain ⟨D, _, o, _⟩ := unhide hmid
          have := (o.lt w.heap.size rfl).2
          omega
        have hlw : ¬ w.heap.size = lg := by
          have := ((unhide HC).l.lt lg rfl).2
          omega
        have hcp := run_copy_row (P := Tryd.prog) (w2.setCell ⟨w.heap.size, k, none⟩ (.slice (some ⟨wr.heap.size, 0, none⟩) L.length L.length)) 31 31 3 3 wr.heap.size 0 L.length L.length ⟨lg, st, none⟩ L.length L.length (ints (List.replicate L.length 0)).toArray 3 (ints L) Tryd.underlying31 (by rw [hj, Option.map_some, hy1])
          (by rw [Below.heap_setCell _ _ _ _ (fun e => hne e.symm)]; exact hblk) (by rw [sl.ints_length]; exact (Nat.min_self _).symm)
          (by
            intro j y hjy
            rw [Addr.add_mid]
            have hcy := unhide SR w2 g2 j y hjy
            exact (World.cell?_setCell_other w2 _ _ _ (fun e => hlw (congrArg Addr.block e))).trans hcy)
          (by simp [sl.ints_length]) (ints_oneCell .i64 L)
        have erow : (List.take 0 (ints (List.replicate L.length 0)).toArray.toList ++ ints L ++ List.drop (0 + (ints L).length) (ints (List.replicate L.length 0)).toArray.toList).toArray = (ints L).toArray := by
          congr 1
          rw [List.take_zero, List.nil_append, Nat.zero_add, sl.ints_length]
          rw [List.drop_of_length_le (by simp [sl.ints_length]), List.append_nil]
        rw [erow] at hcp
        clear o2 g2 NX CM c0 c1 hblk ez erow
        go_wp2_with fail
        go_roundw
        case rel => exact ⟨k + 1, en, by omega, rfl, (unhide HEN).trans (unhide EN), by go_num, unhide M2⟩
        case measure => simp [intOf]; omega
    · have hi' : ¬ (k : Int) < (LL.length : Int) := by omega
      have e : LL.take k = LL := List.take_of_length_le (by omega)
      rw [e] at hmid
      have R := hide ((unhide hmid).done rfl)
      clear hmid e
      go_wp2_with fail
      go_ret
      exact ⟨_, rfl, unhide R⟩
end Go.Proofs.YtheigbmkldlicaaDoor.ck
