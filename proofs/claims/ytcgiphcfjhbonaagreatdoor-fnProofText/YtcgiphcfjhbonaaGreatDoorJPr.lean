/- The lists of the program's clauseList, cut apart and copied; no condition but on the sizes. Plain mathematics: which clause a text is the text of; words of a text; the number that a word spells. What spec.l01Num answers at every text of at most 2^20 bytes. What spec.l01Words answers at every text of at most 2^20 bytes: its words, in memory of its own. Small facts on slices of integers that a call makes. What ReadClause of the program answers at every text of at most 2^20 bytes, where the library's table of powers and its two errors lie as their text lays them. Plain mathematics of texts cut at a newline and split at blanks, as the library's functions do it; no condition. Plain mathematics of the lines of a text: the scan at a newline, cutting at the first one, passed lines, the head line, and the machine that both readers run. Proofs as texts: what ReadProof of the program answers at every text of at most 2^20 bytes. The model's l03Lines and l03Passed at every text of at most 2^20 bytes. What ReadClause of the model answers at every text of at most 2^20 bytes. Proofs as texts: what ReadProof of the model answers at every text of at most 2^20 bytes, and both. Reading a proof: what the program's and the model's ReadProof answer, by the one answer that a text has; no condition but on the size (and for the program on the library's variables). -/
import Derived.Test.YtcgiphcfjhbonaaGreatDoorCk
import Derived.Test.YtcgiphcfjhbonaaGreatDoorJIt
import Derived.Lib.AtoiAll
import Derived.Lib.IndexMore
import Derived.WalkSpells
import Derived.Test.YtcgiphcfjhbonaaGreatDoorSl
import Derived.Test.YtcgiphcfjhbonaaGreatDoorWo
import Derived.Test.YtcgiphcfjhbonaaGreatDoorCls
import Derived.Test.YtcgiphcfjhbonaaGreatDoorShr
import Derived.Lib.ConvBytes
import Derived.Lib.SmallJoins
import Derived.Lib.Split
import Derived.Test.YtcgiphcfjhbonaaGreatDoorNs
import Derived.Test.YtcgiphcfjhbonaaGreatDoorGr
namespace Go.Proofs.YtcgiphcfjhbonaaGreatDoor.ck
open Go.ChangeShapes Go.WideShapes Go.ChangeAt Go.RowKit
open css (OwnS Mid)
open sl (ints hide unhide grown_refl grown_trans)
set_option linter.unusedVariables false
theorem set_comm (w : World) {a g i : Nat} (u : Value) (cs : Array Value) (h : a ≠ g) : (w.setCell ⟨a, i, none⟩ u).setRow g cs = (w.setRow g cs).setCell ⟨a, i, none⟩ u := by
 unfold World.setCell World.setRow
 congr 1
 apply Array.ext_getElem?
 intro k
 simp only [Array.getElem?_modify]
 by_cases e1 : g = k
 ·by_cases e2 : a = k
  ·omega
  ·rw [if_pos e1, if_neg e2, if_neg e2, if_pos e1]
 ·rw [if_neg e1]
  by_cases e2 : a = k
  ·rw [if_pos e2, if_pos e2, if_neg e1]
  ·rw [if_neg e2, if_neg e2, if_neg e1]
theorem flat_step {LL : List (List Int)} {k : Nat} (h : k < LL.length) : (LL.take (k + 1)).flatten.length = (LL.take k).flatten.length + (LL.getD k []).length := by
 rw [css.take_snoc LL k h]
 simp
theorem flat_le (LL : List (List Int)) (k : Nat) : (LL.take k).flatten.length ≤ LL.flatten.length := by
 have e : LL.flatten = (LL.take k).flatten ++ (LL.drop k).flatten := by rw [← List.flatten_append, List.take_append_drop]
 rw [e, List.length_append]
 omega
theorem flat_at {LL : List (List Int)} {k j : Nat} (h : k < LL.length) (hj : j < (LL.getD k []).length) : LL.flatten[(LL.take k).flatten.length + j]? = (LL.getD k [])[j]? := by
 have e : LL.flatten = (LL.take k).flatten ++ ((LL.getD k []) ++ (LL.drop (k + 1)).flatten) := by
  have h1 : LL = LL.take k ++ (LL.getD k [] :: LL.drop (k + 1)) := by
   conv => lhs; rw [← List.take_append_drop k LL, List.drop_eq_getElem_cons h]
   rw [List.getD_eq_getElem?_getD, List.getElem?_eq_getElem h]
   rfl
  conv => lhs; rw [h1]
  rw [List.flatten_append, List.flatten_cons]
 rw [e, List.getElem?_append_right (by omega), Nat.add_sub_cancel_left, List.getElem?_append_left hj]
theorem fill {w wr w2 : World} {n : Nat} {M : List (List Int)} {L : List Int} (hm : Mid w wr n M) (hk : M.length < n) (g2 : wr.grownBy w2 none)
  (ho : w2.ownsRow wr.heap.size 3 1 (.slice (some ⟨wr.heap.size, 0, none⟩) L.length L.length) L.length (ints (List.replicate L.length 0))) :
  Mid w ((w2.setCell ⟨w.heap.size, M.length, none⟩ (.slice (some ⟨wr.heap.size, 0, none⟩) L.length L.length)).setRow wr.heap.size (ints L).toArray) n (M ++ [L]) := by
 have hsz := hm.grown.size
 have hlt : w.heap.size < wr.heap.size := by
  obtain ⟨D, _, o, _⟩ := hm
  exact (o.lt w.heap.size rfl).2
 rw [set_comm w2 _ _ (by omega)]
 refine hm.step hk ?_ ?_
 ·refine ⟨g2.os, g2.tape, g2.output, ?_, fun j hj hr => ?_⟩
  ·show wr.heap.size ≤ (w2.setRow wr.heap.size _).heap.size
   have : (w2.setRow wr.heap.size (ints L).toArray).heap.size = w2.heap.size := by simp [World.setRow]
   rw [this]
   exact g2.size
  ·rw [setRow_other w2 wr.heap.size j _ (by omega)]
   exact g2.block j hj hr
 ·rcases ho.2 with ⟨e, _⟩ | ⟨g', cap', cur, e, hb, hh, hn, hm', hs, ht⟩
  ·cases e
  ·rw [Value.slice.injEq] at e
   obtain ⟨e1, _, rfl⟩ := e
   have eg : wr.heap.size = g' := by simpa using e1
   subst eg
   refine ⟨by rw [sl.ints_length]; omega, .inr ⟨wr.heap.size, L.length, (ints L).toArray, rfl, Nat.le_refl _, setRow_heap w2 _ _ _ _ _ hh, hn, hm', by simp [sl.ints_length], ?_⟩⟩
   rw [Nat.mul_one]
   show List.take L.length (ints L) = ints L
   exact List.take_of_length_le (by rw [sl.ints_length]; exact Nat.le_refl _)
set_option maxRecDepth 100000 in
set_option maxHeartbeats 8000000 in
theorem lists {t : TypeId} {pr : List Value} {o : Nat} (c : Nat) {W0 : World} {va ve : Value} {LL : List (List Int)} (w : World) (hL : LL.length ≤ 1048576) (hF : LL.flatten.length ≤ 4194304) (h : Cl t pr o W0 w c va ve LL) :
  Calls Tryz.prog 47 #[.pointer (some ⟨c, o, none⟩)] w fun e w' => ∃ r, e = .returned r ∧ OwnS w.heap.size w'.heap.size w' r LL ∧ w.grownBy w' none := by
 have x0 := h.bx.c0
 have x1 := h.bx.c1
 obtain ⟨ea, ec, ee⟩ : ∃ a cap, ve = .slice a LL.length cap := by
  rcases h.e.2 with ⟨hv, h0⟩ | ⟨g, cap, cur, hv, _⟩
  ·exact ⟨none, 0, by rw [hv, h0]⟩
  ·exact ⟨_, cap, hv⟩
 obtain ⟨la, lc, el⟩ : ∃ a cap, va = .slice a LL.flatten.length cap := by
  rcases h.l.2 with ⟨hv, h0⟩ | ⟨g, cap, cur, hv, _⟩
  ·exact ⟨none, 0, by rw [hv, h0]⟩
  ·exact ⟨_, cap, hv⟩
 subst ee el
 obtain ⟨i0, hi, hz0, hz1, hz2⟩ := info_parts css.infoSl
 obtain ⟨j0, hj, hy0, hy1, hy2⟩ := info_parts sl.info3
 have HC := hide h
 have HF := hide hF
 obtain ⟨F, hF0⟩ : ∃ F, F = LL.flatten := ⟨_, rfl⟩
 obtain ⟨fl, hfl⟩ : ∃ fl, fl = LL.flatten.length := ⟨_, rfl⟩
 rw [← hfl] at x0
 have HFL := hide hfl
 clear h hF hfl hF0
 go_enter Tryz.func47, Tryz.ntmps47
 go_wp2_with (first | (at_make; refine wpList_make_full _ rfl _ _ 24 rfl w.heap.size 43 i0 (.slice none 0 0) 1 Tryz.underlying24 hi hz0 hz1 _ _ _ _ LL.length rfl rfl (by rfl) (by rfl) ?b1 ?b2 ?b3 ?_))
 case b1 => rw [hz2]; omega
 case b2 => unfold maxLen; omega
 case b3 => exact Nat.le_refl _
 intro w1 hown hgrow
 have y1 := ((unhide HC).bx.kept hgrow).c1
 have O := hide (Mid.start hown hgrow)
 clear hown hgrow x0 x1
 go_wp2_with fail
 clear y1
 go_loopw [4, 19] (fun sv iv wr => ∃ (k st : Nat), k ≤ LL.length ∧ sv = .int .i64 (st : Int) ∧ Hid (st = (LL.take k).flatten.length) ∧ iv = .int .i64 (k : Int) ∧ Hid (Mid w wr LL.length (LL.take k))) (fun _ iv _ => LL.length - (intOf iv).toNat)
 case atStart => exact ⟨0, 0, Nat.zero_le _, rfl, rfl, rfl, O⟩
 case round =>
  obtain ⟨k, st, hk, rfl, hst, rfl, hmid⟩ := hrel
  clear O
  by_cases hlt : k < LL.length
  ·have hg := (unhide hmid).grown
   have hc := (unhide HC).kept hg
   have c0 := hc.bx.c0
   rw [← unhide HFL] at c0
   have hi' : (k : Int) < (LL.length : Int) := by omega
   obtain ⟨eg, ecap, e, _⟩ := hc.e.form (by omega)
   rw [Value.slice.injEq] at e
   obtain ⟨rfl, hz, rfl⟩ := e
   clear hz
   have c1 : wr.cell? ⟨eg, k, none⟩ = some (.int .i64 (((LL.take (k + 1)).flatten.length : Nat) : Int)) := by
    rw [hc.e.cellAt k (by omega)]
    simp [sl.ints, ends_at hlt]
   have hfs := flat_step hlt
   have hfle := flat_le LL (k + 1)
   rw [← unhide hst] at hfs
   have hFu := unhide HF
   have htl : (LL.take k).length = k := by rw [List.length_take]; omega
   have hts := css.take_snoc LL k hlt
   obtain ⟨en, hen⟩ : ∃ en, en = (LL.take (k + 1)).flatten.length := ⟨_, rfl⟩
   rw [← hen] at c1 hfs hfle
   have HEN := hide hen
   rw [← unhide HFL] at hfle hFu
   have hin : en = st + (LL.getD k []).length := hfs
   have SRC : Hid (∀ lg, la = some ⟨lg, 0, none⟩ → ∀ w', wr.grownBy w' none → ∀ j y, (ints (LL.getD k []))[j]? = some y → w'.cell? ⟨lg, st + j, none⟩ = some y) := by
    intro lg e w' gg j y hj
    have hjl : j < (LL.getD k []).length := by
     have := (List.getElem?_eq_some_iff.1 hj).1
     rwa [sl.ints_length] at this
    have hl := hc.l
    rw [e] at hl
    have hfa := flat_at hlt hjl
    rw [← unhide hst] at hfa
    refine gg.cell ((hl.cellAt (st + j) (by rw [← unhide HFL]; omega)).trans ?_) (fun e => by cases e)
    rw [← hj]
    simp only [sl.ints, List.getElem?_map, hfa]
   have HTS := hide hts
   have HTL := hide htl
   clear hg hc hfs hen hts htl
   generalize LL.getD k [] = L at *
   have hLl : L.length ≤ 4194304 := by omega
   subst hin
   have hcap : fl ≤ lc := by
    rcases (unhide HC).l.2 with ⟨e, h0⟩ | ⟨g', cap', cur, e, _, _, hn', _⟩
    ·rw [unhide HFL, h0]; exact Nat.zero_le _
    ·rw [Value.slice.injEq] at e
     obtain ⟨_, _, rfl⟩ := e
     rw [unhide HFL]
     exact hn'
   have b1 : (0 : Int) ≤ (st : Int) := by omega
   have b3 : ((st + L.length : Nat) : Int) ≤ (lc : Int) := by omega
   have CM := hide (fun (w2 : World) (g2 : wr.grownBy w2 none) => (unhide hmid).cell (by rw [unhide HTL]; exact hlt) g2)
   rw [unhide HTL] at CM
   have EN : Hid (st + L.length = (LL.take (k + 1)).flatten.length) := unhide HEN
   have hfp : L.length ≤ fl := by omega
   clear HEN hfle hFu
   by_cases hL0 : L.length = 0
   ·have eL : L = [] := List.eq_nil_of_length_eq_zero hL0
    subst eL
    have b2 : ((st + ([] : List Int).length : Nat) : Int) = (st : Int) := by simp
    rw [b2] at c1 b3
    have NX : Hid (∀ w2 u, wr.grownBy w2 none → w2.ownsRow wr.heap.size 3 1 u 0 [] → Mid w (w2.setCell ⟨w.heap.size, k, none⟩ u) LL.length (LL.take (k + 1))) := by
     intro w2 u g2 o2
     have := (unhide hmid).step (by rw [unhide HTL]; exact hlt) g2 (L := []) o2
     rw [unhide HTL, ← unhide HTS] at this
     exact this
    clear hL0 b2 SRC hLl
    go_wp2_with (first | (at_make; refine wpList_make_full _ rfl _ _ 43 rfl wr.heap.size 3 j0 (.int .i64 0) 1 Tryz.underlying43 hj hy0 hy1 _ _ _ _ 0 rfl rfl (by rfl) (by rfl) ?b1 ?b2 ?b3 ?_))
    case b1 => rw [hy2]; omega
    case b2 => unfold maxLen; omega
    case b3 => exact Nat.le_refl _
    intro w2 o2 g2
    obtain ⟨⟨x, hx⟩, hf⟩ := unhide CM w2 g2
    have M2 := hide (unhide NX w2 _ g2 (by simpa [madeCells] using o2))
    have hcp : ∀ w', (Builtin.copy_ #[43, 43] 3 #[.slice (some ⟨wr.heap.size, 0, none⟩) 0 0, .slice la 0 0]).run Tryz.prog w' = .ok (goInt 0) w' := fun w' => run_copy_none (P := Tryz.prog) w' 43 43 3 3 _ _ _ _ _ _ Tryz.underlying43 (by rw [hj, Option.map_some, hy1]) rfl
    clear o2 g2 NX CM c0 c1
    go_wp2_with fail
    go_roundw
    case rel => exact ⟨k + 1, st, by omega, rfl, by show st = _; have := unhide EN; simpa using this, by go_num, unhide M2⟩
    case measure => simp [intOf]; omega
   ·obtain ⟨lg, lcap, e, _⟩ := (unhide HC).l.form (by rw [← unhide HFL]; omega)
    rw [Value.slice.injEq] at e
    obtain ⟨rfl, hz, rfl⟩ := e
    clear hz
    have b2 : (st : Int) ≤ ((st + L.length : Nat) : Int) := by omega
    have b4 : ¬ st + L.length = st := by omega
    have b5 : (0 : Int) ≤ ((st + L.length : Nat) : Int) := by omega
    have b6 : st + L.length - st = L.length := by omega
    obtain ⟨en, hen⟩ : ∃ en, en = st + L.length := ⟨_, rfl⟩
    rw [← hen] at c1 b2 b3 b4 b5 b6
    have NX : Hid (∀ w2, wr.grownBy w2 none → w2.ownsRow wr.heap.size 3 1 (.slice (some ⟨wr.heap.size, 0, none⟩) L.length L.length) L.length (ints (List.replicate L.length 0)) → Mid w ((w2.setCell ⟨w.heap.size, k, none⟩ (.slice (some ⟨wr.heap.size, 0, none⟩) L.length L.length)).setRow wr.heap.size (ints L).toArray) LL.length (LL.take (k + 1))) := by
     intro w2 g2 o2
     have := fill (unhide hmid) (by rw [unhide HTL]; exact hlt) g2 o2
     rw [unhide HTL, ← unhide HTS] at this
     exact this
    have SR := hide (unhide SRC lg rfl)
    have HEN := hide hen
    have hLw := (unhide hmid).grown.size
    clear hen SRC
    go_wp2_with (first | (at_make; refine wpList_make_full _ rfl _ _ 43 rfl wr.heap.size 3 j0 (.int .i64 0) 1 Tryz.underlying43 hj hy0 hy1 _ _ _ _ L.length rfl rfl (by rfl) (by rfl) ?b1 ?b2 ?b3 ?_))
    case b1 => rw [hy2]; omega
    case b2 => unfold maxLen; omega
    case b3 => exact Nat.le_refl _
    intro w2 o2 g2
    obtain ⟨⟨x, hx⟩, hf⟩ := unhide CM w2 g2
    have ez : (madeCells #[Value.int .i64 0] L.length).toList = ints (List.replicate L.length 0) := by
     rw [toList_madeCells_one]
     simp [sl.ints]
    rw [ez] at o2
    have M2 := hide (unhide NX w2 g2 o2)
    have hblk : w2.heap[wr.heap.size]? = some (.cells (ints (List.replicate L.length 0)).toArray 3 (0, 0)) := by
     rcases o2.2 with ⟨e, _⟩ | ⟨g', cap', cur, e, hb, hh, hn, hm', hs, ht⟩
     ·cases e
     ·rw [Value.slice.injEq] at e
      obtain ⟨e1, _, rfl⟩ := e
      have eg' : wr.heap.size = g' := by simpa using e1
      subst eg'
      rw [hh]
      congr 2
      rw [← ht, List.take_of_length_le (by simp; omega)]
    have hne : w.heap.size ≠ wr.heap.size := by
     obtain ⟨D, _, o, _⟩ := unhide hmid
     have := (o.lt w.heap.size rfl).2
     omega
    have hlw : ¬ w.heap.size = lg := by
     have := ((unhide HC).l.lt lg rfl).2
     omega
    have hcp := run_copy_row (P := Tryz.prog) (w2.setCell ⟨w.heap.size, k, none⟩ (.slice (some ⟨wr.heap.size, 0, none⟩) L.length L.length)) 43 43 3 3 wr.heap.size 0 L.length L.length ⟨lg, st, none⟩ L.length L.length (ints (List.replicate L.length 0)).toArray 3 (ints L) Tryz.underlying43 (by rw [hj, Option.map_some, hy1])
     (by rw [Below.heap_setCell _ _ _ _ (fun e => hne e.symm)]; exact hblk) (by rw [sl.ints_length]; exact (Nat.min_self _).symm)
     (by
      intro j y hjy
      rw [Addr.add_mid]
      have hcy := unhide SR w2 g2 j y hjy
      exact (World.cell?_setCell_other w2 _ _ _ (fun e => hlw (congrArg Addr.block e))).trans hcy)
     (by simp [sl.ints_length]) (ints_oneCell .i64 L)
    have erow : (List.take 0 (ints (List.replicate L.length 0)).toArray.toList ++ ints L ++ List.drop (0 + (ints L).length) (ints (List.replicate L.length 0)).toArray.toList).toArray = (ints L).toArray := by
     congr 1
     rw [List.take_zero, List.nil_append, Nat.zero_add, sl.ints_length]
     rw [List.drop_of_length_le (by simp [sl.ints_length]), List.append_nil]
    rw [erow] at hcp
    clear o2 g2 NX CM c0 c1 hblk ez erow
    go_wp2_with fail
    go_roundw
    case rel => exact ⟨k + 1, en, by omega, rfl, (unhide HEN).trans (unhide EN), by go_num, unhide M2⟩
    case measure => simp [intOf]; omega
  ·have hi' : ¬ (k : Int) < (LL.length : Int) := by omega
   have e : LL.take k = LL := List.take_of_length_le (by omega)
   rw [e] at hmid
   have R := hide ((unhide hmid).done rfl)
   clear hmid e
   go_wp2_with fail
   go_ret
   exact ⟨_, rfl, unhide R⟩
end Go.Proofs.YtcgiphcfjhbonaaGreatDoor.ck
namespace Go.Proofs.YtcgiphcfjhbonaaGreatDoor.rd
open Go.RowKit
open lits (okB okB_iff okB_yes)
open cls (okAll)
open txt (body text itoa_len)

/-! ### digits -/
theorem dec_mem (u : Nat) : ∀ c ∈ Lib.decDigits u, 48 ≤ c.toNat ∧ c.toNat ≤ 57 := by
 induction u using Nat.strongRecOn with
 | _ u ih =>
  intro c hc
  have one : ∀ d, d < 10 → 48 ≤ (UInt8.ofNat (48 + d)).toNat ∧ (UInt8.ofNat (48 + d)).toNat ≤ 57 := by decide
  by_cases h : u < 10
  ·rw [dec.dec_small h] at hc
   rw [List.mem_singleton] at hc
   rw [hc]
   exact one _ (Nat.mod_lt _ (by decide))
  ·rw [dec.dec_big h, List.mem_append] at hc
   rcases hc with hc | hc
   ·exact ih (u / 10) (by omega) c hc
   ·rw [List.mem_singleton] at hc
    rw [hc]
    exact one _ (Nat.mod_lt _ (by decide))
def val (l : List UInt8) : Nat := l.foldl (fun a c => 10 * a + (c.toNat - 48)) 0
theorem val_snoc (l : List UInt8) (c : UInt8) : val (l ++ [c]) = 10 * val l + (c.toNat - 48) := by simp [val]
theorem digit_val : ∀ d, d < 10 → (UInt8.ofNat (48 + d)).toNat - 48 = d := by decide
theorem val_dec (u : Nat) : val (Lib.decDigits u) = u := by
 induction u using Nat.strongRecOn with
 | _ u ih =>
  by_cases h : u < 10
  ·rw [dec.dec_small h]
   show 10 * 0 + ((UInt8.ofNat (48 + u % 10)).toNat - 48) = u
   rw [digit_val _ (Nat.mod_lt _ (by decide))]
   omega
  ·rw [dec.dec_big h, val_snoc, ih (u / 10) (by omega), digit_val _ (Nat.mod_lt _ (by decide))]
   omega
theorem dec_ne (u : Nat) : Lib.decDigits u ≠ [] := by
 intro h
 have := Lib.decDigits_length u
 rw [h] at this
 have := Lib.nDigits_pos u
 simp at *
 omega
theorem dec_head (u : Nat) : ∀ c r, Lib.decDigits u = c :: r → c ≠ 45 := by
 intro c r h e
 have := dec_mem u c (by rw [h]; exact List.mem_cons_self)
 rw [e] at this
 simp at this
theorem itoa_blank (x : Int) : (32 : UInt8) ∉ Lib.itoa x := by
 unfold Lib.itoa
 split
 ·intro h
  rcases List.mem_cons.1 h with h | h
  ·cases h
  ·have := dec_mem _ _ h
   simp at this
 ·intro h
  have := dec_mem _ _ h
  simp at this

/-! ### words -/
def scan (st : List (List UInt8) × List UInt8) (l : List UInt8) : List (List UInt8) × List UInt8 :=
 l.foldl (fun st c => if c = 32 then (st.1 ++ [st.2], []) else (st.1, st.2 ++ [c])) st
def words (l : List UInt8) : List (List UInt8) := (scan ([], []) l).1 ++ [(scan ([], []) l).2]
theorem scan_plain (st : List (List UInt8) × List UInt8) (a : List UInt8) (h : (32 : UInt8) ∉ a) : scan st a = (st.1, st.2 ++ a) := by
 induction a generalizing st with
 | nil => simp [scan]
 | cons c a ih =>
  rw [List.mem_cons, not_or] at h
  have e : scan st (c :: a) = scan (st.1, st.2 ++ [c]) a := by
   show scan (if c = 32 then _ else _) a = _
   rw [if_neg (fun e => h.1 e.symm)]
  rw [e, ih _ h.2]
  simp
theorem scan_append (st : List (List UInt8) × List UInt8) (a b : List UInt8) : scan st (a ++ b) = scan (scan st a) b := by simp [scan]
theorem scan_word (st : List (List UInt8) × List UInt8) (a r : List UInt8) (h : (32 : UInt8) ∉ a) : scan st (a ++ 32 :: r) = scan (st.1 ++ [st.2 ++ a], []) r := by
 rw [scan_append, scan_plain _ _ h]
 rfl
theorem body_cons (x : Int) (l : List Int) : body (x :: l) = Lib.itoa x ++ 32 :: body l := by simp [body]
theorem scan_body (d : List (List UInt8)) (L : List Int) : scan (d, []) (body L ++ [48]) = (d ++ L.map Lib.itoa, [48]) := by
 induction L generalizing d with
 | nil => simp [body, scan]
 | cons x l ih =>
  rw [body_cons, List.append_assoc, List.cons_append, scan_word _ _ _ (itoa_blank x), List.nil_append, ih]
  simp
theorem words_body (L : List Int) : words (body L ++ [48]) = L.map Lib.itoa ++ [[48]] := by
 unfold words
 rw [scan_body]
 simp

/-! ### a number out of a word -/
def numDig (s : List UInt8) : List UInt8 := if s.head? = some 45 then s.tail else s
def numOk (s : List UInt8) : Bool := decide (1 ≤ (numDig s).length ∧ (numDig s).length ≤ 9) && (numDig s).all fun c => decide (48 ≤ c.toNat ∧ c.toNat ≤ 57)
def numV (s : List UInt8) : Int := if (numDig s).length < s.length then -(val (numDig s) : Int) else (val (numDig s) : Int)
def num (s : List UInt8) : Int × Bool := if numOk s then (numV s, decide (Lib.itoa (numV s) = s)) else (0, false)
theorem dec_all (u : Nat) : (Lib.decDigits u).all (fun c => decide (48 ≤ c.toNat ∧ c.toNat ≤ 57)) = true := by
 rw [List.all_eq_true]
 intro c hc
 exact decide_eq_true (dec_mem u c hc)
theorem dec_len {u : Nat} (h : u < 10 ^ 9) : 1 ≤ (Lib.decDigits u).length ∧ (Lib.decDigits u).length ≤ 9 := by
 rw [Lib.decDigits_length]
 exact ⟨Lib.nDigits_pos u, dec.nDigits_le 9 u (by decide) h⟩
theorem dig_pos (u : Nat) : numDig (Lib.decDigits u) = Lib.decDigits u := by
 unfold numDig
 rw [if_neg]
 intro h
 cases e : Lib.decDigits u with
 | nil => exact dec_ne u e
 | cons c r =>
  rw [e] at h
  exact dec_head u c r e (Option.some.inj h)
theorem num_itoa {x : Int} (h1 : -1000000000 < x) (h2 : x < 1000000000) : num (Lib.itoa x) = (x, true) := by
 have key : numOk (Lib.itoa x) = true ∧ numV (Lib.itoa x) = x := by
  unfold numOk numV Lib.itoa
  split
  ·have e : numDig (45 :: Lib.decDigits x.natAbs) = Lib.decDigits x.natAbs := by simp [numDig]
   rw [e, dec_all, decide_eq_true (dec_len (by omega)), if_pos (by simp), val_dec]
   exact ⟨rfl, by omega⟩
  ·rw [dig_pos, dec_all, decide_eq_true (dec_len (by omega)), if_neg (by omega), val_dec]
   exact ⟨rfl, by omega⟩
 unfold num
 rw [key.1, key.2, decide_eq_true rfl]
 rfl

/-! ### a literal out of a word -/
def lit (s : List UInt8) : Option Int := match Lib.atoiAll s with
 | .ok v => if okB v && decide (Lib.itoa v = s) then some v else none
 | _ => none

/-! ### a clause out of a text -/
def cutW (s : List UInt8) : List UInt8 × List UInt8 × Bool := Lib.cut s [32]
def clause : Nat → List UInt8 → Option (List Int)
 | 0, s => if s = [48] then some [] else none
 | n + 1, s => if s = [48] then some [] else if (cutW s).2.2 then (match lit (cutW s).1 with
  | some x => (clause n (cutW s).2.1).map (x :: ·)
  | none => none) else none
theorem index_cons (b : UInt8) (l : List UInt8) : Lib.index (b :: l) [32] = if b = 32 then 0 else if Lib.index l [32] = -1 then -1 else Lib.index l [32] + 1 := by
 conv => lhs; unfold Lib.index
 by_cases h : b = 32
 ·rw [if_pos (by simp [h]), if_pos h]
 ·rw [if_neg (by simp; exact fun e => h e.symm), if_neg h]
  simp [beq_iff_eq]
theorem cut_spec (s : List UInt8) : (∃ a r, s = a ++ 32 :: r ∧ (32 : UInt8) ∉ a ∧ Lib.index s [32] = (a.length : Int)) ∨ ((32 : UInt8) ∉ s ∧ Lib.index s [32] = -1) := by
 induction s with
 | nil => exact .inr ⟨by simp, by simp [Lib.index]⟩
 | cons b l ih =>
  rw [index_cons]
  by_cases h : b = 32
  ·exact .inl ⟨[], l, by simp [h], by simp, by simp [h]⟩
  ·rw [if_neg h]
   rcases ih with ⟨a, r, e, ha, hi⟩ | ⟨ha, hi⟩
   ·refine .inl ⟨b :: a, r, by simp [e], ?_, ?_⟩
    ·rw [List.mem_cons, not_or]
     exact ⟨fun e => h e.symm, ha⟩
    ·rw [hi, if_neg (by omega)]
     simp
   ·refine .inr ⟨?_, by rw [hi]; rfl⟩
    rw [List.mem_cons, not_or]
    exact ⟨fun e => h e.symm, ha⟩
theorem blank_unique {a b r t : List UInt8} (ha : (32 : UInt8) ∉ a) (hb : (32 : UInt8) ∉ b) (h : a ++ 32 :: r = b ++ 32 :: t) : a = b ∧ r = t := by
 induction a generalizing b with
 | nil =>
  cases b with
  | nil => simp at h; exact ⟨rfl, h⟩
  | cons c b => simp at h; exact absurd h.1.symm (fun e => hb (by rw [e]; exact List.mem_cons_self))
 | cons d a ih =>
  cases b with
  | nil => simp at h; exact absurd h.1 (fun e => ha (by rw [e]; exact List.mem_cons_self))
  | cons c b =>
   simp at h
   rw [List.mem_cons, not_or] at ha hb
   have := ih ha.2 hb.2 h.2
   exact ⟨by rw [h.1, this.1], this.2⟩
theorem cut_word {a : List UInt8} (r : List UInt8) (ha : (32 : UInt8) ∉ a) : cutW (a ++ 32 :: r) = (a, r, true) := by
 rcases cut_spec (a ++ 32 :: r) with ⟨b, t, e, hb, hi⟩ | ⟨h, _⟩
 ·obtain ⟨rfl, rfl⟩ := blank_unique ha hb e
  unfold cutW Lib.cut
  rw [hi, if_pos (by omega)]
  simp
 ·exact absurd (by simp) h
theorem cut_sound {s : List UInt8} (h : (cutW s).2.2 = true) : s = (cutW s).1 ++ 32 :: (cutW s).2.1 ∧ (cutW s).2.1.length < s.length := by
 rcases cut_spec s with ⟨b, t, e, hb, hi⟩ | ⟨_, hi⟩
 ·rw [e, cut_word t hb]
  exact ⟨rfl, by simp; omega⟩
 ·unfold cutW Lib.cut at h
  rw [hi] at h
  simp at h

/-! ### a literal's text spells it -/
def dec2 (u : Nat) : List UInt8 := if u < 10 then [UInt8.ofNat (48 + u % 10)] else [UInt8.ofNat (48 + u / 10 % 10), UInt8.ofNat (48 + u % 10)]
theorem dec_dec2 {u : Nat} (h : u < 100) : Lib.decDigits u = dec2 u := by
 unfold dec2
 split
 ·exact dec.dec_small ‹_›
 ·rw [dec.dec_big ‹_›, dec.dec_small (by omega)]
  rfl
theorem atoi_pos : ∀ u : Fin 25, (match Lib.atoiAll (dec2 u.val) with | .ok v => decide (v = (u.val : Int)) | _ => false) = true := by decide
theorem atoi_neg : ∀ u : Fin 25, (match Lib.atoiAll (45 :: dec2 u.val) with | .ok v => decide (v = -(u.val : Int)) | _ => false) = true := by decide
theorem ok_of {e : Lib.NumEnd Int} {x : Int} (h : (match e with | .ok v => decide (v = x) | _ => false) = true) : e = .ok x := by
 cases e with
 | ok v => rw [of_decide_eq_true h]
 | _ => cases h
theorem atoi_lit {x : Int} (h : okB x = true) : Lib.atoiAll (Lib.itoa x) = .ok x := by
 have a := okB_iff.1 h
 unfold Lib.itoa
 split
 ·rw [dec_dec2 (by omega)]
  have := ok_of (atoi_neg ⟨x.natAbs, by omega⟩)
  rw [this]
  congr 1
  simp
  omega
 ·rw [dec_dec2 (by omega)]
  have := ok_of (atoi_pos ⟨x.toNat, by omega⟩)
  rw [this]
  congr 1
  simp
  omega
theorem lit_itoa {x : Int} (h : okB x = true) : lit (Lib.itoa x) = some x := by
 unfold lit
 rw [atoi_lit h]
 simp [h]
theorem lit_sound {s : List UInt8} {x : Int} (h : lit s = some x) : okB x = true ∧ Lib.itoa x = s := by
 unfold lit at h
 split at h
 ·split at h
  ·rename_i v _ hv
   rw [Bool.and_eq_true, decide_eq_true_iff] at hv
   obtain rfl := Option.some.inj h
   exact hv
  ·cases h
 ·cases h

theorem clause_sound {n : Nat} {s : List UInt8} {L : List Int} (h : clause n s = some L) : L.all okB = true ∧ L.length ≤ n ∧ body L ++ [48] = s := by
 induction n generalizing s L with
 | zero =>
  unfold clause at h
  split at h
  ·obtain rfl := Option.some.inj h
   exact ⟨rfl, Nat.le_refl _, by rw [‹s = [48]›]; rfl⟩
  ·cases h
 | succ n ih =>
  unfold clause at h
  split at h
  ·obtain rfl := Option.some.inj h
   exact ⟨rfl, Nat.zero_le _, by rw [‹s = [48]›]; rfl⟩
  ·split at h
   ·rename_i hf
    cases hl : lit (cutW s).1 with
    | none => rw [hl] at h; cases h
    | some x =>
     rw [hl] at h
     obtain ⟨l, hc, rfl⟩ := Option.map_eq_some_iff.1 h
     have h1 := ih hc
     have h2 := lit_sound hl
     have h3 := cut_sound hf
     refine ⟨by rw [List.all_cons, h2.1, h1.1]; rfl, by rw [List.length_cons]; omega, ?_⟩
     rw [body_cons, List.append_assoc, List.cons_append, h1.2.2, h2.2]
     exact h3.1.symm
   ·cases h
theorem clause_full {L : List Int} (hok : L.all okB = true) : ∀ n, L.length ≤ n → clause n (body L ++ [48]) = some L := by
 induction L with
 | nil => intro n _; cases n <;> rfl
 | cons x l ih =>
  intro n hn
  cases n with
  | zero => simp at hn
  | succ n =>
   rw [List.all_cons, Bool.and_eq_true] at hok
   have hw : cutW (body (x :: l) ++ [48]) = (Lib.itoa x, body l ++ [48], true) := by
    rw [body_cons, List.append_assoc, List.cons_append]
    exact cut_word _ (itoa_blank x)
   have hne : ¬ body (x :: l) ++ [48] = [48] := by
    intro e
    have : (32 : UInt8) ∈ body (x :: l) ++ [48] := by rw [body_cons]; simp
    rw [e] at this
    simp at this
   unfold clause
   rw [if_neg hne, hw]
   simp only [if_true, lit_itoa hok.1, ih hok.2 n (by simpa using hn), Option.map_some]

def read (s : List UInt8) : Option (List Int) := clause 48 s
def readL (s : List UInt8) : List Int := (read s).getD []
def readB (s : List UInt8) : Bool := (read s).isSome
theorem read_sound {s : List UInt8} {L : List Int} (h : read s = some L) : okAll L = true ∧ text L = s := by
 have h1 := clause_sound h
 have hok : okAll L = true := by
  unfold okAll
  rw [h1.1, decide_eq_true h1.2.1]
  rfl
 exact ⟨hok, by rw [txt.text_yes hok]; exact h1.2.2⟩
theorem read_full {L : List Int} (hok : okAll L = true) : read (text L) = some L := by
 rw [txt.text_yes hok]
 unfold okAll at hok
 rw [Bool.and_eq_true, decide_eq_true_iff] at hok
 exact clause_full hok.1 48 hok.2
theorem read_len (s : List UInt8) : (readL s).length ≤ 48 := by
 unfold readL
 cases h : read s with
 | none => exact Nat.zero_le _
 | some L => exact (clause_sound h).2.1
end Go.Proofs.YtcgiphcfjhbonaaGreatDoor.rd
namespace Go.Proofs.YtcgiphcfjhbonaaGreatDoor.rd
open Go.ChangeShapes Go.WideShapes Go.ChangeAt Go.RowKit
open dec (str)
open sl (hide unhide ret_bool ret_int)
set_option linter.unusedVariables false

def bytes (s : ByteArray) : List UInt8 := s.data.toList
theorem toList_bytes (s : ByteArray) : s.toList = bytes s := ByteArray.toList_eq s
theorem bytes_len (s : ByteArray) : (bytes s).length = s.size := by unfold bytes; rw [Array.length_toList]; rfl
theorem bytes_extract (s : ByteArray) (a b : Nat) : bytes (s.extract a b) = ((bytes s).take b).drop a := by
 unfold bytes
 rw [ByteArray.data_extract, Array.toList_extract, List.drop_take]
theorem bytes_take (s : ByteArray) (k : Nat) (h : k < s.size) : (bytes s).take (k + 1) = (bytes s).take k ++ [s[k]] := by
 unfold bytes
 rw [List.take_succ_eq_append_getElem (by rw [Array.length_toList]; exact h)]
 rfl
theorem bytes_mem (s : ByteArray) (k : Nat) (h : k < s.size) : s[k] ∈ bytes s := by
 unfold bytes
 exact Array.getElem_mem_toList (h := h)
theorem val_lt (l : List UInt8) (h : l.all (fun c => decide (48 ≤ c.toNat ∧ c.toNat ≤ 57)) = true) : val l < 10 ^ l.length := by
 have gen : ∀ (l : List UInt8) (a k : Nat), l.all (fun c => decide (48 ≤ c.toNat ∧ c.toNat ≤ 57)) = true → a < 10 ^ k → l.foldl (fun a c => 10 * a + (c.toNat - 48)) a < 10 ^ (k + l.length) := by
  intro l
  induction l with
  | nil => intro a k _ h; exact h
  | cons c l ih =>
   intro a k hl ha
   rw [List.all_cons, Bool.and_eq_true, decide_eq_true_iff] at hl
   rw [List.foldl_cons, List.length_cons, show k + (l.length + 1) = (k + 1) + l.length from by omega]
   refine ih _ _ hl.2 ?_
   rw [Nat.pow_succ]
   omega
 have := gen l 0 0 h (by decide)
 rwa [Nat.zero_add] at this

theorem inC (x : Int) (w : World) : Calls Tryz.prog 99 #[.int .i64 x, .int .i64 48, .int .i64 57] w fun e w' => e = .returned (.bool (decide (48 ≤ x ∧ x ≤ 57))) ∧ w' = w := by
 by_cases h1 : 48 ≤ x
 ·by_cases h2 : x ≤ 57
  ·rw [decide_eq_true ⟨h1, h2⟩]
   go_enter Tryz.func99, Tryz.ntmps99
   go_wp2
   go_ret
   exact ⟨rfl, rfl⟩
  ·rw [decide_eq_false (fun h => h2 h.2)]
   go_enter Tryz.func99, Tryz.ntmps99
   go_wp2
   go_ret
   exact ⟨rfl, rfl⟩
 ·rw [decide_eq_false (fun h => h1 h.1)]
  have h1' : decide (48 ≤ x) = false := decide_eq_false h1
  go_enter Tryz.func99, Tryz.ntmps99
  go_wp2
  go_ret
  exact ⟨rfl, rfl⟩

def dig (l : List UInt8) : Bool := l.all fun c => decide (48 ≤ c.toNat ∧ c.toNat ≤ 57)
theorem dig_hit (s : ByteArray) (k : Nat) (h : k < s.size) (hx : decide (48 ≤ (s[k].toNat : Int) ∧ (s[k].toNat : Int) ≤ 57) = false) : dig (bytes s) = false := by
 unfold dig
 rw [List.all_eq_false]
 refine ⟨s[k], bytes_mem s k h, ?_⟩
 rw [decide_eq_false_iff_not] at hx
 simp only [decide_eq_true_iff]
 omega
theorem dig_step (s : ByteArray) (k : Nat) (h : k < s.size) (hd : dig ((bytes s).take k) = true) (hx : decide (48 ≤ (s[k].toNat : Int) ∧ (s[k].toNat : Int) ≤ 57) = true) : dig ((bytes s).take (k + 1)) = true := by
 unfold dig at *
 rw [bytes_take s k h, List.all_append, hd]
 rw [decide_eq_true_iff] at hx
 simp only [List.all_cons, List.all_nil, Bool.and_true, Bool.true_and, decide_eq_true_iff]
 omega
theorem val_step (s : ByteArray) (k : Nat) (h : k < s.size) (hx : decide (48 ≤ (s[k].toNat : Int) ∧ (s[k].toNat : Int) ≤ 57) = true) : ((val ((bytes s).take (k + 1)) : Nat) : Int) = 10 * ((val ((bytes s).take k) : Nat) : Int) + (s[k].toNat : Int) - 48 := by
 rw [decide_eq_true_iff] at hx
 rw [bytes_take s k h, val_snoc]
 omega
theorem val_small (s : ByteArray) (k : Nat) (h9 : s.size ≤ 9) (hd : dig ((bytes s).take k) = true) : val ((bytes s).take k) < 1000000000 := by
 have h1 := val_lt _ hd
 have h2 : ((bytes s).take k).length ≤ 9 := by
  rw [List.length_take, bytes_len]
  omega
 have h3 : 10 ^ ((bytes s).take k).length ≤ 10 ^ 9 := Nat.pow_le_pow_right (by decide) h2
 omega
theorem ret_eq (n : Int) (q : List UInt8) (s : ByteArray) : Ending.returned (.tuple #[.int .i64 n, .bool (q == s.toList)]) = .returned (.tuple #[.int .i64 n, .bool (decide (q = bytes s))]) := by
 rw [show (q == s.toList) = decide (q = bytes s) from by rw [Bool.eq_iff_iff, beq_iff_eq, decide_eq_true_iff, toList_bytes]]
def fin (neg : Bool) (s d : List UInt8) : Int × Bool := if dig d then ((if neg then -((val d : Nat) : Int) else ((val d : Nat) : Int)), decide (Lib.itoa (if neg then -((val d : Nat) : Int) else ((val d : Nat) : Int)) = s)) else (0, false)
theorem fin_no {neg : Bool} {s d : List UInt8} (h : dig d = false) : fin neg s d = (0, false) := by unfold fin; rw [h]; rfl
theorem fin_neg {s d : List UInt8} (h : dig d = true) : fin true s d = (-((val d : Nat) : Int), decide (Lib.itoa (-((val d : Nat) : Int)) = s)) := by unfold fin; rw [h]; rfl
theorem fin_pos {s d : List UInt8} (h : dig d = true) : fin false s d = (((val d : Nat) : Int), decide (Lib.itoa ((val d : Nat) : Int) = s)) := by unfold fin; rw [h]; rfl

set_option maxHeartbeats 1600000 in
set_option maxRecDepth 100000 in
theorem numMinus (s d : ByteArray) (w : World) (hs : 0 < s.size) (h45 : ((s[0].toNat : Int) == 45) = true) (hex : s.extract 1 s.size = d) (hsz : d.size + 1 = s.size) (h1 : 1 ≤ d.size) (h9 : d.size ≤ 9) :
  Calls Tryz.prog 94 #[.string s] w fun e w' => e = .returned (.tuple #[.int .i64 (fin true (bytes s) (bytes d)).1, .bool (fin true (bytes s) (bytes d)).2]) ∧ w' = w := by
 have e0 : (((d.size : Nat) : Int) == 0) = false := by rw [beq_eq_false_iff_ne]; omega
 have e9 : decide ((9 : Int) < ((d.size : Nat) : Int)) = false := decide_eq_false (by omega)
 have hlt0 : ((d.size : Nat) : Int) < ((s.size : Nat) : Int) := by omega
 have hs0 : (0 : Int) < ((s.size : Nat) : Int) := by omega
 go_enter Tryz.func94, Tryz.ntmps94
 go_wp2
 go_loop [5, 6] (fun n i => ∃ k : Nat, k ≤ d.size ∧ i = .int .i64 k ∧ n = .int .i64 ((val ((bytes d).take k) : Nat) : Int) ∧ Hid (dig ((bytes d).take k) = true)) (fun _ i => d.size - (intOf i).toNat)
 case atStart => exact ⟨0, Nat.zero_le _, rfl, rfl, rfl⟩
 case round =>
  obtain ⟨k, hk, rfl, rfl, hd⟩ := hrel
  have hvs := val_small d k h9 (unhide hd)
  by_cases hlt : k < d.size
  ·have hi' : (k : Int) < (d.size : Int) := by omega
   have vs := val_step d k hlt
   have ds := dig_step d k hlt (unhide hd)
   have dh := dig_hit d k hlt
   have hb : (d[k].toNat : Int) < 256 := by have := d[k].toNat_lt; omega
   have CI := hide (inC (d[k].toNat : Int) w)
   generalize ((val ((bytes d).take k) : Nat)) = m at *
   cases hx : decide (48 ≤ (d[k].toNat : Int) ∧ (d[k].toNat : Int) ≤ 57)
   ·rw [hx] at CI
    have H := hide (dh hx)
    clear vs ds dh hx hd
    go_wp2_with (go_at_call 99; refine (unhide CI).mono ?_; rintro e w2 ⟨rfl, hw⟩; have hw' := hw.symm; clear hw; subst hw')
    go_ret2
    exact ⟨by rw [fin_no (unhide H)]; rfl, rfl⟩
   ·rw [hx] at CI
    have V := hide (vs hx)
    have D := hide (ds hx)
    rw [decide_eq_true_iff] at hx
    obtain ⟨x0, x1⟩ := hx
    clear vs ds dh hd
    go_wp2_with (go_at_call 99; refine (unhide CI).mono ?_; rintro e w2 ⟨rfl, hw⟩; have hw' := hw.symm; clear hw; subst hw')
    go_round
    case rel => exact ⟨k + 1, by omega, by go_num, by rw [unhide V], D⟩
    case measure => simp [intOf]; omega
  ·have hi' : ¬ (k : Int) < (d.size : Int) := by omega
   have e : (bytes d).take k = bytes d := List.take_of_length_le (by rw [bytes_len]; omega)
   rw [e] at hd hvs
   rw [e]
   clear e
   have CD := hide (dec.l01Dec (-((val (bytes d) : Nat) : Int)) w (by omega) (by omega))
   unfold str at CD
   have hd' := unhide hd
   have HD := hide hd'
   clear hd hd'
   generalize hm : val (bytes d) = m at *
   generalize hq : Lib.itoa (-(m : Int)) = q at *
   have HM := hide hm
   have HQ := hide hq
   clear hm hq
   go_wp2_with (go_at_call 89; refine (unhide CD).mono ?_; rintro e w2 ⟨rfl, hw⟩; have hw' := hw.symm; clear hw; subst hw')
   go_ret2
   refine ⟨?_, rfl⟩
   rw [fin_neg (unhide HD)]
   show _ = Ending.returned (.tuple #[.int .i64 (-((val (bytes d) : Nat) : Int)), .bool (decide (Lib.itoa (-((val (bytes d) : Nat) : Int)) = bytes s))])
   rw [unhide HM, unhide HQ]
   exact ret_eq _ _ _

set_option maxHeartbeats 1600000 in
set_option maxRecDepth 100000 in
theorem numPlain (d : ByteArray) (w : World) (hs : 0 < d.size) (h45 : ((d[0].toNat : Int) == 45) = false) (h1 : 1 ≤ d.size) (h9 : d.size ≤ 9) :
  Calls Tryz.prog 94 #[.string d] w fun e w' => e = .returned (.tuple #[.int .i64 (fin false (bytes d) (bytes d)).1, .bool (fin false (bytes d) (bytes d)).2]) ∧ w' = w := by
 have e0 : (((d.size : Nat) : Int) == 0) = false := by rw [beq_eq_false_iff_ne]; omega
 have e9 : decide ((9 : Int) < ((d.size : Nat) : Int)) = false := decide_eq_false (by omega)
 have hs0 : (0 : Int) < ((d.size : Nat) : Int) := by omega
 go_enter Tryz.func94, Tryz.ntmps94
 go_wp2
 go_loop [5, 6] (fun n i => ∃ k : Nat, k ≤ d.size ∧ i = .int .i64 k ∧ n = .int .i64 ((val ((bytes d).take k) : Nat) : Int) ∧ Hid (dig ((bytes d).take k) = true)) (fun _ i => d.size - (intOf i).toNat)
 case atStart => exact ⟨0, Nat.zero_le _, rfl, rfl, rfl⟩
 case round =>
  obtain ⟨k, hk, rfl, rfl, hd⟩ := hrel
  have hvs := val_small d k h9 (unhide hd)
  by_cases hlt : k < d.size
  ·have hi' : (k : Int) < (d.size : Int) := by omega
   have vs := val_step d k hlt
   have ds := dig_step d k hlt (unhide hd)
   have dh := dig_hit d k hlt
   have hb : (d[k].toNat : Int) < 256 := by have := d[k].toNat_lt; omega
   have CI := hide (inC (d[k].toNat : Int) w)
   generalize ((val ((bytes d).take k) : Nat)) = m at *
   cases hx : decide (48 ≤ (d[k].toNat : Int) ∧ (d[k].toNat : Int) ≤ 57)
   ·rw [hx] at CI
    have H := hide (dh hx)
    clear vs ds dh hx hd
    go_wp2_with (go_at_call 99; refine (unhide CI).mono ?_; rintro e w2 ⟨rfl, hw⟩; have hw' := hw.symm; clear hw; subst hw')
    go_ret2
    exact ⟨by rw [fin_no (unhide H)]; rfl, rfl⟩
   ·rw [hx] at CI
    have V := hide (vs hx)
    have D := hide (ds hx)
    rw [decide_eq_true_iff] at hx
    obtain ⟨x0, x1⟩ := hx
    clear vs ds dh hd
    go_wp2_with (go_at_call 99; refine (unhide CI).mono ?_; rintro e w2 ⟨rfl, hw⟩; have hw' := hw.symm; clear hw; subst hw')
    go_round
    case rel => exact ⟨k + 1, by omega, by go_num, by rw [unhide V], D⟩
    case measure => simp [intOf]; omega
  ·have hi' : ¬ (k : Int) < (d.size : Int) := by omega
   have e : (bytes d).take k = bytes d := List.take_of_length_le (by rw [bytes_len]; omega)
   rw [e] at hd hvs
   rw [e]
   clear e
   have CD := hide (dec.l01Dec (((val (bytes d) : Nat) : Int)) w (by omega) (by omega))
   unfold str at CD
   have hd' := unhide hd
   have HD := hide hd'
   clear hd hd'
   generalize hm : val (bytes d) = m at *
   generalize hq : Lib.itoa ((m : Int)) = q at *
   have HM := hide hm
   have HQ := hide hq
   clear hm hq
   go_wp2_with (go_at_call 89; refine (unhide CD).mono ?_; rintro e w2 ⟨rfl, hw⟩; have hw' := hw.symm; clear hw; subst hw')
   go_ret2
   refine ⟨?_, rfl⟩
   rw [fin_pos (unhide HD)]
   show _ = Ending.returned (.tuple #[.int .i64 (((val (bytes d) : Nat) : Int)), .bool (decide (Lib.itoa (((val (bytes d) : Nat) : Int)) = bytes d))])
   rw [unhide HM, unhide HQ]
   exact ret_eq _ _ _

theorem num_fin {l : List UInt8} (h : decide (1 ≤ (numDig l).length ∧ (numDig l).length ≤ 9) = true) (neg : Bool) (hn : neg = decide ((numDig l).length < l.length)) : num l = fin neg l (numDig l) := by
 unfold num numOk numV fin
 rw [h, Bool.true_and, hn]
 show (if dig (numDig l) then _ else _) = _
 by_cases h2 : (numDig l).length < l.length
 ·rw [decide_eq_true h2, if_pos h2]
  rfl
 ·rw [decide_eq_false h2, if_neg h2]
  rfl
theorem num_no {l : List UInt8} (h : decide (1 ≤ (numDig l).length ∧ (numDig l).length ≤ 9) = false) : num l = (0, false) := by
 unfold num numOk
 rw [h]
 rfl

theorem l01Num (s : ByteArray) (w : World) (hmax : s.size ≤ 1048576) :
  Calls Tryz.prog 94 #[.string s] w fun e w' => e = .returned (.tuple #[.int .i64 (num (bytes s)).1, .bool (num (bytes s)).2]) ∧ w' = w := by
 by_cases hs : 0 < s.size
 ·have hhead : (bytes s).head? = some s[0] := by
   unfold bytes
   rw [List.head?_eq_getElem?, Array.getElem?_toList]
   exact Array.getElem?_eq_getElem hs
  cases h45 : ((s[0].toNat : Int) == 45)
  ·have hne : ¬ s[0] = 45 := by
    intro e
    rw [e] at h45
    cases h45
   have hd : numDig (bytes s) = bytes s := by
    unfold numDig
    rw [if_neg (by rw [hhead]; exact fun e => hne (Option.some.inj e))]
   by_cases h9 : s.size ≤ 9
   ·have e := num_fin (l := bytes s) (by rw [hd, bytes_len]; exact decide_eq_true ⟨hs, h9⟩) false (by rw [hd]; simp)
    rw [e, hd]
    exact numPlain s w hs h45 hs h9
   ·rw [num_no (by rw [hd, bytes_len]; exact decide_eq_false (by omega))]
    have e0 : (((s.size : Nat) : Int) == 0) = false := by rw [beq_eq_false_iff_ne]; omega
    have e9 : decide ((9 : Int) < ((s.size : Nat) : Int)) = true := decide_eq_true (by omega)
    have hs0 : (0 : Int) < ((s.size : Nat) : Int) := by omega
    clear hd hne hhead
    go_enter Tryz.func94, Tryz.ntmps94
    go_wp2
    go_ret2
    exact ⟨rfl, rfl⟩
  ·have hye : s[0] = 45 := by
    have := beq_iff_eq.1 h45
    apply UInt8.toNat_inj.1
    show s[0].toNat = 45
    omega
   obtain ⟨d, hex⟩ : ∃ d, s.extract 1 s.size = d := ⟨_, rfl⟩
   have hbd : bytes d = (bytes s).tail := by
    rw [← hex, bytes_extract, List.take_of_length_le (by rw [bytes_len]; exact Nat.le_refl _), List.drop_one]
   have hsz : d.size + 1 = s.size := by
    have h1 := bytes_len d
    rw [hbd, List.length_tail, bytes_len] at h1
    omega
   have hd : numDig (bytes s) = bytes d := by
    unfold numDig
    rw [if_pos (by rw [hhead, hye]), hbd]
   by_cases h9 : 1 ≤ d.size ∧ d.size ≤ 9
   ·have e := num_fin (l := bytes s) (by rw [hd, bytes_len]; exact decide_eq_true h9) true (by rw [hd, bytes_len, bytes_len]; exact (decide_eq_true (by omega)).symm)
    rw [e, hd]
    exact numMinus s d w hs h45 hex hsz h9.1 h9.2
   ·rw [num_no (by rw [hd, bytes_len]; exact decide_eq_false h9)]
    clear hd hbd hye hhead
    have hs0 : (0 : Int) < ((s.size : Nat) : Int) := by omega
    by_cases hz : d.size = 0
    ·have e0 : (((d.size : Nat) : Int) == 0) = true := by rw [beq_iff_eq]; omega
     clear h9 hz
     go_enter Tryz.func94, Tryz.ntmps94
     go_wp2
     go_ret2
     exact ⟨rfl, rfl⟩
    ·have e0 : (((d.size : Nat) : Int) == 0) = false := by rw [beq_eq_false_iff_ne]; omega
     have e9 : decide ((9 : Int) < ((d.size : Nat) : Int)) = true := decide_eq_true (by omega)
     clear h9 hz
     go_enter Tryz.func94, Tryz.ntmps94
     go_wp2
     go_ret2
     exact ⟨rfl, rfl⟩
 ·have e : bytes s = [] := List.eq_nil_of_length_eq_zero (by rw [bytes_len]; omega)
  rw [e]
  have hz : s.size = 0 := by omega
  have hz' : decide ((0 : Int) < ((s.size : Nat) : Int)) = false := decide_eq_false (by omega)
  have e0 : (((s.size : Nat) : Int) == 0) = true := by rw [beq_iff_eq]; omega
  clear hs e hz
  go_enter Tryz.func94, Tryz.ntmps94
  go_wp2
  go_ret2
  exact ⟨rfl, rfl⟩
end Go.Proofs.YtcgiphcfjhbonaaGreatDoor.rd
namespace Go.Proofs.YtcgiphcfjhbonaaGreatDoor.rd
open Go.ChangeShapes Go.WideShapes Go.ChangeAt Go.RowKit
open sl (hide unhide grown_refl grown_trans)
set_option linter.unusedVariables false

theorem infoS : (Tryz.prog.info? 9).map (fun i => (i.zero, i.size, i.bytes)) = some (some (.string ⟨#[]⟩), 1, 16) := by kernel_rfl
def strs (D : List ByteArray) : List Value := D.map Value.string
def MadeS (w w1 : World) (v : Value) (D : List ByteArray) : Prop := w1.ownsRow w.heap.size 9 1 v D.length (strs D) ∧ w.grownBy w1 none
theorem strs_oneCell (D : List ByteArray) : ∀ u ∈ strs D, u.oneCell' = true := by
 intro u hu
 obtain ⟨_, _, rfl⟩ := List.mem_map.1 hu
 rfl
theorem appendS {ops : Array Oper} {rest : List Oper} {o : Oper} {a : Act} {Q : Exit → Act → World → Prop} {w wr : World} {v : Value} {D : List ByteArray} {y : ByteArray}
  (hm : MadeS w wr v D) (hM : D.length ≤ 4194304) (hgd : o.guard = none) (s x : Operand)
  (ho : o.op = .call { callee := .builtin .append, args := #[s, x], argTypes := #[85, 85] }) (hs : a.eval s = v) (hx : a.eval x = .slice (some ⟨wr.heap.size, 0, none⟩) 1 1)
  (h : ∀ v' w1, MadeS w w1 v' (D ++ [y]) → wpList Tryz.prog ops Q rest (a.put o.dst v') w1) :
  wpList Tryz.prog ops Q (o :: rest) a (wr.alloc (.cells #[.string y] 9)) := by
 obtain ⟨i0, hi, hz0, hz1, hz2⟩ := info_parts infoS
 obtain ⟨hown, hg⟩ := hm
 have hsz := hg.size
 refine wpList_append_own _ hgd s x 85 ho w.heap.size 9 i0 (.string ⟨#[]⟩) 1 16 Tryz.underlying85 hi hz0 hz1 hz2 rfl (by decide) v D.length (strs D) hs (hown.alloc _) ⟨wr.heap.size, 0, none⟩ 1 1 [.string y] hx rfl ?_ ?_ ?_ ?_ ?_ ?_
 ·intro j u hj
  match j, hj with
  | 0, hj => simp at hj; subst hj; simp [Addr.add]
 ·intro u hu
  simp at hu
  subst hu
  rfl
 ·unfold maxLen
  omega
 ·omega
 ·simp
  omega
 ·intro v' w1 hown' hgrow _
  refine h v' w1 ⟨?_, ⟨hgrow.os.trans hg.os, hgrow.tape.trans hg.tape, hgrow.output.trans hg.output, ?_, fun k hk _ => ?_⟩⟩
  ·have e1 : (D ++ [y]).length = D.length + 1 := by simp
   have e2 : strs (D ++ [y]) = strs D ++ [.string y] := by simp [strs]
   rw [e1, e2]
   exact hown'
  ·have h1 := hgrow.size
   simp at h1
   omega
  ·rw [hgrow.block k (by simp; omega) (fun e => by have := (hown.lt k e.symm).1; omega), Below.heap_alloc _ _ _ (by omega)]
   exact hg.block k hk (fun e => by cases e)

def MidS (s : ByteArray) (k f : Nat) (D : List ByteArray) : Prop := D.map bytes = (scan ([], []) ((bytes s).take k)).1 ∧ ((bytes s).take k).drop f = (scan ([], []) ((bytes s).take k)).2 ∧ f ≤ k ∧ D.length ≤ k
theorem midS_blank {s : ByteArray} {k f : Nat} {D : List ByteArray} (h : MidS s k f D) (hk : k < s.size) (hb : s[k] = 32) : MidS s (k + 1) (k + 1) (D ++ [s.extract f k]) := by
 obtain ⟨h1, h2, h3, h4⟩ := h
 have e : scan ([], []) ((bytes s).take (k + 1)) = ((scan ([], []) ((bytes s).take k)).1 ++ [(scan ([], []) ((bytes s).take k)).2], []) := by
  rw [bytes_take s k hk, scan_append, hb]
  rfl
 refine ⟨?_, ?_, Nat.le_refl _, by simp; omega⟩
 ·rw [e, List.map_append, h1, List.map_cons, List.map_nil, bytes_extract, h2]
 ·rw [e]
  exact List.drop_eq_nil_of_le (by rw [List.length_take]; omega)
theorem midS_other {s : ByteArray} {k f : Nat} {D : List ByteArray} (h : MidS s k f D) (hk : k < s.size) (hb : ¬ s[k] = 32) : MidS s (k + 1) f D := by
 obtain ⟨h1, h2, h3, h4⟩ := h
 have e : scan ([], []) ((bytes s).take (k + 1)) = ((scan ([], []) ((bytes s).take k)).1, (scan ([], []) ((bytes s).take k)).2 ++ [s[k]]) := by
  rw [bytes_take s k hk, scan_append]
  show (if s[k] = 32 then _ else _) = _
  rw [if_neg hb]
 refine ⟨by rw [e]; exact h1, ?_, by omega, by omega⟩
 rw [e, bytes_take s k hk, List.drop_append_of_le_length (by rw [List.length_take, bytes_len]; omega), h2]
theorem midS_end {s : ByteArray} {k f : Nat} {D : List ByteArray} (h : MidS s k f D) (hk : ¬ k < s.size) : (D ++ [s.extract f s.size]).map bytes = words (bytes s) ∧ (D ++ [s.extract f s.size]).length ≤ k + 1 := by
 obtain ⟨h1, h2, h3, h4⟩ := h
 have e : (bytes s).take k = bytes s := List.take_of_length_le (by rw [bytes_len]; omega)
 rw [e] at h1 h2
 refine ⟨?_, by simp; omega⟩
 unfold words
 rw [List.map_append, h1, List.map_cons, List.map_nil, bytes_extract, List.take_of_length_le (by rw [bytes_len]; exact Nat.le_refl _), h2]
theorem byte32 (c : UInt8) : ((c.toNat : Int) == 32) = decide (c = 32) := by
 rw [Bool.eq_iff_iff, beq_iff_eq, decide_eq_true_iff]
 constructor
 ·intro h
  apply UInt8.toNat_inj.1
  show c.toNat = 32
  omega
 ·intro h
  rw [h]
  rfl

set_option maxHeartbeats 800000 in
set_option maxRecDepth 100000 in
theorem l01Words (s : ByteArray) (w : World) (hmax : s.size ≤ 1048576) :
  Calls Tryz.prog 93 #[.string s] w fun e w' => ∃ u D, e = .returned u ∧ MadeS w w' u D ∧ D.map bytes = words (bytes s) ∧ D.length ≤ 1048577 := by
 have START : MadeS w (w.alloc (.cells #[] 9)) (.slice (some ⟨w.heap.size, 0, none⟩) 0 0) [] :=
  ⟨World.ownsRow_lit w #[] 0 (Nat.le_refl _) (Nat.zero_le _) rfl, World.grownBy_alloc _ _ _⟩
 go_enter Tryz.func93, Tryz.ntmps93
 go_wp2
 go_loopw [3, 4, 5] (fun u f i wr => ∃ (k q : Nat) (D : List ByteArray), k ≤ s.size ∧ i = .int .i64 k ∧ f = .int .i64 q ∧ q ≤ k ∧ D.length ≤ k ∧ MidS s k q D ∧ MadeS w wr u D) (fun _ _ i _ => s.size - (intOf i).toNat)
 case atStart => exact ⟨0, 0, [], Nat.zero_le _, rfl, rfl, Nat.le_refl _, Nat.le_refl _, ⟨rfl, rfl, Nat.le_refl _, Nat.le_refl _⟩, START⟩
 case round =>
  obtain ⟨k, q, D, hk, rfl, rfl, hqk, hDk, hm, hmade⟩ := hrel
  clear START
  by_cases hlt : k < s.size
  ·have hi' : (k : Int) < (s.size : Int) := by omega
   have hb := byte32 s[k]
   by_cases h32 : s[k] = 32
   ·rw [decide_eq_true h32] at hb
    have M := midS_blank hm hlt h32
    clear hm h32
    go_wp2_with (at_builtin; refine appendS hmade (by omega) rfl _ _ rfl rfl rfl ?_)
    intro v' w1 R
    clear hmade
    go_wp2
    go_roundw
    case rel => exact ⟨k + 1, k + 1, _, by omega, by go_num, by go_num, Nat.le_refl _, by simp; omega, M, R⟩
    case measure => simp [intOf]; omega
   ·rw [decide_eq_false h32] at hb
    have M := midS_other hm hlt h32
    clear hm h32
    go_wp2
    go_roundw
    case rel => exact ⟨k + 1, q, D, by omega, by go_num, rfl, by omega, by omega, M, hmade⟩
    case measure => simp [intOf]; omega
  ·have hi' : ¬ (k : Int) < (s.size : Int) := by omega
   have E := midS_end hm hlt
   have hkk : k ≤ 1048576 := by omega
   clear hm
   go_wp2_with (at_builtin; refine appendS hmade (by omega) rfl _ _ rfl rfl rfl ?_)
   intro v' w1 R
   clear hmade
   go_wp2
   go_ret
   exact ⟨_, _, rfl, R, E.1, by have := E.2; omega⟩
end Go.Proofs.YtcgiphcfjhbonaaGreatDoor.rd
namespace Go.Proofs.YtcgiphcfjhbonaaGreatDoor.mn
open sl (grown_trans)
open wo (Made)
open cls (okAll)
theorem own_mono {w : World} {base base' : Nat} {e : TypeId} {v : Value} {n : Nat} {xs : List Value} (h : w.ownsRow base e 1 v n xs) (hb : base' ≤ base) : w.ownsRow base' e 1 v n xs := by
 obtain ⟨h1, h2⟩ := h
 refine ⟨h1, ?_⟩
 rcases h2 with h2 | ⟨g, cap, cur, e1, hg, r⟩
 ·exact .inl h2
 ·exact .inr ⟨g, cap, cur, e1, Nat.le_trans hb hg, r⟩
theorem made_trans {w w1 w2 : World} {u : Value} {M : List Int} (h : Made w1 w2 u M) (g : w.grownBy w1 none) : Made w w2 u M :=
 ⟨own_mono h.1 g.size, grown_trans g h.2⟩
theorem made_nil (w : World) : Made w (w.alloc (.cells #[] 3)) (.slice (some ⟨w.heap.size, 0, none⟩) 0 0) [] :=
 ⟨World.ownsRow_lit w #[] 0 (Nat.le_refl _) (Nat.zero_le _) rfl, World.grownBy_alloc _ _ _⟩
theorem okAll_len {L : List Int} (h : okAll L = true) : L.length ≤ 48 := by
 unfold okAll at h
 rw [Bool.and_eq_true, decide_eq_true_iff] at h
 exact h.2
end Go.Proofs.YtcgiphcfjhbonaaGreatDoor.mn
namespace Go.Proofs.YtcgiphcfjhbonaaGreatDoor.rd
open Go.ChangeShapes Go.WideShapes Go.ChangeAt Go.RowKit
open lits (okB okB_iff okB_yes)
open dec (str)
open txt (Pow)
open wo (Made)
open mn (made_nil made_trans)
open sl (hide unhide grown_refl grown_trans of_below below_of ints)
set_option linter.unusedVariables false

structure Env (w : World) : Prop where
 pow : Pow w
 size : 8 < w.heap.size ∧ 7 < w.heap.size ∧ 5 < w.heap.size
 synt : ∃ tp p, w.var? Tryz.prog "strconv.ErrSyntax" = some #[.iface tp p]
 rang : ∃ tp p, w.var? Tryz.prog "strconv.ErrRange" = some #[.iface tp p]
 most : ∃ m, w.cell? ⟨5, 0, none⟩ = some (.int .i64 m)
theorem gSynt : Tryz.prog.globalNamed "strconv.ErrSyntax" = some 7 := by kernel_rfl
theorem gRang : Tryz.prog.globalNamed "strconv.ErrRange" = some 8 := by kernel_rfl
theorem Env.below {w w' : World} (h : Env w) (b : Below w.heap.size w w') : Env w' := by
 have hz := h.size
 have hbz := b.size
 refine ⟨h.pow.below b, ⟨by omega, by omega, by omega⟩, ?_, ?_, ?_⟩
 ·obtain ⟨tp, p, hv⟩ := h.synt
  exact ⟨tp, p, var?_below b gSynt (by omega) hv⟩
 ·obtain ⟨tp, p, hv⟩ := h.rang
  exact ⟨tp, p, var?_below b gRang (by omega) hv⟩
 ·obtain ⟨m, hm⟩ := h.most
  exact ⟨m, (b.cell (p := ⟨5, 0, none⟩) (by show 5 < w.heap.size; omega)).trans hm⟩
theorem Env.kept {w w' : World} (h : Env w) (g : w.grownBy w' none) : Env w' := h.below (below_of g)

theorem grown_bytes (w : World) (e : TypeId) (t : ByteArray) : w.grownBy (Lib.bytesWorld w e t) none := of_below (Joins.below_bytesWorld w.heap.size w e t (Nat.le_refl _))

theorem atoiOk (s : ByteArray) (v : Int) (w : World) (hs : s.size ≤ 1048576) (h : Lib.atoiAll (bytes s) = .ok v) :
  Calls Tryz.prog 141 #[.string s] w fun e w' => e = .returned (.tuple #[.int .i64 v, .nilIface]) ∧ w.grownBy w' none := by
 refine (Tryz.strconv_Atoi_ok s (by omega) v h w).mono ?_
 rintro e w' ⟨rfl, hw⟩
 refine ⟨rfl, ?_⟩
 rcases hw with rfl | ⟨t, rfl⟩
 ·exact grown_refl _
 ·exact grown_bytes w _ t
theorem atoiBad (s : ByteArray) (w : World) (hE : Env w) (hs : s.size ≤ 1048576) (h : ∀ v, Lib.atoiAll (bytes s) ≠ .ok v) :
  Calls Tryz.prog 141 #[.string s] w fun e w' => ∃ (n : Int) (N : Nat), e = .returned (.tuple #[.int .i64 n, .iface 233 (.pointer (some ⟨N, 0, none⟩))]) ∧ w.grownBy w' none := by
 obtain ⟨tp, p, hv⟩ := hE.synt
 obtain ⟨tq, q, hq⟩ := hE.rang
 cases hx : Lib.atoiAll s.data.toList
 ·exact absurd hx (h _)
 ·exact Calls.mono (Any.strconv_Atoi_syntax_var Tryz.laysC172 s (by omega) hx tp p w hv) (fun e w' ⟨N, he, _, _, hb⟩ => ⟨_, N, he, of_below hb⟩)
 ·exact Calls.mono (Any.strconv_Atoi_range_var Tryz.laysC172 s (by omega) hx tq q w hq) (fun e w' ⟨N, he, _, _, hb⟩ => ⟨_, N, he, of_below hb⟩)

theorem lit_bad {s : List UInt8} (h : ∀ v, Lib.atoiAll s ≠ .ok v) : lit s = none := by
 unfold lit
 split
 ·exact absurd ‹_› (h _)
 ·rfl
theorem lit_ok {s : List UInt8} {v : Int} (h : Lib.atoiAll s = .ok v) : lit s = if okB v && decide (Lib.itoa v = s) then some v else none := by
 unfold lit
 rw [h]

set_option maxHeartbeats 800000 in
theorem readLit (s : ByteArray) (w : World) (hE : Env w) (hs : s.size ≤ 1048576) :
  Calls Tryz.prog 91 #[.string s] w fun e w' => e = .returned (.tuple #[.int .i8 ((lit (bytes s)).getD 0), .bool (lit (bytes s)).isSome]) ∧ w.grownBy w' none := by
 by_cases hok : ∃ v, Lib.atoiAll (bytes s) = .ok v
 ·obtain ⟨v, hv⟩ := hok
  have C1 := hide (atoiOk s v w hs hv)
  have hl := lit_ok hv
  clear hv
  cases hlit : okB v
  ·rw [hlit] at hl
   have E : Hid (lit (bytes s) = none) := hl
   have C2 := hide (fun w => lits.litOf_no v w (fun h => by rw [okB_yes h] at hlit; cases hlit))
   clear hl hlit hE
   go_enter Tryz.func91, Tryz.ntmps91
   go_wp2_with fail
   refine (unhide C1).mono ?_; rintro e w1 ⟨rfl, g1⟩
   have G1 := hide g1
   clear g1
   go_wp2_with fail
   refine (unhide C2 w1).mono ?_; rintro e w2 ⟨rfl, hw⟩; have hw' := hw.symm; clear hw; subst hw'
   go_wp2_with fail
   go_ret2
   exact ⟨by rw [unhide E]; rfl, unhide G1⟩
  ·rw [hlit] at hl
   have a := okB_iff.1 hlit
   have C2 := hide (fun w => lits.litOf_yes v w a)
   have C3 := hide (fun w h => txt.litText v w a.2 h)
   obtain ⟨_, v0, v1⟩ := a
   by_cases hi : Lib.itoa v = bytes s
   ·have E : Hid (lit (bytes s) = some v) := by rw [decide_eq_true hi] at hl; exact hl
    have hq : (Lib.itoa v == s.toList) = true := by rw [toList_bytes, hi]; simp
    have HE := hide hE
    clear hl hlit hE hi
    generalize Lib.itoa v = q at *
    go_enter Tryz.func91, Tryz.ntmps91
    go_wp2_with fail
    refine (unhide C1).mono ?_; rintro e w1 ⟨rfl, g1⟩
    have G1 := hide g1
    clear g1
    go_wp2_with fail
    refine (unhide C2 w1).mono ?_; rintro e w2 ⟨rfl, hw⟩; have hw' := hw.symm; clear hw; subst hw'
    go_wp2_with fail
    refine (unhide C3 w1 ((unhide HE).kept (unhide G1)).pow).mono ?_; rintro e w3 ⟨rfl, g3⟩
    have G3 := hide (grown_trans (r := none) (unhide G1) g3)
    clear g3
    unfold str
    go_wp2_with fail
    go_ret2
    exact ⟨by rw [unhide E]; rfl, unhide G3⟩
   ·have E : Hid (lit (bytes s) = none) := by rw [decide_eq_false hi] at hl; exact hl
    have hq : (Lib.itoa v == s.toList) = false := by rw [toList_bytes]; simpa using hi
    have HE := hide hE
    clear hl hlit hE hi
    generalize Lib.itoa v = q at *
    go_enter Tryz.func91, Tryz.ntmps91
    go_wp2_with fail
    refine (unhide C1).mono ?_; rintro e w1 ⟨rfl, g1⟩
    have G1 := hide g1
    clear g1
    go_wp2_with fail
    refine (unhide C2 w1).mono ?_; rintro e w2 ⟨rfl, hw⟩; have hw' := hw.symm; clear hw; subst hw'
    go_wp2_with fail
    refine (unhide C3 w1 ((unhide HE).kept (unhide G1)).pow).mono ?_; rintro e w3 ⟨rfl, g3⟩
    have G3 := hide (grown_trans (r := none) (unhide G1) g3)
    clear g3
    unfold str
    go_wp2_with fail
    go_ret2
    exact ⟨by rw [unhide E]; rfl, unhide G3⟩
 ·have hno : ∀ v, Lib.atoiAll (bytes s) ≠ .ok v := fun v h => hok ⟨v, h⟩
  have C1 := hide (atoiBad s w hE hs hno)
  have E := hide (lit_bad hno)
  clear hno hok hE
  go_enter Tryz.func91, Tryz.ntmps91
  go_wp2_with fail
  refine (unhide C1).mono ?_; rintro e w1 ⟨n, N, rfl, g1⟩
  have G1 := hide g1
  clear g1
  go_wp2_with fail
  go_ret2
  exact ⟨by rw [unhide E]; rfl, unhide G1⟩

def strLen : Value → Nat
 | .string t => t.size
 | _ => 0
theorem clause_end {n : Nat} {s : List UInt8} (h : s = [48]) : clause n s = some [] := by
 cases n <;> (unfold clause; rw [if_pos h])
theorem clause_zero {s : List UInt8} (h : ¬ s = [48]) : clause 0 s = none := by unfold clause; rw [if_neg h]
theorem clause_uncut {n : Nat} {s : List UInt8} (h : ¬ s = [48]) (hc : (cutW s).2.2 = false) : clause n s = none := by
 cases n with
 | zero => exact clause_zero h
 | succ n => unfold clause; rw [if_neg h, hc]; rfl
theorem clause_nolit {n : Nat} {s : List UInt8} (h : ¬ s = [48]) (hl : lit (cutW s).1 = none) : clause n s = none := by
 cases n with
 | zero => exact clause_zero h
 | succ n => unfold clause; rw [if_neg h, hl]; simp
theorem clause_more {n : Nat} {s : List UInt8} {x : Int} (h : ¬ s = [48]) (hc : (cutW s).2.2 = true) (hl : lit (cutW s).1 = some x) : clause (n + 1) s = (clause n (cutW s).2.1).map (x :: ·) := by
 conv => lhs; unfold clause
 rw [if_neg h, hc, hl]
 rfl
def LeftC (s t : List UInt8) (M : List Int) : Prop := read s = (clause (48 - M.length) t).map (M ++ ·)
theorem leftC_start (s : List UInt8) : LeftC s s [] := by
 unfold LeftC read
 cases clause 48 s <;> rfl
theorem leftC_end {s t : List UInt8} {M : List Int} (h : LeftC s t M) (ht : t = [48]) : readL s = M ∧ readB s = true := by
 unfold LeftC at h
 rw [clause_end ht] at h
 unfold readL readB
 rw [h]
 simp
theorem leftC_none {s t : List UInt8} {M : List Int} (h : LeftC s t M) (hn : clause (48 - M.length) t = none) : readL s = [] ∧ readB s = false := by
 unfold LeftC at h
 rw [hn] at h
 unfold readL readB
 rw [h]
 exact ⟨rfl, rfl⟩
theorem leftC_more {s t : List UInt8} {M : List Int} {x : Int} (h : LeftC s t M) (hM : M.length < 48) (h0 : ¬ t = [48]) (hc : (cutW t).2.2 = true) (hl : lit (cutW t).1 = some x) : LeftC s (cutW t).2.1 (M ++ [x]) := by
 unfold LeftC at *
 rw [h, show 48 - M.length = (48 - (M ++ [x]).length) + 1 from by simp; omega, clause_more h0 hc hl, Option.map_map]
 congr 1
 funext l
 simp
theorem cut_len (s : List UInt8) : (cutW s).1.length ≤ s.length := by
 rcases cut_spec s with ⟨b, t, e, hb, hi⟩ | ⟨_, hi⟩
 ·rw [e, cut_word t hb]
  simp
 ·unfold cutW Lib.cut
  rw [hi]
  simp
theorem is48 (t : ByteArray) : (t.toList == [48]) = decide (bytes t = [48]) := by
 rw [Bool.eq_iff_iff, beq_iff_eq, decide_eq_true_iff, toList_bytes]
theorem bytes_mk (l : List UInt8) : bytes ⟨l.toArray⟩ = l := rfl
theorem size_mk (l : List UInt8) : (⟨l.toArray⟩ : ByteArray).size = l.length := by rw [← bytes_len, bytes_mk]
theorem cutC (t : ByteArray) (w : World) (hE : Env w) (ht : t.size ≤ 1048576) (wd rs : List UInt8) (fd : Bool) (hc : cutW (bytes t) = (wd, rs, fd)) :
  Calls Tryz.prog 43 #[.string t, .string ⟨#[32]⟩] w fun e w' => e = .returned (.tuple #[.string ⟨wd.toArray⟩, .string ⟨rs.toArray⟩, .bool fd]) ∧ w.grownBy w' none := by
 obtain ⟨m, hm⟩ := hE.most
 refine (Tryz.strings_Cut t ⟨#[32]⟩ m w (by omega) hm).mono ?_
 rintro e w' ⟨rfl, n, rfl⟩
 have e1 : Lib.cut t.data.toList (⟨#[32]⟩ : ByteArray).data.toList = (wd, rs, fd) := hc
 rw [e1]
 exact ⟨rfl, sl.grown_drewN w n⟩

set_option maxHeartbeats 1600000 in
theorem implReadClause (s : ByteArray) (w : World) (hE : Env w) (hs : s.size ≤ 1048576) :
  Calls Tryz.prog 44 #[.string s] w fun e w' => ∃ u, e = .returned (.tuple #[u, .bool (readB (bytes s))]) ∧ Made w w' u (readL (bytes s)) := by
 have HE := hide hE
 clear hE
 have START := made_nil w
 go_enter Tryz.func44, Tryz.ntmps44
 go_wp2
 go_loopw [0, 4] (fun sv c wr => ∃ (t : ByteArray) (M : List Int), sv = .string t ∧ t.size ≤ s.size ∧ M.length ≤ 48 ∧ LeftC (bytes s) (bytes t) M ∧ Made w wr c M) (fun sv _ _ => strLen sv)
 case atStart => exact ⟨s, [], rfl, Nat.le_refl _, Nat.zero_le _, leftC_start _, START⟩
 case round =>
  obtain ⟨t, M, rfl, hts, hM, hleft, hmade⟩ := hrel
  clear START
  obtain ⟨a, cap, rfl, _⟩ := sl.Sl.of_own hmade.1
  have h48 := is48 t
  by_cases h0 : bytes t = [48]
  ·rw [decide_eq_true h0] at h48
   have E := leftC_end hleft h0
   clear hleft h0
   go_wp2
   go_ret2
   exact ⟨_, by rw [E.2]; rfl, by rw [E.1]; exact hmade⟩
  ·rw [decide_eq_false h0] at h48
   obtain ⟨wd, rs, fd, hc⟩ : ∃ wd rs fd, cutW (bytes t) = (wd, rs, fd) := ⟨_, _, _, rfl⟩
   have CC := hide (cutC t wr ((unhide HE).kept hmade.2) (by omega) wd rs fd hc)
   have hwd : wd.length ≤ 1048576 := by
    have h1 : wd.length ≤ (bytes t).length := by
     have := cut_len (bytes t)
     rw [hc] at this
     exact this
    rw [bytes_len] at h1
    omega
   have CL := hide (fun w1 (g : wr.grownBy w1 none) => readLit ⟨wd.toArray⟩ w1 (((unhide HE).kept hmade.2).kept g) (by rw [size_mk]; exact hwd))
   rw [bytes_mk] at CL
   cases hfd : fd
   ·have E := leftC_none hleft (clause_uncut h0 (by rw [hc, hfd]))
    subst hfd
    obtain ⟨lv, hlv⟩ : ∃ lv, lit wd = lv := ⟨_, rfl⟩
    have LT := hide hlv
    clear hlv hleft h0 hc hwd
    go_wp2_with fail
    refine (unhide CC).mono ?_; rintro e w1 ⟨rfl, g1⟩
    have G1 := hide g1
    clear g1
    go_wp2_with fail
    refine (unhide CL w1 (unhide G1)).mono ?_; rintro e w2 ⟨rfl, g2⟩
    have G2 := hide (grown_trans (r := none) hmade.2 (grown_trans (r := none) (unhide G1) g2))
    clear g2 CC CL
    rw [unhide LT]
    go_wp2_with fail
    go_ret2
    exact ⟨_, by rw [E.2]; rfl, by rw [E.1]; exact made_trans (made_nil _) (unhide G2)⟩
   ·subst hfd
    cases hlv : lit wd with
    | none =>
     have E := leftC_none hleft (clause_nolit h0 (by rw [hc]; exact hlv))
     have LT := hide hlv
     clear hlv hleft h0 hc hwd
     go_wp2_with fail
     refine (unhide CC).mono ?_; rintro e w1 ⟨rfl, g1⟩
     have G1 := hide g1
     clear g1
     go_wp2_with fail
     refine (unhide CL w1 (unhide G1)).mono ?_; rintro e w2 ⟨rfl, g2⟩
     have G2 := hide (grown_trans (r := none) hmade.2 (grown_trans (r := none) (unhide G1) g2))
     clear g2 CC CL
     rw [unhide LT]
     go_wp2_with fail
     go_ret2
     exact ⟨_, by rw [E.2]; rfl, by rw [E.1]; exact made_trans (made_nil _) (unhide G2)⟩
    | some x =>
     have hx := okB_iff.1 (lit_sound hlv).1
     obtain ⟨_, x0, x1⟩ := hx
     by_cases hm48 : M.length = 48
     ·have E := leftC_none hleft (by rw [hm48]; exact clause_zero h0)
      have LT := hide hlv
      have hl : (((M.length : Nat) : Int) == 48) = true := by rw [beq_iff_eq]; omega
      clear hlv hleft h0 hc hwd
      go_wp2_with fail
      refine (unhide CC).mono ?_; rintro e w1 ⟨rfl, g1⟩
      have G1 := hide g1
      clear g1
      go_wp2_with fail
      refine (unhide CL w1 (unhide G1)).mono ?_; rintro e w2 ⟨rfl, g2⟩
      have G2 := hide (grown_trans (r := none) hmade.2 (grown_trans (r := none) (unhide G1) g2))
      clear g2 CC CL
      rw [unhide LT]
      go_wp2_with fail
      go_ret2
      exact ⟨_, by rw [E.2]; rfl, by rw [E.1]; exact made_trans (made_nil _) (unhide G2)⟩
     ·have L := leftC_more hleft (by omega) h0 (by rw [hc]) (by rw [hc]; exact hlv)
      have cs := cut_sound (s := bytes t) (by rw [hc])
      rw [hc] at L cs
      have LT := hide hlv
      have HC := hide cs.2
      have hl : (((M.length : Nat) : Int) == 48) = false := by rw [beq_eq_false_iff_ne]; omega
      clear hlv hleft h0 hc hwd cs
      go_wp2_with fail
      refine (unhide CC).mono ?_; rintro e w1 ⟨rfl, g1⟩
      have G1 := hide g1
      clear g1
      go_wp2_with fail
      refine (unhide CL w1 (unhide G1)).mono ?_; rintro e w2 ⟨rfl, g2⟩
      have g02 := grown_trans (r := none) (unhide G1) g2
      have hm2 : Made w w2 (.slice a M.length cap) M := ⟨(sl.Own.kept (sl.Own.of hmade.1) g02).1, grown_trans (r := none) hmade.2 g02⟩
      clear g2 g02 G1 CC CL hmade
      rw [unhide LT]
      go_wp2_with (at_builtin; refine wo.append1 hm2.2 hm2.1 (by omega) rfl _ _ rfl rfl rfl ?_)
      intro v' w3 R
      clear hm2
      go_wp2
      go_roundw
      case rel => exact ⟨⟨rs.toArray⟩, M ++ [x], rfl, by rw [size_mk]; have := unhide HC; rw [bytes_len] at this; omega, by simp; omega, L, R⟩
      case measure =>
       show (⟨rs.toArray⟩ : ByteArray).size < t.size
       rw [size_mk]
       have := unhide HC
       rw [bytes_len] at this
       exact this
end Go.Proofs.YtcgiphcfjhbonaaGreatDoor.rd
namespace Go.Proofs.YtcgiphcfjhbonaaGreatDoor.rd
set_option linter.unusedVariables false
theorem scan_len (B : Nat) (l : List UInt8) (st : List (List UInt8) × List UInt8) (h1 : ∀ x ∈ st.1, x.length ≤ B) (h2 : st.2.length + l.length ≤ B) : (∀ x ∈ (scan st l).1, x.length ≤ B) ∧ (scan st l).2.length ≤ B := by
 induction l generalizing st with
 | nil => exact ⟨h1, by show st.2.length ≤ B; simpa using h2⟩
 | cons c l ih =>
  have e : scan st (c :: l) = scan (if c = 32 then (st.1 ++ [st.2], []) else (st.1, st.2 ++ [c])) l := rfl
  rw [e]
  rw [List.length_cons] at h2
  split
  ·refine ih _ ?_ (by simp; omega)
   intro x hx
   rcases List.mem_append.1 hx with hx | hx
   ·exact h1 x hx
   ·rw [List.mem_singleton] at hx
    rw [hx]
    omega
  ·exact ih _ h1 (by simp; omega)
theorem words_len (l : List UInt8) : ∀ x ∈ words l, x.length ≤ l.length := by
 have h := scan_len l.length l ([], []) (by simp) (by simp)
 intro x hx
 unfold words at hx
 rcases List.mem_append.1 hx with hx | hx
 ·exact h.1 x hx
 ·rw [List.mem_singleton] at hx
  rw [hx]
  exact h.2
theorem words_pos (l : List UInt8) : 1 ≤ (words l).length := by unfold words; simp
end Go.Proofs.YtcgiphcfjhbonaaGreatDoor.rd
namespace Go.Proofs.YtcgiphcfjhbonaaGreatDoor.ln
open rd (words scan)
set_option linter.unusedVariables false
theorem scan_front (d : List (List UInt8)) (p l : List UInt8) : scan (d, p) l = (d ++ (scan ([], p) l).1, (scan ([], p) l).2) := by
 induction l generalizing d p with
 | nil => simp [scan]
 | cons c l ih =>
  by_cases h : c = 32
  ·have e : ∀ d, scan (d, p) (c :: l) = scan (d ++ [p], []) l := fun d => by
    show scan (if c = 32 then _ else _) l = _
    rw [if_pos h]
   rw [e, e, ih, List.nil_append, ih [p]]
   simp
  ·have e : ∀ d, scan (d, p) (c :: l) = scan (d, p ++ [c]) l := fun d => by
    show scan (if c = 32 then _ else _) l = _
    rw [if_neg h]
   rw [e, e, ih]
theorem words_plain {s : List UInt8} (h : (32 : UInt8) ∉ s) : words s = [s] := by
 unfold words
 rw [rd.scan_plain _ _ h]
 rfl
theorem words_cons {a : List UInt8} (r : List UInt8) (h : (32 : UInt8) ∉ a) : words (a ++ 32 :: r) = a :: words r := by
 unfold words
 rw [rd.scan_word _ _ _ h, scan_front]
 simp
theorem split_words (s : List UInt8) : Lib.splitK [32] 0 (Lib.count s [32]) s = words s := by
 generalize hn : s.length = n
 induction n using Nat.strongRecOn generalizing s with
 | _ n ih =>
  rcases rd.cut_spec s with ⟨a, r, e, ha, hi⟩ | ⟨h, hi⟩
  ·have hd1 : s.drop (a.length + 1) = r := by rw [e]; simp
   have ht : s.take (a.length + 0) = a := by rw [e]; simp
   rw [Lib.count_hit (by decide) hi]
   show Lib.splitK [32] 0 (1 + Lib.count (s.drop (a.length + 1)) [32]) s = _
   rw [hd1, Nat.add_comm, Lib.splitK, hi, if_neg (by rw [beq_iff_eq]; omega)]
   show s.take (a.length + 0) :: Lib.splitK [32] 0 _ (s.drop (a.length + 1)) = _
   rw [hd1, ht, ih r.length (by rw [← hn, e]; simp; omega) r rfl, e, words_cons r ha]
  ·rw [Lib.count_miss hi, words_plain h]
   rfl
def pieces (s : ByteArray) : List ByteArray := Lib.splitB ⟨#[32]⟩ 0 (Lib.countB s ⟨#[32]⟩) s
theorem pieces_words (s : ByteArray) : (pieces s).map rd.bytes = words (rd.bytes s) := (Lib.splitB_data ⟨#[32]⟩ 0 _ s).trans (split_words _)
/-! ### cutting at the first newline -/
def cutL (s : List UInt8) : List UInt8 × List UInt8 × Bool := Lib.cut s [10]
theorem index_cons (b : UInt8) (l : List UInt8) : Lib.index (b :: l) [10] = if b = 10 then 0 else if Lib.index l [10] = -1 then -1 else Lib.index l [10] + 1 := by
 conv => lhs; unfold Lib.index
 by_cases h : b = 10
 ·rw [if_pos (by simp [h]), if_pos h]
 ·rw [if_neg (by simp; exact fun e => h e.symm), if_neg h]
  simp [beq_iff_eq]
theorem cut_spec (s : List UInt8) : (∃ a r, s = a ++ 10 :: r ∧ (10 : UInt8) ∉ a ∧ Lib.index s [10] = (a.length : Int)) ∨ ((10 : UInt8) ∉ s ∧ Lib.index s [10] = -1) := by
 induction s with
 | nil => exact .inr ⟨by simp, by simp [Lib.index]⟩
 | cons b l ih =>
  rw [index_cons]
  by_cases h : b = 10
  ·exact .inl ⟨[], l, by simp [h], by simp, by simp [h]⟩
  ·rw [if_neg h]
   rcases ih with ⟨a, r, e, ha, hi⟩ | ⟨ha, hi⟩
   ·refine .inl ⟨b :: a, r, by simp [e], ?_, ?_⟩
    ·rw [List.mem_cons, not_or]
     exact ⟨fun e => h e.symm, ha⟩
    ·rw [hi, if_neg (by omega)]
     simp
   ·refine .inr ⟨?_, by rw [hi]; rfl⟩
    rw [List.mem_cons, not_or]
    exact ⟨fun e => h e.symm, ha⟩
end Go.Proofs.YtcgiphcfjhbonaaGreatDoor.ln
namespace Go.Proofs.YtcgiphcfjhbonaaGreatDoor.ln
open rd (bytes_len bytes_take bytes_extract words scan num)
open cx (hd)
set_option linter.unusedVariables false

/-! ### lines -/
def lscan (st : List (List UInt8) × List UInt8) (l : List UInt8) : List (List UInt8) × List UInt8 :=
 l.foldl (fun st c => if c = 10 then (st.1 ++ [st.2], []) else (st.1, st.2 ++ [c])) st
def linesOf (l : List UInt8) : List (List UInt8) := (lscan ([], []) l).1
theorem lscan_append (st : List (List UInt8) × List UInt8) (a b : List UInt8) : lscan st (a ++ b) = lscan (lscan st a) b := by simp [lscan]
theorem lscan_plain (st : List (List UInt8) × List UInt8) (a : List UInt8) (h : (10 : UInt8) ∉ a) : lscan st a = (st.1, st.2 ++ a) := by
 induction a generalizing st with
 | nil => simp [lscan]
 | cons c a ih =>
  rw [List.mem_cons, not_or] at h
  have e : lscan st (c :: a) = lscan (st.1, st.2 ++ [c]) a := by
   show lscan (if c = 10 then _ else _) a = _
   rw [if_neg (fun e => h.1 e.symm)]
  rw [e, ih _ h.2]
  simp
theorem lscan_front (d : List (List UInt8)) (p l : List UInt8) : lscan (d, p) l = (d ++ (lscan ([], p) l).1, (lscan ([], p) l).2) := by
 induction l generalizing d p with
 | nil => simp [lscan]
 | cons c l ih =>
  by_cases h : c = 10
  ·have e : ∀ d, lscan (d, p) (c :: l) = lscan (d ++ [p], []) l := fun d => by
    show lscan (if c = 10 then _ else _) l = _
    rw [if_pos h]
   rw [e, e, ih, List.nil_append, ih [p]]
   simp
  ·have e : ∀ d, lscan (d, p) (c :: l) = lscan (d, p ++ [c]) l := fun d => by
    show lscan (if c = 10 then _ else _) l = _
    rw [if_neg h]
   rw [e, e, ih]
theorem lines_nil : linesOf [] = [] := rfl
theorem lines_cons {a : List UInt8} (r : List UInt8) (h : (10 : UInt8) ∉ a) : linesOf (a ++ 10 :: r) = a :: linesOf r := by
 unfold linesOf
 rw [lscan_append, lscan_plain _ _ h]
 show (lscan ([] ++ [[] ++ a], []) r).1 = _
 rw [lscan_front]
 simp
def Ends (l : List UInt8) : Prop := l = [] ∨ l.getLast? = some 10
theorem ends_tail {a r : List UInt8} (h : Ends (a ++ 10 :: r)) : Ends r := by
 rcases h with h | h
 ·simp at h
 ·cases r with
  | nil => exact .inl rfl
  | cons c r =>
   refine .inr ?_
   rw [List.getLast?_append, List.getLast?_cons_cons] at h
   cases e : (c :: r).getLast? with
   | none => simp at e
   | some x => rw [e] at h; exact h

theorem cut_line {s : List UInt8} (hs : Ends s) (h0 : s ≠ []) : ∃ a r, cutL s = (a, r, true) ∧ s = a ++ 10 :: r ∧ (10 : UInt8) ∉ a ∧ Ends r ∧ linesOf s = a :: linesOf r ∧ r.length < s.length ∧ a.length < s.length := by
 rcases cut_spec s with ⟨a, r, e, ha, hi⟩ | ⟨h, _⟩
 ·refine ⟨a, r, ?_, e, ha, ends_tail (e ▸ hs), e ▸ lines_cons r ha, by rw [e]; simp; omega, by rw [e]; simp⟩
  unfold cutL Lib.cut
  rw [hi, if_pos (by omega), e]
  simp
 ·rcases hs with hs | hs
  ·exact absurd hs h0
  ·exact absurd (List.mem_of_getLast? hs) h

/-! ### the scan in the middle -/
def MidL (s : ByteArray) (k f : Nat) (D : List ByteArray) : Prop := D.map rd.bytes = (lscan ([], []) ((rd.bytes s).take k)).1 ∧ ((rd.bytes s).take k).drop f = (lscan ([], []) ((rd.bytes s).take k)).2 ∧ f ≤ k ∧ D.length ≤ k
theorem midL_line {s : ByteArray} {k f : Nat} {D : List ByteArray} (h : MidL s k f D) (hk : k < s.size) (hb : s[k] = 10) : MidL s (k + 1) (k + 1) (D ++ [s.extract f k]) := by
 obtain ⟨h1, h2, h3, h4⟩ := h
 have e : lscan ([], []) ((rd.bytes s).take (k + 1)) = ((lscan ([], []) ((rd.bytes s).take k)).1 ++ [(lscan ([], []) ((rd.bytes s).take k)).2], []) := by
  rw [bytes_take s k hk, lscan_append, hb]
  rfl
 refine ⟨?_, ?_, Nat.le_refl _, by simp; omega⟩
 ·rw [e, List.map_append, h1, List.map_cons, List.map_nil, bytes_extract, h2]
 ·rw [e]
  exact List.drop_eq_nil_of_le (by rw [List.length_take]; omega)
theorem midL_other {s : ByteArray} {k f : Nat} {D : List ByteArray} (h : MidL s k f D) (hk : k < s.size) (hb : ¬ s[k] = 10) : MidL s (k + 1) f D := by
 obtain ⟨h1, h2, h3, h4⟩ := h
 have e : lscan ([], []) ((rd.bytes s).take (k + 1)) = ((lscan ([], []) ((rd.bytes s).take k)).1, (lscan ([], []) ((rd.bytes s).take k)).2 ++ [s[k]]) := by
  rw [bytes_take s k hk, lscan_append]
  show (if s[k] = 10 then _ else _) = _
  rw [if_neg hb]
 refine ⟨by rw [e]; exact h1, ?_, by omega, by omega⟩
 rw [e, bytes_take s k hk, List.drop_append_of_le_length (by rw [List.length_take, bytes_len]; omega), h2]
theorem midL_end {s : ByteArray} {k f : Nat} {D : List ByteArray} (h : MidL s k f D) (hk : ¬ k < s.size) : D.map rd.bytes = linesOf (rd.bytes s) := by
 obtain ⟨h1, _⟩ := h
 rw [List.take_of_length_le (by rw [bytes_len]; omega)] at h1
 exact h1

/-! ### passed lines -/
def passed : List UInt8 → Bool
 | [] => true
 | [c] => decide (c = 99)
 | c :: d :: _ => decide (c = 99) && decide (d = 32)

/-! ### the head line -/
def headOf (l : List UInt8) : Option (Int × Int) := match words l with
 | [p, q, a, b] => if p = [112] ∧ q = [99, 110, 102] ∧ (num a).2 = true ∧ (num b).2 = true ∧ (0 ≤ (num a).1 ∧ (num a).1 ≤ 24) ∧ (0 ≤ (num b).1 ∧ (num b).1 ≤ 120) then some ((num a).1, (num b).1) else none
 | _ => none
def joinW : List (List UInt8) → List UInt8
 | [] => []
 | [a] => a
 | a :: b :: r => a ++ 32 :: joinW (b :: r)
theorem joinW_snoc (d : List (List UInt8)) (p : List UInt8) : joinW (d ++ [p]) = d.flatMap (· ++ [32]) ++ p := by
 induction d with
 | nil => simp [joinW]
 | cons a d ih =>
  cases d with
  | nil => simp [joinW]
  | cons b d =>
   rw [List.cons_append, List.cons_append, joinW, ← List.cons_append, ih]
   simp
theorem scan_join (d : List (List UInt8)) (p l : List UInt8) : (scan (d, p) l).1.flatMap (· ++ [32]) ++ (scan (d, p) l).2 = d.flatMap (· ++ [32]) ++ p ++ l := by
 induction l generalizing d p with
 | nil => simp [scan]
 | cons c l ih =>
  by_cases h : c = 32
  ·have e : scan (d, p) (c :: l) = scan (d ++ [p], []) l := by
    show scan (if c = 32 then _ else _) l = _
    rw [if_pos h]
   rw [e, ih, h]
   simp
  ·have e : scan (d, p) (c :: l) = scan (d, p ++ [c]) l := by
    show scan (if c = 32 then _ else _) l = _
    rw [if_neg h]
   rw [e, ih]
   simp
theorem join_words (l : List UInt8) : joinW (words l) = l := by
 unfold words
 rw [joinW_snoc, scan_join]
 simp
theorem num_sound {s : List UInt8} (h : (num s).2 = true) : Lib.itoa (num s).1 = s := by
 unfold num at h ⊢
 split at h
 ·rw [if_pos ‹_›]
  exact of_decide_eq_true h
 ·cases h
theorem words_hd (n c : Int) : words (hd n c) = [[112], [99, 110, 102], Lib.itoa n, Lib.itoa c] := by
 have e : hd n c = [112] ++ 32 :: ([99, 110, 102] ++ 32 :: (Lib.itoa n ++ 32 :: Lib.itoa c)) := by simp [hd]
 unfold words
 rw [e, rd.scan_word _ _ _ (by decide), rd.scan_word _ _ _ (by decide), rd.scan_word _ _ _ (rd.itoa_blank n), rd.scan_plain _ _ (rd.itoa_blank c)]
 simp
theorem head_iff (l : List UInt8) (n c : Int) : headOf l = some (n, c) ↔ l = hd n c ∧ (0 ≤ n ∧ n ≤ 24) ∧ (0 ≤ c ∧ c ≤ 120) := by
 constructor
 ·intro h
  unfold headOf at h
  split at h
  ·rename_i p q a b hw
   split at h
   ·rename_i hc
    obtain ⟨rfl, rfl, ha, hb, hra, hrb⟩ := hc
    have h := Option.some.inj h
    have hn : (num a).1 = n := congrArg Prod.fst h
    have hm : (num b).1 = c := congrArg Prod.snd h
    have ja := num_sound ha
    have jb := num_sound hb
    rw [hn] at ja hra
    rw [hm] at jb hrb
    refine ⟨?_, hra, hrb⟩
    rw [← join_words l, hw, ← ja, ← jb]
    simp [joinW, hd]
   ·cases h
  ·cases h
 ·rintro ⟨rfl, hn, hc⟩
  unfold headOf
  rw [words_hd]
  simp only []
  rw [rd.num_itoa (by omega) (by omega), rd.num_itoa (by omega) (by omega)]
  rw [if_pos ⟨trivial, trivial, rfl, rfl, hn, hc⟩]

/-! ### the machine that both readers run -/
structure Ans where
 n : Int
 cs : List (List Int)
 code : Int
 line : Int
def no (c : Int) (i : Nat) : Ans := ⟨0, [], c, (i : Int) + 1⟩
def fine (n : Int) (l : List UInt8) : Bool := rd.readB l && (rd.readL l).all (ok.litIn n)
def body (n m : Int) : List (List UInt8) → Nat → List (List Int) → Ans
 | [], i, cs => if (cs.length : Int) < m then no 5 i else ⟨n, cs, 0, 0⟩
 | l :: r, i, cs => if passed l then body n m r (i + 1) cs else if fine n l then (if (cs.length : Int) = m then no 4 i else body n m r (i + 1) (cs ++ [rd.readL l])) else no 3 i
def front : List (List UInt8) → Nat → Ans
 | [], i => no 2 i
 | l :: r, i => if passed l then front r (i + 1) else match headOf l with
  | none => no 2 i
  | some (n, m) => body n m r (i + 1) []
def readC (s : List UInt8) : Ans := if 12000 < s.length ∨ (s ≠ [] ∧ s.getLast? ≠ some 10) then ⟨0, [], 1, 0⟩ else front (linesOf s) 0
theorem readC_long {s : List UInt8} (h : 12000 < s.length ∨ (s ≠ [] ∧ s.getLast? ≠ some 10)) : readC s = ⟨0, [], 1, 0⟩ := if_pos h
theorem readC_fit {s : List UInt8} (h : ¬ (12000 < s.length ∨ (s ≠ [] ∧ s.getLast? ≠ some 10))) : readC s = front (linesOf s) 0 ∧ Ends s ∧ s.length ≤ 12000 := by
 refine ⟨if_neg h, ?_, by omega⟩
 by_cases h0 : s = []
 ·exact .inl h0
 ·exact .inr (Classical.byContradiction fun e => h (.inr ⟨h0, e⟩))
end Go.Proofs.YtcgiphcfjhbonaaGreatDoor.ln
namespace Go.Proofs.YtcgiphcfjhbonaaGreatDoor.rq
open Go.ChangeShapes Go.WideShapes Go.ChangeAt Go.RowKit
open sl (ints hide unhide grown_refl grown_trans of_below below_of)
open css (OwnS)
open cls (okAll)
open txt (text)
open cx (lines)
open ln (linesOf cutL lines_cons lines_nil)
open rd (Env readB readL read read_sound read_full read_len)
open ck (Cl)
set_option linter.unusedVariables false
theorem itoa_nl (x : Int) : (10 : UInt8) ∉ Lib.itoa x := by
 unfold Lib.itoa
 split
 ·intro h
  rcases List.mem_cons.1 h with h | h
  ·cases h
  ·have := rd.dec_mem _ _ h
   simp at this
 ·intro h
  have := rd.dec_mem _ _ h
  simp at this
theorem text_nl (L : List Int) : (10 : UInt8) ∉ text L := by
 cases h : okAll L with
 | false => rw [txt.text_no h]; simp
 | true =>
  unfold txt.text
  rw [h]
  show (10 : UInt8) ∉ txt.body L ++ [48]
  rw [List.mem_append, not_or]
  refine ⟨?_, by decide⟩
  induction L with
  | nil => simp [txt.body]
  | cons x l ih =>
   rw [rd.body_cons]
   rw [List.mem_append, List.mem_cons, not_or, not_or]
   refine ⟨itoa_nl x, by decide, ih ?_⟩
   unfold cls.okAll at h ⊢
   simp only [Bool.and_eq_true, decide_eq_true_iff, List.all_cons, List.length_cons] at h ⊢
   exact ⟨h.1.2, by omega⟩
theorem lines_cons' (c : List Int) (M : List (List Int)) : lines (c :: M) = text c ++ 10 :: lines M := by
 unfold cx.lines
 simp
theorem nl_inj {a b r t : List UInt8} (ha : (10 : UInt8) ∉ a) (hb : (10 : UInt8) ∉ b) (h : a ++ 10 :: r = b ++ 10 :: t) : a = b ∧ r = t := by
 induction a generalizing b with
 | nil =>
  cases b with
  | nil => simp at h; exact ⟨rfl, h⟩
  | cons y b =>
   simp at h
   rw [List.mem_cons, not_or] at hb
   exact absurd h.1 hb.1
 | cons x a ih =>
  rw [List.mem_cons, not_or] at ha
  cases b with
  | nil =>
   simp at h
   exact absurd h.1.symm ha.1
  | cons y b =>
   rw [List.mem_cons, not_or] at hb
   simp at h
   have := ih ha.2 hb.2 h.2
   exact ⟨by rw [h.1, this.1], this.2⟩
theorem text_inj {c d : List Int} (hc : okAll c = true) (hd : okAll d = true) (h : text c = text d) : c = d := by
 have h1 := read_full hc
 rw [h, read_full hd] at h1
 exact (Option.some.inj h1).symm
theorem lines_pre : ∀ {LL M : List (List Int)} {t : List UInt8}, LL.all okAll = true → M.all okAll = true → lines M = lines LL ++ t → ∃ M', M = LL ++ M' ∧ lines M' = t := by
 intro LL
 induction LL with
 | nil => intro M t _ _ h; exact ⟨M, rfl, h⟩
 | cons c LL ih =>
  intro M t hL hM h
  rw [List.all_cons, Bool.and_eq_true] at hL
  rw [lines_cons', List.append_assoc, List.cons_append] at h
  cases M with
  | nil =>
   have : lines [] = [] := rfl
   rw [this] at h
   simp at h
  | cons d M =>
   rw [List.all_cons, Bool.and_eq_true] at hM
   rw [lines_cons'] at h
   obtain ⟨h1, h2⟩ := nl_inj (text_nl d) (text_nl c) h
   obtain ⟨M', rfl, h3⟩ := ih hL.2 hM.2 h2
   rw [text_inj hM.1 hL.1 h1]
   exact ⟨M', rfl, h3⟩
def RP (s : List UInt8) (O : Option (List (List Int))) : Prop :=
 (∃ LL, O = some LL ∧ LL.all okAll = true ∧ LL.length ≤ 700 ∧ lines LL = s) ∨ (O = none ∧ ∀ M : List (List Int), M.all okAll = true → M.length ≤ 700 → lines M ≠ s)
theorem RP.one {s : List UInt8} {O P : Option (List (List Int))} (h : RP s O) (k : RP s P) : O = P := by
 rcases h with ⟨A, rfl, a1, a2, a3⟩ | ⟨rfl, a⟩ <;> rcases k with ⟨B, rfl, b1, b2, b3⟩ | ⟨rfl, b⟩
 ·obtain ⟨M, e, hM⟩ := lines_pre (t := []) a1 b1 (by rw [b3, a3, List.append_nil])
  cases M with
  | nil => rw [e, List.append_nil]
  | cons c M => rw [lines_cons'] at hM; simp at hM
 ·exact absurd a3 (b A a1 a2)
 ·exact absurd b3 (a B b1 b2)
 ·rfl
theorem cut_yes {a r : List UInt8} (ha : (10 : UInt8) ∉ a) : cutL (a ++ 10 :: r) = (a, r, true) := by
 rcases ln.cut_spec (a ++ 10 :: r) with ⟨a', r', e, ha', hi⟩ | ⟨h, _⟩
 ·obtain ⟨e1, e2⟩ := nl_inj ha ha' e
  subst e1 e2
  unfold ln.cutL Lib.cut
  rw [hi, if_pos (by omega)]
  simp
 ·exact absurd (by simp) h
theorem cut_len {t wd rs : List UInt8} {fd : Bool} (hc : cutL t = (wd, rs, fd)) : wd.length ≤ t.length := by
 rcases ln.cut_spec t with ⟨a, r, e, ha, hi⟩ | ⟨hn, hi⟩
 ·rw [e, cut_yes ha] at hc
  cases hc
  rw [e]; simp
 ·unfold ln.cutL Lib.cut at hc
  rw [hi] at hc
  simp at hc
  rw [hc.1]
  exact Nat.le_refl _
structure Lft (s t : List UInt8) (LL : List (List Int)) : Prop where
 eq : s = lines LL ++ t
 ok : LL.all okAll = true
 le : LL.length ≤ 700
theorem Lft.none_ {s t : List UInt8} {LL : List (List Int)} {wd rs : List UInt8} {fd : Bool} (h : Lft s t LL) (h0 : t ≠ []) (hc : cutL t = (wd, rs, fd)) (hf : fd = false ∨ readB wd = false ∨ LL.length = 700) : RP s none := by
 refine .inr ⟨rfl, fun M m1 m2 m3 => ?_⟩
 obtain ⟨M', rfl, hM⟩ := lines_pre h.ok m1 (m3.trans h.eq)
 cases M' with
 | nil => exact h0 hM.symm
 | cons c M' =>
  rw [List.all_append, Bool.and_eq_true, List.all_cons, Bool.and_eq_true] at m1
  rw [lines_cons'] at hM
  rw [← hM, cut_yes (text_nl c)] at hc
  cases hc
  rcases hf with q | q | q
  ·cases q
  ·unfold rd.readB at q
   rw [read_full m1.2.1] at q
   cases q
  ·rw [List.length_append, List.length_cons] at m2
   omega
theorem Lft.more {s t : List UInt8} {LL : List (List Int)} {wd rs : List UInt8} (h : Lft s t LL) (hc : cutL t = (wd, rs, true)) (hr : readB wd = true) (hl : LL.length ≠ 700) : Lft s rs (LL ++ [readL wd]) ∧ rs.length < t.length ∧ wd.length ≤ t.length := by
 obtain ⟨L, hL⟩ := Option.isSome_iff_exists.1 (show (read wd).isSome = true from hr)
 have hs := read_sound hL
 have eL : readL wd = L := by unfold rd.readL; rw [hL]; rfl
 have et : t = wd ++ 10 :: rs := by
  rcases ln.cut_spec t with ⟨a, r, e, ha, hi⟩ | ⟨hn, hi⟩
  ·rw [e, cut_yes ha] at hc
   cases hc
   exact e
  ·unfold ln.cutL Lib.cut at hc
   rw [hi] at hc
   simp at hc
 refine ⟨⟨?_, ?_, ?_⟩, by rw [et]; simp; omega, by rw [et]; simp⟩
 ·rw [h.eq, et, eL]
  unfold cx.lines
  simp [hs.2]
 ·rw [List.all_append, h.ok, eL, List.all_cons, hs.1]
  rfl
 ·rw [List.length_append, List.length_singleton]
  have := h.le
  omega
theorem Lft.done {s : List UInt8} {LL : List (List Int)} (h : Lft s [] LL) : RP s (some LL) := .inl ⟨LL, rfl, h.ok, h.le, by rw [h.eq, List.append_nil]⟩
theorem flat_len {LL : List (List Int)} (h : LL.all okAll = true) : LL.flatten.length ≤ 48 * LL.length := by
 induction LL with
 | nil => exact Nat.zero_le _
 | cons c LL ih =>
  rw [List.all_cons, Bool.and_eq_true] at h
  have := ih h.2
  have hc : c.length ≤ 48 := by
   have := h.1
   unfold cls.okAll at this
   simp only [Bool.and_eq_true, decide_eq_true_iff] at this
   exact this.2
  rw [List.flatten_cons, List.length_append, List.length_cons]
  omega
theorem cutN (t : ByteArray) (w : World) (hE : Env w) (ht : t.size ≤ 1048576) (wd rs : List UInt8) (fd : Bool) (hc : cutL (rd.bytes t) = (wd, rs, fd)) :
  Calls Tryz.prog 43 #[.string t, .string ⟨#[10]⟩] w fun e w' => e = .returned (.tuple #[.string ⟨wd.toArray⟩, .string ⟨rs.toArray⟩, .bool fd]) ∧ w.grownBy w' none := by
 obtain ⟨m, hm⟩ := hE.most
 refine (Tryz.strings_Cut t ⟨#[10]⟩ m w (by omega) hm).mono ?_
 rintro e w' ⟨rfl, n, rfl⟩
 have e1 : Lib.cut t.data.toList (⟨#[10]⟩ : ByteArray).data.toList = (wd, rs, fd) := hc
 rw [e1]
 exact ⟨rfl, sl.grown_drewN w n⟩
def ListE (w : World) (O : Option (List (List Int))) (e : Ending) (w' : World) : Prop := ∃ r, e = .returned (.tuple #[r, .bool O.isSome]) ∧ OwnS w.heap.size w'.heap.size w' r (O.getD []) ∧ w.grownBy w' none
set_option maxRecDepth 100000 in
set_option maxHeartbeats 8000000 in
theorem implReadProof (s : ByteArray) (w : World) (hE : Env w) (hs : s.size ≤ 1048576) :
  Calls Tryz.prog 12 #[.string s] w fun e w' => ∃ O, RP (rd.bytes s) O ∧ ListE w O e w' := by
 have HE := hide hE
 have START := hide (Cl.start w)
 have L0 : Hid (Lft (rd.bytes s) (rd.bytes s) []) := ⟨rfl, rfl, Nat.zero_le _⟩
 clear hE
 go_enter Tryz.func12, Tryz.ntmps12
 go_wp2_with fail
 go_loopw [0] (fun sv wr => ∃ (t : ByteArray) (LL : List (List Int)) (va ve : Value), sv = .string t ∧ t.size ≤ 1048576 ∧ Hid (Lft (rd.bytes s) (rd.bytes t) LL) ∧ Hid (Cl 75 [] 0 w wr w.heap.size va ve LL)) (fun sv _ => rd.strLen sv)
 case atStart => exact ⟨s, [], _, _, rfl, hs, L0, START⟩
 case round =>
  obtain ⟨t, LL, va, ve, rfl, ht, hl, hc⟩ := hrel
  clear START L0
  have lf := unhide hl
  have hb0 : (t.toList == []) = decide (rd.bytes t = []) := by rw [Bool.eq_iff_iff, beq_iff_eq, decide_eq_true_iff, rd.toList_bytes]
  have hLle := lf.le
  have hfl := flat_len lf.ok
  by_cases h0 : rd.bytes t = []
  ·rw [decide_eq_true h0] at hb0
   rw [h0] at lf
   have R := hide lf.done
   have CL := hide (ck.lists w.heap.size wr (by omega) (by omega) (unhide hc))
   have G := hide (unhide hc).g
   clear lf h0 hl hc
   go_wp2_with fail
   refine (unhide CL).mono ?_; rintro e w2 ⟨r, rfl, o2, g2⟩
   have O2 := hide (sub_own (unhide G) o2 g2)
   clear o2 g2
   go_wp2_with fail
   go_ret2
   exact ⟨some LL, unhide R, r, rfl, unhide O2⟩
  ·rw [decide_eq_false h0] at hb0
   obtain ⟨wd, rs, fd, hcut⟩ : ∃ wd rs fd, cutL (rd.bytes t) = (wd, rs, fd) := ⟨_, _, _, rfl⟩
   have CU := hide (cutN t wr ((unhide HE).kept (unhide hc).g) ht wd rs fd hcut)
   have NO := hide (fun hf => lf.none_ h0 hcut hf)
   have wdl : wd.length ≤ 1048576 := by
    have := cut_len hcut
    rw [rd.bytes_len] at this
    omega
   have MO : Hid (fd = true → readB wd = true → LL.length ≠ 700 → Lft (rd.bytes s) rs (LL ++ [readL wd]) ∧ rs.length < (rd.bytes t).length) := fun e h1 h2 => by
    have := lf.more (e ▸ hcut) h1 h2
    exact ⟨this.1, this.2.1⟩
   have RC := hide (fun (w2 : World) (g2 : wr.grownBy w2 none) => rd.implReadClause ⟨wd.toArray⟩ w2 ((unhide HE).kept (grown_trans (unhide hc).g g2)) (by rw [rd.size_mk]; exact wdl))
   rw [rd.bytes_mk] at RC
   have FU := hide (fun (w2 : World) (g2 : wr.grownBy w2 none) => ck.full w.heap.size w2 (by omega) ((unhide hc).kept g2))
   have hrl := read_len wd
   clear lf h0 hcut
   go_wp2_with fail
   refine (unhide CU).mono ?_; rintro e w2 ⟨rfl, g2⟩
   have G2 := hide g2
   have R2 := hide (unhide RC w2 g2)
   clear g2 CU RC
   go_wp2_with fail
   refine (unhide R2).mono ?_; rintro e w3 ⟨u3, rfl, m3⟩
   have G3 := hide (grown_trans (r := none) (unhide G2) m3.2)
   have U3 := hide m3.1
   have F3 := hide (unhide FU w3 (unhide G3))
   have BAD : Hid (RP (rd.bytes s) none → ∃ O, RP (rd.bytes s) O ∧ ListE w O (.returned (.tuple #[.slice (some ⟨w3.heap.size, 0, none⟩) 0 0, .bool false])) (w3.alloc (.cells #[] 43))) := fun h => ⟨none, h, _, rfl, sub_own (grown_trans (unhide hc).g (unhide G3)) (nilS w3) (World.grownBy_alloc _ _ none)⟩
   have PU := hide (ck.put w.heap.size w3 (by omega) (by omega) ((unhide hc).kept (unhide G3)) m3.1)
   clear m3 R2 FU G2
   generalize hrb : readB wd = rb at *
   cases fd
   ·have R := hide (unhide BAD (unhide NO (.inl rfl)))
    go_wp2_with fail
    go_ret2
    exact unhide R
   ·cases rb
    ·have R := hide (unhide BAD (unhide NO (.inr (.inl rfl))))
     go_wp2_with fail
     go_ret2
     exact unhide R
    ·by_cases h7 : LL.length = 700
     ·rw [decide_eq_true h7] at F3
      have R := hide (unhide BAD (unhide NO (.inr (.inr h7))))
      go_wp2_with fail
      refine (unhide F3).mono ?_; rintro e w4 ⟨rfl, hw⟩; have hw' := hw.symm; clear hw; subst hw'
      go_wp2_with fail
      go_ret2
      exact unhide R
     ·rw [decide_eq_false h7] at F3
      obtain ⟨n1, n2⟩ := unhide MO rfl rfl h7
      have N1 := hide n1
      have N2 := hide n2
      clear n1 n2 BAD NO MO
      go_wp2_with fail
      refine (unhide F3).mono ?_; rintro e w4 ⟨rfl, hw⟩; have hw' := hw.symm; clear hw; subst hw'
      go_wp2_with fail
      refine (unhide PU).mono ?_; rintro e w4 ⟨rfl, va', ve', c4, _⟩
      have C4 := hide c4
      clear c4 PU F3
      go_wp2_with fail
      go_roundw
      case rel => exact ⟨⟨rs.toArray⟩, _, va', ve', rfl, by rw [rd.size_mk]; have := unhide N2; rw [rd.bytes_len] at this; omega, unhide N1, unhide C4⟩
      case measure =>
       have := unhide N2
       rw [rd.bytes_len] at this
       show (⟨rs.toArray⟩ : ByteArray).size < t.size
       rw [rd.size_mk]
       exact this
end Go.Proofs.YtcgiphcfjhbonaaGreatDoor.rq
namespace Go.Proofs.YtcgiphcfjhbonaaGreatDoor.ln
open Go.ChangeShapes Go.WideShapes Go.ChangeAt Go.RowKit
open rd (MadeS appendS)
open sl (hide unhide)
set_option linter.unusedVariables false
theorem byte10 (c : UInt8) : ((c.toNat : Int) == 10) = decide (c = 10) := by
 rw [Bool.eq_iff_iff, beq_iff_eq, decide_eq_true_iff]
 constructor
 ·intro h
  apply UInt8.toNat_inj.1
  show c.toNat = 10
  omega
 ·intro h
  rw [h]
  rfl
set_option maxHeartbeats 800000 in
set_option maxRecDepth 100000 in
theorem l03Lines (s : ByteArray) (w : World) (hmax : s.size ≤ 1048576) :
  Calls Tryz.prog 51 #[.string s] w fun e w' => ∃ u D, e = .returned u ∧ MadeS w w' u D ∧ D.map rd.bytes = linesOf (rd.bytes s) ∧ D.length ≤ s.size := by
 have START : MadeS w (w.alloc (.cells #[] 9)) (.slice (some ⟨w.heap.size, 0, none⟩) 0 0) [] :=
  ⟨World.ownsRow_lit w #[] 0 (Nat.le_refl _) (Nat.zero_le _) rfl, World.grownBy_alloc _ _ _⟩
 go_enter Tryz.func51, Tryz.ntmps51
 go_wp2
 go_loopw [3, 4, 5] (fun u f i wr => ∃ (k q : Nat) (D : List ByteArray), k ≤ s.size ∧ i = .int .i64 k ∧ f = .int .i64 q ∧ q ≤ k ∧ D.length ≤ k ∧ MidL s k q D ∧ MadeS w wr u D) (fun _ _ i _ => s.size - (intOf i).toNat)
 case atStart => exact ⟨0, 0, [], Nat.zero_le _, rfl, rfl, Nat.le_refl _, Nat.le_refl _, ⟨rfl, rfl, Nat.le_refl _, Nat.le_refl _⟩, START⟩
 case round =>
  obtain ⟨k, q, D, hk, rfl, rfl, hqk, hDk, hm, hmade⟩ := hrel
  clear START
  by_cases hlt : k < s.size
  ·have hi' : (k : Int) < (s.size : Int) := by omega
   have hb := byte10 s[k]
   by_cases h10 : s[k] = 10
   ·rw [decide_eq_true h10] at hb
    have M := midL_line hm hlt h10
    clear hm h10
    go_wp2_with (at_builtin; refine appendS hmade (by omega) rfl _ _ rfl rfl rfl ?_)
    intro v' w1 R
    clear hmade
    go_wp2
    go_roundw
    case rel => exact ⟨k + 1, k + 1, _, by omega, by go_num, by go_num, Nat.le_refl _, by simp; omega, M, R⟩
    case measure => simp [intOf]; omega
   ·rw [decide_eq_false h10] at hb
    have M := midL_other hm hlt h10
    clear hm h10
    go_wp2
    go_roundw
    case rel => exact ⟨k + 1, q, D, by omega, by go_num, rfl, by omega, by omega, M, hmade⟩
    case measure => simp [intOf]; omega
  ·have hi' : ¬ (k : Int) < (s.size : Int) := by omega
   have E := midL_end hm hlt
   have hkk : D.length ≤ s.size := by omega
   clear hm
   go_wp2
   go_ret
   exact ⟨_, rfl, D, hmade, E, hkk⟩
theorem byteIs (c : UInt8) (k : Nat) (hk : k < 256) : ((c.toNat : Int) == (k : Int)) = decide (c = UInt8.ofNat k) := by
 rw [Bool.eq_iff_iff, beq_iff_eq, decide_eq_true_iff]
 constructor
 ·intro h
  apply UInt8.toNat_inj.1
  rw [UInt8.toNat_ofNat_of_lt' hk]
  omega
 ·intro h
  rw [h, UInt8.toNat_ofNat_of_lt' hk]
end Go.Proofs.YtcgiphcfjhbonaaGreatDoor.ln
namespace Go.Proofs.YtcgiphcfjhbonaaGreatDoor.rd
open Go.ChangeShapes Go.WideShapes Go.ChangeAt Go.RowKit
open lits (okB okB_iff okB_yes)
open cls (okAll)
open dec (str)
open wo (Made)
open mn (made_nil made_trans)
open sl (hide unhide grown_refl grown_trans of_below below_of ints)
set_option linter.unusedVariables false

theorem appendB {ops : Array Oper} {rest : List Oper} {o : Oper} {a : Act} {Q : Exit → Act → World → Prop} {w wr : World} {v u : Value} {M : List Int} {y : Int} {bD : Nat} {D : List ByteArray}
  (hm : Made w wr v M) (hD : wr.ownsRow bD 9 1 u D.length (strs D)) (hM : M.length ≤ 4194304) (hgd : o.guard = none) (s x : Operand)
  (ho : o.op = .call { callee := .builtin .append, args := #[s, x], argTypes := #[43, 43] }) (hs : a.eval s = v) (hx : a.eval x = .slice (some ⟨wr.heap.size, 0, none⟩) 1 1)
  (h : ∀ v' w1, Made w w1 v' (M ++ [y]) → w1.ownsRow bD 9 1 u D.length (strs D) → wpList Tryz.prog ops Q rest (a.put o.dst v') w1) :
  wpList Tryz.prog ops Q (o :: rest) a (wr.alloc (.cells #[.int .i64 y] 3)) := by
 obtain ⟨i0, hi, hz0, hz1, hz2⟩ := info_parts sl.info3
 obtain ⟨hown, hg⟩ := hm
 have hsz := hg.size
 refine wpList_append_own _ hgd s x 43 ho w.heap.size 3 i0 (.int .i64 0) 1 8 Tryz.underlying43 hi hz0 hz1 hz2 rfl (by decide) v M.length (ints M) hs (hown.alloc _) ⟨wr.heap.size, 0, none⟩ 1 1 [.int .i64 y] hx rfl ?_ ?_ ?_ ?_ ?_ ?_
 ·intro j u hj
  match j, hj with
  | 0, hj => simp at hj; subst hj; simp [Addr.add]
 ·intro u hu
  simp at hu
  subst hu
  rfl
 ·unfold maxLen
  omega
 ·omega
 ·simp
  omega
 ·intro v' w1 hown' hgrow _
  exact h v' w1 (wo.own_grow hg hown hown' hgrow) ((hD.alloc _).kept hgrow (apart_types (hown.alloc (.cells #[.int .i64 y] 3)) (hD.alloc _) (by decide)))

def Part (s : List UInt8) (k : Nat) (M : List Int) : Prop := M.length = k ∧ ∀ L, read s = some L → M = L.take k
theorem words_of {s : List UInt8} {L : List Int} (h : read s = some L) : words s = L.map Lib.itoa ++ [[48]] := by
 have r := read_sound h
 rw [← r.2, txt.text_yes r.1]
 exact words_body L
theorem word_of {s : List UInt8} {L : List Int} {D : List ByteArray} (h : read s = some L) (hD : D.map bytes = words s) : D.length = L.length + 1 ∧ ∀ k (hk : k < D.length), k + 1 < D.length → num (bytes D[k]) = (L.getD k 0, true) := by
 rw [words_of h] at hD
 have hl : D.length = L.length + 1 := by
  have := congrArg List.length hD
  simpa using this
 refine ⟨hl, fun k hk hk1 => ?_⟩
 have hkL : k < L.length := by omega
 have e : (D.map bytes)[k]? = some (Lib.itoa L[k]) := by
  rw [hD, List.getElem?_append_left (by simpa using hkL)]
  simp [hkL]
 have e2 : bytes D[k] = Lib.itoa L[k] := by
  rw [List.getElem?_map, List.getElem?_eq_getElem hk] at e
  exact Option.some.inj e
 have hok := (read_sound h).1
 unfold okAll at hok
 rw [Bool.and_eq_true] at hok
 have hx := okB_iff.1 (List.all_eq_true.1 hok.1 _ (List.getElem_mem hkL))
 rw [e2, num_itoa (by omega) (by omega), show L.getD k 0 = L[k] by simp [hkL]]
theorem part_stop {s : List UInt8} {D : List ByteArray} {k : Nat} (hD : D.map bytes = words s) (hk : k < D.length) (hk1 : k + 1 < D.length) (hb : (num (bytes D[k])).2 = false) : readL s = [] ∧ readB s = false := by
 cases h : read s with
 | none => unfold readL readB; rw [h]; exact ⟨rfl, rfl⟩
 | some L =>
  have := (word_of h hD).2 k hk hk1
  rw [this] at hb
  cases hb
theorem part_step {s : List UInt8} {D : List ByteArray} {k : Nat} {M : List Int} (hp : Part s k M) (hD : D.map bytes = words s) (hk : k < D.length) (hk1 : k + 1 < D.length) : Part s (k + 1) (M ++ [(num (bytes D[k])).1]) := by
 refine ⟨by rw [List.length_append, hp.1]; rfl, fun L h => ?_⟩
 have h1 := word_of h hD
 have h2 := h1.2 k hk hk1
 have hkL : k < L.length := by omega
 rw [hp.2 L h, h2, List.take_succ_eq_append_getElem hkL, show L.getD k 0 = L[k] by simp [hkL]]
theorem part_long {s : List UInt8} {D : List ByteArray} (hD : D.map bytes = words s) (hl : 49 < D.length) : readL s = [] ∧ readB s = false := by
 cases h : read s with
 | none => unfold readL readB; rw [h]; exact ⟨rfl, rfl⟩
 | some L =>
  have h1 := (word_of h hD).1
  have h2 := mn.okAll_len (read_sound h).1
  omega
theorem part_yes {s : List UInt8} {D : List ByteArray} {k : Nat} {M : List Int} (hp : Part s k M) (hD : D.map bytes = words s) (hk : k + 1 = D.length) (ht : txt.text M = s) : readL s = M ∧ readB s = true := by
 have hok : okAll M = true := by
  cases h : okAll M with
  | true => rfl
  | false =>
   rw [txt.text_no h] at ht
   have hw : words s = [[]] := by rw [← ht]; rfl
   rw [hw] at hD
   have h1 := congrArg List.length hD
   rw [List.length_map] at h1
   have h2 : M = [] := List.eq_nil_of_length_eq_zero (by rw [hp.1]; simp at h1; omega)
   rw [h2] at h
   cases h
 have r := read_full hok
 rw [ht] at r
 unfold readL readB
 rw [r]
 exact ⟨rfl, rfl⟩
theorem part_no {s : List UInt8} {D : List ByteArray} {k : Nat} {M : List Int} (hp : Part s k M) (hD : D.map bytes = words s) (hk : k + 1 = D.length) (ht : ¬ txt.text M = s) : readL s = [] ∧ readB s = false := by
 cases h : read s with
 | none => unfold readL readB; rw [h]; exact ⟨rfl, rfl⟩
 | some L =>
  have h1 := (word_of h hD).1
  have h2 := hp.2 L h
  rw [List.take_of_length_le (by omega)] at h2
  rw [h2] at ht
  exact absurd (read_sound h).2 ht

set_option maxHeartbeats 1600000 in
set_option maxRecDepth 100000 in
theorem specReadClause (s : ByteArray) (w : World) (hs : s.size ≤ 1048576) :
  Calls Tryz.prog 52 #[.string s] w fun e w' => ∃ u, e = .returned (.tuple #[u, .bool (readB (bytes s))]) ∧ Made w w' u (readL (bytes s)) := by
 have START := made_nil w
 have CW := hide (l01Words s (w.alloc (.cells #[] 3)) hs)
 go_enter Tryz.func52, Tryz.ntmps52
 go_wp2_with fail
 refine (unhide CW).mono ?_; rintro e w1 ⟨u, D, rfl, hmD, hD, hDl⟩
 clear CW
 have hD1 : 1 ≤ D.length := by
  have := words_pos (bytes s)
  rw [← hD, List.length_map] at this
  exact this
 have hm1 : Made w w1 (.slice (some ⟨w.heap.size, 0, none⟩) 0 0) [] := ⟨(START.1).kept hmD.2 (.inr (fun e => by cases e)), grown_trans (r := none) START.2 hmD.2⟩
 obtain ⟨g, cap, rfl⟩ : ∃ g cap, u = .slice (some ⟨g, 0, none⟩) D.length cap := by
  cases hmD.1.2 with
  | inl h => exact absurd h.2 (by omega)
  | inr h => obtain ⟨g, cap, cur, hv, _⟩ := h; exact ⟨g, cap, hv⟩
 have hoD := hmD.1
 clear START hmD
 generalize (w.alloc (.cells #[] 3)).heap.size = bD at hoD
 by_cases h49 : 49 < D.length
 ·have E := part_long hD h49
  have hi : (49 : Int) < (D.length : Int) := by omega
  clear hD hoD
  go_wp2_with fail
  go_ret2
  exact ⟨_, by rw [E.2]; rfl, by rw [E.1]; exact hm1⟩
 ·have hi : ¬ (49 : Int) < (D.length : Int) := by omega
  have HD := hide hD
  clear hD
  go_wp2_with fail
  go_loopw [4, 6] (fun c i wr => ∃ (k : Nat) (M : List Int), k + 1 ≤ D.length ∧ i = .int .i64 k ∧ M.length = k ∧ Hid (Part (bytes s) k M) ∧ Made w wr c M ∧ wr.ownsRow bD 9 1 (.slice (some ⟨g, 0, none⟩) D.length cap) D.length (strs D)) (fun _ i _ => D.length - (intOf i).toNat)
  case atStart => exact ⟨0, [], hD1, rfl, rfl, ⟨rfl, fun L _ => rfl⟩, hm1, hoD⟩
  case round =>
   obtain ⟨k, M, hk, rfl, hMk, hp, hmade, hoDr⟩ := hrel
   clear hm1 hoD
   by_cases hlt : k + 1 < D.length
   ·have hkD : k < D.length := by omega
    have hi' : (k : Int) < (D.length : Int) - 1 := by omega
    have hi2 : (k : Int) < (D.length : Int) := by omega
    have c1 : wr.cell? ⟨g, k, none⟩ = some (.string D[k]) := by
     rw [hoDr.cellAt k (by omega)]
     simp [strs, hkD]
    have hsz : D[k].size ≤ 1048576 := by
     have h1 : bytes D[k] ∈ words (bytes s) := by
      rw [← unhide HD]
      exact List.mem_map_of_mem (List.getElem_mem hkD)
     have h2 := words_len _ _ h1
     rw [bytes_len, bytes_len] at h2
     omega
    have CN := l01Num D[k] wr hsz
    have ps := part_stop (unhide HD) hkD hlt
    have pt := part_step (unhide hp) (unhide HD) hkD hlt
    clear hsz
    generalize D[k] = wd at *
    generalize (num (bytes wd)).1 = nv at *
    cases hb : (num (bytes wd)).2
    ·rw [hb] at CN
     have E := ps hb
     have CC := hide CN
     clear ps pt hp hb CN HD
     go_wp2_with fail
     refine (unhide CC).mono ?_; rintro e w2 ⟨rfl, hw⟩; have hw' := hw.symm; clear hw; subst hw'
     clear CC
     go_wp2_with fail
     go_ret2
     exact ⟨_, by rw [E.2]; rfl, by rw [E.1]; exact made_trans (made_nil _) hmade.2⟩
    ·rw [hb] at CN
     have P := hide pt
     have CC := hide CN
     clear ps pt hp hb CN HD
     go_wp2_with fail
     refine (unhide CC).mono ?_; rintro e w2 ⟨rfl, hw⟩; have hw' := hw.symm; clear hw; subst hw'
     clear CC
     go_wp2_with (at_builtin; refine appendB hmade hoDr (by omega) rfl _ _ rfl rfl rfl ?_)
     intro v' w3 R hoD3
     clear hmade hoDr
     go_wp2
     go_roundw
     case rel => exact ⟨k + 1, M ++ [nv], by omega, by go_num, by rw [List.length_append, hMk]; rfl, P, R, hoD3⟩
     case measure => simp [intOf]; omega
   ·have hke : k + 1 = D.length := by omega
    have hi' : ¬ (k : Int) < (D.length : Int) - 1 := by omega
    have CT := hide (txt.specClauseText _ M wr (by omega) (sl.Sl.of_own hmade.1))
    by_cases ht : txt.text M = bytes s
    ·have E := part_yes (unhide hp) (unhide HD) hke ht
     have hq : (txt.text M == s.toList) = true := by rw [toList_bytes, ht]; simp
     clear hp HD ht hke
     generalize txt.text M = q at *
     unfold str at CT
     go_wp2_with fail
     refine (unhide CT).mono ?_; rintro e w2 ⟨rfl, hw⟩; have hw' := hw.symm; clear hw; subst hw'
     clear CT
     go_wp2_with fail
     go_ret2
     exact ⟨_, by rw [E.2]; rfl, by rw [E.1]; exact hmade⟩
    ·have E := part_no (unhide hp) (unhide HD) hke ht
     have hq : (txt.text M == s.toList) = false := by rw [toList_bytes]; simpa using ht
     clear hp HD ht hke
     generalize txt.text M = q at *
     unfold str at CT
     go_wp2_with fail
     refine (unhide CT).mono ?_; rintro e w2 ⟨rfl, hw⟩; have hw' := hw.symm; clear hw; subst hw'
     clear CT
     go_wp2_with fail
     go_ret2
     exact ⟨_, by rw [E.2]; rfl, by rw [E.1]; exact made_trans (made_nil _) hmade.2⟩
end Go.Proofs.YtcgiphcfjhbonaaGreatDoor.rd
namespace Go.Proofs.YtcgiphcfjhbonaaGreatDoor.rq
open Go.ChangeShapes Go.WideShapes Go.ChangeAt Go.RowKit
open sl (ints hide unhide grown_refl grown_trans of_below below_of Own)
open css (OwnS)
open cls (okAll)
open txt (text)
open cx (lines)
open ln (linesOf lines_cons)
open rd (Env readB readL read read_sound read_full read_len)
set_option linter.unusedVariables false
theorem lines_of (M : List (List Int)) : linesOf (lines M) = M.map text := by
 induction M with
 | nil => rfl
 | cons c M ih => rw [lines_cons', lines_cons _ (text_nl c), ih]; rfl
structure Sf (s : List UInt8) (k : Nat) (M : List (List Int)) : Prop where
 eq : M.map text = (linesOf s).take k
 ok : M.all okAll = true
theorem Sf.more {s l : List UInt8} {k : Nat} {M : List (List Int)} (h : Sf s k M) (hl : (linesOf s)[k]? = some l) (hr : readB l = true) : Sf s (k + 1) (M ++ [readL l]) := by
 obtain ⟨L, hL⟩ := Option.isSome_iff_exists.1 (show (read l).isSome = true from hr)
 have hs := read_sound hL
 have eL : readL l = L := by unfold rd.readL; rw [hL]; rfl
 refine ⟨?_, ?_⟩
 ·rw [List.take_add_one, hl, List.map_append, h.eq, eL]
  simp [hs.2]
 ·rw [List.all_append, h.ok, eL, List.all_cons, hs.1]
  rfl
theorem Sf.len {s : List UInt8} {k : Nat} {M : List (List Int)} (h : Sf s k M) (hk : k ≤ (linesOf s).length) : M.length = k := by
 have := congrArg List.length h.eq
 rw [List.length_map, List.length_take] at this
 omega
theorem none_long {s : List UInt8} (h : 700 < (linesOf s).length) : RP s none := by
 refine .inr ⟨rfl, fun M m1 m2 m3 => ?_⟩
 rw [← m3, lines_of, List.length_map] at h
 omega
theorem none_bad {s l : List UInt8} {k : Nat} (hl : (linesOf s)[k]? = some l) (hr : readB l = false) : RP s none := by
 refine .inr ⟨rfl, fun M m1 m2 m3 => ?_⟩
 rw [← m3, lines_of, List.getElem?_map] at hl
 cases hM : M[k]? with
 | none => rw [hM] at hl; cases hl
 | some c =>
  rw [hM] at hl
  cases hl
  have hc := List.all_eq_true.1 m1 c (List.mem_of_getElem? hM)
  unfold rd.readB at hr
  rw [read_full hc] at hr
  cases hr
theorem map_text : ∀ {A B : List (List Int)}, A.all okAll = true → B.all okAll = true → A.map text = B.map text → A = B := by
 intro A
 induction A with
 | nil => intro B _ _ h; cases B with
  | nil => rfl
  | cons => simp at h
 | cons a A ih =>
  intro B ha hb h
  cases B with
  | nil => simp at h
  | cons b B =>
   rw [List.all_cons, Bool.and_eq_true] at ha hb
   rw [List.map_cons, List.map_cons, List.cons.injEq] at h
   rw [text_inj ha.1 hb.1 h.1, ih ha.2 hb.2 h.2]
theorem Sf.yes {s : List UInt8} {k : Nat} {M : List (List Int)} (h : Sf s k M) (hk : k = (linesOf s).length) (h7 : k ≤ 700) (e : lines M = s) : RP s (some M) := .inl ⟨M, rfl, h.ok, by rw [h.len (by omega)]; exact h7, e⟩
theorem Sf.no {s : List UInt8} {k : Nat} {M : List (List Int)} (h : Sf s k M) (hk : k = (linesOf s).length) (e : ¬ lines M = s) : RP s none := by
 refine .inr ⟨rfl, fun A m1 m2 m3 => e ?_⟩
 have := h.eq
 rw [hk, List.take_length, ← m3, lines_of] at this
 rw [map_text h.ok m1 this]
 exact m3
theorem tot_ok {M : List (List Int)} (h : M.all okAll = true) : css.tot M ≤ 49 * M.length := by
 have := flat_len h
 unfold css.tot
 rw [List.length_flatten] at this
 omega
def Lns (wr : World) (bD : Nat) (ad : Option Addr) (cap : Nat) (D : List ByteArray) : Prop := wr.ownsRow bD 9 1 (.slice ad D.length cap) D.length (rd.strs D)
theorem Lns.kept {wr w1 : World} {bD : Nat} {ad : Option Addr} {cap : Nat} {D : List ByteArray} (h : Lns wr bD ad cap D) (g : wr.grownBy w1 none) : Lns w1 bD ad cap D := World.ownsRow.kept h g (by
 cases (Value.slice ad D.length cap).ownBlock with
 | none => exact .inl rfl
 | some k => exact .inr (fun e => by cases e))
theorem ty10 : (43 : Nat) ≠ 9 := by decide
theorem outer_ne {lo hi bD n : Nat} {w : World} {v u : Value} {LL : List (List Int)} {xs : List Value} (h : OwnS lo hi w v LL) (hD : w.ownsRow bD 9 1 u n xs) : u.ownBlock = none ∨ u.ownBlock ≠ v.ownBlock := by
 obtain ⟨D, e, ho, _⟩ := h
 exact rd.apart_types ho hD ty10
theorem lines_row {wr : World} {bD : Nat} {ad : Option Addr} {cap : Nat} {D : List ByteArray} (h : Lns wr bD ad cap D) {k : Nat} (hk : k < D.length) : ∃ g, ad = some ⟨g, 0, none⟩ ∧ wr.cell? ⟨g, k, none⟩ = some (.string D[k]) := by
 rcases h.2 with ⟨hv, h0⟩ | ⟨g, cap', cur, hv, _⟩
 ·omega
 ·injection hv with h1 h2 h3
  subst h1 h3
  refine ⟨g, rfl, ?_⟩
  rw [World.ownsRow.cellAt h k (by omega)]
  simp [rd.strs, hk]
theorem lscan_len (B : Nat) (l : List UInt8) (st : List (List UInt8) × List UInt8) (h1 : ∀ x ∈ st.1, x.length ≤ B) (h2 : st.2.length + l.length ≤ B) : (∀ x ∈ (ln.lscan st l).1, x.length ≤ B) ∧ (ln.lscan st l).2.length ≤ B := by
 induction l generalizing st with
 | nil => exact ⟨h1, by show st.2.length ≤ B; simpa using h2⟩
 | cons c l ih =>
  have e : ln.lscan st (c :: l) = ln.lscan (if c = 10 then (st.1 ++ [st.2], []) else (st.1, st.2 ++ [c])) l := rfl
  rw [e]
  rw [List.length_cons] at h2
  split
  ·refine ih _ ?_ (by simp; omega)
   intro x hx
   rcases List.mem_append.1 hx with hx | hx
   ·exact h1 x hx
   ·rw [List.mem_singleton] at hx
    rw [hx]
    omega
  ·exact ih _ h1 (by simp; omega)
theorem line_size {s : ByteArray} {D : List ByteArray} (hD : D.map rd.bytes = linesOf (rd.bytes s)) (hs : s.size ≤ 1048576) : ∀ x ∈ D, x.size ≤ 1048576 := by
 intro x hx
 have h1 : rd.bytes x ∈ linesOf (rd.bytes s) := by
  rw [← hD]
  exact List.mem_map_of_mem hx
 have h2 := (lscan_len (rd.bytes s).length (rd.bytes s) ([], []) (by simp) (by simp)).1 _ h1
 rw [rd.bytes_len, rd.bytes_len] at h2
 omega
theorem str_ne (M : List (List Int)) (s : ByteArray) : (lines M == s.toList) = decide (lines M = rd.bytes s) := by
 rw [Bool.eq_iff_iff, beq_iff_eq, decide_eq_true_iff, rd.toList_bytes]
set_option maxRecDepth 100000 in
set_option maxHeartbeats 8000000 in
theorem specReadProof (s : ByteArray) (w : World) (hs : s.size ≤ 1048576) :
  Calls Tryz.prog 15 #[.string s] w fun e w' => ∃ O, RP (rd.bytes s) O ∧ ListE w O e w' := by
 have START := hide (nilS w)
 have GA := hide (World.grownBy_alloc w (.cells #[] 43) none)
 have CL := hide (ln.l03Lines s (w.alloc (.cells #[] 43)) hs)
 have HS : Hid (∀ D : List ByteArray, D.map rd.bytes = linesOf (rd.bytes s) → ∀ x ∈ D, x.size ≤ 1048576) := hide (fun D hD => line_size hD (by omega))
 go_enter Tryz.func15, Tryz.ntmps15
 go_wp2_with fail
 refine (unhide CL).mono ?_; rintro e w1 ⟨u, D, rfl, hmD, hD, hDl⟩
 clear CL
 have hDb : D.length ≤ 1048576 := by omega
 clear hDl
 obtain ⟨ad, cap, rfl⟩ : ∃ a cap, u = .slice a D.length cap := by
  rcases hmD.1.2 with ⟨rfl, h⟩ | ⟨g, cap, cur, rfl, _⟩
  ·exact ⟨none, 0, by rw [h]⟩
  ·exact ⟨_, cap, rfl⟩
 have hDS := unhide HS D hD
 have HL : Hid ((linesOf (rd.bytes s)).length = D.length) := by rw [← hD, List.length_map]; exact hide rfl
 have HK : Hid (∀ k (hk : k < D.length), (linesOf (rd.bytes s))[k]? = some (rd.bytes D[k])) := by
  intro k hk
  rw [← hD]
  simp [hk]
 obtain ⟨o1, g1⟩ := hmD
 have S1 := hide ((unhide START).kept g1)
 have G1 := hide (grown_trans (r := none) (unhide GA) g1)
 replace S1 := hide ((unhide S1).sub (Nat.le_refl _) g1.size)
 generalize (w.alloc (.cells #[] 43)).heap.size = bD at o1
 have L1 : Hid (Lns w1 bD ad cap D) := o1
 clear o1 g1 hD HS START GA
 by_cases h7 : 700 < D.length
 ·have hi : (700 : Int) < (D.length : Int) := by omega
  have R := hide (none_long (s := rd.bytes s) (by rw [unhide HL]; exact h7))
  go_wp2_with fail
  go_ret2
  exact ⟨none, unhide R, _, rfl, unhide S1, unhide G1⟩
 have hi : ¬ (700 : Int) < (D.length : Int) := by omega
 have SF : Hid (Sf (rd.bytes s) 0 []) := ⟨rfl, rfl⟩
 go_wp2_with fail
 go_loopw [4, 6] (fun v i wr => ∃ (k : Nat) (M : List (List Int)), k ≤ D.length ∧ i = .int .i64 k ∧ Hid (Sf (rd.bytes s) k M) ∧ Hid (OwnS w.heap.size wr.heap.size wr v M) ∧ Hid (w.grownBy wr none) ∧ Hid (Lns wr bD ad cap D)) (fun _ i _ => D.length - (intOf i).toNat)
 case atStart => exact ⟨0, [], Nat.zero_le _, rfl, SF, S1, G1, L1⟩
 case round =>
  obtain ⟨k, M, hk, rfl, hf, ho, hg, hln⟩ := hrel
  clear S1 G1 L1 SF
  have hMl := (unhide hf).len (by rw [unhide HL]; exact hk)
  have hMle : M.length ≤ 700 := by omega
  clear hMl
  by_cases hlt : k < D.length
  ·have hi' : (k : Int) < (D.length : Int) := by omega
   obtain ⟨g, rfl, c1⟩ := lines_row (unhide hln) hlt
   have hsz := hDS D[k] (List.getElem_mem hlt)
   have CC := rd.specReadClause D[k] wr hsz
   have KK := unhide HK k hlt
   have NB := hide (none_bad KK)
   have MO := hide ((unhide hf).more KK)
   clear KK hsz
   generalize D[k] = ln at *
   generalize readL (rd.bytes ln) = L at *
   generalize readB (rd.bytes ln) = b at *
   have CQ := hide CC
   clear CC
   go_wp2_with fail
   refine (unhide CQ).mono ?_; rintro e w2 ⟨u2, rfl, m2⟩
   have G2 := hide m2.2
   have U2 := hide (Own.of m2.1)
   clear m2 CQ
   obtain ⟨ua, uc, e3, _⟩ := (unhide U2).sl
   subst e3
   cases b
   ·have R := hide (And.intro (unhide NB rfl) (sub_own (grown_trans (unhide hg) (unhide G2)) (nilS w2) (World.grownBy_alloc _ _ none)))
    go_wp2_with fail
    go_ret2
    exact ⟨none, (unhide R).1, _, rfl, (unhide R).2⟩
   ·have F2 := hide (unhide MO rfl)
    have O2 := hide ((unhide ho).kept (unhide G2))
    have GW := hide (grown_trans (r := none) (unhide hg) (unhide G2))
    have L2 := hide ((unhide hln).kept (unhide G2))
    have s1 := hide (unhide hg).size
    obtain ⟨va, vc, rfl⟩ := (unhide ho).len
    clear MO NB ho hg hln
    go_wp2_with (at_builtin; refine gr.appendR (unhide O2) (unhide U2) (unhide s1) (unhide G2).size (by omega) rfl _ _ rfl rfl rfl ?_)
    intro g2 cap2 w4 o4 gr4
    have R := hide (And.intro o4 (app.grown_appS (lo := 0) (unhide GW) (unhide O2) gr4))
    have L4 : Hid (Lns w4 bD (some ⟨g, 0, none⟩) cap D) := World.ownsRow.kept (Lns.kept (unhide L2) (World.grownBy_alloc w2 (.cells #[.slice ua L.length uc] 43) none)) gr4 (outer_ne ((unhide O2).kept (World.grownBy_alloc w2 (.cells #[.slice ua L.length uc] 43) none)) (Lns.kept (unhide L2) (World.grownBy_alloc w2 (.cells #[.slice ua L.length uc] 43) none)))
    clear o4 gr4 O2 U2 GW G2 s1 L2
    go_wp2
    go_roundw
    case rel => exact ⟨k + 1, M ++ [L], by omega, by go_num, F2, (unhide R).1, (unhide R).2, L4⟩
    case measure => simp [intOf]; omega
  ·have hi' : ¬ (k : Int) < (D.length : Int) := by omega
   have e1 := str_ne M s
   have fl := unhide hf
   have hk' : k = (linesOf (rd.bytes s)).length := by rw [unhide HL]; omega
   have CT := pt.specProofText _ M wr (by have := tot_ok fl.ok; omega) (unhide ho).sls
   rw [pt.prf_yes (by omega) fl.ok] at CT
   unfold dec.str at CT
   have YES := hide (fl.yes hk' (by omega))
   have NO := hide (fl.no hk')
   have CQ := hide CT
   obtain ⟨va, vc, rfl⟩ := (unhide ho).len
   clear fl CT hk' HL HK hf hln
   by_cases h : lines M = rd.bytes s
   ·rw [decide_eq_true h] at e1
    have Y := hide (unhide YES h)
    clear h YES NO
    generalize lines M = q at *
    go_wp2_with fail
    refine (unhide CQ).mono ?_; rintro e w2 ⟨rfl, g2⟩
    have R := hide (And.intro (((unhide ho).kept g2).sub (Nat.le_refl _) g2.size) (grown_trans (r := none) (unhide hg) g2))
    clear g2
    go_wp2_with fail
    go_ret2
    exact ⟨some M, unhide Y, _, rfl, unhide R⟩
   ·rw [decide_eq_false h] at e1
    have Y := hide (unhide NO h)
    clear h YES NO
    generalize lines M = q at *
    go_wp2_with fail
    refine (unhide CQ).mono ?_; rintro e w2 ⟨rfl, g2⟩
    have R := hide (sub_own (grown_trans (unhide hg) g2) (nilS w2) (World.grownBy_alloc _ _ none))
    clear g2
    go_wp2_with fail
    go_ret2
    exact ⟨none, unhide Y, _, rfl, unhide R⟩
theorem bothP (s : ByteArray) (hs : s.size ≤ 1048576) : ∃ O : Option (List (List Int)), (∀ LL, O = some LL → LL.all okAll = true ∧ LL.length ≤ 700) ∧ (∀ w, Calls Tryz.prog 15 #[.string s] w fun e w' => ListE w O e w') ∧ ∀ w, Env w → Calls Tryz.prog 12 #[.string s] w fun e w' => ListE w O e w' := by
 have h : ∃ O, RP (rd.bytes s) O := by
  by_cases q : ∃ LL : List (List Int), LL.all okAll = true ∧ LL.length ≤ 700 ∧ lines LL = rd.bytes s
  ·obtain ⟨LL, a, b, c⟩ := q
   exact ⟨some LL, .inl ⟨LL, rfl, a, b, c⟩⟩
  ·exact ⟨none, .inr ⟨rfl, fun M a b c => q ⟨M, a, b, c⟩⟩⟩
 obtain ⟨O, hO⟩ := h
 refine ⟨O, ?_, fun w => (specReadProof s w hs).mono ?_, fun w hE => (implReadProof s w hE hs).mono ?_⟩
 ·intro LL e
  rcases hO with ⟨A, rfl, a1, a2, a3⟩ | ⟨rfl, a⟩
  ·cases e
   exact ⟨a1, a2⟩
  ·cases e
 ·rintro e w' ⟨P, hP, h⟩
  rw [RP.one hO hP]
  exact h
 ·rintro e w' ⟨P, hP, h⟩
  rw [RP.one hO hP]
  exact h
theorem bothQ (s : ByteArray) (hs : s.size ≤ 1048576) : ∃ (R : List (List Int)) (b : Bool), css.tot R ≤ 1048576 ∧ (∀ w, Calls Tryz.prog 15 #[.string s] w fun e w' => ∃ r, e = .returned (.tuple #[r, .bool b]) ∧ OwnS w.heap.size w'.heap.size w' r R ∧ w.grownBy w' none) ∧ ∀ w, Env w → Calls Tryz.prog 12 #[.string s] w fun e w' => ∃ r, e = .returned (.tuple #[r, .bool b]) ∧ OwnS w.heap.size w'.heap.size w' r R ∧ w.grownBy w' none := by
 obtain ⟨O, h, a, b⟩ := bothP s hs
 refine ⟨O.getD [], O.isSome, ?_, a, b⟩
 cases O with
 | none => exact Nat.zero_le _
 | some LL =>
  have := h LL rfl
  have := tot_ok this.1
  show css.tot LL ≤ _
  omega
end Go.Proofs.YtcgiphcfjhbonaaGreatDoor.rq
namespace Go.Proofs.YtcgiphcfjhbonaaGreatDoor.yu
open rq (RP ListE)
open css (tot OwnS)
set_option linter.unusedVariables false
theorem rp_ex (s : ByteArray) : ∃ O, RP (rd.bytes s) O := by
 by_cases q : ∃ LL : List (List Int), LL.all cls.okAll = true ∧ LL.length ≤ 700 ∧ cx.lines LL = rd.bytes s
 ·obtain ⟨LL, a, b, c⟩ := q
  exact ⟨some LL, .inl ⟨LL, rfl, a, b, c⟩⟩
 ·exact ⟨none, .inr ⟨rfl, fun M a b c => q ⟨M, a, b, c⟩⟩⟩
theorem rp_tot {s : List UInt8} {O : Option (List (List Int))} (h : RP s O) : tot (O.getD []) ≤ 1048576 := by
 rcases h with ⟨A, rfl, a1, a2, a3⟩ | ⟨rfl, a⟩
 ·have := rq.tot_ok a1
  show tot A ≤ _
  omega
 ·exact Nat.zero_le _
theorem specRead {s : ByteArray} {O : Option (List (List Int))} (hO : RP (rd.bytes s) O) (hs : s.size ≤ 1048576) (w : World) : Calls Tryz.prog 15 #[.string s] w fun e w' => ListE w O e w' := by
 refine (rq.specReadProof s w hs).mono ?_
 rintro e w' ⟨P, hP, h⟩
 rw [hO.one hP]
 exact h
theorem implRead {s : ByteArray} {O : Option (List (List Int))} (hO : RP (rd.bytes s) O) (hs : s.size ≤ 1048576) (w : World) (hE : rd.Env w) : Calls Tryz.prog 12 #[.string s] w fun e w' => ListE w O e w' := by
 refine (rq.implReadProof s w hE hs).mono ?_
 rintro e w' ⟨P, hP, h⟩
 rw [hO.one hP]
 exact h
theorem empty_list (l : List UInt8) : ((⟨l.toArray⟩ : ByteArray).toList == []) = l.isEmpty := by
 have e : (⟨l.toArray⟩ : ByteArray).toList = l := by
  rw [ByteArray.toList_eq]
 rw [e]
 cases l <;> rfl
end Go.Proofs.YtcgiphcfjhbonaaGreatDoor.yu
