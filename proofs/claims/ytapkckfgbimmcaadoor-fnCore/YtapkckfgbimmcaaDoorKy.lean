/- What leastAssignment answers: the least assignment at which the clauses and the wanted literals are true, or none. -/
import Derived.Test.YtapkckfgbimmcaaDoorKx
import Derived.Test.YtapkckfgbimmcaaDoorLr
namespace Go.Proofs.YtapkckfgbimmcaaDoor.ks
open Go.ChangeShapes Go.WideShapes Go.ChangeAt Go.RowKit
open Go.Proofs.YtapkckfgbimmcaaDoor.kd (SV Slv)
open Go.Proofs.YtapkckfgbimmcaaDoor.km (left_ plc wdB)
open Go.Proofs.YtapkckfgbimmcaaDoor.lq (Bits holds)
open Go.Proofs.YtapkckfgbimmcaaDoor.srt (Tab)
open Go.Proofs.YtapkckfgbimmcaaDoor.lits (okB)
open Go.Proofs.YtapkckfgbimmcaaDoor.bset (setOf setOf_lt placeN)
open Go.Proofs.YtapkckfgbimmcaaDoor.wo (Made)
open Go.Proofs.YtapkckfgbimmcaaDoor.sl (Sl ints hide unhide grown_refl grown_trans own_stored ints_length)
set_option linter.unusedVariables false
theorem part_skip (L : List Int) (k : Nat) (h : k < L.length) (h0 : L.getD k 0 = 0) : sl.part L (k + 1) = sl.part L k := by
  have e : L[k] = 0 := by rw [List.getD_eq_getElem?_getD, List.getElem?_eq_getElem h] at h0; exact h0
  unfold sl.part
  rw [List.take_succ_eq_append_getElem h, e, show L.length - k = (L.length - (k + 1)) + 1 by omega, List.replicate_succ, List.append_assoc]
  rfl
theorem left_bits {n : Nat} {LL : List (List Int)} {a l : List Int} (h : left_ n LL a [] = some l) : Bits n l := by
  unfold km.left_ at h
  exact (lq.lst_some h).1
theorem word_at {l : List Int} {P k : Nat} (h : Word l P) (hk : k < l.length) : P.testBit (2 * k) = decide (l.getD k 0 = 1) := by
  rw [h.2, wdB, show 2 * k / 2 = k by omega, decide_eq_true hk, Bool.true_and, decide_eq_decide]
  unfold km.plc
  split
  · rename_i e; exact ⟨fun _ => e, fun _ => rfl⟩
  · rename_i e; constructor
    · intro z; omega
    · intro z; exact absurd z e
set_option maxRecDepth 100000 in
set_option maxHeartbeats 4000000 in
theorem leastAssignment (n : Nat) (LL : List (List Int)) (a : List Int) (s : SV) (c : Nat) (hR : Right n LL s) (ha : ∀ x ∈ a, ok.litIn (n : Int) x = true) (w : World) (hS : Slv w c s) (hT : Tab w) :
    Calls Tryd.prog 54 #[.pointer (some ⟨c, 0, none⟩), .int .u64 (setOf a : Int)] w fun e w' => lq.FromE w (left_ n LL a []) e w' := by
  have C := hide (callsIn_wide.1 (least n LL a s c 0 hR ha w hS hT))
  have HS := hide hS
  have HR := hide hR
  obtain ⟨i0, hi, hz0, hz1, hz2⟩ := info_parts sl.info3
  have h24 := hR.n24
  clear hS hT hR ha
  go_enter Tryd.func54, Tryd.ntmps54
  go_wp2_with fail
  refine (unhide C).mono ?_
  rintro e w1 ⟨g1, ⟨hN, rfl⟩ | ⟨l, P, hN, hW, hh, rfl⟩⟩
  · have G1 := hide g1
    have HN := hide hN
    clear g1 hN
    go_wp2_with fail
    go_ret2
    rw [unhide HN]
    exact ⟨_, rfl, World.ownsRow_lit w1 #[] 0 (unhide G1).size (Nat.zero_le _) rfl, grown_trans (unhide G1) (World.grownBy_alloc _ _ _)⟩
  · have hb := left_bits hN
    have hl := hb.1
    have HN := hide hN
    have x0 := ((unhide HS).kept g1).cell (k := 0) (by decide)
    rw [kd.at0, (unhide HR).sn] at x0
    have G1 := hide g1
    have HW := hide hW
    have hP := hW.1
    have HBT := hide hb.2
    subst hl
    have Z : Hid (∀ w' : World, w'.ownsRow w1.heap.size 3 1 (.slice (some ⟨w1.heap.size, 0, none⟩) l.length l.length) l.length (madeCells #[Value.int .i64 0] l.length).toList → w'.ownsRow w1.heap.size 3 1 (.slice (some ⟨w1.heap.size, 0, none⟩) l.length l.length) l.length (ints (sl.part l 0))) := by
      intro w' h
      have e : (madeCells #[Value.int .i64 0] l.length).toList = ints (sl.part l 0) := by
        rw [sl.part_zero, toList_madeCells_one]
        simp [ints]
      rw [e] at h
      exact h
    clear g1 hN hW hh hb C HS HR
    go_wp2_with (first | (at_make; refine wpList_make_full _ rfl _ _ 28 rfl w1.heap.size 3 i0 (.int .i64 0) 1 Tryd.underlying28 hi hz0 hz1 _ _ _ _ l.length rfl rfl (by rfl) (by rfl) ?b1 ?b2 ?b3 ?_))
    case b1 => rw [hz2]; omega
    case b2 => unfold maxLen; omega
    case b3 => exact Nat.le_refl _
    intro w2 hown hgrow
    have O := hide (unhide Z w2 hown)
    have G := hide hgrow
    clear hown hgrow Z x0
    go_wp2_with fail
    go_loopw [26] (fun i wr => ∃ k : Nat, k ≤ l.length ∧ i = .int .i64 k ∧ wr.ownsRow w1.heap.size 3 1 (.slice (some ⟨w1.heap.size, 0, none⟩) l.length l.length) l.length (ints (sl.part l k)) ∧ w1.grownBy wr none) (fun i _ => l.length - (intOf i).toNat)
    case atStart => exact ⟨0, Nat.zero_le _, rfl, unhide O, unhide G⟩
    case round =>
      obtain ⟨k, hk, rfl, hown, hg⟩ := hrel
      by_cases hlt : k < l.length
      · have c2 : wr.cell? ⟨w1.heap.size, k, none⟩ = (ints (sl.part l k))[k]? := hown.cellAt k (by omega)
        obtain ⟨x, hx⟩ : ∃ x, (ints (sl.part l k))[k]? = some x := ⟨_, List.getElem?_eq_getElem (by rw [ints_length, sl.part_length _ _ hk]; exact hlt)⟩
        rw [hx] at c2
        have c3 : wr.frozen? ⟨w1.heap.size, k, none⟩ = false := hown.frozenAt k
        have hi' : (k : Int) < (l.length : Int) := by omega
        have hw := word_at (unhide HW) hlt
        have hpl := srt.place_pos k (by omega)
        have CH := fun w' => bset.hasC P ((k : Int) + 1) w' hP hpl.1
        rw [hpl.2, hw] at CH
        by_cases hv : l.getD k 0 = 1
        · rw [decide_eq_true hv] at CH
          have O' := hide (own_stored l.length (sl.part_length l k hk) (sl.part_length l (k + 1) hlt) hown k 1 (by rw [← hv]; exact sl.part_set l k hlt))
          have G' : Hid (w1.grownBy (wr.setCell ⟨w1.heap.size, k, none⟩ (.int .i64 1)) none) := ⟨hg.os, hg.tape, hg.output, by simpa [World.setCell] using hg.size, fun j hj _ => (Below.heap_setCell _ _ _ _ (by show j ≠ w1.heap.size; omega)).trans (hg.block j hj (fun e => by cases e))⟩
          have CH' := hide CH
          clear hown hg hx O G hv hw CH
          go_wp2_with fail
          refine (unhide CH' _).mono ?_
          rintro e w3 ⟨rfl, hw⟩
          have hw' := hw.symm
          clear hw
          subst hw'
          go_wp2_with fail
          go_roundw
          case rel => exact ⟨k + 1, by omega, by go_num, unhide O', unhide G'⟩
          case measure => simp [intOf]; omega
        · rw [decide_eq_false hv] at CH
          have hv0 : l.getD k 0 = 0 := by
            have hm : l.getD k 0 ∈ l := by
              rw [List.getD_eq_getElem?_getD, List.getElem?_eq_getElem hlt]
              exact List.getElem_mem hlt
            rcases unhide HBT _ hm with z | z
            · exact z
            · exact absurd z hv
          rw [← part_skip l k hlt hv0] at hown
          have O' := hide hown
          have G' := hide hg
          have CH' := hide CH
          clear hown hg hx O G hv hw CH hv0
          go_wp2_with fail
          refine (unhide CH' _).mono ?_
          rintro e w3 ⟨rfl, hw⟩
          have hw' := hw.symm
          clear hw
          subst hw'
          go_wp2_with fail
          go_roundw
          case rel => exact ⟨k + 1, by omega, by go_num, unhide O', unhide G'⟩
          case measure => simp [intOf]; omega
      · have hk' : k = l.length := by omega
        subst hk'
        have O' := hide hown
        have G' := hide hg
        clear hown hg O G
        go_wp2_with fail
        go_ret2
        rw [unhide HN]
        refine ⟨_, rfl, ?_, grown_trans (unhide G1) (unhide G')⟩
        have o := unhide O'
        rw [sl.part_all] at o
        exact css.own_mono o (unhide G1).size
end Go.Proofs.YtapkckfgbimmcaaDoor.ks
