/- What ProofText answers, the program's and the model's, at every list of lists that holds at most 2^20 values. -/
import Derived.Test.YtgcglpdemolcoaaDoorCx
import Derived.Test.YtgcglpdemolcoaaDoorBy
import Derived.Test.YtgcglpdemolcoaaDoorCls
namespace Go.Proofs.YtgcglpdemolcoaaDoor.pt
open Go.ChangeShapes Go.WideShapes Go.ChangeAt Go.RowKit
open Go.Proofs.YtgcglpdemolcoaaDoor.sl (Sl hide unhide grown_refl grown_trans grown_drewN of_below below_of)
open Go.Proofs.YtgcglpdemolcoaaDoor.dec (str)
open Go.Proofs.YtgcglpdemolcoaaDoor.css (Sls tot)
open Go.Proofs.YtgcglpdemolcoaaDoor.cls (okAll)
open Go.Proofs.YtgcglpdemolcoaaDoor.txt (Pow text)
open Go.Proofs.YtgcglpdemolcoaaDoor.cx (lines lines_len lines_step text_len)
open Go.Proofs.YtgcglpdemolcoaaDoor.byt (Byt MadeB)
set_option linter.unusedVariables false
/-- the text of a proof -/
def prf (LL : List (List Int)) : List UInt8 := if decide (LL.length ≤ 700) && LL.all okAll then lines LL else []
theorem prf_long {LL : List (List Int)} (h : 700 < LL.length) : prf LL = [] := by
  unfold prf
  rw [decide_eq_false (by omega)]
  rfl
theorem prf_bad {LL : List (List Int)} {k : Nat} (hk : k < LL.length) (h : okAll (LL.getD k []) = false) : prf LL = [] := by
  unfold prf
  have : LL.all okAll = false := by
    rw [List.all_eq_false]
    refine ⟨LL.getD k [], ?_, by rw [h]; decide⟩
    rw [List.getD_eq_getElem?_getD, List.getElem?_eq_getElem hk]
    exact List.getElem_mem hk
  rw [this, Bool.and_false]
  rfl
theorem prf_yes {LL : List (List Int)} (hl : LL.length ≤ 700) (h : LL.all okAll = true) : prf LL = lines LL := by
  unfold prf
  rw [decide_eq_true hl, h]
  rfl
theorem all_step {LL : List (List Int)} {k : Nat} (hk : k < LL.length) (h : (LL.take k).all okAll = true) (h1 : okAll (LL.getD k []) = true) : (LL.take (k + 1)).all okAll = true := by
  rw [css.take_snoc LL k hk, List.all_append, h, Bool.true_and, List.all_cons, h1]
  rfl
theorem cat6 (a : List UInt8) : (⟨a.toArray⟩ : ByteArray) ++ ⟨#[10]⟩ = ⟨(a ++ [10]).toArray⟩ := ByteArray.ext (by simp)
theorem nil_bytes (w : World) : MadeB w (w.alloc (.cells #[] 5)) (.slice (some ⟨w.heap.size, 0, none⟩) 0 0) [] := by
  refine ⟨⟨w.heap.size, 0, #[], (0, 0), rfl, Nat.le_refl _, ?_, .inl rfl, Nat.le_refl _, Nat.zero_le _, rfl, rfl⟩, World.grownBy_alloc _ _ _⟩
  show (w.heap.push _)[w.heap.size]? = _
  rw [Array.getElem?_push, if_pos rfl]
set_option maxHeartbeats 4000000 in
set_option maxRecDepth 100000 in
theorem implProofText (v : Value) (LL : List (List Int)) (w : World) (hT : Pow w) (hn : tot LL ≤ 1048576) (hv : Sls w v LL) :
    Calls Tryd.prog 57 #[v] w fun e w' => e = .returned (str (prf LL)) ∧ w.grownBy w' none := by
  have hl := Nat.le_trans (css.tot_len LL) hn
  obtain ⟨a, cap, rfl, ha⟩ := hv
  have HA := hide ha
  have HT := hide hT
  clear ha hT
  by_cases hbig : 700 < LL.length
  · rw [prf_long hbig]
    have hi : (700 : Int) < (LL.length : Int) := by omega
    clear hbig
    go_enter Tryd.func57, Tryd.ntmps57
    go_wp2_with fail
    go_ret
    exact ⟨rfl, grown_refl _⟩
  have hi : ¬ (700 : Int) < (LL.length : Int) := by omega
  have PB := hide (fun k (hk : k < LL.length) h => prf_bad (LL := LL) hk h)
  have PY := hide (fun h => prf_yes (LL := LL) (by omega) h)
  generalize prf LL = T at *
  have START : Hid (txt.Mid w (w.alloc (.cells #[.pointer none, .slice none 0 0] 105)) []) := ⟨txt.is_fresh w, below_of (World.grownBy_alloc _ _ _)⟩
  go_enter Tryd.func57, Tryd.ntmps57
  go_wp2_with fail
  go_loopw [11] (fun i wr => ∃ k : Nat, k ≤ LL.length ∧ i = .int .i64 k ∧ Hid ((LL.take k).all okAll = true) ∧ Hid (txt.Mid w wr (lines (LL.take k)))) (fun i _ => LL.length - (intOf i).toNat)
  case atStart => exact ⟨0, Nat.zero_le _, rfl, by rw [List.take_zero]; exact (rfl : ([] : List (List Int)).all okAll = true), by rw [List.take_zero]; exact unhide START⟩
  case round =>
    obtain ⟨k, hk, rfl, hall, hm⟩ := hrel
    clear START
    have hll := lines_len (LL.take k)
    rw [List.length_take] at hll
    have hll' : (lines (LL.take k)).length ≤ 371000 := by omega
    clear hll
    have gw := of_below (unhide hm).2
    by_cases hlt : k < LL.length
    · rcases unhide HA with h | ⟨b, off, rfl, hb, hcb⟩
      · rw [h] at hlt
        simp at hlt
      · obtain ⟨u, hu, hs⟩ := hcb k hlt
        have c1 : wr.cell? ⟨b, off + k, none⟩ = some u := gw.cell hu (fun e => by cases e)
        have hi' : (k : Int) < (LL.length : Int) := by omega
        have ST := hide (lines_step LL k hlt)
        have hL := Nat.le_trans (css.tot_in LL k) hn
        have AS := hide (fun h => all_step hlt (unhide hall) h)
        have PK := hide (unhide PB k hlt)
        generalize LL.getD k [] = L at *
        have CO := cls.implClauseOk u L wr hL (hs.kept gw (.inl rfl))
        have CT := hide (txt.implClauseText u L wr ((unhide HT).kept gw) hL (hs.kept gw (.inl rfl)))
        have htl := text_len L
        cases hok : okAll L
        · rw [hok] at CO
          have CO' := hide CO
          have E := hide (unhide PK hok)
          have GW := hide gw
          clear CO CT hok hcb hs hu gw PK AS
          go_wp2_with fail
          refine (unhide CO').mono ?_; rintro e w2 ⟨rfl, hw⟩; have hw' := hw.symm; clear hw; subst hw'
          go_wp2_with fail
          go_ret
          exact ⟨by rw [unhide E]; rfl, unhide GW⟩
        · rw [hok] at CO
          have CO' := hide CO
          have A1 := hide (unhide AS hok)
          clear CO hok hcb HA hs hu gw hL PK AS
          generalize lines (LL.take k) = o at *
          generalize text L = t at *
          go_wp2_with fail
          refine (unhide CO').mono ?_; rintro e w2 ⟨rfl, hw⟩; have hw' := hw.symm; clear hw; subst hw'
          go_wp2_with fail
          refine (unhide CT).mono ?_; rintro e w6 ⟨rfl, g6⟩
          have B6 := hide (Below.trans (unhide hm).2 ((below_of g6).mono (unhide hm).2.size))
          have I6 := hide (txt.is_kept (unhide hm).1 g6)
          clear g6 CT hm
          have hsz : (⟨t.toArray⟩ : ByteArray).size = t.length := by simp [ByteArray.size]
          have HO := hide hll'
          clear hll'
          have WS := hide (bld.writeString w.heap.size w.heap.size (Lib.byteCells o) ⟨t.toArray⟩ w6 (unhide I6) (by have := unhide HO; rw [Lib.byteCells_length, hsz]; omega) (unhide B6).size)
          clear hsz
          unfold str
          go_wp2_with fail
          refine (unhide WS).mono ?_; rintro e w7 ⟨rfl, u7, b7⟩
          have M7 := hide (txt.Mid.string u7 b7 (unhide B6))
          clear u7 b7 B6 I6 WS
          have WB := hide (bld.writeByte w.heap.size w.heap.size (Lib.byteCells (o ++ t)) 10 w7 (unhide M7).1 (by have := unhide HO; rw [Lib.byteCells_length, List.length_append]; omega) (unhide M7).2.size)
          go_wp2_with fail
          refine (unhide WB).mono ?_; rintro e w8 ⟨rfl, u8, b8⟩
          have M8 := hide (txt.Mid.byte 10 u8 b8 (unhide M7).2)
          clear u8 b8 M7 WB
          go_wp2_with fail
          go_roundw
          case rel => exact ⟨k + 1, by omega, by go_num, unhide A1, by rw [unhide ST, ← List.append_assoc]; exact M8⟩
          case measure => simp [intOf]; omega
    · have hi' : ¬ (k : Int) < (LL.length : Int) := by omega
      have e : LL.take k = LL := List.take_of_length_le (by omega)
      rw [e] at hm hll' hall
      have E := hide (unhide PY (unhide hall))
      clear HA e gw PB PY
      generalize lines LL = q at *
      have SA := hide (Tryd.Builder_String_any w.heap.size w.heap.size q wr (unhide hm).1 (unhide hm).2.size)
      go_wp2_with fail
      refine (unhide SA).mono ?_; rintro e w6 ⟨rfl, b6⟩
      have B6 := hide ((unhide hm).2.trans b6)
      clear b6 SA
      go_wp2_with fail
      go_ret
      exact ⟨by rw [unhide E]; rfl, of_below (unhide B6)⟩
set_option maxHeartbeats 4000000 in
set_option maxRecDepth 100000 in
theorem specProofText (v : Value) (LL : List (List Int)) (w : World) (hn : tot LL ≤ 1048576) (hv : Sls w v LL) :
    Calls Tryd.prog 56 #[v] w fun e w' => e = .returned (str (prf LL)) ∧ w.grownBy w' none := by
  have hl := Nat.le_trans (css.tot_len LL) hn
  obtain ⟨a, cap, rfl, ha⟩ := hv
  have HA := hide ha
  clear ha
  by_cases hbig : 700 < LL.length
  · rw [prf_long hbig]
    have hi : (700 : Int) < (LL.length : Int) := by omega
    clear hbig
    go_enter Tryd.func56, Tryd.ntmps56
    go_wp2_with fail
    go_ret
    exact ⟨rfl, grown_refl _⟩
  have hi : ¬ (700 : Int) < (LL.length : Int) := by omega
  have PB := hide (fun k (hk : k < LL.length) h => prf_bad (LL := LL) hk h)
  have PY := hide (fun h => prf_yes (LL := LL) (by omega) h)
  generalize prf LL = T at *
  have START := hide (nil_bytes w)
  go_enter Tryd.func56, Tryd.ntmps56
  go_wp2_with fail
  go_loopw [3, 4] (fun u i wr => ∃ k : Nat, k ≤ LL.length ∧ i = .int .i64 k ∧ Hid ((LL.take k).all okAll = true) ∧ Hid (MadeB w wr u (lines (LL.take k)))) (fun _ i _ => LL.length - (intOf i).toNat)
  case atStart => exact ⟨0, Nat.zero_le _, rfl, by rw [List.take_zero]; exact (rfl : ([] : List (List Int)).all okAll = true), by rw [List.take_zero]; exact unhide START⟩
  case round =>
    obtain ⟨k, hk, rfl, hall, hm⟩ := hrel
    clear START
    have hll := lines_len (LL.take k)
    rw [List.length_take] at hll
    have hll' : (lines (LL.take k)).length ≤ 371000 := by omega
    clear hll
    have gw := (unhide hm).2
    obtain ⟨g, c, rfl⟩ := (unhide hm).1.form
    by_cases hlt : k < LL.length
    · rcases unhide HA with h | ⟨b, off, rfl, hb, hcb⟩
      · rw [h] at hlt
        simp at hlt
      · obtain ⟨u, hu, hs⟩ := hcb k hlt
        have c1 : wr.cell? ⟨b, off + k, none⟩ = some u := gw.cell hu (fun e => by cases e)
        have hi' : (k : Int) < (LL.length : Int) := by omega
        have ST := hide (lines_step LL k hlt)
        have hL := Nat.le_trans (css.tot_in LL k) hn
        have AS := hide (fun h => all_step hlt (unhide hall) h)
        have PK := hide (unhide PB k hlt)
        generalize LL.getD k [] = L at *
        have CO := cls.specClauseOk u L wr hL (hs.kept gw (.inl rfl))
        have CT := hide (txt.specClauseText u L wr hL (hs.kept gw (.inl rfl)))
        have htl := text_len L
        cases hok : okAll L
        · rw [hok] at CO
          have CO' := hide CO
          have E := hide (unhide PK hok)
          have GW := hide gw
          clear CO CT hok hcb hs hu gw PK AS
          go_wp2_with fail
          refine (unhide CO').mono ?_; rintro e w2 ⟨rfl, hw⟩; have hw' := hw.symm; clear hw; subst hw'
          go_wp2_with fail
          go_ret
          exact ⟨by rw [unhide E]; rfl, unhide GW⟩
        · rw [hok] at CO
          have CO' := hide CO
          have A1 := hide (unhide AS hok)
          clear CO hok hcb HA hs hu gw hL PK AS
          generalize lines (LL.take k) = q at *
          generalize text L = r at *
          obtain ⟨u2, w3, hcv, hm3⟩ := byt.run_of wr (r ++ [10]) (by rw [List.length_append]; simp only [List.length_cons, List.length_nil]; omega)
          rw [← cat6] at hcv
          have M3 := hide hm3
          have MM := hide (show MadeB w w3 _ q from ⟨(unhide hm).1.kept hm3.2, grown_trans (unhide hm).2 hm3.2⟩)
          have hbd : q.length + (r ++ [10]).length ≤ 4194304 := by rw [List.length_append]; simp only [List.length_cons, List.length_nil]; omega
          have HBD := hide hbd
          obtain ⟨m, hm0⟩ : ∃ m, m = q.length := ⟨_, rfl⟩
          unfold str at CT
          rw [← hm0] at MM ⊢
          clear hm3 hbd hm hm0 hll'
          go_wp2_with fail
          refine (unhide CO').mono ?_; rintro e w2 ⟨rfl, hw⟩; have hw' := hw.symm; clear hw; subst hw'
          go_wp2_with fail
          refine (unhide CT).mono ?_; rintro e w2 ⟨rfl, hw⟩; have hw' := hw.symm; clear hw; subst hw'
          go_wp2_with (at_builtin; refine byt.app (unhide MM) (unhide M3).1 (unhide HBD) rfl _ _ rfl rfl rfl ?_)
          intro v' w4 R
          have R4 := hide R
          clear R
          go_wp2_with fail
          go_roundw
          case rel => exact ⟨k + 1, by omega, by go_num, unhide A1, by rw [unhide ST]; exact R4⟩
          case measure => simp [intOf]; omega
    · have hi' : ¬ (k : Int) < (LL.length : Int) := by omega
      have e : LL.take k = LL := List.take_of_length_le (by omega)
      rw [e] at hm hll' hall ⊢
      have E := hide (unhide PY (unhide hall))
      have GW := hide gw
      clear HA e gw PB PY
      generalize lines LL = q at *
      have hcv := byt.run_back wr _ q _ (unhide hm).1
      unfold str at hcv
      go_wp2_with fail
      go_ret
      exact ⟨by rw [unhide E]; rfl, unhide GW⟩
end Go.Proofs.YtgcglpdemolcoaaDoor.pt
