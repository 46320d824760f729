/- Formulas as texts: what headText, a builder's Len and CnfText of the program answer at every formula of at most 2^20 numbers, where the library's table of powers lies as its text lays it. -/
import Derived.Test.YtfokbkaommfnoaaGreatDoorTxtW
import Derived.Test.YtfokbkaommfnoaaGreatDoorOk
namespace Go.Proofs.YtfokbkaommfnoaaGreatDoor.cx
open Go.ChangeShapes Go.WideShapes Go.ChangeAt Go.RowKit
open Go.Proofs.YtfokbkaommfnoaaGreatDoor.sl (Sl hide unhide grown_refl grown_trans grown_drewN of_below below_of)
open Go.Proofs.YtfokbkaommfnoaaGreatDoor.dec (str)
open Go.Proofs.YtfokbkaommfnoaaGreatDoor.css (Sls tot)
open Go.Proofs.YtfokbkaommfnoaaGreatDoor.ok (cnfB clB)
open Go.Proofs.YtfokbkaommfnoaaGreatDoor.txt (Pow text body)
set_option linter.unusedVariables false

/-- a formula's first line -/
def hd (n c : Int) : List UInt8 := [112, 32, 99, 110, 102, 32] ++ Lib.itoa n ++ [32] ++ Lib.itoa c
/-- its clauses' lines -/
def lines (LL : List (List Int)) : List UInt8 := LL.flatMap fun L => text L ++ [10]
/-- .. and both -/
def whole (n : Int) (LL : List (List Int)) : List UInt8 := hd n (LL.length : Int) ++ [10] ++ lines LL
/-- CnfText -/
def cnfT (n : Int) (LL : List (List Int)) : List UInt8 := if cnfB n LL && decide ((whole n LL).length ≤ 12000) then whole n LL else []
theorem cnfT_no {n : Int} {LL : List (List Int)} (h : cnfB n LL = false) : cnfT n LL = [] := by unfold cnfT; rw [h]; rfl
theorem cnfT_long {n : Int} {LL : List (List Int)} (h : 12000 < (whole n LL).length) : cnfT n LL = [] := by
  unfold cnfT
  rw [decide_eq_false (by omega), Bool.and_false]
  rfl
theorem cnfT_yes {n : Int} {LL : List (List Int)} (h : cnfB n LL = true) (hl : ¬ 12000 < (whole n LL).length) : cnfT n LL = whole n LL := by
  unfold cnfT
  rw [h, decide_eq_true (by omega)]
  rfl
theorem itoa_len {x : Int} (h1 : -9223372036854775808 ≤ x) (h2 : x ≤ 9223372036854775807) : (Lib.itoa x).length ≤ 20 := by
  unfold Lib.itoa
  split
  · have a := Lib.decDigits_length x.natAbs
    have b := dec.nDigits_le 19 x.natAbs (by decide) (by omega)
    rw [List.length_cons]
    omega
  · have a := Lib.decDigits_length x.toNat
    have b := dec.nDigits_le 19 x.toNat (by decide) (by omega)
    omega
theorem hd_len {n c : Int} (h1 : -9223372036854775808 ≤ n ∧ n ≤ 9223372036854775807) (h2 : -9223372036854775808 ≤ c ∧ c ≤ 9223372036854775807) : (hd n c).length ≤ 47 := by
  have a := itoa_len h1.1 h1.2
  have b := itoa_len h2.1 h2.2
  unfold hd
  simp only [List.length_append, List.length_cons, List.length_nil]
  omega
theorem text_len (L : List Int) : (text L).length ≤ 529 := by
  cases h : cls.okAll L
  · rw [txt.text_no h]
    simp
  · rw [txt.text_yes h, List.length_append]
    have := txt.body_take_len h L.length
    rw [List.take_length] at this
    simp only [List.length_cons, List.length_nil]
    omega
theorem lines_len (LL : List (List Int)) : (lines LL).length ≤ 530 * LL.length := by
  induction LL with
  | nil => simp [lines]
  | cons L LL ih =>
    have e : lines (L :: LL) = text L ++ [10] ++ lines LL := by simp [lines]
    have := text_len L
    rw [e]
    simp only [List.length_append, List.length_cons, List.length_nil]
    omega
theorem lines_step (LL : List (List Int)) (k : Nat) (h : k < LL.length) : lines (LL.take (k + 1)) = lines (LL.take k) ++ (text (LL.getD k []) ++ [10]) := by
  rw [css.take_snoc LL k h]
  simp [lines]
theorem cat4 (a b : List UInt8) : Ending.returned (Value.string ((⟨#[112, 32, 99, 110, 102, 32]⟩ : ByteArray) ++ ⟨a.toArray⟩ ++ ⟨#[32]⟩ ++ ⟨b.toArray⟩)) = .returned (str ([112, 32, 99, 110, 102, 32] ++ a ++ [32] ++ b)) := by
  unfold str
  have e : (⟨#[112, 32, 99, 110, 102, 32]⟩ : ByteArray) ++ ⟨a.toArray⟩ ++ ⟨#[32]⟩ ++ ⟨b.toArray⟩ = ⟨([112, 32, 99, 110, 102, 32] ++ a ++ [32] ++ b).toArray⟩ := ByteArray.ext (by simp)
  rw [e]

set_option maxHeartbeats 800000 in
theorem headText (n c : Int) (w : World) (hT : Pow w) (hn : -9223372036854775808 ≤ n ∧ n ≤ 9223372036854775807) (hc : -9223372036854775808 ≤ c ∧ c ≤ 9223372036854775807) :
    Calls Tryz.prog 20 #[.int .i64 n, .int .i64 c] w fun e w' => e = .returned (str (hd n c)) ∧ w.grownBy w' none := by
  have C := hide (fun w' (h : Pow w') => Tryz.strconv_Itoa n hn.1 hn.2 w' h.2)
  have D := hide (fun w' (h : Pow w') => Tryz.strconv_Itoa c hc.1 hc.2 w' h.2)
  have l1 := itoa_len hn.1 hn.2
  have l2 := itoa_len hc.1 hc.2
  unfold hd
  generalize Lib.itoa n = s at *
  generalize Lib.itoa c = t at *
  have HT := hide hT
  clear hT hn hc
  go_enter Tryz.func20, Tryz.ntmps20
  go_wp2_with fail
  refine (unhide C _ (unhide HT)).mono ?_; rintro e w1 ⟨rfl, k, os, hw⟩
  have G : Hid (w.grownBy w1 none) := by
    show w.grownBy w1 none
    rw [hw]
    exact txt.grown_grow w k os
  clear hw C
  have HT1 := hide ((unhide HT).kept (unhide G))
  go_wp2_with fail
  refine (unhide D _ (unhide HT1)).mono ?_; rintro e w2 ⟨rfl, k, os, hw⟩
  have G2 : Hid (w.grownBy w2 none) := by
    show w.grownBy w2 none
    rw [hw]
    exact grown_trans (unhide G) (txt.grown_grow w1 k os)
  clear hw D
  go_wp2_with fail
  go_ret
  exact ⟨cat4 s t, unhide G2⟩

theorem row_len {B : Nat} {e : TypeId} {v : Value} {xs : List Value} {n : Nat} {w : World} (h : w.ownsRow B e 1 v n xs) : ∃ a cap, v = .slice a n cap := by
  rcases h with ⟨_, ⟨rfl, rfl⟩ | ⟨k, cap, _, rfl, _⟩⟩
  · exact ⟨_, _, rfl⟩
  · exact ⟨_, _, rfl⟩

theorem builderLen (B b : Nat) (bs : List Value) (w : World) (hl : bs.length ≤ 4194304) (h : bld.Is B b bs w) :
    Calls Tryz.prog 23 #[.pointer (some ⟨b, 0, none⟩)] w fun e w' => e = .returned (.int .i64 (bs.length : Int)) ∧ w' = w := by
  have hx : ∃ a cap, w.cell? ⟨b, 1, none⟩ = some (.slice a bs.length cap) := by
    rcases h with ⟨_, v, hb, ho, _⟩ | ⟨_, v, hb, ho, _⟩
    · obtain ⟨a, cap, rfl⟩ := row_len ho
      exact ⟨a, cap, by simp [World.cell?, hb]⟩
    · obtain ⟨a, cap, rfl⟩ := row_len ho
      exact ⟨a, cap, by simp [World.cell?, hb]⟩
  obtain ⟨a, cap, c1⟩ := hx
  clear h
  generalize bs.length = m at *
  go_enter Tryz.func23, Tryz.ntmps23
  go_wp2
  go_ret
  exact ⟨rfl, rfl⟩

set_option maxHeartbeats 800000 in
theorem implCnfText (v : Value) (n : Int) (LL : List (List Int)) (w : World) (hT : Pow w) (hn : tot LL ≤ 1048576) (hv : Sls w v LL) :
    Calls Tryz.prog 7 #[.agg #[.int .i64 n, v]] w fun e w' => e = .returned (str (cnfT n LL)) ∧ w.grownBy w' none := by
  have g0 := World.grownBy_alloc w (.cells #[.int .i64 n, v] 26) none
  have cc := ok.implCnfOk v n LL _ hn (hv.kept g0)
  have F0 := hide (cf.Box.new 26 w (.int .i64 n) v)
  have G0 := hide g0
  obtain ⟨a, cap, rfl, ha⟩ := hv
  have HA := hide ha
  have HT := hide hT
  clear ha g0 hT
  cases hok : cnfB n LL
  · rw [hok] at cc
    rw [cnfT_no hok]
    have C1 := hide cc
    clear cc hok HA HT
    go_enter Tryz.func7, Tryz.ntmps7
    go_wp2_with fail
    refine (unhide C1).mono ?_; rintro e w1 ⟨rfl, g1⟩
    have G1 := hide (grown_trans (r := none) (unhide G0) g1)
    clear g1 F0 C1
    go_wp2_with fail
    go_ret
    exact ⟨rfl, unhide G1⟩
  · rw [hok] at cc
    have hb : (0 ≤ n ∧ n ≤ 24) ∧ LL.length ≤ 120 := by
      have h := hok
      unfold ok.cnfB at h
      simp only [Bool.and_eq_true, decide_eq_true_iff] at h
      exact ⟨h.1.1, h.1.2⟩
    have T0 := hide (fun h : 12000 < (whole n LL).length => cnfT_long h)
    have T1 := hide (fun h : ¬ 12000 < (whole n LL).length => cnfT_yes hok h)
    have HL := hide (hd_len (n := n) (c := (LL.length : Int)) (by omega) (by omega))
    have HX := hide (fun w' (h : Pow w') => headText n (LL.length : Int) w' h (by omega) (by omega))
    have C1 := hide cc
    have hl120 := hb.2
    unfold whole at T0 T1
    clear cc hok hb
    generalize cnfT n LL = T at *
    go_enter Tryz.func7, Tryz.ntmps7
    go_wp2_with fail
    refine (unhide C1).mono ?_; rintro e w1 ⟨rfl, g1⟩
    have G1 := hide (grown_trans (r := none) (unhide G0) g1)
    have F1 := hide ((unhide F0).kept g1)
    have F2 := hide ((unhide F1).kept (World.grownBy_alloc w1 (.cells #[.pointer none, .slice none 0 0] 42) none))
    have x0 := (unhide F2).c0
    have x1 := (unhide F2).c1
    have START : Hid (txt.Mid w1 (w1.alloc (.cells #[.pointer none, .slice none 0 0] 42)) []) := ⟨txt.is_fresh w1, below_of (World.grownBy_alloc _ _ _)⟩
    have HT2 := hide (((unhide HT).kept (unhide G1)).below (unhide START).2)
    clear g1 F0 C1 G0
    go_wp2_with fail
    refine (unhide HX _ (unhide HT2)).mono ?_; rintro e w3 ⟨rfl, g3⟩
    have B3 := hide (Below.trans (unhide START).2 ((below_of g3).mono (unhide START).2.size))
    have I3 := hide (txt.is_kept (unhide START).1 g3)
    clear g3 START HX HT2
    generalize hd n (LL.length : Int) = H at *
    unfold str
    have hsz : (⟨H.toArray⟩ : ByteArray).size = H.length := by simp [ByteArray.size]
    have hHl := unhide HL
    have WS := hide (bld.writeString w1.heap.size w1.heap.size (Lib.byteCells []) ⟨H.toArray⟩ w3 (unhide I3) (by rw [Lib.byteCells_length, hsz, List.length_nil]; omega) (unhide B3).size)
    clear hsz
    go_wp2_with fail
    refine (unhide WS).mono ?_; rintro e w4 ⟨rfl, u4, b4⟩
    have M4 := hide (txt.Mid.string u4 b4 (unhide B3))
    clear u4 b4 B3 I3 WS x0 x1
    have WB := hide (bld.writeByte w1.heap.size w1.heap.size (Lib.byteCells ([] ++ H)) 10 w4 (unhide M4).1 (by rw [Lib.byteCells_length, List.nil_append]; omega) (unhide M4).2.size)
    go_wp2_with fail
    refine (unhide WB).mono ?_; rintro e w5 ⟨rfl, u5, b5⟩
    have M5 := hide (txt.Mid.byte 10 u5 b5 (unhide M4).2)
    clear u5 b5 M4 WB
    have x1 := ((unhide F1).kept (of_below (unhide M5).2)).c1
    go_wp2_with fail
    go_loopw [20] (fun i wr => ∃ k : Nat, k ≤ LL.length ∧ i = .int .i64 k ∧ Hid (txt.Mid w1 wr (H ++ [10] ++ lines (LL.take k)))) (fun i _ => LL.length - (intOf i).toNat)
    case atStart => exact ⟨0, Nat.zero_le _, rfl, by have := unhide M5; rw [List.nil_append] at this; show txt.Mid _ _ _; rw [List.take_zero]; show txt.Mid _ _ (H ++ [10] ++ []); rw [List.append_nil]; exact this⟩
    case round =>
      obtain ⟨k, hk, rfl, hm⟩ := hrel
      clear M5 x1
      have hll := lines_len (LL.take k)
      rw [List.length_take] at hll
      have hll' : (H ++ [10] ++ lines (LL.take k)).length ≤ 70000 := by
        simp only [List.length_append, List.length_cons, List.length_nil]
        omega
      clear hll
      have gw := grown_trans (r := none) (unhide G1) (of_below (unhide hm).2)
      by_cases hlt : k < LL.length
      · rcases unhide HA with h | ⟨b, off, rfl, hb, hcb⟩
        · rw [h] at hlt
          simp at hlt
        · obtain ⟨u, hu, hs⟩ := hcb k hlt
          have c1 : wr.cell? ⟨b, off + k, none⟩ = some u := gw.cell hu (fun e => by cases e)
          have hi' : (k : Int) < (LL.length : Int) := by omega
          have ST := hide (lines_step LL k hlt)
          have hL := Nat.le_trans (css.tot_in LL k) hn
          generalize LL.getD k [] = L at *
          have CT := hide (txt.implClauseText u L wr ((unhide HT).kept gw) hL (hs.kept gw (.inl rfl)))
          have htl := text_len L
          clear hcb HA hs hu gw hL
          generalize lines (LL.take k) = o at *
          generalize text L = t at *
          go_wp2_with fail
          refine (unhide CT).mono ?_; rintro e w6 ⟨rfl, g6⟩
          have B6 := hide (Below.trans (unhide hm).2 ((below_of g6).mono (unhide hm).2.size))
          have I6 := hide (txt.is_kept (unhide hm).1 g6)
          clear g6 CT hm
          have hsz : (⟨t.toArray⟩ : ByteArray).size = t.length := by simp [ByteArray.size]
          have HO := hide hll'
          clear hll'
          generalize hq0 : H ++ [10] ++ o = q at *
          have HQ := hide hq0
          clear hq0
          have WS := hide (bld.writeString w1.heap.size w1.heap.size (Lib.byteCells q) ⟨t.toArray⟩ w6 (unhide I6) (by have := unhide HO; rw [Lib.byteCells_length, hsz]; omega) (unhide B6).size)
          clear hsz
          go_wp2_with fail
          refine (unhide WS).mono ?_; rintro e w7 ⟨rfl, u7, b7⟩
          have M7 := hide (txt.Mid.string u7 b7 (unhide B6))
          clear u7 b7 B6 I6 WS
          have WB := hide (bld.writeByte w1.heap.size w1.heap.size (Lib.byteCells (q ++ t)) 10 w7 (unhide M7).1 (by have := unhide HO; rw [Lib.byteCells_length, List.length_append]; omega) (unhide M7).2.size)
          go_wp2_with fail
          refine (unhide WB).mono ?_; rintro e w8 ⟨rfl, u8, b8⟩
          have M8 := hide (txt.Mid.byte 10 u8 b8 (unhide M7).2)
          clear u8 b8 M7 WB
          go_wp2_with fail
          go_roundw
          case rel => exact ⟨k + 1, by omega, by go_num, by rw [unhide ST, ← List.append_assoc, ← List.append_assoc, unhide HQ]; exact M8⟩
          case measure => simp [intOf]; omega
      · have hi' : ¬ (k : Int) < (LL.length : Int) := by omega
        have e : LL.take k = LL := List.take_of_length_le (by omega)
        rw [e] at hm hll'
        clear HA e gw HL hHl
        generalize H ++ [10] ++ lines LL = q at *
        have BL := hide (builderLen w1.heap.size w1.heap.size (Lib.byteCells q) wr (by rw [Lib.byteCells_length]; omega) (unhide hm).1)
        rw [Lib.byteCells_length] at BL
        by_cases hq : 12000 < q.length
        · have hq' : (12000 : Int) < (q.length : Int) := by omega
          have E := hide (unhide T0 hq)
          clear T0 T1 hq
          go_wp2_with fail
          refine (unhide BL).mono ?_; rintro e w2 ⟨rfl, hw⟩; have hw' := hw.symm; clear hw; subst hw'
          go_wp2_with fail
          go_ret
          exact ⟨by rw [unhide E]; rfl, grown_trans (unhide G1) (of_below (unhide hm).2)⟩
        · have hq' : ¬ (12000 : Int) < (q.length : Int) := by omega
          have E := hide (unhide T1 hq)
          clear T0 T1 hq
          go_wp2_with fail
          refine (unhide BL).mono ?_; rintro e w2 ⟨rfl, hw⟩; have hw' := hw.symm; clear hw; subst hw'
          have SA := hide (Tryz.Builder_String_any w1.heap.size w1.heap.size q wr (unhide hm).1 (unhide hm).2.size)
          go_wp2_with fail
          refine (unhide SA).mono ?_; rintro e w6 ⟨rfl, b6⟩
          have B6 := hide ((unhide hm).2.trans b6)
          clear b6 SA
          go_wp2_with fail
          go_ret
          exact ⟨by rw [unhide E]; rfl, grown_trans (unhide G1) (of_below (unhide B6))⟩
end Go.Proofs.YtfokbkaommfnoaaGreatDoor.cx
