/- What ClauseText (of the program and of its model) answers at every list of at most 2^20 numbers, where the library's table of powers lies as its text lays it. -/
import Derived.Test.YtfokbkaommfnoaaGreatDoorTxtM
import Derived.Test.YtfokbkaommfnoaaGreatDoorShf
import Derived.Test.YtfokbkaommfnoaaGreatDoorBld
import Derived.WalkSmall
namespace Go.Proofs.YtfokbkaommfnoaaGreatDoor.txt
open Go.ChangeShapes Go.WideShapes Go.ChangeAt Go.RowKit
open Go.Proofs.YtfokbkaommfnoaaGreatDoor.lits (okB okB_iff)
open Go.Proofs.YtfokbkaommfnoaaGreatDoor.cls (okAll)
open Go.Proofs.YtfokbkaommfnoaaGreatDoor.dec (str)
open Go.Proofs.YtfokbkaommfnoaaGreatDoor.sl (Sl hide unhide grown_refl grown_trans of_below below_of)
set_option linter.unusedVariables false

theorem cat3 (a b : List UInt8) (c : UInt8) : Value.string ((⟨a.toArray⟩ : ByteArray) ++ ⟨b.toArray⟩ ++ ⟨#[c]⟩) = str (a ++ (b ++ [c])) := by
  unfold str
  have e : (⟨a.toArray⟩ : ByteArray) ++ ⟨b.toArray⟩ ++ ⟨#[c]⟩ = ⟨(a ++ (b ++ [c])).toArray⟩ := ByteArray.ext (by simp)
  rw [e]
theorem ret2 (a : List UInt8) (c : UInt8) : Ending.returned (Value.string ((⟨a.toArray⟩ : ByteArray) ++ ⟨#[c]⟩)) = .returned (str (a ++ [c])) := by
  unfold str
  have e : (⟨a.toArray⟩ : ByteArray) ++ ⟨#[c]⟩ = ⟨(a ++ [c]).toArray⟩ := ByteArray.ext (by simp)
  rw [e]

theorem specClauseText (v : Value) (L : List Int) (w : World) (hL : L.length ≤ 1048576) (hv : Sl w v L) :
    Calls Tryz.prog 27 #[v] w fun e w' => e = .returned (str (text L)) ∧ w' = w := by
  have c1 := cls.specClauseOk v L w hL hv
  cases hok : okAll L
  · rw [hok] at c1
    rw [text_no hok]
    have C1 := hide c1
    clear c1 hok hv
    go_enter Tryz.func27, Tryz.ntmps27
    go_wp2_with fail
    refine (unhide C1).mono ?_; rintro e w2 ⟨rfl, hw⟩; have hw' := hw.symm; clear hw; subst hw'
    go_wp2_with fail
    go_ret
    exact ⟨rfl, rfl⟩
  · rw [hok] at c1
    rw [text_yes hok]
    have C1 := hide c1
    have HOK := hide hok
    have hall : L.all okB = true := by
      unfold okAll at hok
      rw [Bool.and_eq_true] at hok
      exact hok.1
    have HALL := hide hall
    clear c1 hok hall
    obtain ⟨a, cap, rfl, ha⟩ := hv
    have HA := hide ha
    clear ha
    go_enter Tryz.func27, Tryz.ntmps27
    go_wp2_with fail
    refine (unhide C1).mono ?_; rintro e w2 ⟨rfl, hw⟩; have hw' := hw.symm; clear hw; subst hw'
    clear C1
    go_wp2_with fail
    go_loop [3, 4] (fun s i => ∃ k : Nat, k ≤ L.length ∧ i = .int .i64 k ∧ s = str (body (L.take k))) (fun _ i => L.length - (intOf i).toNat)
    case atStart => exact ⟨0, Nat.zero_le _, rfl, rfl⟩
    case round =>
      obtain ⟨k, hk, rfl, rfl⟩ := hrel
      have hbl := body_take_len (unhide HOK) k
      by_cases hlt : k < L.length
      · rcases unhide HA with h | ⟨b, off, rfl, hb, hcb⟩
        · rw [h] at hlt
          simp at hlt
        · have c1 := hcb k hlt
          have hi' : (k : Int) < (L.length : Int) := by omega
          have hx := lit_of (unhide HALL) hlt
          have st := body_step L k hlt
          generalize L.getD k 0 = x at *
          generalize body (L.take k) = o at *
          have ST := hide st
          have CD := hide (dec.l01Dec x w (by omega) (by omega))
          have hil := itoa_len (x := x) (by omega) (by omega)
          clear st hcb HA hx
          generalize Lib.itoa x = t at *
          unfold str
          unfold str at CD
          go_wp2_with (go_at_call 26; refine (unhide CD).mono ?_; rintro e w2 ⟨rfl, hw⟩; have hw' := hw.symm; clear hw; subst hw')
          go_round
          case rel => exact ⟨k + 1, by omega, by go_num, by rw [unhide ST]; exact cat3 o t 32⟩
          case measure => simp [intOf]; omega
      · have hi' : ¬ (k : Int) < (L.length : Int) := by omega
        have HK : Hid (L.take k = L) := by show L.take k = L; exact List.take_of_length_le (by omega)
        clear HA
        unfold str
        go_wp2
        go_ret
        exact ⟨by rw [unhide HK]; exact ret2 (body L) 48, rfl⟩

theorem grown_grow (w : World) (k : Nat) (os : Array Obj) : w.grownBy (Go.Sort.grow (w.drewN k) os) none := by
  refine ⟨rfl, rfl, rfl, ?_, fun i hi _ => ?_⟩
  · show w.heap.size ≤ (w.heap ++ os).size
    rw [Array.size_append]
    omega
  · show (w.heap ++ os)[i]? = _
    exact Array.getElem?_append_left hi

/-- the library's table of powers of ten, in its variable -/
def Pow (w : World) : Prop := 1 < w.heap.size ∧ Lib.TabIs Tryz.prog w "internal/strconv.uint64pow10" .u64 Lib.pow10Tab
theorem gPow : Tryz.prog.globalNamed "internal/strconv.uint64pow10" = some 1 := by kernel_rfl
theorem Pow.below {w w' : World} (h : Pow w) (b : Below w.heap.size w w') : Pow w' :=
  ⟨Nat.lt_of_lt_of_le h.1 b.size, var?_below b gPow h.1 h.2⟩
theorem Pow.kept {w w' : World} (h : Pow w) (g : w.grownBy w' none) : Pow w' := h.below (below_of g)

theorem litText (x : Int) (w : World) (hx : -24 ≤ x ∧ x ≤ 24) (hT : Pow w) :
    Calls Tryz.prog 50 #[.int .i8 x] w fun e w' => e = .returned (str (Lib.itoa x)) ∧ w.grownBy w' none := by
  have C := hide (Tryz.strconv_Itoa x (by omega) (by omega) w hT.2)
  obtain ⟨x0, x1⟩ := hx
  clear hT
  go_enter Tryz.func50, Tryz.ntmps50
  go_wp2_with fail
  refine (unhide C).mono ?_; rintro e w1 ⟨rfl, k, os, hw⟩
  have G : Hid (w.grownBy w1 none) := by
    show w.grownBy w1 none
    rw [hw]
    exact grown_grow w k os
  clear hw C
  go_wp2_with fail
  go_ret
  exact ⟨rfl, unhide G⟩

/-- a builder stays while memory is made elsewhere -/
theorem is_kept {B b : Nat} {bs : List Value} {w w' : World} (h : bld.Is B b bs w) (g : w.grownBy w' none) : bld.Is B b bs w' := by
  have one : ∀ p, Lib.BuilderAt 42 5 B b p bs w → Lib.BuilderAt 42 5 B b p bs w' := by
    rintro p ⟨hB, v, hb, hown, hne⟩
    refine ⟨hB, v, (g.block b (Array.getElem?_eq_some_iff.1 hb).1 (fun e => by cases e)).trans hb, hown.kept g ?_, hne⟩
    cases v.ownBlock with
    | none => exact .inl rfl
    | some k => exact .inr (fun e => by cases e)
  cases h with
  | inl h => exact .inl (one _ h)
  | inr h => exact .inr (one _ h)
theorem is_fresh (w : World) : bld.Is w.heap.size w.heap.size [] (w.alloc (.cells #[.pointer none, .slice none 0 0] 42)) :=
  .inl ⟨Nat.le_refl _, .slice none 0 0, heap_alloc_new w _, World.ownsRow_nil _ _ _ _, fun e => by cases e⟩

/-- the builder in the middle of the loop -/
def Mid (w wr : World) (t : List UInt8) : Prop := bld.Is w.heap.size w.heap.size (Lib.byteCells t) wr ∧ Below w.heap.size w wr
theorem Mid.string {w wr w1 : World} {t u : List UInt8} (h : bld.Used w.heap.size w.heap.size (Lib.byteCells t ++ Lib.strCells ⟨u.toArray⟩) w1) (b : Below w.heap.size wr w1) (m : Below w.heap.size w wr) : Mid w w1 (t ++ u) := by
  refine ⟨.inr ?_, m.trans b⟩
  rw [Lib.byteCells_append]
  exact h
theorem Mid.byte {w wr w1 : World} {t : List UInt8} (c : UInt8) (h : bld.Used w.heap.size w.heap.size (Lib.byteCells t ++ [.int .u8 (c.toNat : Int)]) w1) (b : Below w.heap.size wr w1) (m : Below w.heap.size w wr) : Mid w w1 (t ++ [c]) := by
  refine ⟨.inr ?_, m.trans b⟩
  rw [Lib.byteCells_append]
  exact h

set_option maxHeartbeats 800000 in
theorem implClauseText (v : Value) (L : List Int) (w : World) (hT : Pow w) (hL : L.length ≤ 1048576) (hv : Sl w v L) :
    Calls Tryz.prog 22 #[v] w fun e w' => e = .returned (str (text L)) ∧ w.grownBy w' none := by
  have c1 := cls.implClauseOk v L w hL hv
  cases hok : okAll L
  · rw [hok] at c1
    rw [text_no hok]
    have C1 := hide c1
    clear c1 hok hv hT
    go_enter Tryz.func22, Tryz.ntmps22
    go_wp2_with fail
    refine (unhide C1).mono ?_; rintro e w2 ⟨rfl, hw⟩; have hw' := hw.symm; clear hw; subst hw'
    go_wp2_with fail
    go_ret
    exact ⟨rfl, grown_refl _⟩
  · rw [hok] at c1
    rw [text_yes hok]
    have C1 := hide c1
    have HOK := hide hok
    have hall : L.all okB = true := by
      unfold okAll at hok
      rw [Bool.and_eq_true] at hok
      exact hok.1
    have HALL := hide hall
    have HT := hide hT
    have START : Hid (Mid w (w.alloc (.cells #[.pointer none, .slice none 0 0] 42)) (body (L.take 0))) := ⟨is_fresh w, below_of (World.grownBy_alloc _ _ _)⟩
    clear c1 hok hall hT
    obtain ⟨a, cap, rfl, ha⟩ := hv
    have HA := hide ha
    clear ha
    go_enter Tryz.func22, Tryz.ntmps22
    go_wp2_with fail
    refine (unhide C1).mono ?_; rintro e w2 ⟨rfl, hw⟩; have hw' := hw.symm; clear hw; subst hw'
    clear C1
    go_wp2_with fail
    go_loopw [13] (fun i wr => ∃ k : Nat, k ≤ L.length ∧ i = .int .i64 k ∧ Hid (Mid w wr (body (L.take k)))) (fun i _ => L.length - (intOf i).toNat)
    case atStart => exact ⟨0, Nat.zero_le _, rfl, START⟩
    case round =>
      obtain ⟨k, hk, rfl, hm⟩ := hrel
      clear START
      have hbl := body_take_len (unhide HOK) k
      by_cases hlt : k < L.length
      · rcases unhide HA with h | ⟨b, off, rfl, hb, hcb⟩
        · rw [h] at hlt
          simp at hlt
        · have c1 : wr.cell? ⟨b, off + k, none⟩ = some (.int .i64 (L.getD k 0)) := ((unhide hm).2.cell (p := ⟨b, off + k, none⟩) hb).trans (hcb k hlt)
          have hi' : (k : Int) < (L.length : Int) := by omega
          have hx := lit_of (unhide HALL) hlt
          have ST := hide (body_step L k hlt)
          generalize L.getD k 0 = x at *
          generalize body (L.take k) = o at *
          have CO := hide (lits.litOf_yes x wr hx)
          have CT := hide (litText x wr hx.2 ((unhide HT).below (unhide hm).2))
          have hil := itoa_len (x := x) (by omega) (by omega)
          clear hcb HA hx
          generalize Lib.itoa x = t at *
          go_wp2_with fail
          refine (unhide CO).mono ?_; rintro e w2 ⟨rfl, hw⟩; have hw' := hw.symm; clear hw; subst hw'
          go_wp2_with fail
          refine (unhide CT).mono ?_; rintro e w3 ⟨rfl, g3⟩
          have B3 := hide (Below.trans (unhide hm).2 ((below_of g3).mono (unhide hm).2.size))
          have I3 := hide (is_kept (unhide hm).1 g3)
          clear g3 CO CT hm
          unfold str
          have hsz : (⟨t.toArray⟩ : ByteArray).size = t.length := by simp [ByteArray.size]
          have WS := hide (bld.writeString w.heap.size w.heap.size (Lib.byteCells o) ⟨t.toArray⟩ w3 (unhide I3) (by rw [Lib.byteCells_length, hsz]; omega) (unhide B3).size)
          clear hsz
          go_wp2_with fail
          refine (unhide WS).mono ?_; rintro e w4 ⟨rfl, u4, b4⟩
          have M4 := hide (Mid.string u4 b4 (unhide B3))
          clear u4 b4 B3 I3 WS
          have WB := hide (bld.writeByte w.heap.size w.heap.size (Lib.byteCells (o ++ t)) 32 w4 (unhide M4).1 (by rw [Lib.byteCells_length, List.length_append]; omega) (unhide M4).2.size)
          go_wp2_with fail
          refine (unhide WB).mono ?_; rintro e w5 ⟨rfl, u5, b5⟩
          have M5 := hide (Mid.byte 32 u5 b5 (unhide M4).2)
          clear u5 b5 M4 WB
          go_wp2_with fail
          go_roundw
          case rel => exact ⟨k + 1, by omega, by go_num, by rw [unhide ST, ← List.append_assoc]; exact M5⟩
          case measure => simp [intOf]; omega
      · have hi' : ¬ (k : Int) < (L.length : Int) := by omega
        have e : L.take k = L := List.take_of_length_le (by omega)
        rw [e] at hm hbl
        clear HA e
        have WB := hide (bld.writeByte w.heap.size w.heap.size (Lib.byteCells (body L)) 48 wr (unhide hm).1 (by rw [Lib.byteCells_length]; omega) (unhide hm).2.size)
        go_wp2_with fail
        refine (unhide WB).mono ?_; rintro e w5 ⟨rfl, u5, b5⟩
        have M5 := hide (Mid.byte 48 u5 b5 (unhide hm).2)
        clear u5 b5 hm WB
        have SA := hide (Tryz.Builder_String_any w.heap.size w.heap.size (body L ++ [48]) w5 (unhide M5).1 (unhide M5).2.size)
        go_wp2_with fail
        refine (unhide SA).mono ?_; rintro e w6 ⟨rfl, b6⟩
        have B6 := hide ((unhide M5).2.trans b6)
        clear b6 M5 SA
        go_wp2_with fail
        go_ret
        exact ⟨rfl, of_below (unhide B6)⟩
end Go.Proofs.YtfokbkaommfnoaaGreatDoor.txt
