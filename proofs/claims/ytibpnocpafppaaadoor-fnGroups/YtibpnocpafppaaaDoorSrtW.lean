/- What ClauseSort (of the program and of its model) and the functions under it answer, at every list of at most 2^20 numbers, where the library's table of places lies as its text lays it. -/
import Derived.Test.YtibpnocpafppaaaDoorOp
import Derived.Test.YtibpnocpafppaaaDoorWo
namespace Go.Proofs.YtibpnocpafppaaaDoor.srt
open Go.ChangeShapes Go.WideShapes Go.ChangeAt Go.RowKit
open Go.Proofs.YtibpnocpafppaaaDoor.lits (okB placeI okB_iff okB_yes okB_no)
open Go.Proofs.YtibpnocpafppaaaDoor.bset (setOf placeN setOf_has setOf_lt)
open Go.Proofs.YtibpnocpafppaaaDoor.cls (hasB okAll)
open Go.Proofs.YtibpnocpafppaaaDoor.sl (Sl ints hide unhide ret_int ret_bool grown_refl grown_trans)
set_option linter.unusedVariables false

/-- the library's table in its variable -/
def Tab (w : World) : Prop := ∀ j, j < 64 → w.cell? ⟨0, j, none⟩ = some (.int .u8 (Lib.deBruijn64tab.getD j 0 : Nat))
theorem Tab.kept {w w' : World} (h : Tab w) (g : w.grownBy w' none) : Tab w' :=
  fun j hj => g.cell (h j hj) (fun e => by cases e)
theorem Tab.below {w w' : World} (h : Tab w) (b : Below w.heap.size w w') : Tab w' := h.kept (sl.of_below b)

theorem tz_key (x a : Nat) (hx : x < 18446744073709551616) (hx0 : x ≠ 0) (hlow : x &&& (18446744073709551616 - x) = a) :
    IntKind.u64.wrap (bits BinOp.and IntKind.u64 (x : Int) (IntKind.u64.wrap (-(x : Int))) * 285870213051353865) / 288230376151711744 = ((a * 285870213051353865 % 18446744073709551616 / 288230376151711744 : Nat) : Int) := by
  have e1 : IntKind.u64.wrap (-(x : Int)) = ((18446744073709551616 - x : Nat) : Int) := by rw [IntKind.wrap_u64]; omega
  rw [e1, u64_and_nat x _ hx (by omega), hlow, IntKind.wrap_u64]
  omega
set_option maxHeartbeats 1000000 in
theorem tz_core (x k idx : Nat) (w : World) (hx0 : ((x : Int) == 0) = false)
    (key : IntKind.u64.wrap (bits BinOp.and IntKind.u64 (x : Int) (IntKind.u64.wrap (-(x : Int))) * 285870213051353865) / 288230376151711744 = (idx : Int))
    (hi : idx < 64) (hk : k < 64) (hcell : w.cell? ⟨0, idx, none⟩ = some (.int .u8 k)) :
    Calls Tryd.prog 136 #[.int .u64 x] w fun e w' => e = .returned (.int .i64 k) ∧ w' = w := by
  go_enter Tryd.func136, Tryd.ntmps136
  go_wp2_with (simp only [key])
  go_ret
  exact ⟨rfl, rfl⟩
theorem tz (x : Nat) (w : World) (hT : Tab w) (h0 : 0 < x) (h : x < 2 ^ 48) :
    Calls Tryd.prog 136 #[.int .u64 x] w fun e w' => e = .returned (.int .i64 (Lib.ctz 64 x : Nat)) ∧ w' = w := by
  have h64 : x < 2 ^ 64 := Nat.lt_of_lt_of_le h (by decide)
  obtain ⟨hlow, hk⟩ := Lib.lowest_bit 64 x (by omega) h64
  obtain ⟨hi, htab⟩ := Lib.deBruijn64_at _ hk
  have hcell := hT _ hi
  rw [htab] at hcell
  exact tz_core x _ _ w (by simp; omega) (tz_key x _ h64 (by omega) hlow) hi hk hcell

theorem and127_bd (n : Int) : 0 ≤ bits .and .i64 n 127 ∧ bits .and .i64 n 127 ≤ 127 := by
  rw [i64_and127]
  omega
theorem ones (x : Nat) (w : World) :
    Calls Tryd.prog 137 #[.int .u64 x] w fun e w' => ∃ r : Int, e = .returned (.int .i64 r) ∧ 0 ≤ r ∧ r ≤ 127 ∧ w' = w := by
  go_enter Tryd.func137, Tryd.ntmps137
  go_wp2
  go_ret
  exact ⟨_, rfl, (and127_bd _).1, (and127_bd _).2, rfl⟩

theorem litAt (p : Nat) (w : World) (h : p < 48) : Calls Tryd.prog 135 #[.int .i64 p] w fun e w' => e = .returned (.int .i8 (litI p)) ∧ w' = w := by
  obtain ⟨k, hk | hk⟩ : ∃ k, p = 2 * k ∨ p = 2 * k + 1 := ⟨p / 2, by omega⟩
  · subst hk
    rw [litI_even]
    have e1 : ((2 * k : Nat) : Int) / 2 = (k : Int) := by omega
    have e2 : ((((2 * k : Nat) : Int) % 2) == 1) = false := by rw [show ((2 * k : Nat) : Int) % 2 = 0 from by omega]; rfl
    have hk : k < 24 := by omega
    generalize hp : ((2 * k : Nat) : Int) = q at *
    have q0 : 0 ≤ q := by omega
    have q1 : q < 48 := by omega
    clear hp h
    go_enter Tryd.func135, Tryd.ntmps135
    go_wp2
    go_ret
    exact ⟨rfl, rfl⟩
  · subst hk
    rw [litI_odd]
    have e1 : ((2 * k + 1 : Nat) : Int) / 2 = (k : Int) := by omega
    have e2 : ((((2 * k + 1 : Nat) : Int) % 2) == 1) = true := by rw [show ((2 * k + 1 : Nat) : Int) % 2 = 1 from by omega]; rfl
    have hk : k < 24 := by omega
    generalize hp : ((2 * k + 1 : Nat) : Int) = q at *
    have q0 : 0 ≤ q := by omega
    have q1 : q < 48 := by omega
    clear hp h
    go_enter Tryd.func135, Tryd.ntmps135
    go_wp2
    go_ret
    exact ⟨rfl, rfl⟩

/-- the first literal of a set -/
def fstI (S : Nat) : Int := litI (Lib.ctz 64 S)
theorem first (S : Nat) (w : World) (hT : Tab w) (h0 : 0 < S) (h : S < 2 ^ 48) : Calls Tryd.prog 89 #[.int .u64 S] w fun e w' => e = .returned (.int .i8 (fstI S)) ∧ w' = w := by
  obtain ⟨t, m, et, ht, es⟩ := low h0 h
  have C := tz S w hT h0 h
  have D := litAt t w ht
  unfold fstI
  rw [← et] at C ⊢
  have CT := hide C
  have CL := hide D
  clear C D et es hT
  have hb := litI_bd t ht
  generalize litI t = y at *
  go_enter Tryd.func89, Tryd.ntmps89
  go_wp2_with fail
  refine (unhide CT).mono ?_; rintro e w2 ⟨rfl, hw⟩; have hw' := hw.symm; clear hw; subst hw'
  go_wp2_with fail
  refine (unhide CL).mono ?_; rintro e w2 ⟨rfl, hw⟩; have hw' := hw.symm; clear hw; subst hw'
  go_wp2_with fail
  go_ret
  exact ⟨rfl, rfl⟩

theorem and_pred (s : Nat) (h0 : 0 < s) (h : s < 2 ^ 48) : bits .and .u64 (s : Int) ((s : Int) - 1) = ((s &&& (s - 1) : Nat) : Int) := by
  rw [show ((s : Int) - 1) = ((s - 1 : Nat) : Int) from by omega]
  exact u64_and_nat s (s - 1) (by omega) (by omega)

/-- the program's list of a set -/
theorem list (S : Nat) (w : World) (hT : Tab w) (hS : S < 2 ^ 48) :
    Calls Tryd.prog 90 #[.int .u64 S] w fun e w' => ∃ u, e = .returned u ∧ w'.ownsRow w.heap.size 3 1 u (srt S 48).length (ints (srt S 48)) ∧ w.grownBy w' none := by
  obtain ⟨i0, hi, hz0, hz1, hz2⟩ := info_parts sl.info3
  have HT := hide hT
  clear hT
  go_enter Tryd.func90, Tryd.ntmps90
  go_wp2_with fail
  refine (ones S _).mono ?_; rintro e w' ⟨r, rfl, r0, r1, rfl⟩
  obtain ⟨n, rfl⟩ := Int.eq_ofNat_of_zero_le r0
  go_wp2_with (first | (at_make; refine wpList_make_own _ rfl _ _ 31 rfl w'.heap.size 3 i0 (.int .i64 0) 1 Tryd.underlying31 hi hz0 hz1 _ _ _ n rfl rfl (by rfl) ?b1 ?b2 ?b3 ?_))
  case b1 => rw [hz2]; omega
  case b2 => unfold maxLen; omega
  case b3 => exact Nat.le_refl _
  intro w1 hown hgrow
  have O := hide hown
  have G := hide hgrow
  clear hown hgrow r0 r1
  go_wp2
  go_loopw [0, 3] (fun sv u wr => ∃ s p : Nat, sv = .int .u64 s ∧ s < 2 ^ 48 ∧ p ≤ 48 ∧ Hid (∀ i, s.testBit i = (S.testBit i && decide (p ≤ i))) ∧ wr.ownsRow w'.heap.size 3 1 u (srt S p).length (ints (srt S p)) ∧ w'.grownBy wr none) (fun sv _ _ => (intOf sv).toNat)
  case atStart => exact ⟨S, 0, rfl, hS, Nat.zero_le _, fun i => by simp, unhide O, unhide G⟩
  case round =>
    obtain ⟨s, p, rfl, hs, hp, hb, hown, hg⟩ := hrel
    clear O G
    by_cases h0 : s = 0
    · have e : srt S 48 = srt S p := srt_skip hp (fun i h1 h2 => by
        have := unhide hb i
        rw [h0, Nat.zero_testBit, decide_eq_true h1, Bool.and_true] at this
        exact this.symm)
      rw [← e] at hown
      subst h0
      have O := hide hown
      have G := hide hg
      clear hown hg hb e HT
      go_wp2
      go_ret
      exact ⟨_, rfl, unhide O, unhide G⟩
    · obtain ⟨t, m, et, ht, es⟩ := low (by omega) hs
      have cfi := first s wr ((unhide HT).kept hg) (by omega) hs
      unfold fstI at cfi
      rw [← et] at cfi
      have hbt : S.testBit t = true ∧ p ≤ t := by
        have h1 := unhide hb t
        rw [es, low_bit, if_pos (by omega), decide_eq_true rfl] at h1
        have h2 := Bool.and_eq_true_iff.1 h1.symm
        exact ⟨h2.1, of_decide_eq_true h2.2⟩
      have hbl : ∀ i, p ≤ i → i < t → S.testBit i = false := fun i h1 h2 => by
        have h3 := unhide hb i
        rw [es, low_bit, if_pos (by omega), decide_eq_false (by omega), decide_eq_true h1, Bool.and_true] at h3
        exact h3.symm
      have esrt : srt S (t + 1) = srt S p ++ [litI t] := by rw [srt_yes hbt.1, srt_skip hbt.2 hbl]
      have hnb : ∀ i, (s &&& (s - 1)).testBit i = (S.testBit i && decide (t + 1 ≤ i)) := fun i => by
        rw [next_bit es, unhide hb i]
        by_cases h1 : t + 1 ≤ i
        · rw [decide_eq_true h1, decide_eq_true (p := p ≤ i) (by omega), Bool.and_true]
        · rw [decide_eq_false h1, Bool.and_false, Bool.and_false]
      have hns : s &&& (s - 1) < s := next_lt (by omega)
      have eand := and_pred s (by omega) hs
      have hbd := litI_bd t ht
      have hle : (srt S p).length ≤ 48 := Nat.le_trans (srt_len S p) hp
      have hsz := hg.size
      have hne : ((s : Int) != 0) = true := by simp; omega
      have hs1 : 1 ≤ s := by omega
      have CF := hide cfi
      have ES := hide esrt
      have NB := hide hnb
      have NS := hide hns
      have EA := hide eand
      clear cfi hbt hbl esrt hnb hns eand et es hb h0
      generalize litI t = y at *
      generalize srt S p = M at *
      obtain ⟨y0, y1⟩ := hbd
      go_wp2_with (first | (at_builtin; refine wpList_append_own _ rfl _ _ 31 rfl w'.heap.size 3 i0 (.int .i64 0) 1 8 Tryd.underlying31 hi hz0 hz1 hz2 rfl (by decide) _ _ _ rfl (hown.alloc _) ⟨wr.heap.size, 0, none⟩ 1 1 [.int .i64 y] rfl rfl ?lc1 ?lc2 ?lc3 ?lc4 ?lc5 ?_) | (go_at_call 89; refine (unhide CF).mono ?_; rintro e w2 ⟨rfl, hw⟩; have hw' := hw.symm; clear hw; subst hw'))
      case lc1 =>
        intro j u hj
        match j, hj with
        | 0, hj => simp at hj; subst hj; simp [Addr.add]
      case lc2 => intro u hu; simp at hu; subst hu; rfl
      case lc3 => unfold maxLen; omega
      case lc4 => omega
      case lc5 => simp; omega
      intro v' w1 hown' hgrow _
      have R := hide (wo.own_grow hg hown hown' hgrow)
      clear hown' hgrow hown hg
      go_wp2
      go_roundw
      case rel => exact ⟨s &&& (s - 1), t + 1, by rw [← unhide EA], Nat.lt_trans (unhide NS) hs, by omega, unhide NB, by rw [unhide ES]; exact (unhide R).1, (unhide R).2⟩
      case measure => rw [unhide EA]; simp [intOf]; have := unhide NS; omega
end Go.Proofs.YtibpnocpafppaaaDoor.srt
