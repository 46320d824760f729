/- HexText of the program; no condition but on sizes. -/
import Derived.Test.YtjmjgjlldkpemaaDoorZe
namespace Go.Proofs.YtjmjgjlldkpemaaDoor.zf
open Go.ChangeShapes Go.WideShapes Go.ChangeAt Go.RowKit
open Go.Proofs.YtjmjgjlldkpemaaDoor.sl (hide unhide ret_int ret_bool grown_refl grown_trans grown_drewN)
open Go.Proofs.YtjmjgjlldkpemaaDoor.zb (at_ at_bd at_eq wrap64)
open Go.Proofs.YtjmjgjlldkpemaaDoor.byt (Byt MadeB run_app run_back run_of)
open Go.Proofs.YtjmjgjlldkpemaaDoor.ze (of_own made_nil MadeB.kept wpB appB cell_new two_at one_at dg bts bts_length hexL hexL_length hexL_take hexT tab_at)
open Go.Proofs.YtjmjgjlldkpemaaDoor.dec (str)
set_option linter.unusedVariables false

set_option maxRecDepth 100000 in
set_option maxHeartbeats 2000000 in
theorem implHexText (s : ByteArray) (w : World) (hs : s.size ≤ 1048576) :
    Calls Tryd.prog 67 #[.string s] w fun e w' => e = .returned (str (hexT s)) ∧ w.grownBy w' none := by
  obtain ⟨i0, hi, hz0, hz1, hz2⟩ := info_parts byt.infoU
  by_cases h6 : s.size ≤ 60000
  · have hb : ¬ (60000 : Int) < (s.size : Int) := by omega
    rw [show hexT s = hexL (bts s) by unfold hexT; rw [if_pos h6]]
    go_enter Tryd.func67, Tryd.ntmps67
    go_wp2_with (first | (at_make; refine wpList_make_own _ rfl _ _ 22 rfl w.heap.size 5 i0 (.int .u8 0) 1 Tryd.underlying22 hi hz0 hz1 _ _ _ (2 * s.size) rfl (by rfl) (by rfl) ?b1 ?b2 ?b3 ?_) | go_in)
    case b1 => first | (rw [hz2]; omega) | omega
    case b2 => unfold maxLen; omega
    try (case b3 => exact Nat.le_refl _)
    intro w1 hown hgrow
    have start : Hid (MadeB w w1 _ []) := ⟨of_own (l := []) hown, hgrow⟩
    clear hown hgrow hi hz0 hz1 hz2 i0
    go_wp2
    go_loopw [3, 4, 14] (fun u _ i wr => ∃ k : Nat, k ≤ s.size ∧ i = .int .i64 k ∧ MadeB w wr u (hexL ((bts s).take k))) (fun _ _ i _ => s.size - (intOf i).toNat)
    case atStart => exact ⟨0, by omega, rfl, unhide start⟩
    case round =>
      obtain ⟨k, hk, rfl, hm⟩ := hrel
      clear start
      by_cases hlt : k < s.size
      · have i0 : (k : Int) < (s.size : Int) := by omega
        have e0 := at_eq s k hlt
        have d0 := at_bd s k
        have H := hide (hexL_take s k hlt)
        have HL : Hid ((hexL ((bts s).take k)).length + 2 ≤ 4194304) := by
          show _ ≤ _
          rw [hexL_length, List.length_take]
          omega
        generalize at_ s k = x at *
        generalize hexL ((bts s).take k) = A at *
        have M := hide hm
        clear hm
        obtain ⟨dh, hdh⟩ : ∃ d, d = x.toNat / 16 := ⟨_, rfl⟩
        obtain ⟨dl, hdl⟩ : ∃ d, d = x.toNat % 16 := ⟨_, rfl⟩
        rw [← hdh, ← hdl] at H
        have q1 : x / 16 = (dh : Int) := by
          omega
        have q2 : bits .and .u8 x 15 = (dl : Int) := by
          rw [u8_and15 x d0.1 (by omega)]
          omega
        have q3 : (dh : Int) < 16 := by omega
        have q4 : (dl : Int) < 16 := by omega
        have q5 : dh < 16 := by omega
        have q6 : dl < 16 := by omega
        have t1 := tab_at dh q5
        have t2 := tab_at dl q6
        clear hdh hdl
        have M1 : Hid (MadeB w (wr.alloc (.cells #[.int .u8 (dg dh).toNat, .int .u8 (dg dl).toNat] 5)).drew _ A) := MadeB.kept (unhide M) (grown_trans (World.grownBy_alloc _ _ none) (grown_drewN _ 1))
        have HB := hide (two_at wr (dg dh) (dg dl))
        go_wp2_with fail
        go_region_law (rw [if_pos (by simp [Region.wanted])]; refine wpB (unhide M1) (unhide HB) (unhide HL) rfl (.tmp 17) (.tmp 28) rfl rfl rfl ?_; intro v2 w2 m2; have M2 := hide m2; clear m2)
        all_goals
          clear M1 HB M
          go_wp2
          go_roundw
          case rel => exact ⟨k + 1, by omega, by go_num, by rw [unhide H]; exact unhide M2⟩
          case measure => simp [intOf]; omega
      · have i0 : ¬ (k : Int) < (s.size : Int) := by omega
        rw [List.take_of_length_le (by rw [bts_length]; omega)] at hm
        obtain ⟨g, cap, e⟩ := hm.1.form
        have CV := run_back wr _ _ _ hm.1
        rw [e] at CV
        have G := hide hm.2
        clear hm
        go_wp2
        go_ret
        exact ⟨rfl, unhide G⟩
  · have hb : (60000 : Int) < (s.size : Int) := by omega
    rw [show hexT s = [] by unfold hexT; rw [if_neg h6]]
    go_enter Tryd.func67, Tryd.ntmps67
    go_wp2
    go_ret
    exact ⟨rfl, grown_refl _⟩
end Go.Proofs.YtjmjgjlldkpemaaDoor.zf
