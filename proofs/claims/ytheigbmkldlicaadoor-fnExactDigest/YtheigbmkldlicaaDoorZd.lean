/- SumWords of the program: the words laid down in place; no condition but that a text has at most 2^20 bytes. -/
import Derived.Test.YtheigbmkldlicaaDoorZc
namespace Go.Proofs.YtheigbmkldlicaaDoor.zd
open Go.ChangeShapes Go.WideShapes Go.ChangeAt Go.RowKit
open Go.Proofs.YtheigbmkldlicaaDoor.sl (hide unhide ret_int ret_bool grown_refl grown_trans grown_drewN)
open Go.Proofs.YtheigbmkldlicaaDoor.za (Wd rotI g4)
open Go.Proofs.YtheigbmkldlicaaDoor.zc (sig0 sig1 sched nxt wds wds_length getD_wd wall form)
open Go.Proofs.YtheigbmkldlicaaDoor.zb (at_ at_bd at_eq wrap64)
open Go.Proofs.YtheigbmkldlicaaDoor.zs (ints Made stepT appendT one_at made_nil)
set_option linter.unusedVariables false


/-- the words so far, and noughts behind them -/
def part (s : ByteArray) (k : Nat) : List Int := wds s k ++ List.replicate (64 - k) 0
theorem part_length (s : ByteArray) (k : Nat) (h : k ≤ 64) : (part s k).length = 64 := by simp [part, wds_length]; omega
theorem part_set (s : ByteArray) (k : Nat) (h : k < 64) (y : Int) (hy : wds s (k + 1) = wds s k ++ [y]) : (ints (part s k)).set k (.int .u32 y) = ints (part s (k + 1)) := by
  have e1 : 64 - k = (64 - (k + 1)) + 1 := by omega
  have e3 : ints (part s k) = ints (wds s k) ++ (.int .u32 0 :: ints (List.replicate (64 - (k + 1)) 0)) := by
    unfold part zs.ints
    rw [e1, List.replicate_succ, List.map_append, List.map_cons]
  have e4 : ints (part s (k + 1)) = ints (wds s k) ++ (.int .u32 y :: ints (List.replicate (64 - (k + 1)) 0)) := by
    unfold part zs.ints
    rw [hy, List.map_append, List.map_append]
    simp
  rw [e3, e4, List.set_append_right _ _ (by rw [zs.ints_length, wds_length]; omega)]
  rw [show k - (ints (wds s k)).length = 0 from by rw [zs.ints_length, wds_length]; omega]
  rfl
theorem part_getD (s : ByteArray) (k j : Nat) (h : j < k) : (part s k).getD j 0 = (wds s k).getD j 0 := by
  unfold part
  rw [List.getD, List.getD, List.getElem?_append_left (by rw [wds_length]; exact h)]
theorem at_cut (s : ByteArray) (a j : Nat) (h : a + j < s.size) : at_ (s.extract a s.size) j = at_ s (a + j) := by
  unfold zb.at_
  congr 2
  rw [List.getD, List.getD]
  congr 1
  have e : (s.extract a s.size).data = s.data.extract a s.size := by simp
  have hsz : s.data.size = s.size := rfl
  rw [e, Array.getElem?_toList, Array.getElem?_toList, Array.getElem?_extract, if_pos (by omega)]

set_option maxRecDepth 100000 in
set_option maxHeartbeats 2000000 in
theorem implSumWords (s : ByteArray) (w : World) (hs : s.size ≤ 1048576) :
    Calls Tryd.prog 176 #[.string s] w fun e w' => ∃ u, e = .returned u ∧ Made w w' u (wall s) := by
  have start := hide (made_nil w)
  by_cases h64 : s.size = 64
  · have hb : ((s.size : Int) != 64) = false := by simp [h64]
    obtain ⟨i0, hi, hz0, hz1, hz2⟩ := info_parts zs.infoW
    rw [show wall s = wds s 64 by unfold wall; rw [if_pos h64]]
    have HS := hide h64
    have zero : Hid (∀ w' : World, w'.ownsRow w.heap.size 137 1 (.slice (some ⟨w.heap.size, 0, none⟩) 64 64) 64 (madeCells #[Value.int .u32 0] 64).toList → w'.ownsRow w.heap.size 137 1 (.slice (some ⟨w.heap.size, 0, none⟩) 64 64) 64 (ints (part s 0))) := by
      intro w' h
      have e : (madeCells #[Value.int .u32 0] 64).toList = ints (part s 0) := by
        rw [toList_madeCells_one]
        simp [zs.ints, part, wds]
      rw [e] at h
      exact h
    clear h64 start
    go_enter Tryd.func176, Tryd.ntmps176
    go_wp2_with (first | (at_make; refine wpList_make_full _ rfl _ _ 179 rfl w.heap.size 137 i0 (.int .u32 0) 1 Tryd.underlying179 hi hz0 hz1 _ _ _ _ 64 rfl rfl (by rfl) (by rfl) ?b1 ?b2 ?b3 ?_) | go_in)
    case b1 => rw [hz2]; omega
    case b2 => unfold maxLen; omega
    case b3 => exact Nat.le_refl _
    intro w1 hown hgrow
    have O := hide (unhide zero w1 hown)
    have G := hide hgrow
    clear hown hgrow zero hi hz0 hz1 hz2 i0
    go_wp2
    go_loopw [4, 5, 6, 7, 8, 16] (fun _ _ _ _ _ i wr => ∃ k : Nat, k ≤ 64 ∧ i = .int .i64 k ∧ wr.ownsRow w.heap.size 137 1 (.slice (some ⟨w.heap.size, 0, none⟩) 64 64) 64 (ints (part s k)) ∧ w.grownBy wr none) (fun _ _ _ _ _ i _ => 64 - (intOf i).toNat)
    case atStart => exact ⟨0, Nat.zero_le _, rfl, unhide O, unhide G⟩
    case round =>
      obtain ⟨k, hk, rfl, hown, hg⟩ := hrel
      clear O G
      by_cases hlt : k < 64
      · have i0 : (k : Int) < 64 := by omega
        have c2 : wr.cell? ⟨w.heap.size, k, none⟩ = (ints (part s k))[k]? := hown.cellAt k (by omega)
        obtain ⟨x, hx⟩ : ∃ x, (ints (part s k))[k]? = some x := ⟨_, List.getElem?_eq_getElem (by rw [zs.ints_length, part_length _ _ hk]; exact hlt)⟩
        rw [hx] at c2
        have c3 : wr.frozen? ⟨w.heap.size, k, none⟩ = false := hown.frozenAt k
        have ST : Hid (∀ (wr' : World) (y : Int), wr.grownBy wr' none → wds s (k + 1) = wds s k ++ [y] → (wr'.setCell ⟨w.heap.size, k, none⟩ (.int .u32 y)).ownsRow w.heap.size 137 1 (.slice (some ⟨w.heap.size, 0, none⟩) 64 64) 64 (ints (part s (k + 1))) ∧ w.grownBy (wr'.setCell ⟨w.heap.size, k, none⟩ (.int .u32 y)) none) := by
          intro wr' y g' hy
          refine ⟨zs.own_stored 64 (part_length s k hk) (part_length s (k + 1) hlt) (hown.kept g' (.inr (fun e => by cases e))) k y (part_set s k hlt y hy), ?_⟩
          have hg' := grown_trans (r := none) hg g'
          exact ⟨hg'.os, hg'.tape, hg'.output, by simpa [World.setCell] using hg'.size, fun j hj _ => (Below.heap_setCell _ _ _ _ (by show j ≠ w.heap.size; omega)).trans (hg'.block j hj (fun e => by cases e))⟩
        by_cases h16 : k < 16
        · have i16 : (k : Int) < 16 := by omega
          have i4 : (k : Int) * 4 ≤ (s.size : Int) := by rw [unhide HS]; omega
          have hcut : 4 ≤ (s.extract (k * 4) s.size).size := by
            have := unhide HS
            simp
            omega
          have C := hide (fun w => zb.readWord (s.extract (k * 4) s.size) w hcut (by simp; omega))
          rw [at_cut s (k * 4) 0 (by have := unhide HS; omega), at_cut s (k * 4) 1 (by have := unhide HS; omega), at_cut s (k * 4) 2 (by have := unhide HS; omega), at_cut s (k * 4) 3 (by have := unhide HS; omega)] at C
          have H : Hid (wds s (k + 1) = wds s k ++ [g4 (at_ s (k * 4 + 0)) (at_ s (k * 4 + 1)) (at_ s (k * 4 + 2)) (at_ s (k * 4 + 3))]) := by
            show wds s k ++ [nxt s (wds s k) k] = _
            unfold zc.nxt
            rw [if_pos h16, Nat.mul_comm 4 k]
            rfl
          generalize g4 (at_ s (k * 4 + 0)) (at_ s (k * 4 + 1)) (at_ s (k * 4 + 2)) (at_ s (k * 4 + 3)) = y at *
          have R := hide (unhide ST wr y (grown_refl _) (unhide H))
          clear hown hg hx ST hcut H
          go_wp2_with fail
          refine (unhide C _).mono ?_; rintro e w' ⟨rfl, rfl⟩
          go_wp2
          go_roundw
          case rel => exact ⟨k + 1, by omega, by go_num, (unhide R).1, (unhide R).2⟩
          case measure => simp [intOf]; omega
        · have i16 : ¬ (k : Int) < 16 := by omega
          obtain ⟨k15, e15⟩ : ∃ j, j = k - 15 := ⟨_, rfl⟩
          obtain ⟨k2, e2⟩ : ∃ j, j = k - 2 := ⟨_, rfl⟩
          obtain ⟨k16, e16⟩ : ∃ j, j = k - 16 := ⟨_, rfl⟩
          obtain ⟨k7, e7⟩ : ∃ j, j = k - 7 := ⟨_, rfl⟩
          have j15 : IntKind.i64.wrap ((k : Int) - 15) = (k15 : Int) := by rw [wrap64 (by omega) (by omega)]; omega
          have j2 : IntKind.i64.wrap ((k : Int) - 2) = (k2 : Int) := by rw [wrap64 (by omega) (by omega)]; omega
          have j16 : IntKind.i64.wrap ((k : Int) - 16) = (k16 : Int) := by rw [wrap64 (by omega) (by omega)]; omega
          have j7 : IntKind.i64.wrap ((k : Int) - 7) = (k7 : Int) := by rw [wrap64 (by omega) (by omega)]; omega
          have b15 : (k15 : Int) < 64 := by omega
          have b2 : (k2 : Int) < 64 := by omega
          have b16 : (k16 : Int) < 64 := by omega
          have b7 : (k7 : Int) < 64 := by omega
          have cell : ∀ j, j < k → wr.cell? ⟨w.heap.size, j, none⟩ = some (.int .u32 ((wds s k).getD j 0)) := by
            intro j hj
            have := hown.cellAt j (by omega)
            rw [this, ← part_getD s k j hj]
            have hl := part_length s k hk
            simp [ints, hl, show j < 64 by omega]
          have H : Hid (wds s (k + 1) = wds s k ++ [sched ((wds s k).getD k16 0) ((wds s k).getD k15 0) ((wds s k).getD k7 0) ((wds s k).getD k2 0)]) := by
            show wds s k ++ [nxt s (wds s k) k] = _
            unfold zc.nxt
            rw [if_neg (by omega), e15, e2, e16, e7]
          have c15 := cell k15 (by omega)
          have d2 := cell k2 (by omega)
          have c16 := cell k16 (by omega)
          have c7 := cell k7 (by omega)
          have x15 := hide (getD_wd s k k15)
          have x2 := hide (getD_wd s k k2)
          generalize (wds s k).getD k15 0 = b at *
          generalize (wds s k).getD k2 0 = d at *
          generalize (wds s k).getD k16 0 = a at *
          generalize (wds s k).getD k7 0 = c at *
          clear cell hown hg e15 e2 e16 e7 hx
          have R7 : Hid (∀ w, Calls Tryd.prog 198 #[.int .u32 b, .int .i64 7] w fun e w' => e = .returned (.int .u32 (rotI b 7)) ∧ w' = w) := fun w => zb.rot b 7 w (unhide x15) (by decide) (by decide)
          have R18 : Hid (∀ w, Calls Tryd.prog 198 #[.int .u32 b, .int .i64 18] w fun e w' => e = .returned (.int .u32 (rotI b 18)) ∧ w' = w) := fun w => zb.rot b 18 w (unhide x15) (by decide) (by decide)
          have R17 : Hid (∀ w, Calls Tryd.prog 198 #[.int .u32 d, .int .i64 17] w fun e w' => e = .returned (.int .u32 (rotI d 17)) ∧ w' = w) := fun w => zb.rot d 17 w (unhide x2) (by decide) (by decide)
          have R19 : Hid (∀ w, Calls Tryd.prog 198 #[.int .u32 d, .int .i64 19] w fun e w' => e = .returned (.int .u32 (rotI d 19)) ∧ w' = w) := fun w => zb.rot d 19 w (unhide x2) (by decide) (by decide)
          go_wp2
          go_quiet (fail)
          go_wp2_with fail
          refine (unhide R7 _).mono ?_; rintro e w' ⟨rfl, rfl⟩
          go_wp2_with fail
          refine (unhide R18 _).mono ?_; rintro e w' ⟨rfl, rfl⟩
          go_wp2_with fail
          refine (unhide R17 _).mono ?_; rintro e w' ⟨rfl, rfl⟩
          go_wp2_with fail
          refine (unhide R19 _).mono ?_; rintro e w' ⟨rfl, rfl⟩
          go_wp2_with fail
          have HY : Hid (sched a b c d = IntKind.u32.wrap (IntKind.u32.wrap (IntKind.u32.wrap (a + sig0 b) + c) + sig1 d)) := by
            show _ = _
            simp only [IntKind.wrap_u32]
            rfl
          unfold zc.sig0 zc.sig1 at HY
          generalize bits .xor .u32 (bits .xor .u32 (rotI b 7) (rotI b 18)) (b / 8) = p at *
          generalize bits .xor .u32 (bits .xor .u32 (rotI d 17) (rotI d 19)) (d / 1024) = q at *
          clear R7 R18 R17 R19
          have HZ : sched a b c d = (a + p + c + q) % 4294967296 := by
            rw [unhide HY]
            simp only [IntKind.wrap_u32]
            omega
          have R := hide (unhide ST (wr.drewN (nq + 1)) ((a + p + c + q) % 4294967296) (grown_drewN _ _) (by rw [← HZ]; exact unhide H))
          clear HZ ST H HY
          go_region
          all_goals
            go_wp2
            go_roundw
            case rel => exact ⟨k + 1, by omega, by go_num, (unhide R).1, (unhide R).2⟩
            case measure => simp [intOf]; omega
      · have i0 : ¬ (k : Int) < 64 := by omega
        have hk' : k = 64 := by omega
        subst hk'
        have e : part s 64 = wds s 64 := by simp [part]
        rw [e] at hown
        have M : Hid (Made w wr (.slice (some ⟨w.heap.size, 0, none⟩) 64 64) (wds s 64)) := ⟨by rw [wds_length]; exact hown, hg⟩
        clear hown hg e hlt hk
        go_wp2
        go_ret
        exact ⟨_, rfl, unhide M⟩
  · have hb : ((s.size : Int) != 64) = true := by simp; omega
    rw [show wall s = [] by unfold wall; rw [if_neg h64]]
    clear h64
    go_enter Tryd.func176, Tryd.ntmps176
    go_wp2
    go_ret
    exact ⟨_, rfl, unhide start⟩
end Go.Proofs.YtheigbmkldlicaaDoor.zd
