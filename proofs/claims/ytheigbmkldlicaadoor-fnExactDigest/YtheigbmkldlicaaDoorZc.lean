/- SumWords, of the program and of its model: the 64 words of a block, in memory of their own, nothing for a text of another length; no condition but that a text has at most 2^20 bytes. -/
import Derived.Test.YtheigbmkldlicaaDoorZb
import Derived.Deep.RegionHeld3
import Derived.Deep.RegionLaw
import Derived.Deep.DeepCutAuto
namespace Go.Proofs.YtheigbmkldlicaaDoor.zc
open Go.ChangeShapes Go.WideShapes Go.ChangeAt Go.RowKit
open Go.Proofs.YtheigbmkldlicaaDoor.sl (hide unhide ret_int ret_bool grown_refl grown_trans grown_drewN)
open Go.Proofs.YtheigbmkldlicaaDoor.za (Wd rotI g4)
open Go.Proofs.YtheigbmkldlicaaDoor.zb (at_ at_bd at_eq wrap64)
open Go.Proofs.YtheigbmkldlicaaDoor.zs (ints Made stepT appendT one_at made_nil)
set_option linter.unusedVariables false

def sig0 (x : Int) : Int := bits .xor .u32 (bits .xor .u32 (rotI x 7) (rotI x 18)) (x / 8)
def sig1 (x : Int) : Int := bits .xor .u32 (bits .xor .u32 (rotI x 17) (rotI x 19)) (x / 1024)
def sched (a b c d : Int) : Int := (((a + sig0 b) % 4294967296 + c) % 4294967296 + sig1 d) % 4294967296
/-- the next word -/
def nxt (s : ByteArray) (M : List Int) (i : Nat) : Int :=
  if i < 16 then g4 (at_ s (4 * i)) (at_ s (4 * i + 1)) (at_ s (4 * i + 2)) (at_ s (4 * i + 3)) else sched (M.getD (i - 16) 0) (M.getD (i - 15) 0) (M.getD (i - 7) 0) (M.getD (i - 2) 0)
/-- the first words of a block -/
def wds (s : ByteArray) : Nat → List Int
  | 0 => []
  | i + 1 => wds s i ++ [nxt s (wds s i) i]
theorem wds_length (s : ByteArray) : ∀ i, (wds s i).length = i
  | 0 => rfl
  | i + 1 => by simp [wds, wds_length s i]
theorem g4_wd {a b c d : Int} (ha : 0 ≤ a ∧ a < 256) (hb : 0 ≤ b ∧ b < 256) (hc : 0 ≤ c ∧ c < 256) (hd : 0 ≤ d ∧ d < 256) : Wd (g4 a b c d) := by
  unfold za.Wd za.g4
  omega
theorem nxt_wd (s : ByteArray) (M : List Int) (i : Nat) : Wd (nxt s M i) := by
  unfold nxt
  split
  · exact g4_wd (at_bd _ _) (at_bd _ _) (at_bd _ _) (at_bd _ _)
  · exact za.mod_wd _
theorem wds_wd (s : ByteArray) : ∀ i, ∀ x ∈ wds s i, Wd x
  | 0 => fun x h => by cases h
  | i + 1 => fun x h => by
    rw [wds, List.mem_append, List.mem_singleton] at h
    rcases h with h | h
    · exact wds_wd s i x h
    · rw [h]
      exact nxt_wd _ _ _
theorem zero_wd : Wd 0 := by unfold za.Wd; omega
theorem getD_wd (s : ByteArray) (i j : Nat) : Wd ((wds s i).getD j 0) := by
  by_cases h : j < (wds s i).length
  · rw [List.getD, List.getElem?_eq_getElem h]
    exact wds_wd s i _ (List.getElem_mem h)
  · rw [List.getD, List.getElem?_eq_none (by omega)]
    exact zero_wd
theorem form {w wr : World} {v : Value} {M : List Int} (h : Made w wr v M) (h0 : 1 ≤ M.length) : ∃ g cap, v = .slice (some ⟨g, 0, none⟩) M.length cap := by
  obtain ⟨_, h⟩ := h.1
  rcases h with ⟨_, h0'⟩ | ⟨g, cap, cur, e, _⟩
  · omega
  · exact ⟨g, cap, e⟩
/-- what SumWords answers -/
def wall (s : ByteArray) : List Int := if s.size = 64 then wds s 64 else []

set_option maxRecDepth 100000 in
set_option maxHeartbeats 2000000 in
theorem specSumWords (s : ByteArray) (w : World) (hs : s.size ≤ 1048576) :
    Calls Tryd.prog 166 #[.string s] w fun e w' => ∃ u, e = .returned u ∧ Made w w' u (wall s) := by
  have start := hide (made_nil w)
  by_cases h64 : s.size = 64
  · have hb : ((s.size : Int) != 64) = false := by simp [h64]
    rw [show wall s = wds s 64 by unfold wall; rw [if_pos h64]]
    have HS := hide h64
    clear h64
    go_enter Tryd.func166, Tryd.ntmps166
    go_wp2
    go_loopw [3, 4] (fun u i wr => ∃ k : Nat, k ≤ 16 ∧ i = .int .i64 k ∧ Made w wr u (wds s k)) (fun _ i _ => 16 - (intOf i).toNat)
    case atStart => exact ⟨0, by omega, rfl, unhide start⟩
    case round =>
      obtain ⟨k, hk, rfl, hm⟩ := hrel
      clear start
      by_cases hlt : k < 16
      · have i0 : (k : Int) < 16 := by omega
        have M := hide hm
        have C := hide (fun w => zb.specGet s (4 * k) w (by rw [unhide HS]; omega) hs)
        have H : Hid (wds s (k + 1) = wds s k ++ [g4 (at_ s (4 * k)) (at_ s (4 * k + 1)) (at_ s (4 * k + 2)) (at_ s (4 * k + 3))]) := by
          show wds s k ++ [nxt s (wds s k) k] = _
          unfold nxt
          rw [if_pos hlt]
        have hl := wds_length s k
        have HL : Hid ((wds s k).length + 1 ≤ 4194304) := by show _ ≤ _; omega
        generalize g4 (at_ s (4 * k)) (at_ s (4 * k + 1)) (at_ s (4 * k + 2)) (at_ s (4 * k + 3)) = y at *
        generalize wds s k = A at *
        rw [show ((4 * k : Nat) : Int) = 4 * (k : Int) by omega] at C
        clear hm hl
        go_wp2_with fail
        refine (unhide C _).mono ?_; rintro e w1 ⟨rfl, g1⟩
        have M1 : Hid (Made w w1 _ A) := ⟨(unhide M).1.kept g1 (by cases Value.ownBlock _ with
          | none => exact .inl rfl
          | some k => exact .inr (fun e => by cases e)), grown_trans (unhide M).2 g1⟩
        clear g1 C M
        go_wp2_with (at_builtin; refine appendT (w := w) (A := A) (B := [y]) (grown_trans (unhide M1).2 (World.grownBy_alloc _ _ none)) ((unhide M1).1.alloc _) (one_at w1 y) (unhide HL) rfl (by rfl) _ _ (by rfl) (by rfl) (by rfl) ?_; intro v2 w2 m2 g2; have M2 := hide m2; clear m2 g2)
        go_roundw
        case rel => exact ⟨k + 1, by omega, by go_num, by rw [unhide H]; exact unhide M2⟩
        case measure => simp [intOf]; omega
      · have i0 : ¬ (k : Int) < 16 := by omega
        have hk' : k = 16 := by omega
        rw [hk'] at hm
        have M := hide hm
        clear hm hk' hlt hk
        go_wp2
        go_loopw [3, 5, 6, 7, 8, 9] (fun u i _ _ _ _ wr => ∃ (k g cap : Nat), 16 ≤ k ∧ k ≤ 64 ∧ i = .int .i64 k ∧ u = .slice (some ⟨g, 0, none⟩) k cap ∧ Made w wr (.slice (some ⟨g, 0, none⟩) k cap) (wds s k)) (fun _ i _ _ _ _ _ => 64 - (intOf i).toNat)
        case atStart => 
          obtain ⟨g, cap, e⟩ := form (unhide M) (by rw [wds_length]; omega)
          have M' := unhide M
          rw [e] at M' ⊢
          rw [wds_length] at M' ⊢
          exact ⟨16, g, cap, by omega, by omega, rfl, rfl, M'⟩
        case round =>
          obtain ⟨k, g, cap, hk0, hk, rfl, rfl, hm⟩ := hrel
          clear M i0
          have hl := wds_length s k
          by_cases hlt : k < 64
          · have i0 : (k : Int) < 64 := by omega
            obtain ⟨k15, e15⟩ : ∃ j, j = k - 15 := ⟨_, rfl⟩
            obtain ⟨k2, e2⟩ : ∃ j, j = k - 2 := ⟨_, rfl⟩
            obtain ⟨k16, e16⟩ : ∃ j, j = k - 16 := ⟨_, rfl⟩
            obtain ⟨k7, e7⟩ : ∃ j, j = k - 7 := ⟨_, rfl⟩
            have j15 : IntKind.i64.wrap ((k : Int) - 15) = (k15 : Int) := by rw [wrap64 (by omega) (by omega)]; omega
            have j2 : IntKind.i64.wrap ((k : Int) - 2) = (k2 : Int) := by rw [wrap64 (by omega) (by omega)]; omega
            have j16 : IntKind.i64.wrap ((k : Int) - 16) = (k16 : Int) := by rw [wrap64 (by omega) (by omega)]; omega
            have j7 : IntKind.i64.wrap ((k : Int) - 7) = (k7 : Int) := by rw [wrap64 (by omega) (by omega)]; omega
            have b15 : (k15 : Int) < (k : Int) := by omega
            have b2 : (k2 : Int) < (k : Int) := by omega
            have b16 : (k16 : Int) < (k : Int) := by omega
            have b7 : (k7 : Int) < (k : Int) := by omega
            have hown := hm.1
            have cell : ∀ j, j < k → wr.cell? ⟨g, j, none⟩ = some (.int .u32 ((wds s k).getD j 0)) := by
              intro j hj
              rw [hl] at hown
              have := hown.cellAt j (by omega)
              rw [this]
              simp [ints, hl, hj]
            have H : Hid (wds s (k + 1) = wds s k ++ [sched ((wds s k).getD k16 0) ((wds s k).getD k15 0) ((wds s k).getD k7 0) ((wds s k).getD k2 0)]) := by
              show wds s k ++ [nxt s (wds s k) k] = _
              unfold nxt
              rw [if_neg (by omega), e15, e2, e16, e7]
            have c15 := cell k15 (by omega)
            have c2 := cell k2 (by omega)
            have c16 := cell k16 (by omega)
            have c7 := cell k7 (by omega)
            have x15 := hide (getD_wd s k k15)
            have x2 := hide (getD_wd s k k2)
            have M := hide hm
            have HL : Hid ((wds s k).length + 1 ≤ 4194304) := by show _ ≤ _; omega
            have hgs : g < wr.heap.size := World.block_lt_of_cell? wr _ c2
            generalize (wds s k).getD k15 0 = b at *
            generalize (wds s k).getD k2 0 = d at *
            generalize (wds s k).getD k16 0 = a at *
            generalize (wds s k).getD k7 0 = c at *
            clear cell hm hown e15 e2 e16 e7
            go_wp2
            go_quiet (fail)
            have R7 : Hid (∀ w, Calls Tryd.prog 168 #[.int .u32 b, .int .u64 7] w fun e w' => e = .returned (.int .u32 (rotI b 7)) ∧ w' = w) := fun w => zb.specRot b 7 w (unhide x15) (by decide) (by decide)
            have R18 : Hid (∀ w, Calls Tryd.prog 168 #[.int .u32 b, .int .u64 18] w fun e w' => e = .returned (.int .u32 (rotI b 18)) ∧ w' = w) := fun w => zb.specRot b 18 w (unhide x15) (by decide) (by decide)
            have R17 : Hid (∀ w, Calls Tryd.prog 168 #[.int .u32 d, .int .u64 17] w fun e w' => e = .returned (.int .u32 (rotI d 17)) ∧ w' = w) := fun w => zb.specRot d 17 w (unhide x2) (by decide) (by decide)
            have R19 : Hid (∀ w, Calls Tryd.prog 168 #[.int .u32 d, .int .u64 19] w fun e w' => e = .returned (.int .u32 (rotI d 19)) ∧ w' = w) := fun w => zb.specRot d 19 w (unhide x2) (by decide) (by decide)
            go_wp2_with fail
            refine (unhide R7 _).mono ?_; rintro e w' ⟨rfl, rfl⟩
            go_wp2_with fail
            refine (unhide R18 _).mono ?_; rintro e w' ⟨rfl, rfl⟩
            go_wp2_with fail
            refine (unhide R17 _).mono ?_; rintro e w' ⟨rfl, rfl⟩
            go_wp2_with fail
            refine (unhide R19 _).mono ?_; rintro e w' ⟨rfl, rfl⟩
            go_wp2_with fail
            have HY : Hid (sched a b c d = IntKind.u32.wrap (IntKind.u32.wrap (IntKind.u32.wrap (a + sig0 b) + c) + sig1 d)) := by
              show _ = _
              simp only [IntKind.wrap_u32]
              rfl
            unfold sig0 sig1 at HY
            generalize bits .xor .u32 (bits .xor .u32 (rotI b 7) (rotI b 18)) (b / 8) = p at *
            generalize bits .xor .u32 (bits .xor .u32 (rotI d 17) (rotI d 19)) (d / 1024) = q at *
            have M1 : Hid (Made w (wr.drewN nq) (.slice (some ⟨g, 0, none⟩) k cap) (wds s k)) := ⟨(unhide M).1.kept (grown_drewN _ _) (.inr (fun e => by cases e)), grown_trans (unhide M).2 (grown_drewN _ _)⟩
            have d16 : (wr.drewN nq).cell? ⟨g, k16, none⟩ = some (.int .u32 a) := c16
            have d7 : (wr.drewN nq).cell? ⟨g, k7, none⟩ = some (.int .u32 c) := c7
            have hgs' : g < (wr.drewN nq).heap.size := hgs
            generalize hw : wr.drewN nq = W at *
            generalize wds s k = A at *
            clear c15 c2 c16 c7 R7 R18 R17 R19 M hgs hw
            obtain ⟨y, hy⟩ : ∃ y, y = IntKind.u32.wrap (IntKind.u32.wrap (IntKind.u32.wrap (a + p) + c) + q) := ⟨_, rfl⟩
            have hA1 : Hid (w.grownBy (W.alloc (.cells #[.int .u32 y] 137)).drew none) := grown_trans (r := none) (grown_trans (r := none) (unhide M1).2 (World.grownBy_alloc _ _ none)) (grown_drewN _ 1)
            have ho1 : Hid ((W.alloc (.cells #[.int .u32 y] 137)).drew.ownsRow w.heap.size 137 1 (.slice (some ⟨g, 0, none⟩) k cap) A.length (ints A)) := ((unhide M1).1.alloc _).kept (grown_drewN _ 1) (.inr (fun e => by cases e))
            have hB1 : Hid (∀ j, j < [y].length → (W.alloc (.cells #[.int .u32 y] 137)).drew.cell? ((⟨W.heap.size, 0, none⟩ : Addr).add j) = some (.int .u32 ([y].getD j 0))) := one_at W y
            rw [← hy] at HY
            rw [hy] at hA1 ho1 hB1
            go_region_law (rw [if_pos (by simp [Region.wanted])]; refine zs.wpT (unhide hA1) (unhide ho1) (unhide hB1) (unhide HL) (.tmp 56) (.tmp 72) rfl rfl rfl ?_; intro v2 w2 m2 g2; have M2 := hide m2; clear m2 g2)
            all_goals
              rw [← hy] at M2
              have M3 : Hid (Made w w2 v2 (wds s (k + 1))) := by
                rw [unhide H, unhide HY]
                exact unhide M2
              obtain ⟨g3, cap3, e3⟩ := form (unhide M3) (by rw [wds_length]; omega)
              rw [wds_length] at e3
              subst e3
              clear hA1 ho1 hB1 M1 M2 hy
              go_wp2
              go_roundw
              case rel => exact ⟨k + 1, g3, cap3, by omega, by omega, by go_num, rfl, unhide M3⟩
              case measure => simp [intOf]; omega
          · have i0 : ¬ (k : Int) < 64 := by omega
            have hk' : k = 64 := by omega
            subst hk'
            have M := hide hm
            clear hm hlt hk hl hk0
            go_wp2
            go_ret
            exact ⟨_, rfl, unhide M⟩
  · have hb : ((s.size : Int) != 64) = true := by simp; omega
    rw [show wall s = [] by unfold wall; rw [if_neg h64]]
    clear h64
    go_enter Tryd.func166, Tryd.ntmps166
    go_wp2
    go_ret
    exact ⟨_, rfl, unhide start⟩
end Go.Proofs.YtheigbmkldlicaaDoor.zc
