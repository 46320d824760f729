/- What copyCache does, and the shelf's cache: caches in memory of their own; no condition but on sizes. -/
import Derived.Test.YtgjakiliepfjiaaUj
import Derived.Test.YtgjakiliepfjiaaUg
namespace Go.Proofs.Ytgjakiliepfjiaa.ua
open Go.ChangeShapes Go.WideShapes Go.ChangeAt Go.RowKit Go.Maps Go.MuLone
open Go.Proofs.Ytgjakiliepfjiaa.sl (Sl Own ints marks hide unhide ret_int ret_bool grown_refl grown_trans grown_drewN below_of of_below)
open Go.Proofs.Ytgjakiliepfjiaa.css (Outs outs_trans outs_none outs_by outs_refl own_mono own_sub own_outs own_kind)
open Go.Proofs.Ytgjakiliepfjiaa.yb (Box4)
open Go.Proofs.Ytgjakiliepfjiaa.cf (Box)
set_option linter.unusedVariables false
set_option maxRecDepth 10000 in
set_option maxHeartbeats 4000000 in
theorem copyCache (v : Value) (room : Int) (KK : List Kn) (w : World) (hn : KK.length ≤ 1048576) (hin : ∀ i, (KK.getD i kz).vals.length ≤ 1048576) (hv : VKns w v KK) :
    Calls Try.prog 29 #[.agg #[.int .i64 room, v]] w fun e w' => CacheE w room KK e w' := by
  obtain ⟨a, cap, rfl⟩ := hv.len
  obtain ⟨i0, hi, hz0, hz1, hz2⟩ := info_parts infoK
  obtain ⟨W1, hW1⟩ : ∃ W1, W1 = (w.alloc (.cells #[.int .i64 room, .slice a KK.length cap] 26)).alloc (.cells #[.int .i64 0, .slice none 0 0] 26) := ⟨_, rfl⟩
  have g1 : w.grownBy W1 none := by rw [hW1]; exact grown_trans (World.grownBy_alloc _ _ _) (World.grownBy_alloc _ _ _)
  have s1 : W1.heap.size = w.heap.size + 1 + 1 := by rw [hW1]; simp only [World.size_alloc]
  have B1 : Box 26 W1 w.heap.size (.int .i64 room) (.slice a KK.length cap) := by rw [hW1]; exact (Box.new _ _ _ _).kept (World.grownBy_alloc _ _ none)
  have R1 : Box 26 W1 (w.heap.size + 1) (.int .i64 0) (.slice none 0 0) := by
    rw [hW1]
    have := Box.new 26 (w.alloc (.cells #[.int .i64 room, .slice a KK.length cap] 26)) (.int .i64 0) (.slice none 0 0)
    rw [World.size_alloc] at this
    exact this
  have b1 := B1.c1
  rw [hW1] at b1
  have HV := hide (hv.kept g1)
  have HG := hide g1
  have HB := hide B1
  have HR := hide R1
  clear g1 B1 R1 hv
  go_enter Try.func29, Try.ntmps29
  go_wp2_with (first | (at_make; refine wpList_make_own _ rfl _ _ 24 rfl W1.heap.size 29 i0 (.agg #[.string ⟨#[]⟩, .bool false, .slice none 0 0, .int .i64 0]) 4 Try.underlying24 hi hz0 hz1 _ _ _ KK.length rfl rfl (by rfl) ?b1 ?b2 ?b3 ?_) | go_in)
  case b1 => rw [hz2]; omega
  case b2 => unfold maxLen; omega
  case b3 => rw [hW1]; exact Nat.le_refl _
  rw [← hW1]
  clear hW1 b1
  intro w2 hown hgrow
  have ST : Hid (OwnK (w.heap.size + 1 + 1) w2.heap.size w2 (.slice (some ⟨w.heap.size + 1 + 1, 0, none⟩) 0 KK.length) (KK.take 0)) := ⟨[], rfl, hown, fun k e => (hown.lt k e).2, (fun p hp => by cases hp), .nil⟩
  have GS := hide hgrow
  have bb := ((unhide HB).kept hgrow).c1
  clear hown hgrow
  go_wp2_with fail
  clear bb
  go_loopw [3, 13] (fun u i wr => ∃ j : Nat, j ≤ KK.length ∧ i = .int .i64 j ∧ Hid (OwnK (w.heap.size + 1 + 1) wr.heap.size wr u (KK.take j)) ∧ Hid (W1.grownBy wr none)) (fun _ i _ => KK.length - (intOf i).toNat)
  case atStart => exact ⟨0, Nat.zero_le _, rfl, ST, GS⟩
  case round =>
    obtain ⟨j, hj, rfl, ho, hg⟩ := hrel
    clear ST GS
    obtain ⟨xa, xc, hxv⟩ := (unhide ho).len
    have hjl : (KK.take j).length = j := by rw [List.length_take]; omega
    rw [hjl] at hxv
    have HJL := hide hjl
    clear hjl
    subst hxv
    by_cases hlt : j < KK.length
    · obtain ⟨a', cap', e, hh⟩ := unhide HV
      simp only [Value.slice.injEq] at e
      obtain ⟨rfl, _, rfl⟩ := e
      rcases hh with h | ⟨b, off, rfl, hb, hcb⟩
      · rw [h] at hlt
        simp at hlt
      · obtain ⟨u, hu, hvl⟩ := hcb j hlt
        obtain ⟨c0, c1, c2, c3, _⟩ := hu.kept (unhide hg)
        have HVL := hide (hvl.kept (unhide hg))
        have HTK := hide (take_snoc KK j hlt)
        have hL := hin j
        have hi' : (j : Int) < (KK.length : Int) := by omega
        generalize KK.getD j kz = x at *
        obtain ⟨dg, sat, vals, cost⟩ := x
        dsimp only at *
        obtain ⟨ua, uc, rfl, _⟩ := hvl.sl
        obtain ⟨W4, hW4⟩ : ∃ W4, W4 = wr.alloc (.cells #[.string dg, .bool sat, .slice ua vals.length uc, .int .i64 cost] 29) := ⟨_, rfl⟩
        have g4 : wr.grownBy W4 none := by rw [hW4]; exact World.grownBy_alloc _ _ _
        have B4 : Box4 29 W4 wr.heap.size (.string dg) (.bool sat) (.slice ua vals.length uc) (.int .i64 cost) := by rw [hW4]; exact Box4.new _ _ _ _ _ _
        have CC := hide (copyKnown (.slice ua vals.length uc) ⟨dg, sat, vals, cost⟩ W4 hL ((unhide HVL).kept g4))
        dsimp only at CC
        have O4 := hide (((unhide ho).kept g4).sub (Nat.le_refl _) g4.size)
        have G4 := hide (grown_trans (r := none) (unhide hg) g4)
        have y0 := B4.c0
        have y1 := B4.c1
        have y2 := B4.c2
        have y3 := B4.c3
        have hs4 : w.heap.size + 1 + 1 ≤ W4.heap.size := by have := (unhide G4).size; omega
        clear hu hvl hcb B4 g4 ho hg
        go_upto_region 5 with fail
        rw [← hW4]
        clear hW4 c0 c1 c2 c3
        go_wp2_with fail
        refine (unhide CC).mono ?_; rintro e w5 ⟨v5, rfl, o5, g5⟩
        obtain ⟨v5a, v5c, rfl, _⟩ := Sl.of_own o5
        have U5 := hide (Own.of o5)
        have O5 := hide ((unhide O4).kept g5)
        have G5 := hide (grown_trans (r := none) (unhide G4) g5)
        have hs5 := g5.size
        clear o5 g5 CC O4 G4 y0 y1 y2 y3
        go_wp2_with (at_builtin; refine appK (k := ⟨dg, sat, vals, cost⟩) (unhide O5) (unhide U5) hs4 hs5 (by rw [unhide HJL]; omega) rfl _ _ rfl rfl rfl ?_)
        intro g6 cap6 w6 o6 gg6
        rw [← unhide HTK] at o6
        have O6 := hide o6
        have G6 := hide (grown_app (lo := 0) (unhide G5) (by rw [s1]; exact unhide O5) gg6)
        clear o6 gg6 O5 U5 G5
        go_wp2_with fail
        go_roundw
        case rel => exact ⟨j + 1, by omega, by go_num, O6, G6⟩
        case measure => simp [intOf]; omega
    · have hi' : ¬ (j : Int) < (KK.length : Int) := by omega
      have hjj : KK.take j = KK := List.take_of_length_le (by omega)
      rw [hjj] at ho
      have R := hide ((unhide HR).kept (unhide hg))
      have BX := hide ((unhide HB).kept (unhide hg))
      have GG := hide (grown_trans (r := none) (unhide HG) (unhide hg))
      have hsz := (unhide hg).size
      have x0 := (unhide BX).c0
      have r0 := (unhide R).c0
      have r1 := (unhide R).c1
      have rf0 := (unhide R).f 0
      have rf1 := (unhide R).f 1
      clear hjj HJL HV HB HR hg
      go_wp2_with fail
      (try simp only [Exit.inBlock, Exit.then])
      refine bodyPost_ret (ret_cache rfl rfl (((unhide R).set0 (.int .i64 room)).set1 (.slice xa j xc))) rfl ⟨_, rfl, ?_, ?_⟩
      · rw [cf.size_set, cf.size_set]
        exact (ownK_set (ownK_set (unhide ho) (by omega)) (by omega)).sub (by omega) (Nat.le_refl _)
      · exact cf.grown_set (cf.grown_set (unhide GG) (by omega)) (by omega)
end Go.Proofs.Ytgjakiliepfjiaa.ua
