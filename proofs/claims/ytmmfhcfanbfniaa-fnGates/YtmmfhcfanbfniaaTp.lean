/- What the laws of stage 13 draw: lists of at most 25 numbers in memory of the call's own, and numbers; whatever the bytes. -/
import Derived.Test.YtmmfhcfanbfniaaDCl
import Derived.Test.YtmmfhcfanbfniaaT4
namespace Go.Proofs.Ytmmfhcfanbfniaa.t2
open Go.ChangeShapes Go.WideShapes Go.ChangeAt Go.RowKit
open Go.Proofs.Ytmmfhcfanbfniaa.sl (Sl ints hide unhide grown_refl grown_trans grown_trans' of_below below_of grown_drewN)
open Go.Proofs.Ytmmfhcfanbfniaa.draw (Cur Bs I64 newCur grown_new)
open Go.Proofs.Ytmmfhcfanbfniaa.dcls (MadeC appendC slLen)
open Go.Proofs.Ytmmfhcfanbfniaa.wo (Made)
set_option linter.unusedVariables false

set_option maxRecDepth 10000 in
set_option maxHeartbeats 4000000 in
theorem lits13 (c K : Nat) (w : World) (hc : Cur w c) (hK : K ≤ 8) :
    Calls Try.prog 55 #[.pointer (some ⟨c, 0, none⟩), .int .i64 (K : Int)] w fun e w' => ∃ v L, e = .returned v ∧ L.length ≤ 25 ∧ MadeC c w w' v L := by
  have hlt := hc.lt
  have M1 := hide (MadeC.start c w hc)
  clear hc
  go_enter Try.func55, Try.ntmps55
  go_wp2_with fail
  go_loopw [5, 6] (fun u i wr => ∃ (k : Nat) (M : List Int), 1 ≤ k ∧ k ≤ K + 1 ∧ M.length + 1 ≤ k ∧ i = .int .i64 (k : Int) ∧ Hid (MadeC c w wr u M)) (fun _ i _ => K + 1 - (intOf i).toNat)
  case atStart => exact ⟨1, [], Nat.le_refl _, by omega, Nat.le_refl _, rfl, M1⟩
  case round =>
    obtain ⟨k, M, hk1, hk, hM, rfl, HM⟩ := hrel
    clear M1
    by_cases hlt' : k ≤ K
    · have hi : (k : Int) ≤ (K : Int) := by omega
      obtain ⟨ua, uc, rfl⟩ := (unhide HM).form
      go_wp2_with fail
      refine (draw.below c 3 _ (unhide HM).2.2 (by decide) (by decide)).mono ?_; rintro e w2 ⟨y, rfl, y0, y1, hc2, g2⟩
      have HM2 := hide ((unhide HM).turn hlt g2 hc2)
      clear hc2 g2 HM
      by_cases e0 : y = 0
      · subst e0
        clear y0 y1
        go_wp2_with (at_builtin; refine appendC (unhide HM2) hlt (by omega) rfl _ _ rfl rfl rfl ?_)
        intro v' w3 R
        have R3 := hide R
        clear HM2 R
        go_wp2
        go_roundw
        case rel => exact ⟨k + 1, M ++ [(k : Int)], by omega, by omega, by rw [List.length_append]; exact Nat.succ_le_succ hM, by go_num, R3⟩
        case measure => simp [intOf]; omega
      · by_cases e1 : y = 1
        · subst e1
          clear y0 y1 e0
          go_wp2_with (at_builtin; refine appendC (unhide HM2) hlt (by omega) rfl _ _ rfl rfl rfl ?_)
          intro v' w3 R
          have R3 := hide R
          clear HM2 R
          go_wp2
          go_roundw
          case rel => exact ⟨k + 1, M ++ [-(k : Int)], by omega, by omega, by rw [List.length_append]; exact Nat.succ_le_succ hM, by go_num, R3⟩
          case measure => simp [intOf]; omega
        · have e2 : y = 2 := by omega
          subst e2
          clear y0 y1 e0 e1
          go_wp2_with fail
          go_roundw
          case rel => exact ⟨k + 1, M, by omega, by omega, by omega, by go_num, HM2⟩
          case measure => simp [intOf]; omega
    · have hi : ¬ (k : Int) ≤ (K : Int) := by omega
      have hM9 : M.length ≤ 8 := by omega
      obtain ⟨ua, uc, rfl⟩ := (unhide HM).form
      clear hM hk hk1 hlt'
      go_wp2_with fail
      refine (draw.once c _ _ (unhide HM).2.2 (by decide) (by decide)).mono ?_; rintro e w2 ⟨b, rfl, hc2, g2⟩
      have HM2 := hide ((unhide HM).turn hlt g2 hc2)
      clear hc2 g2 HM
      cases b
      · go_wp2_with fail
        refine (draw.once c _ _ (unhide HM2).2.2 (by decide) (by decide)).mono ?_; rintro e w5 ⟨b5, rfl, hc5, g5⟩
        have HM5 := hide ((unhide HM2).turn hlt g5 hc5)
        clear hc5 g5 HM2
        cases b5
        · go_wp2_with fail
          go_ret
          exact ⟨_, M, rfl, by omega, unhide HM5⟩
        · have hM25 : (M).length ≤ 25 := by omega
          go_wp2_with fail
          go_loopw [5] (fun u wr => ∃ (N : List Int), N.length ≤ 25 ∧ Hid (MadeC c w wr u N)) (fun u _ => 25 - slLen u)
          case atStart => exact ⟨M, hM25, HM5⟩
          case round =>
            obtain ⟨N, hN, HM6⟩ := hrel
            clear HM5 hM25
            obtain ⟨a6, c6, rfl⟩ := (unhide HM6).form
            go_wp2_with fail
            refine (draw.below c _ _ (unhide HM6).2.2 (by decide) (by decide)).mono ?_; rintro e w7 ⟨x, rfl, x0, x1, hc7, g7⟩
            have HM7 := hide ((unhide HM6).turn hlt g7 hc7)
            clear hc7 g7 HM6
            by_cases h24 : (N.length : Int) < 24 + x
            · go_wp2_with (at_builtin; refine appendC (unhide HM7) hlt (by omega) rfl _ _ rfl rfl rfl ?_)
              intro v' w8 R
              obtain ⟨a', cap', rfl⟩ := R.form
              have HR := hide R
              have hl : (N ++ [5]).length = N.length + 1 := by simp
              clear R HM7
              go_wp2
              go_roundw
              case rel => exact ⟨N ++ [5], by omega, HR⟩
              case measure => simp [slLen]; omega
            · go_wp2_with fail
              go_ret
              exact ⟨_, N, rfl, hN, unhide HM7⟩
      · go_wp2_with fail
        refine (draw.lit c _ _ (unhide HM2).2.2 (by decide) (by decide)).mono ?_; rintro e w3 ⟨y, rfl, hy, hc3, g3⟩
        have HM3 := hide ((unhide HM2).turn hlt g3 hc3)
        clear hy hc3 g3 HM2
        go_wp2_with (at_builtin; refine appendC (unhide HM3) hlt (by omega) rfl _ _ rfl rfl rfl ?_)
        intro v' w4 R
        obtain ⟨a4, cap4, rfl⟩ := R.form
        have HM4 := hide R
        have hM10 : (M ++ [y]).length ≤ 9 := by simp; omega
        generalize M ++ [y] = M2 at *
        clear R HM3
        go_wp2_with fail
        refine (draw.once c _ _ (unhide HM4).2.2 (by decide) (by decide)).mono ?_; rintro e w5 ⟨b5, rfl, hc5, g5⟩
        have HM5 := hide ((unhide HM4).turn hlt g5 hc5)
        clear hc5 g5 HM4
        cases b5
        · go_wp2_with fail
          go_ret
          exact ⟨_, M2, rfl, by omega, unhide HM5⟩
        · have hM25 : (M2).length ≤ 25 := by omega
          go_wp2_with fail
          go_loopw [5] (fun u wr => ∃ (N : List Int), N.length ≤ 25 ∧ Hid (MadeC c w wr u N)) (fun u _ => 25 - slLen u)
          case atStart => exact ⟨M2, hM25, HM5⟩
          case round =>
            obtain ⟨N, hN, HM6⟩ := hrel
            clear HM5 hM25
            obtain ⟨a6, c6, rfl⟩ := (unhide HM6).form
            go_wp2_with fail
            refine (draw.below c _ _ (unhide HM6).2.2 (by decide) (by decide)).mono ?_; rintro e w7 ⟨x, rfl, x0, x1, hc7, g7⟩
            have HM7 := hide ((unhide HM6).turn hlt g7 hc7)
            clear hc7 g7 HM6
            by_cases h24 : (N.length : Int) < 24 + x
            · go_wp2_with (at_builtin; refine appendC (unhide HM7) hlt (by omega) rfl _ _ rfl rfl rfl ?_)
              intro v' w8 R
              obtain ⟨a', cap', rfl⟩ := R.form
              have HR := hide R
              have hl : (N ++ [5]).length = N.length + 1 := by simp
              clear R HM7
              go_wp2
              go_roundw
              case rel => exact ⟨N ++ [5], by omega, HR⟩
              case measure => simp [slLen]; omega
            · go_wp2_with fail
              go_ret
              exact ⟨_, N, rfl, hN, unhide HM7⟩

set_option maxRecDepth 10000 in
set_option maxHeartbeats 4000000 in
theorem size13 (c : Nat) (w : World) (hc : Cur w c) :
    Calls Try.prog 56 #[.pointer (some ⟨c, 0, none⟩)] w fun e w' => ∃ x : Int, e = .returned (.int .i64 x) ∧ (-9223372036854775808 ≤ x ∧ x ≤ 9223372036854775807) ∧ Cur w' c ∧ w.grownBy w' (some c) := by
  have HC := hide hc
  clear hc
  go_enter Try.func56, Try.ntmps56
  go_wp2_with fail
  refine (draw.once c _ _ (unhide HC) (by decide) (by decide)).mono ?_; rintro e w1 ⟨b1, rfl, hc1, g1⟩
  have HC1 := hide hc1
  have G1 := hide g1
  clear hc1 g1 HC
  cases b1
  · go_wp2_with fail
    refine (draw.below c 7 _ (unhide HC1) (by decide) (by decide)).mono ?_; rintro e w2 ⟨x, rfl, x0, x1, hc2, g2⟩
    have R := hide (And.intro hc2 (grown_trans' (unhide G1) g2))
    clear hc2 g2 HC1 G1
    go_wp2_with fail
    go_ret
    exact ⟨_, rfl, ⟨by omega, by omega⟩, (unhide R).1, (unhide R).2⟩
  · have hl := own_litN w1 4 [-1, 24, 9223372036854775807, -9223372036854775808] #[.int .i64 (-1), .int .i64 24, .int .i64 9223372036854775807, .int .i64 (-9223372036854775808)] rfl rfl (by decide)
    have ga := draw.grown_alloc_some w1 (.cells #[.int .i64 (-1), .int .i64 24, .int .i64 9223372036854775807, .int .i64 (-9223372036854775808)] 3) none
    have hlt := (unhide HC1).lt
    have PK := hide (draw.pickInt c _ _ _ ((unhide HC1).kept ga (fun r e => by cases e)) (by decide) (by decide) hl.sl (fun k e => by cases e; exact hlt))
    clear hl ga
    go_wp2_with fail
    refine (unhide PK).mono ?_
    rintro e w2 ⟨x, rfl, hx, hc2, g2⟩
    have hb : -9223372036854775808 ≤ x ∧ x ≤ 9223372036854775807 := by
      simp only [List.mem_cons, List.not_mem_nil, or_false] at hx
      omega
    have R := hide (And.intro hc2 (grown_trans' (grown_trans' (unhide G1) (draw.grown_alloc_some _ _ _)) g2))
    clear hc2 g2 HC1 G1 hx PK
    go_wp2_with fail
    go_ret
    exact ⟨_, rfl, hb, (unhide R).1, (unhide R).2⟩

/-- what lies behind a draw: nothing old is written -/
theorem made_new {w w1 w2 : World} {v : Value} {L : List Int} (g : w.grownBy w1 none) (hc : Cur w1 w.heap.size) (hm : MadeC w.heap.size w1 w2 v L) : Made w w2 v L := ⟨css.own_mono hm.1 g.size, grown_new g hm.2.1 (Nat.le_refl _)⟩
set_option maxRecDepth 10000 in
theorem drawExactly (a : Option Addr) (n cap : Nat) (w : World) (hn : n ≤ 1048576) (hB : Bs w a n) :
    Calls Try.prog 13 #[.slice a n cap] w fun e w' => ∃ v L k, e = .returned (.tuple #[v, .int .i64 k]) ∧ L.length ≤ 25 ∧ (-9223372036854775808 ≤ k ∧ k ≤ 9223372036854775807) ∧ Made w w' v L := by
  have HB := hide hB
  clear hB
  go_enter Try.func13, Try.ntmps13
  go_wp2_with fail
  refine (newCur a n cap _ hn (unhide HB)).mono ?_; rintro e w1 ⟨rfl, hc1, g1⟩
  have HC1 := hide hc1
  have G1 := hide g1
  have hlt := hc1.lt
  clear hc1 g1
  go_wp2_with fail
  refine (lits13 _ 7 _ (unhide HC1) (by decide)).mono ?_; rintro e w2 ⟨v, L, rfl, hL, hm⟩
  have M2 := hide hm
  obtain ⟨va, vc, rfl⟩ := hm.form
  clear hm HB
  go_wp2_with fail
  refine (size13 _ _ (unhide M2).2.2).mono ?_; rintro e w3 ⟨k, rfl, hk, hc3, g3⟩
  have R := hide (made_new (unhide G1) (unhide HC1) ((unhide M2).turn hlt g3 hc3))
  clear hc3 g3 M2 HC1 G1
  go_wp2_with fail
  go_ret2
  exact ⟨_, L, k, rfl, hL, hk, unhide R⟩
set_option maxRecDepth 10000 in
theorem drawParity (a : Option Addr) (n cap : Nat) (w : World) (hn : n ≤ 1048576) (hB : Bs w a n) :
    Calls Try.prog 25 #[.slice a n cap] w fun e w' => ∃ v L b, e = .returned (.tuple #[v, .bool b]) ∧ L.length ≤ 25 ∧ Made w w' v L := by
  have HB := hide hB
  clear hB
  go_enter Try.func25, Try.ntmps25
  go_wp2_with fail
  refine (newCur a n cap _ hn (unhide HB)).mono ?_; rintro e w1 ⟨rfl, hc1, g1⟩
  have HC1 := hide hc1
  have G1 := hide g1
  have hlt := hc1.lt
  clear hc1 g1
  go_wp2_with fail
  refine (lits13 _ 8 _ (unhide HC1) (by decide)).mono ?_; rintro e w2 ⟨v, L, rfl, hL, hm⟩
  have M2 := hide hm
  obtain ⟨va, vc, rfl⟩ := hm.form
  clear hm HB
  go_wp2_with fail
  refine (draw.once _ _ _ (unhide M2).2.2 (by decide) (by decide)).mono ?_; rintro e w3 ⟨k, rfl, hc3, g3⟩
  have R := hide (made_new (unhide G1) (unhide HC1) ((unhide M2).turn hlt g3 hc3))
  clear hc3 g3 M2 HC1 G1
  go_wp2_with fail
  go_ret2
  exact ⟨_, L, k, rfl, hL, unhide R⟩
set_option maxRecDepth 10000 in
theorem drawAndGate (a : Option Addr) (n cap : Nat) (w : World) (hn : n ≤ 1048576) (hB : Bs w a n) :
    Calls Try.prog 31 #[.slice a n cap] w fun e w' => ∃ x v L, e = .returned (.tuple #[.int .i64 x, v]) ∧ L.length ≤ 25 ∧ I64 x ∧ Made w w' v L := by
  have HB := hide hB
  clear hB
  go_enter Try.func31, Try.ntmps31
  go_wp2_with fail
  refine (newCur a n cap _ hn (unhide HB)).mono ?_; rintro e w1 ⟨rfl, hc1, g1⟩
  have HC1 := hide hc1
  have G1 := hide g1
  have hlt := hc1.lt
  clear hc1 g1
  go_wp2_with fail
  refine (draw.lit _ _ _ (unhide HC1) (by decide) (by decide)).mono ?_; rintro e w2 ⟨x, rfl, hx, hc2, g2⟩
  have HC2 := hide hc2
  have HX := hide hx
  have G2 := hide g2
  have G3 := hide (grown_new (unhide G1) g2 (Nat.le_refl _))
  clear hc2 g2 hx HB
  go_wp2_with fail
  refine (lits13 _ 6 _ (unhide HC2) (by decide)).mono ?_; rintro e w3 ⟨v, L, rfl, hL, hm⟩
  have R : Hid (Made w w3 v L) := ⟨css.own_mono hm.1 (unhide G3).size, grown_new (unhide G3) hm.2.1 (Nat.le_refl _)⟩
  obtain ⟨va, vc, rfl⟩ := hm.form
  clear hm HC1 HC2 G1 G2 G3
  go_wp2_with fail
  go_ret2
  exact ⟨x, _, L, rfl, hL, unhide HX, unhide R⟩
theorem results_tmp4 {fn : Func} {t u p q : Tmp} (h : fn.results = #[.tmp t, .tmp u, .tmp p, .tmp q]) (tmps : Array Value) (P : Program) (w : World) :
    (results fn tmps).run P w = .ok (.tuple #[tmps.getD t undef, tmps.getD u undef, tmps.getD p undef, tmps.getD q undef]) w := by
  simp [results, h]
set_option maxRecDepth 10000 in
theorem drawIfGate (a : Option Addr) (n cap : Nat) (w : World) (hn : n ≤ 1048576) (hB : Bs w a n) :
    Calls Try.prog 28 #[.slice a n cap] w fun e w' => ∃ x y z q, e = .returned (.tuple #[.int .i64 x, .int .i64 y, .int .i64 z, .int .i64 q]) ∧ I64 x ∧ I64 y ∧ I64 z ∧ I64 q ∧ w.grownBy w' none := by
  have HB := hide hB
  clear hB
  go_enter Try.func28, Try.ntmps28
  go_wp2_with fail
  refine (newCur a n cap _ hn (unhide HB)).mono ?_; rintro e w1 ⟨rfl, hc1, g1⟩
  have HC1 := hide hc1
  have G1 := hide g1
  clear hc1 g1
  go_wp2_with fail
  refine (draw.lit _ _ _ (unhide HC1) (by decide) (by decide)).mono ?_; rintro e w2 ⟨x, rfl, hx, hc2, g2⟩
  have HC2 := hide hc2
  have HX := hide hx
  have G2 := hide (grown_new (unhide G1) g2 (Nat.le_refl _))
  clear hc2 g2 hx HB HC1 G1
  go_wp2_with fail
  refine (draw.lit _ _ _ (unhide HC2) (by decide) (by decide)).mono ?_; rintro e w3 ⟨y, rfl, hy, hc3, g3⟩
  have HC3 := hide hc3
  have HY := hide hy
  have G3 := hide (grown_new (unhide G2) g3 (Nat.le_refl _))
  clear hc3 g3 hy HC2 G2
  go_wp2_with fail
  refine (draw.lit _ _ _ (unhide HC3) (by decide) (by decide)).mono ?_; rintro e w4 ⟨z, rfl, hz, hc4, g4⟩
  have HC4 := hide hc4
  have HZ := hide hz
  have G4 := hide (grown_new (unhide G3) g4 (Nat.le_refl _))
  clear hc4 g4 hz HC3 G3
  go_wp2_with fail
  refine (draw.lit _ _ _ (unhide HC4) (by decide) (by decide)).mono ?_; rintro e w5 ⟨q, rfl, hq, hc5, g5⟩
  have HQ := hide hq
  have G5 := hide (grown_new (unhide G4) g5 (Nat.le_refl _))
  clear hc5 g5 hq HC4 G4
  go_wp2_with fail
  (try simp only [Exit.inBlock, Exit.then])
  refine bodyPost_ret (results_tmp4 rfl _ _ _) rfl ?_
  exact ⟨x, y, z, q, rfl, unhide HX, unhide HY, unhide HZ, unhide HQ, unhide G5⟩
end Go.Proofs.Ytmmfhcfanbfniaa.t2
