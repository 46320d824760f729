/- One thing more than places cannot be placed, and up to two places Refute's proof of that checks; the formula of a colouring is the model's, can be true just when some colouring has no edge of one colour, and is true as often as such colourings are there; conditions: none but the listed table. -/
import Derived.Test.YtfhmdpbnnieohaaDoorCards
import Derived.Test.YtfhmdpbnnieohaaDoorTie
import Derived.Test.YtfhmdpbnnieohaaDoorJXPf
import Derived.Test.YtfhmdpbnnieohaaDoorJXDVa
import Derived.Test.YtfhmdpbnnieohaaDoorJXDf
import Derived.Test.YtfhmdpbnnieohaaDoorJXDraw
import Derived.Test.YtfhmdpbnnieohaaDoorJPn
import Derived.WalkKit
import Derived.ProofKit
import Derived.OpenShut
import Derived.ShutString
import Derived.ChangeOld
import Derived.Below
import Derived.Deep.DeepHandedRow
import Derived.Lib.LaidTab
import Derived.Lib.TrailingZeros
import Derived.Stop.LaidErr
import Derived.Stop.LaidTwo
import Derived.LaidHandle
import Derived.LaidSub
namespace Go.Proofs.YtfhmdpbnnieohaaDoor.fnPuzzles
open Go.ChangeShapes Go.WideShapes Go.ChangeAt Go.RowKit
open Go.ChangeMaps (open_string shut_string)
set_option linter.unusedVariables false

theorem own : ownKnob Tryd.prog.godebug = none := by kernel_rfl
theorem laidOut : laidOutB Tryd.prog = true := by kernel_rfl

/-- what the walk is told of a slice of integers that came in -/
def IsRow (k : IntKind) (w : World) (a : Option Addr) (len cap : Nat) (zs : List Int) : Prop :=
  (a = none ∧ len = 0 ∧ cap = 0 ∧ zs = []) ∨
  ∃ x, a = some x ∧ len ≤ cap ∧ cap ≤ maxLen ∧ zs.length = cap ∧ (∀ i, i < zs.length → w.cell? (x.add i) = some (.int k (zs.getD i 0))) ∧ ∀ n ∈ zs, (Lit.int k n).wf = true

theorem gTab : Tryd.prog.globalNamed "math/bits.deBruijn64tab" = some 0 := by kernel_rfl
theorem gTabType : (Tryd.prog.globals[0]?).map (·.type) = some 136 := by kernel_rfl
theorem cellsTab : Tryd.prog.cellsOf 136 = 64 := by kernel_rfl
theorem cellsByte : Tryd.prog.cellsOf 5 = 1 := by kernel_rfl
/-- what the row's list gives: the table's cells hold its numbers -/
theorem table {W : World} (h : laidMetH Tryd.prog Rows.fnPuzzlesRow.laid W) : srt.Tab W := by
  have t : Lib.TabIs Tryd.prog W "math/bits.deBruijn64tab" .u8 (Lib.deBruijn64tab.map fun (n : Nat) => (n : Int)) :=
    Lib.tabIs_of_head (rest := []) gTab gTabType Tryd.underlying136 Tryd.underlying5 cellsByte cellsTab h
  intro j hj
  have c := t.cell gTab j (by rw [List.length_map]; exact hj)
  rw [c]
  congr 2
  rw [List.getD, List.getD, List.getElem?_map]
  cases Lib.deBruijn64tab[j]? <;> rfl

/-! ### the walk -/
set_option maxRecDepth 100000 in
set_option maxHeartbeats 8000000 in
theorem walk (a0 : Option Addr) (len0 cap0 : Nat) (z0 : List Int) (w : World) (w0 : IsRow .u8 w a0 len0 cap0 z0) (hT : srt.Tab w) :
    Calls Tryd.prog 3 #[.slice a0 len0 cap0] w fun e w' => e = .returned (.bool true) ∧ Below w.heap.size w w' := by
  have hB := draw.of_rowB w0
  have hm : len0 ≤ 9223372036854775807 := by
    rcases w0 with ⟨_, h, _, _⟩ | ⟨_, _, h1, h2, _⟩
    · omega
    · unfold maxLen at h2
      omega
  clear w0
  by_cases hbig : 1048576 < len0
  · have C := sl.hide (draw.big a0 len0 cap0 w hm)
    rw [decide_eq_true hbig] at C
    clear hT
    go_enter Tryd.func3, Tryd.ntmps3
    go_wp2_with fail
    refine (sl.unhide C).mono ?_; rintro e w' ⟨rfl, rfl⟩
    go_wp2_with fail
    go_ret
    exact ⟨rfl, Below.refl _ _⟩
  have C := sl.hide (draw.big a0 len0 cap0 w hm)
  rw [decide_eq_false hbig] at C
  have HB := sl.hide hB
  have TT := sl.hide hT
  have hlen : len0 ≤ 1048576 := by omega
  clear hB hT hbig
  go_enter Tryd.func3, Tryd.ntmps3
  go_wp2_with fail
  refine (sl.unhide C).mono ?_; rintro e w' ⟨rfl, hw⟩; have hw' := hw.symm; clear hw; subst hw'
  clear C hm
  go_wp2_with fail
  refine (dva.at_ a0 len0 cap0 1 w hlen (by decide) (by decide) (sl.unhide HB)).mono ?_; rintro e w' ⟨x, rfl, x0, x1, hw⟩; have hw' := hw.symm; clear hw; subst hw'
  obtain ⟨j, hxj, hj⟩ : ∃ j : Nat, x.tmod 3 = (j : Int) ∧ j < 3 := by
    rw [Int.tmod_eq_emod_of_nonneg x0]
    obtain ⟨q, hq⟩ := Int.eq_ofNat_of_zero_le (Int.emod_nonneg x (show (3 : Int) ≠ 0 by decide))
    exact ⟨q, hq, by have := Int.emod_lt_of_pos x (show (0 : Int) < 3 by decide); omega⟩
  obtain ⟨N, R, Q, fine, chk, PT⟩ := pz.pigT j hj
  have PG := sl.hide PT
  clear PT x0 x1
  go_wp2_with fail
  refine ((sl.unhide PG).cp w).mono ?_; rintro e w1 ⟨u1, rfl, o1, g1⟩
  obtain ⟨va, vc, rfl⟩ := o1.len
  have gA := World.grownBy_alloc w1 (.cells #[.int .i64 N, .slice va R.length vc] 27) none
  have F1 := sl.hide (cf.Box.new 27 w1 (.int .i64 N) (.slice va R.length vc))
  have G1 := sl.hide (sl.grown_trans (r := none) g1 gA)
  have O1 := sl.hide (o1.kept gA)
  obtain ⟨W1, hW1⟩ : ∃ W1, W1 = w1.alloc (.cells #[.int .i64 N, .slice va R.length vc] 27) := ⟨_, rfl⟩
  rw [← hW1] at F1 G1 O1
  have T1 := sl.hide ((sl.unhide TT).kept (sl.unhide G1))
  clear g1 o1 gA TT hxj
  have z0 := (sl.unhide F1).c0
  have z1 := (sl.unhide F1).c1
  go_wp2_with fail
  rw [← hW1]
  refine ((sl.unhide PG).cs W1 _ (sl.unhide T1) (sl.unhide O1).sls).mono ?_; rintro e w2 ⟨r2, rfl, m2⟩
  clear hW1 z0 z1
  obtain ⟨ra2, rc2, rfl, _⟩ := sl.Sl.of_own m2.1
  have K2 := sl.hide m2.2
  clear m2
  have z0 := ((sl.unhide F1).kept (sl.unhide K2)).c0
  have z1 := ((sl.unhide F1).kept (sl.unhide K2)).c1
  go_wp2_with fail
  refine ((sl.unhide PG).cr w2 _ ((sl.unhide T1).kept (sl.unhide K2)) ((sl.unhide O1).kept (sl.unhide K2)).sls).mono ?_; rintro e w3 ⟨r3, rfl, o3, g3⟩
  clear z0 z1
  obtain ⟨ra3, rc3, rfl⟩ := o3.len
  have K3 := sl.hide (sl.grown_trans (r := none) (sl.unhide K2) g3)
  have R3 := sl.hide o3
  have F3 := sl.hide ((sl.unhide F1).kept (sl.unhide K3))
  have T3 := sl.hide ((sl.unhide T1).kept (sl.unhide K3))
  have O3 := sl.hide ((sl.unhide O1).kept (sl.unhide K3))
  have G3 := sl.hide (sl.grown_trans (r := none) (sl.unhide G1) (sl.unhide K3))
  clear g3 o3 K2 K3 F1 T1 O1 G1
  go_upto_region 7 with fail
  go_cut [67] (fun q wx => q = .bool false ∧ Hid (w3.grownBy wx none))
  case first =>
    by_cases h2 : j < 2
    · obtain ⟨rfl, rfl⟩ := (sl.unhide PG).yes h2
      have h3 : ((j : Int) + 1) < 3 := by omega
      have z0 := (sl.unhide F3).c0
      have z1 := (sl.unhide F3).c1
      clear hj h2
      go_wp2_with fail
      refine ((sl.unhide PG).ck w3 _ _ (sl.unhide T3) (sl.unhide O3).sls (sl.unhide R3).sls).mono ?_; rintro e w4 ⟨rfl, g4⟩
      have GX := sl.hide g4
      clear g4 z0 z1
      go_wp2_with fail
      go_meet
      exact ⟨rfl, GX⟩
    · have h3 : ¬ ((j : Int) + 1) < 3 := by omega
      clear hj h2
      go_wp2_with fail
      go_meet
      exact ⟨rfl, sl.grown_refl _⟩
  case rest =>
    obtain ⟨rfl, hg⟩ := hcut
    have G4 := sl.hide (sl.grown_trans (r := none) (sl.unhide G3) (sl.unhide hg))
    have HB4 := sl.hide ((sl.unhide HB).below (sl.below_of (sl.unhide G4)))
    have T4 := sl.hide ((sl.unhide T3).kept (sl.unhide hg))
    clear hg G3 T3 F3 O3 R3 PG HB
    generalize hwc : wc = w4 at *
    clear hwc
    go_wp2_with fail
    refine (pd.drawColor a0 len0 cap0 w4 hlen (sl.unhide HB4)).mono ?_; rintro e w5 ⟨n, k, v, E, f, rfl, hE, hn, hk, hv, g5⟩
    obtain ⟨ea, ec, rfl⟩ := hv.len
    obtain ⟨N5, b, R5, hR, hT5, cs, ci⟩ := pz.bothColorT n k E f (by omega)
    have EV := sl.hide hv
    have G5 := sl.hide (sl.grown_trans (r := none) (sl.unhide G4) g5)
    have T5 := sl.hide ((sl.unhide T4).kept g5)
    have HT5 := sl.hide hT5
    have HR := sl.hide hR
    have CI := sl.hide ci
    have CS := sl.hide cs
    clear g5 hv hT5 hR ci cs HB4 G4 T4
    go_wp2_with fail
    refine (sl.unhide CI w5 _ (sl.unhide EV)).mono ?_; rintro e w6 ⟨u6, rfl, o6, g6⟩
    obtain ⟨va6, vc6, rfl⟩ := o6.len
    have gA := World.grownBy_alloc w6 (.cells #[.int .i64 N5, .slice va6 R5.length vc6] 27) none
    have F6 := sl.hide (cf.Box.new 27 w6 (.int .i64 N5) (.slice va6 R5.length vc6))
    have G6 := sl.hide (sl.grown_trans (r := none) g6 gA)
    have O6 := sl.hide (o6.kept gA)
    obtain ⟨W6, hW6⟩ : ∃ W6, W6 = w6.alloc (.cells #[.int .i64 N5, .slice va6 R5.length vc6] 27) := ⟨_, rfl⟩
    rw [← hW6] at F6 G6 O6
    clear g6 o6 gA
    go_upto_region 11 with fail
    rw [← hW6]
    clear hW6
    go_wp2_with fail
    refine (sl.unhide CS W6 _ ((sl.unhide EV).kept (sl.unhide G6))).mono ?_; rintro e w7 ⟨u7, rfl, o7, g7⟩
    obtain ⟨va7, vc7, rfl⟩ := o7.len
    have gA := World.grownBy_alloc w7 (.cells #[.int .i64 N5, .slice va7 R5.length vc7] 27) none
    have F7 := sl.hide (cf.Box.new 27 w7 (.int .i64 N5) (.slice va7 R5.length vc7))
    have G7 := sl.hide (sl.grown_trans (r := none) g7 gA)
    have O7 := sl.hide (o7.kept gA)
    obtain ⟨W7, hW7⟩ : ∃ W7, W7 = w7.alloc (.cells #[.int .i64 N5, .slice va7 R5.length vc7] 27) := ⟨_, rfl⟩
    rw [← hW7] at F7 G7 O7
    clear g7 o7 gA CS CI
    go_upto_region 12 with fail
    rw [← hW7]
    clear hW7
    have E6 := sl.hide ((sl.unhide F6).kept (sl.unhide G7))
    have z0 := (sl.unhide E6).c0
    have z1 := (sl.unhide E6).c1
    have y0 := (sl.unhide F7).c0
    have y1 := (sl.unhide F7).c1
    have hq : (b != b) = false := by cases b <;> rfl
    have hq2 : (N5 != N5) = false := by simp
    have hlR := sl.hide (show R5.length ≤ 1048576 ∧ ∀ i, (R5.getD i []).length ≤ 1048576 from pz.small (sl.unhide HR))
    go_wp2_with fail
    refine (df.sameList _ _ R5 _ (sl.unhide hlR).1 (sl.unhide hlR).2 ((sl.unhide O6).kept (sl.unhide G7)).sls (sl.unhide O7).sls).mono ?_; rintro e w8 ⟨rfl, g8⟩
    have G8 := sl.hide (sl.grown_trans (r := none) (sl.unhide G6) (sl.grown_trans (r := none) (sl.unhide G7) g8))
    have O8 := sl.hide ((sl.unhide O6).sls.kept (sl.grown_trans (r := none) (sl.unhide G7) g8))
    have E8 := sl.hide ((sl.unhide E6).kept g8)
    have D8 := sl.hide ((sl.unhide F7).kept g8)
    clear g8 z0 z1 y0 y1 hlR E6 F7 G7 O7 hq
    have T8 := sl.hide ((sl.unhide T5).kept (sl.unhide G8))
    have EV8 := sl.hide ((sl.unhide EV).kept (sl.unhide G8))
    clear F6
    have z0 := (sl.unhide E8).c0
    have y0 := (sl.unhide D8).c0
    go_upto_region 14 with fail
    have GE := sl.hide (sl.grown_trans (r := none) (sl.unhide G5) (sl.unhide G8))
    clear G5 G8 O6 EV T5
    cases b
    · go_wp2_with fail
      go_ret
      exact ⟨rfl, sl.below_of (sl.unhide GE)⟩
    by_cases h5 : 5 < n
    · go_wp2_with fail
      go_ret
      exact ⟨rfl, sl.below_of (sl.unhide GE)⟩
    by_cases h3 : 3 < k
    · go_wp2_with fail
      go_ret
      exact ⟨rfl, sl.below_of (sl.unhide GE)⟩
    obtain ⟨mm, kk, rfl, rfl, hmm, hkk, CSS⟩ := pz.colS (sl.unhide HT5 rfl) (sl.unhide HR) h5 h3
    have CT := sl.hide CSS
    have PB := pz.pow_bd hkk hmm.2
    have PW := sl.hide (fun q (h : q < mm) => show kk ^ (q + 1) ≤ 243 from pz.pow_bd hkk (by omega))
    clear CSS HT5
    have hkk0 : 1 ≤ kk ∧ kk ≤ 3 := by omega
    have KK := sl.hide hkk
    clear hkk z0 y0 hq2
    go_wp2_with fail
    go_loop [17, 18] (fun a i => ∃ q : Nat, q ≤ mm ∧ a = .int .i64 ((kk ^ q : Nat) : Int) ∧ i = .int .i64 (q : Int)) (fun _ i => mm - (intOf i).toNat)
    case atStart => exact ⟨0, Nat.zero_le _, rfl, rfl⟩
    case round =>
      obtain ⟨q, hq, rfl, rfl⟩ := hrel
      by_cases hlt : q < mm
      · have hi : (q : Int) < (mm : Int) := by omega
        have hp : ((kk ^ q : Nat) : Int) * (kk : Int) = ((kk ^ (q + 1) : Nat) : Int) := by rw [← Int.natCast_mul, Nat.pow_succ]
        have hb := sl.unhide PW q hlt
        generalize hP2 : kk ^ (q + 1) = P2 at *
        generalize kk ^ q = P1 at *
        have HP2 := sl.hide hP2
        clear hP2
        go_wp2_with fail
        go_round
        case rel => exact ⟨q + 1, by omega, by rw [sl.unhide HP2], by go_num⟩
        case measure => simp [intOf]; omega
      · have hi : ¬ (q : Int) < (mm : Int) := by omega
        have e : mm = q := by omega
        subst e
        clear PW hlt hq
        generalize hA : kk ^ mm = A at *
        have HA := sl.hide hA
        clear hA
        go_wp2_with fail
        go_loopw [19, 20] (fun g c wr => ∃ t : Nat, t ≤ A ∧ g = .int .i64 (pz.goods mm kk E f t : Int) ∧ c = .int .i64 (t : Int) ∧ Hid (w8.grownBy wr none)) (fun _ c _ => A - (intOf c).toNat)
        case atStart => exact ⟨0, Nat.zero_le _, rfl, rfl, sl.grown_refl _⟩
        case round =>
          obtain ⟨t, ht, rfl, rfl, hg⟩ := hrel
          clear hi
          by_cases hlt : t < A
          · have hi : (t : Int) < (A : Int) := by omega
            have gs := sl.hide (pz.goods_step mm kk E f t)
            have gl := pz.goods_le mm kk E f t
            generalize pz.goods mm kk E f t = g0 at *
            obtain ⟨wb, rfl⟩ : ∃ wb, wb = wr := ⟨_, rfl⟩
            have M0 := sl.hide (pz.made_one wb)
            go_wp2_with fail
            go_loopw [21, 22, 23] (fun o x i wx => ∃ (d y : Nat) (P : List Nat), d ≤ mm ∧ i = .int .i64 (d : Int) ∧ x = .int .i64 (y : Int) ∧ y ≤ t ∧ Hid (pz.Dig kk mm t d y P) ∧ Hid (wo.Made wb wx o (pz.nums (0 :: P)))) (fun _ _ i _ => mm - (intOf i).toNat)
            case atStart => exact ⟨0, t, [], Nat.zero_le _, rfl, rfl, Nat.le_refl _, pz.Dig.start .., M0⟩
            case round =>
              obtain ⟨d, y, P, hd, rfl, rfl, hy, HD, HM⟩ := hrel
              clear M0 hi
              have PL : (pz.nums (0 :: P)).length = d + 1 := by rw [pz.nums_len, List.length_cons, (sl.unhide HD).1]
              by_cases hlt2 : d < mm
              · have hi2 : (d : Int) < (mm : Int) := by omega
                obtain ⟨oa, oc, rfl, _⟩ := sl.Sl.of_own (sl.unhide HM).1
                have hr : (y : Int).tmod (kk : Int) = ((y % kk : Nat) : Int) := by rw [Int.tmod_eq_emod_of_nonneg (by omega)]; rfl
                have hv : (y : Int).tdiv (kk : Int) = ((y / kk : Nat) : Int) := by rw [Int.tdiv_eq_ediv_of_nonneg (by omega)]; rfl
                have hk0 : ¬ (kk : Int) = 0 := by omega
                have HD2 := sl.hide ((sl.unhide HD).step hlt2)
                have HE := sl.hide (pz.nums_snoc (0 :: P) (y % kk))
                have hy2 : y / kk ≤ t := Nat.le_trans (Nat.div_le_self y kk) hy
                have PLH := sl.hide PL
                clear PL HD
                generalize y % kk = r at *
                generalize y / kk = y2 at *
                have hMl : (pz.nums (0 :: P)).length ≤ 4194304 := by have := sl.unhide PLH; omega
                generalize hNP : pz.nums (0 :: P) = NP at *
                have HNP := sl.hide hNP
                clear hNP
                go_wp2_with (at_builtin; refine wo.append1 (sl.unhide HM).2 (sl.unhide HM).1 hMl rfl _ _ rfl rfl rfl ?_)
                intro v' w9 R9
                have HR9 := sl.hide R9
                clear R9 HM
                go_wp2
                go_roundw
                case rel => exact ⟨d + 1, y2, P ++ [r], by omega, by go_num, rfl, hy2, HD2, by
                  show wo.Made wb _ _ (pz.nums ((0 :: P) ++ [r]))
                  rw [sl.unhide HE]
                  exact sl.unhide HR9⟩
                case measure => simp [intOf]; omega
              · have hi2 : ¬ (d : Int) < (mm : Int) := by omega
                have e : mm = d := by omega
                subst e
                have ED := (sl.unhide HD).done
                subst ED
                have GX := sl.hide (sl.grown_trans (r := none) (sl.unhide hg) (sl.unhide HM).2)
                obtain ⟨ob, oc, rfl, hcell⟩ := pz.ofA_of (sl.unhide HM) (Nat.succ_pos _)
                have HC := sl.hide hcell
                have gsx := sl.unhide gs
                have DL : (0 :: pz.dg kk mm t).length = mm + 1 := by rw [List.length_cons, pz.dg_len]
                clear hcell hd hlt2 HD HM PL gs hy
                generalize pz.dg kk mm t = D at *
                have GS := sl.hide gsx
                clear gsx
                generalize hDD : 0 :: D = DD at *
                have HDD := sl.hide hDD
                have HDL := sl.hide DL
                clear hDD
                obtain ⟨wd, hwd⟩ : ∃ wd, wd = wr := ⟨_, rfl⟩
                rw [← hwd] at GX HC ⊢
                clear hwd
                go_wp2_with fail
                go_loopw [24, 25] (fun z i wy => ∃ c : Nat, c ≤ E ∧ z = .bool (pz.goodB f c D) ∧ i = .int .i64 (c : Int) ∧ Hid (w8.grownBy wy none) ∧ Hid (∀ i, i < DD.length → wy.cell? ⟨ob, i, none⟩ = some (.int .i64 (DD.getD i 0 : Int)))) (fun _ i _ => E - (intOf i).toNat)
                case atStart => exact ⟨0, Nat.zero_le _, rfl, rfl, GX, HC⟩
                case round =>
                  obtain ⟨c, hc, rfl, rfl, hgy, hcy⟩ := hrel
                  clear HC GX hi2
                  by_cases hlt3 : c < E
                  · have hi3 : (c : Int) < (E : Int) := by omega
                    obtain ⟨a, b, ha, hb, ⟨a1, a2⟩, b1, b2⟩ := (sl.unhide CT).ends c hlt3
                    have dl := sl.unhide HDL
                    have n0 := sl.unhide hcy a (by omega)
                    have n1 := sl.unhide hcy b (by omega)
                    obtain ⟨xa, xc, ee, he⟩ := sl.unhide EV8
                    cases ee
                    rcases he with h0 | ⟨eb, eo, rfl, hlb, hce⟩
                    · omega
                    have c0 := (sl.unhide hgy).cell (hce (c * 2) (by omega)) (fun e => by cases e)
                    have c1 : wr.cell? ⟨eb, eo + c * 2 + 1, none⟩ = some (.int .i64 (f (c * 2 + 1))) := (sl.unhide hgy).cell (hce (c * 2 + 1) (by omega)) (fun e => by cases e)
                    have gn := pz.good_next f c a b D ha hb
                    rw [sl.unhide HDD] at gn
                    rw [ha] at c0
                    rw [hb] at c1
                    have i1 : (a : Int) < (DD.length : Int) := by omega
                    have i2 : (b : Int) < (DD.length : Int) := by omega
                    clear hce ha hb dl
                    have G2 := sl.hide (fun m => sl.grown_trans (r := none) (sl.unhide hgy) (sl.grown_drewN wr m))
                    have C2 := sl.hide (fun m i (h : i < DD.length) => (sl.grown_drewN wr m : wr.grownBy (wr.drewN m) none).cell (sl.unhide hcy i h) (fun e => by cases e))
                    clear hgy hcy
                    generalize DD.getD a 0 = x at *
                    generalize DD.getD b 0 = y at *
                    have GN := sl.hide gn
                    clear gn
                    have hne : ((x : Int) != (y : Int)) = !(decide (x = y)) := by
                      by_cases e : x = y
                      · subst e; simp
                      · rw [decide_eq_false e]; simp; omega
                    generalize decide (x = y) = same at *
                    cases hz : pz.goodB f c D
                    · rw [hz] at GN
                      clear hz
                      go_wp2_with fail
                      go_quiet (fail)
                      go_wp2_with fail
                      go_roundw
                      case rel => exact ⟨c + 1, by omega, by rw [sl.unhide GN]; rfl, by go_num, sl.unhide G2 _, sl.unhide C2 _⟩
                      case measure => simp [intOf]; omega
                    · rw [hz] at GN
                      clear hz
                      go_wp2_with fail
                      go_quiet (fail)
                      go_wp2_with fail
                      go_roundw
                      case rel => exact ⟨c + 1, by omega, by rw [sl.unhide GN]; rfl, by go_num, sl.unhide G2 _, sl.unhide C2 _⟩
                      case measure => simp [intOf]; omega
                  · have hi3 : ¬ (c : Int) < (E : Int) := by omega
                    have e : c = E := by omega
                    subst e
                    clear hcy
                    have GS' := sl.unhide GS
                    clear GS
                    cases hz : pz.goodB f c D
                    · rw [hz] at GS'
                      have GS2 := sl.hide GS'
                      clear hz GS'
                      go_wp2_with fail
                      go_roundw
                      case rel => exact ⟨t + 1, by omega, by rw [sl.unhide GS2]; rfl, by go_num, hgy⟩
                      case measure => simp [intOf]; omega
                    · rw [hz] at GS'
                      have GS2 := sl.hide GS'
                      clear hz GS'
                      go_wp2_with fail
                      go_roundw
                      case rel => exact ⟨t + 1, by omega, by rw [sl.unhide GS2, if_pos rfl]; go_num, by go_num, hgy⟩
                      case measure => simp [intOf]; omega
          · have hi : ¬ (t : Int) < (A : Int) := by omega
            have e : A = t := by omega
            subst e
            have F9 := sl.hide ((sl.unhide E8).kept (sl.unhide hg))
            have z0 := (sl.unhide F9).c0
            have z1 := (sl.unhide F9).c1
            have T9 := sl.hide ((sl.unhide T8).kept (sl.unhide hg))
            have O9 := sl.hide ((sl.unhide O8).kept (sl.unhide hg))
            have CC := (sl.unhide CT).cs
            have CD := (sl.unhide CT).cc
            rw [sl.unhide HA] at CC CD
            generalize pz.goods mm kk E f A = g0 at *
            have CCH := sl.hide (CC wr _ (sl.unhide T9) (sl.unhide O9))
            have CDH := sl.hide CD
            clear CC CD HA CT T9 hi
            go_wp2_with fail
            refine (sl.unhide CCH).mono ?_; rintro e w10 ⟨r10, rfl, m10⟩
            obtain ⟨sa, sc, rfl, _⟩ := sl.Sl.of_own m10.1
            have G10 := sl.hide (sl.grown_trans (r := none) (sl.unhide GE) (sl.grown_trans (r := none) (sl.unhide hg) m10.2))
            have F10 := sl.hide ((sl.unhide F9).kept m10.2)
            have O10 := sl.hide ((sl.unhide O9).kept m10.2)
            clear CCH m10 z0 z1 F9 O9 hg
            have z0 := (sl.unhide F10).c0
            have z1 := (sl.unhide F10).c1
            by_cases h12 : 12 < N5
            · clear CDH
              by_cases hp : (0 : Int) < (g0 : Int)
              · go_wp2_with fail
                go_ret
                exact ⟨rfl, sl.below_of (sl.unhide G10)⟩
              · go_wp2_with fail
                go_ret
                exact ⟨rfl, sl.below_of (sl.unhide G10)⟩
            · have C11 := sl.hide (sl.unhide CDH (Int.not_lt.1 h12) w10 _ (sl.unhide O10))
              clear CDH
              by_cases hp : (0 : Int) < (g0 : Int)
              · go_wp2_with fail
                refine (sl.unhide C11).mono ?_; rintro e w11 ⟨rfl, g11⟩
                have G11 := sl.hide (sl.grown_trans (r := none) (sl.unhide G10) g11)
                clear C11 g11
                go_wp2_with fail
                go_ret
                exact ⟨rfl, sl.below_of (sl.unhide G11)⟩
              · go_wp2_with fail
                refine (sl.unhide C11).mono ?_; rintro e w11 ⟨rfl, g11⟩
                have G11 := sl.hide (sl.grown_trans (r := none) (sl.unhide G10) g11)
                clear C11 g11
                go_wp2_with fail
                go_ret
                exact ⟨rfl, sl.below_of (sl.unhide G11)⟩

/-! ### the row's step (the guide's own frame) -/
set_option maxRecDepth 100000 in
theorem contract (H : Type) (enc : TypeId × Value → H) (W : World) (base : Nat) (args : Array Value) (ds gs : List (DataW H)) (before : List MemPlace)
    (hval : ∀ (j : Nat) t v, Tryd.f3.params[j]? = some t → args[j]? = some v → Value.okWide Tryd.prog W .any base t v)
    (hW : DataW.Whole enc Tryd.prog Tryd.f3.params.toList Rows.fnPuzzlesSpec.vars false W args.toList ds gs before) (hL : laidMetH Tryd.prog Rows.fnPuzzlesRow.laid W) :
    Calls Tryd.prog 3 args W fun e W' => ∃ v, e = .returned v ∧ Rows.fnPuzzlesSpec.post enc Tryd.prog Tryd.f3 false true false false W args v W' := by
  have hW' := hW
  obtain ⟨p, q, hA0, hV, rfl, hfz, hnd⟩ := hW
  have hA : DataW.TrodAll enc Tryd.prog W 0 (fun _ => true) true Tryd.f3.params.toList args.toList ds p := hA0
  rw [Tryd.params3] at hA hval
  obtain ⟨v0, vs0, d0, ds0, p0, q0, hargs, rfl, rfl, h0, r0⟩ := trodAll_cons hA
  obtain ⟨rfl, rfl, rfl⟩ := trodAll_nil r0
  obtain rfl : args = #[v0] := by cases args; simp_all
  obtain ⟨rfl, rfl⟩ := trodVars_none hV
  obtain ⟨a0, len0, cap0, rfl⟩ := okWide_slice Tryd.underlying22 (hval 0 22 v0 rfl rfl)
  have k0 := h0
  have lt0 : ∀ x ∈ p0, x.block < W.heap.size := by obtain ⟨m, hm⟩ := k0; exact DataW.trod_lt m _ _ _ hm
  obtain ⟨z0, w0⟩ : ∃ zs, IsRow .u8 W a0 len0 cap0 zs := by
    obtain ⟨fuel, hf⟩ := h0
    rcases open_ints Tryd.underlying22 Tryd.underlying5 (by kernel_rfl) hf with ⟨hcs, _⟩ | ⟨x, l, c, zs, hcs, _, hl, hm, hz, _, hcell, hwz⟩
    · simp [Value.cells] at hcs
      obtain ⟨rfl, rfl, rfl⟩ := hcs
      exact ⟨[], .inl ⟨rfl, rfl, rfl, rfl⟩⟩
    · simp [Value.cells] at hcs
      obtain ⟨rfl, rfl, rfl⟩ := hcs
      exact ⟨zs, .inr ⟨_, rfl, hl, hm, by simpa using hz, hcell, hwz⟩⟩
  clear hA0
  refine (walk a0 len0 cap0 z0 W w0 (table hL)).mono fun e W' ⟨he, bel⟩ => ?_
  subst he
  exact ⟨_, rfl, _, _, _, [], _, [], hW', trodAll_mk1 (shut_bool Tryd.underlying4 _), (trodAll_cons_mk (Below.trod laidOut (by kernel_rfl) (of_decide_eq_true (by kernel_rfl)) k0 bel lt0) trodAll_mk0), rfl, bel.frame _, fun h => by cases h⟩

set_option maxRecDepth 100000 in
theorem lifted (os : Os) (started : os.Started) (H : Type) (enc : TypeId × Value → H) (F : Stop.Interp) :
    ReturnsInHanded {} Tryd.checked os 3 .any ((OpenSpec.ofChange Rows.fnPuzzlesSpec).preRow enc Tryd.prog Tryd.f3 Rows.fnPuzzlesRow.domain false Rows.fnPuzzlesRow.laid) (((OpenSpec.ofChange Rows.fnPuzzlesSpec).at F).post enc Tryd.prog Tryd.f3 false true false false) := by
  refine returnsInHanded_of_row (C := Tryd.checked) (s := OpenSpec.ofChange Rows.fnPuzzlesSpec) own started (by kernel_rfl) Tryd.func3
    (witness_row_at (enc := enc) (C := Tryd.checked) false ({ World.holding Tryd.prog os ⟨#[], #[], []⟩ with heap := (World.holding Tryd.prog os ⟨#[], #[], []⟩).heap.modify 0 fun | .cells _ t frozen => .cells (Lib.deBruijn64tab.map fun (n : Nat) => Value.int .u8 n).toArray t frozen | o => o } : World) #[.slice none 0 0] rfl (by kernel_rfl) (by kernel_rfl) (by kernel_rfl)
      (OpenSpec.preRow_of_cond 8 (x := ([.nil], [], [])) (by kernel_rfl) (by kernel_rfl) (fun k hk => by cases hk) (by kernel_rfl) (laidMet_of_run' 8 (by kernel_rfl) (by kernel_rfl)))) ?_
  intro W base args ds gs before hval hW _ _ _ hL _ _
  exact contract H enc W base args ds gs before hval hW hL

theorem said : Rows.FnPuzzlesSaid :=
  OpenClaim.holds_of_cond 3 Tryd.f3 rfl rfl rfl rfl rfl rfl rfl ⟨rfl, rfl, rfl, rfl, rfl⟩ rfl rfl rfl rfl rfl (by kernel_rfl) Tryd.func3 (by kernel_rfl)
    (of_decide_eq_true (by kernel_rfl)) (by unfold Func.isWrapper; first | (rw [if_pos (by decide +kernel)]; kernel_rfl) | (rw [if_neg (by decide +kernel)]; exact ⟨rfl, rfl⟩))
    (fun os started H enc _ F => by rw [OpenClaim.pre_eq_preRow]; exact lifted os started H enc F)

theorem plain (f : FuncId) (fn : Func) (hf : Tryd.pinned.checked.prog.funcNamed "loop.example/g00123/laws.FnPuzzles" = some f) (hfn : Tryd.pinned.checked.prog.funcs[f]? = some fn) :
    false = Tryd.pinned.checked.prog.looks [] ∧ ∀ (j : Nat) t, fn.params[j]? = some t → Tryd.pinned.checked.prog.wantsStandIn t = false := by
  obtain rfl : f = 3 := Option.some.inj ((show Tryd.prog.funcNamed "loop.example/g00123/laws.FnPuzzles" = some 3 by kernel_rfl).symm.trans hf) |>.symm
  obtain rfl : fn = Tryd.f3 := (Option.some.inj (Tryd.func3.symm.trans hfn)).symm
  refine ⟨by kernel_rfl, fun j t ht => ?_⟩
  rw [Tryd.params3] at ht
  obtain rfl : t = 22 := by simpa using Array.mem_of_getElem? ht
  exact (show Tryd.prog.wantsStandIn 22 = false by kernel_rfl)

/-- the statement: the row's tied card -/
theorem proved : Rows.FnPuzzlesCardSaid :=
  Claim7.holds_tied_plain_at .later [] _ _ _ _ said (fun _ h => by cases h) (by kernel_rfl) (fun _ h => by cases h) fnPuzzles_row_tie rfl ⟨rfl, rfl⟩ (by kernel_rfl) rfl plain (by kernel_rfl)
#print axioms proved
end Go.Proofs.YtfhmdpbnnieohaaDoor.fnPuzzles
