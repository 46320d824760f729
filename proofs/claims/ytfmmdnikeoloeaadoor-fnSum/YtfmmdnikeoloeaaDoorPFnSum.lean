/- Whatever the code draws, a sum is the blocks of what is padded, one after the other, as the model's, and what is padded is a whole number of blocks that begins with the text (the law FnSum returns true); the program's tables lie as their text lays them (tied). -/
import Derived.Test.YtfmmdnikeoloeaaDoorCards
import Derived.Test.YtfmmdnikeoloeaaDoorTie
import Derived.OpenVars
import Derived.Test.YtfmmdnikeoloeaaDoorZx
import Derived.Test.YtfmmdnikeoloeaaDoorZp
import Derived.WalkKit
import Derived.ProofKit
import Derived.OpenShut
import Derived.ShutString
import Derived.ChangeOld
import Derived.Below
import Derived.Deep.DeepHandedRow
import Derived.Lib.LaidTab
import Derived.Lib.TrailingZeros
import Derived.Stop.LaidErr
import Derived.LaidHandle
import Derived.LaidSub
namespace Go.Proofs.YtfmmdnikeoloeaaDoor.fnSum
open Go.ChangeShapes Go.WideShapes Go.ChangeAt Go.RowKit
open Go.ChangeMaps (open_string shut_string)
set_option linter.unusedVariables false

theorem own : ownKnob Tryd.prog.godebug = none := by kernel_rfl
theorem laidOut : laidOutB Tryd.prog = true := by kernel_rfl

/-- what the walk is told of a slice of integers that came in -/
def IsRow (k : IntKind) (w : World) (a : Option Addr) (len cap : Nat) (zs : List Int) : Prop :=
  (a = none ∧ len = 0 ∧ cap = 0 ∧ zs = []) ∨
  ∃ x, a = some x ∧ len ≤ cap ∧ cap ≤ maxLen ∧ zs.length = cap ∧ (∀ i, i < zs.length → w.cell? (x.add i) = some (.int k (zs.getD i 0))) ∧ ∀ n ∈ zs, (Lit.int k n).wf = true

theorem laidOutV : laidOutB Tryd.prog = true := by kernel_rfl
theorem vars1 {H : Type} {enc : TypeId × Value → H} {P : Program} {w : World} {sp : Nat → Bool} {n : String} {gs : List (DataW H)} {ps : List MemPlace} (h : DataW.TrodVars enc P w sp [n] gs ps) : ∃ g, gs = [g] := by
  cases gs with
  | nil => exact h.elim
  | cons g t =>
    obtain ⟨_, _, _, _, _, _, _, _, _, _, hs, _⟩ := h
    cases t with
    | nil => exact ⟨g, rfl⟩
    | cons _ _ => exact hs.elim
theorem vars2 {H : Type} {enc : TypeId × Value → H} {P : Program} {w : World} {sp : Nat → Bool} {n m : String} {gs : List (DataW H)} {ps : List MemPlace} (h : DataW.TrodVars enc P w sp [n, m] gs ps) : ∃ g k, gs = [g, k] := by
  cases gs with
  | nil => exact h.elim
  | cons g t =>
    obtain ⟨_, _, _, _, _, _, _, _, _, _, hs, _⟩ := h
    obtain ⟨k, rfl⟩ := vars1 hs
    exact ⟨g, k, rfl⟩
theorem gK : Tryd.prog.globalNamed "loop.example/g00123/impl.sumConsts" = some 1 := by kernel_rfl
theorem tyK : (Tryd.prog.globals[1]?).map (·.type) = some 62 := by kernel_rfl
theorem cellsK : Tryd.prog.cellsOf 62 = 64 := by kernel_rfl
theorem dataK : (Rows.laid_loop_example_g00123_impl_sumConsts : DataW Unit) = Lib.tabData .u32 zk.kL := by kernel_rfl
theorem gS : Tryd.prog.globalNamed "loop.example/g00123/impl.sumStarts" = some 0 := by kernel_rfl
theorem tyS : (Tryd.prog.globals[0]?).map (·.type) = some 27 := by kernel_rfl
theorem cellsS : Tryd.prog.cellsOf 27 = 8 := by kernel_rfl
theorem dataS : (Rows.laid_loop_example_g00123_impl_sumStarts : DataW Unit) = Lib.tabData .u32 zk.sL := by kernel_rfl
theorem cellsW : Tryd.prog.cellsOf 26 = 1 := by kernel_rfl
theorem laid_tail {P : Program} {W : World} {x : String × DataW Unit} {rest : List (String × DataW Unit)} (h : laidMet P (x :: rest) W) : laidMet P rest W := by
  obtain ⟨ps, hv, hn, hc⟩ := h
  obtain ⟨n, d⟩ := x
  obtain ⟨g, t, cs, fuel, p, q, _, _, _, _, hr, rfl⟩ := hv
  exact ⟨q, hr, (List.nodup_append.1 hn).2.1, fun b off hm => hc b off (List.mem_append_right _ hm)⟩
/-- what the row's list gives: the tables as they lie -/
theorem table {W : World} (h : laidMetH Tryd.prog Rows.fnSumRow.laid W) : zk.TabK W ∧ zk.TabS W := by
  have h1 : laidMet Tryd.prog Rows.fnSumRow.laid W := h
  have h10 := h1
  have tK : zk.TabK W := by
    have hh : laidMet Tryd.prog (("loop.example/g00123/impl.sumConsts", Lib.tabData .u32 zk.kL) :: [("loop.example/g00123/impl.sumStarts", Rows.laid_loop_example_g00123_impl_sumStarts)]) W := by
      rw [← dataK]
      exact h10
    have t : Lib.TabIs Tryd.prog W "loop.example/g00123/impl.sumConsts" .u32 zk.kL :=
      Lib.tabIs_of_head gK tyK Tryd.underlying62 Tryd.underlying26 cellsW cellsK hh
    exact fun j hj => t.cell gK j hj
  have h20 := laid_tail h10
  have tS : zk.TabS W := by
    have hh : laidMet Tryd.prog (("loop.example/g00123/impl.sumStarts", Lib.tabData .u32 zk.sL) :: []) W := by
      rw [← dataS]
      exact h20
    have t : Lib.TabIs Tryd.prog W "loop.example/g00123/impl.sumStarts" .u32 zk.sL :=
      Lib.tabIs_of_head gS tyS Tryd.underlying27 Tryd.underlying26 cellsW cellsS hh
    exact fun j hj => t.cell gS j hj
  exact ⟨tK, tS⟩

/-! ### the walk -/
set_option maxRecDepth 100000 in
set_option maxHeartbeats 8000000 in
theorem walk (a0 : Option Addr) (len0 cap0 : Nat) (z0 : List Int) (w : World) (w0 : IsRow .u8 w a0 len0 cap0 z0) (hT : zk.TabK w ∧ zk.TabS w) :
    Calls Tryd.prog 3 #[.slice a0 len0 cap0] w fun e w' => e = .returned (.bool true) ∧ Below w.heap.size w w' := by
  have hB := draw.of_rowB w0
  have hm : len0 ≤ 9223372036854775807 := by
    rcases w0 with ⟨_, h, _, _⟩ | ⟨_, _, h1, h2, _⟩
    · omega
    · unfold maxLen at h2
      omega
  clear w0
  have C := sl.hide (draw.big a0 len0 cap0 w hm)
  by_cases hbig : 1048576 < len0
  · rw [decide_eq_true hbig] at C
    go_enter Tryd.func3, Tryd.ntmps3
    go_wp2_with fail
    refine (sl.unhide C).mono ?_; rintro e w' ⟨rfl, rfl⟩
    go_wp2_with fail
    go_ret
    exact ⟨rfl, Below.refl _ _⟩
  rw [decide_eq_false hbig] at C
  have HB := sl.hide hB
  have TT := sl.hide hT
  have TB : Hid (∀ w', w.grownBy w' none → zk.TabK w' ∧ zk.TabS w') := fun w' g => ⟨(sl.unhide TT).1.kept g, (sl.unhide TT).2.kept g⟩
  have hn : len0 ≤ 1048576 := by omega
  clear hB hT hm hbig
  go_enter Tryd.func3, Tryd.ntmps3
  go_wp2_with fail
  refine (sl.unhide C).mono ?_; rintro e v ⟨rfl, rfl⟩
  go_wp2_with fail
  refine (zu.drawSum a0 len0 cap0 _ hn (sl.unhide HB)).mono ?_; rintro e w1 ⟨s, rfl, hs, g1⟩
  have CP := sl.hide (zj.implSumPad s w1 (by omega))
  rw [show zj.padT s = zj.padL (ze.bts s) by unfold zj.padT; rw [if_pos (by omega)]] at CP
  rw [show dec.str (zj.padL (ze.bts s)) = .string (zo.padB s) from rfl] at CP
  have CS := sl.hide (fun w h1 h2 => zo.implSum s w (by omega) h1 h2)
  have CM := sl.hide (fun w => zp.specSum s w (by omega))
  rw [zx.sum_is s (by omega)] at CS CM
  have hPm := zo.padB_mod s
  have hPl := zo.padB_le s (by omega)
  have hPs := zo.padB_size s
  have hz := zj.zn_lt s.size
  have hP1 := zx.pad_head s
  have lP : s.size < (zo.padB s).size := by omega
  have hP2 := zx.pad_mark s lP
  have lP' : (s.size : Int) < ((zo.padB s).size : Int) := by omega
  have t0 : ((zo.padB s).size : Int) % 64 = 0 := by omega
  have t1 : ¬ ((zo.padB s).size : Int) < (s.size : Int) + 9 := by omega
  have t2 : ¬ (s.size : Int) + 72 < ((zo.padB s).size : Int) := by omega
  have HPm := sl.hide hPm
  have G1 := sl.hide g1
  generalize zo.padB s = P at *
  obtain ⟨n, hnn⟩ : ∃ n, n = P.size / 64 := ⟨_, rfl⟩
  rw [← hnn] at CS CM
  have HN : Hid (64 * n = P.size) := by show _ = _; omega
  have sb := sl.hide hs
  clear g1 C HB TT hPm hPs hz hnn hn
  go_wp2_with fail
  refine (sl.unhide CP).mono ?_; rintro e w2 ⟨rfl, g2⟩
  have G2 := sl.hide (sl.grown_trans (r := none) (sl.unhide G1) g2)
  clear g2 CP G1
  go_wp2_with fail
  have NN : v.heap.size ≤ w2.heap.size := (sl.unhide G2).size
  have I0 : Hid (zm.Bx (w2.alloc (.cells (zs.ints [0, 0, 0, 0, 0, 0, 0, 0]).toArray 27)) w2.heap.size (zo.ini 0) ∧ v.grownBy (w2.alloc (.cells (zs.ints [0, 0, 0, 0, 0, 0, 0, 0]).toArray 27)) none) := ⟨zm.Bx.new _ _, sl.grown_trans (sl.unhide G2) (World.grownBy_alloc _ _ none)⟩
  clear t0 t1 t2 hP1 hP2
  go_loopw [6] (fun t wr => ∃ k : Nat, k ≤ 8 ∧ t = .int .i64 k ∧ zm.Bx wr w2.heap.size (zo.ini k) ∧ v.grownBy wr none) (fun t _ => 8 - (intOf t).toNat)
  case atStart => exact ⟨0, by omega, rfl, (sl.unhide I0).1, (sl.unhide I0).2⟩
  case round =>
    obtain ⟨k, hk, rfl, hB, hg⟩ := hrel
    clear I0
    have il := zo.ini_length k
    by_cases hlt : k < 8
    · have i0 : (k : Int) < 8 := by omega
      have C := sl.hide (zk.implSumStart (k : Int) wr (sl.unhide TB _ hg).2)
      rw [show zk.sc (k : Int) = zk.sL.getD k 0 by unfold zk.sc; rw [if_pos (by omega)]; rfl] at C
      have c0 := hB.cell k (by omega)
      have c1 := hB.frozen k
      have R : Hid (zm.Bx (wr.setCell ⟨w2.heap.size, k, none⟩ (.int .u32 (zk.sL.getD k 0))) w2.heap.size (zo.ini (k + 1)) ∧ v.grownBy (wr.setCell ⟨w2.heap.size, k, none⟩ (.int .u32 (zk.sL.getD k 0))) none) := ⟨hB.set k _, zl.set_new hg NN k _⟩
      generalize zk.sL.getD k 0 = x at *
      clear hB hg il
      go_wp2_with fail
      refine (sl.unhide C).mono ?_; rintro r w' ⟨rfl, rfl⟩
      go_wp2_with fail
      go_roundw
      case rel => exact ⟨k + 1, by omega, by go_num, (sl.unhide R).1, (sl.unhide R).2⟩
      case measure => simp [intOf]; omega
    · have i0 : ¬ (k : Int) < 8 := by omega
      have hk' : k = 8 := by omega
      subst hk'
      rw [zo.ini_all] at hB
      have B1 : Hid (zm.Bx wr w2.heap.size (zo.stt P 0)) := hB
      have G3 := sl.hide hg
      clear hB hg il hlt hk
      go_wp2_with fail
      go_loopw [7] (fun t wr => ∃ k m1 : Nat, m1 = k * 64 ∧ k ≤ n ∧ t = .int .i64 m1 ∧ zm.Bx wr w2.heap.size (zo.stt P k) ∧ v.grownBy wr none) (fun t _ => P.size - (intOf t).toNat)
      case atStart => exact ⟨0, 0, rfl, by omega, rfl, sl.unhide B1, sl.unhide G3⟩
      case round =>
        obtain ⟨k, m1, e1, hk, rfl, hB, hg⟩ := hrel
        clear B1 G3
        have hnP := sl.unhide HN
        have hN := zo.stt_wd P k
        by_cases hlt : k < n
        · have i1 : (m1 : Int) < (P.size : Int) := by omega
          obtain ⟨m2, e3⟩ : ∃ m2, m2 = k * 64 + 64 := ⟨_, rfl⟩
          have j1 : IntKind.i64.wrap ((m1 : Int) + 64) = (m2 : Int) := by rw [zb.wrap64 (by omega) (by omega)]; omega
          have b1 : (m1 : Int) ≤ (m2 : Int) := by omega
          have b2 : (m2 : Int) ≤ (P.size : Int) := by omega
          have hsz : (P.extract m1 m2).size ≤ 1048576 := by simp; omega
          have CB := sl.hide (zm.implSumBlock (zo.stt P k) (P.extract m1 m2) wr.drew hN hsz (sl.unhide TB _ (sl.grown_trans hg (sl.grown_drewN wr 1))).1)
          have HR : Hid (zo.stt P (k + 1) = zm.blk (zo.stt P k) (P.extract m1 m2)) := by show _ = _; rw [e1, e3]; rfl
          have hN2 := zm.blk_wd hN (P.extract m1 m2)
          obtain ⟨a, b, c, d, e, f, g, i, hE, _⟩ := zl.wd8_parts hN
          rw [hE] at CB hB hN2 HR
          obtain ⟨a2, b2', c2, d2, e2', f2, g2, i2, hE2, _⟩ := zl.wd8_parts hN2
          rw [hE2] at CB HR
          have CB' : Hid (Calls Tryd.prog 15 #[.agg #[.int .u32 a, .int .u32 b, .int .u32 c, .int .u32 d, .int .u32 e, .int .u32 f, .int .u32 g, .int .u32 i], .string (P.extract m1 m2)] wr.drew fun r w' => r = .returned (.agg #[.int .u32 a2, .int .u32 b2', .int .u32 c2, .int .u32 d2, .int .u32 e2', .int .u32 f2, .int .u32 g2, .int .u32 i2]) ∧ wr.drew.grownBy w' none) := sl.unhide CB
          obtain ⟨q0, q1, q2, q3, q4, q5, q6, q7, q8⟩ := hB.parts
          have HB := sl.hide hB
          have HG := sl.hide hg
          have HE1 := sl.hide e1
          have HE3 := sl.hide e3
          clear hB hg hN hN2 hE hE2 CB e1 e3 hnP hsz
          go_wp2_with fail
          go_region_with (go_at_call 15; refine (sl.unhide CB').mono ?_; rintro r w9 ⟨rfl, g2'⟩; have G2 := sl.hide (sl.grown_trans (r := none) (sl.grown_drewN wr 1) g2'); obtain ⟨t0, t1, t2, t3, t4, t5, t6, t7, t8⟩ := ((sl.unhide HB).kept (sl.unhide G2)).parts; clear g2')
          all_goals
            have B2 : Hid (zm.Bx ((((((((w9.setCell ⟨w2.heap.size, 0, none⟩ (.int .u32 a2)).setCell ⟨w2.heap.size, 1, none⟩ (.int .u32 b2')).setCell ⟨w2.heap.size, 2, none⟩ (.int .u32 c2)).setCell ⟨w2.heap.size, 3, none⟩ (.int .u32 d2)).setCell ⟨w2.heap.size, 4, none⟩ (.int .u32 e2')).setCell ⟨w2.heap.size, 5, none⟩ (.int .u32 f2)).setCell ⟨w2.heap.size, 6, none⟩ (.int .u32 g2)).setCell ⟨w2.heap.size, 7, none⟩ (.int .u32 i2)) w2.heap.size [a2, b2', c2, d2, e2', f2, g2, i2]) :=
              ((((((((((sl.unhide HB).kept (sl.unhide G2)).set 0 a2).set 1 b2').set 2 c2).set 3 d2).set 4 e2').set 5 f2).set 6 g2).set 7 i2)
            have GG := sl.hide (zl.set_new (zl.set_new (zl.set_new (zl.set_new (zl.set_new (zl.set_new (zl.set_new (zl.set_new (sl.grown_trans (r := none) (sl.unhide HG) (sl.unhide G2)) NN 0 (.int .u32 a2)) NN 1 (.int .u32 b2')) NN 2 (.int .u32 c2)) NN 3 (.int .u32 d2)) NN 4 (.int .u32 e2')) NN 5 (.int .u32 f2)) NN 6 (.int .u32 g2)) NN 7 (.int .u32 i2))
            clear t0 t1 t2 t3 t4 t5 t6 t7 t8 q0 q1 q2 q3 q4 q5 q6 q7 q8 CB'
            go_wp2_with fail
            go_roundw
            case rel => exact ⟨k + 1, m2, by have := sl.unhide HE3; omega, by omega, by have h1 := sl.unhide HE1; have h3 := sl.unhide HE3; first | rfl | (congr 1; omega), by rw [sl.unhide HR]; exact sl.unhide B2, sl.unhide GG⟩
            case measure => have h1 := sl.unhide HE1; have h3 := sl.unhide HE3; simp [intOf]; omega
        · have i1 : ¬ (m1 : Int) < (P.size : Int) := by omega
          have hk' : k = n := by omega
          subst hk'
          have HW := sl.hide hN
          generalize zo.stt P k = N at *
          have HB2 := sl.hide hB
          have HG2 := sl.hide hg
          have ol := zo.out4_length N 8
          have os : (ByteArray.mk (zo.out4 N 8).toArray).size = 32 := by rw [zr.mk_size, ol]
          have WB := sl.hide (fun j h => zx.word_back N j h)
          generalize hO : ByteArray.mk (zo.out4 N 8).toArray = O at *
          have CS' : Hid (∀ w, zk.TabK w → zk.TabS w → Calls Tryd.prog 16 #[.string s] w fun r w' => r = .returned (.string O) ∧ w.grownBy w' none) := by rw [← hO]; exact sl.unhide CS
          have CM' : Hid (∀ w, Calls Tryd.prog 17 #[.string s] w fun r w' => r = .returned (.string O) ∧ w.grownBy w' none) := by rw [← hO]; exact sl.unhide CM
          have os' : (O.size : Int) = 32 := by omega
          have OS := sl.hide os
          clear hB hg hN hlt hk HN e1 hnP CS CM hO ol os lP lP' hPl
          go_wp2_with fail
          refine (sl.unhide CS' _ (sl.unhide TB _ (sl.unhide HG2)).1 (sl.unhide TB _ (sl.unhide HG2)).2).mono ?_; rintro r w5 ⟨rfl, g5⟩
          have B5 := sl.hide ((sl.unhide HB2).kept g5)
          have G5 := sl.hide (sl.grown_trans (r := none) (sl.unhide HG2) g5)
          clear g5 HB2 HG2 CS'
          go_wp2_with fail
          go_loopw [9, 10] (fun t _ wr => ∃ k : Nat, k ≤ 8 ∧ t = .int .i64 k ∧ zm.Bx wr w2.heap.size N ∧ v.grownBy wr none) (fun t _ _ => 8 - (intOf t).toNat)
          case atStart => exact ⟨0, by omega, rfl, sl.unhide B5, sl.unhide G5⟩
          case round =>
            obtain ⟨k, hk, rfl, hB, hg⟩ := hrel
            clear B5 G5
            by_cases hlt : k < 8
            · have i2 : (k : Int) < 8 := by omega
              have hw : za.Wd (N.getD k 0) := by
                have h8 := (sl.unhide HW).1
                rw [List.getD, List.getElem?_eq_getElem (show k < N.length by omega)]
                exact (sl.unhide HW).2 _ (List.getElem_mem _)
              have wb := sl.unhide WB k hlt hw
              have hos := sl.unhide OS
              obtain ⟨i0, f0⟩ : ∃ i0, i0 = 4 * k := ⟨_, rfl⟩
              obtain ⟨i1', f1⟩ : ∃ i1', i1' = 4 * k + 1 := ⟨_, rfl⟩
              obtain ⟨i2', f2⟩ : ∃ i2', i2' = 4 * k + 2 := ⟨_, rfl⟩
              obtain ⟨i3', f3⟩ : ∃ i3', i3' = 4 * k + 3 := ⟨_, rfl⟩
              have j0 : IntKind.i64.wrap (4 * (k : Int)) = (i0 : Int) := by rw [zb.wrap64 (by omega) (by omega)]; omega
              have j1 : IntKind.i64.wrap ((i0 : Int) + 1) = (i1' : Int) := by rw [zb.wrap64 (by omega) (by omega)]; omega
              have j2 : IntKind.i64.wrap ((i0 : Int) + 2) = (i2' : Int) := by rw [zb.wrap64 (by omega) (by omega)]; omega
              have j3 : IntKind.i64.wrap ((i0 : Int) + 3) = (i3' : Int) := by rw [zb.wrap64 (by omega) (by omega)]; omega
              have l0 : i0 < O.size := by omega
              have l1 : i1' < O.size := by omega
              have l2 : i2' < O.size := by omega
              have l3 : i3' < O.size := by omega
              have b0 : (i0 : Int) < 32 := by omega
              have b1 : (i1' : Int) < 32 := by omega
              have b2 : (i2' : Int) < 32 := by omega
              have b3 : (i3' : Int) < 32 := by omega
              have e0 := zb.at_eq O i0 l0
              have e1 := zb.at_eq O i1' l1
              have e2 := zb.at_eq O i2' l2
              have e3 := zb.at_eq O i3' l3
              have d0 := zb.at_bd O i0
              have d1 := zb.at_bd O i1'
              have d2 := zb.at_bd O i2'
              have d3 := zb.at_bd O i3'
              rw [← f3, ← f2, ← f1, ← f0] at wb
              have c0 := hB.cell k (by have := (sl.unhide HW).1; omega)
              generalize N.getD k 0 = y at *
              generalize zb.at_ O i0 = x0 at *
              generalize zb.at_ O i1' = x1 at *
              generalize zb.at_ O i2' = x2 at *
              generalize zb.at_ O i3' = x3 at *
              have WBB := sl.hide wb
              have HB2 := sl.hide hB
              have HG2 := sl.hide hg
              clear hB hg wb f0 f1 f2 f3 hos hw
              go_wp2_with fail
              go_quiet (fail)
              rw [sl.unhide WBB]
              go_wp2_with fail
              go_roundw
              case rel => exact ⟨k + 1, by omega, by go_num, (sl.unhide HB2).kept (sl.grown_drewN wr nq), sl.grown_trans (sl.unhide HG2) (sl.grown_drewN wr nq)⟩
              case measure => simp [intOf]; omega
            · have i2 : ¬ (k : Int) < 8 := by omega
              have HG2 := sl.hide hg
              clear hB hg
              go_wp2_with fail
              refine (sl.unhide CM' _).mono ?_; rintro r w8 ⟨rfl, g8⟩
              have G8 := sl.hide (sl.grown_trans (r := none) (sl.unhide HG2) g8)
              clear g8 HG2 CM'
              go_wp2_with fail
              go_ret
              exact ⟨rfl, sl.below_of (sl.unhide G8)⟩

/-! ### the row's step (the guide's own frame) -/
set_option maxRecDepth 100000 in
theorem contract (H : Type) (enc : TypeId × Value → H) (W : World) (base : Nat) (args : Array Value) (ds gs : List (DataW H)) (before : List MemPlace)
    (hval : ∀ (j : Nat) t v, Tryd.f3.params[j]? = some t → args[j]? = some v → Value.okWide Tryd.prog W .any base t v)
    (hW : DataW.Whole enc Tryd.prog Tryd.f3.params.toList Rows.fnSumSpec.vars false W args.toList ds gs before) (hL : laidMetH Tryd.prog Rows.fnSumRow.laid W) :
    Calls Tryd.prog 3 args W fun e W' => ∃ v, e = .returned v ∧ Rows.fnSumSpec.post enc Tryd.prog Tryd.f3 false true false false W args v W' := by
  have hW' := hW
  obtain ⟨p, q, hA0, hV, rfl, hfz, hnd⟩ := hW
  have hA : DataW.TrodAll enc Tryd.prog W 0 (fun _ => true) true Tryd.f3.params.toList args.toList ds p := hA0
  rw [Tryd.params3] at hA hval
  obtain ⟨v0, vs0, d0, ds0, p0, q0, hargs, rfl, rfl, h0, r0⟩ := trodAll_cons hA
  obtain ⟨rfl, rfl, rfl⟩ := trodAll_nil r0
  obtain rfl : args = #[v0] := by cases args; simp_all
  obtain ⟨g0, g1, rfl⟩ := vars2 hV
  obtain ⟨a0, len0, cap0, rfl⟩ := okWide_slice Tryd.underlying22 (hval 0 22 v0 rfl rfl)
  have k0 := h0
  have lt0 : ∀ x ∈ p0, x.block < W.heap.size := by obtain ⟨m, hm⟩ := k0; exact DataW.trod_lt m _ _ _ hm
  obtain ⟨z0, w0⟩ : ∃ zs, IsRow .u8 W a0 len0 cap0 zs := by
    obtain ⟨fuel, hf⟩ := h0
    rcases open_ints Tryd.underlying22 Tryd.underlying5 (by kernel_rfl) hf with ⟨hcs, _⟩ | ⟨x, l, c, zs, hcs, _, hl, hm, hz, _, hcell, hwz⟩
    · simp [Value.cells] at hcs
      obtain ⟨rfl, rfl, rfl⟩ := hcs
      exact ⟨[], .inl ⟨rfl, rfl, rfl, rfl⟩⟩
    · simp [Value.cells] at hcs
      obtain ⟨rfl, rfl, rfl⟩ := hcs
      exact ⟨zs, .inr ⟨_, rfl, hl, hm, by simpa using hz, hcell, hwz⟩⟩
  clear hA0
  refine (walk a0 len0 cap0 z0 W w0 (table hL)).mono fun e W' ⟨he, bel⟩ => ?_
  subst he
  exact ⟨_, rfl, _, _, _, [], _, _, hW', trodAll_mk1 (shut_bool Tryd.underlying4 _), (trodAll_cons_mk (Below.trod laidOut (by kernel_rfl) (of_decide_eq_true (by kernel_rfl)) k0 bel lt0) trodAll_mk0), Below.trodVars laidOutV bel (by kernel_rfl) hV, bel.frame _, fun h => by cases h⟩

set_option maxRecDepth 100000 in
theorem lifted (os : Os) (started : os.Started) (H : Type) (enc : TypeId × Value → H) (F : Stop.Interp) :
    ReturnsInHanded {} Tryd.checked os 3 .any ((OpenSpec.ofChange Rows.fnSumSpec).preRow enc Tryd.prog Tryd.f3 Rows.fnSumRow.domain false Rows.fnSumRow.laid) (((OpenSpec.ofChange Rows.fnSumSpec).at F).post enc Tryd.prog Tryd.f3 false true false false) := by
  refine returnsInHanded_of_row (C := Tryd.checked) (s := OpenSpec.ofChange Rows.fnSumSpec) own started (by kernel_rfl) Tryd.func3
    (witness_row_at (enc := enc) (C := Tryd.checked) false ({ World.holding Tryd.prog os ⟨#[], #[], []⟩ with heap := (((World.holding Tryd.prog os ⟨#[], #[], []⟩).heap.modify 1 fun | .cells _ t frozen => .cells (zk.kL.map fun n => Value.int .u32 n).toArray t frozen | o => o).modify 0 fun | .cells _ t frozen => .cells (zk.sL.map fun n => Value.int .u32 n).toArray t frozen | o => o) } : World) #[.slice none 0 0] rfl (by kernel_rfl) (by kernel_rfl) (by kernel_rfl)
      (OpenSpec.preRow_of_cond 8 (x := ([.nil], [Rows.laid_loop_example_g00123_impl_sumStarts, Rows.laid_loop_example_g00123_impl_sumConsts], MemPlace.row ⟨0, 0, none⟩ 8 ++ MemPlace.row ⟨1, 0, none⟩ 64)) (by kernel_rfl) (by kernel_rfl) (fun k hk => by cases hk) (by kernel_rfl) (laidMet_of_run' 8 (by kernel_rfl) (by kernel_rfl)))) ?_
  intro W base args ds gs before hval hW _ _ _ hL _ _
  exact contract H enc W base args ds gs before hval hW hL

theorem said : Rows.FnSumSaid :=
  OpenClaim.holds_of_cond 3 Tryd.f3 rfl rfl rfl rfl rfl rfl rfl ⟨rfl, rfl, rfl, rfl, rfl⟩ rfl rfl rfl rfl rfl (by kernel_rfl) Tryd.func3 (by kernel_rfl)
    (of_decide_eq_true (by kernel_rfl)) (by unfold Func.isWrapper; first | (rw [if_pos (by decide +kernel)]; kernel_rfl) | (rw [if_neg (by decide +kernel)]; exact ⟨rfl, rfl⟩))
    (fun os started H enc _ F => by rw [OpenClaim.pre_eq_preRow]; exact lifted os started H enc F)

theorem plain (f : FuncId) (fn : Func) (hf : Tryd.pinned.checked.prog.funcNamed "loop.example/g00123/laws.FnSum" = some f) (hfn : Tryd.pinned.checked.prog.funcs[f]? = some fn) :
    false = Tryd.pinned.checked.prog.looks [] ∧ ∀ (j : Nat) t, fn.params[j]? = some t → Tryd.pinned.checked.prog.wantsStandIn t = false := by
  obtain rfl : f = 3 := Option.some.inj ((show Tryd.prog.funcNamed "loop.example/g00123/laws.FnSum" = some 3 by kernel_rfl).symm.trans hf) |>.symm
  obtain rfl : fn = Tryd.f3 := (Option.some.inj (Tryd.func3.symm.trans hfn)).symm
  refine ⟨by kernel_rfl, fun j t ht => ?_⟩
  rw [Tryd.params3] at ht
  obtain rfl : t = 22 := by simpa using Array.mem_of_getElem? ht
  exact (show Tryd.prog.wantsStandIn 22 = false by kernel_rfl)

/-- the statement: the row's tied card -/
theorem proved : Rows.FnSumCardSaid :=
  Claim7.holds_tied_plain_at .later [] _ _ _ _ said (fun _ h => by cases h) (by kernel_rfl) (fun _ h => by cases h) fnSum_row_tie rfl ⟨rfl, rfl⟩ (by kernel_rfl) rfl plain (by kernel_rfl)
#print axioms proved
end Go.Proofs.YtfmmdnikeoloeaaDoor.fnSum
