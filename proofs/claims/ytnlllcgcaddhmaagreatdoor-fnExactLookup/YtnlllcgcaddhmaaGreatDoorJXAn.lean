/- What Ask (of the program and of its model) answers; no condition but on the sizes and that the tables of the library and of the program lie as their texts lay them. -/
import Derived.Test.YtnlllcgcaddhmaaGreatDoorJXDa
import Derived.Test.YtnlllcgcaddhmaaGreatDoorJQm
import Derived.Test.YtnlllcgcaddhmaaGreatDoorJOl
import Derived.Test.YtnlllcgcaddhmaaGreatDoorJUa
namespace Go.Proofs.YtnlllcgcaddhmaaGreatDoor.an
open Go.ChangeShapes Go.WideShapes Go.ChangeAt Go.RowKit
open srt (Tab)
open css (tot Sls OwnS)
open cf (Box)
open yb (Box4)
open txt (Pow)
open cso (srtN srtB srtR srt_tot)
open zk (TabK TabS)
open lq (solveL)
open ua (Kn kz)
open sl (Sl ints hide unhide grown_refl grown_trans)
set_option linter.unusedVariables false
theorem own_none (lo hi : Nat) (w : World) : sl.Own lo hi w (.slice none 0 0) [] := ⟨World.ownsRow_nil .., fun k e => by cases e⟩
def dgA (n : Int) (LL : List (List Int)) : ByteArray := ⟨(da.digT n LL).toArray⟩
def csA (n : Int) (LL : List (List Int)) : Int := qh.costI (srtN n LL) (srtR n LL)
def askB (n : Int) (LL : List (List Int)) : Bool := !(da.digT n LL).isEmpty && decide (0 ≤ csA n LL)
def askK (n : Int) (LL : List (List Int)) : Kn := if askB n LL then ⟨dgA n LL, (solveL n LL []).isSome, (solveL n LL []).getD [], csA n LL⟩ else kz
def AskE (w : World) (K : Kn) (b : Bool) (e : Ending) (w' : World) : Prop := ∃ u, e = .returned (.tuple #[.agg #[.string K.dg, .bool K.sat, u, .int .i64 K.cost], .bool b]) ∧ sl.Own w.heap.size w'.heap.size w' u K.vals ∧ w.grownBy w' none
theorem ask_none {n : Int} {LL : List (List Int)} (h : askB n LL = false) : askK n LL = kz := by unfold askK; rw [h]; rfl
theorem ask_some {n : Int} {LL : List (List Int)} (h : askB n LL = true) : askK n LL = ⟨dgA n LL, (solveL n LL []).isSome, (solveL n LL []).getD [], csA n LL⟩ := by unfold askK; rw [h]; rfl
theorem dg_list (n : Int) (LL : List (List Int)) : (dgA n LL).toList = da.digT n LL := by
 rw [ByteArray.toList_eq]
 rfl
set_option maxRecDepth 10000 in
set_option maxHeartbeats 4000000 in
theorem specAsk (v : Value) (n : Int) (LL : List (List Int)) (w : World) (hn : tot LL ≤ 1048576) (hv : Sls w v LL) :
  Calls Tryz.prog 11 #[.agg #[.int .i64 n, v]] w fun e w' => AskE w (askK n LL) (askB n LL) e w' := by
 obtain ⟨W1, hW1⟩ : ∃ W1, W1 = (w.alloc (.cells #[.int .i64 n, v] 26)).alloc (.cells #[.string ⟨#[]⟩, .bool false, .slice none 0 0, .int .i64 0] 36) := ⟨_, rfl⟩
 have g1 : w.grownBy W1 none := by rw [hW1]; exact grown_trans (World.grownBy_alloc _ _ _) (World.grownBy_alloc _ _ _)
 have s1 : w.heap.size + 2 ≤ W1.heap.size := by rw [hW1]; simp only [World.size_alloc]; omega
 have B1 : Box 26 W1 w.heap.size (.int .i64 n) v := by rw [hW1]; exact (Box.new _ _ _ _).kept (World.grownBy_alloc _ _ none)
 have R1 : Box4 36 W1 (w.heap.size + 1) (.string ⟨#[]⟩) (.bool false) (.slice none 0 0) (.int .i64 0) := by
  rw [hW1]
  have q := Box4.new 36 (w.alloc (.cells #[.int .i64 n, v] 26)) (.string ⟨#[]⟩) (.bool false) (.slice none 0 0) (.int .i64 0)
  rw [World.size_alloc] at q
  exact q
 have CD : Hid (∀ w1, W1.grownBy w1 none → Calls Tryz.prog 37 #[.agg #[.int .i64 n, v]] w1 fun e w' => e = .returned (.string (dgA n LL)) ∧ w1.grownBy w' none) := fun w1 g => da.specDigest v n LL w1 hn ((hv.kept g1).kept g)
 have CS := hide (fun w1 (g : W1.grownBy w1 none) => cso.specCnfSort v n LL w1 hn ((hv.kept g1).kept g))
 have CM : Hid (∀ u lo w1, W1.grownBy w1 none → OwnS lo w1.heap.size w1 u (srtR n LL) → Calls Tryz.prog 39 #[.agg #[.int .i64 (srtN n LL), u]] w1 fun e w' => e = .returned (.int .i64 (csA n LL)) ∧ w1.grownBy w' none) := fun u lo w1 g o => qh.specMachineCost u (srtN n LL) (srtR n LL) lo w1.heap.size w1 (Nat.le_trans (srt_tot n LL) (by decide)) (Nat.le_refl _) o
 have CV := hide (fun w1 (g : W1.grownBy w1 none) => lq.specSolve v n LL w1 hn ((hv.kept g1).kept g))
 have HG := hide g1
 have HB := hide B1
 have HR := hide R1
 have b0 := B1.c0
 have b1 := B1.c1
 rw [hW1] at b0 b1
 clear g1 B1 R1 hv
 go_enter Tryz.func11, Tryz.ntmps11
 go_upto_region 1 with fail
 rw [← hW1] at b0 b1 ⊢
 clear hW1
 go_wp2_with fail
 refine (unhide CD _ (grown_refl _)).mono ?_; rintro e w2 ⟨rfl, g2⟩
 have b0 := ((unhide HB).kept g2).c0
 have b1 := ((unhide HB).kept g2).c1
 have HL := dg_list n LL
 obtain ⟨S, hS⟩ : ∃ S, S = dgA n LL := ⟨_, rfl⟩
 rw [← hS] at HL ⊢
 have HS := hide hS
 have HLS := hide HL
 clear hS HL
 go_wp2_with fail
 refine (unhide CS _ g2).mono ?_; rintro e w3 ⟨u3, rfl, o3, g3⟩
 obtain ⟨a3, c3, rfl⟩ := o3.len
 obtain ⟨nS, hnS⟩ : ∃ x, x = srtN n LL := ⟨_, rfl⟩
 have HNS := hide hnS
 rw [← hnS] at CM ⊢
 clear hnS b0 b1
 obtain ⟨W4, hW4⟩ : ∃ W4, W4 = w3.alloc (.cells #[.int .i64 nS, .slice a3 (srtR n LL).length c3] 26) := ⟨_, rfl⟩
 have ga : w3.grownBy W4 none := by rw [hW4]; exact World.grownBy_alloc _ _ _
 have g4 : W1.grownBy W4 none := grown_trans (r := none) (grown_trans (r := none) g2 g3) ga
 have X4 : Box 26 W4 w3.heap.size (.int .i64 nS) (.slice a3 (srtR n LL).length c3) := by rw [hW4]; exact Box.new _ _ _ _
 have C4 := hide (unhide CM _ w2.heap.size W4 g4 ((o3.kept ga).sub (Nat.le_refl _) ga.size))
 have B4 := (unhide HB).kept g4
 have G4 := hide g4
 have R4 := hide ((unhide HR).kept g4)
 generalize (srtR n LL).length = ln at *
 clear g2 g3 ga o3 CM CS CD
 have x0 := X4.c0
 have x1 := X4.c1
 have b0 := B4.c0
 have b1 := B4.c1
 have r0 := (unhide R4).c0
 have r1 := (unhide R4).c1
 have r2 := (unhide R4).c2
 have r3 := (unhide R4).c3
 have rf0 := (unhide R4).f 0
 have rf1 := (unhide R4).f 1
 have rf2 := (unhide R4).f 2
 have rf3 := (unhide R4).f 3
 have HX := hide X4
 have HB4 := hide B4
 clear X4 B4 g4
 go_upto_region 3 with fail
 rw [← hW4]
 clear hW4
 generalize w3.heap.size = vb at *
 cases he : (da.digT n LL).isEmpty
 ·have hne : S.toList ≠ [] := by
   rw [unhide HLS]
   intro q
   rw [q] at he
   cases he
  have hne2 : S.toList.isEmpty = false := by rw [unhide HLS]; exact he
  go_wp2_with fail
  refine (unhide C4).mono ?_; rintro e w5 ⟨rfl, g5⟩
  have G5 := hide (grown_trans (r := none) (unhide G4) g5)
  have R5 := hide ((unhide R4).kept g5)
  have B5 := hide ((unhide HB4).kept g5)
  clear C4 x0 x1 b0 b1 r0 r1 r2 r3 rf0 rf1 rf2 rf3 g5
  have r0 := (unhide R5).c0
  have r1 := (unhide R5).c1
  have r2 := (unhide R5).c2
  have r3 := (unhide R5).c3
  have rf0 := (unhide R5).f 0
  have rf1 := (unhide R5).f 1
  have rf2 := (unhide R5).f 2
  have rf3 := (unhide R5).f 3
  by_cases hc : csA n LL < 0
  ·have hb : askB n LL = false := by unfold askB; rw [he, decide_eq_false (by omega)]; rfl
   go_wp2_with fail
   (try simp only [Exit.inBlock, Exit.then])
   refine bodyPost_ret (ua.ret_known2 rfl rfl ((unhide R5).setA _ _ _ _)) rfl ?_
   rw [ask_none hb, hb]
   exact ⟨_, rfl, own_none _ _ _, yb.grown_setA (grown_trans (unhide HG) (unhide G5)) (by omega)⟩
  ·have hb : askB n LL = true := by unfold askB; rw [he]; simpa using hc
   have C5 := hide (unhide CV w5 (unhide G5))
   have b0 := (unhide B5).c0
   have b1 := (unhide B5).c1
   go_wp2_with fail
   refine (unhide C5).mono ?_; rintro e w6 ⟨r6, rfl, o6, g6⟩
   obtain ⟨a6, c6, rfl, hx6⟩ := sl.Sl.of_own o6
   clear hx6 C5 b0 b1 r0 r1 r2 r3 rf0 rf1 rf2 rf3
   have R6 := hide ((unhide R5).kept g6)
   have G6 := hide (grown_trans (r := none) (unhide G5) g6)
   have O6 := hide o6
   have z5 := (unhide G5).size
   clear o6 g6
   have r0 := (unhide R6).c0
   have r1 := (unhide R6).c1
   have r2 := (unhide R6).c2
   have r3 := (unhide R6).c3
   have rf0 := (unhide R6).f 0
   have rf1 := (unhide R6).f 1
   have rf2 := (unhide R6).f 2
   have rf3 := (unhide R6).f 3
   go_wp2_with fail
   (try simp only [Exit.inBlock, Exit.then])
   refine bodyPost_ret (ua.ret_known2 rfl rfl ((unhide R6).setA _ _ _ _)) rfl ?_
   rw [ask_some hb, hb]
   have o7 := ua.row_set (c := w.heap.size + 1) (i := 3) (u := .int .i64 (csA n LL)) (ua.row_set (c := w.heap.size + 1) (i := 2) (u := .slice a6 ((solveL n LL []).getD []).length c6) (ua.row_set (c := w.heap.size + 1) (i := 1) (u := .bool (solveL n LL []).isSome) (ua.row_set (c := w.heap.size + 1) (i := 0) (u := .string S) (unhide O6) (by omega)) (by omega)) (by omega)) (by omega)
   exact ⟨_, by rw [unhide HS]; rfl, ⟨css.own_mono o7 (by omega), fun k e => (o7.lt k e).2⟩, yb.grown_setA (grown_trans (unhide HG) (unhide G6)) (by omega)⟩
 ·have hb : askB n LL = false := by unfold askB; rw [he]; rfl
  have hem : S.toList = [] := by rw [unhide HLS]; simpa using he
  go_wp2_with fail
  (try simp only [Exit.inBlock, Exit.then])
  refine bodyPost_ret (ua.ret_known2 rfl rfl ((unhide R4).setA _ _ _ _)) rfl ?_
  rw [ask_none hb, hb]
  exact ⟨_, rfl, own_none _ _ _, yb.grown_setA (grown_trans (unhide HG) (unhide G4)) (by omega)⟩
set_option maxRecDepth 10000 in
set_option maxHeartbeats 4000000 in
theorem implAsk (v : Value) (n : Int) (LL : List (List Int)) (w : World) (hT : Tab w) (hP : Pow w) (hK : TabK w) (hS : TabS w) (hn : tot LL ≤ 1048576) (hv : Sls w v LL) :
  Calls Tryz.prog 10 #[.agg #[.int .i64 n, v]] w fun e w' => AskE w (askK n LL) (askB n LL) e w' := by
 obtain ⟨W1, hW1⟩ : ∃ W1, W1 = (w.alloc (.cells #[.int .i64 n, v] 26)).alloc (.cells #[.string ⟨#[]⟩, .bool false, .slice none 0 0, .int .i64 0] 36) := ⟨_, rfl⟩
 have g1 : w.grownBy W1 none := by rw [hW1]; exact grown_trans (World.grownBy_alloc _ _ _) (World.grownBy_alloc _ _ _)
 have s1 : w.heap.size + 2 ≤ W1.heap.size := by rw [hW1]; simp only [World.size_alloc]; omega
 have B1 : Box 26 W1 w.heap.size (.int .i64 n) v := by rw [hW1]; exact (Box.new _ _ _ _).kept (World.grownBy_alloc _ _ none)
 have R1 : Box4 36 W1 (w.heap.size + 1) (.string ⟨#[]⟩) (.bool false) (.slice none 0 0) (.int .i64 0) := by
  rw [hW1]
  have q := Box4.new 36 (w.alloc (.cells #[.int .i64 n, v] 26)) (.string ⟨#[]⟩) (.bool false) (.slice none 0 0) (.int .i64 0)
  rw [World.size_alloc] at q
  exact q
 have CD : Hid (∀ w1, W1.grownBy w1 none → Calls Tryz.prog 31 #[.agg #[.int .i64 n, v]] w1 fun e w' => e = .returned (.string (dgA n LL)) ∧ w1.grownBy w' none) := fun w1 g => da.implDigest v n LL w1 (hT.kept (grown_trans (r := none) g1 g)) (hP.kept (grown_trans (r := none) g1 g)) (hK.kept (grown_trans (r := none) g1 g)) (hS.kept (grown_trans (r := none) g1 g)) hn ((hv.kept g1).kept g)
 have CS := hide (fun w1 (g : W1.grownBy w1 none) => cso.implCnfSort v n LL w1 (hT.kept (grown_trans (r := none) g1 g)) hn ((hv.kept g1).kept g))
 have CM : Hid (∀ u lo w1, W1.grownBy w1 none → OwnS lo w1.heap.size w1 u (srtR n LL) → Calls Tryz.prog 35 #[.agg #[.int .i64 (srtN n LL), u]] w1 fun e w' => e = .returned (.int .i64 (csA n LL)) ∧ w1.grownBy w' none) := fun u lo w1 g o => qh.implMachineCost u (srtN n LL) (srtR n LL) lo w1.heap.size w1 (Nat.le_trans (srt_tot n LL) (by decide)) (hT.kept (grown_trans (r := none) g1 g)) o
 have CV := hide (fun w1 (g : W1.grownBy w1 none) => ks.implSolve v n LL w1 (hT.kept (grown_trans (r := none) g1 g)) hn ((hv.kept g1).kept g))
 have HG := hide g1
 have HB := hide B1
 have HR := hide R1
 have b0 := B1.c0
 have b1 := B1.c1
 rw [hW1] at b0 b1
 clear g1 B1 R1 hv hT hP hK hS
 go_enter Tryz.func10, Tryz.ntmps10
 go_upto_region 1 with fail
 rw [← hW1] at b0 b1 ⊢
 clear hW1
 go_wp2_with fail
 refine (unhide CD _ (grown_refl _)).mono ?_; rintro e w2 ⟨rfl, g2⟩
 have b0 := ((unhide HB).kept g2).c0
 have b1 := ((unhide HB).kept g2).c1
 have HL := dg_list n LL
 obtain ⟨S, hS⟩ : ∃ S, S = dgA n LL := ⟨_, rfl⟩
 rw [← hS] at HL ⊢
 have HS := hide hS
 have HLS := hide HL
 clear hS HL
 go_wp2_with fail
 refine (unhide CS _ g2).mono ?_; rintro e w3 ⟨u3, rfl, o3, g3⟩
 obtain ⟨a3, c3, rfl⟩ := o3.len
 obtain ⟨nS, hnS⟩ : ∃ x, x = srtN n LL := ⟨_, rfl⟩
 have HNS := hide hnS
 rw [← hnS] at CM ⊢
 clear hnS b0 b1
 obtain ⟨W4, hW4⟩ : ∃ W4, W4 = w3.alloc (.cells #[.int .i64 nS, .slice a3 (srtR n LL).length c3] 26) := ⟨_, rfl⟩
 have ga : w3.grownBy W4 none := by rw [hW4]; exact World.grownBy_alloc _ _ _
 have g4 : W1.grownBy W4 none := grown_trans (r := none) (grown_trans (r := none) g2 g3) ga
 have X4 : Box 26 W4 w3.heap.size (.int .i64 nS) (.slice a3 (srtR n LL).length c3) := by rw [hW4]; exact Box.new _ _ _ _
 have C4 := hide (unhide CM _ w2.heap.size W4 g4 ((o3.kept ga).sub (Nat.le_refl _) ga.size))
 have B4 := (unhide HB).kept g4
 have G4 := hide g4
 have R4 := hide ((unhide HR).kept g4)
 generalize (srtR n LL).length = ln at *
 clear g2 g3 ga o3 CM CS CD
 have x0 := X4.c0
 have x1 := X4.c1
 have b0 := B4.c0
 have b1 := B4.c1
 have r0 := (unhide R4).c0
 have r1 := (unhide R4).c1
 have r2 := (unhide R4).c2
 have r3 := (unhide R4).c3
 have rf0 := (unhide R4).f 0
 have rf1 := (unhide R4).f 1
 have rf2 := (unhide R4).f 2
 have rf3 := (unhide R4).f 3
 have HX := hide X4
 have HB4 := hide B4
 clear X4 B4 g4
 go_upto_region 3 with fail
 rw [← hW4]
 clear hW4
 generalize w3.heap.size = vb at *
 go_wp2_with fail
 refine (unhide C4).mono ?_; rintro e w5 ⟨rfl, g5⟩
 have G5 := hide (grown_trans (r := none) (unhide G4) g5)
 have R5 := hide ((unhide R4).kept g5)
 have B5 := hide ((unhide HB4).kept g5)
 clear C4 x0 x1 b0 b1 r0 r1 r2 r3 rf0 rf1 rf2 rf3 g5
 have r0 := (unhide R5).c0
 have r1 := (unhide R5).c1
 have r2 := (unhide R5).c2
 have r3 := (unhide R5).c3
 have rf0 := (unhide R5).f 0
 have rf1 := (unhide R5).f 1
 have rf2 := (unhide R5).f 2
 have rf3 := (unhide R5).f 3
 cases he : (da.digT n LL).isEmpty
 ·have hne : S.toList ≠ [] := by
   rw [unhide HLS]
   intro q
   rw [q] at he
   cases he
  have hne2 : S.toList.isEmpty = false := by rw [unhide HLS]; exact he
  by_cases hc : csA n LL < 0
  ·have hb : askB n LL = false := by unfold askB; rw [he, decide_eq_false (by omega)]; rfl
   go_wp2_with fail
   (try simp only [Exit.inBlock, Exit.then])
   refine bodyPost_ret (ua.ret_known2 rfl rfl ((unhide R5).setA _ _ _ _)) rfl ?_
   rw [ask_none hb, hb]
   exact ⟨_, rfl, own_none _ _ _, yb.grown_setA (grown_trans (unhide HG) (unhide G5)) (by omega)⟩
  ·have hb : askB n LL = true := by unfold askB; rw [he]; simpa using hc
   have C5 := hide (unhide CV w5 (unhide G5))
   have b0 := (unhide B5).c0
   have b1 := (unhide B5).c1
   go_wp2_with fail
   refine (unhide C5).mono ?_; rintro e w6 ⟨r6, rfl, o6, g6⟩
   obtain ⟨a6, c6, rfl, hx6⟩ := sl.Sl.of_own o6
   clear hx6 C5 b0 b1 r0 r1 r2 r3 rf0 rf1 rf2 rf3
   have R6 := hide ((unhide R5).kept g6)
   have G6 := hide (grown_trans (r := none) (unhide G5) g6)
   have O6 := hide o6
   have z5 := (unhide G5).size
   clear o6 g6
   have r0 := (unhide R6).c0
   have r1 := (unhide R6).c1
   have r2 := (unhide R6).c2
   have r3 := (unhide R6).c3
   have rf0 := (unhide R6).f 0
   have rf1 := (unhide R6).f 1
   have rf2 := (unhide R6).f 2
   have rf3 := (unhide R6).f 3
   go_wp2_with fail
   (try simp only [Exit.inBlock, Exit.then])
   refine bodyPost_ret (ua.ret_known2 rfl rfl ((unhide R6).setA _ _ _ _)) rfl ?_
   rw [ask_some hb, hb]
   have o7 := ua.row_set (c := w.heap.size + 1) (i := 3) (u := .int .i64 (csA n LL)) (ua.row_set (c := w.heap.size + 1) (i := 2) (u := .slice a6 ((solveL n LL []).getD []).length c6) (ua.row_set (c := w.heap.size + 1) (i := 1) (u := .bool (solveL n LL []).isSome) (ua.row_set (c := w.heap.size + 1) (i := 0) (u := .string S) (unhide O6) (by omega)) (by omega)) (by omega)) (by omega)
   exact ⟨_, by rw [unhide HS]; rfl, ⟨css.own_mono o7 (by omega), fun k e => (o7.lt k e).2⟩, yb.grown_setA (grown_trans (unhide HG) (unhide G6)) (by omega)⟩
 ·have hb : askB n LL = false := by unfold askB; rw [he]; rfl
  have hem : S.toList = [] := by rw [unhide HLS]; simpa using he
  go_wp2_with fail
  (try simp only [Exit.inBlock, Exit.then])
  refine bodyPost_ret (ua.ret_known2 rfl rfl ((unhide R5).setA _ _ _ _)) rfl ?_
  rw [ask_none hb, hb]
  exact ⟨_, rfl, own_none _ _ _, yb.grown_setA (grown_trans (unhide HG) (unhide G5)) (by omega)⟩
theorem ask_vals (n : Int) (LL : List (List Int)) : (askK n LL).vals.length ≤ 24 := by
 unfold askK
 split
 ·exact ks.solve_len n LL []
 ·exact Nat.zero_le _
end Go.Proofs.YtnlllcgcaddhmaaGreatDoor.an
