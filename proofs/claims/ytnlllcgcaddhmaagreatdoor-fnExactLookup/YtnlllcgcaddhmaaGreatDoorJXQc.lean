/- What copyCnf, and MachineStart (of the program and of its model), answer at every formula of the call's own that holds at most 2^20 values; no other condition. -/
import Derived.Test.YtnlllcgcaddhmaaGreatDoorJXQa
import Derived.Test.YtnlllcgcaddhmaaGreatDoorJXJn
import Derived.Test.YtnlllcgcaddhmaaGreatDoorJOn
import Derived.Deep.RegionHeld3
namespace Go.Proofs.YtnlllcgcaddhmaaGreatDoor.qc
open Go.ChangeShapes Go.WideShapes Go.ChangeAt Go.RowKit
open qa (Box5 OwnM)
open cf (Box)
open ok (cnfB)
open css (Sls OwnS tot)
open sl (Sl Own ints hide unhide ret_int ret_bool grown_refl grown_trans)
set_option linter.unusedVariables false
set_option maxRecDepth 100000 in
set_option maxHeartbeats 4000000 in
theorem copyCnf (v : Value) (n : Int) (LL : List (List Int)) (lo hi : Nat) (w : World) (hn : tot LL ≤ 1048576) (hv : OwnS lo hi w v LL) :
  Calls Tryz.prog 118 #[.agg #[.int .i64 n, v]] w fun e w' => ∃ u, e = .returned (.agg #[.int .i64 n, u]) ∧ OwnS w.heap.size w'.heap.size w' u LL ∧ w.grownBy w' none := by
 obtain ⟨va, vc, rfl⟩ := hv.len
 have g0 : w.grownBy ((w.alloc (.cells #[.int .i64 n, .slice va LL.length vc] 26)).alloc (.cells #[.int .i64 0, .slice none 0 0] 26)) none := grown_trans (World.grownBy_alloc _ _ _) (World.grownBy_alloc _ _ _)
 have b0 := (Box.new 26 w (.int .i64 n) (.slice va LL.length vc)).kept (World.grownBy_alloc _ (.cells #[.int .i64 0, .slice none 0 0] 26) none)
 have b1 := Box.new 26 (w.alloc (.cells #[.int .i64 n, .slice va LL.length vc] 26)) (.int .i64 0) (.slice none 0 0)
 rw [World.size_alloc] at b1
 have hsz : ((w.alloc (.cells #[.int .i64 n, .slice va LL.length vc] 26)).alloc (.cells #[.int .i64 0, .slice none 0 0] 26)).heap.size = w.heap.size + 2 := by simp only [World.size_alloc]
 go_enter Tryz.func118, Tryz.ntmps118
 go_wp2_with fail
 generalize hW0 : (w.alloc (.cells #[.int .i64 n, .slice va LL.length vc] 26)).alloc (.cells #[.int .i64 0, .slice none 0 0] 26) = W0 at *
 have CL := hide (app.copyLists (.slice va LL.length vc) LL lo hi W0.drew hn ((hv.kept g0).kept (cf.grown_drew W0 none)))
 have x0 := b0.c0
 have x1 := b0.c1
 have y0 := b1.c0
 have y1 := b1.c1
 have B0 := hide b0
 have B1 := hide b1
 have G0 := hide g0
 have HS := hide hsz
 clear hv g0 b0 b1 hW0 hsz
 go_region_held3 (fun w' => w'.cell? ⟨w.heap.size, 0, none⟩ = some (.int .i64 n) ∧ w'.cell? ⟨w.heap.size, 1, none⟩ = some (.slice va LL.length vc)) (go_keep) (first
  | (go_at_call 156; refine (unhide CL).mono ?_; rintro e w1 ⟨u, rfl, o1, g1⟩; obtain ⟨ua, uc, rfl⟩ := o1.len; have G1 := hide (grown_trans (r := none) (cf.grown_drew W0 none) g1); have z0 := ((unhide B0).kept (unhide G1)).c0; have z1 := ((unhide B0).kept (unhide G1)).c1; have k0 := ((unhide B1).kept (unhide G1)).c0; have k1 := ((unhide B1).kept (unhide G1)).c1; have k2 := ((unhide B1).kept (unhide G1)).f 0; have k3 := ((unhide B1).kept (unhide G1)).f 1; have O1 := hide o1; clear o1 g1))
 go_wp2_with fail
 (try simp only [Exit.inBlock, Exit.then])
 have hs := unhide HS
 have h1 := (unhide G1).size
 refine bodyPost_ret (cf.ret_box rfl rfl ((((unhide B1).kept (unhide G1)).set0 _).set1 _)) rfl ⟨_, rfl, ?_, ?_⟩
 ·rw [cf.size_set, cf.size_set]
  have o := unhide O1
  have e : W0.drew.heap.size = W0.heap.size := rfl
  rw [e] at o
  exact (cf.ownS_set (cf.ownS_set o (by omega)) (by omega)).sub (by omega) (Nat.le_refl _)
 ·exact cf.grown_set (cf.grown_set (grown_trans (unhide G0) (unhide G1)) (by omega)) (by omega)
def stN (n : Int) (LL : List (List Int)) : Int := if cnfB n LL then n else 0
def stR (n : Int) (LL : List (List Int)) : List (List Int) := if cnfB n LL then LL else []
theorem own_nil (lo hi : Nat) (w : World) : Own lo hi w (.slice none 0 0) [] := ⟨⟨rfl, .inl ⟨rfl, rfl⟩⟩, fun k e => by cases e⟩
theorem ownM_nil (lo hi : Nat) (w : World) (h : lo ≤ hi) : OwnM lo hi w (.slice none 0 0) (.slice none 0 0) [] [] := ⟨hi, h, Nat.le_refl _, ⟨[], rfl, ⟨rfl, .inl ⟨rfl, rfl⟩⟩, (fun k e => by cases e), (fun p hp => by cases hp), List.Pairwise.nil⟩, own_nil _ _ _⟩
def StE (w : World) (n : Int) (LL : List (List Int)) (b : Bool) (e : Ending) (w' : World) : Prop := ∃ u p, e = .returned (.tuple #[.agg #[.int .i64 (stN n LL), u, p, .int .i64 0, .int .i64 0], .bool b]) ∧ OwnM w.heap.size w'.heap.size w' u p (stR n LL) [] ∧ w.grownBy w' none
set_option maxRecDepth 100000 in
set_option maxHeartbeats 4000000 in
theorem implMachineStart (v : Value) (n : Int) (LL : List (List Int)) (lo hi : Nat) (w : World) (hn : tot LL ≤ 1048576) (hv : OwnS lo hi w v LL) :
  Calls Tryz.prog 73 #[.agg #[.int .i64 n, v]] w fun e w' => StE w n LL (cnfB n LL) e w' := by
 have g0 : w.grownBy ((w.alloc (.cells #[.int .i64 n, v] 26)).alloc (.cells #[.int .i64 0, .slice none 0 0, .slice none 0 0, .int .i64 0, .int .i64 0] 106)) none := grown_trans (World.grownBy_alloc _ _ _) (World.grownBy_alloc _ _ _)
 have b0 := (Box.new 26 w (.int .i64 n) v).kept (World.grownBy_alloc _ (.cells #[.int .i64 0, .slice none 0 0, .slice none 0 0, .int .i64 0, .int .i64 0] 106) none)
 have b1 := Box5.new 106 (w.alloc (.cells #[.int .i64 n, v] 26)) (.int .i64 0) (.slice none 0 0) (.slice none 0 0) (.int .i64 0) (.int .i64 0)
 rw [World.size_alloc] at b1
 have hsz : ((w.alloc (.cells #[.int .i64 n, v] 26)).alloc (.cells #[.int .i64 0, .slice none 0 0, .slice none 0 0, .int .i64 0, .int .i64 0] 106)).heap.size = w.heap.size + 2 := by simp only [World.size_alloc]
 have C := hide (fun w1 (g : w.grownBy w1 none) => ok.implCnfOk v n LL w1 hn (hv.kept g).sls)
 have D := hide (fun w1 (g : w.grownBy w1 none) => copyCnf v n LL lo hi w1 hn (hv.kept g))
 have x0 := b0.c0
 have x1 := b0.c1
 have B0 := hide b0
 have B1 := hide b1
 have G0 := hide g0
 have HS := hide hsz
 clear hv g0 b0 b1 hsz
 go_enter Tryz.func73, Tryz.ntmps73
 go_wp2_with fail
 generalize (w.alloc (.cells #[.int .i64 n, v] 26)).alloc (.cells #[.int .i64 0, .slice none 0 0, .slice none 0 0, .int .i64 0, .int .i64 0] 106) = W0 at *
 refine (unhide C _ (unhide G0)).mono ?_; rintro e w1 ⟨rfl, g1⟩
 have G1 := hide (grown_trans (r := none) (unhide G0) g1)
 have S1 := hide g1.size
 have X0 := hide ((unhide B0).kept g1)
 have X1 := hide ((unhide B1).kept g1)
 have y0 := (unhide X0).c0
 have y1 := (unhide X0).c1
 have z0 := (unhide X1).c0
 have z1 := (unhide X1).c1
 have z2 := (unhide X1).c2
 have z3 := (unhide X1).c3
 have z4 := (unhide X1).c4
 have f0 := (unhide X1).f 0
 have f1 := (unhide X1).f 1
 have f2 := (unhide X1).f 2
 have f3 := (unhide X1).f 3
 have f4 := (unhide X1).f 4
 clear g1 x0 x1 B0 B1 C
 cases hb : cnfB n LL
 ·have E : Hid (stN n LL = 0 ∧ stR n LL = [] ∧ cnfB n LL = false) := by unfold stN stR; rw [hb]; exact ⟨rfl, rfl, rfl⟩
  clear hb D
  go_wp2_with fail
  have hs := unhide HS
  have h1 := unhide S1
  (try simp only [Exit.inBlock, Exit.then])
  refine bodyPost_ret (qa.ret_box52 rfl rfl ((((((unhide X1).set0 _).set1 _).set2 _).set3 _).set4 _)) rfl ?_
  unfold StE
  rw [(unhide E).1, (unhide E).2.1, (unhide E).2.2]
  refine ⟨_, _, rfl, ownM_nil _ _ _ (by simp only [cf.size_set]; omega), cf.grown_set (cf.grown_set (cf.grown_set (cf.grown_set (cf.grown_set (unhide G1) (by omega)) (by omega)) (by omega)) (by omega)) (by omega)⟩
 ·have E : Hid (stN n LL = n ∧ stR n LL = LL ∧ cnfB n LL = true) := by unfold stN stR; rw [hb]; exact ⟨rfl, rfl, rfl⟩
  clear hb
  go_wp2_with fail
  refine (unhide D _ (unhide G1)).mono ?_; rintro e w2 ⟨u, rfl, o2, g2⟩
  obtain ⟨ua, uc, rfl⟩ := o2.len
  have X2 := hide ((unhide X1).kept g2)
  have S2 := hide g2.size
  have G2 := hide (grown_trans (r := none) (unhide G1) g2)
  have O2 := hide o2
  clear z0 z1 z2 z3 z4 f0 f1 f2 f3 f4 y0 y1
  have z0 := (unhide X2).c0
  have z1 := (unhide X2).c1
  have z2 := (unhide X2).c2
  have z3 := (unhide X2).c3
  have z4 := (unhide X2).c4
  have f0 := (unhide X2).f 0
  have f1 := (unhide X2).f 1
  have f2 := (unhide X2).f 2
  have f3 := (unhide X2).f 3
  have f4 := (unhide X2).f 4
  clear g2 o2 D X1 X0
  go_wp2_with fail
  have hs := unhide HS
  have h1 := unhide S1
  have h2 := unhide S2
  (try simp only [Exit.inBlock, Exit.then])
  refine bodyPost_ret (qa.ret_box52 rfl rfl ((((((unhide X2).set0 _).set1 _).set2 _).set3 _).set4 _)) rfl ?_
  unfold StE
  rw [(unhide E).1, (unhide E).2.1, (unhide E).2.2]
  refine ⟨_, _, rfl, ?_, cf.grown_set (cf.grown_set (cf.grown_set (cf.grown_set (cf.grown_set (unhide G2) (by omega)) (by omega)) (by omega)) (by omega)) (by omega)⟩
  simp only [cf.size_set]
  exact ⟨w2.heap.size, by omega, Nat.le_refl _, (cf.ownS_set (cf.ownS_set (cf.ownS_set (cf.ownS_set (cf.ownS_set (unhide O2) (by omega)) (by omega)) (by omega)) (by omega)) (by omega)).sub (by omega) (Nat.le_refl _), own_nil _ _ _⟩
set_option maxRecDepth 100000 in
set_option maxHeartbeats 4000000 in
theorem specMachineStart (v : Value) (n : Int) (LL : List (List Int)) (lo hi : Nat) (w : World) (hn : tot LL ≤ 1048576) (hv : OwnS lo hi w v LL) (hhi : hi ≤ w.heap.size) :
  Calls Tryz.prog 82 #[.agg #[.int .i64 n, v]] w fun e w' => StE w n LL (cnfB n LL) e w' := by
 have g0 : w.grownBy ((w.alloc (.cells #[.int .i64 n, v] 26)).alloc (.cells #[.int .i64 0, .slice none 0 0, .slice none 0 0, .int .i64 0, .int .i64 0] 106)) none := grown_trans (World.grownBy_alloc _ _ _) (World.grownBy_alloc _ _ _)
 have b0 := (Box.new 26 w (.int .i64 n) v).kept (World.grownBy_alloc _ (.cells #[.int .i64 0, .slice none 0 0, .slice none 0 0, .int .i64 0, .int .i64 0] 106) none)
 have b1 := Box5.new 106 (w.alloc (.cells #[.int .i64 n, v] 26)) (.int .i64 0) (.slice none 0 0) (.slice none 0 0) (.int .i64 0) (.int .i64 0)
 rw [World.size_alloc] at b1
 have hsz : ((w.alloc (.cells #[.int .i64 n, v] 26)).alloc (.cells #[.int .i64 0, .slice none 0 0, .slice none 0 0, .int .i64 0, .int .i64 0] 106)).heap.size = w.heap.size + 2 := by simp only [World.size_alloc]
 have C := hide (fun w1 (g : w.grownBy w1 none) => ok.specCnfOk v n LL w1 hn (hv.kept g).sls)
 have D := hide (fun w1 (g : w.grownBy w1 none) => jn.l02Copy v n LL lo hi w1 hn (hv.kept g) (Nat.le_trans hhi g.size))
 have x0 := b0.c0
 have x1 := b0.c1
 have B0 := hide b0
 have B1 := hide b1
 have G0 := hide g0
 have HS := hide hsz
 clear hv g0 b0 b1 hsz
 go_enter Tryz.func82, Tryz.ntmps82
 go_wp2_with fail
 generalize (w.alloc (.cells #[.int .i64 n, v] 26)).alloc (.cells #[.int .i64 0, .slice none 0 0, .slice none 0 0, .int .i64 0, .int .i64 0] 106) = W0 at *
 refine (unhide C _ (unhide G0)).mono ?_; rintro e w1 ⟨rfl, g1⟩
 have G1 := hide (grown_trans (r := none) (unhide G0) g1)
 have S1 := hide g1.size
 have X0 := hide ((unhide B0).kept g1)
 have X1 := hide ((unhide B1).kept g1)
 have y0 := (unhide X0).c0
 have y1 := (unhide X0).c1
 have z0 := (unhide X1).c0
 have z1 := (unhide X1).c1
 have z2 := (unhide X1).c2
 have z3 := (unhide X1).c3
 have z4 := (unhide X1).c4
 have f0 := (unhide X1).f 0
 have f1 := (unhide X1).f 1
 have f2 := (unhide X1).f 2
 have f3 := (unhide X1).f 3
 have f4 := (unhide X1).f 4
 clear g1 x0 x1 B0 B1 C
 cases hb : cnfB n LL
 ·have E : Hid (stN n LL = 0 ∧ stR n LL = [] ∧ cnfB n LL = false) := by unfold stN stR; rw [hb]; exact ⟨rfl, rfl, rfl⟩
  clear hb D
  go_wp2_with fail
  have hs := unhide HS
  have h1 := unhide S1
  (try simp only [Exit.inBlock, Exit.then])
  refine bodyPost_ret (qa.ret_box52 rfl rfl ((((((unhide X1).set0 _).set1 _).set2 _).set3 _).set4 _)) rfl ?_
  unfold StE
  rw [(unhide E).1, (unhide E).2.1, (unhide E).2.2]
  refine ⟨_, _, rfl, ownM_nil _ _ _ (by simp only [cf.size_set]; omega), cf.grown_set (cf.grown_set (cf.grown_set (cf.grown_set (cf.grown_set (unhide G1) (by omega)) (by omega)) (by omega)) (by omega)) (by omega)⟩
 ·have E : Hid (stN n LL = n ∧ stR n LL = LL ∧ cnfB n LL = true) := by unfold stN stR; rw [hb]; exact ⟨rfl, rfl, rfl⟩
  clear hb
  go_wp2_with fail
  refine (unhide D _ (unhide G1)).mono ?_; rintro e w2 ⟨u, rfl, o2, g2⟩
  obtain ⟨ua, uc, rfl⟩ := o2.len
  have X2 := hide ((unhide X1).kept g2)
  have S2 := hide g2.size
  have G2 := hide (grown_trans (r := none) (unhide G1) g2)
  have O2 := hide o2
  clear z0 z1 z2 z3 z4 f0 f1 f2 f3 f4 y0 y1
  have z0 := (unhide X2).c0
  have z1 := (unhide X2).c1
  have z2 := (unhide X2).c2
  have z3 := (unhide X2).c3
  have z4 := (unhide X2).c4
  have f0 := (unhide X2).f 0
  have f1 := (unhide X2).f 1
  have f2 := (unhide X2).f 2
  have f3 := (unhide X2).f 3
  have f4 := (unhide X2).f 4
  clear g2 o2 D X1 X0
  go_wp2_with fail
  have hs := unhide HS
  have h1 := unhide S1
  have h2 := unhide S2
  (try simp only [Exit.inBlock, Exit.then])
  refine bodyPost_ret (qa.ret_box52 rfl rfl ((((((unhide X2).set0 _).set1 _).set2 _).set3 _).set4 _)) rfl ?_
  unfold StE
  rw [(unhide E).1, (unhide E).2.1, (unhide E).2.2]
  refine ⟨_, _, rfl, ?_, cf.grown_set (cf.grown_set (cf.grown_set (cf.grown_set (cf.grown_set (unhide G2) (by omega)) (by omega)) (by omega)) (by omega)) (by omega)⟩
  simp only [cf.size_set]
  exact ⟨w2.heap.size, by omega, Nat.le_refl _, (cf.ownS_set (cf.ownS_set (cf.ownS_set (cf.ownS_set (cf.ownS_set (unhide O2) (by omega)) (by omega)) (by omega)) (by omega)) (by omega)).sub (by omega) (Nat.le_refl _), own_nil _ _ _⟩
end Go.Proofs.YtnlllcgcaddhmaaGreatDoor.qc
