/- A formula of the call's own that is written in place, literal by literal; a copy of one; no condition but on sizes. -/
import Derived.Test.YtibpnocpafppaaaDoorJXJn
import Derived.Test.YtibpnocpafppaaaDoorJXOk
import Derived.Deep.RegionHeld3
namespace Go.Proofs.YtibpnocpafppaaaDoor.ge
open Go.ChangeShapes Go.WideShapes Go.ChangeAt Go.RowKit
open cf (Box)
open ok (cnfB)
open css (Sls OwnS tot Apart own_ne own_ne' own_kind own_mono)
open sl (Sl Own ints hide unhide ret_int ret_bool grown_refl grown_trans)
set_option linter.unusedVariables false
set_option maxRecDepth 100000 in
set_option maxHeartbeats 4000000 in
theorem copyCnf (v : Value) (n : Int) (LL : List (List Int)) (lo hi : Nat) (w : World) (hn : tot LL ≤ 1048576) (hv : OwnS lo hi w v LL) :
  Calls Tryd.prog 57 #[.agg #[.int .i64 n, v]] w fun e w' => ∃ u, e = .returned (.agg #[.int .i64 n, u]) ∧ OwnS w.heap.size w'.heap.size w' u LL ∧ w.grownBy w' none := by
 obtain ⟨va, vc, rfl⟩ := hv.len
 have g0 : w.grownBy ((w.alloc (.cells #[.int .i64 n, .slice va LL.length vc] 26)).alloc (.cells #[.int .i64 0, .slice none 0 0] 26)) none := grown_trans (World.grownBy_alloc _ _ _) (World.grownBy_alloc _ _ _)
 have b0 := (Box.new 26 w (.int .i64 n) (.slice va LL.length vc)).kept (World.grownBy_alloc _ (.cells #[.int .i64 0, .slice none 0 0] 26) none)
 have b1 := Box.new 26 (w.alloc (.cells #[.int .i64 n, .slice va LL.length vc] 26)) (.int .i64 0) (.slice none 0 0)
 rw [World.size_alloc] at b1
 have hsz : ((w.alloc (.cells #[.int .i64 n, .slice va LL.length vc] 26)).alloc (.cells #[.int .i64 0, .slice none 0 0] 26)).heap.size = w.heap.size + 2 := by simp only [World.size_alloc]
 go_enter Tryd.func57, Tryd.ntmps57
 go_wp2_with fail
 generalize hW0 : (w.alloc (.cells #[.int .i64 n, .slice va LL.length vc] 26)).alloc (.cells #[.int .i64 0, .slice none 0 0] 26) = W0 at *
 have CL := hide (app.copyLists (.slice va LL.length vc) LL lo hi W0.drew hn ((hv.kept g0).kept (cf.grown_drew W0 none)))
 have x0 := b0.c0
 have x1 := b0.c1
 have y0 := b1.c0
 have y1 := b1.c1
 have B0 := hide b0
 have B1 := hide b1
 have G0 := hide g0
 have HS := hide hsz
 clear hv g0 b0 b1 hW0 hsz
 go_region_held3 (fun w' => w'.cell? ⟨w.heap.size, 0, none⟩ = some (.int .i64 n) ∧ w'.cell? ⟨w.heap.size, 1, none⟩ = some (.slice va LL.length vc)) (go_keep) (first
  | (go_at_call 96; refine (unhide CL).mono ?_; rintro e w1 ⟨u, rfl, o1, g1⟩; obtain ⟨ua, uc, rfl⟩ := o1.len; have G1 := hide (grown_trans (r := none) (cf.grown_drew W0 none) g1); have z0 := ((unhide B0).kept (unhide G1)).c0; have z1 := ((unhide B0).kept (unhide G1)).c1; have k0 := ((unhide B1).kept (unhide G1)).c0; have k1 := ((unhide B1).kept (unhide G1)).c1; have k2 := ((unhide B1).kept (unhide G1)).f 0; have k3 := ((unhide B1).kept (unhide G1)).f 1; have O1 := hide o1; clear o1 g1))
 go_wp2_with fail
 (try simp only [Exit.inBlock, Exit.then])
 have hs := unhide HS
 have h1 := (unhide G1).size
 refine bodyPost_ret (cf.ret_box rfl rfl ((((unhide B1).kept (unhide G1)).set0 _).set1 _)) rfl ⟨_, rfl, ?_, ?_⟩
 ·rw [cf.size_set, cf.size_set]
  have o := unhide O1
  have e : W0.drew.heap.size = W0.heap.size := rfl
  rw [e] at o
  exact (cf.ownS_set (cf.ownS_set o (by omega)) (by omega)).sub (by omega) (Nat.le_refl _)
 ·exact cf.grown_set (cf.grown_set (grown_trans (unhide G0) (unhide G1)) (by omega)) (by omega)
def OwnD (lo hi : Nat) (w : World) (v : Value) (D : List (Value × List Int)) : Prop :=
 w.ownsRow lo 31 1 v D.length (D.map (·.1)) ∧ (∀ k, v.ownBlock = some k → k < hi) ∧ (∀ p ∈ D, Own lo hi w p.1 p.2) ∧ D.Pairwise Apart
theorem OwnD.of {lo hi : Nat} {w : World} {v : Value} {LL : List (List Int)} (h : OwnS lo hi w v LL) : ∃ D, D.map (·.2) = LL ∧ OwnD lo hi w v D := by
 obtain ⟨D, e, h1, h2, h3, h4⟩ := h
 exact ⟨D, e, h1, h2, h3, h4⟩
structure Ex (W wr : World) (c r : Nat) (n : Int) (v : Value) (U : List Value) (MM : List (List Int)) : Prop where
 g : W.grownBy wr none
 lc : W.heap.size ≤ c
 lr : W.heap.size ≤ r
 ne : r ≠ c
 b : Box 26 wr c (.int .i64 n) v
 br : Box 26 wr r (.int .i64 0) (.slice none 0 0)
 o : ∃ D : List (Value × List Int), D.map (·.1) = U ∧ D.map (·.2) = MM ∧ OwnD W.heap.size wr.heap.size wr v D
end Go.Proofs.YtibpnocpafppaaaDoor.ge
