/- What spec.DrawFormula draws: a formula of at most 6 variables, in memory of its own. -/
import Derived.Test.YtlpgnaedhijdpaaDAn
import Derived.Test.YtlpgnaedhijdpaaDf
namespace Go.Proofs.Ytlpgnaedhijdpaa.db
open Go.ChangeShapes Go.WideShapes Go.ChangeAt Go.RowKit
open Go.Proofs.Ytlpgnaedhijdpaa.sl (Sl Own ints hide unhide grown_refl grown_trans grown_trans' grown_drewN below_of of_below)
open Go.Proofs.Ytlpgnaedhijdpaa.css (Sls OwnS tot)
open Go.Proofs.Ytlpgnaedhijdpaa.cf (Box)
open Go.Proofs.Ytlpgnaedhijdpaa.draw (Bs Cur newCur)
open Go.Proofs.Ytlpgnaedhijdpaa.dcn (Bd Came Drawn good bd_good)
set_option linter.unusedVariables false

set_option maxHeartbeats 1600000 in
theorem drawFormula (a : Option Addr) (n cap : Nat) (w : World) (hn : n ≤ 1048576) (hB : Bs w a n) :
    Calls Try.prog 9 #[.slice a n cap] w fun e w' => ∃ (k : Int) (v : Value) (M : List (List Int)), e = .returned (.agg #[.int .i64 k, v]) ∧ ((1 ≤ k ∧ k ≤ 6) ∧ (M.length : Int) ≤ 4 * k + 2 ∧ M.all (good k) = true) ∧ OwnS w.heap.size w'.heap.size w' v M ∧ w.grownBy w' none := by
  have nc := newCur a n cap (w.alloc (.cells #[.int .i64 0, .slice none 0 0] 26)) hn (hB.below (below_of (World.grownBy_alloc w (.cells #[.int .i64 0, .slice none 0 0] 26) none)))
  simp only [World.size_alloc] at nc
  have NC := hide nc
  have R0 := hide (Box.new 26 w (.int .i64 0) (.slice none 0 0))
  clear hB nc
  go_enter Try.func9, Try.ntmps9
  go_wp2_with fail
  refine (unhide NC).mono ?_; rintro e w1 ⟨rfl, hc1, g1⟩
  have C1 := hide hc1
  have G1 := hide g1
  have R1 := hide ((unhide R0).kept g1)
  clear hc1 g1 NC R0
  go_wp2_with fail
  refine (dcn.cnf _ 6 _ (unhide C1) (by decide) (by decide)).mono ?_; rintro e w2 ⟨k, v, M, rfl, b1, b2, b3, od, gd, cd⟩
  have bd := And.intro b1 (And.intro b2 b3)
  obtain ⟨va, vc, rfl⟩ := od.len
  have r2 := (unhide R1).by gd (fun e => by simp at e)
  have R2 := hide r2
  have OD := hide od
  have GD := hide gd
  have BD := hide bd
  have rc0 := r2.c0
  have rc1 := r2.c1
  have rf0 := r2.f 0
  have rf1 := r2.f 1
  have GA := hide (grown_trans (r := none) (World.grownBy_alloc w (.cells #[.int .i64 0, .slice none 0 0] 26) none) (unhide G1))
  clear r2 od gd cd bd
  go_wp2_with fail
  (try simp only [Exit.inBlock, Exit.then])
  have gw := draw.grown_new (unhide GA) (unhide GD) (Nat.le_succ _)
  have os := gr.ownS_set (i := 1) (u := .slice va M.length vc) (gr.ownS_set (i := 0) (u := .int .i64 k) (unhide OD) (unhide R2)) ((unhide R2).set0 (.int .i64 k))
  refine bodyPost_ret (cf.ret_box rfl rfl (((unhide R2).set0 (.int .i64 k)).set1 (.slice va M.length vc))) rfl ⟨k, _, M, rfl, unhide BD, ?_, ?_⟩
  · refine os.sub (unhide GA).size ?_
    rw [cf.size_set, cf.size_set]
    exact Nat.le_refl _
  · exact cf.grown_set (cf.grown_set gw (Nat.le_refl _)) (Nat.le_refl _)
end Go.Proofs.Ytlpgnaedhijdpaa.db
