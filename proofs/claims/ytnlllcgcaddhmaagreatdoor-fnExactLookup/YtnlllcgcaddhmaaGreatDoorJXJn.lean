/- What CnfJoin (of the program and of its model) answers at every two formulas of the call's own that hold at most 2^20 values each; no other condition. -/
import Derived.Test.YtnlllcgcaddhmaaGreatDoorJOn
import Derived.Test.YtnlllcgcaddhmaaGreatDoorJXFy
namespace Go.Proofs.YtnlllcgcaddhmaaGreatDoor.jn
open Go.ChangeShapes Go.WideShapes Go.ChangeAt Go.RowKit
open sl (Sl Own ints marks hide unhide ret_int ret_bool grown_refl grown_trans grown_drewN below_of of_below)
open css (Sls OwnS Outs tot sumLen marksS)
open cf (Box)
open gr (MidF)
open ok (cnfB)
open wo (Made)
open app (stepI own_at made_nil)
set_option linter.unusedVariables false
attribute [local go_sem ↓] Go.wp_at_zero Go.wp_at_succ
set_option maxHeartbeats 4000000 in
theorem l02Copy (v : Value) (n : Int) (LL : List (List Int)) (lo hi : Nat) (w : World) (hn : tot LL ≤ 1048576) (hv : OwnS lo hi w v LL) (hhi : hi ≤ w.heap.size) :
  Calls Tryz.prog 136 #[.agg #[.int .i64 n, v]] w fun e w' => ∃ u, e = .returned (.agg #[.int .i64 n, u]) ∧ OwnS w.heap.size w'.heap.size w' u LL ∧ w.grownBy w' none := by
 have hl := Nat.le_trans (css.tot_len LL) hn
 have st : Hid (MidF w (((w.alloc (.cells #[.int .i64 n, v] 26)).alloc (.cells #[.int .i64 0, .slice none 0 0] 26)).alloc (.cells #[.int .i64 n, .slice none 0 0] 26)) (w.heap.size + 1 + 1) n [] [(w.heap.size, .int .i64 n, v), (w.heap.size + 1, .int .i64 0, .slice none 0 0)]) := by
  refine ⟨by omega, grown_trans (grown_trans (World.grownBy_alloc _ _ _) (World.grownBy_alloc _ _ _)) (World.grownBy_alloc _ _ _), ?_, none, 0, ?_, fx.ownS_nil _ _ _⟩
  ·intro b hb
   simp only [List.mem_cons, List.not_mem_nil, or_false] at hb
   rcases hb with rfl | rfl
   ·exact ⟨by show w.heap.size ≠ w.heap.size + 1 + 1; omega, ((Box.new 26 w (.int .i64 n) v).kept (World.grownBy_alloc _ _ _)).kept (World.grownBy_alloc _ _ _)⟩
   ·have := (Box.new 26 (w.alloc (.cells #[.int .i64 n, v] 26)) (.int .i64 0) (.slice none 0 0)).kept (World.grownBy_alloc _ (.cells #[.int .i64 n, .slice none 0 0] 26) none)
    rw [World.size_alloc] at this
    exact ⟨by show w.heap.size + 1 ≠ w.heap.size + 1 + 1; omega, this⟩
  ·have := Box.new 26 ((w.alloc (.cells #[.int .i64 n, v] 26)).alloc (.cells #[.int .i64 0, .slice none 0 0] 26)) (.int .i64 n) (.slice none 0 0)
   rw [World.size_alloc, World.size_alloc] at this
   exact this
 obtain ⟨a, cap, rfl⟩ := hv.len
 have HV := hide hv
 clear hv
 go_enter Tryz.func136, Tryz.ntmps136
 go_wp2
 go_loopw [4] (fun i wr => ∃ k : Nat, k ≤ LL.length ∧ i = .int .i64 k ∧ Hid (MidF w wr (w.heap.size + 1 + 1) n (LL.take k) [(w.heap.size, .int .i64 n, .slice a LL.length cap), (w.heap.size + 1, .int .i64 0, .slice none 0 0)])) (fun i _ => LL.length - (intOf i).toNat)
 case atStart => exact ⟨0, Nat.zero_le _, rfl, st⟩
 case round =>
  obtain ⟨k, hk, rfl, hm⟩ := hrel
  have bf := (unhide hm).box w.heap.size (.int .i64 n) (.slice a LL.length cap) (by simp)
  have f0 := bf.c0
  have f1 := bf.c1
  clear st
  by_cases hlt : k < LL.length
  ·have fa := (bf.kept (World.grownBy_alloc wr (.cells #[] 3) none)).c1
   obtain ⟨g, cap', u', e, hgl, c1, hu0⟩ := own_at ((unhide HV).kept (unhide hm).grown) k hlt
   simp only [Value.slice.injEq] at e
   obtain ⟨rfl, _, rfl⟩ := e
   have hi' : (k : Int) < (LL.length : Int) := by omega
   have hL := Nat.le_trans (css.tot_in LL k) hn
   have hts := css.take_snoc LL k hlt
   have hM : (LL.take k).length ≤ 1048576 := by rw [List.length_take]; omega
   generalize LL.getD k [] = L at *
   obtain ⟨q0, q1, q2, oa, ocap, q3, q4⟩ := unhide hm
   generalize LL.take k = M at *
   have HT := hide hts
   obtain ⟨ua, uc, e1, _⟩ := hu0.sl
   subst e1
   have mn := made_nil wr
   have c2 := mn.2.cell c1 (fun e => by cases e)
   have o1 := q3.c1
   have of1 := q3.f 1
   have o2 := (q3.kept mn.2).c1
   have U0 := hide ((hu0.kept mn.2).kept (cf.grown_drew _ none))
   have MN := hide (And.intro (mn.1.drew) (grown_trans (r := none) mn.2 (cf.grown_drew _ none)))
   have Q0 := hide q0
   have Q1 := hide q1
   have Q2 := hide q2
   have Q3 := hide q3
   have Q4 := hide q4
   clear hu0 hts HV mn hm bf q0 q1 q2 q3 q4
   go_wp2_with fail
   go_region_law
    (first
     | (refine stepI (A := []) (unhide MN).2 (unhide MN).1 (unhide U0) (by show 0 + L.length ≤ 4194304; omega) (by rfl) _ _ (by rfl) (by rfl) (by rfl) ?_; intro y w1 m1 g1; have m1' : Made wr w1 y L := m1; obtain ⟨ya, yc, e3, _⟩ := sl.Sl.of_own m1'.1; subst e3; have Y1 := hide (Own.of m1'.1); have G1 := hide m1'.2; have k1 := ((unhide Q3).kept (unhide G1)).c1; have k2 := ((unhide Q3).kept (unhide G1)).f 1; have k9 := (((unhide Q3).kept (unhide G1)).kept (World.grownBy_alloc w1 (.cells #[.slice ya L.length yc] 34) none)).c1; clear m1 m1' g1)
     | (refine gr.stepR ((unhide Q4).kept (unhide G1)) (unhide Y1) (unhide Q1).size (unhide G1).size hM (by rfl) _ _ (by rfl) (by rfl) (by rfl) ?_; intro g3 cap3 w3 h3 g3'; have R3 := hide (gr.MidF.step (unhide Q0) (unhide Q1) (unhide Q2) (unhide Q3) (unhide Q4) (unhide G1) h3 g3'); have k3 := (unhide R3).1.1; have k4 := (unhide R3).1.2.1; clear h3 g3'))
   all_goals
    go_wp2_with fail
    go_roundw
    case rel => exact ⟨k + 1, by omega, by go_num, by rw [unhide HT]; exact (unhide R3).2⟩
    case measure => simp [intOf]; omega
  ·have hi' : ¬ (k : Int) < (LL.length : Int) := by omega
   have e : LL.take k = LL := List.take_of_length_le (by omega)
   rw [e] at hm
   have br := (unhide hm).box (w.heap.size + 1) (.int .i64 0) (.slice none 0 0) (by simp)
   obtain ⟨q0, q1, q2, oa, ocap, q3, q4⟩ := unhide hm
   have r0 := br.c0
   have r1 := br.c1
   have rf0 := br.f 0
   have rf1 := br.f 1
   have o0 := q3.c0
   have o1 := q3.c1
   have BR := hide br
   have Q1 := hide q1
   have Q4 := hide q4
   clear HV hm e q0 q1 q2 q3 q4 br bf
   go_wp2
   have bb := ((unhide BR).set0 (.int .i64 n)).set1 (.slice oa LL.length ocap)
   (try simp only [Exit.inBlock, Exit.then])
   refine bodyPost_ret (cf.ret_box rfl rfl bb) rfl ⟨_, rfl, ?_, ?_⟩
   ·rw [cf.size_set, cf.size_set]
    exact gr.ownS_set (gr.ownS_set (unhide Q4) (unhide BR)) ((unhide BR).set0 (.int .i64 n))
   ·exact cf.grown_set (cf.grown_set (unhide Q1) (by omega)) (by omega)
end Go.Proofs.YtnlllcgcaddhmaaGreatDoor.jn
