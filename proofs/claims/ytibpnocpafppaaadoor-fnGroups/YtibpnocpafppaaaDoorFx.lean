/- What Fix (of the program and of its model) answers at every formula that holds at most 2^20 values and every number; no other condition. -/
import Derived.Test.YtibpnocpafppaaaDoorGr
import Derived.Deep.RegionHeld3
import Derived.Test.YtibpnocpafppaaaDoorOk
import Derived.Test.YtibpnocpafppaaaDoorWo
namespace Go.Proofs.YtibpnocpafppaaaDoor.fx
open Go.ChangeShapes Go.WideShapes Go.ChangeAt Go.RowKit
open Go.Proofs.YtibpnocpafppaaaDoor.lits (okB varI)
open Go.Proofs.YtibpnocpafppaaaDoor.cls (hasB)
open Go.Proofs.YtibpnocpafppaaaDoor.wo (woL)
open Go.Proofs.YtibpnocpafppaaaDoor.sl (Sl Own ints marks hide unhide ret_int ret_bool grown_refl grown_trans grown_drewN below_of of_below)
open Go.Proofs.YtibpnocpafppaaaDoor.css (Sls OwnS Outs tot sumLen marksS)
open Go.Proofs.YtibpnocpafppaaaDoor.cf (Box)
open Go.Proofs.YtibpnocpafppaaaDoor.gr (MidF)
open Go.Proofs.YtibpnocpafppaaaDoor.ok (cnfB litIn)
set_option linter.unusedVariables false
attribute [local go_sem ↓] Go.wp_at_zero Go.wp_at_succ

/-- a formula's clauses where x is true -/
def fixL (x : Int) (LL : List (List Int)) : List (List Int) := (LL.filter fun L => !hasB L x).map fun L => woL L (-x)
def fixB (n : Int) (LL : List (List Int)) (x : Int) : Bool := cnfB n LL && litIn n x
theorem fixL_keep (x : Int) (LL : List (List Int)) (k : Nat) (h : k < LL.length) (e : hasB (LL.getD k []) x = false) : fixL x (LL.take (k + 1)) = fixL x (LL.take k) ++ [woL (LL.getD k []) (-x)] := by
  rw [css.take_snoc LL k h]
  generalize LL.getD k [] = L at *
  unfold fixL
  rw [List.filter_append, List.map_append]
  simp [e]
theorem fixL_drop (x : Int) (LL : List (List Int)) (k : Nat) (h : k < LL.length) (e : hasB (LL.getD k []) x = true) : fixL x (LL.take (k + 1)) = fixL x (LL.take k) := by
  rw [css.take_snoc LL k h]
  generalize LL.getD k [] = L at *
  unfold fixL
  rw [List.filter_append, List.map_append]
  simp [e]
theorem fixL_len (x : Int) (LL : List (List Int)) : (fixL x LL).length ≤ LL.length := by
  unfold fixL
  rw [List.length_map]
  exact List.length_filter_le _ _
theorem litIn_bd {n x : Int} (h : litIn n x = true) : x ≠ 0 ∧ -24 ≤ x ∧ x ≤ 24 := by
  unfold litIn at h
  rw [Bool.and_eq_true] at h
  exact lits.okB_iff.1 h.1

theorem wrap_neg {x : Int} (h : -24 ≤ x ∧ x ≤ 24) : IntKind.i64.wrap (-x) = -x := by
  rw [IntKind.wrap_i64]
  omega
theorem specWo (u : Value) (L : List Int) (x y : Int) (w : World) (hy : y = -x) (hL : L.length ≤ 1048576) (hu : Sl w u L) :
    Calls Tryd.prog 119 #[u, .int .i64 y] w fun e w' => ∃ u, e = .returned u ∧ w'.ownsRow w.heap.size 3 1 u (woL L (-x)).length (ints (woL L (-x))) ∧ w.grownBy w' none := by
  subst hy
  exact wo.specClauseWithout u L (-x) w hL hu
theorem implWo (u : Value) (L : List Int) (x y : Int) (w : World) (hy : y = -x) (hL : L.length ≤ 1048576) (hu : Sl w u L) :
    Calls Tryd.prog 117 #[u, .int .i64 y] w fun e w' => ∃ u, e = .returned u ∧ w'.ownsRow w.heap.size 3 1 u (woL L (-x)).length (ints (woL L (-x))) ∧ w.grownBy w' none := by
  subst hy
  exact wo.implClauseWithout u L (-x) w hL hu

set_option maxHeartbeats 2000000 in
theorem l02Fix (v : Value) (n x : Int) (LL : List (List Int)) (w : World) (hn : tot LL ≤ 1048576) (hx : x ≠ 0 ∧ -24 ≤ x ∧ x ≤ 24) (hv : Sls w v LL) :
    Calls Tryd.prog 61 #[.agg #[.int .i64 n, v], .int .i64 x] w fun e w' => ∃ u, e = .returned (.agg #[.int .i64 n, u]) ∧ OwnS w.heap.size w'.heap.size w' u (fixL x LL) ∧ w.grownBy w' none := by
  have hl := Nat.le_trans (css.tot_len LL) hn
  have st : Hid (MidF w (((w.alloc (.cells #[.int .i64 n, v] 26)).alloc (.cells #[.int .i64 0, .slice none 0 0] 26)).alloc (.cells #[.int .i64 n, .slice none 0 0] 26)) (w.heap.size + 1 + 1) n [] [(w.heap.size, .int .i64 n, v), (w.heap.size + 1, .int .i64 0, .slice none 0 0)]) := by
    refine ⟨by omega, grown_trans (grown_trans (World.grownBy_alloc _ _ _) (World.grownBy_alloc _ _ _)) (World.grownBy_alloc _ _ _), ?_, none, 0, ?_, ⟨[], rfl, World.ownsRow_nil .., (fun k e => by cases e), (fun p hp => by cases hp), .nil⟩⟩
    · intro b hb
      simp only [List.mem_cons, List.not_mem_nil, or_false] at hb
      rcases hb with rfl | rfl
      · exact ⟨by show w.heap.size ≠ w.heap.size + 1 + 1; omega, ((Box.new 26 w (.int .i64 n) v).kept (World.grownBy_alloc _ _ _)).kept (World.grownBy_alloc _ _ _)⟩
      · have := (Box.new 26 (w.alloc (.cells #[.int .i64 n, v] 26)) (.int .i64 0) (.slice none 0 0)).kept (World.grownBy_alloc _ (.cells #[.int .i64 n, .slice none 0 0] 26) none)
        rw [World.size_alloc] at this
        exact ⟨by show w.heap.size + 1 ≠ w.heap.size + 1 + 1; omega, this⟩
    · have := Box.new 26 ((w.alloc (.cells #[.int .i64 n, v] 26)).alloc (.cells #[.int .i64 0, .slice none 0 0] 26)) (.int .i64 n) (.slice none 0 0)
      rw [World.size_alloc, World.size_alloc] at this
      exact this
  obtain ⟨a, cap, rfl, ha⟩ := hv
  have HA := hide ha
  clear ha
  go_enter Tryd.func61, Tryd.ntmps61
  go_wp2
  go_loopw [6] (fun i wr => ∃ k : Nat, k ≤ LL.length ∧ i = .int .i64 k ∧ Hid (MidF w wr (w.heap.size + 1 + 1) n (fixL x (LL.take k)) [(w.heap.size, .int .i64 n, .slice a LL.length cap), (w.heap.size + 1, .int .i64 0, .slice none 0 0)])) (fun i _ => LL.length - (intOf i).toNat)
  case atStart => exact ⟨0, Nat.zero_le _, rfl, st⟩
  case round =>
    obtain ⟨k, hk, rfl, hm⟩ := hrel
    have bf := (unhide hm).box w.heap.size (.int .i64 n) (.slice a LL.length cap) (by simp)
    have f0 := bf.c0
    have f1 := bf.c1
    clear st bf
    by_cases hlt : k < LL.length
    · rcases unhide HA with h | ⟨b, off, rfl, hb, hcb⟩
      · rw [h] at hlt
        simp at hlt
      · obtain ⟨u, hu, hs⟩ := hcb k hlt
        have hg := (unhide hm).grown
        have c1 : wr.cell? ⟨b, off + k, none⟩ = some u := hg.cell hu (fun e => by cases e)
        have hs1 := hs.kept hg (.inl rfl)
        have hi' : (k : Int) < (LL.length : Int) := by omega
        have h1 := fixL_keep x LL k hlt
        have h2 := fixL_drop x LL k hlt
        have hL := Nat.le_trans (css.tot_in LL k) hn
        have hM : (fixL x (LL.take k)).length ≤ 1048576 := Nat.le_trans (fixL_len _ _) (by rw [List.length_take]; omega)
        generalize LL.getD k [] = L at *
        have cx := cls.specClauseHas u L x wr hL hs1
        cases hb' : hasB L x
        · rw [hb'] at cx
          have CX := hide cx
          have H := hide (h1 hb')
          have CW := hide (fun w1 (g : wr.grownBy w1 none) => specWo u L x _ w1 (wrap_neg hx.2) hL (hs1.kept g (.inl rfl)))
          have HC := hide hu
          clear cx h1 h2 hb' hcb HA hs hs1 hu hg
          obtain ⟨q0, q1, q2, oa, ocap, q3, q4⟩ := unhide hm
          have o1 := q3.c1
          have of1 := q3.f 1
          generalize fixL x (LL.take k) = M at *
          have Q0 := hide q0
          have Q1 := hide q1
          have Q2 := hide q2
          have Q3 := hide q3
          have Q4 := hide q4
          clear hm q0 q1 q2 q3 q4
          go_wp2_with fail
          refine (unhide CX).mono ?_; rintro e w1 ⟨rfl, hw⟩
          have hw' := hw.symm
          clear hw
          subst hw'
          go_wp2_with fail
          have C2 := hide (unhide CW _ (cf.grown_drew wr none))
          clear CW CX
          go_region_law
            (first
              | (go_simp; go_at_call 119; refine (unhide C2).mono ?_; rintro e w2 ⟨u2, rfl, o2, g2⟩; obtain ⟨ua, uc, rfl, _⟩ := (sl.Own.of o2).sl; have G2 := hide (grown_trans (r := none) (cf.grown_drew wr none) g2); have U2 := hide (sl.Own.of o2); have k1 := ((unhide Q3).kept (unhide G2)).c1; have k2 := ((unhide Q3).kept (unhide G2)).f 1; have k9 := (((unhide Q3).kept (unhide G2)).kept (World.grownBy_alloc w2 (.cells #[.slice ua (woL L (-x)).length uc] 31) none)).c1; clear o2 g2)
              | (refine gr.stepR ((unhide Q4).kept (unhide G2)) (unhide U2) (unhide Q1).size (unhide G2).size hM (by rfl) _ _ (by rfl) (by rfl) (by rfl) ?_; intro g3 cap3 w3 h3 g3'; have R3 := hide (gr.MidF.step (unhide Q0) (unhide Q1) (unhide Q2) (unhide Q3) (unhide Q4) (unhide G2) h3 g3'); have k3 := (unhide R3).1.1; have k4 := (unhide R3).1.2.1; clear h3 g3'))
          all_goals
            go_wp2_with fail
            go_roundw
            case rel => exact ⟨k + 1, by omega, by go_num, by rw [unhide H]; exact (unhide R3).2⟩
            case measure => simp [intOf]; omega
        · rw [hb'] at cx
          have CX := hide cx
          have H := hide (h2 hb')
          clear cx h1 h2 hb' hcb HA hs hs1 hu hg
          go_wp2_with fail
          refine (unhide CX).mono ?_; rintro e w1 ⟨rfl, hw⟩
          have hw' := hw.symm
          clear hw
          subst hw'
          go_wp2_with fail
          go_roundw
          case rel => exact ⟨k + 1, by omega, by go_num, by rw [unhide H]; exact hm⟩
          case measure => simp [intOf]; omega
    · have hi' : ¬ (k : Int) < (LL.length : Int) := by omega
      have e : LL.take k = LL := List.take_of_length_le (by omega)
      rw [e] at hm
      have br := (unhide hm).box (w.heap.size + 1) (.int .i64 0) (.slice none 0 0) (by simp)
      obtain ⟨q0, q1, q2, oa, ocap, q3, q4⟩ := unhide hm
      have r0 := br.c0
      have r1 := br.c1
      have rf0 := br.f 0
      have rf1 := br.f 1
      have o0 := q3.c0
      have o1 := q3.c1
      have BR := hide br
      have Q1 := hide q1
      have Q4 := hide q4
      clear HA hm e q0 q1 q2 q3 q4 br
      go_wp2
      have bb := ((unhide BR).set0 (.int .i64 n)).set1 (.slice oa (fixL x LL).length ocap)
      have b1 := (unhide BR).set0 (.int .i64 n)
      (try simp only [Exit.inBlock, Exit.then])
      refine bodyPost_ret (cf.ret_box rfl rfl bb) rfl ⟨_, rfl, ?_, ?_⟩
      · rw [cf.size_set, cf.size_set]
        exact gr.ownS_set (gr.ownS_set (unhide Q4) (unhide BR)) b1
      · exact cf.grown_set (cf.grown_set (unhide Q1) (by omega)) (by omega)
end Go.Proofs.YtibpnocpafppaaaDoor.fx
