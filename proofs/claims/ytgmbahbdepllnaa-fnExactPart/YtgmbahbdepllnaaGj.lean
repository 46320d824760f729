/- Part of the model: what it answers at every formula of the call's own that holds at most 2^20 values, and every list of at most 2^20 numbers. -/
import Derived.Test.YtgmbahbdepllnaaGi
import Derived.Test.YtgmbahbdepllnaaCls
namespace Go.Proofs.Ytgmbahbdepllnaa.gj
open Go.ChangeShapes Go.WideShapes Go.ChangeAt Go.RowKit
open Go.Proofs.Ytgmbahbdepllnaa.sl (Sl Own ints marks hide unhide ret_int ret_bool grown_refl grown_trans grown_drewN below_of of_below)
open Go.Proofs.Ytgmbahbdepllnaa.css (Sls OwnS Outs tot sumLen marksS)
open Go.Proofs.Ytgmbahbdepllnaa.cf (Box)
open Go.Proofs.Ytgmbahbdepllnaa.gr (MidF)
open Go.Proofs.Ytgmbahbdepllnaa.ok (cnfB)
open Go.Proofs.Ytgmbahbdepllnaa.lits (okB varI)
open Go.Proofs.Ytgmbahbdepllnaa.cls (hasB)
open Go.Proofs.Ytgmbahbdepllnaa.wo (Made)
open Go.Proofs.Ytgmbahbdepllnaa.app (stepI stepJ own_at made_nil)
open Go.Proofs.Ytgmbahbdepllnaa.ge (outN outR OutE ini_all out_no)
set_option linter.unusedVariables false
attribute [local go_sem ↓] Go.wp_at_zero Go.wp_at_succ

/-- whether all variables of a clause are in a list -/
def inB (V C : List Int) : Bool := C.all fun x => hasB V (varI x)
theorem in_step (V C : List Int) (j : Nat) (h : j < C.length) : inB V (C.take (j + 1)) = (inB V (C.take j) && hasB V (varI (C.getD j 0))) := by
  unfold inB
  rw [List.take_succ_eq_append_getElem h, List.all_append, show C.getD j 0 = C[j] by simp [h]]
  simp
theorem in_end (V C : List Int) (j : Nat) (h : ¬ j < C.length) : inB V (C.take j) = inB V C := by rw [List.take_of_length_le (by omega)]
theorem flt_yes {B : List Int → Bool} {LL : List (List Int)} {k : Nat} (h : k < LL.length) (e : B (LL.getD k []) = true) : (LL.take (k + 1)).filter B = (LL.take k).filter B ++ [LL.getD k []] := by
  rw [List.take_succ_eq_append_getElem h, List.filter_append]
  rw [show LL.getD k [] = LL[k] by simp [h]] at *
  simp [e]
theorem flt_no {B : List Int → Bool} {LL : List (List Int)} {k : Nat} (h : k < LL.length) (e : B (LL.getD k []) = false) : (LL.take (k + 1)).filter B = (LL.take k).filter B := by
  rw [List.take_succ_eq_append_getElem h, List.filter_append]
  rw [show LL.getD k [] = LL[k] by simp [h]] at *
  simp [e]
theorem flt_len (B : List Int → Bool) (LL : List (List Int)) (k : Nat) : ((LL.take k).filter B).length ≤ k := by
  have := List.length_filter_le B (LL.take k)
  rw [List.length_take] at this
  omega
/-- the third variable is new -/
theorem mid_new {w w1 : World} {n : Int} {x y : Value} (g : w.grownBy w1 none) (b0 : Box 26 w1 w.heap.size x y) (b1 : Box 26 w1 (w.heap.size + 1) (.int .i64 0) (.slice none 0 0)) :
    MidF w (w1.alloc (.cells #[.int .i64 n, .slice none 0 0] 26)) w1.heap.size n [] [(w.heap.size, x, y), (w.heap.size + 1, .int .i64 0, .slice none 0 0)] := by
  have gA := World.grownBy_alloc w1 (.cells #[.int .i64 n, .slice none 0 0] 26) none
  have l0 := b0.lt
  have l1 := b1.lt
  refine ⟨g.size, grown_trans g gA, ?_, none, 0, Box.new _ _ _ _, fx.ownS_nil _ _ _⟩
  intro b hb
  simp only [List.mem_cons, List.not_mem_nil, or_false] at hb
  rcases hb with rfl | rfl
  · exact ⟨by show w.heap.size ≠ w1.heap.size; omega, b0.kept gA⟩
  · exact ⟨by show w.heap.size + 1 ≠ w1.heap.size; omega, b1.kept gA⟩

theorem out_end {fn : Func} {p u : Tmp} {a : Act} {w w3 : World} {n : Int} {q : Value} {R : List (List Int)} {b : Bool} (hb : b = true) (br : Box 26 w3 (w.heap.size + 1) (.int .i64 0) (.slice none 0 0)) (g : w.grownBy w3 none) (o : OwnS w.heap.size w3.heap.size w3 q R)
    (hr : fn.results = #[.cell p 26, .tmp u]) (hp : a.tmps.getD p undef = .pointer (some ⟨w.heap.size + 1, 0, none⟩)) (hu : a.tmps.getD u undef = .bool true) (hd : a.defers = []) :
    bodyPost Try.prog fn (fun e w' => OutE b n R w e w') .ret a ((w3.setCell ⟨w.heap.size + 1, 0, none⟩ (.int .i64 n)).setCell ⟨w.heap.size + 1, 1, none⟩ q) := by
  subst hb
  have h := cf.ret_box2 (tmps := a.tmps) hr hp ((br.set0 (.int .i64 n)).set1 q)
  rw [hu] at h
  refine bodyPost_ret h hd ⟨_, rfl, ?_, cf.grown_set (cf.grown_set g (by omega)) (by omega)⟩
  rw [cf.size_set, cf.size_set]
  exact gr.ownS_set (gr.ownS_set o br) (br.set0 _)

set_option maxRecDepth 10000 in
set_option maxHeartbeats 4000000 in
theorem specPart (v u : Value) (n : Int) (LL : List (List Int)) (V : List Int) (lo hi : Nat) (w : World) (hn : tot LL ≤ 1048576) (hV : V.length ≤ 1048576) (hv : OwnS lo hi w v LL) (hhi : hi ≤ w.heap.size) (hu : Sl w u V) :
    Calls Try.prog 21 #[.agg #[.int .i64 n, v], u] w fun e w' => OutE (cnfB n LL) n (LL.filter (inB V)) w e w' := by
  have hl := Nat.le_trans (css.tot_len LL) hn
  obtain ⟨a, cap, rfl⟩ := hv.len
  obtain ⟨g0, b0, b1⟩ := ini_all w (.int .i64 n) (.slice a LL.length cap)
  have C := hide (ok.specCnfOk _ n LL _ hn (hv.kept g0).sls)
  have HV := hide hv
  have CH := hide (fun (w1 : World) (g : w.grownBy w1 none) (x : Int) => cls.specClauseHas u V x w1 hV (hu.kept g (.inl rfl)))
  obtain ⟨va, vc, rfl, _⟩ := hu
  have G0 := hide g0
  have B0 := hide b0
  have B1 := hide b1
  clear hv g0 b0 b1
  go_enter Try.func21, Try.ntmps21
  go_wp2_with fail
  refine (unhide C).mono ?_; rintro e w1 ⟨rfl, g1⟩
  have G1 := hide (grown_trans (r := none) (unhide G0) g1)
  have bx0 := (unhide B0).kept g1
  have bx1 := (unhide B1).kept g1
  have x0 := bx0.c0
  have x1 := bx0.c1
  have y0 := bx1.c0
  have y1 := bx1.c1
  have y2 := bx1.f 0
  have y3 := bx1.f 1
  have X1 := hide bx1
  have ST := hide (mid_new (n := n) (unhide G1) bx0 bx1)
  clear C g1 bx0 bx1 B0 B1 G0
  cases hb : cnfB n LL
  · have E := hide hb
    clear hb ST
    go_wp2_with fail
    (try simp only [Exit.inBlock, Exit.then])
    exact out_no (unhide E) (unhide X1) (unhide G1) rfl rfl rfl rfl
  · have E := hide hb
    clear hb X1
    go_wp2_with fail
    generalize w1.heap.size = c at *
    generalize hW1 : w1.alloc (.cells #[.int .i64 n, .slice none 0 0] 26) = W1 at *
    clear hW1 x0 x1 y0 y1 y2 y3
    go_loopw [7] (fun i wr => ∃ k : Nat, k ≤ LL.length ∧ i = .int .i64 k ∧ Hid (MidF w wr c n ((LL.take k).filter (inB V)) [(w.heap.size, .int .i64 n, .slice a LL.length cap), (w.heap.size + 1, .int .i64 0, .slice none 0 0)])) (fun i _ => LL.length - (intOf i).toNat)
    case atStart => exact ⟨0, Nat.zero_le _, rfl, ST⟩
    case round =>
      obtain ⟨k, hk, rfl, hm⟩ := hrel
      have bf := (unhide hm).box w.heap.size (.int .i64 n) (.slice a LL.length cap) (by simp)
      have f0 := bf.c0
      have f1 := bf.c1
      clear ST
      by_cases hlt : k < LL.length
      · have fa := (bf.kept (World.grownBy_alloc wr (.cells #[] 3) none)).c1
        obtain ⟨g, cap', u', e, hgl, c1, hu0⟩ := own_at ((unhide HV).kept (unhide hm).grown) k hlt
        simp only [Value.slice.injEq] at e
        obtain ⟨rfl, _, rfl⟩ := e
        have hi' : (k : Int) < (LL.length : Int) := by omega
        have hL := Nat.le_trans (css.tot_in LL k) hn
        have hY := hide (flt_yes (B := inB V) hlt)
        have hN := hide (flt_no (B := inB V) hlt)
        have hM : ((LL.take k).filter (inB V)).length ≤ 1048576 := Nat.le_trans (flt_len ..) (by omega)
        have CW := hide (unhide CH wr (unhide hm).grown)
        generalize LL.getD k [] = L at *
        have hm0 := unhide hm
        generalize (LL.take k).filter (inB V) = M at *
        obtain ⟨q0, q1, q2, oa, ocap, q3, q4⟩ := hm0
        obtain ⟨ua, uc, e1, hcell⟩ := hu0.sl
        subst e1
        have mn := made_nil wr
        have c2 := hide (mn.2.cell c1 (fun e => by cases e))
        have o1 := hide q3.c1
        have of1 := hide (q3.f 1)
        have o2 := hide (q3.kept mn.2).c1
        have U0 := hide ((hu0.kept mn.2).kept (cf.grown_drew _ none))
        have MN := hide (And.intro (mn.1.drew) (grown_trans (r := none) mn.2 (cf.grown_drew _ none)))
        have Q0 := hide q0
        have Q1 := hide q1
        have Q2 := hide q2
        have Q3 := hide q3
        have Q4 := hide q4
        have HC := hide hcell
        have FA := hide fa
        clear hu0 HV mn hm bf q0 q1 q2 q3 q4 hcell CH fa
        go_wp2_with fail
        go_loop [8, 9] (fun q i => ∃ j : Nat, j ≤ L.length ∧ i = .int .i64 j ∧ q = .bool (inB V (L.take j))) (fun _ i => L.length - (intOf i).toNat)
        case atStart => exact ⟨0, Nat.zero_le _, rfl, by simp [inB]⟩
        case round =>
          obtain ⟨j, hj, rfl, rfl⟩ := hrel
          by_cases hjl : j < L.length
          · rcases unhide HC with h | ⟨ub, uo, rfl, hub, huc⟩
            · rw [h] at hjl
              simp at hjl
            · have c3 := huc j hjl
              have hj' : (j : Int) < (L.length : Int) := by omega
              have s1 := in_step V L j hjl
              generalize L.getD j 0 = x at *
              have LV := hide (fun w1 => lits.specLitVar x w1)
              have CV := hide (unhide CW (varI x))
              generalize varI x = vx at *
              clear huc HC CW
              cases hq : inB V (L.take j)
              · rw [hq, Bool.false_and] at s1
                have S1 := hide s1
                clear s1 hq
                go_wp2_with fail
                go_round
                case rel => exact ⟨j + 1, by omega, by go_num, by rw [unhide S1]⟩
                case measure => simp [intOf]; omega
              · rw [hq, Bool.true_and] at s1
                have S1 := hide s1
                clear s1 hq
                go_wp2_with (first | (go_at_call 52; refine (unhide LV _).mono ?_; rintro e w' ⟨rfl, rfl⟩) | (go_at_call 51; refine (unhide CV).mono ?_; rintro e w' ⟨rfl, rfl⟩))
                go_round
                case rel => exact ⟨j + 1, by omega, by go_num, by rw [unhide S1]⟩
                case measure => simp [intOf]; omega
          · have hj' : ¬ (j : Int) < (L.length : Int) := by omega
            have e1 := in_end V L j hjl
            rw [e1]
            clear e1
            cases hq : inB V L
            · have HT := hide (unhide hN hq)
              clear hY hN hq HC CW
              go_wp2_with fail
              go_roundw
              case rel => exact ⟨k + 1, by omega, by go_num, by rw [unhide HT]; exact ⟨unhide Q0, unhide Q1, unhide Q2, oa, ocap, unhide Q3, unhide Q4⟩⟩
              case measure => simp [intOf]; omega
            · have HT := hide (unhide hY hq)
              have c2' := unhide c2
              have o1' := unhide o1
              have of1' := unhide of1
              have o2' := unhide o2
              have fa' := unhide FA
              clear hY hN hq HC CW c2 o1 of1 o2 FA
              go_wp2_with fail
              go_region_law
                (first
                  | (refine stepI (A := []) (unhide MN).2 (unhide MN).1 (unhide U0) (by show 0 + L.length ≤ 4194304; omega) (by rfl) _ _ (by rfl) (by rfl) (by rfl) ?_; intro y w1 m1 g1; have m1' : Made wr w1 y L := m1; obtain ⟨ya, yc, e3, _⟩ := sl.Sl.of_own m1'.1; subst e3; have Y1 := hide (Own.of m1'.1); have G1 := hide m1'.2; have k1 := ((unhide Q3).kept (unhide G1)).c1; have k2 := ((unhide Q3).kept (unhide G1)).f 1; have k9 := (((unhide Q3).kept (unhide G1)).kept (World.grownBy_alloc w1 (.cells #[.slice ya L.length yc] 33) none)).c1; clear m1 m1' g1)
                  | (refine gr.stepR ((unhide Q4).kept (unhide G1)) (unhide Y1) (unhide Q1).size (unhide G1).size hM (by rfl) _ _ (by rfl) (by rfl) (by rfl) ?_; intro g3 cap3 w3 h3 g3'; have R3 := hide (gr.MidF.step (unhide Q0) (unhide Q1) (unhide Q2) (unhide Q3) (unhide Q4) (unhide G1) h3 g3'); have k3 := (unhide R3).1.1; have k4 := (unhide R3).1.2.1; clear h3 g3'))
              all_goals
                go_wp2_with fail
                go_roundw
                case rel => exact ⟨k + 1, by omega, by go_num, by rw [unhide HT]; exact (unhide R3).2⟩
                case measure => simp [intOf]; omega
      · have hi' : ¬ (k : Int) < (LL.length : Int) := by omega
        have e : LL.take k = LL := List.take_of_length_le (by omega)
        rw [e] at hm
        have br := (unhide hm).box (w.heap.size + 1) (.int .i64 0) (.slice none 0 0) (by simp)
        generalize hRR : LL.filter (inB V) = RR at *
        have HRR := hide hRR
        clear hRR
        obtain ⟨q0, q1, q2, oa, ocap, q3, q4⟩ := unhide hm
        have r0 := br.c0
        have r1 := br.c1
        have rf0 := br.f 0
        have rf1 := br.f 1
        have o0 := q3.c0
        have o1 := q3.c1
        have BR := hide br
        have Q1 := hide q1
        have Q4 := hide q4
        clear HV hm e q0 q1 q2 q3 q4 br bf
        go_wp2_with fail
        (try simp only [Exit.inBlock, Exit.then])
        have hrr := unhide HRR
        subst hrr
        exact out_end (unhide E) (unhide BR) (unhide Q1) (unhide Q4) rfl rfl rfl rfl
end Go.Proofs.Ytgmbahbdepllnaa.gj
