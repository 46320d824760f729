/- Whatever the bytes that a formula and a clause are drawn from, the law FnImplies returns true: impl.Implies answers as spec.Implies, just when the formula cannot be true with the clause's opposites, and a formula implies what it has; no condition. -/
import Derived.Test.YtmbmkbkghblcmaaRows
import Derived.Test.YtmbmkbkghblcmaaNi
import Derived.Test.YtmbmkbkghblcmaaMi
import Derived.Test.YtmbmkbkghblcmaaDi
import Derived.Test.YtmbmkbkghblcmaaJo
import Derived.WalkKit
import Derived.ProofKit
import Derived.OpenShut
import Derived.ShutString
import Derived.ChangeOld
import Derived.Below
namespace Go.Proofs.Ytmbmkbkghblcmaa.fnImplies
open Go.ChangeShapes Go.WideShapes Go.ChangeAt Go.RowKit
open Go.ChangeMaps (open_string shut_string)
set_option linter.unusedVariables false

theorem own : ownKnob Try.prog.godebug = none := by kernel_rfl
theorem laidOut : laidOutB Try.prog = true := by kernel_rfl

/-- what the walk is told of a slice of integers that came in -/
def IsRow (k : IntKind) (w : World) (a : Option Addr) (len cap : Nat) (zs : List Int) : Prop :=
  (a = none ∧ len = 0 ∧ cap = 0 ∧ zs = []) ∨
  ∃ x, a = some x ∧ len ≤ cap ∧ cap ≤ maxLen ∧ zs.length = cap ∧ (∀ i, i < zs.length → w.cell? (x.add i) = some (.int k (zs.getD i 0))) ∧ ∀ n ∈ zs, (Lit.int k n).wf = true

/-! ### the walk -/
set_option maxRecDepth 100000 in
set_option maxHeartbeats 8000000 in
theorem walk (a0 : Option Addr) (len0 cap0 : Nat) (z0 : List Int) (w : World) (w0 : IsRow .u8 w a0 len0 cap0 z0) :
    Calls Try.prog 4 #[.slice a0 len0 cap0] w fun e w' => e = .returned (.bool true) ∧ Below w.heap.size w w' := by
  have hB := draw.of_rowB w0
  have hm : len0 ≤ 9223372036854775807 := by
    rcases w0 with ⟨_, h, _, _⟩ | ⟨_, _, h1, h2, _⟩
    · omega
    · unfold maxLen at h2
      omega
  clear w0
  by_cases hbig : 1048576 < len0
  · have C := sl.hide (draw.big a0 len0 cap0 w hm)
    rw [decide_eq_true hbig] at C
    go_enter Try.func4, Try.ntmps4
    go_wp2_with fail
    refine (sl.unhide C).mono ?_; rintro e w' ⟨rfl, rfl⟩
    go_wp2_with fail
    go_ret
    exact ⟨rfl, Below.refl _ _⟩
  have C := sl.hide (draw.big a0 len0 cap0 w hm)
  rw [decide_eq_false hbig] at C
  have HB := sl.hide hB
  have hlen : len0 ≤ 1048576 := by omega
  clear hB hbig
  go_enter Try.func4, Try.ntmps4
  go_wp2_with fail
  refine (sl.unhide C).mono ?_; rintro e w' ⟨rfl, hw⟩; have hw' := hw.symm; clear hw; subst hw'
  clear C hm
  go_wp2_with fail
  refine (df.drawImplies a0 len0 cap0 _ hlen (sl.unhide HB)).mono ?_; rintro e w1 ⟨n, v, u, L, LL, rfl, hL49, ⟨mid, ou1, o1, hmid⟩, bd, g1⟩
  obtain ⟨va, vc, rfl⟩ := o1.len
  obtain ⟨ca, cc, rfl⟩ : ∃ ca cc, u = .slice ca L.length cc := by
    obtain ⟨xa, xc, e, _⟩ := ou1.sl
    exact ⟨xa, xc, e⟩
  have ht0 : css.tot LL ≤ 6050 := df.tot_bd bd (Nat.le_refl _)
  have ht : css.tot LL ≤ 1048576 := by omega
  have hL : L.length ≤ 1048576 := by omega
  have gA := World.grownBy_alloc w1 (.cells #[.int .i64 n, .slice va LL.length vc] 26) none
  have F1 := sl.hide (cf.Box.new 26 w1 (.int .i64 n) (.slice va LL.length vc))
  have G1 := sl.hide (sl.grown_trans (r := none) g1 gA)
  have O1 := sl.hide (o1.kept gA)
  have U1 := sl.hide (ou1.kept gA)
  have hn25 : -1 ≤ n ∧ n ≤ 25 := bd.1
  have ci := fun w2 (g : (w1.alloc (.cells #[.int .i64 n, .slice va LL.length vc] 26)).grownBy w2 none) => cw.implImplies (.slice va LL.length vc) (.slice ca L.length cc) n LL L w2 ht hL ((sl.unhide O1).kept g).sls ((sl.unhide U1).kept g).sl
  have cs := fun w2 (g : (w1.alloc (.cells #[.int .i64 n, .slice va LL.length vc] 26)).grownBy w2 none) => ct.specImplies (.slice va LL.length vc) (.slice ca L.length cc) n LL L w2 ht hL ((sl.unhide O1).kept g).sls ((sl.unhide U1).kept g).sl
  have cok := fun w2 (g : (w1.alloc (.cells #[.int .i64 n, .slice va LL.length vc] 26)).grownBy w2 none) => ok.specCnfOk (.slice va LL.length vc) n LL w2 ht ((sl.unhide O1).kept g).sls
  have cco := fun w2 (g : (w1.alloc (.cells #[.int .i64 n, .slice va LL.length vc] 26)).grownBy w2 none) => cls.specClauseOk (.slice ca L.length cc) L w2 hL ((sl.unhide U1).kept g).sl
  have CK := sl.hide (fun (w2 : World) (g : (w1.alloc (.cells #[.int .i64 n, .slice va LL.length vc] 26)).grownBy w2 none) => And.intro ((sl.unhide F1).kept g).c0 ((sl.unhide F1).kept g).c1)
  have z0 := (sl.unhide F1).c0
  have z1 := (sl.unhide F1).c1
  have hs1 := g1.size
  clear g1 o1 ou1 gA bd
  generalize hBv : ct.impB n LL L = B at ci cs
  have CI := sl.hide ci
  have CS := sl.hide cs
  have HBv := sl.hide hBv
  clear ci cs hBv
  obtain ⟨W1, hW1⟩ : ∃ W1, W1 = w1.alloc (.cells #[.int .i64 n, .slice va LL.length vc] 26) := ⟨_, rfl⟩
  rw [← hW1] at F1 G1 O1 U1 CI CS cok cco CK z0 z1
  go_wp2_with fail
  rw [← hW1]
  refine (sl.unhide CI W1 (sl.grown_refl _)).mono ?_; rintro e w2 ⟨rfl, g2⟩
  clear hW1 z0 z1
  have G2 := sl.hide g2
  obtain ⟨z0, z1⟩ := sl.unhide CK w2 g2
  clear g2 CI
  go_wp2_with fail
  refine (sl.unhide CS w2 (sl.unhide G2)).mono ?_; rintro e w3 ⟨rfl, g3⟩
  have G3 := sl.hide (sl.grown_trans (r := none) (sl.unhide G2) g3)
  clear g3 CS z0 z1 G2
  obtain ⟨z0, z1⟩ := sl.unhide CK w3 (sl.unhide G3)
  cases hcb : ok.cnfB n LL
  · rw [hcb] at cok
    have COK := sl.hide (cok w3 (sl.unhide G3))
    clear cok cco hcb
    go_wp2_with (go_at_call 20; refine (sl.unhide COK).mono ?_; rintro e w4 ⟨rfl, g4⟩; have G4 := sl.hide (sl.grown_trans (r := none) (sl.unhide G3) g4); clear g4)
    go_ret
    exact ⟨rfl, sl.below_of (sl.grown_trans (r := none) (sl.unhide G1) (sl.unhide G4))⟩
  rw [hcb] at cok
  have COK := sl.hide (cok w3 (sl.unhide G3))
  have hp := mi.cnfB_parts hcb
  obtain ⟨m, rfl⟩ := Int.eq_ofNat_of_zero_le hp.1.1
  by_cases h12 : m ≤ 12
  · have h12' : ¬ (12 : Int) < (m : Int) := by omega
    cases hok : cls.okAll L
    · rw [hok] at cco
      have CCO := sl.hide cco
      clear cok cco hcb hok
      go_wp2_with (first | (go_at_call 20; refine (sl.unhide COK).mono ?_; rintro e w4 ⟨rfl, g4⟩; have G4 := sl.hide (sl.grown_trans (r := none) (sl.unhide G3) g4); obtain ⟨y0, y1⟩ := sl.unhide CK w4 (sl.unhide G4); clear g4) | (go_at_call 21; refine (sl.unhide CCO w4 (sl.unhide G4)).mono ?_; rintro e w5 ⟨rfl, hw⟩; have hw' := hw.symm; clear hw; subst hw'))
      go_ret
      exact ⟨rfl, sl.below_of (sl.grown_trans (r := none) (sl.unhide G1) (sl.unhide G4))⟩
    · rw [hok] at cco
      have CCO := sl.hide cco
      have hall : L.all lits.okB = true ∧ L.length ≤ 48 := by
        unfold cls.okAll at hok
        rw [Bool.and_eq_true, decide_eq_true_iff] at hok
        exact hok
      have HALL := sl.hide hall.1
      have hL48 := hall.2
      have HCB := sl.hide hcb
      clear cok cco hcb hok hall
      go_wp2_with (first | (go_at_call 20; refine (sl.unhide COK).mono ?_; rintro e w4 ⟨rfl, g4⟩; have G4 := sl.hide (sl.grown_trans (r := none) (sl.unhide G3) g4); obtain ⟨y0, y1⟩ := sl.unhide CK w4 (sl.unhide G4); clear g4) | (go_at_call 21; refine (sl.unhide CCO w4 (sl.unhide G4)).mono ?_; rintro e w5 ⟨rfl, hw⟩; have hw' := hw.symm; clear hw; subst hw'))
      clear y0 y1 COK CCO z0 z1 G3
      go_loopw [6] (fun i wr => ∃ k : Nat, k ≤ L.length ∧ i = .int .i64 k ∧ Hid (∀ j, j < k → -(m : Int) ≤ L.getD j 0 ∧ L.getD j 0 ≤ (m : Int)) ∧ Hid (W1.grownBy wr none)) (fun i _ => L.length - (intOf i).toNat)
      case atStart => exact ⟨0, Nat.zero_le _, rfl, (fun j h => by omega), G4⟩
      case round =>
        obtain ⟨k, hk, rfl, hrg, hg⟩ := hrel
        clear G4
        by_cases hlt : k < L.length
        · have hi' : (k : Int) < (L.length : Int) := by omega
          obtain ⟨a', cap', ea, ha⟩ := ((sl.unhide U1).kept (sl.unhide hg)).sl
          simp only [Value.slice.injEq, true_and] at ea
          obtain ⟨rfl, rfl⟩ := ea
          rcases ha with h | ⟨b, off, rfl, hb, hcb⟩
          · rw [h] at hlt
            simp at hlt
          · have c1 := hcb k hlt
            obtain ⟨y0, y1⟩ := sl.unhide CK wr (sl.unhide hg)
            have hxb := lits.okB_iff.1 (List.all_eq_true.1 (sl.unhide HALL) (L.getD k 0) (by rw [show L.getD k 0 = L[k] by simp [hlt]]; exact List.getElem_mem hlt))
            have far : ¬ (-(m : Int) ≤ L.getD k 0 ∧ L.getD k 0 ≤ (m : Int)) → B = false := fun h => by
              rw [← sl.unhide HBv]
              unfold ct.impB
              have : ok.clB (m : Int) L = false := by
                cases hc : ok.clB (m : Int) L
                · rfl
                · have := List.all_eq_true.1 (cw.clB_all hc) (L.getD k 0) (by rw [show L.getD k 0 = L[k] by simp [hlt]]; exact List.getElem_mem hlt)
                  unfold ok.litIn at this
                  rw [Bool.and_eq_true, decide_eq_true_iff, lits.varI_yes hxb] at this
                  have h2 := this.2
                  split at h2 <;> omega
              rw [this]
              simp
            have near : (-(m : Int) ≤ L.getD k 0 ∧ L.getD k 0 ≤ (m : Int)) → ∀ j, j < k + 1 → -(m : Int) ≤ L.getD j 0 ∧ L.getD j 0 ≤ (m : Int) := fun h j hj => by
              by_cases e : j = k
              · subst e
                exact h
              · exact sl.unhide hrg j (by omega)
            generalize L.getD k 0 = x at *
            have hwm : IntKind.i64.wrap (-(m : Int)) = -(m : Int) := by rw [IntKind.wrap_i64]; omega
            have G5 := sl.hide (sl.unhide hg)
            clear hcb hb hrg
            by_cases hx1 : (m : Int) < x
            · have hB := far (by omega)
              clear far near
              subst hB
              go_wp2_with fail
              go_quiet (fail)
              go_wp2_with fail
              go_ret
              exact ⟨rfl, sl.below_of (sl.grown_trans (r := none) (sl.unhide G1) (sl.grown_trans (r := none) (sl.unhide G5) (sl.grown_drewN _ _)))⟩
            · by_cases hx2 : x < -(m : Int)
              · have hB := far (by omega)
                clear far near
                subst hB
                go_wp2_with fail
                go_quiet (fail)
                go_wp2_with fail
                go_ret
                exact ⟨rfl, sl.below_of (sl.grown_trans (r := none) (sl.unhide G1) (sl.grown_trans (r := none) (sl.unhide G5) (sl.grown_drewN _ _)))⟩
              · have NE := sl.hide (near (by omega))
                clear far near hg
                go_wp2_with fail
                go_quiet (fail)
                go_wp2_with fail
                go_roundw
                case rel => exact ⟨k + 1, by omega, by go_num, NE, sl.grown_trans (sl.unhide G5) (sl.grown_drewN _ _)⟩
                case measure => simp [intOf]; omega
        · have hi' : ¬ (k : Int) < (L.length : Int) := by omega
          have hcl : ok.clB (m : Int) L = true := by
            unfold ok.clB
            rw [decide_eq_true hL48, Bool.and_true, List.all_eq_true]
            intro x hx
            obtain ⟨j, hj, ej⟩ := List.getElem_of_mem hx
            have r := sl.unhide hrg j (by omega)
            rw [show L.getD j 0 = L[j] by simp [hj], ej] at r
            have ho := List.all_eq_true.1 (sl.unhide HALL) x hx
            unfold ok.litIn
            rw [ho, decide_eq_true]
            · rfl
            · rw [lits.varI_yes (lits.okB_iff.1 ho)]
              split <;> omega
          have HCL := sl.hide hcl
          obtain ⟨y0, y1⟩ := sl.unhide CK wr (sl.unhide hg)
          have G5 := sl.hide (sl.unhide hg)
          have hF5 : w1.heap.size < wr.heap.size := ((sl.unhide F1).kept (sl.unhide hg)).lt
          have gA := World.grownBy_alloc wr (.cells #[.int .i64 (m : Int), .slice va LL.length vc] 26) none
          have gB := World.grownBy_alloc (wr.alloc (.cells #[.int .i64 (m : Int), .slice va LL.length vc] 26)) (.cells #[] 32) none
          have OB := sl.hide ((((sl.unhide O1).kept (sl.unhide hg)).kept gA).kept gB)
          have nr := ni.nil_row (wr.alloc (.cells #[.int .i64 (m : Int), .slice va LL.length vc] 26))
          rw [World.size_alloc] at nr
          have NR := sl.hide (css.own_mono nr (Nat.le_succ _))
          have hsB : wr.heap.size ≤ ((wr.alloc (.cells #[.int .i64 (m : Int), .slice va LL.length vc] 26)).alloc (.cells #[] 32)).heap.size := (sl.grown_trans (r := none) gA gB).size
          have HSB := sl.hide hsB
          have hLL : LL.length ≤ 1048576 := Nat.le_trans (css.tot_len LL) ht
          clear hcl hrg hg gA gB nr hsB
          go_wp2_with (at_builtin; refine ni.appendC (sl.unhide NR) (sl.unhide OB) (sl.unhide HSB) hLL rfl _ _ rfl rfl rfl ?_)
          intro v6 w6 l6 g6
          obtain ⟨a6, c6, rfl⟩ := l6.len
          obtain ⟨⟨s0, s1⟩, m6⟩ := ni.midL_start g6 l6
          have M6 := sl.hide m6
          clear l6 g6 m6 NR OB HSB
          go_wp2_with fail
          generalize hb7 : wr.heap.size = b7 at M6 ⊢
          clear hb7
          go_loopw [8] (fun i wq => ∃ k : Nat, k ≤ L.length ∧ i = .int .i64 k ∧ Hid (ni.MidL wr wq b7 (m : Int) (LL ++ mi.negs (L.take k)))) (fun i _ => L.length - (intOf i).toNat)
          case atStart => exact ⟨0, Nat.zero_le _, rfl, by rw [List.take_zero, show mi.negs [] = [] from rfl, List.append_nil]; exact M6⟩
          case round =>
            obtain ⟨k2, hk2, rfl, hm2⟩ := hrel
            clear M6 s0 s1
            have GQ := sl.hide (sl.grown_trans (r := none) (sl.unhide G5) (sl.unhide hm2).2.1)
            by_cases hlt2 : k2 < L.length
            · have hi2 : (k2 : Int) < (L.length : Int) := by omega
              obtain ⟨a', cap', ea, ha⟩ := ((sl.unhide U1).kept (sl.unhide GQ)).sl
              simp only [Value.slice.injEq, true_and] at ea
              obtain ⟨rfl, rfl⟩ := ea
              rcases ha with h | ⟨b, off, rfl, hb, hcb⟩
              · rw [h] at hlt2
                simp at hlt2
              · have c1 := hcb k2 hlt2
                have hxb := lits.okB_iff.1 (List.all_eq_true.1 (sl.unhide HALL) (L.getD k2 0) (by rw [show L.getD k2 0 = L[k2] by simp [hlt2]]; exact List.getElem_mem hlt2))
                have hst := mi.negs_step L k2 hlt2
                generalize L.getD k2 0 = x at *
                have HST : Hid (LL ++ mi.negs (L.take (k2 + 1)) = (LL ++ mi.negs (L.take k2)) ++ [[-x]]) := by
                  show _ = _
                  rw [hst, List.append_assoc]
                have hMl : (LL ++ mi.negs (L.take k2)).length ≤ 1048576 := by
                  rw [List.length_append, mi.negs_len, List.length_take]
                  have := hp.2.1
                  omega
                generalize LL ++ mi.negs (L.take k2) = M at *
                have hwx : IntKind.i64.wrap (-x) = -x := by rw [IntKind.wrap_i64]; omega
                obtain ⟨q0, q1, na, nc, nb, nl⟩ := sl.unhide hm2
                have gI := World.grownBy_alloc wr (.cells #[.int .i64 (-x)] 3) none
                have NL := sl.hide (nl.kept gI)
                have UI : Hid ((wr.alloc (.cells #[.int .i64 (-x)] 3)).ownsRow 0 3 1 (.slice (some ⟨wr.heap.size, 0, none⟩) 1 1) [-x].length (sl.ints [-x])) := css.own_mono (World.ownsRow_lit wr #[.int .i64 (-x)] 1 (Nat.le_refl _) (by decide) rfl) (Nat.zero_le _)
                have HS := sl.hide (fun (g' cap' : Nat) (w1 : World) h1 g1 => ni.MidL.step (u := .slice (some ⟨wr.heap.size, 0, none⟩) 1 1) (L := [-x]) (g := g') (cap' := cap') (w1 := w1) q0 q1 nb nl gI h1 g1)
                have hlo := Nat.le_trans q1.size gI.size
                have HLO := sl.hide hlo
                have n1 := nb.c1
                have nlt := nb.lt
                clear q0 q1 nl gI hlo hcb hb hst hm2
                go_upto_region 19 with fail
                go_region_law
                  (first
                    | (refine ni.stepLd (sl.unhide NL) (sl.unhide UI) (sl.unhide HLO) hMl (by rfl) _ _ (by rfl) (by rfl) (by rw [World.size_alloc]; rfl) ?_; intro g8 c8 w8 h8 g8'; have R8 := sl.hide (sl.unhide HS g8 c8 w8 h8 g8'); have r0 := (sl.unhide R8).1.1; have r1 := (sl.unhide R8).1.2; clear h8 g8')
                    | (refine ni.stepL (sl.unhide NL) (sl.unhide UI) (sl.unhide HLO) hMl (by rfl) _ _ (by rfl) (by rfl) (by rw [World.size_alloc]; rfl) ?_; intro g8 c8 w8 h8 g8'; have R8 := sl.hide (sl.unhide HS g8 c8 w8 h8 g8'); have r0 := (sl.unhide R8).1.1; have r1 := (sl.unhide R8).1.2; clear h8 g8'))
                all_goals
                  go_wp2_with fail
                  go_roundw
                  case rel => exact ⟨k2 + 1, by omega, by go_num, by rw [sl.unhide HST]; exact (sl.unhide R8).2⟩
                  case measure => simp [intOf]; omega
            · have hi2 : ¬ (k2 : Int) < (L.length : Int) := by omega
              have e : L.take k2 = L := List.take_of_length_le (by omega)
              rw [e] at hm2
              have hNl : (LL ++ mi.negs L).length = LL.length + L.length := by rw [List.length_append, mi.negs_len]
              have htN : css.tot (LL ++ mi.negs L) ≤ 1048576 := by rw [ni.tot_app, mi.negs_tot]; omega
              have imp := mi.imp_count (L := L) (show m ≤ 14 by omega) (sl.unhide HCB) (sl.unhide HCL)
              rw [sl.unhide HBv] at imp
              have jc := mi.join_count (L := L) (show m ≤ 14 by omega) (sl.unhide HCB) (sl.unhide HCL)
              rw [sl.unhide HBv] at jc
              have JC := sl.hide jc
              have IMP := sl.hide imp
              obtain ⟨q0, q1, na, nc, nb, nl⟩ := sl.unhide hm2
              have NB := sl.hide nb
              have NL := sl.hide nl
              have GW := sl.hide (sl.grown_trans (r := none) (sl.unhide G1) (sl.unhide GQ))
              have FQ := sl.hide ((sl.unhide F1).kept (sl.unhide GQ))
              have OQ := sl.hide ((sl.unhide O1).kept (sl.unhide GQ))
              have UQ := sl.hide ((sl.unhide U1).kept (sl.unhide GQ))
              generalize LL ++ mi.negs L = NN at *
              have n1 := nb.c1
              have HNL := sl.hide hNl
              clear e imp jc hm2 nb nl q0 q1 G1 G5 GQ CK F1 O1 U1 y0 y1 HB hNl
              by_cases h120 : NN.length ≤ 120
              · have h120' : ¬ (120 : Int) < (NN.length : Int) := by omega
                obtain ⟨_, eB⟩ := sl.unhide IMP (by have := sl.unhide HNL; omega)
                have EB := sl.hide eB
                have f0 := (sl.unhide FQ).c0
                have f1 := (sl.unhide FQ).c1
                have gI := World.grownBy_alloc wr (.cells #[.slice ca L.length cc] 32) none
                have htL0 : css.tot [L] ≤ 100 := by unfold css.tot; simp; omega
                have htL : css.tot [L] ≤ 1048576 := by omega
                have cj := jn.implCnfJoin (.slice va LL.length vc) (.slice (some ⟨wr.heap.size, 0, none⟩) 1 1) (m : Int) (m : Int) LL [L] w.heap.size mid 0 (wr.heap.size + 1) _ ht htL ((sl.unhide OQ).kept gI) (ni.one_ownS (sl.unhide UQ))
                have hcl1 : ok.cnfB (m : Int) [L] = true := mi.cnfB_mk ⟨hp.1, by simp, by rw [List.all_cons, sl.unhide HCL]; rfl⟩
                have GI := sl.hide gI
                clear eB gI IMP
                by_cases hj : LL.length + 1 ≤ 120
                · have hjb : jn.joinB (m : Int) LL (m : Int) [L] = true := by
                    unfold jn.joinB
                    rw [sl.unhide HCB, hcl1, decide_eq_true (show LL.length + [L].length ≤ 120 from hj)]
                    rfl
                  have hjn : jn.joinN (m : Int) LL (m : Int) [L] = (m : Int) := by
                    unfold jn.joinN
                    rw [hjb, if_pos rfl, if_neg (by omega)]
                  have hjr : jn.joinR (m : Int) LL (m : Int) [L] = LL ++ [L] := by
                    unfold jn.joinR
                    rw [hjb]
                    rfl
                  rw [hjb, hjn, hjr] at cj
                  obtain ⟨ej1, ej2⟩ := sl.unhide JC hj
                  have htJ : css.tot (LL ++ [L]) ≤ 1048576 := by rw [ni.tot_app]; omega
                  clear hjr
                  generalize LL ++ [L] = J at *
                  have CJ := sl.hide cj
                  have EJ1 := sl.hide ej1
                  have EJ2 := sl.hide ej2
                  clear cj hjb hjn hcl1 ej1 ej2 JC
                  go_wp2_with fail
                  refine (sl.unhide CJ).mono ?_; rintro e w7 ⟨u7, rfl, o7, g7⟩
                  obtain ⟨ja, jc, rfl⟩ := o7.len
                  have gA := World.grownBy_alloc w7 (.cells #[.int .i64 (m : Int), .slice ja J.length jc] 26) none
                  have gB := sl.grown_trans (r := none) (sl.grown_trans (r := none) (sl.unhide GI) g7) gA
                  have N7 := sl.hide ((sl.unhide NB).kept gB)
                  have NL7 := sl.hide ((sl.unhide NL).kept gB)
                  have F7 := sl.hide ((sl.unhide FQ).kept gB)
                  have O7 := sl.hide ((sl.unhide OQ).kept gB)
                  have U7 := sl.hide ((sl.unhide UQ).kept gB)
                  have GW7 := sl.hide (sl.grown_trans (r := none) (sl.unhide GW) gB)
                  have J7 := sl.hide (cf.Box.new 26 w7 (.int .i64 (m : Int)) (.slice ja J.length jc))
                  have Q7 := sl.hide (o7.kept gA)
                  have CN := sl.hide (cu.implCountTrue (.slice na NN.length nc) (m : Int) NN _ htN (sl.unhide NL7).sls)
                  have n0 := (sl.unhide N7).c0
                  have n1 := (sl.unhide N7).c1
                  clear o7 g7 gA gB CJ NB NL FQ OQ UQ GW GI f0 f1
                  have hcz := (sl.unhide EB).symm
                  generalize ct.countI (m : Int) NN = c0 at *
                  go_wp2_with fail
                  refine (sl.unhide CN).mono ?_; rintro e w8 ⟨rfl, g8⟩
                  clear n0 n1 CN
                  have F8 := sl.hide ((sl.unhide F7).kept g8)
                  have O8 := sl.hide ((sl.unhide O7).kept g8)
                  have U8 := sl.hide ((sl.unhide U7).kept g8)
                  have J8 := sl.hide ((sl.unhide J7).kept g8)
                  have Q8 := sl.hide ((sl.unhide Q7).kept g8)
                  have GW8 := sl.hide (sl.grown_trans (r := none) (sl.unhide GW7) g8)
                  have cA1 := fun w1' (g : w8.grownBy w1' none) => cu.implCountTrue (.slice ja J.length jc) (m : Int) J w1' htJ (((sl.unhide Q8).kept g).sls)
                  have cB1 := fun w1' (g : w8.grownBy w1' none) => cu.implCountTrue (.slice va LL.length vc) (m : Int) LL w1' ht (((sl.unhide O8).kept g).sls)
                  have cD1 := fun w1' (g : w8.grownBy w1' none) => cw.implImplies (.slice ja J.length jc) (.slice ca L.length cc) (m : Int) J L w1' htJ hL (((sl.unhide Q8).kept g).sls) (((sl.unhide U8).kept g).sl)
                  rw [sl.unhide EJ2] at cD1
                  have hj1 := sl.unhide EJ1
                  generalize ct.countI (m : Int) J = cgN at *
                  generalize ct.countI (m : Int) LL = cfN at *
                  have CA := sl.hide cA1
                  have CB := sl.hide cB1
                  have CD := sl.hide cD1
                  have CK8 := sl.hide (fun (w1' : World) (g : w8.grownBy w1' none) => And.intro ((sl.unhide F8).kept g).c0 (And.intro ((sl.unhide F8).kept g).c1 (And.intro ((sl.unhide J8).kept g).c0 ((sl.unhide J8).kept g).c1)))
                  have GX := sl.hide (cf.grown_drew w8 none)
                  obtain ⟨k1, k2_, k3, k4⟩ := sl.unhide CK8 w8 (sl.grown_refl _)
                  have GZ := sl.hide (fun (w1' : World) (g : w8.grownBy w1' none) => sl.below_of (sl.grown_trans (r := none) (sl.unhide GW8) g))
                  clear cA1 cB1 cD1 g8 F7 O7 U7 J7 Q7 GW7 F8 O8 U8 J8 Q8 GW8 NL7 N7 EJ1 EJ2
                  go_upto_region 25 with fail
                  go_region_held3 (fun w' => w'.cell? ⟨w1.heap.size, 0, none⟩ = some (.int .i64 (m : Int)) ∧ w'.cell? ⟨w1.heap.size, 1, none⟩ = some (.slice va LL.length vc) ∧ w'.cell? ⟨w7.heap.size, 0, none⟩ = some (.int .i64 (m : Int)) ∧ w'.cell? ⟨w7.heap.size, 1, none⟩ = some (.slice ja J.length jc)) (go_keep) (first
                    | (go_at_call_of 16 (Value.agg #[Value.int IntKind.i64 (m : Int), Value.slice ja J.length jc]); refine (sl.unhide CA _ (sl.unhide GX)).mono ?_; rintro e w9 ⟨rfl, g9⟩; replace GX := sl.hide (sl.grown_trans (r := none) (sl.unhide GX) g9); obtain ⟨k1, k2_, k3, k4⟩ := sl.unhide CK8 _ (sl.unhide GX); clear g9)
                    | (go_at_call_of 16 (Value.agg #[Value.int IntKind.i64 (m : Int), Value.slice va LL.length vc]); refine (sl.unhide CB _ (sl.unhide GX)).mono ?_; rintro e w9 ⟨rfl, g9⟩; replace GX := sl.hide (sl.grown_trans (r := none) (sl.unhide GX) g9); obtain ⟨k1, k2_, k3, k4⟩ := sl.unhide CK8 _ (sl.unhide GX); clear g9)
                    | (go_at_call 18; refine (sl.unhide CD _ (sl.unhide GX)).mono ?_; rintro e w9 ⟨rfl, g9⟩; replace GX := sl.hide (sl.grown_trans (r := none) (sl.unhide GX) g9); obtain ⟨k1, k2_, k3, k4⟩ := sl.unhide CK8 _ (sl.unhide GX); clear g9))
                  all_goals
                    go_wp2_with fail
                    go_ret
                    exact ⟨by simp, sl.unhide GZ _ (sl.unhide GX)⟩
                · have hjb : jn.joinB (m : Int) LL (m : Int) [L] = false := by
                    unfold jn.joinB
                    rw [decide_eq_false (show ¬ LL.length + [L].length ≤ 120 from hj), Bool.and_false]
                  obtain ⟨R0, hR0⟩ : ∃ R0 : List (List Int), R0 = [] := ⟨_, rfl⟩
                  have hjn : jn.joinN (m : Int) LL (m : Int) [L] = 0 := by
                    unfold jn.joinN
                    rw [hjb]
                    rfl
                  have hjr : jn.joinR (m : Int) LL (m : Int) [L] = R0 := by
                    rw [hR0]
                    unfold jn.joinR
                    rw [hjb]
                    rfl
                  rw [hjb, hjn, hjr] at cj
                  have CJ := sl.hide cj
                  clear cj hjb hjn hjr hcl1 JC hR0
                  go_wp2_with fail
                  refine (sl.unhide CJ).mono ?_; rintro e w7 ⟨u7, rfl, o7, g7⟩
                  obtain ⟨ja, jc, rfl⟩ := o7.len
                  have gA := World.grownBy_alloc w7 (.cells #[.int .i64 0, .slice ja R0.length jc] 26) none
                  have gB := sl.grown_trans (r := none) (sl.grown_trans (r := none) (sl.unhide GI) g7) gA
                  have N7 := sl.hide ((sl.unhide NB).kept gB)
                  have NL7 := sl.hide ((sl.unhide NL).kept gB)
                  have F7 := sl.hide ((sl.unhide FQ).kept gB)
                  have O7 := sl.hide ((sl.unhide OQ).kept gB)
                  have U7 := sl.hide ((sl.unhide UQ).kept gB)
                  have GW7 := sl.hide (sl.grown_trans (r := none) (sl.unhide GW) gB)
                  have J7 := sl.hide (cf.Box.new 26 w7 (.int .i64 0) (.slice ja R0.length jc))
                  have Q7 := sl.hide (o7.kept gA)
                  have CN := sl.hide (cu.implCountTrue (.slice na NN.length nc) (m : Int) NN _ htN (sl.unhide NL7).sls)
                  have n0 := (sl.unhide N7).c0
                  have n1 := (sl.unhide N7).c1
                  clear o7 g7 gA gB CJ NB NL FQ OQ UQ GW GI f0 f1
                  have hcz := (sl.unhide EB).symm
                  generalize ct.countI (m : Int) NN = c0 at *
                  go_wp2_with fail
                  refine (sl.unhide CN).mono ?_; rintro e w8 ⟨rfl, g8⟩
                  clear n0 n1 CN
                  have GW8 := sl.hide (sl.grown_trans (r := none) (sl.unhide GW7) g8)
                  clear g8 F7 O7 U7 J7 Q7 GW7 NL7 N7
                  go_wp2_with fail
                  go_quiet (fail)
                  go_wp2_with fail
                  go_ret
                  exact ⟨rfl, sl.below_of (sl.grown_trans (r := none) (sl.unhide GW8) (sl.grown_drewN _ _))⟩
              · have h120' : (120 : Int) < (NN.length : Int) := by omega
                go_wp2_with fail
                go_ret
                exact ⟨rfl, sl.below_of (sl.unhide GW)⟩
  · have h12' : (12 : Int) < (m : Int) := by omega
    clear cok cco hcb
    go_wp2_with (go_at_call 20; refine (sl.unhide COK).mono ?_; rintro e w4 ⟨rfl, g4⟩; have G4 := sl.hide (sl.grown_trans (r := none) (sl.unhide G3) g4); obtain ⟨y0, y1⟩ := sl.unhide CK w4 (sl.unhide G4); clear g4)
    go_ret
    exact ⟨rfl, sl.below_of (sl.grown_trans (r := none) (sl.unhide G1) (sl.unhide G4))⟩

/-! ### the row's step (the guide's own frame) -/
set_option maxRecDepth 100000 in
theorem lifted (os : Os) (started : os.Started) (H : Type) (enc : TypeId × Value → H) :
    ReturnsInHanded {} Try.checked os 4 .any (Rows.fnImpliesSpec.pre6 enc Try.prog Try.f4 Rows.fnImpliesRow.domain false) (Rows.fnImpliesSpec.post enc Try.prog Try.f4 false true false false) := by
  refine returnsInHanded_of_change (C := Try.checked) own started (by kernel_rfl) Try.func4
    (ChangeSpec.witness6 (enc := enc) (C := Try.checked) false ⟨#[], #[.slice none 0 0], []⟩ 8 (by kernel_rfl) (by kernel_rfl) (by kernel_rfl) (by kernel_rfl)) ?_
  intro W base args ds gs before hval0 hW hcnd _
  have hval : ∀ (j : Nat) t v, Try.f4.params[j]? = some t → args[j]? = some v → Value.okWide Try.prog W .any base t v := hval0
  have hW' := hW
  obtain ⟨p, q, hA0, hV, rfl, hfz, hnd⟩ := hW
  have hA : DataW.TrodAll enc Try.prog W 0 (fun _ => true) true Try.f4.params.toList args.toList ds p := hA0
  rw [Try.params4] at hA hval
  obtain ⟨v0, vs0, d0, ds0, p0, q0, hargs, rfl, rfl, h0, r0⟩ := trodAll_cons hA
  obtain ⟨rfl, rfl, rfl⟩ := trodAll_nil r0
  obtain rfl : args = #[v0] := by cases args; simp_all
  obtain ⟨rfl, rfl⟩ := trodVars_none hV
  obtain ⟨a0, len0, cap0, rfl⟩ := okWide_slice Try.underlying22 (hval 0 22 v0 rfl rfl)
  have k0 := h0
  have lt0 : ∀ x ∈ p0, x.block < W.heap.size := by obtain ⟨m, hm⟩ := k0; exact DataW.trod_lt m _ _ _ hm
  obtain ⟨z0, w0⟩ : ∃ zs, IsRow .u8 W a0 len0 cap0 zs := by
    obtain ⟨fuel, hf⟩ := h0
    rcases open_ints Try.underlying22 Try.underlying5 (by kernel_rfl) hf with ⟨hcs, _⟩ | ⟨x, l, c, zs, hcs, _, hl, hm, hz, _, hcell, hwz⟩
    · simp [Value.cells] at hcs
      obtain ⟨rfl, rfl, rfl⟩ := hcs
      exact ⟨[], .inl ⟨rfl, rfl, rfl, rfl⟩⟩
    · simp [Value.cells] at hcs
      obtain ⟨rfl, rfl, rfl⟩ := hcs
      exact ⟨zs, .inr ⟨_, rfl, hl, hm, by simpa using hz, hcell, hwz⟩⟩
  clear hA0 hval0
  refine (walk a0 len0 cap0 z0 W w0).mono fun e W' ⟨he, bel⟩ => ?_
  subst he
  exact ⟨_, rfl, _, _, _, [], _, [], hW', trodAll_mk1 (shut_bool Try.underlying4 _), (trodAll_cons_mk (Below.trod laidOut (by kernel_rfl) (of_decide_eq_true (by kernel_rfl)) k0 bel lt0) trodAll_mk0), rfl, bel.frame _, fun h => by cases h⟩

theorem over : Rows.fnImpliesRow.holds Try.pinned (OpenSpec.ofChange Rows.fnImpliesSpec) :=
  OpenClaim.holds_of_wide 4 Try.f4 rfl rfl rfl rfl rfl rfl rfl ⟨rfl, rfl, rfl, rfl, rfl⟩ rfl rfl rfl rfl rfl (by kernel_rfl) Try.func4 (by kernel_rfl)
    (of_decide_eq_true (by kernel_rfl)) (by unfold Func.isWrapper; first | (rw [if_pos (by decide +kernel)]; kernel_rfl) | (rw [if_neg (by decide +kernel)]; exact ⟨rfl, rfl⟩))
    (fun os started H enc _ => lifted os started H enc)

/-- the statement -/
theorem proved : Rows.FnImpliesSaid := over
#print axioms proved
end Go.Proofs.Ytmbmkbkghblcmaa.fnImplies
