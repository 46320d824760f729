/- Subsume of the model: what it answers at every formula that holds at most 2^20 values; both sides together. -/
import Derived.Test.YtoiflcpfopkkjaaDoorGn
namespace Go.Proofs.YtoiflcpfopkkjaaDoor.gm
open Go.ChangeShapes Go.WideShapes Go.ChangeAt Go.RowKit
open Go.Proofs.YtoiflcpfopkkjaaDoor.sl (Sl Own ints marks hide unhide ret_int ret_bool grown_refl grown_trans grown_drewN below_of of_below)
open Go.Proofs.YtoiflcpfopkkjaaDoor.css (Sls OwnS Outs tot sumLen marksS own_mono infoSl)
open Go.Proofs.YtoiflcpfopkkjaaDoor.cf (Box)
open Go.Proofs.YtoiflcpfopkkjaaDoor.ok (cnfB)
open Go.Proofs.YtoiflcpfopkkjaaDoor.bset (setOf placeN subB)
open Go.Proofs.YtoiflcpfopkkjaaDoor.srt (srt litI okTo Tab)
open Go.Proofs.YtoiflcpfopkkjaaDoor.cs (cnfS good)
open Go.Proofs.YtoiflcpfopkkjaaDoor.cso (srtN srtR srtB)
open Go.Proofs.YtoiflcpfopkkjaaDoor.gb (Rd Kpt flt KeptE)
open Go.Proofs.YtoiflcpfopkkjaaDoor.gj (KeptO kpt_own rd_own len_in out_end)
open Go.Proofs.YtoiflcpfopkkjaaDoor.ge (outN outR OutE ini_all out_no out_yes OwnD)
set_option linter.unusedVariables false

theorem stepGd {ops : Array Oper} {o : Oper} {a : Act} {K : Act → World → Prop} {Q : Exit → Act → World → Prop} {E : Prop} {lo : Nat} {wr : World} {v : Value} {D : List (Value × List Int)} {p : Value × List Int}
    (hw : wr.ownsRow lo 37 1 v D.length (D.map (·.1))) (hu : p.1.oneCell' = true) (hlo : lo ≤ wr.heap.size) (hM : D.length ≤ 1048576) (hgd : o.guard = none) (s x : Operand)
    (ho : o.op = .call { callee := .builtin .append, args := #[s, x], argTypes := #[22, 22] }) (hs : a.eval s = v) (hx : a.eval x = .slice (some ⟨wr.heap.size, 0, none⟩) 1 1)
    (hK : ∀ g cap w1, w1.ownsRow lo 37 1 (.slice (some ⟨g, 0, none⟩) (D.length + 1) cap) (D.length + 1) (D.map (·.1) ++ [p.1]) → (wr.alloc (.cells #[p.1] 37)).grownBy w1 v.ownBlock → K (a.put o.dst (.slice (some ⟨g, 0, none⟩) (D.length + 1) cap)) w1) :
    if Region.wanted o (yielded ops a.tmps) = true then Oper.wp Tryd.prog o a (wr.alloc (.cells #[p.1] 37)).drew K Q else E := by
  have gd := cf.grown_drew wr none
  have r := stepG (ops := ops) (o := o) (a := a) (K := K) (Q := Q) (E := E) (wr := wr.drew) (p := p) (row_kept hw gd) hu hlo hM hgd s x ho hs hx (fun g cap w1 h1 g1 => hK g cap w1 h1 (sl.grown_trans' (cf.grown_drew (wr.alloc (.cells #[p.1] 37)) v.ownBlock) g1))
  exact r
theorem tot_filter (B : List Int → Bool) (LL : List (List Int)) : tot (LL.filter B) ≤ tot LL := by
  unfold css.tot
  have h1 := List.length_filter_le B LL
  have h2 : ((LL.filter B).map List.length).sum ≤ (LL.map List.length).sum := by
    clear h1
    induction LL with
    | nil => exact Nat.le_refl _
    | cons C LL ih =>
      rw [List.filter_cons]
      split
      · simp only [List.map_cons, List.sum_cons]; omega
      · simp only [List.map_cons, List.sum_cons]; omega
  omega
/-- one of lists of one's own: where it lies -/
theorem ownD_at {lo hi : Nat} {w : World} {a : Option Addr} {cap : Nat} {D : List (Value × List Int)} (h : OwnD lo hi w (.slice a D.length cap) D) (k : Nat) (hk : k < D.length) : ∃ b, a = some ⟨b, 0, none⟩ ∧ ∀ i (hi : i < D.length), w.cell? ⟨b, i, none⟩ = some D[i].1 ∧ ∃ ua uc, D[i].1 = .slice ua D[i].2.length uc ∧ Sl w D[i].1 D[i].2 := by
  obtain ⟨h1, h2, h3, h4⟩ := h
  have h1' := h1
  obtain ⟨_, h5⟩ := h1
  rcases h5 with ⟨_, h0⟩ | ⟨b, cap', cur, e, _⟩
  · omega
  · cases e
    refine ⟨b, rfl, fun i hi => ⟨?_, ?_⟩⟩
    · rw [h1'.cellAt i (by omega)]
      simp [hi]
    · have s := (h3 _ (List.getElem_mem hi)).sl
      obtain ⟨ua, uc, e, _⟩ := s
      exact ⟨ua, uc, e, (h3 _ (List.getElem_mem hi)).sl⟩
theorem ownD_kept {lo hi : Nat} {w w' : World} {v : Value} {D : List (Value × List Int)} (h : OwnD lo hi w v D) (g : w.grownBy w' none) : OwnD lo hi w' v D :=
  ⟨row_kept h.1 g, h.2.1, fun p hp => (h.2.2.1 p hp).kept g, h.2.2.2⟩
def keepF (R : List (List Int)) (p : Value × List Int) : Bool := !subsB R p.2
theorem keep_yes {R : List (List Int)} {D : List (Value × List Int)} {k : Nat} (h : k < D.length) (e : subsB R D[k].2 = false) : (D.take (k + 1)).filter (keepF R) = (D.take k).filter (keepF R) ++ [D[k]] := by
  rw [List.take_succ_eq_append_getElem h, List.filter_append]
  simp [keepF, e]
theorem keep_no {R : List (List Int)} {D : List (Value × List Int)} {k : Nat} (h : k < D.length) (e : subsB R D[k].2 = true) : (D.take (k + 1)).filter (keepF R) = (D.take k).filter (keepF R) := by
  rw [List.take_succ_eq_append_getElem h, List.filter_append]
  simp [keepF, e]
theorem keep_len (R : List (List Int)) (D : List (Value × List Int)) (k : Nat) : ((D.take k).filter (keepF R)).length ≤ k := by
  have := List.length_filter_le (keepF R) (D.take k)
  rw [List.length_take] at this
  omega
theorem midG_new {W : World} {n : Int} {Bs : List (Nat × Value × Value)} (hB : ∀ b ∈ Bs, Box 26 W b.1 b.2.1 b.2.2) : MidG W (W.alloc (.cells #[.int .i64 n, .slice none 0 0] 26)) W.heap.size n [] Bs := by
  have gA := World.grownBy_alloc W (.cells #[.int .i64 n, .slice none 0 0] 26) none
  refine ⟨Nat.le_refl _, gA, fun b hb => ⟨?_, (hB b hb).kept gA⟩, none, 0, Box.new _ _ _ _, ⟨rfl, .inl ⟨rfl, rfl⟩⟩⟩
  have := (hB b hb).lt
  omega
/-- what comes out at the end -/
theorem midG_own {W wr : World} {c lo : Nat} {n : Int} {v : Value} {D : List (Value × List Int)} {B : Value × List Int → Bool} {a : Option Addr} {cap : Nat} (hD : OwnD lo W.heap.size W v D) (hlo : lo ≤ W.heap.size) (g : W.grownBy wr none) (ho : wr.ownsRow W.heap.size 37 1 (.slice a (D.filter B).length cap) (D.filter B).length ((D.filter B).map (·.1))) : OwnS lo wr.heap.size wr (.slice a (D.filter B).length cap) ((D.filter B).map (·.2)) := by
  have hs := g.size
  refine ⟨D.filter B, rfl, own_mono ho hlo, fun k e => (ho.lt k e).2, fun p hp => ?_, hD.2.2.2.sublist List.filter_sublist⟩
  have hp' := (List.mem_filter.1 hp).1
  exact ⟨((hD.2.2.1 p hp').kept g).1, fun k e => by have := (hD.2.2.1 p hp').2 k e; omega⟩
theorem keep_map (R : List (List Int)) (D : List (Value × List Int)) : (D.filter (keepF R)).map (·.2) = (D.map (·.2)).filter (fun C => !subsB R C) := gb.flt_map (fun C => !subsB R C) D

set_option maxRecDepth 10000 in
set_option maxHeartbeats 8000000 in
theorem specSubsume (v : Value) (n : Int) (LL : List (List Int)) (w : World) (hn : tot LL ≤ 1048576) (hv : Sls w v LL) :
    Calls Tryd.prog 8 #[.agg #[.int .i64 n, v]] w fun e w' => OutE (cnfB n LL) n (sumL (cnfS LL)) w e w' := by
  have hv0 := hv
  obtain ⟨a, cap, rfl, _⟩ := hv
  obtain ⟨g0, b0, b1⟩ := ini_all w (.int .i64 n) (.slice a LL.length cap)
  have C := hide (cso.specCnfSort _ n LL _ hn (hv0.kept g0))
  have ht : tot (srtR n LL) ≤ 1048576 := Nat.le_trans (cso.srt_tot n LL) (by decide)
  have G0 := hide g0
  have B1 := hide b1
  clear hv0 g0 b0 b1
  go_enter Tryd.func8, Tryd.ntmps8
  go_wp2_with fail
  refine (unhide C).mono ?_; rintro e w1 ⟨q, rfl, o1, g1⟩
  obtain ⟨qa, qc, rfl⟩ := o1.len
  have G1 := hide (grown_trans (r := none) (unhide G0) g1)
  have bx1 := (unhide B1).kept g1
  have gs := (unhide G0).size
  have o1' := o1.sub gs (Nat.le_refl _)
  cases hb : cnfB n LL
  · obtain ⟨s1, s2, s3⟩ := cso.srt_no hb
    have E := hide hb
    rw [s3]
    generalize hN : srtN n LL = N at *
    generalize hR : srtR n LL = R at *
    have gA := World.grownBy_alloc w1 (.cells #[.int .i64 N, .slice qa R.length qc] 26) none
    have X1 := hide (bx1.kept gA)
    have GA := hide (grown_trans (r := none) (unhide G1) gA)
    have y0 := (bx1.kept gA).c0
    have y1 := (bx1.kept gA).c1
    have y2 := (bx1.kept gA).f 0
    have y3 := (bx1.kept gA).f 1
    clear hb C g1 bx1 B1 G0 o1 o1' s1 s2 s3 hN hR gA G1 gs
    go_wp2_with fail
    (try simp only [Exit.inBlock, Exit.then])
    exact out_no (unhide E) (unhide X1) (unhide GA) rfl rfl rfl rfl
  · obtain ⟨s1, s2, s3⟩ := cso.srt_yes hb
    have E := hide hb
    rw [s1, s2, s3]
    rw [s2] at o1' ht
    have KE := hide (fun i h => kp_end LL i h)
    generalize hR : cnfS LL = R at *
    have gA := World.grownBy_alloc w1 (.cells #[.int .i64 n, .slice qa R.length qc] 26) none
    have GA := hide (grown_trans (r := none) (unhide G1) gA)
    have bg := Box.new 26 w1 (.int .i64 n) (.slice qa R.length qc)
    have z0 := bg.c0
    have z1 := bg.c1
    have rl := bx1.lt
    have SZ := hide (show w1.heap.size + 1 = (w1.alloc (.cells #[.int .i64 n, .slice qa R.length qc] 26)).heap.size from (World.size_alloc ..).symm)
    obtain ⟨D, hD2, hD⟩ := OwnD.of ((o1'.kept gA).sub (Nat.le_refl _) gA.size)
    have ST := hide (midG_new (W := w1.alloc (.cells #[.int .i64 n, .slice qa R.length qc] 26)) (n := n) (Bs := [(w.heap.size + 1, .int .i64 0, .slice none 0 0), (w1.heap.size, .int .i64 n, .slice qa R.length qc)]) (by
      intro b hb'
      simp only [List.mem_cons, List.not_mem_nil, or_false] at hb'
      rcases hb' with rfl | rfl
      · exact bx1.kept gA
      · exact bg))
    have HR := hide hR
    have lW := hide ((unhide GA).size)
    clear hb C g1 bx1 B1 G0 o1 o1' s1 s2 s3 hR gA G1 gs bg rl
    have hDl : R.length = D.length := by rw [← hD2, List.length_map]
    have hDk : Hid (∀ i (h : i < D.length), R.getD i [] = D[i].2) := fun i h => by rw [← hD2]; exact css.map2_getD h
    have HD2 := hide hD2
    have hlen := Nat.le_trans (css.tot_len R) ht
    have hin := hide (fun i => Nat.le_trans (css.tot_in R i) ht)
    clear hD2 ht
    rw [hDl] at hD hlen z0 z1 ST KE SZ lW GA ⊢
    have HDl := hide hDl
    clear hDl
    go_wp2_with fail
    generalize hW : w1.alloc (.cells #[.int .i64 n, .slice qa D.length qc] 26) = W at *
    generalize w1.heap.size = gc at *
    have hcO : W.heap.size = gc + 1 := (unhide SZ).symm
    rw [hcO] at ST
    generalize hW2 : W.alloc (.cells #[.int .i64 n, .slice none 0 0] 26) = W2 at *
    have HD := hide hD
    clear hW hW2 hD hcO z0 z1 SZ
    go_loopw [7] (fun i wr => ∃ k : Nat, k ≤ D.length ∧ i = .int .i64 k ∧ Hid (MidG W wr (gc + 1) n ((D.take k).filter (keepF R)) [(w.heap.size + 1, .int .i64 0, .slice none 0 0), (gc, .int .i64 n, .slice qa D.length qc)])) (fun i _ => D.length - (intOf i).toNat)
    case atStart => exact ⟨0, Nat.zero_le _, rfl, ST⟩
    case round =>
      obtain ⟨k, hk, rfl, hm⟩ := hrel
      clear ST
      have bg := (unhide hm).box gc (.int .i64 n) (.slice qa D.length qc) (by simp)
      have x0 := bg.c0
      have x1 := bg.c1
      by_cases hlt : k < D.length
      · have hi' : (k : Int) < (D.length : Int) := by omega
        have hDl' := unhide KE k hlt
        rw [unhide hDk k hlt] at hDl'
        have KD := hide hDl'
        have hY := hide (keep_yes (R := R) hlt)
        have hN := hide (keep_no (R := R) hlt)
        have hM : ((D.take k).filter (keepF R)).length ≤ 1048576 := Nat.le_trans (keep_len ..) (by omega)
        have KS := hide (fun j => kp_step R k j)
        generalize (D.take k).filter (keepF R) = M at *
        clear hDl' x0 x1 bg
        have bg := (unhide hm).box gc (.int .i64 n) (.slice qa D.length qc) (by simp)
        have x0 := bg.c0
        have x1 := bg.c1
        clear bg
        go_wp2_with fail
        go_loopw [8, 9] (fun q i wx => ∃ j : Nat, j ≤ D.length ∧ i = .int .i64 j ∧ q = .bool (kpB R k j) ∧ Hid (MidG W wx (gc + 1) n M [(w.heap.size + 1, .int .i64 0, .slice none 0 0), (gc, .int .i64 n, .slice qa D.length qc)])) (fun _ i _ => D.length - (intOf i).toNat)
        case atStart => exact ⟨0, Nat.zero_le _, rfl, rfl, hm⟩
        case round =>
          obtain ⟨j, hj, rfl, rfl, hmj⟩ := hrel
          clear x0 x1 hm
          have bg := (unhide hmj).box gc (.int .i64 n) (.slice qa D.length qc) (by simp)
          have x0 := bg.c0
          have x1 := bg.c1
          have gx := (unhide hmj).2.1
          clear bg
          by_cases hjl : j < D.length
          · have hj' : (j : Int) < (D.length : Int) := by omega
            obtain ⟨b, rfl, cc⟩ := ownD_at (ownD_kept (unhide HD) gx) k hlt
            obtain ⟨cj, ja, jc, ej, sj⟩ := cc j hjl
            obtain ⟨ck, ka, kc, ek, sk⟩ := cc k hlt
            have lj : D[j].2.length ≤ 1048576 := by rw [← unhide hDk j hjl]; exact unhide hin j
            have lk : D[k].2.length ≤ 1048576 := by rw [← unhide hDk k hlt]; exact unhide hin k
            have st := unhide KS j
            rw [unhide hDk j hjl, unhide hDk k hlt] at st
            have CS := hide (fun m => bset.specClauseSub D[j].1 D[k].1 D[j].2 D[k].2 (wr.drewN m) lj lk (sj.kept (grown_drewN wr m) (.inl rfl)) (sk.kept (grown_drewN wr m) (.inl rfl)))
            rw [ej] at cj CS
            rw [ek] at ck CS
            generalize D[j].2 = Lj at *
            generalize D[k].2 = Lk at *
            clear cc sj sk ej ek gx
            by_cases hjk : j = k
            · have q1 : ((j : Int) != (k : Int)) = false := by simp [hjk]
              rw [decide_eq_false (show ¬ j ≠ k from fun h => h hjk), Bool.false_and, Bool.not_false, Bool.and_true] at st
              have S := hide st
              have HM := hide (fun m => (unhide hmj).kept (grown_drewN wr m))
              clear st hjk CS hmj
              go_wp2_with fail
              go_quiet (fail)
              go_wp2_with fail
              go_roundw
              case rel => exact ⟨j + 1, by omega, by go_num, by rw [unhide S], unhide HM _⟩
              case measure => simp [intOf]; omega
            · have q1 : ((j : Int) != (k : Int)) = true := by simp; omega
              rw [decide_eq_true (show j ≠ k from hjk), Bool.true_and] at st
              have HM := hide (fun m => (unhide hmj).kept (grown_drewN wr m))
              cases hx : subB Lj Lk
              · rw [hx, Bool.not_false, Bool.and_true] at st
                rw [hx] at CS
                have S := hide st
                clear st hjk hmj hx
                go_wp2_with fail
                go_quiet (first | (go_at_call 22; exact Calls.quiet_of_same (unhide CS _)))
                go_wp2_with fail
                go_roundw
                case rel => exact ⟨j + 1, by omega, by go_num, by rw [unhide S], unhide HM _⟩
                case measure => simp [intOf]; omega
              · rw [hx, Bool.not_true, Bool.and_false] at st
                rw [hx] at CS
                have S := hide st
                clear st hjk hmj hx
                go_wp2_with fail
                go_quiet (first | (go_at_call 22; exact Calls.quiet_of_same (unhide CS _)))
                go_wp2_with fail
                go_roundw
                case rel => exact ⟨j + 1, by omega, by go_num, by rw [unhide S], unhide HM _⟩
                case measure => simp [intOf]; omega
          · have hj' : ¬ (j : Int) < (D.length : Int) := by omega
            have ej : j = D.length := by omega
            rw [ej, unhide KD]
            obtain ⟨b, rfl, cc⟩ := ownD_at (ownD_kept (unhide HD) gx) k hlt
            obtain ⟨ck, ka, kc, ek, sk⟩ := cc k hlt
            have hu1 : D[k].1.oneCell' = true := by rw [ek]; rfl
            have hYY := unhide hY
            have hNN := unhide hN
            clear gx cc sk hY hN KD KS ej
            cases hq : subsB R D[k].2
            · have HT := hide (hYY hq)
              clear hYY hNN hq
              generalize hp : D[k] = pp at *
              obtain ⟨p1, p2⟩ := pp
              simp only at ek hu1 ck
              subst ek
              obtain ⟨q0, q1, q2, oa, oc, q3, q4⟩ := unhide hmj
              have gB := World.grownBy_alloc wr (.cells #[.slice ka p2.length kc] 37) none
              have o1 := q3.c1
              have of1 := q3.f 1
              have o2 := (q3.kept gB).c1
              have x2 := ((unhide hmj).box gc (.int .i64 n) (.slice (some ⟨b, 0, none⟩) D.length qc) (by simp)).kept gB |>.c1
              have Q0 := hide q0
              have Q1 := hide q1
              have Q2 := hide q2
              have Q3 := hide q3
              have Q4 := hide q4
              have HU1 := hide hu1
              clear q0 q1 q2 q3 q4 hmj gB hu1 hp
              go_wp2_with fail
              go_region_law
                (first
                  | (refine stepGd (p := (Value.slice ka p2.length kc, p2)) (unhide Q4) (unhide HU1) (unhide Q1).size hM (by rfl) _ _ (by rfl) (by rfl) (by rfl) ?_; intro g3 cap3 w3 h3 g3'; have R3 := hide (MidG.step (unhide Q0) (unhide Q1) (unhide Q2) (unhide Q3) (unhide Q4) (grown_refl wr) h3 g3'); have k3 := (unhide R3).1.1; have k4 := (unhide R3).1.2; clear h3 g3'))
              all_goals
                go_wp2_with fail
                go_roundw
                case rel => exact ⟨k + 1, by omega, by go_num, by rw [unhide HT]; exact (unhide R3).2⟩
                case measure => simp [intOf]; omega
            · have HT := hide (hNN hq)
              clear hYY hNN hq
              go_wp2_with fail
              go_roundw
              case rel => exact ⟨k + 1, by omega, by go_num, by rw [unhide HT]; exact unhide hmj⟩
              case measure => simp [intOf]; omega
      · have hi' : ¬ (k : Int) < (D.length : Int) := by omega
        have e : D.take k = D := List.take_of_length_le (by omega)
        rw [e] at hm
        have br := (unhide hm).box (w.heap.size + 1) (.int .i64 0) (.slice none 0 0) (by simp)
        have hD9 := unhide HD
        have ow := fun a cap => midG_own (c := 0) (n := n) (B := keepF R) (a := a) (cap := cap) hD9 (unhide lW) (unhide hm).2.1
        have er := keep_map R D
        rw [unhide HD2] at er
        obtain ⟨q0, q1, q2, oa, oc, q3, q4⟩ := unhide hm
        have ow' := ow _ _ q4
        rw [er] at ow'
        have OW := hide ow'
        have r0 := br.c0
        have r1 := br.c1
        have rf0 := br.f 0
        have rf1 := br.f 1
        have o0 := q3.c0
        have o1 := q3.c1
        have BR := hide br
        have G9 := hide (grown_trans (r := none) (unhide GA) q1)
        generalize (D.filter (keepF R)).length = ml at *
        clear hm e q0 q1 q2 q3 q4 br ow ow' er hD9 bg
        go_wp2_with fail
        (try simp only [Exit.inBlock, Exit.then])
        have hr := unhide HR
        subst hr
        exact out_end (unhide E) (unhide BR) (unhide G9) (unhide OW) rfl rfl rfl rfl
theorem srt_tot2 (LL : List (List Int)) (n : Int) : tot (outR (cnfB n LL) (sumL (cnfS LL))) ≤ 1048576 := by
  cases h : cnfB n LL
  · show tot [] ≤ _
    decide
  · have := cso.srt_tot n LL
    rw [(cso.srt_yes h).2.1] at this
    exact Nat.le_trans (tot_filter _ _) (Nat.le_trans this (by decide))
theorem bothSubsume (n : Int) (LL : List (List Int)) (hn : tot LL ≤ 1048576) : ∃ (N : Int) (b : Bool) (R : List (List Int)), tot R ≤ 1048576 ∧
    (∀ v w, Sls w v LL → Calls Tryd.prog 8 #[.agg #[.int .i64 n, v]] w fun e w' => ∃ u, e = .returned (.tuple #[.agg #[.int .i64 N, u], .bool b]) ∧ OwnS w.heap.size w'.heap.size w' u R ∧ w.grownBy w' none) ∧
    (∀ v w, Tab w → Sls w v LL → Calls Tryd.prog 10 #[.agg #[.int .i64 n, v]] w fun e w' => ∃ u, e = .returned (.tuple #[.agg #[.int .i64 N, u], .bool b]) ∧ OwnS w.heap.size w'.heap.size w' u R ∧ w.grownBy w' none) :=
  ⟨outN (cnfB n LL) n, cnfB n LL, outR (cnfB n LL) (sumL (cnfS LL)), srt_tot2 LL n, fun v w hv => specSubsume v n LL w hn hv, fun v w hT hv => implSubsume v n LL w hT hn hv⟩
end Go.Proofs.YtoiflcpfopkkjaaDoor.gm
