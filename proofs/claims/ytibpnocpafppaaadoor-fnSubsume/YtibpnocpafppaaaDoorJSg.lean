/- Subsume of the program: what it answers at every formula that holds at most 2^20 values; and the mathematics of what is subsumed. -/
import Derived.Test.YtibpnocpafppaaaDoorJXGk
import Derived.Test.YtibpnocpafppaaaDoorJSq
import Derived.Test.YtibpnocpafppaaaDoorJSc
import Derived.Test.YtibpnocpafppaaaDoorJXTr
import Derived.Deep.RegionLaw
namespace Go.Proofs.YtibpnocpafppaaaDoor.gm
open Go.ChangeShapes Go.WideShapes Go.ChangeAt Go.RowKit
open sl (Sl Own ints hide unhide ret_int ret_bool grown_refl grown_trans grown_drewN below_of of_below)
open css (Sls OwnS Outs tot own_mono)
open cf (Box)
open ok (cnfB)
open lits (okB varI)
open cls (hasB)
open bset (setOf placeN subB)
open srt (srt litI okTo Tab)
open cs (cnfS good)
open le (lessL)
open cso (srtN srtR srtB)
open gb (Rd Kpt flt KeptE)
open gj (KeptO kpt_own rd_own len_in out_end)
open ge (outN outR OutE ini_all out_no OwnD)
set_option linter.unusedVariables false
def subsB (R : List (List Int)) (C : List Int) : Bool := R.any fun D => decide (D.length < C.length) && subB D C
def sumL (R : List (List Int)) : List (List Int) := R.filter fun C => !subsB R C
theorem subs_hit {R : List (List Int)} {C : List Int} {k : Nat} (h : k < R.length) (h1 : (R.getD k []).length < C.length) (h2 : subB (R.getD k []) C = true) : subsB R C = true := by
 unfold subsB
 rw [show R.getD k [] = R[k] by simp [h]] at *
 exact List.any_eq_true.2 ⟨R[k], List.getElem_mem h, by rw [decide_eq_true h1, h2]; rfl⟩
theorem subsumed (v u : Value) (C : List Int) (R : List (List Int)) (w : World) (hC : C.length ≤ 1048576) (hn : tot R ≤ 1048576) (hv : Sl w v C) (hu : Sls w u R) :
  Calls Tryd.prog 53 #[v, u] w fun e w' => e = .returned (.bool (subsB R C)) ∧ w' = w := by
 have hl := Nat.le_trans (css.tot_len R) hn
 have HV := hide hv
 obtain ⟨va, vc, rfl, _⟩ := hv
 obtain ⟨a, cap, rfl, ha⟩ := hu
 have HA := hide ha
 clear ha
 go_enter Tryd.func53, Tryd.ntmps53
 go_wp2
 go_loop [9] (fun i => ∃ k : Nat, k ≤ R.length ∧ i = .int .i64 k ∧ Hid (subsB (R.take k) C = false)) (fun i => R.length - (intOf i).toNat)
 case atStart => exact ⟨0, Nat.zero_le _, rfl, by show _ = _; simp [subsB]⟩
 case round =>
  obtain ⟨k, hk, rfl, hall⟩ := hrel
  by_cases hlt : k < R.length
  ·rcases unhide HA with h | ⟨b, off, rfl, hb, hcb⟩
   ·rw [h] at hlt
    simp at hlt
   ·obtain ⟨x, c1, hs⟩ := hcb k hlt
    have hi' : (k : Int) < (R.length : Int) := by omega
    have h1 := subs_hit (C := C) hlt
    have h2 : decide ((R.getD k []).length < C.length) = false ∨ subB (R.getD k []) C = false → subsB (R.take (k + 1)) C = false := by
     intro h
     have hh := unhide hall
     unfold subsB at hh ⊢
     rw [List.take_succ_eq_append_getElem hlt, List.any_append, hh]
     rw [show R.getD k [] = R[k] by simp [hlt]] at h
     rcases h with h | h <;> simp [h]
    have hL := Nat.le_trans (css.tot_in R k) hn
    generalize R.getD k [] = L at *
    have cx := bset.implClauseSub x _ L C w hL hC hs (unhide HV)
    obtain ⟨xa, xc, rfl, _⟩ := hs
    clear hcb HA hall HV
    by_cases hc : L.length < C.length
    ·have hcp : (L.length : Int) < (C.length : Int) := by omega
     cases hx : subB L C
     ·rw [hx] at cx
      have CX := hide cx
      have H := hide (h2 (.inr hx))
      clear h1 h2 hx cx hc
      go_wp2_with fail
      refine (unhide CX).mono ?_; rintro e w2 ⟨rfl, hw⟩; have hw' := hw.symm; clear hw; subst hw'
      go_wp2_with fail
      go_round
      case rel => exact ⟨k + 1, by omega, by go_num, H⟩
      case measure => simp [intOf]; omega
     ·rw [hx] at cx
      have CX := hide cx
      have H := hide (h1 hc hx)
      clear h1 h2 hx cx hc
      go_wp2_with fail
      refine (unhide CX).mono ?_; rintro e w2 ⟨rfl, hw⟩; have hw' := hw.symm; clear hw; subst hw'
      go_wp2_with fail
      go_ret
      exact ⟨ret_bool (unhide H).symm, rfl⟩
    ·have hcp : ¬ (L.length : Int) < (C.length : Int) := by omega
     have H := hide (h2 (.inl (decide_eq_false hc)))
     clear h1 h2 cx hc
     go_wp2_with fail
     go_round
     case rel => exact ⟨k + 1, by omega, by go_num, H⟩
     case measure => simp [intOf]; omega
  ·have hi' : ¬ (k : Int) < (R.length : Int) := by omega
   have e1 : R.take k = R := List.take_of_length_le (by omega)
   have HR := hide (show subsB R C = false by rw [← e1]; exact unhide hall)
   clear HA hall HV e1
   go_wp2_with fail
   go_ret
   exact ⟨ret_bool (unhide HR).symm, rfl⟩
theorem subsume1 (v u : Value) (C : List Int) (R : List (List Int)) (c : Nat) (n : Int) (w : World) (hC : C.length ≤ 1048576) (hn : tot R ≤ 1048576) (hv : Sl w v C) (hu : Sls w u R) (hb : Box 26 w c (.int .i64 n) u) :
  Calls Tryd.prog 52 #[v, .pointer (some ⟨c, 0, none⟩)] w fun e w' => e = .returned (.bool (!subsB R C)) ∧ w.grownBy w' none := by
 have CX := hide (subsumed v u C R w hC hn hv hu)
 obtain ⟨va, vc, rfl, _⟩ := hv
 obtain ⟨a, cap, rfl, _⟩ := hu
 have x1 := hb.c1
 clear hb
 go_enter Tryd.func52, Tryd.ntmps52
 go_wp2_with fail
 refine (unhide CX).mono ?_; rintro e w2 ⟨rfl, hw⟩; have hw' := hw.symm; clear hw; subst hw'
 go_wp2_with fail
 go_ret
 exact ⟨rfl, grown_refl _⟩
theorem keptSub (v : Value) (n : Int) (R : List (List Int)) (lo hi c : Nat) (w : World) (hn : tot R ≤ 1048576) (hlo : lo ≤ w.heap.size) (hhi : hi ≤ w.heap.size) (hv : OwnS lo hi w v R) (hb : Box 26 w c (.int .i64 n) v) :
  Calls Tryd.prog 51 #[v, .func (.func 52) #[] #[.pointer (some ⟨c, 0, none⟩)]] w fun e w' => KeptO lo (sumL R) w e w' := by
 obtain ⟨D, rfl, hD⟩ := OwnD.of hv
 have hl := Nat.le_trans (css.tot_len _) hn
 rw [List.length_map] at hl
 refine (gb.kept_subsume v _ D (fun C => !subsB (D.map (·.2)) C) w hl (rd_own hD) ?_).mono ?_
 ·intro p hp w1 g1
  exact subsume1 p.1 v p.2 _ c n w1 (len_in hn hp) hn ((hD.2.2.1 p hp).sl.kept g1 (.inl rfl)) (hv.kept g1).sls (hb.kept g1)
 ·rintro e w' ⟨u, rfl, hk⟩
  exact ⟨u, rfl, kpt_own hD hlo hhi hk, hk.2⟩
set_option maxRecDepth 10000 in
set_option maxHeartbeats 4000000 in
theorem implSubsume (v : Value) (n : Int) (LL : List (List Int)) (w : World) (hT : Tab w) (hn : tot LL ≤ 1048576) (hv : Sls w v LL) :
  Calls Tryd.prog 11 #[.agg #[.int .i64 n, v]] w fun e w' => OutE (cnfB n LL) n (sumL (cnfS LL)) w e w' := by
 have hv0 := hv
 obtain ⟨a, cap, rfl, _⟩ := hv
 obtain ⟨g0, b0, b1⟩ := ini_all w (.int .i64 n) (.slice a LL.length cap)
 have C := hide (cso.implCnfSort _ n LL _ (hT.kept g0) hn (hv0.kept g0))
 have ht : tot (srtR n LL) ≤ 1048576 := Nat.le_trans (cso.srt_tot n LL) (by decide)
 have G0 := hide g0
 have B1 := hide b1
 clear hT hv0 g0 b0 b1
 go_enter Tryd.func11, Tryd.ntmps11
 go_wp2_with fail
 refine (unhide C).mono ?_; rintro e w1 ⟨q, rfl, o1, g1⟩
 obtain ⟨qa, qc, rfl⟩ := o1.len
 have G1 := hide (grown_trans (r := none) (unhide G0) g1)
 have bx1 := (unhide B1).kept g1
 have gs := (unhide G0).size
 have o1' := o1.sub gs (Nat.le_refl _)
 cases hb : cnfB n LL
 ·obtain ⟨s1, s2, s3⟩ := cso.srt_no hb
  have E := hide hb
  rw [s3]
  generalize hN : srtN n LL = N at *
  generalize hR : srtR n LL = R at *
  have gA := World.grownBy_alloc w1 (.cells #[.int .i64 N, .slice qa R.length qc] 26) none
  have X1 := hide (bx1.kept gA)
  have GA := hide (grown_trans (r := none) (unhide G1) gA)
  have y0 := (bx1.kept gA).c0
  have y1 := (bx1.kept gA).c1
  have y2 := (bx1.kept gA).f 0
  have y3 := (bx1.kept gA).f 1
  clear hb C g1 bx1 B1 G0 o1 o1' s1 s2 s3 hN hR gA G1 gs
  go_wp2_with fail
  (try simp only [Exit.inBlock, Exit.then])
  exact out_no (unhide E) (unhide X1) (unhide GA) rfl rfl rfl rfl
 ·obtain ⟨s1, s2, s3⟩ := cso.srt_yes hb
  have E := hide hb
  rw [s1, s2, s3]
  rw [s2] at o1' ht
  generalize hR : cnfS LL = R at *
  have gA := World.grownBy_alloc w1 (.cells #[.int .i64 n, .slice qa R.length qc] 26) none
  have X1 := hide (bx1.kept gA)
  have GA := hide (grown_trans (r := none) (unhide G1) gA)
  have bg := Box.new 26 w1 (.int .i64 n) (.slice qa R.length qc)
  have z0 := bg.c0
  have z1 := bg.c1
  have hsA : w.heap.size ≤ (w1.alloc (.cells #[.int .i64 n, .slice qa R.length qc] 26)).heap.size := (unhide GA).size
  have KP := hide (keptSub _ n R w.heap.size w1.heap.size w1.heap.size _ ht hsA gA.size (o1'.kept gA) bg)
  have BG := hide bg
  have HR := hide hR
  clear hb C g1 bx1 B1 G0 o1 o1' s1 s2 s3 hR gA G1 gs bg
  go_wp2_with fail
  refine (unhide KP).mono ?_; rintro e w3 ⟨q, rfl, o3, g3⟩
  obtain ⟨pa, pc, rfl⟩ := o3.len
  have bg3 := (unhide BG).kept g3
  have b3 := (unhide X1).kept g3
  clear z0 z1
  have z0 := bg3.c0
  have z1 := bg3.c1
  have y0 := b3.c0
  have y1 := b3.c1
  have y2 := b3.f 0
  have y3 := b3.f 1
  have O3 := hide o3
  have B3 := hide b3
  have G3 := hide (grown_trans (r := none) (unhide GA) g3)
  clear o3 g3 bg3 b3 KP BG X1 GA hsA
  have hr := unhide HR
  subst hr
  generalize hRR : sumL (cnfS LL) = RR at *
  have HRR := hide hRR
  clear hRR
  go_wp2_with fail
  (try simp only [Exit.inBlock, Exit.then])
  have hrr := unhide HRR
  subst hrr
  exact out_end (unhide E) (unhide B3) (unhide G3) (unhide O3) rfl rfl rfl rfl
end Go.Proofs.YtibpnocpafppaaaDoor.gm
namespace Go.Proofs.YtibpnocpafppaaaDoor.ms
open lits (okB okB_iff placeI varI)
open bset (placeN placeN_le setOf setOf_lt setOf_bit setOf_has)
open cls (hasB)
open srt (srt litI okTo has_pos has_neg hi_bit)
open ok (cnfB clB litIn)
open tr (litT clT cnfT assignB trueB bitB)
open cs (good cnfS cnfS_mem cnfS_up cnfS_len same less_ord good_ok good_24 srt_ok)
open le (lessL)
set_option linter.unusedVariables false
theorem place_lit (p : Nat) (h : p < 48) : placeN (litI p) = p := by
 unfold bset.placeN lits.placeI srt.litI
 split <;> split <;> omega
theorem lit_place {x : Int} (h : okB x = true) : litI (placeN x) = x := by
 have := okB_iff.1 h
 unfold bset.placeN lits.placeI srt.litI
 split <;> split <;> omega
theorem srt_mem {S : Nat} {x : Int} : x ∈ srt S 48 ↔ okB x = true ∧ S.testBit (placeN x) = true := by
 constructor
 ·intro h
  refine ⟨srt_ok S 48 (Nat.le_refl _) x h, ?_⟩
  unfold srt.srt at h
  obtain ⟨p, hp, rfl⟩ := List.mem_map.1 h
  rw [List.mem_filter, List.mem_range] at hp
  rw [place_lit p hp.1]
  exact hp.2
 ·rintro ⟨h1, h2⟩
  unfold srt.srt
  refine List.mem_map.2 ⟨placeN x, ?_, lit_place h1⟩
  rw [List.mem_filter, List.mem_range]
  have := placeN_le h1
  exact ⟨by omega, h2⟩
theorem setOf_srt {S : Nat} (h : S < 2 ^ 48) : setOf (srt S 48) = S := by
 apply Nat.eq_of_testBit_eq
 intro j
 rw [setOf_bit]
 by_cases hj : j < 48
 ·rw [Bool.eq_iff_iff, List.any_eq_true]
  constructor
  ·rintro ⟨x, hx, e⟩
   rw [Bool.and_eq_true, decide_eq_true_iff] at e
   rw [← e.2]
   exact (srt_mem.1 hx).2
  ·intro hb
   have hp := place_lit j hj
   have hm : litI j ∈ srt S 48 := by
    unfold srt.srt
    exact List.mem_map.2 ⟨j, by rw [List.mem_filter, List.mem_range]; exact ⟨hj, hb⟩, rfl⟩
   exact ⟨litI j, hm, by rw [(srt_mem.1 hm).1, hp]; simp⟩
 ·rw [hi_bit h (by omega), List.any_eq_false]
  intro x hx
  have := placeN_le (srt_mem.1 hx).1
  simp
  intro _ e
  omega
theorem mem_set {c : List Int} (h : ∀ x ∈ c, okB x = true) {x : Int} : x ∈ srt (setOf c) 48 ↔ x ∈ c := by
 rw [srt_mem]
 constructor
 ·rintro ⟨h1, h2⟩
  rw [setOf_has c x h1] at h2
  exact of_decide_eq_true h2
 ·intro hx
  refine ⟨h x hx, ?_⟩
  rw [setOf_has c x (h x hx)]
  exact decide_eq_true hx
theorem clT_srt (A : List Int) {c : List Int} (h : ∀ x ∈ c, okB x = true) : clT A (srt (setOf c) 48) = clT A c := by
 unfold tr.clT
 rw [Bool.eq_iff_iff, List.any_eq_true, List.any_eq_true]
 constructor
 ·rintro ⟨x, hx, e⟩
  exact ⟨x, (mem_set h).1 hx, e⟩
 ·rintro ⟨x, hx, e⟩
  exact ⟨x, (mem_set h).2 hx, e⟩
theorem lit_either (A : List Int) (k : Nat) (h : k < 24) : litT A ((k : Int) + 1) = true ∨ litT A (-((k : Int) + 1)) = true := by
 have v1 : varI ((k : Int) + 1) = (k : Int) + 1 := by
  rw [lits.varI_yes (by omega), if_neg (by omega)]
 have v2 : varI (-((k : Int) + 1)) = (k : Int) + 1 := by
  rw [lits.varI_yes (by omega), if_pos (by omega)]
  omega
 unfold tr.litT
 rw [v1, v2, if_neg (by omega), if_neg (by omega), decide_eq_true (show (0 : Int) < (k : Int) + 1 by omega), decide_eq_false (show ¬ (0 : Int) < -((k : Int) + 1) by omega)]
 cases (decide ((k : Int) + 1 ≤ (A.length : Int)) && decide (A.getD ((k : Int) + 1 - 1).toNat 0 = 1))
 ·exact .inr rfl
 ·exact .inl rfl
theorem clT_clash (A : List Int) {c : List Int} (h : okTo (setOf c) 24 = false) : clT A c = true := by
 unfold srt.okTo at h
 rw [List.all_eq_false] at h
 obtain ⟨k, hk, e⟩ := h
 rw [List.mem_range] at hk
 simp only [Bool.not_eq_true', Bool.not_eq_false, Bool.not_and, Bool.or_eq_true, not_or] at e
 have h1 : (setOf c).testBit (2 * k) = true := by simpa using e.1
 have h2 : (setOf c).testBit (2 * k + 1) = true := by simpa using e.2
 rw [← has_pos c k hk] at h1
 rw [← has_neg c k hk] at h2
 unfold tr.clT
 rw [List.any_eq_true]
 rcases lit_either A k hk with q | q
 ·exact ⟨_, of_decide_eq_true h1, q⟩
 ·exact ⟨_, of_decide_eq_true h2, q⟩
theorem good_mem {LL : List (List Int)} {x : List Int} : x ∈ good LL ↔ ∃ c ∈ LL, okTo (setOf c) 24 = true ∧ srt (setOf c) 48 = x := by
 unfold cs.good
 rw [List.mem_map]
 constructor
 ·rintro ⟨c, hc, e⟩
  rw [List.mem_filter] at hc
  exact ⟨c, hc.1, hc.2, e⟩
 ·rintro ⟨c, hc, h1, e⟩
  exact ⟨c, List.mem_filter.2 ⟨hc, h1⟩, e⟩
theorem cnfT_srt {n : Int} {LL : List (List Int)} (A : List Int) (h : cnfB n LL = true) : cnfT A (cnfS LL) = cnfT A LL := by
 have cf := (fm.cnf_facts h).2.2.2
 have hok : ∀ c ∈ LL, ∀ x ∈ c, okB x = true := fun c hc x hx => by
  have := (cf c hc).2 x hx
  unfold ok.litIn at this
  rw [Bool.and_eq_true] at this
  exact this.1
 unfold tr.cnfT
 rw [Bool.eq_iff_iff, List.all_eq_true, List.all_eq_true]
 constructor
 ·intro hall c hc
  cases ho : okTo (setOf c) 24
  ·exact clT_clash A ho
  ·rw [← clT_srt A (hok c hc)]
   exact hall _ (cnfS_mem.2 (good_mem.2 ⟨c, hc, ho, rfl⟩))
 ·intro hall x hx
  obtain ⟨c, hc, ho, rfl⟩ := good_mem.1 (cnfS_mem.1 hx)
  rw [clT_srt A (hok c hc)]
  exact hall c hc
theorem cnfB_srt {n : Int} {LL : List (List Int)} (h : cnfB n LL = true) : cnfB n (cnfS LL) = true := by
 have f := fm.cnf_facts h
 have hl := cnfS_len LL
 unfold ok.cnfB
 rw [decide_eq_true (And.intro f.1 f.2.1), decide_eq_true (show (cnfS LL).length ≤ 120 by omega), Bool.true_and, Bool.true_and, List.all_eq_true]
 intro x hx
 have h24 := good_24 (cnfS_mem.1 hx)
 obtain ⟨c, hc, ho, rfl⟩ := good_mem.1 (cnfS_mem.1 hx)
 have hin := (f.2.2.2 c hc).2
 unfold ok.clB
 rw [Bool.and_eq_true, decide_eq_true_iff, List.all_eq_true]
 refine ⟨fun y hy => hin y ((mem_set (fun z hz => ?_)).1 hy), by omega⟩
 have := hin z hz
 unfold ok.litIn at this
 rw [Bool.and_eq_true] at this
 exact this.1
end Go.Proofs.YtibpnocpafppaaaDoor.ms
namespace Go.Proofs.YtibpnocpafppaaaDoor.gm
open Go.ChangeShapes Go.WideShapes Go.ChangeAt Go.RowKit
open sl (Sl Own ints hide unhide ret_int ret_bool grown_refl grown_trans grown_drewN below_of of_below)
open css (Sls OwnS Outs tot own_mono infoSl)
open cf (Box)
open ok (cnfB)
open lits (okB varI)
open cls (hasB)
open bset (setOf placeN subB)
open srt (srt litI okTo Tab)
open cs (cnfS good)
open le (lessL)
open cso (srtN srtR srtB)
open gb (Rd Kpt flt KeptE)
open gj (KeptO kpt_own rd_own len_in out_end)
open ge (outN outR OutE ini_all out_no OwnD)
set_option linter.unusedVariables false
theorem sub_lt {LL : List (List Int)} {D C : List Int} (hD : D ∈ cnfS LL) (hC : C ∈ cnfS LL) (h : subB D C = true) : D = C ∨ D.length < C.length := by
 obtain ⟨d, _, _, rfl⟩ := ms.good_mem.1 (cs.cnfS_mem.1 hD)
 obtain ⟨c, _, _, rfl⟩ := ms.good_mem.1 (cs.cnfS_mem.1 hC)
 generalize setOf d = S at *
 generalize setOf c = T at *
 have hst : ∀ i, i < 48 → S.testBit i = true → T.testBit i = true := by
  intro i hi hs
  have pl := ms.place_lit i hi
  have hm : litI i ∈ srt S 48 := by
   unfold srt.srt
   exact List.mem_map_of_mem (List.mem_filter.2 ⟨List.mem_range.2 hi, hs⟩)
  unfold bset.subB at h
  rw [List.all_eq_true] at h
  have h1 := h _ hm
  unfold cls.hasB at h1
  have h2 := (ms.srt_mem.1 (of_decide_eq_true h1)).2
  rw [pl] at h2
  exact h2
 have e : (List.range 48).filter (fun i => S.testBit i) = ((List.range 48).filter (fun i => T.testBit i)).filter (fun i => S.testBit i) := by
  rw [List.filter_filter]
  apply List.filter_congr
  intro i hi
  rw [List.mem_range] at hi
  cases hs : S.testBit i
  ·simp
  ·rw [hst i hi hs]
   rfl
 have hsub : ((List.range 48).filter (fun i => S.testBit i)).Sublist ((List.range 48).filter (fun i => T.testBit i)) := by
  rw [e]
  exact List.filter_sublist
 unfold srt.srt
 rw [List.length_map, List.length_map]
 have hle := hsub.length_le
 by_cases hq : ((List.range 48).filter (fun i => S.testBit i)).length = ((List.range 48).filter (fun i => T.testBit i)).length
 ·left
  rw [hsub.eq_of_length hq]
 ·right
  omega
theorem up_ne {LL : List (List Int)} {i j : Nat} (hi : i < (cnfS LL).length) (hj : j < (cnfS LL).length) (h : i ≠ j) : (cnfS LL)[i] ≠ (cnfS LL)[j] := by
 have u := cs.cnfS_up LL
 unfold cs.Up at u
 rw [List.pairwise_iff_getElem] at u
 intro e
 rcases Nat.lt_or_gt_of_ne h with hl | hl
 ·have := u i j hi hj hl
  rw [e, cs.less_ord.irr] at this
  cases this
 ·have := u j i hj hi hl
  rw [e, cs.less_ord.irr] at this
  cases this
def kpB (R : List (List Int)) (i j : Nat) : Bool := !((List.range j).any fun t => decide (t ≠ i) && subB (R.getD t []) (R.getD i []))
theorem kp_step (R : List (List Int)) (i j : Nat) : kpB R i (j + 1) = (kpB R i j && !(decide (j ≠ i) && subB (R.getD j []) (R.getD i []))) := by
 unfold kpB
 rw [List.range_succ, List.any_append]
 simp
theorem kp_end (LL : List (List Int)) (i : Nat) (h : i < (cnfS LL).length) : kpB (cnfS LL) i (cnfS LL).length = !subsB (cnfS LL) ((cnfS LL).getD i []) := by
 unfold kpB subsB
 congr 1
 rw [Bool.eq_iff_iff, List.any_eq_true, List.any_eq_true]
 have gd : ∀ t, t < (cnfS LL).length → (cnfS LL).getD t [] = (cnfS LL)[t]! := by
  intro t ht
  simp [ht]
 constructor
 ·rintro ⟨t, ht, hq⟩
  rw [List.mem_range] at ht
  rw [Bool.and_eq_true, decide_eq_true_iff] at hq
  have e1 : (cnfS LL).getD t [] = (cnfS LL)[t] := by simp [ht]
  have e2 : (cnfS LL).getD i [] = (cnfS LL)[i] := by simp [h]
  rw [e1, e2] at hq
  rw [e2]
  refine ⟨(cnfS LL)[t], List.getElem_mem ht, ?_⟩
  rcases sub_lt (List.getElem_mem ht) (List.getElem_mem h) hq.2 with e | e
  ·exact absurd e (up_ne ht h hq.1)
  ·rw [decide_eq_true e, hq.2]
   rfl
 ·rintro ⟨D, hD, hq⟩
  rw [Bool.and_eq_true, decide_eq_true_iff] at hq
  obtain ⟨t, ht, rfl⟩ := List.getElem_of_mem hD
  have e1 : (cnfS LL).getD t [] = (cnfS LL)[t] := by simp [ht]
  refine ⟨t, List.mem_range.2 ht, ?_⟩
  rw [e1, hq.2, decide_eq_true (show t ≠ i by
   rintro rfl
   rw [e1] at hq
   omega)]
  rfl
def MidG (w wr : World) (c : Nat) (n : Int) (D : List (Value × List Int)) (Bs : List (Nat × Value × Value)) : Prop :=
 w.heap.size ≤ c ∧ w.grownBy wr none ∧ (∀ b ∈ Bs, b.1 ≠ c ∧ Box 26 wr b.1 b.2.1 b.2.2) ∧ ∃ a cap, Box 26 wr c (.int .i64 n) (.slice a D.length cap) ∧ wr.ownsRow w.heap.size 31 1 (.slice a D.length cap) D.length (D.map (·.1))
theorem row_kept {w w' : World} {lo n : Nat} {t : TypeId} {v : Value} {xs : List Value} (h : w.ownsRow lo t 1 v n xs) (g : w.grownBy w' none) : w'.ownsRow lo t 1 v n xs := h.kept g (by
 cases v.ownBlock with
 | none => exact .inl rfl
 | some k => exact .inr (fun e => by cases e))
theorem MidG.kept {w wr w1 : World} {c : Nat} {n : Int} {D : List (Value × List Int)} {Bs : List (Nat × Value × Value)} (h : MidG w wr c n D Bs) (g : wr.grownBy w1 none) : MidG w w1 c n D Bs := by
 obtain ⟨hc, hg, hB, a, cap, hb, ho⟩ := h
 exact ⟨hc, grown_trans hg g, fun b hb => ⟨(hB b hb).1, (hB b hb).2.kept g⟩, a, cap, hb.kept g, row_kept ho g⟩
theorem MidG.box {w wr : World} {c : Nat} {n : Int} {D : List (Value × List Int)} {Bs : List (Nat × Value × Value)} (h : MidG w wr c n D Bs) (b : Nat) (x y : Value) (hb : (b, x, y) ∈ Bs) : Box 26 wr b x y := (h.2.2.1 _ hb).2
theorem stepG {ops : Array Oper} {o : Oper} {a : Act} {K : Act → World → Prop} {Q : Exit → Act → World → Prop} {E : Prop} {lo : Nat} {wr : World} {v : Value} {D : List (Value × List Int)} {p : Value × List Int}
  (hw : wr.ownsRow lo 31 1 v D.length (D.map (·.1))) (hu : p.1.oneCell' = true) (hlo : lo ≤ wr.heap.size) (hM : D.length ≤ 1048576) (hgd : o.guard = none) (s x : Operand)
  (ho : o.op = .call { callee := .builtin .append, args := #[s, x], argTypes := #[24, 24] }) (hs : a.eval s = v) (hx : a.eval x = .slice (some ⟨wr.heap.size, 0, none⟩) 1 1)
  (hK : ∀ g cap w1, w1.ownsRow lo 31 1 (.slice (some ⟨g, 0, none⟩) (D.length + 1) cap) (D.length + 1) (D.map (·.1) ++ [p.1]) → (wr.alloc (.cells #[p.1] 31)).grownBy w1 v.ownBlock → K (a.put o.dst (.slice (some ⟨g, 0, none⟩) (D.length + 1) cap)) w1) :
  if Region.wanted o (yielded ops a.tmps) = true then Oper.wp Tryd.prog o a (wr.alloc (.cells #[p.1] 31)) K Q else E := by
 obtain ⟨i0, hi, hz0, hz1, hz2⟩ := info_parts infoSl
 refine step_append_lies _ hgd s x 24 ho lo 31 i0 (.slice none 0 0) 1 24 Tryd.underlying24 hi hz0 hz1 hz2 rfl (by decide) v D.length (D.map (·.1)) hs (hw.alloc _) ⟨wr.heap.size, 0, none⟩ 1 1 [p.1] hx rfl ?_ ?_ (by decide) ?_ ?_ ?_ (wr.heap.size + 1) (World.size_alloc ..) ?_
 ·intro j y hj
  match j, hj with
  | 0, hj => simp at hj; subst hj; simp [Addr.add]
 ·intro y hy
  simp at hy
  subst hy
  exact hu
 ·unfold maxLen; omega
 ·omega
 ·simp; omega
 ·intro g cap w1 h1 hg _ _
  exact hK g cap w1 h1 hg
theorem MidG.step {w wr w2 w1 : World} {c : Nat} {n : Int} {D : List (Value × List Int)} {p : Value × List Int} {Bs : List (Nat × Value × Value)} {a : Option Addr} {cap g cap' : Nat} (hc : w.heap.size ≤ c) (hg : w.grownBy wr none) (hB : ∀ b ∈ Bs, b.1 ≠ c ∧ Box 26 wr b.1 b.2.1 b.2.2) (hb : Box 26 wr c (.int .i64 n) (.slice a D.length cap)) (ho : wr.ownsRow w.heap.size 31 1 (.slice a D.length cap) D.length (D.map (·.1)))
  (g2 : wr.grownBy w2 none) (h1 : w1.ownsRow w.heap.size 31 1 (.slice (some ⟨g, 0, none⟩) (D.length + 1) cap') (D.length + 1) (D.map (·.1) ++ [p.1])) (g1 : (w2.alloc (.cells #[p.1] 31)).grownBy w1 (Value.slice a D.length cap).ownBlock) :
  (w1.cell? ⟨c, 1, none⟩ = some (.slice a D.length cap) ∧ w1.frozen? ⟨c, 1, none⟩ = false) ∧ MidG w (w1.setCell ⟨c, 1, none⟩ (.slice (some ⟨g, 0, none⟩) (D.length + 1) cap')) c n (D ++ [p]) Bs := by
 have gA := grown_trans (r := none) g2 (World.grownBy_alloc w2 (.cells #[p.1] 31) none)
 have hb2 := hb.kept gA
 have hw := row_kept ho gA
 have hb1 := hb2.by g1 (gr.box_ne hw gr.ty1 hb2)
 have hgA : w.grownBy (w2.alloc (.cells #[p.1] 31)) none := grown_trans hg gA
 have hg1 : w.grownBy w1 none := ⟨g1.os.trans hgA.os, g1.tape.trans hgA.tape, g1.output.trans hgA.output, Nat.le_trans hgA.size g1.size, fun k hk _ => by
  rw [g1.block k (Nat.lt_of_lt_of_le hk hgA.size) (fun e => by have := (hw.lt k e.symm).1; omega)]
  exact hgA.block k hk (fun e => by cases e)⟩
 have hB1 : ∀ b ∈ Bs, Box 26 w1 b.1 b.2.1 b.2.2 := by
  intro b hb'
  have hbb := (hB _ hb').2.kept gA
  exact hbb.by g1 (gr.box_ne hw gr.ty1 hbb)
 have e1 : (D ++ [p]).length = D.length + 1 := by simp
 have e2 : (D ++ [p]).map (fun p : Value × List Int => p.1) = D.map (fun p : Value × List Int => p.1) ++ [p.1] := by simp
 refine ⟨⟨hb1.c1, hb1.f 1⟩, hc, cf.grown_set hg1 hc, fun b hb' => ⟨(hB b hb').1, (hB1 b hb').setO (fun e => (hB b hb').1 e.symm)⟩, some ⟨g, 0, none⟩, cap', ?_, ?_⟩
 ·rw [e1]
  exact hb1.set1 _
 ·rw [e1, e2]
  exact gr.own_set h1 gr.ty1 hb1
end Go.Proofs.YtibpnocpafppaaaDoor.gm
namespace Go.Proofs.YtibpnocpafppaaaDoor.gm
open Go.ChangeShapes Go.WideShapes Go.ChangeAt Go.RowKit
open sl (Sl Own ints hide unhide ret_int ret_bool grown_refl grown_trans grown_drewN below_of of_below)
open css (Sls OwnS Outs tot own_mono infoSl)
open cf (Box)
open ok (cnfB)
open bset (setOf placeN subB)
open srt (srt litI okTo Tab)
open cs (cnfS good)
open cso (srtN srtR srtB)
open gb (Rd Kpt flt KeptE)
open gj (KeptO kpt_own rd_own len_in out_end)
open ge (outN outR OutE ini_all out_no OwnD)
set_option linter.unusedVariables false
theorem stepGd {ops : Array Oper} {o : Oper} {a : Act} {K : Act → World → Prop} {Q : Exit → Act → World → Prop} {E : Prop} {lo : Nat} {wr : World} {v : Value} {D : List (Value × List Int)} {p : Value × List Int}
  (hw : wr.ownsRow lo 31 1 v D.length (D.map (·.1))) (hu : p.1.oneCell' = true) (hlo : lo ≤ wr.heap.size) (hM : D.length ≤ 1048576) (hgd : o.guard = none) (s x : Operand)
  (ho : o.op = .call { callee := .builtin .append, args := #[s, x], argTypes := #[24, 24] }) (hs : a.eval s = v) (hx : a.eval x = .slice (some ⟨wr.heap.size, 0, none⟩) 1 1)
  (hK : ∀ g cap w1, w1.ownsRow lo 31 1 (.slice (some ⟨g, 0, none⟩) (D.length + 1) cap) (D.length + 1) (D.map (·.1) ++ [p.1]) → (wr.alloc (.cells #[p.1] 31)).grownBy w1 v.ownBlock → K (a.put o.dst (.slice (some ⟨g, 0, none⟩) (D.length + 1) cap)) w1) :
  if Region.wanted o (yielded ops a.tmps) = true then Oper.wp Tryd.prog o a (wr.alloc (.cells #[p.1] 31)).drew K Q else E := by
 have gd := cf.grown_drew wr none
 have r := stepG (ops := ops) (o := o) (a := a) (K := K) (Q := Q) (E := E) (wr := wr.drew) (p := p) (row_kept hw gd) hu hlo hM hgd s x ho hs hx (fun g cap w1 h1 g1 => hK g cap w1 h1 (sl.grown_trans' (cf.grown_drew (wr.alloc (.cells #[p.1] 31)) v.ownBlock) g1))
 exact r
theorem tot_filter (B : List Int → Bool) (LL : List (List Int)) : tot (LL.filter B) ≤ tot LL := by
 unfold css.tot
 have h1 := List.length_filter_le B LL
 have h2 : ((LL.filter B).map List.length).sum ≤ (LL.map List.length).sum := by
  clear h1
  induction LL with
  | nil => exact Nat.le_refl _
  | cons C LL ih =>
   rw [List.filter_cons]
   split
   ·simp only [List.map_cons, List.sum_cons]; omega
   ·simp only [List.map_cons, List.sum_cons]; omega
 omega
theorem ownD_at {lo hi : Nat} {w : World} {a : Option Addr} {cap : Nat} {D : List (Value × List Int)} (h : OwnD lo hi w (.slice a D.length cap) D) (k : Nat) (hk : k < D.length) : ∃ b, a = some ⟨b, 0, none⟩ ∧ ∀ i (hi : i < D.length), w.cell? ⟨b, i, none⟩ = some D[i].1 ∧ ∃ ua uc, D[i].1 = .slice ua D[i].2.length uc ∧ Sl w D[i].1 D[i].2 := by
 obtain ⟨h1, h2, h3, h4⟩ := h
 have h1' := h1
 obtain ⟨_, h5⟩ := h1
 rcases h5 with ⟨_, h0⟩ | ⟨b, cap', cur, e, _⟩
 ·omega
 ·cases e
  refine ⟨b, rfl, fun i hi => ⟨?_, ?_⟩⟩
  ·rw [h1'.cellAt i (by omega)]
   simp [hi]
  ·have s := (h3 _ (List.getElem_mem hi)).sl
   obtain ⟨ua, uc, e, _⟩ := s
   exact ⟨ua, uc, e, (h3 _ (List.getElem_mem hi)).sl⟩
theorem ownD_kept {lo hi : Nat} {w w' : World} {v : Value} {D : List (Value × List Int)} (h : OwnD lo hi w v D) (g : w.grownBy w' none) : OwnD lo hi w' v D :=
 ⟨row_kept h.1 g, h.2.1, fun p hp => (h.2.2.1 p hp).kept g, h.2.2.2⟩
def keepF (R : List (List Int)) (p : Value × List Int) : Bool := !subsB R p.2
theorem keep_yes {R : List (List Int)} {D : List (Value × List Int)} {k : Nat} (h : k < D.length) (e : subsB R D[k].2 = false) : (D.take (k + 1)).filter (keepF R) = (D.take k).filter (keepF R) ++ [D[k]] := by
 rw [List.take_succ_eq_append_getElem h, List.filter_append]
 simp [keepF, e]
theorem keep_no {R : List (List Int)} {D : List (Value × List Int)} {k : Nat} (h : k < D.length) (e : subsB R D[k].2 = true) : (D.take (k + 1)).filter (keepF R) = (D.take k).filter (keepF R) := by
 rw [List.take_succ_eq_append_getElem h, List.filter_append]
 simp [keepF, e]
theorem keep_len (R : List (List Int)) (D : List (Value × List Int)) (k : Nat) : ((D.take k).filter (keepF R)).length ≤ k := by
 have := List.length_filter_le (keepF R) (D.take k)
 rw [List.length_take] at this
 omega
theorem midG_new {W : World} {n : Int} {Bs : List (Nat × Value × Value)} (hB : ∀ b ∈ Bs, Box 26 W b.1 b.2.1 b.2.2) : MidG W (W.alloc (.cells #[.int .i64 n, .slice none 0 0] 26)) W.heap.size n [] Bs := by
 have gA := World.grownBy_alloc W (.cells #[.int .i64 n, .slice none 0 0] 26) none
 refine ⟨Nat.le_refl _, gA, fun b hb => ⟨?_, (hB b hb).kept gA⟩, none, 0, Box.new _ _ _ _, ⟨rfl, .inl ⟨rfl, rfl⟩⟩⟩
 have := (hB b hb).lt
 omega
theorem midG_own {W wr : World} {c lo : Nat} {n : Int} {v : Value} {D : List (Value × List Int)} {B : Value × List Int → Bool} {a : Option Addr} {cap : Nat} (hD : OwnD lo W.heap.size W v D) (hlo : lo ≤ W.heap.size) (g : W.grownBy wr none) (ho : wr.ownsRow W.heap.size 31 1 (.slice a (D.filter B).length cap) (D.filter B).length ((D.filter B).map (·.1))) : OwnS lo wr.heap.size wr (.slice a (D.filter B).length cap) ((D.filter B).map (·.2)) := by
 have hs := g.size
 refine ⟨D.filter B, rfl, own_mono ho hlo, fun k e => (ho.lt k e).2, fun p hp => ?_, hD.2.2.2.sublist List.filter_sublist⟩
 have hp' := (List.mem_filter.1 hp).1
 exact ⟨((hD.2.2.1 p hp').kept g).1, fun k e => by have := (hD.2.2.1 p hp').2 k e; omega⟩
theorem keep_map (R : List (List Int)) (D : List (Value × List Int)) : (D.filter (keepF R)).map (·.2) = (D.map (·.2)).filter (fun C => !subsB R C) := gb.flt_map (fun C => !subsB R C) D
set_option maxRecDepth 10000 in
set_option maxHeartbeats 8000000 in
theorem specSubsume (v : Value) (n : Int) (LL : List (List Int)) (w : World) (hn : tot LL ≤ 1048576) (hv : Sls w v LL) :
  Calls Tryd.prog 12 #[.agg #[.int .i64 n, v]] w fun e w' => OutE (cnfB n LL) n (sumL (cnfS LL)) w e w' := by
 have hv0 := hv
 obtain ⟨a, cap, rfl, _⟩ := hv
 obtain ⟨g0, b0, b1⟩ := ini_all w (.int .i64 n) (.slice a LL.length cap)
 have C := hide (cso.specCnfSort _ n LL _ hn (hv0.kept g0))
 have ht : tot (srtR n LL) ≤ 1048576 := Nat.le_trans (cso.srt_tot n LL) (by decide)
 have G0 := hide g0
 have B1 := hide b1
 clear hv0 g0 b0 b1
 go_enter Tryd.func12, Tryd.ntmps12
 go_wp2_with fail
 refine (unhide C).mono ?_; rintro e w1 ⟨q, rfl, o1, g1⟩
 obtain ⟨qa, qc, rfl⟩ := o1.len
 have G1 := hide (grown_trans (r := none) (unhide G0) g1)
 have bx1 := (unhide B1).kept g1
 have gs := (unhide G0).size
 have o1' := o1.sub gs (Nat.le_refl _)
 cases hb : cnfB n LL
 ·obtain ⟨s1, s2, s3⟩ := cso.srt_no hb
  have E := hide hb
  rw [s3]
  generalize hN : srtN n LL = N at *
  generalize hR : srtR n LL = R at *
  have gA := World.grownBy_alloc w1 (.cells #[.int .i64 N, .slice qa R.length qc] 26) none
  have X1 := hide (bx1.kept gA)
  have GA := hide (grown_trans (r := none) (unhide G1) gA)
  have y0 := (bx1.kept gA).c0
  have y1 := (bx1.kept gA).c1
  have y2 := (bx1.kept gA).f 0
  have y3 := (bx1.kept gA).f 1
  clear hb C g1 bx1 B1 G0 o1 o1' s1 s2 s3 hN hR gA G1 gs
  go_wp2_with fail
  (try simp only [Exit.inBlock, Exit.then])
  exact out_no (unhide E) (unhide X1) (unhide GA) rfl rfl rfl rfl
 ·obtain ⟨s1, s2, s3⟩ := cso.srt_yes hb
  have E := hide hb
  rw [s1, s2, s3]
  rw [s2] at o1' ht
  have KE := hide (fun i h => kp_end LL i h)
  generalize hR : cnfS LL = R at *
  have gA := World.grownBy_alloc w1 (.cells #[.int .i64 n, .slice qa R.length qc] 26) none
  have GA := hide (grown_trans (r := none) (unhide G1) gA)
  have bg := Box.new 26 w1 (.int .i64 n) (.slice qa R.length qc)
  have z0 := bg.c0
  have z1 := bg.c1
  have rl := bx1.lt
  have SZ := hide (show w1.heap.size + 1 = (w1.alloc (.cells #[.int .i64 n, .slice qa R.length qc] 26)).heap.size from (World.size_alloc ..).symm)
  obtain ⟨D, hD2, hD⟩ := OwnD.of ((o1'.kept gA).sub (Nat.le_refl _) gA.size)
  have ST := hide (midG_new (W := w1.alloc (.cells #[.int .i64 n, .slice qa R.length qc] 26)) (n := n) (Bs := [(w.heap.size + 1, .int .i64 0, .slice none 0 0), (w1.heap.size, .int .i64 n, .slice qa R.length qc)]) (by
   intro b hb'
   simp only [List.mem_cons, List.not_mem_nil, or_false] at hb'
   rcases hb' with rfl | rfl
   ·exact bx1.kept gA
   ·exact bg))
  have HR := hide hR
  have lW := hide ((unhide GA).size)
  clear hb C g1 bx1 B1 G0 o1 o1' s1 s2 s3 hR gA G1 gs bg rl
  have hDl : R.length = D.length := by rw [← hD2, List.length_map]
  have hDk : Hid (∀ i (h : i < D.length), R.getD i [] = D[i].2) := fun i h => by rw [← hD2]; exact css.map2_getD h
  have HD2 := hide hD2
  have hlen := Nat.le_trans (css.tot_len R) ht
  have hin := hide (fun i => Nat.le_trans (css.tot_in R i) ht)
  clear hD2 ht
  rw [hDl] at hD hlen z0 z1 ST KE SZ lW GA ⊢
  have HDl := hide hDl
  clear hDl
  go_wp2_with fail
  generalize hW : w1.alloc (.cells #[.int .i64 n, .slice qa D.length qc] 26) = W at *
  generalize w1.heap.size = gc at *
  have hcO : W.heap.size = gc + 1 := (unhide SZ).symm
  rw [hcO] at ST
  generalize hW2 : W.alloc (.cells #[.int .i64 n, .slice none 0 0] 26) = W2 at *
  have HD := hide hD
  clear hW hW2 hD hcO z0 z1 SZ
  go_loopw [7] (fun i wr => ∃ k : Nat, k ≤ D.length ∧ i = .int .i64 k ∧ Hid (MidG W wr (gc + 1) n ((D.take k).filter (keepF R)) [(w.heap.size + 1, .int .i64 0, .slice none 0 0), (gc, .int .i64 n, .slice qa D.length qc)])) (fun i _ => D.length - (intOf i).toNat)
  case atStart => exact ⟨0, Nat.zero_le _, rfl, ST⟩
  case round =>
   obtain ⟨k, hk, rfl, hm⟩ := hrel
   clear ST
   have bg := (unhide hm).box gc (.int .i64 n) (.slice qa D.length qc) (by simp)
   have x0 := bg.c0
   have x1 := bg.c1
   by_cases hlt : k < D.length
   ·have hi' : (k : Int) < (D.length : Int) := by omega
    have hDl' := unhide KE k hlt
    rw [unhide hDk k hlt] at hDl'
    have KD := hide hDl'
    have hY := hide (keep_yes (R := R) hlt)
    have hN := hide (keep_no (R := R) hlt)
    have hM : ((D.take k).filter (keepF R)).length ≤ 1048576 := Nat.le_trans (keep_len ..) (by omega)
    have KS := hide (fun j => kp_step R k j)
    generalize (D.take k).filter (keepF R) = M at *
    clear hDl' x0 x1 bg
    have bg := (unhide hm).box gc (.int .i64 n) (.slice qa D.length qc) (by simp)
    have x0 := bg.c0
    have x1 := bg.c1
    clear bg
    go_wp2_with fail
    go_loopw [8, 9] (fun q i wx => ∃ j : Nat, j ≤ D.length ∧ i = .int .i64 j ∧ q = .bool (kpB R k j) ∧ Hid (MidG W wx (gc + 1) n M [(w.heap.size + 1, .int .i64 0, .slice none 0 0), (gc, .int .i64 n, .slice qa D.length qc)])) (fun _ i _ => D.length - (intOf i).toNat)
    case atStart => exact ⟨0, Nat.zero_le _, rfl, rfl, hm⟩
    case round =>
     obtain ⟨j, hj, rfl, rfl, hmj⟩ := hrel
     clear x0 x1 hm
     have bg := (unhide hmj).box gc (.int .i64 n) (.slice qa D.length qc) (by simp)
     have x0 := bg.c0
     have x1 := bg.c1
     have gx := (unhide hmj).2.1
     clear bg
     by_cases hjl : j < D.length
     ·have hj' : (j : Int) < (D.length : Int) := by omega
      obtain ⟨b, rfl, cc⟩ := ownD_at (ownD_kept (unhide HD) gx) k hlt
      obtain ⟨cj, ja, jc, ej, sj⟩ := cc j hjl
      obtain ⟨ck, ka, kc, ek, sk⟩ := cc k hlt
      have lj : D[j].2.length ≤ 1048576 := by rw [← unhide hDk j hjl]; exact unhide hin j
      have lk : D[k].2.length ≤ 1048576 := by rw [← unhide hDk k hlt]; exact unhide hin k
      have st := unhide KS j
      rw [unhide hDk j hjl, unhide hDk k hlt] at st
      have CS := hide (fun m => bset.specClauseSub D[j].1 D[k].1 D[j].2 D[k].2 (wr.drewN m) lj lk (sj.kept (grown_drewN wr m) (.inl rfl)) (sk.kept (grown_drewN wr m) (.inl rfl)))
      rw [ej] at cj CS
      rw [ek] at ck CS
      generalize D[j].2 = Lj at *
      generalize D[k].2 = Lk at *
      clear cc sj sk ej ek gx
      by_cases hjk : j = k
      ·have q1 : ((j : Int) != (k : Int)) = false := by simp [hjk]
       rw [decide_eq_false (show ¬ j ≠ k from fun h => h hjk), Bool.false_and, Bool.not_false, Bool.and_true] at st
       have S := hide st
       have HM := hide (fun m => (unhide hmj).kept (grown_drewN wr m))
       clear st hjk CS hmj
       go_wp2_with fail
       go_quiet (fail)
       go_wp2_with fail
       go_roundw
       case rel => exact ⟨j + 1, by omega, by go_num, by rw [unhide S], unhide HM _⟩
       case measure => simp [intOf]; omega
      ·have q1 : ((j : Int) != (k : Int)) = true := by simp; omega
       rw [decide_eq_true (show j ≠ k from hjk), Bool.true_and] at st
       have HM := hide (fun m => (unhide hmj).kept (grown_drewN wr m))
       cases hx : subB Lj Lk
       ·rw [hx, Bool.not_false, Bool.and_true] at st
        rw [hx] at CS
        have S := hide st
        clear st hjk hmj hx
        go_wp2_with fail
        go_quiet (first | (go_at_call 55; exact Calls.quiet_of_same (unhide CS _)))
        go_wp2_with fail
        go_roundw
        case rel => exact ⟨j + 1, by omega, by go_num, by rw [unhide S], unhide HM _⟩
        case measure => simp [intOf]; omega
       ·rw [hx, Bool.not_true, Bool.and_false] at st
        rw [hx] at CS
        have S := hide st
        clear st hjk hmj hx
        go_wp2_with fail
        go_quiet (first | (go_at_call 55; exact Calls.quiet_of_same (unhide CS _)))
        go_wp2_with fail
        go_roundw
        case rel => exact ⟨j + 1, by omega, by go_num, by rw [unhide S], unhide HM _⟩
        case measure => simp [intOf]; omega
     ·have hj' : ¬ (j : Int) < (D.length : Int) := by omega
      have ej : j = D.length := by omega
      rw [ej, unhide KD]
      obtain ⟨b, rfl, cc⟩ := ownD_at (ownD_kept (unhide HD) gx) k hlt
      obtain ⟨ck, ka, kc, ek, sk⟩ := cc k hlt
      have hu1 : D[k].1.oneCell' = true := by rw [ek]; rfl
      have hYY := unhide hY
      have hNN := unhide hN
      clear gx cc sk hY hN KD KS ej
      cases hq : subsB R D[k].2
      ·have HT := hide (hYY hq)
       clear hYY hNN hq
       generalize hp : D[k] = pp at *
       obtain ⟨p1, p2⟩ := pp
       simp only at ek hu1 ck
       subst ek
       obtain ⟨q0, q1, q2, oa, oc, q3, q4⟩ := unhide hmj
       have gB := World.grownBy_alloc wr (.cells #[.slice ka p2.length kc] 31) none
       have o1 := q3.c1
       have of1 := q3.f 1
       have o2 := (q3.kept gB).c1
       have x2 := ((unhide hmj).box gc (.int .i64 n) (.slice (some ⟨b, 0, none⟩) D.length qc) (by simp)).kept gB |>.c1
       have Q0 := hide q0
       have Q1 := hide q1
       have Q2 := hide q2
       have Q3 := hide q3
       have Q4 := hide q4
       have HU1 := hide hu1
       clear q0 q1 q2 q3 q4 hmj gB hu1 hp
       go_wp2_with fail
       go_region_law
        (first
         | (refine stepGd (p := (Value.slice ka p2.length kc, p2)) (unhide Q4) (unhide HU1) (unhide Q1).size hM (by rfl) _ _ (by rfl) (by rfl) (by rfl) ?_; intro g3 cap3 w3 h3 g3'; have R3 := hide (MidG.step (unhide Q0) (unhide Q1) (unhide Q2) (unhide Q3) (unhide Q4) (grown_refl wr) h3 g3'); have k3 := (unhide R3).1.1; have k4 := (unhide R3).1.2; clear h3 g3'))
       all_goals
        go_wp2_with fail
        go_roundw
        case rel => exact ⟨k + 1, by omega, by go_num, by rw [unhide HT]; exact (unhide R3).2⟩
        case measure => simp [intOf]; omega
      ·have HT := hide (hNN hq)
       clear hYY hNN hq
       go_wp2_with fail
       go_roundw
       case rel => exact ⟨k + 1, by omega, by go_num, by rw [unhide HT]; exact unhide hmj⟩
       case measure => simp [intOf]; omega
   ·have hi' : ¬ (k : Int) < (D.length : Int) := by omega
    have e : D.take k = D := List.take_of_length_le (by omega)
    rw [e] at hm
    have br := (unhide hm).box (w.heap.size + 1) (.int .i64 0) (.slice none 0 0) (by simp)
    have hD9 := unhide HD
    have ow := fun a cap => midG_own (c := 0) (n := n) (B := keepF R) (a := a) (cap := cap) hD9 (unhide lW) (unhide hm).2.1
    have er := keep_map R D
    rw [unhide HD2] at er
    obtain ⟨q0, q1, q2, oa, oc, q3, q4⟩ := unhide hm
    have ow' := ow _ _ q4
    rw [er] at ow'
    have OW := hide ow'
    have r0 := br.c0
    have r1 := br.c1
    have rf0 := br.f 0
    have rf1 := br.f 1
    have o0 := q3.c0
    have o1 := q3.c1
    have BR := hide br
    have G9 := hide (grown_trans (r := none) (unhide GA) q1)
    generalize (D.filter (keepF R)).length = ml at *
    clear hm e q0 q1 q2 q3 q4 br ow ow' er hD9 bg
    go_wp2_with fail
    (try simp only [Exit.inBlock, Exit.then])
    have hr := unhide HR
    subst hr
    exact out_end (unhide E) (unhide BR) (unhide G9) (unhide OW) rfl rfl rfl rfl
theorem srt_tot2 (LL : List (List Int)) (n : Int) : tot (outR (cnfB n LL) (sumL (cnfS LL))) ≤ 1048576 := by
 cases h : cnfB n LL
 ·show tot [] ≤ _
  decide
 ·have := cso.srt_tot n LL
  rw [(cso.srt_yes h).2.1] at this
  exact Nat.le_trans (tot_filter _ _) (Nat.le_trans this (by decide))
end Go.Proofs.YtibpnocpafppaaaDoor.gm
