/- Subsume of the program: what it answers at every formula that holds at most 2^20 values; and the mathematics of what is subsumed. -/
import Derived.Test.YtibpnocpafppaaaDoorGk
import Derived.Test.YtibpnocpafppaaaDoorSb
import Derived.Test.YtibpnocpafppaaaDoorSet
namespace Go.Proofs.YtibpnocpafppaaaDoor.gm
open Go.ChangeShapes Go.WideShapes Go.ChangeAt Go.RowKit
open Go.Proofs.YtibpnocpafppaaaDoor.sl (Sl Own ints marks hide unhide ret_int ret_bool grown_refl grown_trans grown_drewN below_of of_below)
open Go.Proofs.YtibpnocpafppaaaDoor.css (Sls OwnS Outs tot sumLen marksS own_mono)
open Go.Proofs.YtibpnocpafppaaaDoor.cf (Box)
open Go.Proofs.YtibpnocpafppaaaDoor.ok (cnfB)
open Go.Proofs.YtibpnocpafppaaaDoor.lits (okB varI)
open Go.Proofs.YtibpnocpafppaaaDoor.cls (hasB)
open Go.Proofs.YtibpnocpafppaaaDoor.bset (setOf placeN subB)
open Go.Proofs.YtibpnocpafppaaaDoor.srt (srt litI okTo Tab)
open Go.Proofs.YtibpnocpafppaaaDoor.cs (cnfS good)
open Go.Proofs.YtibpnocpafppaaaDoor.le (lessL)
open Go.Proofs.YtibpnocpafppaaaDoor.cso (srtN srtR srtB)
open Go.Proofs.YtibpnocpafppaaaDoor.gb (Rd Kpt flt KeptE)
open Go.Proofs.YtibpnocpafppaaaDoor.gj (KeptO kpt_own rd_own len_in out_end)
open Go.Proofs.YtibpnocpafppaaaDoor.ge (outN outR OutE ini_all out_no out_yes OwnD)
set_option linter.unusedVariables false

/-- whether a shorter clause has some of the literals of C alone -/
def subsB (R : List (List Int)) (C : List Int) : Bool := R.any fun D => decide (D.length < C.length) && subB D C
def sumL (R : List (List Int)) : List (List Int) := R.filter fun C => !subsB R C
theorem subs_hit {R : List (List Int)} {C : List Int} {k : Nat} (h : k < R.length) (h1 : (R.getD k []).length < C.length) (h2 : subB (R.getD k []) C = true) : subsB R C = true := by
  unfold subsB
  rw [show R.getD k [] = R[k] by simp [h]] at *
  exact List.any_eq_true.2 ⟨R[k], List.getElem_mem h, by rw [decide_eq_true h1, h2]; rfl⟩

theorem subsumed (v u : Value) (C : List Int) (R : List (List Int)) (w : World) (hC : C.length ≤ 1048576) (hn : tot R ≤ 1048576) (hv : Sl w v C) (hu : Sls w u R) :
    Calls Tryd.prog 53 #[v, u] w fun e w' => e = .returned (.bool (subsB R C)) ∧ w' = w := by
  have hl := Nat.le_trans (css.tot_len R) hn
  have HV := hide hv
  obtain ⟨va, vc, rfl, _⟩ := hv
  obtain ⟨a, cap, rfl, ha⟩ := hu
  have HA := hide ha
  clear ha
  go_enter Tryd.func53, Tryd.ntmps53
  go_wp2
  go_loop [9] (fun i => ∃ k : Nat, k ≤ R.length ∧ i = .int .i64 k ∧ Hid (subsB (R.take k) C = false)) (fun i => R.length - (intOf i).toNat)
  case atStart => exact ⟨0, Nat.zero_le _, rfl, by show _ = _; simp [subsB]⟩
  case round =>
    obtain ⟨k, hk, rfl, hall⟩ := hrel
    by_cases hlt : k < R.length
    · rcases unhide HA with h | ⟨b, off, rfl, hb, hcb⟩
      · rw [h] at hlt
        simp at hlt
      · obtain ⟨x, c1, hs⟩ := hcb k hlt
        have hi' : (k : Int) < (R.length : Int) := by omega
        have h1 := subs_hit (C := C) hlt
        have h2 : decide ((R.getD k []).length < C.length) = false ∨ subB (R.getD k []) C = false → subsB (R.take (k + 1)) C = false := by
          intro h
          have hh := unhide hall
          unfold subsB at hh ⊢
          rw [List.take_succ_eq_append_getElem hlt, List.any_append, hh]
          rw [show R.getD k [] = R[k] by simp [hlt]] at h
          rcases h with h | h <;> simp [h]
        have hL := Nat.le_trans (css.tot_in R k) hn
        generalize R.getD k [] = L at *
        have cx := bset.implClauseSub x _ L C w hL hC hs (unhide HV)
        obtain ⟨xa, xc, rfl, _⟩ := hs
        clear hcb HA hall HV
        by_cases hc : L.length < C.length
        · have hcp : (L.length : Int) < (C.length : Int) := by omega
          cases hx : subB L C
          · rw [hx] at cx
            have CX := hide cx
            have H := hide (h2 (.inr hx))
            clear h1 h2 hx cx hc
            go_wp2_with fail
            refine (unhide CX).mono ?_; rintro e w2 ⟨rfl, hw⟩; have hw' := hw.symm; clear hw; subst hw'
            go_wp2_with fail
            go_round
            case rel => exact ⟨k + 1, by omega, by go_num, H⟩
            case measure => simp [intOf]; omega
          · rw [hx] at cx
            have CX := hide cx
            have H := hide (h1 hc hx)
            clear h1 h2 hx cx hc
            go_wp2_with fail
            refine (unhide CX).mono ?_; rintro e w2 ⟨rfl, hw⟩; have hw' := hw.symm; clear hw; subst hw'
            go_wp2_with fail
            go_ret
            exact ⟨ret_bool (unhide H).symm, rfl⟩
        · have hcp : ¬ (L.length : Int) < (C.length : Int) := by omega
          have H := hide (h2 (.inl (decide_eq_false hc)))
          clear h1 h2 cx hc
          go_wp2_with fail
          go_round
          case rel => exact ⟨k + 1, by omega, by go_num, H⟩
          case measure => simp [intOf]; omega
    · have hi' : ¬ (k : Int) < (R.length : Int) := by omega
      have e1 : R.take k = R := List.take_of_length_le (by omega)
      have HR := hide (show subsB R C = false by rw [← e1]; exact unhide hall)
      clear HA hall HV e1
      go_wp2_with fail
      go_ret
      exact ⟨ret_bool (unhide HR).symm, rfl⟩
theorem subsume1 (v u : Value) (C : List Int) (R : List (List Int)) (c : Nat) (n : Int) (w : World) (hC : C.length ≤ 1048576) (hn : tot R ≤ 1048576) (hv : Sl w v C) (hu : Sls w u R) (hb : Box 26 w c (.int .i64 n) u) :
    Calls Tryd.prog 52 #[v, .pointer (some ⟨c, 0, none⟩)] w fun e w' => e = .returned (.bool (!subsB R C)) ∧ w.grownBy w' none := by
  have CX := hide (subsumed v u C R w hC hn hv hu)
  obtain ⟨va, vc, rfl, _⟩ := hv
  obtain ⟨a, cap, rfl, _⟩ := hu
  have x1 := hb.c1
  clear hb
  go_enter Tryd.func52, Tryd.ntmps52
  go_wp2_with fail
  refine (unhide CX).mono ?_; rintro e w2 ⟨rfl, hw⟩; have hw' := hw.symm; clear hw; subst hw'
  go_wp2_with fail
  go_ret
  exact ⟨rfl, grown_refl _⟩
theorem keptSub (v : Value) (n : Int) (R : List (List Int)) (lo hi c : Nat) (w : World) (hn : tot R ≤ 1048576) (hlo : lo ≤ w.heap.size) (hhi : hi ≤ w.heap.size) (hv : OwnS lo hi w v R) (hb : Box 26 w c (.int .i64 n) v) :
    Calls Tryd.prog 51 #[v, .func (.func 52) #[] #[.pointer (some ⟨c, 0, none⟩)]] w fun e w' => KeptO lo (sumL R) w e w' := by
  obtain ⟨D, rfl, hD⟩ := OwnD.of hv
  have hl := Nat.le_trans (css.tot_len _) hn
  rw [List.length_map] at hl
  refine (gb.kept_subsume v _ D (fun C => !subsB (D.map (·.2)) C) w hl (rd_own hD) ?_).mono ?_
  · intro p hp w1 g1
    exact subsume1 p.1 v p.2 _ c n w1 (len_in hn hp) hn ((hD.2.2.1 p hp).sl.kept g1 (.inl rfl)) (hv.kept g1).sls (hb.kept g1)
  · rintro e w' ⟨u, rfl, hk⟩
    exact ⟨u, rfl, kpt_own hD hlo hhi hk, hk.2⟩

set_option maxRecDepth 10000 in
set_option maxHeartbeats 4000000 in
theorem implSubsume (v : Value) (n : Int) (LL : List (List Int)) (w : World) (hT : Tab w) (hn : tot LL ≤ 1048576) (hv : Sls w v LL) :
    Calls Tryd.prog 11 #[.agg #[.int .i64 n, v]] w fun e w' => OutE (cnfB n LL) n (sumL (cnfS LL)) w e w' := by
  have hv0 := hv
  obtain ⟨a, cap, rfl, _⟩ := hv
  obtain ⟨g0, b0, b1⟩ := ini_all w (.int .i64 n) (.slice a LL.length cap)
  have C := hide (cso.implCnfSort _ n LL _ (hT.kept g0) hn (hv0.kept g0))
  have ht : tot (srtR n LL) ≤ 1048576 := Nat.le_trans (cso.srt_tot n LL) (by decide)
  have G0 := hide g0
  have B1 := hide b1
  clear hT hv0 g0 b0 b1
  go_enter Tryd.func11, Tryd.ntmps11
  go_wp2_with fail
  refine (unhide C).mono ?_; rintro e w1 ⟨q, rfl, o1, g1⟩
  obtain ⟨qa, qc, rfl⟩ := o1.len
  have G1 := hide (grown_trans (r := none) (unhide G0) g1)
  have bx1 := (unhide B1).kept g1
  have gs := (unhide G0).size
  have o1' := o1.sub gs (Nat.le_refl _)
  cases hb : cnfB n LL
  · obtain ⟨s1, s2, s3⟩ := cso.srt_no hb
    have E := hide hb
    rw [s3]
    generalize hN : srtN n LL = N at *
    generalize hR : srtR n LL = R at *
    have gA := World.grownBy_alloc w1 (.cells #[.int .i64 N, .slice qa R.length qc] 26) none
    have X1 := hide (bx1.kept gA)
    have GA := hide (grown_trans (r := none) (unhide G1) gA)
    have y0 := (bx1.kept gA).c0
    have y1 := (bx1.kept gA).c1
    have y2 := (bx1.kept gA).f 0
    have y3 := (bx1.kept gA).f 1
    clear hb C g1 bx1 B1 G0 o1 o1' s1 s2 s3 hN hR gA G1 gs
    go_wp2_with fail
    (try simp only [Exit.inBlock, Exit.then])
    exact out_no (unhide E) (unhide X1) (unhide GA) rfl rfl rfl rfl
  · obtain ⟨s1, s2, s3⟩ := cso.srt_yes hb
    have E := hide hb
    rw [s1, s2, s3]
    rw [s2] at o1' ht
    generalize hR : cnfS LL = R at *
    have gA := World.grownBy_alloc w1 (.cells #[.int .i64 n, .slice qa R.length qc] 26) none
    have X1 := hide (bx1.kept gA)
    have GA := hide (grown_trans (r := none) (unhide G1) gA)
    have bg := Box.new 26 w1 (.int .i64 n) (.slice qa R.length qc)
    have z0 := bg.c0
    have z1 := bg.c1
    have hsA : w.heap.size ≤ (w1.alloc (.cells #[.int .i64 n, .slice qa R.length qc] 26)).heap.size := (unhide GA).size
    have KP := hide (keptSub _ n R w.heap.size w1.heap.size w1.heap.size _ ht hsA gA.size (o1'.kept gA) bg)
    have BG := hide bg
    have HR := hide hR
    clear hb C g1 bx1 B1 G0 o1 o1' s1 s2 s3 hR gA G1 gs bg
    go_wp2_with fail
    refine (unhide KP).mono ?_; rintro e w3 ⟨q, rfl, o3, g3⟩
    obtain ⟨pa, pc, rfl⟩ := o3.len
    have bg3 := (unhide BG).kept g3
    have b3 := (unhide X1).kept g3
    clear z0 z1
    have z0 := bg3.c0
    have z1 := bg3.c1
    have y0 := b3.c0
    have y1 := b3.c1
    have y2 := b3.f 0
    have y3 := b3.f 1
    have O3 := hide o3
    have B3 := hide b3
    have G3 := hide (grown_trans (r := none) (unhide GA) g3)
    clear o3 g3 bg3 b3 KP BG X1 GA hsA
    have hr := unhide HR
    subst hr
    generalize hRR : sumL (cnfS LL) = RR at *
    have HRR := hide hRR
    clear hRR
    go_wp2_with fail
    (try simp only [Exit.inBlock, Exit.then])
    have hrr := unhide HRR
    subst hrr
    exact out_end (unhide E) (unhide B3) (unhide G3) (unhide O3) rfl rfl rfl rfl
end Go.Proofs.YtibpnocpafppaaaDoor.gm
