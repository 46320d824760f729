/- Part of the program: what it answers at every formula of the call's own that holds at most 2^20 values, and every list of at most 2^20 numbers. -/
import Derived.Test.YtibpnocpafppaaaDoorGj
import Derived.Test.YtibpnocpafppaaaDoorGb
import Derived.Test.YtibpnocpafppaaaDoorOp
namespace Go.Proofs.YtibpnocpafppaaaDoor.gj
open Go.ChangeShapes Go.WideShapes Go.ChangeAt Go.RowKit
open Go.Proofs.YtibpnocpafppaaaDoor.sl (Sl Own ints marks hide unhide ret_int ret_bool grown_refl grown_trans grown_drewN below_of of_below)
open Go.Proofs.YtibpnocpafppaaaDoor.css (Sls OwnS Outs tot sumLen marksS own_mono)
open Go.Proofs.YtibpnocpafppaaaDoor.cf (Box)
open Go.Proofs.YtibpnocpafppaaaDoor.ok (cnfB)
open Go.Proofs.YtibpnocpafppaaaDoor.lits (okB varI)
open Go.Proofs.YtibpnocpafppaaaDoor.cls (hasB)
open Go.Proofs.YtibpnocpafppaaaDoor.bset (setOf placeN)
open Go.Proofs.YtibpnocpafppaaaDoor.srt (oppN andN swp)
open Go.Proofs.YtibpnocpafppaaaDoor.gb (Rd Kpt flt KeptE)
open Go.Proofs.YtibpnocpafppaaaDoor.ge (outN outR OutE ini_all out_no out_yes OwnD)
set_option linter.unusedVariables false

/-- the literals of the variables of a list -/
def amN (V : List Int) : Nat := (setOf V &&& 93824992236885) ||| oppN (setOf V &&& 93824992236885)
theorem pos_bit : ∀ i, i < 48 → Nat.testBit 93824992236885 i = decide (i % 2 = 0) := by decide
theorem pl_neg {x : Int} (h : x < 0) (hx : okB x = true) : (bset.placeN x : Int) = -2 * x - 1 := by
  have := (lits.okB_iff).1 hx
  unfold bset.placeN lits.placeI
  repeat' split
  all_goals omega
theorem pl_pos {x : Int} (h : ¬ x < 0) (hx : okB x = true) : (bset.placeN x : Int) = 2 * x - 2 := by
  have := (lits.okB_iff).1 hx
  unfold bset.placeN lits.placeI
  repeat' split
  all_goals omega
theorem am_bit (V : List Int) (x : Int) (hx : okB x = true) : (amN V).testBit (placeN x) = hasB V (varI x) := by
  have hb := (lits.okB_iff).1 hx
  have h47 := bset.placeN_le hx
  unfold amN
  rw [Nat.testBit_or, Nat.testBit_and, srt.oppN_bit, Nat.testBit_and, pos_bit _ (by omega), decide_eq_true (show placeN x < 48 by omega), Bool.true_and, pos_bit _ (srt.swp_lt (by omega))]
  by_cases h0 : x < 0
  · have h2 : okB (-x) = true := (lits.okB_iff).2 (by omega)
    have p1 := pl_neg h0 hx
    have p2 := pl_pos (x := -x) (by omega) h2
    have e1 : placeN x % 2 = 1 := by omega
    have e2 : swp (placeN x) = placeN (-x) := by unfold srt.swp; rw [if_neg (by omega)]; omega
    have e3 : placeN (-x) % 2 = 0 := by omega
    have e4 : varI x = -x := by unfold lits.varI; rw [hx, if_pos rfl, if_pos h0]
    rw [e2, bset.setOf_has V (-x) h2, e3, e1, e4]
    simp
  · have p1 := pl_pos h0 hx
    have e1 : placeN x % 2 = 0 := by omega
    have e2 : swp (placeN x) % 2 = 1 := by unfold srt.swp; rw [if_pos e1]; omega
    have e4 : varI x = x := by unfold lits.varI; rw [hx, if_pos rfl, if_neg h0]
    rw [bset.setOf_has V x hx, e1, e2, e4]
    simp
theorem am_lt (V : List Int) : amN V < 2 ^ 48 := srt.or_lt (Nat.lt_of_le_of_lt Nat.and_le_left (bset.setOf_lt V)) (srt.oppN_lt _)
theorem am_in (V C : List Int) (hC : C.all okB = true) : (((andN (setOf C) (amN V) : Nat) : Int) == 0) = inB V C := by
  rw [Bool.eq_iff_iff]
  have ha := bset.setOf_lt C
  have hb := am_lt V
  rw [List.all_eq_true] at hC
  constructor
  · intro h
    have h0 : andN (setOf C) (amN V) = 0 := by have := eq_of_beq h; omega
    unfold inB
    rw [List.all_eq_true]
    intro x hx
    have ho := hC x hx
    have hs : (setOf C).testBit (placeN x) = true := by rw [bset.setOf_has C x ho]; unfold cls.hasB; exact decide_eq_true hx
    have h1 := srt.andN_bit (setOf C) (amN V) (placeN x) ha hb
    rw [h0, Nat.zero_testBit, hs, am_bit V x ho, Bool.true_and] at h1
    simpa using h1
  · intro h
    have h0 : andN (setOf C) (amN V) = 0 := by
      apply Nat.eq_of_testBit_eq
      intro i
      rw [srt.andN_bit _ _ _ ha hb, Nat.zero_testBit]
      cases e : (setOf C).testBit i
      · rfl
      · rw [bset.setOf_bit, List.any_eq_true] at e
        obtain ⟨x, hx, hq⟩ := e
        rw [Bool.and_eq_true, decide_eq_true_iff] at hq
        unfold inB at h
        rw [List.all_eq_true] at h
        rw [← hq.2, am_bit V x hq.1, h x hx]
        rfl
    rw [h0]
    rfl

theorem part1 (v : Value) (L : List Int) (am c : Nat) (w : World) (hL : L.length ≤ 1048576) (ha : am < 2 ^ 48) (hv : Sl w v L) (hc : w.cell? ⟨c, 0, none⟩ = some (.int .u64 (am : Int))) :
    Calls Tryd.prog 95 #[v, .pointer (some ⟨c, 0, none⟩)] w fun e w' => e = .returned (.bool (((andN (setOf L) am : Nat) : Int) == 0)) ∧ w.grownBy w' none := by
  have C := hide (fun m => bset.litsOf v L (w.drewN m) hL (hv.kept (grown_drewN w m) (.inl rfl)))
  have E := hide (srt.andN_eq (setOf L) am (bset.setOf_lt L) ha)
  obtain ⟨a, cap, rfl, _⟩ := hv
  clear ha
  go_enter Tryd.func95, Tryd.ntmps95
  go_wp2
  go_quiet (first | (go_at_call 93; exact Calls.quiet_of_same (unhide C _)))
  go_wp2
  go_ret
  exact ⟨ret_bool (by rw [← unhide E]), grown_drewN _ _⟩

/-- what is kept of lists of one's own is so too -/
theorem kpt_own {lo hi : Nat} {w w' : World} {v u : Value} {D : List (Value × List Int)} {B : List Int → Bool} (ho : OwnD lo hi w v D) (hlo : lo ≤ w.heap.size) (hhi : hi ≤ w.heap.size) (hk : Kpt w w' u (flt B D)) : OwnS lo w'.heap.size w' u ((D.map (·.2)).filter B) := by
  obtain ⟨h1, h2, h3, h4⟩ := ho
  obtain ⟨k1, k2⟩ := hk
  have hs := k2.size
  refine ⟨flt B D, gb.flt_map B D, own_mono k1 hlo, fun k e => (k1.lt k e).2, fun p hp => ?_, ?_⟩
  · have hp' : p ∈ D := by
      unfold gb.flt at hp
      exact (List.mem_filter.1 hp).1
    exact ⟨((h3 p hp').kept k2).1, fun k e => by have := (h3 p hp').2 k e; omega⟩
  · unfold gb.flt
    exact h4.sublist List.filter_sublist
theorem rd_own {lo hi : Nat} {w : World} {v : Value} {D : List (Value × List Int)} (ho : OwnD lo hi w v D) : Rd w v D := Rd.own (hi := hi) ho.1 (fun p hp => (ho.2.2.1 p hp).sl)
def KeptO (lo : Nat) (RR : List (List Int)) (w : World) (e : Ending) (w' : World) : Prop := ∃ u, e = .returned u ∧ OwnS lo w'.heap.size w' u RR ∧ w.grownBy w' none
theorem len_in {D : List (Value × List Int)} {n : Nat} (hn : tot (D.map (·.2)) ≤ n) {p : Value × List Int} (hp : p ∈ D) : p.2.length ≤ n := by
  obtain ⟨i, hi, e⟩ := List.getElem_of_mem hp
  have h := Nat.le_trans (css.tot_in (D.map (·.2)) i) hn
  rw [css.map2_getD hi, e] at h
  exact h
theorem keptPart (v : Value) (n : Int) (V : List Int) (LL : List (List Int)) (lo hi c : Nat) (w : World) (hn : tot LL ≤ 1048576) (hB : cnfB n LL = true) (hlo : lo ≤ w.heap.size) (hhi : hi ≤ w.heap.size) (hv : OwnS lo hi w v LL) (hc : w.cell? ⟨c, 0, none⟩ = some (.int .u64 (amN V : Int))) :
    Calls Tryd.prog 51 #[v, .func (.func 95) #[] #[.pointer (some ⟨c, 0, none⟩)]] w fun e w' => KeptO lo (LL.filter (inB V)) w e w' := by
  obtain ⟨D, rfl, hD⟩ := OwnD.of hv
  have hl := Nat.le_trans (css.tot_len _) hn
  rw [List.length_map] at hl
  refine (gb.kept_part v _ D (inB V) w hl (rd_own hD) ?_).mono ?_
  · intro p hp w1 g1
    have ho : p.2.all okB = true := by
      unfold ok.cnfB at hB
      rw [Bool.and_eq_true, Bool.and_eq_true, List.all_eq_true] at hB
      have h1 := hB.2 p.2 (List.mem_map_of_mem hp)
      unfold ok.clB at h1
      rw [Bool.and_eq_true, List.all_eq_true] at h1
      rw [List.all_eq_true]
      intro x hx
      have h2 := h1.1 x hx
      unfold ok.litIn at h2
      rw [Bool.and_eq_true] at h2
      exact h2.1
    have h := part1 p.1 p.2 (amN V) c w1 (len_in hn hp) (am_lt V) ((hD.2.2.1 p hp).sl.kept g1 (.inl rfl)) (g1.cell hc (fun e => by cases e))
    rw [am_in V p.2 ho] at h
    exact h
  · rintro e w' ⟨u, rfl, hk⟩
    exact ⟨u, rfl, kpt_own hD hlo hhi hk, hk.2⟩
end Go.Proofs.YtibpnocpafppaaaDoor.gj
