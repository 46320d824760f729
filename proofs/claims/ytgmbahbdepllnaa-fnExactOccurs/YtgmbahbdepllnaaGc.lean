/- What Occurs and Horn (of the program and of its model) answer at every formula that holds at most 2^20 values; no other condition. -/
import Derived.Test.YtgmbahbdepllnaaGb
import Derived.Test.YtgmbahbdepllnaaOk
import Derived.Test.YtgmbahbdepllnaaWo
import Derived.Deep.RegionHeld3
namespace Go.Proofs.Ytgmbahbdepllnaa.gc
open Go.ChangeShapes Go.WideShapes Go.ChangeAt Go.RowKit
open Go.Proofs.Ytgmbahbdepllnaa.sl (Sl Own ints hide unhide ret_int ret_bool grown_refl grown_trans grown_drewN)
open Go.Proofs.Ytgmbahbdepllnaa.css (Sls OwnS tot)
open Go.Proofs.Ytgmbahbdepllnaa.cf (Box)
open Go.Proofs.Ytgmbahbdepllnaa.ok (cnfB all_hit all_step all_end)
open Go.Proofs.Ytgmbahbdepllnaa.cls (hasB)
open Go.Proofs.Ytgmbahbdepllnaa.wo (Made)
open Go.Proofs.Ytgmbahbdepllnaa.gb (Rd Kpt flt KeptE)
set_option linter.unusedVariables false

/-- how many clauses have x -/
def occN (x : Int) (LL : List (List Int)) : Nat := (LL.filter (hasB · x)).length
theorem occ_step (x : Int) (LL : List (List Int)) (k : Nat) (h : k < LL.length) : occN x (LL.take (k + 1)) = occN x (LL.take k) + (if hasB (LL.getD k []) x then 1 else 0) := by
  unfold occN
  rw [List.take_succ_eq_append_getElem h, List.filter_append, List.length_append, show LL.getD k [] = LL[k] by simp [h]]
  cases e : hasB LL[k] x <;> simp [e]
theorem occ_end (x : Int) (LL : List (List Int)) (k : Nat) (h : ¬ k < LL.length) : occN x (LL.take k) = occN x LL := by rw [List.take_of_length_le (by omega)]
theorem occ_le (x : Int) (LL : List (List Int)) : occN x LL ≤ LL.length := List.length_filter_le _ _
def occI (n x : Int) (LL : List (List Int)) : Int := if cnfB n LL then (occN x LL : Int) else 0

theorem specOccurs (v : Value) (n x : Int) (LL : List (List Int)) (w : World) (hn : tot LL ≤ 1048576) (hv : Sls w v LL) :
    Calls Try.prog 34 #[.agg #[.int .i64 n, v], .int .i64 x] w fun e w' => e = .returned (.int .i64 (occI n x LL)) ∧ w.grownBy w' none := by
  have hv0 := hv
  obtain ⟨a, cap, rfl, _⟩ := hv
  have g0 := World.grownBy_alloc w (.cells #[.int .i64 n, .slice a LL.length cap] 26) none
  have C := hide (fun w1 (g : w.grownBy w1 none) => ok.specCnfOk _ n LL w1 hn (hv0.kept g))
  have hl := Nat.le_trans (css.tot_len LL) hn
  have G0 := hide g0
  have bx := hide (cf.Box.new 26 w (.int .i64 n) (.slice a LL.length cap))
  have HV := hide hv0
  clear g0 hv0
  go_enter Try.func34, Try.ntmps34
  go_wp2_with fail
  go_loopw [5, 6] (fun c i wr => ∃ m k : Nat, k ≤ LL.length ∧ m ≤ k ∧ (0 < k → cnfB n LL = true) ∧ c = .int .i64 (m : Int) ∧ i = .int .i64 k ∧ Hid (occN x (LL.take k) = m) ∧ Hid ((w.alloc (.cells #[.int .i64 n, .slice a LL.length cap] 26)).grownBy wr none)) (fun c i _ => LL.length - (intOf i).toNat)
  case atStart => exact ⟨0, 0, Nat.zero_le _, Nat.zero_le _, (fun h => by omega), rfl, rfl, (by show _ = _; simp [occN]), grown_refl _⟩
  case round =>
    obtain ⟨m, k, hk, hm, hz, rfl, rfl, hall, hg⟩ := hrel
    have g1 := grown_trans (r := none) (unhide G0) (unhide hg)
    have bk := (unhide bx).kept (unhide hg)
    have x0 := bk.c0
    have x1 := bk.c1
    by_cases hlt : k < LL.length
    · obtain ⟨a', cap', e', ha⟩ := (unhide HV).kept g1
      cases e'
      rcases ha with h | ⟨b, off, rfl, hb, hcb⟩
      · rw [h] at hlt
        simp at hlt
      · have hi' : (k : Int) < (LL.length : Int) := by omega
        have hid : decide ((k : Int) < (LL.length : Int)) = true := decide_eq_true hi'
        obtain ⟨u, c1, hs⟩ := hcb k hlt
        have cc := unhide C wr g1
        have bk' := hide bk
        have c1' := hide c1
        have hs' := hide hs
        have h1 := hide (occ_step x LL k hlt)
        have hL := Nat.le_trans (css.tot_in LL k) hn
        have Z := hide hz
        have G1 := hide g1
        clear hcb hz c1 hs g1 bk
        cases hb' : cnfB n LL
        · have E := hide (show occI n x LL = 0 by simp [occI, hb'])
          have K0 : k = 0 := by
            rcases Nat.eq_zero_or_pos k with h | h
            · exact h
            · have := unhide Z h
              rw [hb'] at this
              cases this
          rw [hb'] at cc
          have CC := hide cc
          have M0 : m = 0 := by omega
          subst K0 M0
          clear cc hb' Z C
          go_wp2_with fail
          refine (unhide CC).mono ?_; rintro e w1 ⟨rfl, g2⟩
          have G2 := hide (grown_trans (r := none) (unhide G1) g2)
          clear g2
          go_wp2_with fail
          go_ret
          exact ⟨ret_int (unhide E).symm, unhide G2⟩
        · rw [hb'] at cc
          have CC := hide cc
          have Y := hide hb'
          clear cc hb' Z C
          go_wp2_with fail
          refine (unhide CC).mono ?_; rintro e w1 ⟨rfl, g2⟩
          have G2 := hide (grown_trans (r := none) (unhide hg) g2)
          have bk2 := (unhide bk').kept g2
          have y0 := bk2.c0
          have y1 := bk2.c1
          have c2 := g2.cell (unhide c1') (fun e => by cases e)
          have hs2 := (unhide hs').kept g2 (.inl rfl)
          have h1' := unhide h1
          rw [unhide hall] at h1'
          generalize LL.getD k [] = L at *
          obtain ⟨ua, uc, rfl, _⟩ := hs2
          have ch := cls.specClauseHas _ L x w1 hL ((unhide hs').kept g2 (.inl rfl))
          have hm9 : m ≤ 1048576 := by omega
          clear g2 bk2 hall c1' hs' bk' h1 x0 x1 CC
          cases hx : hasB L x
          · rw [hx] at ch h1'
            have CH := hide ch
            have H := hide h1'
            clear ch h1' hx
            go_wp2_with fail
            refine (unhide CH).mono ?_; rintro e w2 ⟨rfl, hw⟩; have hw' := hw.symm; clear hw; subst hw'
            go_wp2_with fail
            go_roundw
            case rel => exact ⟨m, k + 1, by omega, by omega, (fun _ => by first | trivial | exact unhide Y), rfl, by go_num, by show _ = _; simpa using unhide H, G2⟩
            case measure => simp [intOf]; omega
          · rw [hx] at ch h1'
            have CH := hide ch
            have H := hide h1'
            clear ch h1' hx
            go_wp2_with fail
            refine (unhide CH).mono ?_; rintro e w2 ⟨rfl, hw⟩; have hw' := hw.symm; clear hw; subst hw'
            go_wp2_with fail
            go_roundw
            case rel => exact ⟨m + 1, k + 1, by omega, by omega, (fun _ => by first | trivial | exact unhide Y), by go_num, by go_num, by show _ = _; simpa using unhide H, G2⟩
            case measure => simp [intOf]; omega
    · have hi' : ¬ (k : Int) < (LL.length : Int) := by omega
      have hid : decide ((k : Int) < (LL.length : Int)) = false := decide_eq_false hi'
      have E := hide (show occI n x LL = (m : Int) by
        have e1 := (occ_end x LL k hlt).symm.trans (unhide hall)
        unfold occI
        cases hb' : cnfB n LL
        · rcases Nat.eq_zero_or_pos k with h | h
          · simp; omega
          · have := hz h
            rw [hb'] at this
            cases this
        · simp [e1])
      have G1 := hide g1
      clear hall hz g1 C HV bk
      go_wp2_with fail
      go_ret
      exact ⟨ret_int (unhide E).symm, unhide G1⟩

theorem having1 (v : Value) (L : List Int) (x : Int) (c : Nat) (w : World) (hL : L.length ≤ 1048576) (hv : Sl w v L) (hc : w.cell? ⟨c, 0, none⟩ = some (.int .i64 x)) :
    Calls Try.prog 96 #[v, .pointer (some ⟨c, 0, none⟩)] w fun e w' => e = .returned (.bool (hasB L x)) ∧ w' = w := by
  have C := hide (cls.implClauseHas v L x w hL hv)
  obtain ⟨a, cap, rfl, _⟩ := hv
  go_enter Try.func96, Try.ntmps96
  go_wp2_with fail
  refine (unhide C).mono ?_; rintro e w2 ⟨rfl, hw⟩; have hw' := hw.symm; clear hw; subst hw'
  go_wp2_with fail
  go_ret
  exact ⟨rfl, rfl⟩
theorem having (x : Int) (w : World) : Calls Try.prog 73 #[.int .i64 x] w fun e w' => e = .returned (.func (.func 96) #[] #[.pointer (some ⟨w.heap.size, 0, none⟩)]) ∧ w' = w.alloc (.cells #[.int .i64 x] 3) := by
  go_enter Try.func73, Try.ntmps73
  go_wp2_with fail
  go_ret
  exact ⟨rfl, rfl⟩
theorem cell_new (w : World) (x : Value) (t : TypeId) : (w.alloc (.cells #[x] t)).cell? ⟨w.heap.size, 0, none⟩ = some x := by
  have h : (w.alloc (.cells #[x] t)).heap[w.heap.size]? = some (.cells #[x] t) := by show (w.heap.push _)[w.heap.size]? = _; simp
  unfold World.cell?
  rw [h]
  rfl
/-- kept, by having(x) -/
theorem keptHaving (v : Value) (x : Int) (LL : List (List Int)) (c : Nat) (w : World) (hn : tot LL ≤ 1048576) (hv : Sls w v LL) (hc : w.cell? ⟨c, 0, none⟩ = some (.int .i64 x)) :
    Calls Try.prog 57 #[v, .func (.func 96) #[] #[.pointer (some ⟨c, 0, none⟩)]] w fun e w' => ∃ a cap, e = .returned (.slice a (occN x LL) cap) ∧ w.grownBy w' none := by
  obtain ⟨D, rfl, hr⟩ := Rd.of hv
  have hl := Nat.le_trans (css.tot_len _) hn
  rw [List.length_map] at hl
  refine (gb.kept_having v _ D (hasB · x) w hl hr ?_).mono ?_
  · intro p hp w1 g1
    obtain ⟨i, hi, e⟩ := List.getElem_of_mem hp
    have hL : p.2.length ≤ 1048576 := by
      have h := Nat.le_trans (css.tot_in (D.map (·.2)) i) hn
      rw [css.map2_getD hi, e] at h
      exact h
    obtain ⟨a, cap, e, _, hs⟩ := hr
    exact (having1 p.1 p.2 x c w1 hL ((hs p hp).kept g1 (.inl rfl)) (g1.cell hc (fun e => by cases e))).mono (fun e w' h => ⟨h.1, by rw [h.2]; exact grown_refl _⟩)
  · rintro e w' ⟨u, rfl, hk⟩
    obtain ⟨a, cap, rfl⟩ := hk.len
    refine ⟨a, cap, ?_, hk.2⟩
    have : (flt (hasB · x) D).length = occN x (D.map (·.2)) := by
      unfold occN
      rw [← gb.flt_map, List.length_map]
    rw [this]

theorem implOccurs (v : Value) (n x : Int) (LL : List (List Int)) (w : World) (hn : tot LL ≤ 1048576) (hv : Sls w v LL) :
    Calls Try.prog 35 #[.agg #[.int .i64 n, v], .int .i64 x] w fun e w' => e = .returned (.int .i64 (occI n x LL)) ∧ w.grownBy w' none := by
  have hv0 := hv
  obtain ⟨a, cap, rfl, _⟩ := hv
  have g0 := World.grownBy_alloc w (.cells #[.int .i64 n, .slice a LL.length cap] 26) none
  have C := hide (ok.implCnfOk _ n LL _ hn (hv0.kept g0))
  have hl := Nat.le_trans (css.tot_len LL) hn
  have hol := Nat.le_trans (occ_le x LL) hl
  have G0 := hide g0
  have bx := hide (cf.Box.new 26 w (.int .i64 n) (.slice a LL.length cap))
  have HV := hide hv0
  clear g0 hv0
  go_enter Try.func35, Try.ntmps35
  go_wp2_with fail
  refine (unhide C).mono ?_; rintro e w1 ⟨rfl, g1⟩
  have G1 := hide (grown_trans (r := none) (unhide G0) g1)
  have bx1 := (unhide bx).kept g1
  have x0 := bx1.c0
  have x1 := bx1.c1
  have BX := hide bx1
  clear C g1 bx bx1
  cases hb : cnfB n LL
  · have E := hide (show occI n x LL = 0 by simp [occI, hb])
    clear hb
    go_wp2_with fail
    go_ret
    exact ⟨ret_int (unhide E).symm, unhide G1⟩
  · have E := hide (show occI n x LL = (occN x LL : Int) by simp [occI, hb])
    have HK := hide (fun (w2 : World) (c : Nat) (g : w1.grownBy w2 none) (hc : w2.cell? ⟨c, 0, none⟩ = some (.int .i64 x)) => keptHaving _ x LL c w2 hn (((unhide HV).kept (unhide G1)).kept g) hc)
    clear hb HV G0
    generalize occN x LL = o at *
    go_wp2_with fail
    go_region_held3 (fun w' => w'.cell? ⟨w.heap.size, 1, none⟩ = some (.slice a LL.length cap)) (go_keep) (first
      | (go_at_call 73; refine (having x _).mono ?_; rintro e w2 ⟨rfl, hw⟩; have GW : Hid (w1.grownBy w2 none) := (by rw [hw]; exact grown_trans (r := none) (cf.grown_drew w1 none) (World.grownBy_alloc _ _ _)); have HC : Hid (w2.cell? ⟨w1.heap.size, 0, none⟩ = some (.int .i64 x)) := (by rw [hw]; exact cell_new _ _ _); have y1 := ((unhide BX).kept (unhide GW)).c1; clear hw)
      | (go_at_call 57; refine (unhide HK w2 _ (unhide GW) (unhide HC)).mono ?_; rintro e w3 ⟨ka, kc, rfl, g3⟩; have G3 := hide (grown_trans (r := none) (unhide G1) (grown_trans (r := none) (unhide GW) g3)); have y2 := ((unhide BX).kept (grown_trans (r := none) (unhide GW) g3)).c1; clear g3))
    all_goals
      go_wp2_with fail
      go_ret
      exact ⟨ret_int (unhide E).symm, unhide G3⟩

/-- how many numbers of a list are above 0 -/
def posN (C : List Int) : Nat := (C.filter fun x => decide (0 < x)).length
theorem pos_step (C : List Int) (k : Nat) (h : k < C.length) : posN (C.take (k + 1)) = posN (C.take k) + (if 0 < C.getD k 0 then 1 else 0) := by
  unfold posN
  rw [List.take_succ_eq_append_getElem h, List.filter_append, List.length_append, show C.getD k 0 = C[k] by simp [h]]
  by_cases e : 0 < C[k] <;> simp [e]
theorem pos_end (C : List Int) (k : Nat) (h : ¬ k < C.length) : posN (C.take k) = posN C := by rw [List.take_of_length_le (by omega)]
theorem pos_le (C : List Int) : posN C ≤ C.length := List.length_filter_le _ _
def oneB (C : List Int) : Bool := decide (posN C ≤ 1)
def hornB (n : Int) (LL : List (List Int)) : Bool := cnfB n LL && LL.all oneB
end Go.Proofs.Ytgmbahbdepllnaa.gc
