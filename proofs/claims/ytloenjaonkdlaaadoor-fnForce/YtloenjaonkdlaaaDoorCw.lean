/- What the program's Implies answers at every formula that holds at most 2^20 values and every list of as many; no other condition. -/
import Derived.Test.YtloenjaonkdlaaaDoorCu
import Derived.Test.YtloenjaonkdlaaaDoorCi
namespace Go.Proofs.YtloenjaonkdlaaaDoor.cw
open Go.ChangeShapes Go.WideShapes Go.ChangeAt Go.RowKit Go.Shelf
open Go.Proofs.YtloenjaonkdlaaaDoor.sl (Sl Own ints hide unhide ret_int ret_bool grown_refl grown_trans grown_drewN below_of of_below)
open Go.Proofs.YtloenjaonkdlaaaDoor.css (Sls tot)
open Go.Proofs.YtloenjaonkdlaaaDoor.cf (Box)
open Go.Proofs.YtloenjaonkdlaaaDoor.ok (cnfB clB)
open Go.Proofs.YtloenjaonkdlaaaDoor.tr (cnfT clT)
open Go.Proofs.YtloenjaonkdlaaaDoor.cnt (cntR le ev sp asg)
open Go.Proofs.YtloenjaonkdlaaaDoor.at_ (at_)
open Go.Proofs.YtloenjaonkdlaaaDoor.bset (setOf)
open Go.Proofs.YtloenjaonkdlaaaDoor.su (MadeU words meets)
open Go.Proofs.YtloenjaonkdlaaaDoor.ct (impB impN)
open Go.Proofs.YtloenjaonkdlaaaDoor.cu (form grow0 grow1 grow2)
set_option linter.unusedVariables false
attribute [local go_sem] Oper.semAt_some

theorem all_cnt (P : Nat) (h : Nat → Bool) : (List.range P).all h = decide (cntR P (fun k => !h k) = 0) := by
  unfold cnt.cntR
  rw [Bool.eq_iff_iff, decide_eq_true_iff, List.length_eq_zero_iff, List.filter_eq_nil_iff, List.all_eq_true]
  constructor
  · intro a k hk
    simp [a k hk]
  · intro a k hk
    simpa using a k hk
theorem all_both (n : Nat) (g : List Int → Bool) : (List.range (2 ^ n)).all (fun k => g (asg n k [])) = (List.range (2 ^ n)).all (fun j => g (le n j)) := by
  rw [all_cnt, all_cnt, cnt.cnt_both n (fun l => !g l)]
/-- what an assignment must be -/
def okAt (m : Nat) (LL : List (List Int)) (L : List Int) (j : Nat) : Bool := !(cnfT (le m j) LL) || clT (le m j) L
theorem impN_le (m : Nat) (LL : List (List Int)) (L : List Int) : impN m LL L = (List.range (2 ^ m)).all (okAt m LL L) := by
  unfold ct.impN okAt
  exact all_both m (fun l => !(cnfT l LL) || clT l L)
theorem clB_all {n : Int} {L : List Int} (h : clB n L = true) : L.all (ok.litIn n) = true := by
  unfold ok.clB at h
  rw [Bool.and_eq_true] at h
  exact h.1

/-- no word in common: the clause is false there -/
theorem wanted (m x : Nat) (L : List Int) (hm : m ≤ 14) (h : clB (m : Int) L = true) : (bits .and .u64 (at_ m x : Int) (setOf L : Int) == 0) = !(clT (le m x) L) := by
  rw [su.and_zero _ _ (at_.at_lt m x (by omega)) (bset.setOf_lt L), Nat.and_comm, ← at_.clause_at (clB_all h), Bool.not_not]

set_option maxRecDepth 100000 in
set_option maxHeartbeats 4000000 in
theorem implImplies (v u : Value) (n : Int) (LL : List (List Int)) (L : List Int) (w : World) (hn : tot LL ≤ 1048576) (hL : L.length ≤ 1048576) (hv : Sls w v LL) (hu : Sl w u L) :
    Calls Tryd.prog 34 #[.agg #[.int .i64 n, v], u] w fun e w' => e = .returned (.bool (impB n LL L)) ∧ w.grownBy w' none := by
  have g0 := World.grownBy_alloc w (.cells #[.int .i64 n, v] 34) none
  have g1 := grown_trans (r := none) g0 (World.grownBy_alloc (w.alloc (.cells #[.int .i64 n, v] 34)) (.cells #[.bool false] 4) none)
  have cc := ok.implCnfOk v n LL _ hn (hv.kept g1)
  have F0 := hide ((Box.new 34 w (.int .i64 n) v).kept (World.grownBy_alloc (w.alloc (.cells #[.int .i64 n, v] 34)) (.cells #[.bool false] 4) none))
  have R0 := Boxed.new (w.alloc (.cells #[.int .i64 n, v] 34)) 4 (.bool false)
  rw [World.size_alloc] at R0
  have RR := hide R0
  have G0 := hide g1
  have HV := hide hv
  have HU := hide hu
  clear hv g0 g1 hu R0
  refine (callsIn_wide (n := 3)).1 ?_
  refine callsIn_of_wp_marks Tryd.func34 rfl trivial ?_ rfl
  simp only [Tryd.ntmps34, List.size_toArray, List.length_cons, List.length_nil, Nat.reduceAdd, Nat.reduceSub, Array.replicate_succ, Array.replicate_zero, List.push_toArray, List.append_toArray, List.nil_append, List.cons_append]
  cases hb : cnfB n LL
  · rw [hb] at cc
    have CC := hide cc
    have E := hide (show impB n LL L = false by unfold ct.impB; rw [hb]; rfl)
    clear cc hb HV HU
    gi_wp2_with (refine ⟨trivial, ?_⟩; gi_at_call 87; refine (callsIn_wide.2 (unhide CC)).mono ?_; rintro e w2 ⟨rfl, g2⟩; have G2 := hide (grown_trans (r := none) (unhide G0) g2); have R2 := hide ((unhide RR).kept g2 (fun e => by cases e)); have r1 := (unhide R2).cell; have r2 := (unhide R2).frozen; clear g2)
    refine ⟨trivial, ?_⟩
    gi_wp2
    have cz := ((unhide R2).set (.bool false)).cell
    refine ⟨.bool false, by simp [results, Tryd.f34, go_sem, cz], ret_bool (unhide E).symm, grow1 (unhide G2) (sl.grown_setCell _ _ _ _) (by omega)⟩
  rw [hb] at cc
  have CC := hide cc
  have hn0 : 0 ≤ n ∧ LL.all (clB n) = true := by
    unfold ok.cnfB at hb
    simp only [Bool.and_eq_true, decide_eq_true_iff] at hb
    exact ⟨hb.1.1.1, hb.2⟩
  by_cases h14 : n ≤ 14
  · obtain ⟨m, rfl⟩ := Int.eq_ofNat_of_zero_le hn0.1
    have hm : m ≤ 14 := by omega
    have hall := hide hn0.2
    have h14' : ¬ (14 : Int) < (m : Int) := by omega
    have hp := ct.pow_bd hm
    have CL := fun w1 (g : w.grownBy w1 none) => ok.clauseOf u L (m : Int) w1 hL ((unhide HU).kept g (.inl rfl))
    cases hc : clB (m : Int) L
    · rw [hc] at CL
      have CB := hide CL
      have E := hide (show impB (m : Int) LL L = false by unfold ct.impB; rw [hc, Bool.and_false]; rfl)
      clear cc hb h14 hn0 hc CL HV
      gi_wp2_with (refine ⟨trivial, ?_⟩; gi_at_call 87; refine (callsIn_wide.2 (unhide CC)).mono ?_; rintro e w2 ⟨rfl, g2⟩; have G2 := hide (grown_trans (r := none) (unhide G0) g2); have F2 := hide ((unhide F0).kept g2); have x0 := (unhide F2).c0; have R2 := hide ((unhide RR).kept g2 (fun e => by cases e)); have r1 := (unhide R2).cell; have r2 := (unhide R2).frozen; clear g2 CC F0 G0 RR)
      gi_wp2_with (refine ⟨trivial, ?_⟩; gi_at_call 88; refine (callsIn_wide.2 (unhide CB w2 (unhide G2))).mono ?_; rintro e w3 ⟨rfl, hw⟩; have hw' := hw.symm; clear hw; subst hw')
      have cz := ((unhide R2).set (.bool false)).cell
      refine ⟨.bool false, by simp [results, Tryd.f34, go_sem, cz], ret_bool (unhide E).symm, grow1 (unhide G2) (sl.grown_setCell _ _ _ _) (by omega)⟩
    · rw [hc] at CL
      have CB := hide CL
      have HC := hide hc
      have E := hide (show impB (m : Int) LL L = (List.range (2 ^ m)).all (okAt m LL L) by unfold ct.impB; rw [hb, hc, decide_eq_true h14, Int.toNat_natCast, impN_le]; rfl)
      clear cc hb h14 hn0 hc CL
      gi_wp2_with (refine ⟨trivial, ?_⟩; gi_at_call 87; refine (callsIn_wide.2 (unhide CC)).mono ?_; rintro e w2 ⟨rfl, g2⟩; have G2 := hide (grown_trans (r := none) (unhide G0) g2); have F2 := hide ((unhide F0).kept g2); have x0 := (unhide F2).c0; have x1 := (unhide F2).c1; have R2 := hide ((unhide RR).kept g2 (fun e => by cases e)); clear g2 CC F0 G0 RR)
      gi_wp2_with (refine ⟨trivial, ?_⟩; gi_at_call 88; refine (callsIn_wide.2 (unhide CB w2 (unhide G2))).mono ?_; rintro e w3 ⟨rfl, hw⟩; have hw' := hw.symm; clear hw; subst hw'; clear CB)
      gi_wp2_with (refine ⟨trivial, ?_⟩; gi_at_call 91; refine (callsIn_wide.2 (su.setsOf _ LL _ hn ((unhide HV).kept (unhide G2)))).mono ?_; rintro e w3 ⟨u3, rfl, m3⟩; obtain ⟨a3, c3, rfl⟩ := form m3; have M3 := hide m3; clear m3 x0 x1)
      have gA := World.grownBy_alloc w3 (.cells #[.slice a3 LL.length c3] 86) none
      have GA := hide gA
      have LO := hide (bset.litsOf u L _ hL ((unhide HU).kept (grown_trans (r := none) (grown_trans (r := none) (unhide G2) (unhide M3).2) gA) (.inl rfl)))
      clear gA
      have F3 := hide (((unhide F2).kept (unhide M3).2).kept (unhide GA))
      gi_wp2_with (refine ⟨trivial, ?_⟩; gi_at_call 92; refine (callsIn_wide.2 (unhide LO)).mono ?_; rintro e w4 ⟨rfl, h4⟩; have H4 := hide h4; have F4 : Hid (Box 34 (w4.alloc (.cells #[.int .u64 (setOf L : Int)] 89)) w.heap.size (.int .i64 (m : Int)) v) := (by rw [h4]; exact (unhide F3).kept (World.grownBy_alloc _ _ _)); have y0 := (unhide F4).c0; clear h4)
      have TS := hide (ts.trueSets m (w4.alloc (.cells #[.int .u64 (setOf L : Int)] 89)) hm)
      gi_wp2_with (refine ⟨trivial, ?_⟩; gi_at_call 93; refine (callsIn_wide.2 (unhide TS)).mono ?_; rintro e w5 ⟨rfl, h5⟩; have H5 := hide h5; clear h5)
      try simp only [World.size_alloc]
      have hlen : (LL.map setOf).length = LL.length := List.length_map ..
      have h4 := unhide H4
      have h5 := unhide H5
      rw [hlen] at M3
      have s4 : w3.heap.size < w4.heap.size := by
        rw [h4]
        simp
      have g5 : w4.grownBy w5 none := by
        rw [h5]
        exact grown_trans (World.grownBy_alloc _ _ _) (World.grownBy_alloc _ _ _)
      have g4 : w3.grownBy w4 none := by
        rw [h4]
        exact unhide GA
      have b1 : Boxed w5 w3.heap.size 86 (.slice a3 LL.length c3) := by
        have : Boxed w4 w3.heap.size 86 (.slice a3 LL.length c3) := by
          rw [h4]
          exact Boxed.new w3 _ _
        exact this.kept g5 (fun e => by cases e)
      have b2 : Boxed w5 w4.heap.size 89 (.int .u64 (setOf L : Int)) := by
        rw [h5]
        exact (Boxed.new w4 _ _).alloc _
      have b3 : Boxed w5 (w4.heap.size + 1) 89 (.int .u64 (ev m : Int)) := by
        rw [h5]
        have := Boxed.new (w4.alloc (.cells #[.int .u64 (setOf L : Int)] 89)) 89 (.int .u64 (ev m : Int))
        rw [World.size_alloc] at this
        exact this
      have g25 := grown_trans (r := none) (grown_trans (r := none) (unhide M3).2 g4) g5
      have b4 : Boxed w5 (w.heap.size + 1) 4 (.bool false) := (unhide R2).kept g25 (fun e => by cases e)
      have G5 := hide (grown_trans (r := none) (unhide G2) g25)
      have ro : w5.ownsRow w2.heap.size 89 1 (.slice a3 LL.length c3) (LL.map setOf).length (words (LL.map setOf)) := (unhide M3).1.kept (grown_trans (r := none) g4 g5) (by
        cases (Value.slice a3 LL.length c3).ownBlock with
        | none => exact .inl rfl
        | some k => exact .inr (fun e => by cases e))
      have RO := hide ro
      have hs5 : w4.heap.size + 1 < w5.heap.size := b3.lt
      have hc3 : w.heap.size + 1 < w3.heap.size := ((unhide R2).kept (unhide M3).2 (fun e => by cases e)).lt
      clear h5 H5 h4 H4 g5 g4 g25 M3 F3 F4 TS ro G2 F2 HV HU GA LO R2 y0
      refine wpIn_rangeFunc_ownF rfl (by omega) (gf := 133) (lb := #[.pointer (some ⟨w4.heap.size + 1, 0, none⟩)]) rfl trivial (enters_of Tryd.func133 (by kernel_rfl) rfl)
        (it.seq Fence.wide _ trivial rfl (by omega) (w4.heap.size + 1) m hm w5 b3.lt b3.cell) it.kp_t (it.kp_b b3.lt) (Below.refl _ _) (fun _ => rfl)
        (fun pre W => Boxed W (w.heap.size + 1) 4 (.bool false) ∧ (∀ j ∈ pre, okAt m LL L j = true) ∧ w5.grownBy W (some (w.heap.size + 1)))
        (fun c pre W => Boxed W (w.heap.size + 1) 4 (.bool false) ∧ (c = .ret ∧ ∃ j ∈ pre, okAt m LL L j = false) ∧ w5.grownBy W (some (w.heap.size + 1)))
        (fun s A B row hs hg hr => ⟨hs.1.kept hg (fun e => by have := (hr _ e.symm).1; omega), hs.2.1, grow2 hs.2.2 hg (fun r e => .inl (hr r e).1)⟩)
        (fun c s A B row hs hg hr => ⟨hs.1.kept hg (fun e => by have := (hr _ e.symm).1; omega), hs.2.1, grow2 hs.2.2 hg (fun r e => .inl (hr r e).1)⟩)
        ⟨b4, (fun j h => by cases h), grow0 _ _⟩
        (fun x => { tmps := #[.agg #[.int .i64 (m : Int), v], u, .pointer (some ⟨w.heap.size, 0, none⟩), undef, .pointer (some ⟨w.heap.size + 1, 0, none⟩), .pointer (some ⟨w3.heap.size, 0, none⟩), .pointer (some ⟨w4.heap.size, 0, none⟩), .int .u64 (at_ m x : Int), .agg #[.int .i64 (m : Int), v], .bool true, .bool false, .bool false, .pointer (some ⟨w.heap.size, 0, none⟩), .int .i64 (m : Int), .bool (decide ((14 : Int) < (m : Int))), .bool (decide ((14 : Int) < (m : Int))), .bool (decide ((14 : Int) < (m : Int))), u, .pointer (some ⟨w.heap.size, 0, none⟩), .int .i64 (m : Int), .bool true, .bool false, .bool (decide ((14 : Int) < (m : Int))), .pointer (some ⟨w.heap.size, 1, none⟩), v, .slice a3 LL.length c3, u, .int .u64 (setOf L : Int), .pointer (some ⟨w.heap.size, 0, none⟩), .int .i64 (m : Int), .func (.func 133) #[] #[.pointer (some ⟨w4.heap.size + 1, 0, none⟩)], .int .u64 (at_ m x : Int), undef, undef, undef, undef, undef, undef, undef, undef, undef], defers := [] }) ?assign ?body ?done ?stop
      case assign =>
        intro l x W K hK
        gi_wp2
        exact hK
      case body =>
        rintro l pre x W ⟨hb4, hp', hg⟩ hlt
        have c1 : W.cell? ⟨w3.heap.size, 0, none⟩ = some (.slice a3 LL.length c3) := (b1.kept hg (fun e => by simp at e; omega)).cell
        have c2 : W.cell? ⟨w4.heap.size, 0, none⟩ = some (.int .u64 (setOf L : Int)) := (b2.kept hg (fun e => by simp at e; omega)).cell
        have c4 := hb4.cell
        have f4 := hb4.frozen
        have CM := hide (su.meetsAll (.slice a3 LL.length c3) (LL.map setOf) (at_ m x) w2.heap.size W (by rw [hlen]; exact Nat.le_trans (css.tot_len LL) hn) (by
            intro s hs
            obtain ⟨L, _, rfl⟩ := List.mem_map.1 hs
            exact bset.setOf_lt L) (at_.at_lt m x (by omega)) ((unhide RO).kept hg (.inr (b4.not_row (by decide) (unhide RO)).symm)))
        rw [at_.meets_at (unhide hall)] at CM
        have ez := wanted m x L hm (unhide HC)
        have more : okAt m LL L x = true → ∀ j ∈ pre ++ [x], okAt m LL L j = true := fun h j hj => (List.mem_append.1 hj).elim (hp' j) (fun e => by rw [List.mem_singleton.1 e]; exact h)
        have kk : ∀ u, it.Kp (w4.heap.size + 1) W (W.setCell ⟨w.heap.size + 1, 0, none⟩ u) := fun u => World.cell?_of_block (a := ⟨w4.heap.size + 1, 0, none⟩) ((sl.grown_setCell W (w.heap.size + 1) 0 u).block _ (Nat.lt_of_lt_of_le b3.lt hg.size) (fun e => by simp at e; omega))
        cases hz : clT (le m x) L
        · rw [hz] at ez
          cases hy : cnfT (le m x) LL
          · rw [hy] at CM
            have HB := hide hb4
            have MO := hide (more (by unfold okAt; rw [hy]; rfl))
            have HG := hide hg
            clear more hz hy kk hb4 hg hp'
            gi_wp2_with (refine ⟨trivial, ?_⟩; gi_at_call 94; refine (CallsIn.inRound l (callsIn_wide.2 (unhide CM))).mono ?_; rintro e w6 ⟨rfl, hw⟩; have hw' := hw.symm; clear hw; subst hw')
            exact ⟨KeepsOthers.refl _, rfl, unhide HB, unhide MO, unhide HG⟩
          · rw [hy] at CM
            have HB := hide hb4
            have NO := hide (show okAt m LL L x = false by unfold okAt; rw [hy, hz]; rfl)
            have HG := hide hg
            clear more hz hy kk hb4 hg hp'
            gi_wp2_with (refine ⟨trivial, ?_⟩; gi_at_call 94; refine (CallsIn.inRound l (callsIn_wide.2 (unhide CM))).mono ?_; rintro e w6 ⟨rfl, hw⟩; have hw' := hw.symm; clear hw; subst hw')
            exact ⟨KeepsOthers.setCell _ _ _, (unhide HB).set _, ⟨rfl, x, List.mem_append.2 (.inr (List.mem_singleton.2 rfl)), unhide NO⟩, grow2 (unhide HG) (sl.grown_setCell _ _ _ _) (fun r e => .inr (by cases e; rfl))⟩
        · rw [hz] at ez
          have HB := hide hb4
          have MO := hide (more (by unfold okAt; rw [hz, Bool.or_true]))
          have HG := hide hg
          clear more hz kk hb4 hg hp'
          gi_wp2
          refine ⟨trivial, ?_⟩
          gi_wp2
          exact ⟨KeepsOthers.refl _, rfl, unhide HB, unhide MO, unhide HG⟩
      case done =>
        rintro D ys W hD rfl ⟨hb4, hp', hg⟩ hK
        have c4 := hb4.cell
        have f4 := hb4.frozen
        have e2 : true = impB (m : Int) LL L := by
          rw [unhide E]
          exact (List.all_eq_true.2 hp').symm
        have HB := hide hb4
        have E2 := hide e2
        clear e2 hp' hb4
        gi_wp2
        have hK' := (KeepsOthers.setCell W ⟨w.heap.size + 1, 0, none⟩ (.bool true)).same D _ hK rfl
        refine ⟨by simp, .inl ⟨_, _, rfl, run_takeDeferred hK', ?_⟩⟩
        have gz := grownBy_putObj' (W.setCell ⟨w.heap.size + 1, 0, none⟩ (.bool true)) D (.deferred none)
        have cz := (((unhide HB).set (.bool true)).kept gz (fun e => by cases e; omega)).cell
        refine ⟨.bool true, by simp [results, Tryd.f34, go_sem, cz], ret_bool (unhide E2), grow1 (unhide G5) (grow2 (grow2 hg (sl.grown_setCell W (w.heap.size + 1) 0 (.bool true)) (fun r e => .inr (by cases e; rfl))) gz (fun r e => .inl (by cases e; exact hD))) (by omega)⟩
      case stop =>
        rintro D c pre W hD hpre ⟨hb4, ⟨rfl, j, hj, hf⟩, hg⟩ hK
        have e2 : false = impB (m : Int) LL L := by
          rw [unhide E]
          exact (List.all_eq_false.2 ⟨j, hpre.subset hj, by rw [hf]; decide⟩).symm
        have E2 := hide e2
        clear e2 hf hj
        gi_wp2
        refine ⟨by simp, .inl ⟨_, _, rfl, run_takeDeferred hK, ?_⟩⟩
        have gz := grownBy_putObj' W D (.deferred none)
        have cz := (hb4.kept gz (fun e => by cases e; omega)).cell
        refine ⟨.bool false, by simp [results, Tryd.f34, go_sem, cz], ret_bool (unhide E2), grow1 (unhide G5) (grow2 hg gz (fun r e => .inl (by cases e; exact hD))) (by omega)⟩
  · have E := hide (show impB n LL L = false by unfold ct.impB; rw [decide_eq_false h14, Bool.and_false]; rfl)
    have h14' : (14 : Int) < n := by omega
    clear cc hb HV hn0
    gi_wp2_with (refine ⟨trivial, ?_⟩; gi_at_call 87; refine (callsIn_wide.2 (unhide CC)).mono ?_; rintro e w2 ⟨rfl, g2⟩; have G2 := hide (grown_trans (r := none) (unhide G0) g2); have x0 := ((unhide F0).kept g2).c0; have R2 := hide ((unhide RR).kept g2 (fun e => by cases e)); have r1 := (unhide R2).cell; have r2 := (unhide R2).frozen; clear g2)
    refine ⟨trivial, ?_⟩
    gi_wp2
    have cz := ((unhide R2).set (.bool false)).cell
    refine ⟨.bool false, by simp [results, Tryd.f34, go_sem, cz], ret_bool (unhide E).symm, grow1 (unhide G2) (sl.grown_setCell _ _ _ _) (by omega)⟩
end Go.Proofs.YtloenjaonkdlaaaDoor.cw
