/- The shelf filled: whether a cache is right, as mathematics; fill, shelfOf and CacheOk of the program; no condition but on sizes. -/
import Derived.Test.YtgjakiliepfjiaaUf
namespace Go.Proofs.Ytgjakiliepfjiaa.ua
open Go.ChangeShapes Go.WideShapes Go.ChangeAt Go.RowKit Go.Maps Go.MuLone
open Go.Proofs.Ytgjakiliepfjiaa.sl (Sl Own ints marks hide unhide ret_int ret_bool grown_refl grown_trans grown_drewN below_of of_below)
open Go.Proofs.Ytgjakiliepfjiaa.css (Outs outs_trans outs_none outs_by outs_refl own_mono own_sub own_outs own_kind)
open Go.Proofs.Ytgjakiliepfjiaa.yb (Box4)
open Go.Proofs.Ytgjakiliepfjiaa.cf (Box)
set_option linter.unusedVariables false
/-- whether a cost is right -/
def costB (c : Int) : Bool := decide (0 ≤ c) && decide (c ≤ 1000000)
/-- whether none of the first n has the digest d -/
def newTo (E : List Kn) (d : ByteArray) : Nat → Bool
  | 0 => true
  | n + 1 => newTo E d n && !((E.getD n kz).dg.data.toList == d.data.toList)
/-- whether the first n are right -/
def okTo (E : List Kn) : Nat → Bool
  | 0 => true
  | n + 1 => okTo E n && (newTo E (E.getD n kz).dg n && costB (E.getD n kz).cost)
/-- whether a cache is right -/
def okC (room : Int) (E : List Kn) : Bool := (decide (0 ≤ room) && decide (room ≤ 50) && decide ((E.length : Int) ≤ room)) && okTo E E.length
theorem dg_eq {a b : ByteArray} : (a.data.toList == b.data.toList) = true ↔ a = b := by
  rw [beq_iff_eq]
  constructor
  · intro h
    apply ByteArray.ext
    exact Array.toList_inj.1 h
  · rintro rfl
    rfl
theorem newTo_iff (E : List Kn) (d : ByteArray) : ∀ n, newTo E d n = true ↔ ∀ i, i < n → (E.getD i kz).dg ≠ d
  | 0 => ⟨fun _ i hi => by omega, fun _ => rfl⟩
  | n + 1 => by
    unfold newTo
    rw [Bool.and_eq_true, newTo_iff E d n, Bool.not_eq_true', ← Bool.not_eq_true, dg_eq]
    constructor
    · rintro ⟨h1, h2⟩ i hi
      rcases Nat.lt_succ_iff_lt_or_eq.1 hi with h | rfl
      · exact h1 i h
      · exact h2
    · intro h
      exact ⟨fun i hi => h i (by omega), h n (by omega)⟩
theorem newTo_dm (E : List Kn) (d : ByteArray) (n : Nat) : Maps.has (dmAt E n) (key d) = !(newTo E d n) := by
  rw [Bool.eq_iff_iff, has_dm, Bool.not_eq_true', ← Bool.not_eq_true, newTo_iff]
  constructor
  · rintro ⟨i, hi, e⟩ h
    exact h i hi e
  · intro h
    exact Classical.byContradiction fun q => h fun i hi e => q ⟨i, hi, e⟩
theorem okTo_dist (E : List Kn) : ∀ n, okTo E n = true → Dist E n
  | 0, _ => fun i j _ hj => by omega
  | n + 1, h => by
    unfold okTo at h
    rw [Bool.and_eq_true, Bool.and_eq_true] at h
    intro i j hij hj
    rcases Nat.lt_succ_iff_lt_or_eq.1 hj with q | rfl
    · exact okTo_dist E n h.1 i j hij q
    · exact (newTo_iff E _ j).1 h.2.1 i hij
theorem okTo_less (E : List Kn) {n : Nat} : ∀ {m : Nat}, n ≤ m → okTo E n = false → okTo E m = false
  | 0, h, q => by rw [show n = 0 by omega] at q; exact q
  | m + 1, h, q => by
    by_cases e : n = m + 1
    · rw [← e]; exact q
    · unfold okTo
      rw [okTo_less E (m := m) (by omega) q]
      rfl
theorem clear_own {w : World} {bm n : Nat} {D : DataW Unit} (h : w.ownsMap Try.prog 9 (plainElem Try.prog 3) bm n D) :
    ∃ w', (∀ ty, (Builtin.clear_ #[88] ty #[.map (some bm)]).run Try.prog w = .ok (.tuple #[]) w') ∧ w'.ownsMap Try.prog 9 (plainElem (H := Unit) Try.prog 3) bm 0 (.map []) ∧ w.mapTurned w' bm := by
  obtain ⟨es, clock, hb, F, hs, rfl⟩ := h
  refine ⟨ChangeMaps.setBlock w bm (.map #[] clock), fun ty => ?_, ⟨#[], clock, ?_, ⟨by simp, MapKept.stamped_empty clock, by simp⟩, Nat.le_refl _, rfl⟩, ⟨es, clock, #[], clock, hb, rfl⟩⟩
  · simp [Builtin.clear_, run_underlying Try.underlying88, MapKept.run_getObj_map hb, MapKept.run_setObj_map _ hb, Result.andThen, ChangeMaps.setBlock]
  · have := (Array.getElem?_eq_some_iff.1 hb).1
    simp [ChangeMaps.setBlock, this]
theorem costOk (c : Int) (w : World) : Calls Try.prog 28 #[.int .i64 c] w fun e w' => e = .returned (.bool (costB c)) ∧ w' = w := by
  by_cases h0 : 0 ≤ c
  · by_cases h1 : c ≤ 1000000
    · have e : Hid (costB c = true) := by show _ = _; unfold costB; rw [decide_eq_true h0, decide_eq_true h1]; rfl
      go_enter Try.func28, Try.ntmps28
      go_wp2
      go_ret
      exact ⟨by rw [unhide e]; rfl, rfl⟩
    · have e : Hid (costB c = false) := by show _ = _; unfold costB; rw [decide_eq_true h0, decide_eq_false h1]; rfl
      go_enter Try.func28, Try.ntmps28
      go_wp2
      go_ret
      exact ⟨by rw [unhide e]; rfl, rfl⟩
  · have e : Hid (costB c = false) := by show _ = _; unfold costB; rw [decide_eq_false h0]; rfl
    go_enter Try.func28, Try.ntmps28
    go_wp2
    go_ret
    exact ⟨by rw [unhide e]; rfl, rfl⟩
/-- what fill leaves -/
def FillE (w0 : World) (s bm : Nat) (room : Int) (KK : List Kn) (e : Ending) (w' : World) : Prop := e = .returned (.bool (okC room KK)) ∧ ∃ room' v E D, Shf w0 w' s bm 0 room' v E D ∧ (okC room KK = true → room' = room ∧ E = KK ∧ D = dmAt KK KK.length) ∧ (okC room KK = false → D = .map [])
theorem FillE.bad {w0 wr : World} {s bm : Nat} {room room' : Int} {KK E : List Kn} {v : Value} (h : Shf w0 wr s bm 1 room' v E (.map [])) (ho : okC room KK = false) : FillE w0 s bm room KK (.returned (.bool false)) (wr.setCell ⟨s, 0, none⟩ (.int .i32 0)) :=
  ⟨by rw [ho], room', v, E, _, h.lock 0, (fun q => by rw [ho] at q; cases q), fun _ => rfl⟩
theorem okC_room {room : Int} {KK : List Kn} (h : room < 0 ∨ 50 < room ∨ room < (KK.length : Int)) : okC room KK = false := by
  unfold okC
  rcases h with h | h | h
  · rw [decide_eq_false (by omega)]; simp
  · rw [decide_eq_false (show ¬ room ≤ 50 by omega)]; simp
  · rw [decide_eq_false (show ¬ (KK.length : Int) ≤ room by omega)]; simp
theorem okC_fine {room : Int} {KK : List Kn} (h0 : 0 ≤ room) (h1 : room ≤ 50) (h2 : (KK.length : Int) ≤ room) : okC room KK = okTo KK KK.length := by
  unfold okC
  rw [decide_eq_true h0, decide_eq_true h1, decide_eq_true h2]
  rfl
set_option maxRecDepth 10000 in
set_option maxHeartbeats 4000000 in
theorem fill (v : Value) (room : Int) (KK : List Kn) (s bm : Nat) (w0 wr : World) (h : Shf w0 wr s bm 0 0 (.slice none 0 0) [] (.map [])) (hn : KK.length ≤ 1048576) (hd : ∀ i, (KK.getD i kz).dg.size ≤ maxLen) (hv : VKns w0 v KK) :
    Calls Try.prog 55 #[.pointer (some ⟨s, 0, none⟩), .agg #[.int .i64 room, v]] wr fun e w' => FillE w0 s bm room KK e w' := by
  obtain ⟨a, cap, rfl, ha⟩ := hv
  obtain ⟨W1, hW1⟩ : ∃ W1, W1 = wr.alloc (.cells #[.int .i64 room, .slice a KK.length cap] 26) := ⟨_, rfl⟩
  have g1 : wr.grownBy W1 none := by rw [hW1]; exact World.grownBy_alloc _ _ _
  have B1 : Box 26 W1 wr.heap.size (.int .i64 room) (.slice a KK.length cap) := by rw [hW1]; exact Box.new _ _ _ _
  have S1 := h.kept g1
  have C1 := hide (lock_free Try.muLib ⟨s, 0, none⟩ W1 S1.cells.1 (S1.cells.2.2.2.2 0))
  have S2 := S1.lock 1
  have B2 := B1.setO (d := s) (i := 0) (u := .int .i32 1) (fun e => by have := h.lt; omega)
  generalize W1.setCell ⟨s, 0, none⟩ (.int .i32 1) = W2 at *
  have hne : ¬ s = wr.heap.size := by have := h.lt; omega
  have SL := hide S2
  have B := hide B2
  have HA := hide ha
  have HD := hide hd
  clear g1 B1 S1 S2 B2 h ha hd
  go_enter_defers Try.func55, Try.ntmps55
  go_wp2_with fail
  rw [← hW1]
  clear hW1
  refine (unhide C1).mono ?_; rintro e w' ⟨rfl, rfl⟩
  clear C1
  have b0 := (unhide B).c0
  have b1 := (unhide B).c1
  by_cases r0 : room < 0
  · have HO := hide (okC_room (room := room) (KK := KK) (.inl r0))
    go_wp2_with fail
    refine leaves_cons (f := 58) (args := #[.pointer (some ⟨s, 0, none⟩)]) (by simp) (by simp [go_sem]) ?_
    refine (unlock_deferred Try.muLib ⟨s, 0, none⟩ .returning _ ?_ ?_).mono ?_
    · exact (unhide SL).cells.1
    · exact (unhide SL).cells.2.2.2.2 0
    rintro e u' w'' ⟨rfl, rfl, rfl⟩
    simp [Leaves, settle]
    refine ⟨_, results_tmp (t := 4) rfl _ _ _, ?_⟩
    exact FillE.bad (unhide SL) (unhide HO)
  by_cases r1 : 50 < room
  · have HO := hide (okC_room (room := room) (KK := KK) (.inr (.inl r1)))
    go_wp2_with fail
    refine leaves_cons (f := 58) (args := #[.pointer (some ⟨s, 0, none⟩)]) (by simp) (by simp [go_sem]) ?_
    refine (unlock_deferred Try.muLib ⟨s, 0, none⟩ .returning _ ?_ ?_).mono ?_
    · exact (unhide SL).cells.1
    · exact (unhide SL).cells.2.2.2.2 0
    rintro e u' w'' ⟨rfl, rfl, rfl⟩
    simp [Leaves, settle]
    refine ⟨_, results_tmp (t := 4) rfl _ _ _, ?_⟩
    exact FillE.bad (unhide SL) (unhide HO)
  by_cases r2 : room < (KK.length : Int)
  · have HO := hide (okC_room (room := room) (KK := KK) (.inr (.inr r2)))
    go_wp2_with fail
    refine leaves_cons (f := 58) (args := #[.pointer (some ⟨s, 0, none⟩)]) (by simp) (by simp [go_sem]) ?_
    refine (unlock_deferred Try.muLib ⟨s, 0, none⟩ .returning _ ?_ ?_).mono ?_
    · exact (unhide SL).cells.1
    · exact (unhide SL).cells.2.2.2.2 0
    rintro e u' w'' ⟨rfl, rfl, rfl⟩
    simp [Leaves, settle]
    refine ⟨_, results_tmp (t := 4) rfl _ _ _, ?_⟩
    exact FillE.bad (unhide SL) (unhide HO)
  have HO := hide (okC_fine (room := room) (KK := KK) (by omega) (by omega) (by omega))
  have SR := hide ((unhide SL).room room)
  have k2 := (unhide SL).cells.2.1
  have kf := (unhide SL).cells.2.2.2.2 2
  obtain ⟨W3, hW3⟩ : ∃ W3, W3 = w'.setCell ⟨s, 2, none⟩ (.int .i64 room) := ⟨_, rfl⟩
  rw [← hW3] at SR
  have b1' : W3.cell? ⟨wr.heap.size, 1, none⟩ = some (.slice a KK.length cap) := by rw [hW3]; exact ((unhide B).setO (d := s) (i := 2) (u := .int .i64 room) hne).c1
  clear SL B
  go_upto_region 6 with fail
  rw [← hW3]
  clear hW3 b0 b1 k2 kf hne
  go_wp2_with fail
  clear b1'
  have SL0 : Hid (Shf w0 W3 s bm 1 room (.slice none 0 0) (KK.take 0) (dmAt KK 0)) := unhide SR
  clear SR
  go_loopw [40] (fun i wx => ∃ j : Nat, j ≤ KK.length ∧ i = .int .i64 j ∧ okTo KK j = true ∧ ∃ v', Hid (Shf w0 wx s bm 1 room v' (KK.take j) (dmAt KK j))) (fun i _ => KK.length - (intOf i).toNat)
  case atStart => exact ⟨0, Nat.zero_le _, rfl, rfl, _, SL0⟩
  case round =>
    obtain ⟨j, hj, rfl, hok, v', SX⟩ := hrel
    clear SL0
    have HK := hide hok
    clear hok
    by_cases hlt : j < KK.length
    · rcases unhide HA with h | ⟨b, off, rfl, hb, hcb⟩
      · rw [h] at hlt
        simp at hlt
      · obtain ⟨u, hu, hvl⟩ := hcb j hlt
        have HS := hide hvl
        clear hvl
        obtain ⟨c0, c1, c2, c3, _⟩ := hu.kept (unhide SX).g
        have htk := take_snoc KK j hlt
        have hjl : (KK.take j).length = j := by rw [List.length_take]; omega
        have hst : dmAt KK (j + 1) = (dmAt KK j).put (key (KK.getD j kz).dg) (num j) := rfl
        have hok1 : okTo KK (j + 1) = (okTo KK j && (newTo KK (KK.getD j kz).dg j && costB (KK.getD j kz).cost)) := rfl
        have hnw := newTo_dm KK (KK.getD j kz).dg j
        have hdd := unhide HD j
        have hi' : (j : Int) < (KK.length : Int) := by omega
        generalize KK.getD j kz = x at *
        obtain ⟨dg, sat, vals, cost⟩ := x
        dsimp only at *
        obtain ⟨ua, uc, rfl, _⟩ := hu.2.2.2.2
        obtain ⟨W4, hW4⟩ : ∃ W4, W4 = wr.alloc (.cells #[.string dg, .bool sat, .slice ua vals.length uc, .int .i64 cost] 29) := ⟨_, rfl⟩
        have g4 : wr.grownBy W4 none := by rw [hW4]; exact World.grownBy_alloc _ _ _
        have B4 : Hid (Box4 29 W4 wr.heap.size (.string dg) (.bool sat) (.slice ua vals.length uc) (.int .i64 cost)) := by rw [hW4]; exact Box4.new _ _ _ _ _ _
        have S4 := hide ((unhide SX).kept g4)
        have S5 := hide ((unhide S4).kept (cf.grown_drew W4 none))
        have B5 := hide ((unhide B4).kept (cf.grown_drew W4 none))
        obtain ⟨c, b2, hlk, htd⟩ := look (unhide S5).map hdd
        have hb2 : b2 = !(newTo KK dg j) := htd.2.symm.trans hnw
        have m4 := (unhide S4).cells.2.2.2.1
        have d4 := (unhide B4).c0
        have CC := hide (fun w => costOk cost w)
        have HOK := hide hok1
        have HDM := hide hst
        have HTK := hide htk
        have HJL := hide hjl
        clear g4 hu hcb htd hnw htk hjl hst hok1 SX
        go_upto_region 9 with fail
        rw [← hW4]
        clear hW4 c0 c1 c2 c3
        go_region
        generalize wr.heap.size = kb at *
        have y3 := (unhide B5).c3
        have y0 := (unhide B5).c0
        have y1 := (unhide B5).c1
        have y2 := (unhide B5).c2
        have m5 := (unhide S5).cells.2.2.2.1
        have BADC : Hid (∀ w7, W4.drew.mapTurned w7 bm → w7.ownsMap Try.prog 9 (plainElem (H := Unit) Try.prog 3) bm 0 (.map []) → Shf w0 w7 s bm 1 room v' (KK.take j) (.map [])) := fun w7 ht hm => (unhide S5).turn ht.grown hm (Nat.zero_le _)
        clear hlk d4 m4 B4 S4
        cases hnb : newTo KK dg j
        · rw [hnb] at hb2 HOK
          have eb2 : b2 = true := hb2
          subst eb2
          clear hb2 hnb CC HTK HJL HDM
          obtain ⟨w7, hcl, hm7, ht7⟩ := clear_own (unhide S5).map
          have SL := hide (unhide BADC w7 ht7 hm7)
          have HF : Hid (okC room KK = false) := by show _ = _; rw [unhide HO]; exact okTo_less KK hlt (by rw [unhide HOK]; simp)
          clear hm7 ht7 BADC
          go_wp2_with fail
          refine leaves_cons (f := 58) (args := #[.pointer (some ⟨s, 0, none⟩)]) (by simp) (by simp [go_sem]) ?_
          refine (unlock_deferred Try.muLib ⟨s, 0, none⟩ .returning _ ?_ ?_).mono ?_
          · exact (unhide SL).cells.1
          · exact (unhide SL).cells.2.2.2.2 0
          rintro e u' w'' ⟨rfl, rfl, rfl⟩
          simp [Leaves, settle]
          refine ⟨_, results_tmp (t := 4) rfl _ _ _, ?_⟩
          exact FillE.bad (unhide SL) (unhide HF)
        · rw [hnb] at hb2 HOK
          have eb2 : b2 = false := hb2
          subst eb2
          clear hb2 hnb
          cases hcb : costB cost
          · rw [hcb] at CC HOK
            obtain ⟨w7, hcl, hm7, ht7⟩ := clear_own (unhide S5).map
            have SL := hide (unhide BADC w7 ht7 hm7)
            have HF : Hid (okC room KK = false) := by show _ = _; rw [unhide HO]; exact okTo_less KK hlt (by rw [unhide HOK]; simp)
            clear hm7 ht7 BADC HTK HJL HDM hcb
            go_wp2_with fail
            refine (unhide CC _).mono ?_; rintro e w8 ⟨rfl, hw⟩; have hw' := hw.symm; clear hw; subst hw'
            go_wp2_with fail
            refine leaves_cons (f := 58) (args := #[.pointer (some ⟨s, 0, none⟩)]) (by simp) (by simp [go_sem]) ?_
            refine (unlock_deferred Try.muLib ⟨s, 0, none⟩ .returning _ ?_ ?_).mono ?_
            · exact (unhide SL).cells.1
            · exact (unhide SL).cells.2.2.2.2 0
            rintro e u' w'' ⟨rfl, rfl, rfl⟩
            simp [Leaves, settle]
            refine ⟨_, results_tmp (t := 4) rfl _ _ _, ?_⟩
            exact FillE.bad (unhide SL) (unhide HF)
          · rw [hcb] at CC HOK
            clear BADC hcb
            have CU := hide (use_ (.slice ua vals.length uc) ⟨dg, sat, vals, cost⟩ s bm room v' (KK.take j) (dmAt KK j) w0 W4.drew (unhide S5) (by rw [unhide HJL]; omega) hdd (unhide HS))
            dsimp only at CU
            go_wp2_with fail
            refine (unhide CC _).mono ?_; rintro e w8 ⟨rfl, hw⟩; have hw' := hw.symm; clear hw; subst hw'
            go_wp2_with fail
            refine (unhide CU).mono ?_; rintro e w9 ⟨rfl, v9, S9, _, _⟩
            rw [unhide HJL, ← unhide HTK, ← unhide HDM] at S9
            have SY := hide S9
            have HK1 : Hid (okTo KK (j + 1) = true) := by show _ = _; rw [unhide HOK, unhide HK]; rfl
            clear S9 CU CC S5 B5 HS
            go_wp2_with fail
            go_roundw
            case rel => exact ⟨j + 1, by omega, by go_num, unhide HK1, v9, SY⟩
            case measure => simp [intOf]; omega
    · have hi' : ¬ (j : Int) < (KK.length : Int) := by omega
      have hjj : j = KK.length := by omega
      have SL : Hid (Shf w0 wr s bm 1 room v' KK (dmAt KK KK.length)) := by
        have := unhide SX
        rw [hjj, List.take_length] at this
        exact this
      have HF : Hid (okC room KK = true) := by show _ = _; rw [unhide HO, ← hjj]; exact unhide HK
      clear SX HK hjj HA HD
      go_wp2_with fail
      refine leaves_cons (f := 58) (args := #[.pointer (some ⟨s, 0, none⟩)]) (by simp) (by simp [go_sem]) ?_
      refine (unlock_deferred Try.muLib ⟨s, 0, none⟩ .returning _ ?_ ?_).mono ?_
      · exact (unhide SL).cells.1
      · exact (unhide SL).cells.2.2.2.2 0
      rintro e u' w'' ⟨rfl, rfl, rfl⟩
      simp [Leaves, settle]
      refine ⟨_, results_tmp (t := 4) rfl _ _ _, ?_⟩
      exact ⟨by rw [unhide HF]; rfl, room, v', KK, _, (unhide SL).lock 0, (fun _ => ⟨rfl, rfl, rfl⟩), (fun q => by rw [unhide HF] at q; cases q)⟩
end Go.Proofs.Ytgjakiliepfjiaa.ua
