/- What shelfOf, CacheOk and CacheStart do, both sides; no condition but on sizes. -/
import Derived.Test.YtgjakiliepfjiaaUg
namespace Go.Proofs.Ytgjakiliepfjiaa.ua
open Go.ChangeShapes Go.WideShapes Go.ChangeAt Go.RowKit Go.Maps Go.MuLone
open Go.Proofs.Ytgjakiliepfjiaa.sl (Sl Own ints marks hide unhide ret_int ret_bool grown_refl grown_trans grown_drewN below_of of_below)
open Go.Proofs.Ytgjakiliepfjiaa.css (Outs outs_trans outs_none outs_by outs_refl own_mono own_sub own_outs own_kind)
open Go.Proofs.Ytgjakiliepfjiaa.yb (Box4)
open Go.Proofs.Ytgjakiliepfjiaa.cf (Box)
set_option linter.unusedVariables false
/-- what shelfOf answers -/
def ShelfE (w0 : World) (room : Int) (KK : List Kn) (e : Ending) (w' : World) : Prop := ∃ s bm room' v E D, e = .returned (.tuple #[.pointer (some ⟨s, 0, none⟩), .bool (okC room KK)]) ∧ Shf w0 w' s bm 0 room' v E D ∧ (okC room KK = true → room' = room ∧ E = KK ∧ D = dmAt KK KK.length) ∧ (okC room KK = false → D = .map [])
set_option maxHeartbeats 1600000 in
theorem shelfOf (v : Value) (room : Int) (KK : List Kn) (w : World) (hn : KK.length ≤ 1048576) (hd : ∀ i, (KK.getD i kz).dg.size ≤ maxLen) (hv : VKns w v KK) :
    Calls Try.prog 27 #[.agg #[.int .i64 room, v]] w fun e w' => ShelfE w room KK e w' := by
  obtain ⟨a, cap, rfl⟩ := hv.len
  obtain ⟨W1, hW1⟩ : ∃ W1, W1 = w.alloc (.cells #[.int .i64 room, .slice a KK.length cap] 26) := ⟨_, rfl⟩
  have g1 : w.grownBy W1 none := by rw [hW1]; exact World.grownBy_alloc _ _ _
  have s1 : W1.heap.size = w.heap.size + 1 := by rw [hW1, World.size_alloc]
  have B1 : Box 26 W1 w.heap.size (.int .i64 room) (.slice a KK.length cap) := by rw [hW1]; exact Box.new _ _ _ _
  obtain ⟨W2, hW2⟩ : ∃ W2, W2 = W1.alloc (.map #[] 0) := ⟨_, rfl⟩
  obtain ⟨W3, hW3⟩ : ∃ W3, W3 = W2.alloc (.cells #[.int .i32 0, .int .u32 0, .int .i64 0, .slice none 0 0, .map (some (w.heap.size + 1))] 97) := ⟨_, rfl⟩
  have g2 : W1.grownBy W2 none := by rw [hW2]; exact World.grownBy_alloc _ _ _
  have g3 : W2.grownBy W3 none := by rw [hW3]; exact World.grownBy_alloc _ _ _
  have s2 : W2.heap.size = w.heap.size + 1 + 1 := by rw [hW2, World.size_alloc, s1]
  have m2 : W2.ownsMap Try.prog 9 (plainElem (H := Unit) Try.prog 3) (w.heap.size + 1) 0 (.map []) := by
    have := World.ownsMap_made W1 Try.prog 9 (plainElem (H := Unit) Try.prog 3)
    rw [s1, ← hW2] at this
    exact this
  have S3 : Shf w W3 (w.heap.size + 1 + 1) (w.heap.size + 1) 0 0 (.slice none 0 0) [] (.map []) := by
    refine ⟨grown_trans (r := none) (grown_trans (r := none) g1 g2) g3, ?_, ⟨[], rfl, World.ownsRow_nil .., fun p hp => by cases hp⟩, m2.kept g3 (by simp), by omega, by omega⟩
    have := Go.heap_alloc_new W2 (.cells #[.int .i32 0, .int .u32 0, .int .i64 0, .slice none 0 0, .map (some (w.heap.size + 1))] 97)
    rw [s2, ← hW3] at this
    exact this
  have B3 := (B1.kept g2).kept g3
  have CF := hide (fill (.slice a KK.length cap) room KK _ _ w W3 S3 hn hd hv)
  have b0 := B3.c0
  have b1 := B3.c1
  have hmm := @run_makeMap Try.prog
  clear g1 g2 g3 s1 s2 B1 m2 S3 B3 hv hd
  go_enter Try.func27, Try.ntmps27
  go_wp2_with fail
  rw [← hW1, ← hW2, ← hW3]
  clear hW1 hW2 hW3 b0 b1
  refine (unhide CF).mono ?_; rintro e w4 ⟨rfl, room', v', E, D, S4, hy, hno⟩
  have R : Hid (Shf w w4 _ _ 0 room' v' E D ∧ (okC room KK = true → room' = room ∧ E = KK ∧ D = dmAt KK KK.length) ∧ (okC room KK = false → D = .map [])) := ⟨S4, hy, hno⟩
  clear S4 hy hno CF hmm
  go_wp2_with fail
  go_ret2
  exact ⟨_, _, room', v', E, D, rfl, unhide R⟩
theorem implCacheOk (v : Value) (room : Int) (KK : List Kn) (w : World) (hn : KK.length ≤ 1048576) (hd : ∀ i, (KK.getD i kz).dg.size ≤ maxLen) (hv : VKns w v KK) :
    Calls Try.prog 10 #[.agg #[.int .i64 room, v]] w fun e w' => e = .returned (.bool (okC room KK)) ∧ w.grownBy w' none := by
  have ga := World.grownBy_alloc w (.cells #[.int .i64 room, v] 26) none
  have C := hide (shelfOf v room KK _ hn hd (hv.kept ga))
  have G := hide ga
  clear hv hd ga
  go_enter Try.func10, Try.ntmps10
  go_wp2_with fail
  refine (unhide C).mono ?_; rintro e w1 ⟨s, bm, room', v', E, D, rfl, S1, _⟩
  have G1 := hide (grown_trans (r := none) (unhide G) S1.g)
  clear S1 C G
  go_wp2_with fail
  go_ret
  exact ⟨rfl, unhide G1⟩
def inB (x a b : Int) : Bool := decide (a ≤ x) && decide (x ≤ b)
theorem l01In (x a b : Int) (w : World) : Calls Try.prog 33 #[.int .i64 x, .int .i64 a, .int .i64 b] w fun e w' => e = .returned (.bool (inB x a b)) ∧ w' = w := by
  by_cases h0 : a ≤ x
  · by_cases h1 : x ≤ b
    · have e : Hid (inB x a b = true) := by show _ = _; unfold inB; rw [decide_eq_true h0, decide_eq_true h1]; rfl
      go_enter Try.func33, Try.ntmps33
      go_wp2
      go_ret
      exact ⟨by rw [unhide e]; rfl, rfl⟩
    · have e : Hid (inB x a b = false) := by show _ = _; unfold inB; rw [decide_eq_true h0, decide_eq_false h1]; rfl
      go_enter Try.func33, Try.ntmps33
      go_wp2
      go_ret
      exact ⟨by rw [unhide e]; rfl, rfl⟩
  · have e : Hid (inB x a b = false) := by show _ = _; unfold inB; rw [decide_eq_false h0]; rfl
    go_enter Try.func33, Try.ntmps33
    go_wp2
    go_ret
    exact ⟨by rw [unhide e]; rfl, rfl⟩
theorem toList_ne {a b : ByteArray} (h : a ≠ b) : (a.toList == b.toList) = false := by
  rw [beq_eq_false_iff_ne]
  intro e
  rw [ByteArray.toList_eq, ByteArray.toList_eq] at e
  exact h (ByteArray.ext (Array.toList_inj.1 e))
set_option maxHeartbeats 4000000 in
theorem specCacheOk (v : Value) (room : Int) (KK : List Kn) (w : World) (hn : KK.length ≤ 1048576) (hv : Kns w v KK) :
    Calls Try.prog 11 #[.agg #[.int .i64 room, v]] w fun e w' => e = .returned (.bool (okC room KK)) ∧ w.grownBy w' none := by
  obtain ⟨a, cap, rfl⟩ := hv.len
  obtain ⟨W1, hW1⟩ : ∃ W1, W1 = w.alloc (.cells #[.int .i64 room, .slice a KK.length cap] 26) := ⟨_, rfl⟩
  have g1 : w.grownBy W1 none := by rw [hW1]; exact World.grownBy_alloc _ _ _
  have B1 : Box 26 W1 w.heap.size (.int .i64 room) (.slice a KK.length cap) := by rw [hW1]; exact Box.new _ _ _ _
  have C1 := hide (l01In room 0 50 W1)
  have G := hide g1
  have B := hide B1
  obtain ⟨a', cap', hva, ha⟩ := hv.kept g1
  simp only [Value.slice.injEq] at hva
  obtain ⟨rfl, _, rfl⟩ := hva
  have HA := hide ha
  have b0 := B1.c0
  have b1 := B1.c1
  rw [hW1] at b0 b1
  clear g1 B1 hv ha
  by_cases r0 : 0 ≤ room ∧ room ≤ 50
  · rw [show inB room 0 50 = true by unfold inB; rw [decide_eq_true r0.1, decide_eq_true r0.2]; rfl] at C1
    by_cases r2 : room < (KK.length : Int)
    · have HO := hide (okC_room (room := room) (KK := KK) (.inr (.inr r2)))
      go_enter Try.func11, Try.ntmps11
      go_wp2_with fail
      rw [← hW1]
      refine (unhide C1).mono ?_; rintro e w2 ⟨rfl, hw⟩; have hw' := hw.symm; clear hw; subst hw'
      rw [← hW1] at b0 b1
      clear hW1
      go_wp2_with fail
      go_ret
      exact ⟨by rw [unhide HO]; rfl, unhide G⟩
    · have HO := hide (okC_fine (room := room) (KK := KK) r0.1 r0.2 (by omega))
      go_enter Try.func11, Try.ntmps11
      go_wp2_with fail
      rw [← hW1]
      refine (unhide C1).mono ?_; rintro e w2 ⟨rfl, hw⟩; have hw' := hw.symm; clear hw; subst hw'
      rw [← hW1] at b0 b1
      clear hW1
      generalize w.heap.size = cb at *
      go_wp2_with fail
      clear b0 b1 C1
      go_loopw [3] (fun i wr => ∃ j : Nat, j ≤ KK.length ∧ i = .int .i64 j ∧ Hid (okTo KK j = true) ∧ Hid (W1.grownBy wr none)) (fun i _ => KK.length - (intOf i).toNat)
      case atStart => exact ⟨0, Nat.zero_le _, rfl, rfl, grown_refl _⟩
      case round =>
        obtain ⟨j, hj, rfl, HK, hg⟩ := hrel
        have b1 := ((unhide B).kept (unhide hg)).c1
        by_cases hlt : j < KK.length
        · rcases unhide HA with h | ⟨b, off, rfl, hb, hcb⟩
          · rw [h] at hlt
            simp at hlt
          · have hi' : (j : Int) < (KK.length : Int) := by omega
            obtain ⟨u, hu⟩ := hcb j hlt
            have e0 := hu.1
            have e3 := ((hu.kept (unhide hg)).2.2.2.1)
            have HC := hide hcb
            have hok1 : Hid (okTo KK (j + 1) = (okTo KK j && (newTo KK (KK.getD j kz).dg j && costB (KK.getD j kz).cost))) := rfl
            have CC := hide (fun w => l01In (KK.getD j kz).cost 0 1000000 w)
            have hcost : Hid (inB (KK.getD j kz).cost 0 1000000 = costB (KK.getD j kz).cost) := rfl
            rw [unhide hcost] at CC
            generalize KK.getD j kz = x at *
            obtain ⟨dg, sat, vals, cost⟩ := x
            dsimp only at *
            clear hu hcb hcost
            cases hcb : costB cost
            · rw [hcb] at CC hok1
              have HF : Hid (okC room KK = false) := by show _ = _; rw [unhide HO]; exact okTo_less KK hlt (by rw [unhide hok1]; simp)
              clear hok1 HC HA hcb
              go_wp2_with fail
              refine (unhide CC _).mono ?_; rintro e w2 ⟨rfl, hw⟩; have hw' := hw.symm; clear hw; subst hw'
              go_wp2_with fail
              go_ret
              exact ⟨by rw [unhide HF]; rfl, grown_trans (unhide G) (unhide hg)⟩
            · rw [hcb] at CC hok1
              clear hcb HA
              go_wp2_with fail
              refine (unhide CC _).mono ?_; rintro e w2 ⟨rfl, hw⟩; have hw' := hw.symm; clear hw; subst hw'
              clear CC e3 b1
              go_wp2_with fail
              go_loopw [4] (fun i wx => ∃ k : Nat, k ≤ j ∧ i = .int .i64 k ∧ Hid (newTo KK dg k = true) ∧ Hid (W1.grownBy wx none)) (fun i _ => j - (intOf i).toNat)
              case atStart => exact ⟨0, Nat.zero_le _, rfl, rfl, hg⟩
              case round =>
                obtain ⟨k, hk, rfl, HN, hg2⟩ := hrel
                have b2 := ((unhide B).kept (unhide hg2)).c1
                by_cases hkj : k < j
                · have hk' : (k : Int) < (j : Int) := by omega
                  have hk2 : (k : Int) < (KK.length : Int) := by omega
                  obtain ⟨u2, hu2⟩ := unhide HC k (by omega)
                  have f0 := (hu2.kept (unhide hg2)).1
                  have f1 := (unhide hg2).cell e0 (fun e => by cases e)
                  have hnn : Hid (newTo KK dg (k + 1) = (newTo KK dg k && !((KK.getD k kz).dg.data.toList == dg.data.toList))) := rfl
                  have hne := newTo_iff KK dg j
                  generalize hq : (KK.getD k kz).dg = dk at *
                  have GD := hide (grown_trans (r := none) (unhide hg2) (cf.grown_drew wr none))
                  by_cases heq : dk = dg
                  · have hqq : (dk.toList == dg.toList) = true := by rw [heq]; exact beq_self_eq_true _
                    have HF : Hid (okC room KK = false) := by
                      show _ = _
                      rw [unhide HO]
                      refine okTo_less KK hlt ?_
                      rw [unhide hok1]
                      have : newTo KK dg j = false := by
                        cases hx : newTo KK dg j
                        · rfl
                        · exact absurd (hq.trans heq) (hne.1 hx k hkj)
                      rw [this]
                      simp
                    clear hok1 HC HN hnn hne hq heq hu2 HK
                    go_wp2_with fail
                    go_quiet (fail)
                    go_wp2_with fail
                    go_ret
                    exact ⟨by rw [unhide HF]; rfl, grown_trans (unhide G) (grown_trans (r := none) (unhide hg2) (grown_drewN _ _))⟩
                  · have hqq : (dk.toList == dg.toList) = false := by
                      exact toList_ne heq
                    have HN2 : Hid (newTo KK dg (k + 1) = true) := by
                      show _ = _
                      rw [unhide hnn, unhide HN]
                      have : (dk.data.toList == dg.data.toList) = false := by
                        cases hx : (dk.data.toList == dg.data.toList)
                        · rfl
                        · exact absurd (dg_eq.1 hx) heq
                      rw [this]
                      rfl
                    clear hok1 HC HN hnn hne hq heq hu2
                    go_wp2_with fail
                    go_quiet (fail)
                    go_wp2_with fail
                    go_roundw
                    case rel => exact ⟨k + 1, by omega, by go_num, HN2, grown_trans (r := none) (unhide hg2) (grown_drewN _ _)⟩
                    case measure => simp [intOf]; omega
                · have hk' : ¬ (k : Int) < (j : Int) := by omega
                  have hkk : k = j := by omega
                  have HK2 : Hid (okTo KK (j + 1) = true) := by
                    show _ = _
                    rw [unhide hok1, unhide HK]
                    have := unhide HN
                    rw [hkk] at this
                    rw [this]
                    rfl
                  clear hok1 HC HN HK hkk
                  go_wp2_with fail
                  go_roundw
                  case rel => exact ⟨j + 1, by omega, by go_num, HK2, hg2⟩
                  case measure => simp [intOf]; omega
        · have hi' : ¬ (j : Int) < (KK.length : Int) := by omega
          have hjj : j = KK.length := by omega
          have HF : Hid (okC room KK = true) := by show _ = _; rw [unhide HO, ← hjj]; exact unhide HK
          clear HK hjj HA
          go_wp2_with fail
          go_ret
          exact ⟨by rw [unhide HF]; rfl, grown_trans (unhide G) (unhide hg)⟩
  · have HO : Hid (okC room KK = false) := okC_room (by omega)
    have hr : inB room 0 50 = false := by
      unfold inB
      rw [Bool.and_eq_false_iff, decide_eq_false_iff_not, decide_eq_false_iff_not]
      omega
    rw [hr] at C1
    clear hr
    go_enter Try.func11, Try.ntmps11
    go_wp2_with fail
    rw [← hW1]
    refine (unhide C1).mono ?_; rintro e w2 ⟨rfl, hw⟩; have hw' := hw.symm; clear hw; subst hw'
    rw [← hW1] at b0 b1
    clear hW1
    go_wp2_with fail
    go_ret
    exact ⟨by rw [unhide HO]; rfl, unhide G⟩
/-- what CacheStart answers -/
def startR (room : Int) : Int := if inB room 0 50 then room else 0
theorem okC_nil (room : Int) : okC room [] = inB room 0 50 := by
  unfold okC inB
  by_cases h0 : 0 ≤ room
  · rw [decide_eq_true h0, decide_eq_true (show (([] : List Kn).length : Int) ≤ room by simpa using h0)]
    cases decide (room ≤ 50) <;> rfl
  · rw [decide_eq_false h0]
    rfl
theorem specCacheStart (room : Int) (w : World) :
    Calls Try.prog 48 #[.int .i64 room] w fun e w' => e = .returned (.tuple #[.agg #[.int .i64 (startR room), .slice none 0 0], .bool (inB room 0 50)]) ∧ w.grownBy w' none := by
  have g1 := World.grownBy_alloc w (.cells #[.int .i64 0, .slice none 0 0] 26) none
  have R1 := hide (Box.new 26 w (.int .i64 0) (.slice none 0 0))
  have C := hide (fun w => l01In room 0 50 w)
  have G := hide g1
  clear g1
  go_enter Try.func48, Try.ntmps48
  go_wp2_with fail
  refine (unhide C _).mono ?_; rintro e w3 ⟨rfl, hw⟩; have hw' := hw.symm; clear hw
  rw [← hw'] at *
  have y0 := (unhide R1).c0
  have y1 := (unhide R1).c1
  have yf0 := (unhide R1).f 0
  have yf1 := (unhide R1).f 1
  clear C hw'
  cases hb : inB room 0 50
  · have hs : Hid (startR room = 0) := by show _ = _; unfold startR; rw [hb]; rfl
    go_wp2_with fail
    (try simp only [Exit.inBlock, Exit.then])
    refine bodyPost_ret (ret_cache2 rfl rfl (Box.new 26 w (.int .i64 0) (.slice none 0 0))) rfl ⟨by rw [unhide hs, hb]; rfl, World.grownBy_alloc _ _ _⟩
  · have hs : Hid (startR room = room) := by show _ = _; unfold startR; rw [hb]; rfl
    go_wp2_with fail
    (try simp only [Exit.inBlock, Exit.then])
    refine bodyPost_ret (ret_cache2 rfl rfl (Box.new 26 w (.int .i64 room) (.slice none 0 0))) rfl ⟨by rw [unhide hs, hb]; rfl, World.grownBy_alloc _ _ _⟩
end Go.Proofs.Ytgjakiliepfjiaa.ua
