/- What FnAssign draws and asks: lists of values, the literals that are true at them, and that an assignment comes back from its text; whatever the bytes. -/
import Derived.Test.YtloenjaonkdlaaaDoorRa
import Derived.Test.YtloenjaonkdlaaaDoorDCl
namespace Go.Proofs.YtloenjaonkdlaaaDoor.dv
open Go.ChangeShapes Go.WideShapes Go.ChangeAt Go.RowKit
open Go.Proofs.YtloenjaonkdlaaaDoor.sl (Sl Own ints hide unhide ret_int ret_bool grown_refl grown_trans grown_trans' grown_drewN below_of of_below)
open Go.Proofs.YtloenjaonkdlaaaDoor.wo (Made)
open Go.Proofs.YtloenjaonkdlaaaDoor.tr (bitB)
open Go.Proofs.YtloenjaonkdlaaaDoor.as_ (tl tl_step tl_len litAt asText)
open Go.Proofs.YtloenjaonkdlaaaDoor.ra (bit bitsOf goodA raB raL)
open Go.Proofs.YtloenjaonkdlaaaDoor.draw (Cur Bs I64 newCur grown_new)
open Go.Proofs.YtloenjaonkdlaaaDoor.dcls (MadeC MadeC.start appendC)
set_option linter.unusedVariables false

set_option maxHeartbeats 800000 in
theorem lawsLits (v : Value) (A : List Int) (w : World) (hL : A.length ≤ 1048576) (hv : Sl w v A) :
    Calls Tryd.prog 23 #[v] w fun e w' => ∃ u, e = .returned u ∧ Made w w' u (tl 0 A) := by
  obtain ⟨a, cap, rfl, ha⟩ := hv
  have HA := hide ha
  have st := hide (app.made_nil w)
  clear ha
  go_enter Tryd.func23, Tryd.ntmps23
  go_wp2
  go_loopw [3, 4] (fun u i wr => ∃ k : Nat, k ≤ A.length ∧ i = .int .i64 k ∧ Hid (Made w wr u (tl 0 (A.take k)))) (fun _ i _ => A.length - (intOf i).toNat)
  case atStart => exact ⟨0, Nat.zero_le _, rfl, st⟩
  case round =>
    obtain ⟨k, hk, rfl, hm⟩ := hrel
    clear st
    by_cases hlt : k < A.length
    · rcases unhide HA with h | ⟨b, off, rfl, hb, hcb⟩
      · rw [h] at hlt
        simp at hlt
      · have c1 : wr.cell? ⟨b, off + k, none⟩ = some (.int .i64 (A.getD k 0)) := (unhide hm).2.cell (hcb k hlt) (fun e => by cases e)
        have hi' : (k : Int) < (A.length : Int) := by omega
        have hs := tl_step A k hlt
        have hM : (tl 0 (A.take k)).length ≤ 4194304 := by rw [tl_len, List.length_take]; omega
        generalize A.getD k 0 = x at *
        generalize tl 0 (A.take k) = M at *
        clear hcb HA
        by_cases hx : x = 1
        · subst hx
          have HS := hide (show tl 0 (A.take (k + 1)) = M ++ [(k : Int) + 1] from hs)
          clear hs
          go_wp2_with (at_builtin; refine wo.append1 (unhide hm).2 (unhide hm).1 hM rfl _ _ rfl rfl rfl ?_)
          intro v' w3 R
          have R3 := hide R
          clear R hm
          go_wp2
          go_roundw
          case rel => exact ⟨k + 1, by omega, by go_num, by rw [unhide HS]; exact R3⟩
          case measure => simp [intOf]; omega
        · have hx' : (x == 1) = false := beq_eq_false_iff_ne.2 hx
          have HS := hide (show tl 0 (A.take (k + 1)) = M ++ [-(k : Int) - 1] by rw [hs]; unfold litAt; rw [if_neg hx])
          clear hs hx
          go_wp2_with (at_builtin; refine wo.append1 (unhide hm).2 (unhide hm).1 hM rfl _ _ rfl rfl rfl ?_)
          intro v' w3 R
          have R3 := hide R
          clear R hm
          go_wp2
          go_roundw
          case rel => exact ⟨k + 1, by omega, by go_num, by rw [unhide HS]; exact R3⟩
          case measure => simp [intOf]; omega
    · have hi' : ¬ (k : Int) < (A.length : Int) := by omega
      have e : A.take k = A := List.take_of_length_le (by omega)
      rw [e] at hm
      clear HA e
      go_wp2
      go_ret
      exact ⟨_, rfl, unhide hm⟩


theorem bit_lit {x : Int} (h : bitB x = true) (i : Nat) : bit (litAt i x) = x := by
  unfold tr.bitB at h
  have := of_decide_eq_true h
  have hx : x = 0 ∨ x = 1 := by omega
  rcases hx with rfl | rfl
  · have e : litAt i 0 = -(i : Int) - 1 := if_neg (by decide)
    rw [e]
    exact if_neg (by omega)
  · have e : litAt i 1 = (i : Int) + 1 := if_pos rfl
    rw [e]
    exact if_pos (by omega)
theorem bits_tl (A : List Int) : ∀ k, A.all bitB = true → bitsOf (tl k A) = A := by
  induction A with
  | nil => intro k _; rfl
  | cons x l ih =>
    intro k h
    rw [List.all_cons, Bool.and_eq_true] at h
    show bit (litAt k x) :: bitsOf (tl (k + 1) l) = x :: l
    rw [bit_lit h.1, ih (k + 1) h.2]
/-- an assignment comes back from its text, and no other number of variables does -/
theorem back {A : List Int} (hl : A.length ≤ 24) (hb : A.all bitB = true) :
    rd.readB (asText A) = true ∧ rd.readL (asText A) = tl 0 A ∧ raB (asText A) (A.length : Int) = true ∧ raL (asText A) (A.length : Int) = A ∧ raB (asText A) ((A.length : Int) + 1) = false := by
  have e := as_.asText_yes hl hb
  have r := rd.read_full (ra.tl_okAll hl)
  have h1 : rd.readB (asText A) = true := by unfold rd.readB; rw [e, r]; rfl
  have h2 : rd.readL (asText A) = tl 0 A := by unfold rd.readL; rw [e, r]; rfl
  have h3 : goodA (tl 0 A) = true := by unfold ra.goodA; rw [bits_tl A 0 hb]; exact decide_eq_true rfl
  have h4 : raB (asText A) (A.length : Int) = true := by unfold ra.raB; rw [h1, h2, h3, tl_len, decide_eq_true rfl]; rfl
  refine ⟨h1, h2, h4, ?_, ?_⟩
  · rw [ra.ra_yes h4, h2, bits_tl A 0 hb]
  · unfold ra.raB
    rw [h2, tl_len, decide_eq_false (by omega)]
    simp
theorem asText_nil (A : List Int) : asText A = [] ∨ (A.length ≤ 24 ∧ A.all bitB = true ∧ asText A ≠ []) := by
  cases h : (decide (A.length ≤ 24) && A.all bitB)
  · exact .inl (as_.asText_no h)
  · rw [Bool.and_eq_true, decide_eq_true_iff] at h
    refine .inr ⟨h.1, h.2, ?_⟩
    rw [as_.asText_yes h.1 h.2, txt.text_yes (ra.tl_okAll h.1)]
    simp
theorem asText_size (A : List Int) : (asText A).length ≤ 1048576 := by
  cases h : (decide (A.length ≤ 24) && A.all bitB)
  · rw [as_.asText_no h]
    exact Nat.zero_le _
  · rw [Bool.and_eq_true, decide_eq_true_iff] at h
    rw [as_.asText_yes h.1 h.2, txt.text_yes (ra.tl_okAll h.1), List.length_append]
    have h1 := txt.body_len _ (ra.tl_ok A 0 (by omega))
    rw [tl_len] at h1
    simp
    omega

/-- a store into a slice of the call's own, while the cursor turns -/
theorem storedC {c : Nat} {w w6 : World} {g cap : Nat} {X : List Int} (i : Nat) (y : Int) (hc : c < w.heap.size) (h : MadeC c w w6 (.slice (some ⟨g, 0, none⟩) X.length cap) X) (hi : i < X.length) :
    (∃ u, w6.cell? ⟨g, i, none⟩ = some u) ∧ w6.frozen? ⟨g, i, none⟩ = false ∧ MadeC c w (w6.setCell ⟨g, i, none⟩ (.int .i64 y)) (.slice (some ⟨g, 0, none⟩) X.length cap) (X.set i y) := by
  have hg := h.1.lt g rfl
  have gs := sl.grown_setCell w6 g i (.int .i64 y)
  refine ⟨?_, h.1.frozenAt i, ?_, ?_, h.2.2.kept gs (fun r e => by cases e; omega)⟩
  · rw [h.1.cellAt i (by omega)]
    exact ⟨_, List.getElem?_eq_getElem (by rw [sl.ints_length]; exact hi)⟩
  · have e : (ints X).set i (.int .i64 y) = ints (X.set i y) := by
      unfold sl.ints
      rw [List.map_set]
    rw [List.length_set, ← e]
    exact (h.1.stored i _).1
  · have hw := h.2.1
    exact ⟨gs.os.trans hw.os, gs.tape.trans hw.tape, gs.output.trans hw.output, Nat.le_trans hw.size gs.size, fun k hk hn => (gs.block k (Nat.lt_of_lt_of_le hk hw.size) (fun e => by cases e; omega)).trans (hw.block k hk hn)⟩
theorem madeC_some {c : Nat} {w w6 : World} {v : Value} {X : List Int} (h : MadeC c w w6 v X) (hX : 0 < X.length) : ∃ g cap, v = .slice (some ⟨g, 0, none⟩) X.length cap := by
  obtain ⟨⟨_, h2⟩, _⟩ := h
  rcases h2 with ⟨rfl, h0⟩ | ⟨g, cap, cur, rfl, _⟩
  · omega
  · exact ⟨g, cap, rfl⟩

set_option maxRecDepth 100000 in
set_option maxHeartbeats 1600000 in
theorem l02Values (c n : Nat) (w : World) (hc : Cur w c) (hn : n ≤ 1000) :
    Calls Tryd.prog 64 #[.pointer (some ⟨c, 0, none⟩), .int .i64 (n : Int)] w fun e w' => ∃ v X, e = .returned v ∧ X.length ≤ n + 1 ∧ MadeC c w w' v X := by
  have hlt := hc.lt
  have START := hide (MadeC.start c w hc)
  clear hc
  go_enter Tryd.func64, Tryd.ntmps64
  go_wp2_with fail
  go_loopw [5, 6] (fun u i wr => ∃ M : List Int, M.length ≤ n ∧ i = .int .i64 (M.length : Nat) ∧ Hid (MadeC c w wr u M)) (fun _ i _ => n - (intOf i).toNat)
  case atStart => exact ⟨[], Nat.zero_le _, rfl, START⟩
  case round =>
    obtain ⟨M, hM, rfl, hm⟩ := hrel
    clear START
    by_cases hlt' : M.length < n
    · have hi : (M.length : Int) < (n : Int) := by omega
      go_wp2_with fail
      refine (draw.below c 2 _ (unhide hm).2.2 (by decide) (by decide)).mono ?_; rintro e w2 ⟨y, rfl, y0, y1, hc2, g2⟩
      have HM2 := hide ((unhide hm).turn hlt g2 hc2)
      clear hc2 g2 hm
      go_wp2_with (at_builtin; refine appendC (unhide HM2) hlt (by omega) rfl _ _ rfl rfl rfl ?_)
      intro v' w3 R
      have R3 := hide R
      clear HM2 R
      go_wp2
      go_roundw
      case rel => exact ⟨M ++ [y], by rw [List.length_append]; simp; omega, by rw [List.length_append]; go_num, R3⟩
      case measure => simp [intOf]; omega
    · have hi : ¬ (M.length : Int) < (n : Int) := by omega
      go_wp2_with fail
      refine (draw.once c 20 _ (unhide hm).2.2 (by decide) (by decide)).mono ?_; rintro e w2 ⟨bt, rfl, hc2, g2⟩
      have HM2 := hide ((unhide hm).turn hlt g2 hc2)
      clear hc2 g2 hm
      go_upto_if 19 with fail
      go_cut [5] (fun u wx => ∃ N : List Int, N.length ≤ n + 1 ∧ Hid (MadeC c w wx u N))
      case first =>
        cases bt
        · go_wp2_with fail
          go_meet
          exact ⟨M, by omega, HM2⟩
        · go_wp2_with (at_builtin; refine appendC (unhide HM2) hlt (by omega) rfl _ _ rfl rfl rfl ?_)
          intro v' w3 R
          have R3 := hide R
          clear R HM2
          go_wp2_with fail
          go_meet
          exact ⟨_, by rw [List.length_append]; simp; omega, R3⟩
      case rest =>
        obtain ⟨N, hN, hm⟩ := hcut
        obtain ⟨na, nc, rfl⟩ := (unhide hm).form
        clear HM2
        by_cases h0 : 0 < N.length
        · have h0' : (0 : Int) < (N.length : Int) := by omega
          obtain ⟨g, cap, ev⟩ := madeC_some (unhide hm) h0
          simp only [Value.slice.injEq, true_and] at ev
          obtain ⟨rfl, rfl⟩ := ev
          have OC := hide (draw.once c 20 _ (unhide hm).2.2 (by decide) (by decide))
          go_wp2_with (go_at_call 95; refine (unhide OC).mono ?_; rintro e w4 ⟨bu, rfl, hc4, g4⟩; have M4 := hide ((unhide hm).turn hlt g4 hc4); obtain ⟨⟨q, cq⟩, fq, mS⟩ := storedC 0 2 hlt (unhide M4) h0; have MS := hide mS; clear hc4 g4 mS)
          all_goals
            go_ret
            first
              | exact ⟨_, N, rfl, hN, unhide M4⟩
              | exact ⟨_, _, rfl, by rw [List.length_set]; exact hN, unhide MS⟩
              | exact ⟨_, rfl, N, hN, unhide M4⟩
              | exact ⟨_, rfl, _, by rw [List.length_set]; exact hN, unhide MS⟩
        · have h0' : ¬ (0 : Int) < (N.length : Int) := by omega
          go_wp2_with fail
          go_ret
          first
            | exact ⟨_, rfl, N, hN, unhide hm⟩
            | exact ⟨_, N, rfl, hN, unhide hm⟩

theorem drawAssignText (a : Option Addr) (n cap : Nat) (w : World) (hn : n ≤ 1048576) (hB : Bs w a n) :
    Calls Tryd.prog 17 #[.slice a n cap] w fun e w' => ∃ v X, e = .returned v ∧ X.length ≤ 26 ∧ Made w w' v X := by
  have HB := hide hB
  clear hB
  go_enter Tryd.func17, Tryd.ntmps17
  go_wp2_with fail
  refine (newCur a n cap _ hn (unhide HB)).mono ?_; rintro e w1 ⟨rfl, hc1, g1⟩
  have C1 := hide hc1
  have G1 := hide g1
  clear hc1 g1
  go_wp2_with fail
  refine (draw.below w.heap.size 26 _ (unhide C1) (by decide) (by decide)).mono ?_; rintro e w2 ⟨k, rfl, k0, k1, hc2, g2⟩
  obtain ⟨K, rfl⟩ := Int.eq_ofNat_of_zero_le k0
  have C2 := hide hc2
  have G2 := hide g2
  clear hc2 g2 C1
  go_wp2_with fail
  refine (l02Values _ K _ (unhide C2) (by omega)).mono ?_; rintro e w3 ⟨v, X, rfl, hX, m3⟩
  have R := hide (show Made w w3 v X from ⟨css.own_mono m3.1 (Nat.le_trans (unhide G1).size (unhide G2).size), grown_new (unhide G1) (grown_trans' (unhide G2) m3.2.1) (Nat.le_refl _)⟩)
  clear m3 C2 G1 G2 HB
  go_wp2_with fail
  go_ret
  exact ⟨v, X, rfl, by omega, unhide R⟩
end Go.Proofs.YtloenjaonkdlaaaDoor.dv
