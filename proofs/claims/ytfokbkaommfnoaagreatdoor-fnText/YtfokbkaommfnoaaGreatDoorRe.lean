/- The model's ReadCnf, line by line, at every text of at most 2^20 bytes. -/
import Derived.Test.YtfokbkaommfnoaaGreatDoorRc
namespace Go.Proofs.YtfokbkaommfnoaaGreatDoor.ln
open Go.ChangeShapes Go.WideShapes Go.ChangeAt Go.RowKit
open Go.Proofs.YtfokbkaommfnoaaGreatDoor.rd (MadeS words num)
open Go.Proofs.YtfokbkaommfnoaaGreatDoor.wo (Made)
open Go.Proofs.YtfokbkaommfnoaaGreatDoor.sl (hide unhide grown_refl grown_trans of_below below_of Own)
open Go.Proofs.YtfokbkaommfnoaaGreatDoor.cf (Box)
open Go.Proofs.YtfokbkaommfnoaaGreatDoor.css (OwnS)
open Go.Proofs.YtfokbkaommfnoaaGreatDoor.gr (MidF)
set_option linter.unusedVariables false
/-- the boxes beside the formula that grows -/
abbrev Bs (b : Nat) : List (Nat × Value × Value) := [(b, .int .i64 0, .slice none 0 0), (b + 1, .int .i64 0, .slice none 0 0)]
/-- the lines' row -/
def Lns (wr : World) (bD : Nat) (ad : Option Addr) (cap : Nat) (D : List ByteArray) : Prop := wr.ownsRow bD 9 1 (.slice ad D.length cap) D.length (rd.strs D)
theorem Lns.kept {wr w1 : World} {bD : Nat} {ad : Option Addr} {cap : Nat} {D : List ByteArray} (h : Lns wr bD ad cap D) (g : wr.grownBy w1 none) : Lns w1 bD ad cap D := World.ownsRow.kept h g (by
  cases (Value.slice ad D.length cap).ownBlock with
  | none => exact .inl rfl
  | some k => exact .inr (fun e => by cases e))
theorem Lns.set {wr : World} {bD c i : Nat} {ad : Option Addr} {cap : Nat} {D : List ByteArray} {u x y : Value} (h : Lns wr bD ad cap D) (hb : Box 26 wr c x y) : Lns (wr.setCell ⟨c, i, none⟩ u) bD ad cap D := gr.own_set h ty9 hb
theorem start_mid {w wA w1 : World} (gA : w.grownBy wA none) (g1 : wA.grownBy w1 none) (b0 : Box 26 wA w.heap.size (.int .i64 0) (.slice none 0 0)) (b1 : Box 26 wA (w.heap.size + 1) (.int .i64 0) (.slice none 0 0)) :
    MidF w (w1.alloc (.cells #[.int .i64 0, .slice none 0 0] 26)) w1.heap.size 0 [] (Bs w.heap.size) := by
  have ga := World.grownBy_alloc w1 (.cells #[.int .i64 0, .slice none 0 0] 26) none
  have s1 := (b1.kept g1).lt
  refine ⟨by have := (grown_trans (r := none) gA g1).size; exact this, grown_trans (grown_trans (r := none) gA g1) ga, ?_, none, 0, Box.new _ _ _ _, ownS_nil _ _ _⟩
  intro b hb
  simp only [List.mem_cons, List.not_mem_nil, or_false] at hb
  rcases hb with rfl | rfl
  · exact ⟨by show w.heap.size ≠ w1.heap.size; omega, (b0.kept g1).kept ga⟩
  · exact ⟨by show w.heap.size + 1 ≠ w1.heap.size; omega, (b1.kept g1).kept ga⟩
theorem lscan_len (B : Nat) (l : List UInt8) (st : List (List UInt8) × List UInt8) (h1 : ∀ x ∈ st.1, x.length ≤ B) (h2 : st.2.length + l.length ≤ B) : (∀ x ∈ (lscan st l).1, x.length ≤ B) ∧ (lscan st l).2.length ≤ B := by
  induction l generalizing st with
  | nil => exact ⟨h1, by show st.2.length ≤ B; simpa using h2⟩
  | cons c l ih =>
    have e : lscan st (c :: l) = lscan (if c = 10 then (st.1 ++ [st.2], []) else (st.1, st.2 ++ [c])) l := rfl
    rw [e]
    rw [List.length_cons] at h2
    split
    · refine ih _ ?_ (by simp; omega)
      intro x hx
      rcases List.mem_append.1 hx with hx | hx
      · exact h1 x hx
      · rw [List.mem_singleton] at hx
        rw [hx]
        omega
    · exact ih _ h1 (by simp; omega)
theorem lines_len (l : List UInt8) : ∀ x ∈ linesOf l, x.length ≤ l.length := (lscan_len l.length l ([], []) (by simp) (by simp)).1
theorem line_size {s : ByteArray} {D : List ByteArray} (hD : D.map rd.bytes = linesOf (rd.bytes s)) (hs : s.size ≤ 1048576) : ∀ x ∈ D, x.size ≤ 1048576 := by
  intro x hx
  have h1 : rd.bytes x ∈ linesOf (rd.bytes s) := by
    rw [← hD]
    exact List.mem_map_of_mem hx
  have h2 := lines_len _ _ h1
  rw [rd.bytes_len, rd.bytes_len] at h2
  omega
theorem line_at {D : List ByteArray} {LS : List (List UInt8)} (hD : D.map rd.bytes = LS) {k : Nat} (hk : k < D.length) : LS.drop k = rd.bytes D[k] :: LS.drop (k + 1) := by
  subst hD
  rw [List.drop_eq_getElem_cons (by simpa using hk)]
  simp
theorem outer_ne {lo hi bD n : Nat} {w : World} {v u : Value} {LL : List (List Int)} {xs : List Value} (h : OwnS lo hi w v LL) (hD : w.ownsRow bD 9 1 u n xs) : u.ownBlock = none ∨ u.ownBlock ≠ v.ownBlock := by
  obtain ⟨D, e, ho, _⟩ := h
  exact rd.apart_types ho hD ty10
theorem step_box {wr w2 w1 : World} {lo c : Nat} {n : Int} {M : List (List Int)} {a : Option Addr} {cap : Nat} {u : Value} (hb : Box 26 wr c (.int .i64 n) (.slice a M.length cap)) (ho : OwnS lo wr.heap.size wr (.slice a M.length cap) M)
    (g2 : wr.grownBy w2 none) (g1 : (w2.alloc (.cells #[u] 49)).grownBy w1 (Value.slice a M.length cap).ownBlock) : Box 26 w1 c (.int .i64 n) (.slice a M.length cap) := by
  have gA := grown_trans (r := none) g2 (World.grownBy_alloc w2 (.cells #[u] 49) none)
  have hb2 := hb.kept gA
  obtain ⟨D, e, hw, hbb, hin, hp⟩ := ho.kept gA
  exact hb2.by g1 (gr.box_ne hw gr.ty1 hb2)
theorem readL_len (l : List UInt8) : (rd.readL l).length ≤ 48 := by
  unfold rd.readL
  cases e : rd.read l with
  | none => exact Nat.zero_le _
  | some L => exact mn.okAll_len (rd.read_sound e).1
set_option maxHeartbeats 8000000 in
set_option maxRecDepth 100000 in
theorem readS_fit (s : ByteArray) (w : World) (h12 : s.size ≤ 12000) (hend : 0 < s.size → (rd.bytes s).getLast? = some 10) :
    Calls Tryz.prog 12 #[.string s] w fun e w' => ReadPost w (front (linesOf (rd.bytes s)) 0) e w' := by
  have gA : w.grownBy ((w.alloc (.cells #[.int .i64 0, .slice none 0 0] 26)).alloc (.cells #[.int .i64 0, .slice none 0 0] 26)) none := grown_trans (World.grownBy_alloc _ _ _) (World.grownBy_alloc _ _ _)
  have b0 := (Box.new 26 w (.int .i64 0) (.slice none 0 0)).kept (World.grownBy_alloc _ (.cells #[.int .i64 0, .slice none 0 0] 26) none)
  have b1 := Box.new 26 (w.alloc (.cells #[.int .i64 0, .slice none 0 0] 26)) (.int .i64 0) (.slice none 0 0)
  rw [World.size_alloc] at b1
  have CL := hide (l03Lines s ((w.alloc (.cells #[.int .i64 0, .slice none 0 0] 26)).alloc (.cells #[.int .i64 0, .slice none 0 0] 26)) (by omega))
  have SM := hide (fun w1 g1 => start_mid (w1 := w1) gA g1 b0 b1)
  clear gA b0 b1
  have hi : ¬ (12000 : Int) < (s.size : Int) := by omega
  have HS : Hid (∀ D : List ByteArray, D.map rd.bytes = linesOf (rd.bytes s) → ∀ x ∈ D, x.size ≤ 1048576) := hide (fun D hD => line_size hD (by omega))
  obtain ⟨LS, hLS⟩ : ∃ LS, linesOf (rd.bytes s) = LS := ⟨_, rfl⟩
  rw [hLS] at CL HS ⊢
  clear hLS
  rcases Nat.eq_zero_or_pos s.size with h0' | h0'
  case' inl =>
    have h0 : ¬ (0 : Int) < (s.size : Int) := by omega
    clear h0' hend
  case' inr =>
    have h0 : (0 : Int) < (s.size : Int) := by omega
    have hb := last_eq h0' (hend h0')
    clear hend
  all_goals
    go_enter Tryz.func12, Tryz.ntmps12
    go_wp2_with fail
    refine (unhide CL).mono ?_; rintro e w1 ⟨u, D, rfl, hmD, hD, hDl⟩
    clear CL
    have hDb : D.length ≤ 12000 := by omega
    clear hDl h0
    obtain ⟨ad, cap, rfl⟩ : ∃ a cap, u = .slice a D.length cap := by
      rcases hmD.1.2 with ⟨rfl, h⟩ | ⟨g, cap, cur, rfl, _⟩
      · exact ⟨none, 0, by rw [h]⟩
      · exact ⟨_, cap, rfl⟩
    have hDS := unhide HS D hD
    obtain ⟨o1, g1⟩ := hmD
    have START := hide (unhide SM w1 g1)
    generalize ((w.alloc (.cells #[.int .i64 0, .slice none 0 0] 26)).alloc (.cells #[.int .i64 0, .slice none 0 0] 26)).heap.size = bD at o1
    have L0 : Hid (Lns (w1.alloc (.cells #[.int .i64 0, .slice none 0 0] 26)) bD ad cap D) := hide (Lns.kept o1 (World.grownBy_alloc _ _ _))
    have hDe : LS.length = D.length := by rw [← hD, List.length_map]
    have HD := hide hD
    have HE := hide hDe
    have hc0 : Hid (w.heap.size ≤ w1.heap.size) := hide (unhide START).1
    clear o1 g1 hD SM HS hDe
    go_wp2_with fail
    generalize w1.heap.size = c at *
    go_loopw [8, 9, 10] (fun hv mv iv wr => ∃ (k : Nat) (h : Bool) (n m : Int) (M : List (List Int)), k ≤ D.length ∧ iv = .int .i64 k ∧ hv = .bool h ∧ mv = .int .i64 m ∧ Hid (St LS k h n m M) ∧ Hid (MidF w wr c n M (Bs w.heap.size)) ∧ Hid (Lns wr bD ad cap D)) (fun _ _ i _ => D.length - (intOf i).toNat)
    case atStart => exact ⟨0, false, 0, 0, [], Nat.zero_le _, rfl, rfl, rfl, St.start _, START, L0⟩
    case round =>
      obtain ⟨k, h, n, m, M, hk, rfl, rfl, rfl, hst, hmid, hln⟩ := hrel
      clear START L0
      by_cases hlt : k < D.length
      · have hi' : (k : Int) < (D.length : Int) := by omega
        obtain ⟨g, rfl, c1⟩ := lines_row (unhide hln) hlt
        have hsz := hDS D[k] (List.getElem_mem hlt)
        have hdr := line_at (unhide HD) hlt
        have CP := l03Passed D[k] wr hsz
        have CH := hide (l03Head D[k] wr hsz)
        have CC := hide (rd.specReadClause D[k] wr hsz)
        have DR := hide hdr
        clear hdr hsz
        generalize D[k] = ln at *
        have bn := (unhide hmid).box (w.heap.size + 1) (.int .i64 0) (.slice none 0 0) (by simp)
        have hw0 := bn.lt
        cases hp : passed (rd.bytes ln)
        · rw [hp] at CP
          have CQ := hide CP
          have HP := hide hp
          clear CP hp bn
          cases h
          · clear CC
            go_wp2_with fail
            refine (unhide CQ).mono ?_; rintro e w2 ⟨rfl, hw⟩; have hw' := hw.symm; clear hw; subst hw'
            clear CQ
            go_wp2_with fail
            refine (unhide CH).mono ?_; rintro e w2 ⟨n', m', b, rfl, hS, g2⟩
            clear CH
            have M2 := hide ((unhide hmid).kept g2)
            have LN2 := hide ((unhide hln).kept g2)
            clear hmid hln g2 c1
            cases b
            · have E := hide ((unhide hst).nohead (unhide DR) (unhide HP) (hS.2 rfl))
              have br := (unhide M2).box w.heap.size (.int .i64 0) (.slice none 0 0) (by simp)
              have bn := (unhide M2).box (w.heap.size + 1) (.int .i64 0) (.slice none 0 0) (by simp)
              have r0 := br.c0
              have r1 := br.c1
              have rf0 := br.f 0
              have rf1 := br.f 1
              have x0 := bn.c0
              have x1 := bn.c1
              have BR := hide br
              have G := hide (unhide M2).grown
              clear br bn hS M2 LN2 hst
              go_wp2_with fail
              exact refuse_post (b := 0) (unhide G) (unhide BR) _ (unhide E) rfl rfl rfl rfl
            · obtain ⟨hM, S2⟩ := (unhide hst).head (unhide DR) rfl (unhide HP) (hS.1 rfl)
              subst hM
              obtain ⟨q0, q1, q2, oa, ocap, q3, q4⟩ := unhide M2
              have o0 := q3.c0
              have of0 := q3.f 0
              have ST2 := hide S2
              have LN3 := hide (fun u => (unhide LN2).set (i := 0) (u := u) q3)
              clear S2 hS hst q0 q1 q2 q3 q4
              go_wp2_with fail
              go_roundw
              case rel => exact ⟨k + 1, true, n', m', [], by omega, by go_num, rfl, rfl, ST2, hide (mid_set0 (unhide M2)), hide (unhide LN3 _)⟩
              case measure => simp [intOf]; omega
          · clear CH
            go_wp2_with fail
            refine (unhide CQ).mono ?_; rintro e w2 ⟨rfl, hw⟩; have hw' := hw.symm; clear hw; subst hw'
            clear CQ
            go_wp2_with fail
            refine (unhide CC).mono ?_; rintro e w2 ⟨u2, rfl, o2, g2⟩
            obtain ⟨ua, uc, rfl, _⟩ := (sl.Own.of o2).sl
            clear CC
            have M2 := hide ((unhide hmid).kept g2)
            have LN2 := hide ((unhide hln).kept g2)
            have G2 := hide g2
            have U2 := hide (sl.Own.of o2)
            clear g2 o2 c1
            have br := (unhide M2).box w.heap.size (.int .i64 0) (.slice none 0 0) (by simp)
            have bn := (unhide M2).box (w.heap.size + 1) (.int .i64 0) (.slice none 0 0) (by simp)
            have BR := hide br
            have BN := hide bn
            have G := hide (unhide M2).grown
            clear br bn
            cases hb2 : rd.readB (rd.bytes ln)
            · have E := hide ((unhide hst).bad (unhide DR) (unhide HP) (fine_no hb2))
              have r0 := (unhide BR).c0
              have r1 := (unhide BR).c1
              have rf0 := (unhide BR).f 0
              have rf1 := (unhide BR).f 1
              have x0 := (unhide BN).c0
              have x1 := (unhide BN).c1
              clear hb2 M2 LN2 hst hmid hln
              go_wp2_with fail
              exact refuse_post (b := 0) (unhide G) (unhide BR) _ (unhide E) rfl rfl rfl rfl
            · have hf := fine_of (n := n) hb2
              have hrl : (rd.readL (rd.bytes ln)).length ≤ 1048576 := by
                have : (rd.readL (rd.bytes ln)).length ≤ 48 := readL_len _
                omega
              have C2 := ok.specClause _ (rd.readL (rd.bytes ln)) n w2 hrl (unhide U2).sl
              rw [← hf] at C2
              obtain ⟨q0, q1, q2, oa, ocap, q3, q4⟩ := unhide hmid
              have o0 := (q3.kept (unhide G2)).c0
              have o1 := (q3.kept (unhide G2)).c1
              have of1 := (q3.kept (unhide G2)).f 1
              have Q0 := hide q0
              have Q1 := hide q1
              have Q2 := hide q2
              have Q3 := hide q3
              have Q4 := hide q4
              clear hf hb2 q0 q1 q2 q3 q4
              cases hf2 : fine n (rd.bytes ln)
              · rw [hf2] at C2
                have CF := hide C2
                have E := hide ((unhide hst).bad (unhide DR) (unhide HP) hf2)
                have r0 := (unhide BR).c0
                have r1 := (unhide BR).c1
                have rf0 := (unhide BR).f 0
                have rf1 := (unhide BR).f 1
                have x0 := (unhide BN).c0
                have x1 := (unhide BN).c1
                clear hf2 M2 LN2 hst C2 hmid hln
                go_wp2_with fail
                refine (unhide CF).mono ?_; rintro e w3 ⟨rfl, hw⟩; have hw' := hw.symm; clear hw; subst hw'
                clear CF
                go_wp2_with fail
                exact refuse_post (b := 0) (unhide G) (unhide BR) _ (unhide E) rfl rfl rfl rfl
              · rw [hf2] at C2
                have CF := hide C2
                by_cases hfull : (M.length : Int) = m
                · have E := hide ((unhide hst).full (unhide DR) (unhide HP) hf2 hfull)
                  have hfb : ((M.length : Int) == m) = true := beq_iff_eq.2 hfull
                  have r0 := (unhide BR).c0
                  have r1 := (unhide BR).c1
                  have rf0 := (unhide BR).f 0
                  have rf1 := (unhide BR).f 1
                  have x0 := (unhide BN).c0
                  have x1 := (unhide BN).c1
                  clear hf2 M2 LN2 hst C2 hmid hln hfull
                  go_wp2_with fail
                  refine (unhide CF).mono ?_; rintro e w3 ⟨rfl, hw⟩; have hw' := hw.symm; clear hw; subst hw'
                  clear CF
                  go_wp2_with fail
                  exact refuse_post (b := 0) (unhide G) (unhide BR) _ (unhide E) rfl rfl rfl rfl
                · have ST2 := hide ((unhide hst).more (unhide DR) rfl (unhide HP) hf2 hfull)
                  have hfb : ((M.length : Int) == m) = false := beq_eq_false_iff_ne.2 hfull
                  have hM : M.length ≤ 1048576 := by
                    obtain ⟨_, h1, h2, h3⟩ := (unhide hst).yes rfl
                    omega
                  clear hf2 M2 hst C2 hmid hln hfull
                  generalize rd.readL (rd.bytes ln) = L at *
                  go_wp2_with fail
                  refine (unhide CF).mono ?_; rintro e w3 ⟨rfl, hw⟩; have hw' := hw.symm; clear hw; subst hw'
                  clear CF
                  have k9 := (((unhide Q3).kept (unhide G2)).kept (World.grownBy_alloc w2 (.cells #[.slice ua L.length uc] 49) none)).c1
                  go_wp2_with (at_builtin; refine gr.appendR ((unhide Q4).kept (unhide G2)) (unhide U2) (unhide Q1).size (unhide G2).size hM rfl _ _ rfl rfl rfl ?_)
                  intro g3 cap3 w4 h3 g3'
                  have R3 := hide (MidF.step (unhide Q0) (unhide Q1) (unhide Q2) (unhide Q3) (unhide Q4) (unhide G2) h3 g3')
                  have LN3 : Hid (Lns w4 bD (some ⟨g, 0, none⟩) cap D) := hide (World.ownsRow.kept (Lns.kept (unhide LN2) (World.grownBy_alloc w2 (.cells #[.slice ua L.length uc] 49) none)) g3' (outer_ne (((unhide Q4).kept (unhide G2)).kept (World.grownBy_alloc w2 (.cells #[.slice ua L.length uc] 49) none)) (Lns.kept (unhide LN2) (World.grownBy_alloc w2 (.cells #[.slice ua L.length uc] 49) none))))
                  have BX4 := hide (step_box (unhide Q3) (unhide Q4) (unhide G2) g3')
                  have k3 := (unhide R3).1.1
                  have k4 := (unhide R3).1.2.1
                  clear h3 g3' k9 o0 o1 of1
                  go_wp2_with fail
                  go_roundw
                  case rel => exact ⟨k + 1, true, n, m, M ++ [L], by omega, by go_num, rfl, rfl, ST2, hide (unhide R3).2, hide ((unhide LN3).set (unhide BX4))⟩
                  case measure => simp [intOf]; omega
        · rw [hp] at CP
          have CQ := hide CP
          have S2 := hide ((unhide hst).pass (unhide DR) rfl hp)
          clear CP hp CH CC hst bn
          go_wp2_with fail
          refine (unhide CQ).mono ?_; rintro e w2 ⟨rfl, hw⟩; have hw' := hw.symm; clear hw; subst hw'
          go_wp2_with fail
          go_roundw
          case rel => exact ⟨k + 1, h, n, m, M, by omega, by go_num, rfl, rfl, S2, hmid, hln⟩
          case measure => simp [intOf]; omega
      · have hi' : ¬ (k : Int) < (D.length : Int) := by omega
        have hkD : k = LS.length := by have := unhide HE; omega
        have HEc : Hid ((LS.length : Int) + 1 = (D.length : Int) + 1) := hide (by have := unhide HE; omega)
        rw [hkD] at hst
        clear hkD
        have br := (unhide hmid).box w.heap.size (.int .i64 0) (.slice none 0 0) (by simp)
        have bn := (unhide hmid).box (w.heap.size + 1) (.int .i64 0) (.slice none 0 0) (by simp)
        have hw0 := bn.lt
        obtain ⟨q0, q1, q2, oa, ocap, q3, q4⟩ := unhide hmid
        have o0 := q3.c0
        have o1 := q3.c1
        have r0 := br.c0
        have r1 := br.c1
        have rf0 := br.f 0
        have rf1 := br.f 1
        have x0 := bn.c0
        have x1 := bn.c1
        have BR := hide br
        have G := hide q1
        have Q4 := hide q4
        clear q1 q2 q3 q4 br bn hln
        cases h
        · have E := hide (unhide hst).none
          rw [unhide HEc] at E
          clear hst HEc
          go_wp2_with fail
          exact refuse_post (b := 0) (unhide G) (unhide BR) _ (unhide E) rfl rfl rfl rfl
        · by_cases hfew : (M.length : Int) < m
          · have E := hide ((unhide hst).few hfew)
            rw [unhide HEc] at E
            clear hst HEc
            go_wp2_with fail
            exact refuse_post (b := 0) (unhide G) (unhide BR) _ (unhide E) rfl rfl rfl rfl
          · have E := hide ((unhide hst).done hfew)
            clear hst HEc
            go_wp2_with fail
            refine bodyPost_ret (ret_threeS rfl (((unhide BR).set0 (.int .i64 n)).set1 (.slice oa M.length ocap))) rfl ?_
            rw [unhide E]
            refine ⟨.slice oa M.length ocap, rfl, ?_, cf.grown_set (cf.grown_set (unhide G) (Nat.le_refl _)) (Nat.le_refl _)⟩
            rw [cf.size_set, cf.size_set]
            exact gr.ownS_set (gr.ownS_set (unhide Q4) (unhide BR)) ((unhide BR).set0 _)
theorem specReadCnf (s : ByteArray) (w : World) (hs : s.size ≤ 1048576) :
    Calls Tryz.prog 12 #[.string s] w fun e w' => ReadPost w (readC (rd.bytes s)) e w' := by
  by_cases h : 12000 < (rd.bytes s).length ∨ (rd.bytes s ≠ [] ∧ (rd.bytes s).getLast? ≠ some 10)
  · refine readS_long s w hs ?_
    rw [rd.bytes_len] at h
    rcases h with h | ⟨h1, h2⟩
    · exact .inl h
    · refine .inr ⟨?_, h2⟩
      rw [← rd.bytes_len]
      exact List.length_pos_iff.2 h1
  · obtain ⟨e, hE, hl⟩ := readC_fit h
    rw [e]
    rw [rd.bytes_len] at hl
    refine readS_fit s w hl (fun h0 => ?_)
    rcases hE with h1 | h1
    · rw [← rd.bytes_len, h1] at h0
      exact absurd h0 (by decide)
    · exact h1
end Go.Proofs.YtfokbkaommfnoaaGreatDoor.ln
