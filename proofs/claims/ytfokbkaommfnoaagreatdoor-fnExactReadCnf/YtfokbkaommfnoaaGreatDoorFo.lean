/- The program's (*textReader).formula. -/
import Derived.Test.YtfokbkaommfnoaaGreatDoorLk
namespace Go.Proofs.YtfokbkaommfnoaaGreatDoor.ln
open Go.ChangeShapes Go.WideShapes Go.ChangeAt Go.RowKit
open Go.Proofs.YtfokbkaommfnoaaGreatDoor.sl (hide unhide grown_refl grown_trans of_below below_of Own)
open Go.Proofs.YtfokbkaommfnoaaGreatDoor.rd (Env strLen)
open Go.Proofs.YtfokbkaommfnoaaGreatDoor.cf (Box)
open Go.Proofs.YtfokbkaommfnoaaGreatDoor.css (OwnS)
open Go.Proofs.YtfokbkaommfnoaaGreatDoor.wo (Made)
set_option linter.unusedVariables false
/-- what formula answers, where the machine says A -/
def FormPost (w : World) (r : Nat) (A : Ans) (e : Ending) (w' : World) : Prop :=
  w.grownBy w' (some r) ∧ ((∃ u, A = ⟨A.n, A.cs, 0, 0⟩ ∧ e = .returned (.agg #[.int .i64 A.n, u]) ∧ OwnS w.heap.size w'.heap.size w' u A.cs) ∨ (∃ (c : Int) (k : Nat), A = ⟨0, [], c, (k : Int)⟩ ∧ c ≠ 0 ∧ e = refused c k))
set_option maxHeartbeats 3200000 in
theorem formula (w0 : World) (r : Nat) (t : ByteArray) (i : Nat) (w : World) (hE : Env w0) (hb : Below w0.heap.size w0 w) (hr : w0.heap.size ≤ r) (hR : Rdr w r t i) (hends : Ends (rd.bytes t)) (hsz : t.size ≤ 1048576) (hi : i + t.size ≤ 1048576) :
    Calls Tryz.prog 56 #[.pointer (some ⟨r, 0, none⟩)] w fun e w' => FormPost w r (front (linesOf (rd.bytes t)) i) e w' := by
  have hrw := hR.lt
  have gA : w.grownBy (w.alloc (.cells #[.int .i64 0, .slice none 0 0] 26)) none := World.grownBy_alloc _ _ _
  have hB0 := Box.new 26 w (.int .i64 0) (.slice none 0 0)
  have hbA : Below w0.heap.size w0 (w.alloc (.cells #[.int .i64 0, .slice none 0 0] 26)) := below_by hb (Nat.le_refl _) (more_by gA (some r)) hr
  have C := hide (head w0 r t i _ hE hbA hr (hR.kept gA) hends hsz hi)
  have GA := hide gA
  have B0 := hide hB0
  have HBA := hide hbA
  have HE := hide hE
  have HB := hide hb
  clear hE hb hbA hB0 gA hR hends
  go_enter Tryz.func56, Tryz.ntmps56
  go_wp2_with fail
  refine (unhide C).mono ?_; rintro e w1 ⟨i', g1, ⟨l, t', n, c, hk, hh, rfl, hR', he', hi', ht'⟩ | ⟨hk, rfl⟩⟩
  · have E := hide (front_good hk hh)
    obtain ⟨_, ⟨n0, n1⟩, c0, c1⟩ := (head_iff _ _ _).1 hh
    obtain ⟨m, rfl⟩ := Int.eq_ofNat_of_zero_le c0
    have G1 := hide (sl.grown_trans' (more_by (unhide GA) _) g1)
    have HB1 : Hid (Below w0.heap.size w0 w1) := hide (below_by (unhide HBA) (Nat.le_refl _) g1 hr)
    have B1 := hide ((unhide B0).by g1 (fun e => by have := Option.some.inj e; omega))
    have R1 := hide hR'
    have E1 := hide he'
    have hmk := gr.mk0 m (by omega)
    clear hk hh hR' he' g1 C GA B0 HBA
    go_wp2_with fail
    have gB : w1.grownBy ((w1.alloc (.cells (madeCells #[.slice none 0 0] m) 49)).alloc (.cells #[.int .i64 n, .slice (some ⟨w1.heap.size, 0, none⟩) 0 m] 26)) none := grown_trans (World.grownBy_alloc _ _ none) (World.grownBy_alloc _ _ none)
    have hw1 := (unhide G1).size
    have hBl := (unhide B1).lt
    have START : Hid (MidG w ((w1.alloc (.cells (madeCells #[.slice none 0 0] m) 49)).alloc (.cells #[.int .i64 n, .slice (some ⟨w1.heap.size, 0, none⟩) 0 m] 26)) r (w1.heap.size + 1) n [] [(w.heap.size, .int .i64 0, .slice none 0 0)]) := by
      refine ⟨hrw, by omega, sl.grown_trans' (unhide G1) (more_by gB _), ?_, some ⟨w1.heap.size, 0, none⟩, m, ?_, ?_⟩
      · intro b hb
        rw [List.mem_singleton] at hb
        subst hb
        exact ⟨Nat.le_refl _, by show w.heap.size ≠ w1.heap.size + 1; omega, (unhide B1).kept gB⟩
      · have := Box.new 26 (w1.alloc (.cells (madeCells #[.slice none 0 0] m) 49)) (.int .i64 n) (.slice (some ⟨w1.heap.size, 0, none⟩) 0 m)
        rw [World.size_alloc] at this
        exact this
      · have h := (gr.ownS_made w1 m w.heap.size hw1 (by omega)).kept (World.grownBy_alloc _ (.cells #[.int .i64 n, .slice (some ⟨w1.heap.size, 0, none⟩) 0 m] 26) none)
        exact h.sub (Nat.le_refl _) (by rw [World.size_alloc, World.size_alloc]; omega)
    have R2 := hide ((unhide R1).kept gB)
    clear gB B1 R1 HB1 hmk hBl G1
    generalize w1.heap.size + 1 = c at *
    clear hw1
    go_loopw [6, 7] (fun _ _ wr => ∃ (t1 : ByteArray) (i1 : Nat) (M : List (List Int)), Hid (Rdr wr r t1 i1) ∧ Hid (MidG w wr r c n M [(w.heap.size, .int .i64 0, .slice none 0 0)]) ∧ Hid (Ends (rd.bytes t1)) ∧ t1.size ≤ t.size ∧ i1 + t1.size ≤ i + t.size ∧ M.length ≤ m ∧ Hid (front (linesOf (rd.bytes t)) i = body n m (linesOf (rd.bytes t1)) i1 M)) (fun _ _ wr => strLen ((wr.cell? ⟨r, 0, none⟩).getD undef))
    case atStart => exact ⟨t', i', [], R2, START, E1, by omega, by omega, Nat.zero_le _, E⟩
    case round =>
      obtain ⟨t1, i1, M, hR1, hM1, he1, hs1, hi1, hm1, hE1⟩ := hrel
      clear START R2 E1 E
      have C := hide (next w0 r t1 i1 wr (unhide HE) (below_by (unhide HB) (Nat.le_refl _) (unhide hM1).2.2.1 hr) hr (unhide hR1) (unhide he1) (by omega) (by omega))
      go_wp2_with fail
      refine (unhide C).mono ?_; rintro e w2 ⟨ln, fd, rfl, N⟩
      have M2 := hide ((unhide hM1).turn N.grown)
      have HB2 : Hid (Below w0.heap.size w0 w2) := hide (below_by (unhide HB) (Nat.le_refl _) (unhide M2).2.2.1 hr)
      clear C hM1
      obtain ⟨q0, q1, q2, q3, oa, ocap, q4, q5⟩ := unhide M2
      have o0 := q4.c0
      have o1 := q4.c1
      have of1 := q4.f 1
      have br := (q3 _ List.mem_cons_self).2.2
      have Q0 := hide q0
      have Q1 := hide q1
      have Q2 := hide q2
      have Q3 := hide q3
      have Q4 := hide q4
      have Q5 := hide q5
      clear q0 q1 q2 q3 q4 q5 M2
      cases fd
      · obtain ⟨t2, i2, hR2, hk2, hi2, hln, ht2⟩ := N.none rfl
        clear N
        have E2 := hide ((unhide hE1).trans (body_none hk2))
        have C5 := hide (tt.refuse r 5 (i2 : Int) w2 hR2.c1)
        clear hk2 hE1 hR2 hR1
        by_cases hlt : (M.length : Int) < (m : Int)
        · rw [if_pos hlt] at E2
          go_wp2_with fail
          refine (unhide C5).mono ?_; rintro e w3 ⟨rfl, hw⟩
          subst hw
          exact ⟨rfl, unhide Q2, .inr ⟨5, i2, unhide E2, by decide, rfl⟩⟩
        · rw [if_neg hlt] at E2
          have r0 := br.c0
          have r1 := br.c1
          have rf0 := br.f 0
          have rf1 := br.f 1
          have BR := hide br
          clear br
          go_wp2_with fail
          (try simp only [Exit.inBlock, Exit.then])
          refine bodyPost_ret (cf.ret_box rfl rfl (((unhide BR).set0 (.int .i64 n)).set1 (.slice oa M.length ocap))) rfl ⟨?_, .inl ⟨.slice oa M.length ocap, ?_, ?_, ?_⟩⟩
          · exact set_by (set_by (unhide Q2) (Nat.le_refl _)) (Nat.le_refl _)
          · rw [unhide E2]
          · rw [unhide E2]
          · rw [unhide E2, cf.size_set, cf.size_set]
            exact gr.ownS_set (gr.ownS_set (unhide Q5) (unhide BR)) ((unhide BR).set0 (.int .i64 n))
      · obtain ⟨t2, i2, hR2, hk2, he2, hi2, ht2, hl2⟩ := N.yes rfl
        clear N
        have gd := cf.grown_drew w2 none
        have CC := hide (fun full => clause r t2 ln n full i2 w2.drew ((unhide HE).below (below_by (unhide HB2) (Nat.le_refl _) (more_by gd (some r)) hr)) (hR2.kept gd) (by omega))
        have R2 := hide hR2
        have E2 := hide he2
        have K2 := hide hk2
        have hlt0 : Hid (strLen (((wr.cell? ⟨r, 0, none⟩)).getD undef) = t1.size) := by
          show strLen _ = _
          rw [(unhide hR1).c0]
          rfl
        clear hR2 he2 hk2 gd br
        obtain ⟨F, hF⟩ : ∃ F, fine n (rd.bytes ln) = F := ⟨_, rfl⟩
        have FF := hide hF
        clear hF
        cases F
        · have C3 := hide (fun full => (unhide CC full).mono (fun e w' h => (show e = refused 3 i2 ∧ w2.drew.grownBy w' none from by
            rcases h with ⟨_, h2, h3⟩ | ⟨h1, _⟩ | ⟨h1, _⟩
            · exact ⟨h2, h3⟩
            · rw [unhide FF] at h1; cases h1
            · rw [unhide FF] at h1; cases h1)))
          have E3 := hide ((unhide hE1).trans (body_bad (unhide K2) (unhide FF)))
          clear CC
          go_wp2_with fail
          go_region_with
            (go_at_call 78; refine (unhide C3 _).mono ?_; rintro e w3 ⟨rfl, g3⟩; have FP : FormPost w r (front (linesOf (rd.bytes t)) i) (refused 3 i2) w3 := ⟨sl.grown_trans' (unhide Q2) (more_by (grown_trans (r := none) (cf.grown_drew w2 none) g3) _), .inr ⟨3, i2, unhide E3, by decide, rfl⟩⟩; refine (fun (_ : wpAny Tryz.prog Region.Mode.text #[] (fun _ _ _ => True) 0 #[] ⟨#[], []⟩ w3) => And.intro rfl FP) ?_)
          all_goals trivial
        · by_cases hfull : (M.length : Int) = (m : Int)
          · have C4 := hide ((unhide CC ((M.length : Int) == (m : Int))).mono (fun e w' h => (show e = refused 4 i2 ∧ w2.drew.grownBy w' none from by
              rcases h with ⟨h1, _⟩ | ⟨_, _, h2, h3⟩ | ⟨_, h2, _⟩
              · rw [unhide FF] at h1; cases h1
              · exact ⟨h2, h3⟩
              · rw [beq_eq_false_iff_ne] at h2; exact absurd hfull h2)))
            have E3 := hide ((unhide hE1).trans (body_many (unhide K2) (unhide FF) hfull))
            clear CC hfull
            go_wp2_with fail
            go_region_with
              (go_at_call 78; refine (unhide C4).mono ?_; rintro e w3 ⟨rfl, g3⟩; have FP : FormPost w r (front (linesOf (rd.bytes t)) i) (refused 4 i2) w3 := ⟨sl.grown_trans' (unhide Q2) (more_by (grown_trans (r := none) (cf.grown_drew w2 none) g3) _), .inr ⟨4, i2, unhide E3, by decide, rfl⟩⟩; refine (fun (_ : wpAny Tryz.prog Region.Mode.text #[] (fun _ _ _ => True) 0 #[] ⟨#[], []⟩ w3) => And.intro rfl FP) ?_)
            all_goals trivial
          · have C4 := hide ((unhide CC ((M.length : Int) == (m : Int))).mono (fun e w' h => (show ∃ u, e = .returned u ∧ Made w2.drew w' u (rd.readL (rd.bytes ln)) from by
              rcases h with ⟨h1, _⟩ | ⟨_, h2, _⟩ | ⟨_, _, h3⟩
              · rw [unhide FF] at h1; cases h1
              · rw [beq_iff_eq] at h2; exact absurd h2 hfull
              · exact h3)))
            have E3 := hide ((unhide hE1).trans (body_more (unhide K2) (unhide FF) hfull))
            have hM : M.length ≤ 1048576 := by omega
            have hml : Hid (M.length + 1 ≤ m) := hide (by omega)
            generalize rd.readL (rd.bytes ln) = L at *
            clear CC hfull
            go_wp2_with fail
            go_region_law
              (first
                | (go_simp; go_at_call 78; refine (unhide C4).mono ?_; rintro e w3 ⟨u2, rfl, o2, g2⟩; obtain ⟨ua, uc, rfl, _⟩ := (sl.Own.of o2).sl; have G2 := hide (grown_trans (r := none) (cf.grown_drew w2 none) g2); have U2 := hide (sl.Own.of o2); have k1 := ((unhide Q4).kept (unhide G2)).c1; have k2 := ((unhide Q4).kept (unhide G2)).f 1; have k9 := (((unhide Q4).kept (unhide G2)).kept (World.grownBy_alloc w3 (.cells #[.slice ua L.length uc] 49) none)).c1; clear o2 g2)
                | (refine gr.stepR ((unhide Q5).kept (unhide G2)) (unhide U2) (unhide Q2).size (unhide G2).size hM (by rfl) _ _ (by rfl) (by rfl) (by rfl) ?_; intro g3 cap3 w4 h3 g3'; have R3 := hide (MidG.step (unhide Q0) (unhide Q1) (unhide Q2) (unhide Q3) (unhide Q4) (unhide Q5) (unhide G2) h3 g3'); have k3 := (unhide R3).1.1; have k4 := (unhide R3).1.2.1; clear h3 g3'))
            all_goals
              have RR : Hid (Rdr (w4.setCell ⟨c, 1, none⟩ (.slice (some ⟨g3, 0, none⟩) (M.length + 1) cap3)) r t2 i2) := by
                have h1 : Rdr w4 r t2 i2 := ((unhide R3).1.2.2).symm.trans (unhide R2)
                have h2 := unhide Q0
                have h3 := unhide Q1
                exact hide (cf.Box.setO h1 (by omega))
              go_wp2_with fail
              go_roundw
              case rel => exact ⟨t2, i2, M ++ [L], RR, hide (unhide R3).2, E2, by omega, by omega, by rw [List.length_append]; exact unhide hml, E3⟩
              case measure =>
                rw [unhide hlt0, (unhide RR).c0]
                exact ht2
  · have G1 := hide (sl.grown_trans' (more_by (unhide GA) _) g1)
    have E : front (linesOf (rd.bytes t)) i = ⟨0, [], 2, (i' : Int)⟩ := by
      rcases hk with ⟨r', h⟩ | ⟨l, r', h, h2⟩
      · exact front_none h
      · exact front_bad h h2
    refine ⟨rfl, unhide G1, .inr ⟨2, i', E, by decide, rfl⟩⟩
end Go.Proofs.YtfokbkaommfnoaaGreatDoor.ln
