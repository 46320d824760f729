/- The model's l03Head at every text of at most 2^20 bytes. -/
import Derived.Test.YtfokbkaommfnoaaGreatDoorLs
import Derived.Test.YtfokbkaommfnoaaGreatDoorOk
import Derived.Test.YtfokbkaommfnoaaGreatDoorReadS
namespace Go.Proofs.YtfokbkaommfnoaaGreatDoor.ln
open Go.ChangeShapes Go.WideShapes Go.ChangeAt Go.RowKit
open Go.Proofs.YtfokbkaommfnoaaGreatDoor.rd (MadeS words num strs)
open Go.Proofs.YtfokbkaommfnoaaGreatDoor.sl (hide unhide grown_refl grown_trans)
set_option linter.unusedVariables false
/-- what l03Head answers -/
def HeadS (H : Option (Int × Int)) (n m : Int) (b : Bool) : Prop := (b = true → H = some (n, m)) ∧ (b = false → H = none)
def HeadE (w : World) (H : Option (Int × Int)) (e : Ending) (w' : World) : Prop := ∃ n m b, e = .returned (.tuple #[.int .i64 n, .int .i64 m, .bool b]) ∧ HeadS H n m b ∧ w.grownBy w' none
theorem headS_no {H : Option (Int × Int)} {n m : Int} (h : H = none) : HeadS H n m false := ⟨fun e => (by cases e), fun _ => h⟩
theorem headS_yes {H : Option (Int × Int)} {n m : Int} (h : H = some (n, m)) : HeadS H n m true := ⟨fun _ => h, fun e => (by cases e)⟩
theorem headOf_short {l : List UInt8} (h : (words l).length ≠ 4) : headOf l = none := by
  unfold headOf
  split
  · rename_i hw
    rw [hw] at h
    exact absurd rfl h
  · rfl
theorem headOf_four {l p q a b : List UInt8} (h : words l = [p, q, a, b]) : headOf l = if p = [112] ∧ q = [99, 110, 102] ∧ (num a).2 = true ∧ (num b).2 = true ∧ (0 ≤ (num a).1 ∧ (num a).1 ≤ 24) ∧ (0 ≤ (num b).1 ∧ (num b).1 ≤ 120) then some ((num a).1, (num b).1) else none := by
  unfold headOf
  rw [h]
theorem size_of_word {s : ByteArray} {D : List ByteArray} (hD : D.map rd.bytes = words (rd.bytes s)) (hs : s.size ≤ 1048576) : ∀ x ∈ D, x.size ≤ 1048576 := by
  intro x hx
  have h1 : rd.bytes x ∈ words (rd.bytes s) := by
    rw [← hD]
    exact List.mem_map_of_mem hx
  have h2 := rd.words_len _ _ h1
  rw [rd.bytes_len, rd.bytes_len] at h2
  omega
set_option maxHeartbeats 1600000 in
set_option maxRecDepth 100000 in
theorem l03Head (s : ByteArray) (w : World) (hs : s.size ≤ 1048576) :
    Calls Tryz.prog 34 #[.string s] w fun e w' => HeadE w (headOf (rd.bytes s)) e w' := by
  have CW := hide (rd.l01Words s w hs)
  go_enter Tryz.func34, Tryz.ntmps34
  go_wp2_with fail
  refine (unhide CW).mono ?_; rintro e w1 ⟨u, D, rfl, hmD, hD, hDl⟩
  clear CW
  have hDs := size_of_word hD hs
  obtain ⟨o1, g1⟩ := hmD
  have G1 := hide g1
  clear g1
  by_cases h4 : D.length = 4
  · obtain ⟨p, q, a, b, rfl⟩ : ∃ p q a b, D = [p, q, a, b] := by
      match D, h4 with
      | [p, q, a, b], _ => exact ⟨p, q, a, b, rfl⟩
    obtain ⟨g, cap, rfl⟩ : ∃ g cap, u = .slice (some ⟨g, 0, none⟩) 4 cap := by
      cases o1.2 with
      | inl h => exact absurd h.2 (by simp)
      | inr h => obtain ⟨g, cap, cur, hv, _⟩ := h; exact ⟨g, cap, hv⟩
    have c0 : w1.cell? ⟨g, 0, none⟩ = some (.string p) := (o1.cellAt 0 (by decide)).trans rfl
    have c1 : w1.cell? ⟨g, 1, none⟩ = some (.string q) := (o1.cellAt 1 (by decide)).trans rfl
    have c2 : w1.cell? ⟨g, 2, none⟩ = some (.string a) := (o1.cellAt 2 (by decide)).trans rfl
    have c3 : w1.cell? ⟨g, 3, none⟩ = some (.string b) := (o1.cellAt 3 (by decide)).trans rfl
    have E := headOf_four (l := rd.bytes s) (show words (rd.bytes s) = [rd.bytes p, rd.bytes q, rd.bytes a, rd.bytes b] from hD.symm)
    have CA := rd.l01Num a w1 (hDs a (by simp))
    have CB := rd.l01Num b w1 (hDs b (by simp))
    clear o1 h4 hD hDs hDl
    generalize num (rd.bytes a) = na at *
    generalize num (rd.bytes b) = nb at *
    obtain ⟨n, okn⟩ := na
    obtain ⟨m, fine⟩ := nb
    simp only at E CA CB
    by_cases hp : rd.bytes p = [112]
    · have ep : (p.toList == [112]) = true := by rw [rd.toList_bytes, hp]; rfl
      by_cases hq : rd.bytes q = [99, 110, 102]
      · have eq : (q.toList == [99, 110, 102]) = true := by rw [rd.toList_bytes, hq]; rfl
        have KA := hide CA
        have KB := hide CB
        have EE := hide E
        have HP := hide hp
        have HQ := hide hq
        clear CA CB E hp hq
        go_wp2_with fail
        refine (unhide KA).mono ?_; rintro e w2 ⟨rfl, hw⟩; have hw' := hw.symm; clear hw; subst hw'
        go_wp2_with fail
        refine (unhide KB).mono ?_; rintro e w2 ⟨rfl, hw⟩; have hw' := hw.symm; clear hw; subst hw'
        clear KA KB
        have LN := fun w => ok.l01In n 0 24 w
        have LM := fun w => ok.l01In m 0 120 w
        cases okn
        · clear LN LM
          go_wp2_with fail
          refine bodyPost_ret (results_tmp3 rfl _ _ _) rfl ?_
          exact ⟨n, m, false, rfl, headS_no ((unhide EE).trans (if_neg (fun h => by cases h.2.2.1))), unhide G1⟩
        cases fine
        · clear LN LM
          go_wp2_with fail
          refine bodyPost_ret (results_tmp3 rfl _ _ _) rfl ?_
          exact ⟨n, m, false, rfl, headS_no ((unhide EE).trans (if_neg (fun h => by cases h.2.2.2.1))), unhide G1⟩
        by_cases hn : 0 ≤ n ∧ n ≤ 24
        · rw [decide_eq_true hn] at LN
          by_cases hm : 0 ≤ m ∧ m ≤ 120
          · rw [decide_eq_true hm] at LM
            have E2 := hide ((unhide EE).trans (if_pos ⟨unhide HP, unhide HQ, rfl, rfl, hn, hm⟩))
            have L1 := hide LN
            have L2 := hide LM
            clear LN LM hn hm EE
            go_wp2_with fail
            refine (unhide L1 _).mono ?_; rintro e w2 ⟨rfl, hw⟩; have hw' := hw.symm; clear hw; subst hw'
            go_wp2_with fail
            refine (unhide L2 _).mono ?_; rintro e w2 ⟨rfl, hw⟩; have hw' := hw.symm; clear hw; subst hw'
            go_wp2_with fail
            refine bodyPost_ret (results_tmp3 rfl _ _ _) rfl ?_
            exact ⟨n, m, true, rfl, headS_yes (unhide E2), unhide G1⟩
          · rw [decide_eq_false hm] at LM
            have E2 := hide ((unhide EE).trans (if_neg (fun h => hm h.2.2.2.2.2)))
            have L1 := hide LN
            have L2 := hide LM
            clear LN LM hn hm EE
            go_wp2_with fail
            refine (unhide L1 _).mono ?_; rintro e w2 ⟨rfl, hw⟩; have hw' := hw.symm; clear hw; subst hw'
            go_wp2_with fail
            refine (unhide L2 _).mono ?_; rintro e w2 ⟨rfl, hw⟩; have hw' := hw.symm; clear hw; subst hw'
            go_wp2_with fail
            refine bodyPost_ret (results_tmp3 rfl _ _ _) rfl ?_
            exact ⟨n, m, false, rfl, headS_no (unhide E2), unhide G1⟩
        · rw [decide_eq_false hn] at LN
          have E2 := hide ((unhide EE).trans (if_neg (fun h => hn h.2.2.2.2.1)))
          have L1 := hide LN
          clear LN LM hn EE
          go_wp2_with fail
          refine (unhide L1 _).mono ?_; rintro e w2 ⟨rfl, hw⟩; have hw' := hw.symm; clear hw; subst hw'
          go_wp2_with fail
          refine bodyPost_ret (results_tmp3 rfl _ _ _) rfl ?_
          exact ⟨n, m, false, rfl, headS_no (unhide E2), unhide G1⟩
      · have eq : (q.toList == [99, 110, 102]) = false := by rw [rd.toList_bytes]; simpa using hq
        rw [if_neg (fun h => hq h.2.1)] at E
        clear CA CB hq
        go_wp2_with fail
        refine bodyPost_ret (results_tmp3 rfl _ _ _) rfl ?_
        exact ⟨0, 0, false, rfl, headS_no (E), unhide G1⟩
    · have ep : (p.toList == [112]) = false := by rw [rd.toList_bytes]; simpa using hp
      rw [if_neg (fun h => hp h.1)] at E
      clear CA CB hp
      go_wp2_with fail
      refine bodyPost_ret (results_tmp3 rfl _ _ _) rfl ?_
      exact ⟨0, 0, false, rfl, headS_no (E), unhide G1⟩
  · have E := headOf_short (l := rd.bytes s) (by rw [← hD, List.length_map]; exact h4)
    have hi : ((D.length : Int) != 4) = true := by rw [bne_iff_ne]; omega
    obtain ⟨a, cap, rfl⟩ : ∃ a cap, u = .slice a D.length cap := by
      rcases o1.2 with ⟨rfl, h⟩ | ⟨g, cap, cur, rfl, _⟩
      · exact ⟨none, 0, by rw [h]⟩
      · exact ⟨_, cap, rfl⟩
    clear o1 hD hDs h4
    go_wp2_with fail
    refine bodyPost_ret (results_tmp3 rfl _ _ _) rfl ?_
    exact ⟨0, 0, false, rfl, headS_no (E), unhide G1⟩
end Go.Proofs.YtfokbkaommfnoaaGreatDoor.ln
