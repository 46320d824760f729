/- Assignments as texts: what trueLiterals, l03Lits and AssignText (of the program and of its model) answer at every list of at most 2^20 numbers, where the library's table of powers lies as its text lays it. -/
import Derived.Test.YtffamkeaegpaoaaDoorTxtW
import Derived.Test.YtffamkeaegpaoaaDoorTr
import Derived.Test.YtffamkeaegpaoaaDoorApp
namespace Go.Proofs.YtffamkeaegpaoaaDoor.as_
open Go.ChangeShapes Go.WideShapes Go.ChangeAt Go.RowKit
open Go.Proofs.YtffamkeaegpaoaaDoor.sl (Sl Own ints hide unhide ret_int ret_bool grown_refl grown_trans grown_drewN below_of of_below)
open Go.Proofs.YtffamkeaegpaoaaDoor.dec (str)
open Go.Proofs.YtffamkeaegpaoaaDoor.tr (bitB)
open Go.Proofs.YtffamkeaegpaoaaDoor.wo (Made)
open Go.Proofs.YtffamkeaegpaoaaDoor.txt (Pow text)
set_option linter.unusedVariables false

/-- the literal of place i that is true where the value is x -/
def litAt (i : Nat) (x : Int) : Int := if x = 1 then (i : Int) + 1 else -(i : Int) - 1
/-- the literals that are true at an assignment, from place k on -/
def tl : Nat → List Int → List Int
  | _, [] => []
  | k, x :: l => litAt k x :: tl (k + 1) l
theorem tl_snoc (l : List Int) : ∀ (k : Nat) (x : Int), tl k (l ++ [x]) = tl k l ++ [litAt (k + l.length) x] := by
  induction l with
  | nil => intro k x; rfl
  | cons y l ih =>
    intro k x
    rw [List.cons_append, tl, ih, tl, List.length_cons, show k + 1 + l.length = k + (l.length + 1) by omega]
    rfl
theorem tl_len (l : List Int) : ∀ k, (tl k l).length = l.length := by
  induction l with
  | nil => intro k; rfl
  | cons y l ih => intro k; rw [tl, List.length_cons, ih, List.length_cons]
theorem tl_step (A : List Int) (k : Nat) (h : k < A.length) : tl 0 (A.take (k + 1)) = tl 0 (A.take k) ++ [litAt k (A.getD k 0)] := by
  rw [List.take_succ_eq_append_getElem h, tl_snoc, List.length_take, show A.getD k 0 = A[k] by simp [h], show 0 + min k A.length = k by omega]
/-- AssignText -/
def asText (A : List Int) : List UInt8 := if decide (A.length ≤ 24) && A.all bitB then text (tl 0 A) else []
theorem asText_no {A : List Int} (h : (decide (A.length ≤ 24) && A.all bitB) = false) : asText A = [] := by unfold asText; rw [h]; rfl
theorem asText_yes {A : List Int} (h1 : A.length ≤ 24) (h2 : A.all bitB = true) : asText A = text (tl 0 A) := by unfold asText; rw [decide_eq_true h1, h2]; rfl

set_option maxHeartbeats 800000 in
theorem trueLiterals (v : Value) (A : List Int) (w : World) (hL : A.length ≤ 1048576) (hv : Sl w v A) :
    Calls Tryd.prog 57 #[v] w fun e w' => ∃ u, e = .returned u ∧ Made w w' u (tl 0 A) := by
  obtain ⟨a, cap, rfl, ha⟩ := hv
  obtain ⟨i0, hi, hz0, hz1, hz2⟩ := info_parts sl.info3
  have HA := hide ha
  clear ha
  go_enter Tryd.func57, Tryd.ntmps57
  go_wp2_with (first | (at_make; refine wpList_make_own _ rfl _ _ 32 rfl w.heap.size 3 i0 (.int .i64 0) 1 Tryd.underlying32 hi hz0 hz1 _ _ _ A.length rfl rfl (by rfl) ?b1 ?b2 ?b3 ?_) | go_in)
  case b1 => rw [hz2]; omega
  case b2 => unfold maxLen; omega
  case b3 => exact Nat.le_refl _
  intro w1 hown hgrow
  have st : Hid (Made w w1 _ []) := ⟨hown, hgrow⟩
  clear hown hgrow
  go_wp2
  go_loopw [3, 11] (fun u i wr => ∃ k : Nat, k ≤ A.length ∧ i = .int .i64 k ∧ Hid (Made w wr u (tl 0 (A.take k)))) (fun _ i _ => A.length - (intOf i).toNat)
  case atStart => exact ⟨0, Nat.zero_le _, rfl, st⟩
  case round =>
    obtain ⟨k, hk, rfl, hm⟩ := hrel
    clear st
    by_cases hlt : k < A.length
    · rcases unhide HA with h | ⟨b, off, rfl, hb, hcb⟩
      · rw [h] at hlt
        simp at hlt
      · have c1 : wr.cell? ⟨b, off + k, none⟩ = some (.int .i64 (A.getD k 0)) := (unhide hm).2.cell (hcb k hlt) (fun e => by cases e)
        have hi' : (k : Int) < (A.length : Int) := by omega
        have hs := tl_step A k hlt
        have hM : (tl 0 (A.take k)).length ≤ 4194304 := by rw [tl_len, List.length_take]; omega
        generalize A.getD k 0 = x at *
        generalize tl 0 (A.take k) = M at *
        clear hcb HA
        by_cases hx : x = 1
        · subst hx
          have HS := hide (show tl 0 (A.take (k + 1)) = M ++ [(k : Int) + 1] from hs)
          clear hs
          go_wp2_with (at_builtin; refine wo.append1 (unhide hm).2 (unhide hm).1 hM rfl _ _ rfl rfl rfl ?_)
          intro v' w3 R
          have R3 := hide R
          clear R hm
          go_wp2
          go_roundw
          case rel => exact ⟨k + 1, by omega, by go_num, by rw [unhide HS]; exact R3⟩
          case measure => simp [intOf]; omega
        · have hx' : (x == 1) = false := beq_eq_false_iff_ne.2 hx
          have HS := hide (show tl 0 (A.take (k + 1)) = M ++ [-(k : Int) - 1] by rw [hs]; unfold litAt; rw [if_neg hx])
          clear hs hx
          go_wp2_with (at_builtin; refine wo.append1 (unhide hm).2 (unhide hm).1 hM rfl _ _ rfl rfl rfl ?_)
          intro v' w3 R
          have R3 := hide R
          clear R hm
          go_wp2
          go_roundw
          case rel => exact ⟨k + 1, by omega, by go_num, by rw [unhide HS]; exact R3⟩
          case measure => simp [intOf]; omega
    · have hi' : ¬ (k : Int) < (A.length : Int) := by omega
      have e : A.take k = A := List.take_of_length_le (by omega)
      rw [e] at hm
      clear HA e
      go_wp2
      go_ret
      exact ⟨_, rfl, unhide hm⟩

set_option maxHeartbeats 800000 in
theorem l03Lits (v : Value) (A : List Int) (w : World) (hL : A.length ≤ 1048576) (hv : Sl w v A) :
    Calls Tryd.prog 60 #[v] w fun e w' => ∃ u, e = .returned u ∧ Made w w' u (tl 0 A) := by
  obtain ⟨a, cap, rfl, ha⟩ := hv
  have HA := hide ha
  have st := hide (app.made_nil w)
  clear ha
  go_enter Tryd.func60, Tryd.ntmps60
  go_wp2
  go_loopw [3, 4] (fun u i wr => ∃ k : Nat, k ≤ A.length ∧ i = .int .i64 k ∧ Hid (Made w wr u (tl 0 (A.take k)))) (fun _ i _ => A.length - (intOf i).toNat)
  case atStart => exact ⟨0, Nat.zero_le _, rfl, st⟩
  case round =>
    obtain ⟨k, hk, rfl, hm⟩ := hrel
    clear st
    by_cases hlt : k < A.length
    · rcases unhide HA with h | ⟨b, off, rfl, hb, hcb⟩
      · rw [h] at hlt
        simp at hlt
      · have c1 : wr.cell? ⟨b, off + k, none⟩ = some (.int .i64 (A.getD k 0)) := (unhide hm).2.cell (hcb k hlt) (fun e => by cases e)
        have hi' : (k : Int) < (A.length : Int) := by omega
        have hs := tl_step A k hlt
        have hM : (tl 0 (A.take k)).length ≤ 4194304 := by rw [tl_len, List.length_take]; omega
        generalize A.getD k 0 = x at *
        generalize tl 0 (A.take k) = M at *
        clear hcb HA
        by_cases hx : x = 1
        · subst hx
          have HS := hide (show tl 0 (A.take (k + 1)) = M ++ [(k : Int) + 1] from hs)
          clear hs
          go_wp2_with (at_builtin; refine wo.append1 (unhide hm).2 (unhide hm).1 hM rfl _ _ rfl rfl rfl ?_)
          intro v' w3 R
          have R3 := hide R
          clear R hm
          go_wp2
          go_roundw
          case rel => exact ⟨k + 1, by omega, by go_num, by rw [unhide HS]; exact R3⟩
          case measure => simp [intOf]; omega
        · have hx' : (x == 1) = false := beq_eq_false_iff_ne.2 hx
          have HS := hide (show tl 0 (A.take (k + 1)) = M ++ [-(k : Int) - 1] by rw [hs]; unfold litAt; rw [if_neg hx])
          clear hs hx
          go_wp2_with (at_builtin; refine wo.append1 (unhide hm).2 (unhide hm).1 hM rfl _ _ rfl rfl rfl ?_)
          intro v' w3 R
          have R3 := hide R
          clear R hm
          go_wp2
          go_roundw
          case rel => exact ⟨k + 1, by omega, by go_num, by rw [unhide HS]; exact R3⟩
          case measure => simp [intOf]; omega
    · have hi' : ¬ (k : Int) < (A.length : Int) := by omega
      have e : A.take k = A := List.take_of_length_le (by omega)
      rw [e] at hm
      clear HA e
      go_wp2
      go_ret
      exact ⟨_, rfl, unhide hm⟩

theorem implAssignText (v : Value) (A : List Int) (w : World) (hT : Pow w) (hL : A.length ≤ 1048576) (hv : Sl w v A) :
    Calls Tryd.prog 20 #[v] w fun e w' => e = .returned (str (asText A)) ∧ w.grownBy w' none := by
  have CI := tr.isAssignment v A w hL hv
  have TL := hide (trueLiterals v A w hL hv)
  obtain ⟨a, cap, rfl, ha⟩ := hv
  have HT := hide hT
  clear ha hT
  by_cases h24 : A.length ≤ 24
  · have h24' : ¬ (24 : Int) < (A.length : Int) := by omega
    cases hb : A.all bitB
    · rw [hb] at CI
      have C1 := hide CI
      have E := hide (asText_no (A := A) (by rw [hb, Bool.and_false]))
      clear CI hb
      go_enter Tryd.func20, Tryd.ntmps20
      go_wp2_with (go_at_call 53; refine (unhide C1).mono ?_; rintro e w' ⟨rfl, hw⟩; have hw' := hw.symm; clear hw; subst hw')
      go_ret
      exact ⟨by rw [unhide E]; rfl, grown_refl _⟩
    · rw [hb] at CI
      have C1 := hide CI
      have E := hide (asText_yes h24 hb)
      have hl : (tl 0 A).length ≤ 1048576 := by rw [tl_len]; omega
      clear CI hb
      go_enter Tryd.func20, Tryd.ntmps20
      go_wp2_with (go_at_call 53; refine (unhide C1).mono ?_; rintro e w' ⟨rfl, hw⟩; have hw' := hw.symm; clear hw; subst hw')
      go_wp2_with fail
      refine (unhide TL).mono ?_; rintro e w1 ⟨u1, rfl, m1⟩
      have CT := hide (txt.implClauseText u1 (tl 0 A) w1 ((unhide HT).kept m1.2) hl (Sl.of_own m1.1))
      have G1 := hide m1.2
      clear m1 TL C1
      go_wp2_with fail
      refine (unhide CT).mono ?_; rintro e w2 ⟨rfl, g2⟩
      have G2 := hide (grown_trans (r := none) (unhide G1) g2)
      clear g2 CT
      go_wp2_with fail
      go_ret
      exact ⟨by rw [unhide E]; rfl, unhide G2⟩
  · have h24' : (24 : Int) < (A.length : Int) := by omega
    have E := hide (asText_no (A := A) (by rw [decide_eq_false h24]; rfl))
    clear CI TL
    go_enter Tryd.func20, Tryd.ntmps20
    go_wp2_with fail
    go_ret
    exact ⟨by rw [unhide E]; rfl, grown_refl _⟩

set_option maxHeartbeats 800000 in
theorem specAssignText (v : Value) (A : List Int) (w : World) (hL : A.length ≤ 1048576) (hv : Sl w v A) :
    Calls Tryd.prog 21 #[v] w fun e w' => e = .returned (str (asText A)) ∧ w.grownBy w' none := by
  have TL := hide (l03Lits v A w hL hv)
  obtain ⟨a, cap, rfl, ha⟩ := hv
  have HA := hide ha
  clear ha
  by_cases h24 : A.length ≤ 24
  · have h24' : ¬ (24 : Int) < (A.length : Int) := by omega
    go_enter Tryd.func21, Tryd.ntmps21
    go_wp2
    go_loop [3] (fun i => ∃ k : Nat, k ≤ A.length ∧ i = .int .i64 k ∧ Hid ((A.take k).all bitB = true)) (fun i => A.length - (intOf i).toNat)
    case atStart => exact ⟨0, Nat.zero_le _, rfl, by show _ = _; simp⟩
    case round =>
      obtain ⟨k, hk, rfl, hall⟩ := hrel
      by_cases hlt : k < A.length
      · rcases unhide HA with h | ⟨b, off, rfl, hb, hcb⟩
        · rw [h] at hlt
          simp at hlt
        · have c1 := hcb k hlt
          have hi' : (k : Int) < (A.length : Int) := by omega
          have h1 := ok.all_hit bitB A k 0 hlt
          have h2 := ok.all_step bitB A k 0 hlt (unhide hall)
          generalize A.getD k 0 = x at *
          have cx := fun w => ok.l01In x 0 1 w
          clear hcb HA hall
          cases hx : bitB x
          · have hx' := hx
            unfold tr.bitB at hx'
            rw [hx'] at cx
            have CX := hide cx
            have E := hide (asText_no (A := A) (by rw [h1 hx, Bool.and_false]))
            clear h1 h2 hx hx' cx
            go_wp2_with (go_at_call 58; refine (unhide CX _).mono ?_; rintro e w' ⟨rfl, rfl⟩)
            go_ret
            exact ⟨by rw [unhide E]; rfl, grown_refl _⟩
          · have hx' := hx
            unfold tr.bitB at hx'
            rw [hx'] at cx
            have CX := hide cx
            have H := hide (h2 hx)
            clear h1 h2 hx hx' cx
            go_wp2_with (go_at_call 58; refine (unhide CX _).mono ?_; rintro e w' ⟨rfl, rfl⟩)
            go_round
            case rel => exact ⟨k + 1, by omega, by go_num, H⟩
            case measure => simp [intOf]; omega
      · have hi' : ¬ (k : Int) < (A.length : Int) := by omega
        have ha := ok.all_end bitB A k hlt (unhide hall)
        have E := hide (asText_yes h24 ha)
        have hl : (tl 0 A).length ≤ 1048576 := by rw [tl_len]; omega
        clear HA hall ha
        go_wp2_with fail
        refine (unhide TL).mono ?_; rintro e w1 ⟨u1, rfl, m1⟩
        have CT := hide (txt.specClauseText u1 (tl 0 A) w1 hl (Sl.of_own m1.1))
        have G1 := hide m1.2
        clear m1 TL
        go_wp2_with fail
        refine (unhide CT).mono ?_; rintro e w2 ⟨rfl, hw⟩; have hw' := hw.symm; clear hw; subst hw'
        clear CT
        go_wp2_with fail
        go_ret
        exact ⟨by rw [unhide E]; rfl, unhide G1⟩
  · have h24' : (24 : Int) < (A.length : Int) := by omega
    have E := hide (asText_no (A := A) (by rw [decide_eq_false h24]; rfl))
    clear TL
    go_enter Tryd.func21, Tryd.ntmps21
    go_wp2_with fail
    go_ret
    exact ⟨by rw [unhide E]; rfl, grown_refl _⟩
end Go.Proofs.YtffamkeaegpaoaaDoor.as_
