/- What the model's l04Unit, Unit, l04Force and Force answer; no condition but on the sizes. -/
import Derived.Test.YtabiopkjeodamaaDoorSq
namespace Go.Proofs.YtabiopkjeodamaaDoor.sp
open Go.ChangeShapes Go.WideShapes Go.ChangeAt Go.RowKit
open Go.Proofs.YtabiopkjeodamaaDoor.lits (okB varI okB_iff)
open Go.Proofs.YtabiopkjeodamaaDoor.bset (placeN placeN_le placeN_inj setOf setOf_lt setOf_has setOf_bit withN setOf_snoc)
open Go.Proofs.YtabiopkjeodamaaDoor.cls (hasB)
open Go.Proofs.YtabiopkjeodamaaDoor.css (Sls tot)
open Go.Proofs.YtabiopkjeodamaaDoor.cf (Box)
open Go.Proofs.YtabiopkjeodamaaDoor.ok (cnfB litIn all_hit all_step all_end)
open Go.Proofs.YtabiopkjeodamaaDoor.wo (Made)
open Go.Proofs.YtabiopkjeodamaaDoor.wm
open Go.Proofs.YtabiopkjeodamaaDoor.sl (Sl Own ints hide unhide ret_int ret_bool grown_refl grown_trans grown_drewN)
set_option linter.unusedVariables false

theorem firstN_snoc (l : List Int) (x : Int) : firstN (l ++ [x]) = if firstN l = 0 then x else firstN l := by
  unfold firstN
  rw [List.find?_append]
  cases h : l.find? (fun x => x != 0) with
  | none =>
    simp only [Option.none_or, Option.getD_none, if_pos]
    by_cases hx : x = 0
    · subst hx
      rfl
    · rw [List.find?_cons_of_pos (by simpa using hx)]
      rfl
  | some y =>
    have hy : y ≠ 0 := by simpa using List.find?_some h
    simp only [Option.some_or, Option.getD_some]
    rw [if_neg hy]
/-- what the model has met of the first k clauses -/
def Met (T : Nat) (LL : List (List Int)) (k : Nat) (f : Int) : Prop := f = firstN ((LL.take k).map fun c => clauseN (setOf c) T) ∧ ((LL.take k).map fun c => clauseN (setOf c) T).any (· == -100) = false
theorem unit_hit {T : Nat} {LL : List (List Int)} {k : Nat} (h : k < LL.length) (hx : clauseN (setOf (LL.getD k [])) T = -100) : unitN (LL.map setOf) T = (0, false) := by
  unfold unitN
  rw [if_pos]
  rw [List.any_eq_true]
  refine ⟨_, List.mem_map.2 ⟨setOf (LL.getD k []), List.mem_map.2 ⟨LL.getD k [], ?_, rfl⟩, rfl⟩, ?_⟩
  · rw [show LL.getD k [] = LL[k] by simp [h]]
    exact List.getElem_mem h
  · rw [hx]
    rfl
theorem met_step {T : Nat} {LL : List (List Int)} {k : Nat} {f : Int} (h : k < LL.length) (hm : Met T LL k f) (hx : clauseN (setOf (LL.getD k [])) T ≠ -100) : Met T LL (k + 1) (if f = 0 then clauseN (setOf (LL.getD k [])) T else f) := by
  unfold Met at *
  rw [css.take_snoc LL k h, List.map_append, List.any_append, hm.2]
  refine ⟨?_, ?_⟩
  · show _ = firstN (_ ++ [_])
    rw [firstN_snoc, ← hm.1]
  · have : (clauseN (setOf (LL.getD k [])) T == -100) = false := by simpa using hx
    simp only [List.map_cons, List.map_nil, List.any_cons, List.any_nil, Bool.false_or, Bool.or_false]
    exact this
theorem met_end {T : Nat} {LL : List (List Int)} {k : Nat} {f : Int} (h : ¬ k < LL.length) (hm : Met T LL k f) : unitN (LL.map setOf) T = (f, true) := by
  unfold Met at hm
  rw [List.take_of_length_le (by omega)] at hm
  unfold unitN
  rw [List.map_map]
  rw [if_neg (by
    have := hm.2
    show ¬ ((LL.map fun c => clauseN (setOf c) T).any _) = true
    rw [this]
    simp)]
  rw [hm.1]
  rfl

set_option maxRecDepth 100000 in
set_option maxHeartbeats 2000000 in
theorem l04Unit (v u : Value) (n : Int) (LL : List (List Int)) (A : List Int) (w : World) (hn : tot LL ≤ 1048576) (hA : A.length ≤ 2097152) (hc : ∀ c ∈ LL, ∀ x ∈ c, okB x = true) (hv : Sls w v LL) (hu : Sl w u A) :
    Calls Tryd.prog 165 #[.agg #[.int .i64 n, v], u] w fun e w' => e = .returned (.tuple #[.int .i64 (unitN (LL.map setOf) (setOf A)).1, .bool (unitN (LL.map setOf) (setOf A)).2]) ∧ w.grownBy w' none := by
  have g0 := World.grownBy_alloc w (.cells #[.int .i64 n, v] 47) none
  have F0 := hide (Box.new 47 w (.int .i64 n) v)
  have G0 := hide g0
  have HU := hide (hu.kept g0 (.inl rfl))
  have hv' := hv.kept g0
  have HC := hide hc
  have hl := Nat.le_trans (css.tot_len LL) hn
  obtain ⟨a, cap, rfl, _⟩ := hv
  have HV := hide hv'
  clear hu g0 hc hv'
  have y0 := (unhide F0).c0
  have y1 := (unhide F0).c1
  go_enter Tryd.func165, Tryd.ntmps165
  go_wp2
  go_loop [6, 7] (fun f i => ∃ (k : Nat) (x : Int), k ≤ LL.length ∧ i = .int .i64 k ∧ f = .int .i64 x ∧ Hid (Met (setOf A) LL k x)) (fun _ i => LL.length - (intOf i).toNat)
  case atStart => exact ⟨0, 0, Nat.zero_le _, rfl, rfl, rfl, rfl⟩
  case round =>
    obtain ⟨k, f, hk, rfl, rfl, hm⟩ := hrel
    by_cases hlt : k < LL.length
    · have hs := unhide HV
      obtain ⟨a', c', e', hcells⟩ := hs
      simp only [Value.slice.injEq] at e'
      obtain ⟨rfl, _, rfl⟩ := e'
      rcases hcells with h | ⟨b, off, rfl, hb, hcb⟩
      · rw [h] at hlt
        simp at hlt
      · obtain ⟨cu, hcu, hsl⟩ := hcb k hlt
        have hi' : (k : Int) < (LL.length : Int) := by omega
        have hLk := Nat.le_trans (css.tot_in LL k) hn
        have hmem : LL.getD k [] ∈ LL := by rw [show LL.getD k [] = LL[k] by simp [hlt]]; exact List.getElem_mem hlt
        have CC := hide (l04Clause cu u (LL.getD k []) A _ hLk hA (unhide HC _ hmem) hsl (unhide HU))
        have uh := unit_hit (T := setOf A) hlt
        have ms := met_step hlt (unhide hm)
        generalize clauseN (setOf (LL.getD k [])) (setOf A) = x at *
        by_cases hx : x = -100
        · have E := hide (uh hx)
          subst hx
          clear uh ms hm hcb hsl hmem HV HC HU
          go_wp2_with fail
          refine (unhide CC).mono ?_; rintro e w' ⟨rfl, hw⟩; have hw' := hw.symm; clear hw; subst hw'
          go_wp2_with fail
          go_ret2
          exact ⟨by rw [unhide E]; rfl, unhide G0⟩
        · have hx' : (x == -100) = false := by simpa using hx
          by_cases hf : f = 0
          · have E : Hid (Met (setOf A) LL (k + 1) x) := by
              have := ms hx
              rw [if_pos hf] at this
              exact this
            subst hf
            clear uh ms hm hcb hsl hmem HC
            go_wp2_with fail
            refine (unhide CC).mono ?_; rintro e w' ⟨rfl, hw⟩; have hw' := hw.symm; clear hw; subst hw'
            go_wp2_with fail
            go_round
            case rel => exact ⟨k + 1, x, by omega, by go_num, rfl, E⟩
            case measure => simp [intOf]; omega
          · have hf' : (f == 0) = false := by simpa using hf
            have E : Hid (Met (setOf A) LL (k + 1) f) := by
              have := ms hx
              rw [if_neg hf] at this
              exact this
            clear uh ms hm hcb hsl hmem HC
            go_wp2_with fail
            refine (unhide CC).mono ?_; rintro e w' ⟨rfl, hw⟩; have hw' := hw.symm; clear hw; subst hw'
            go_wp2_with fail
            go_round
            case rel => exact ⟨k + 1, f, by omega, by go_num, rfl, E⟩
            case measure => simp [intOf]; omega
    · have hi' : ¬ (k : Int) < (LL.length : Int) := by omega
      have E := hide (met_end hlt (unhide hm))
      clear hm
      go_wp2
      go_ret2
      exact ⟨by rw [unhide E]; rfl, unhide G0⟩

theorem okU_facts {n : Int} {LL : List (List Int)} (h : cnfB n LL = true) : ∀ c ∈ LL, ∀ x ∈ c, okB x = true := fun c hc x hx => by
  have := ((fm.cnf_facts h).2.2.2 c hc).2 x hx
  unfold ok.litIn at this
  rw [Bool.and_eq_true] at this
  exact this.1

end Go.Proofs.YtabiopkjeodamaaDoor.sp
