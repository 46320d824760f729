/- Rows (arrays of 24 small numbers): what row.list and row.ahead answer. -/
import Derived.Test.YtibpnocpafppaaaDoorSrtW
import Derived.Laws.Rows
namespace Go.Proofs.YtibpnocpafppaaaDoor.ro
open Go.ChangeShapes Go.WideShapes Go.ChangeAt Go.RowKit
open Go.Proofs.YtibpnocpafppaaaDoor.sl (Sl Own ints hide unhide grown_refl grown_trans grown_drewN below_of of_below)
open Go.Proofs.YtibpnocpafppaaaDoor.wo (Made)
set_option linter.unusedVariables false

/-- a row's cells -/
def cells8 (R : List Int) : Array Value := (R.map fun x => Value.int .i8 x).toArray
theorem size8 (R : List Int) : (cells8 R).size = R.length := by simp [cells8]
theorem at8 (R : List Int) (k : Nat) (h : k < R.length) : (cells8 R)[k]? = some (.int .i8 (R.getD k 0)) := by simp [cells8, h]
/-- the literals of a row -/
def lits8 (R : List Int) : List Int := R.filter fun x => x != 0
theorem lits8_step (R : List Int) (k : Nat) (h : k < R.length) : lits8 (R.take (k + 1)) = lits8 (R.take k) ++ (if R.getD k 0 != 0 then [R.getD k 0] else []) := by
  rw [List.take_succ_eq_append_getElem h, lits8, List.filter_append, show R.getD k 0 = R[k] by simp [h]]
  congr 1
  by_cases hx : R[k] = 0 <;> simp [hx]

theorem infoLit : (Tryd.prog.info? 67).map (·.size) = some 1 := by kernel_rfl
/-- an element of a row -/
theorem index8 (C : Array Value) (k : Nat) (x : Int) (w : World) (h : k < 24) (hc : C[k]? = some (.int .i8 x)) : (Instr.index 69 (.agg C) (.int .i64 (k : Int))).run Tryd.prog w = .ok (.int .i8 x) w := by
  obtain ⟨i, hi, hs⟩ := Option.map_eq_some_iff.1 infoLit
  simp [Instr.index, run_underlying Tryd.underlying69, run_underlying Tryd.underlying67, asIntOf, sizeOf, typeInfo, hi, hs, part, isAgg, hc, go_sem]
  intro h'
  omega
theorem infoRow : (Tryd.prog.info? 69).map (·.size) = some 24 := by kernel_rfl
set_option maxRecDepth 10000 in
set_option maxHeartbeats 800000 in
theorem rowList (R : List Int) (w : World) (hR : R.length = 24) (hb : ∀ k, k < 24 → -24 ≤ R.getD k 0 ∧ R.getD k 0 ≤ 24) :
    Calls Tryd.prog 67 #[.agg (cells8 R)] w fun e w' => ∃ u, e = .returned u ∧ Made w w' u (lits8 R) := by
  have hs := size8 R
  have hat := at8 R
  rw [hR] at hs hat
  generalize hC : cells8 R = C at *
  obtain ⟨i0, hi, hz0, hz1, hz2⟩ := info_parts sl.info3
  have HAT := hide hat
  have hsz := infoRow
  rw [← hs] at hsz
  have G0 := hide (World.grownBy_alloc w (.cells C 69) none)
  have NEW := hide (Go.heap_alloc_new w (.cells C 69))
  clear hat hC
  go_enter Tryd.func67, Tryd.ntmps67
  go_wp2_with (first | (at_make; refine wpList_make_own _ rfl _ _ 31 rfl w.heap.size 3 i0 (.int .i64 0) 1 Tryd.underlying31 hi hz0 hz1 _ _ _ 24 rfl rfl (by rfl) ?b1 ?b2 ?b3 ?_) | go_in)
  case b1 => rw [hz2]; omega
  case b2 => unfold maxLen; omega
  case b3 => simp
  intro w1 hown hgrow
  have st : Hid (Made w w1 _ []) := ⟨hown, grown_trans (unhide G0) hgrow⟩
  have hg : w1.heap[w.heap.size]? = some (.cells C 69) := (hgrow.block w.heap.size (by simp) (fun e => by cases e)).trans (unhide NEW)
  clear hown hgrow
  go_wp2_with (refine wpList_load_row rfl 69 _ rfl w.heap.size rfl 69 C (0, 0) _ hg Tryd.underlying69 rfl hsz ?_)
  clear hg hsz NEW G0
  go_loopw [3, 8] (fun u i wr => ∃ k : Nat, k ≤ 24 ∧ i = .int .i64 k ∧ Hid (Made w wr u (lits8 (R.take k)))) (fun _ i _ => 24 - (intOf i).toNat)
  case atStart => exact ⟨0, Nat.zero_le _, rfl, st⟩
  case round =>
    obtain ⟨k, hk, rfl, hm⟩ := hrel
    clear st
    by_cases hlt : k < 24
    · have hc := unhide HAT k hlt
      have hx := hb k hlt
      have hi' : (k : Int) < 24 := by omega
      have hst := lits8_step R k (by omega)
      have hM : (lits8 (R.take k)).length ≤ 4194304 := Nat.le_trans (List.length_filter_le _ _) (by rw [List.length_take]; omega)
      generalize R.getD k 0 = x at *
      generalize lits8 (R.take k) = M at *
      clear HAT hb
      by_cases h0 : x = 0
      · subst h0
        have HS := hide (show lits8 (R.take (k + 1)) = M by rw [hst]; simp)
        have hix := index8 C k 0 wr hlt hc
        clear hst hc
        go_wp2
        go_roundw
        case rel => exact ⟨k + 1, by omega, by go_num, by rw [unhide HS]; exact hm⟩
        case measure => simp [intOf]; omega
      · have h0' : (x != 0) = true := by simp [h0]
        have HS := hide (show lits8 (R.take (k + 1)) = M ++ [x] by rw [hst, h0']; simp)
        have hix := index8 C k x wr hlt hc
        obtain ⟨x0, x1⟩ := hx
        clear hst hc h0
        go_wp2_with (at_builtin; refine wo.append1 (unhide hm).2 (unhide hm).1 hM rfl _ _ rfl rfl rfl ?_)
        intro v' w3 R'
        have R3 := hide R'
        clear R' hm
        go_wp2
        go_roundw
        case rel => exact ⟨k + 1, by omega, by go_num, by rw [unhide HS]; exact R3⟩
        case measure => simp [intOf]; omega
    · have hi' : ¬ (k : Int) < 24 := by omega
      have e : R.take k = R := List.take_of_length_le (by omega)
      rw [e] at hm
      clear HAT e hb
      go_wp2
      go_ret
      exact ⟨_, rfl, unhide hm⟩

/-- row.ahead, over the rows' lists -/
def aheadL : List Int → List Int → Bool
  | x :: R, y :: S => if x = y then aheadL R S else decide (lits.placeI x < lits.placeI y)
  | _, _ => false
theorem aheadL_step (R S : List Int) (k : Nat) (h : k < R.length) (h' : k < S.length) : aheadL (R.drop k) (S.drop k) = if R.getD k 0 = S.getD k 0 then aheadL (R.drop (k + 1)) (S.drop (k + 1)) else decide (lits.placeI (R.getD k 0) < lits.placeI (S.getD k 0)) := by
  rw [List.drop_eq_getElem_cons h, List.drop_eq_getElem_cons h', aheadL, show R.getD k 0 = R[k] by simp [h], show S.getD k 0 = S[k] by simp [h']]
theorem aheadL_end (R S : List Int) (k : Nat) (h : R.length ≤ k) : aheadL (R.drop k) (S.drop k) = false := by
  rw [List.drop_eq_nil_of_le h]
  rfl

set_option maxRecDepth 10000 in
set_option maxHeartbeats 800000 in
theorem rowAhead (R S : List Int) (w : World) (hR : R.length = 24) (hS : S.length = 24) (hb : ∀ k, k < 24 → -24 ≤ R.getD k 0 ∧ R.getD k 0 ≤ 24) (hd : ∀ k, k < 24 → -24 ≤ S.getD k 0 ∧ S.getD k 0 ≤ 24) :
    Calls Tryd.prog 66 #[.agg (cells8 R), .agg (cells8 S)] w fun e w' => e = .returned (.bool (aheadL R S)) ∧ w.grownBy w' none := by
  have hs := size8 R
  have hat := at8 R
  have ht := size8 S
  have hau := at8 S
  rw [hR] at hs hat
  rw [hS] at ht hau
  generalize cells8 R = C at *
  generalize cells8 S = D at *
  have HAT := hide hat
  have HAU := hide hau
  have hsz := infoRow
  rw [← hs] at hsz
  have G2 := hide (grown_trans (r := none) (World.grownBy_alloc w (.cells C 69) none) (World.grownBy_alloc (w.alloc (.cells C 69)) (.cells D 69) none))
  have hg : ((w.alloc (.cells C 69)).alloc (.cells D 69)).heap[w.heap.size]? = some (.cells C 69) := (Go.heap_alloc_old _ _ (by simp)).trans (Go.heap_alloc_new w (.cells C 69))
  have hcell : ∀ k, ((w.alloc (.cells C 69)).alloc (.cells D 69)).cell? ⟨w.heap.size + 1, k, none⟩ = D[k]? := by
    intro k
    have e := Go.heap_alloc_new (w.alloc (.cells C 69)) (.cells D 69)
    rw [World.size_alloc] at e
    exact cell_of_row _ _ k D _ _ e
  have HC := hide hcell
  clear hat hau hcell
  go_enter Tryd.func66, Tryd.ntmps66
  go_wp2_with (refine wpList_load_row rfl 69 _ rfl w.heap.size rfl 69 C (0, 0) _ hg Tryd.underlying69 rfl hsz ?_)
  clear hg hsz
  go_loop [8] (fun i => ∃ k : Nat, k ≤ 24 ∧ i = .int .i64 k ∧ Hid (aheadL R S = aheadL (R.drop k) (S.drop k))) (fun i => 24 - (intOf i).toNat)
  case atStart => exact ⟨0, Nat.zero_le _, rfl, rfl⟩
  case round =>
    obtain ⟨k, hk, rfl, hm⟩ := hrel
    by_cases hlt : k < 24
    · have hc := unhide HAT k hlt
      have hu := (unhide HC k).trans (unhide HAU k hlt)
      have hx := hb k hlt
      have hy := hd k hlt
      have hi' : (k : Int) < 24 := by omega
      have hst := aheadL_step R S k (by omega) (by omega)
      generalize R.getD k 0 = x at *
      generalize S.getD k 0 = y at *
      clear HAT HAU HC hb hd
      have hix := index8 C k x ((w.alloc (.cells C 69)).alloc (.cells D 69)) hlt hc
      have CB := hide (fun w' => lits.before x y w' hx.1 hx.2 hy.1 hy.2)
      by_cases he : x = y
      · have HM := hide (show aheadL R S = aheadL (R.drop (k + 1)) (S.drop (k + 1)) by rw [unhide hm, hst, if_pos he])
        subst he
        clear hst hm hc
        go_wp2_with fail
        go_round
        case rel => exact ⟨k + 1, by omega, by go_num, HM⟩
        case measure => simp [intOf]; omega
      · have HM := hide (show aheadL R S = decide (lits.placeI x < lits.placeI y) by rw [unhide hm, hst, if_neg he])
        have he' : (x != y) = true := by simp [he]
        clear hst hm hc he
        go_wp2_with fail
        refine (unhide CB _).mono ?_; rintro e w2 ⟨rfl, hw⟩; have hw' := hw.symm; clear hw; subst hw'
        go_wp2_with fail
        go_ret
        exact ⟨sl.ret_bool (unhide HM).symm, unhide G2⟩
    · have hi' : ¬ (k : Int) < 24 := by omega
      have HM := hide (show aheadL R S = false by rw [unhide hm]; exact aheadL_end R S k (by omega))
      clear HAT HAU HC hb hd hm
      go_wp2
      go_ret
      exact ⟨sl.ret_bool (unhide HM).symm, unhide G2⟩
end Go.Proofs.YtibpnocpafppaaaDoor.ro
