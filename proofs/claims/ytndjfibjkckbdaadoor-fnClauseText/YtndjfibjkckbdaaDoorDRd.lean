/- What DrawReadClause draws: a text of at most 2^20 bytes, whatever the bytes; nothing old is written. -/
import Derived.Test.YtndjfibjkckbdaaDoorDCls
import Derived.Test.YtndjfibjkckbdaaDoorReadW
import Derived.Deep.RegionWith
namespace Go.Proofs.YtndjfibjkckbdaaDoor.dcls
open Go.ChangeShapes Go.WideShapes Go.ChangeAt Go.RowKit
open Go.Proofs.YtndjfibjkckbdaaDoor.sl (Sl ints hide unhide grown_refl grown_trans grown_trans' of_below below_of grown_drewN)
open Go.Proofs.YtndjfibjkckbdaaDoor.draw (Cur Bs I64 newCur grown_new)
open Go.Proofs.YtndjfibjkckbdaaDoor.wo (Made)
set_option linter.unusedVariables false

theorem pickS (c b : Nat) (D : List ByteArray) (w : World) (hc : Cur w c) (hbc : c < b) (hD : 0 < D.length) (hD1 : D.length ≤ 1048576) (h : ∀ j, j < D.length → w.cell? ⟨b, j, none⟩ = some (.string (D.getD j ByteArray.empty))) :
    Calls Tryd.prog 37 #[.pointer (some ⟨c, 0, none⟩), .slice (some ⟨b, 0, none⟩) D.length D.length] w fun e w' => ∃ s, e = .returned (.string s) ∧ s ∈ D ∧ Cur w' c ∧ w.grownBy w' (some c) := by
  have HC := hide hc
  have HB := hide h
  clear hc h
  go_enter Tryd.func37, Tryd.ntmps37
  go_wp2_with fail
  refine (draw.below c _ _ (unhide HC) (by omega) (by omega)).mono ?_; rintro e w1 ⟨x, rfl, x0, x1, hc1, g1⟩
  obtain ⟨j, rfl⟩ := Int.eq_ofNat_of_zero_le x0
  have hj : j < D.length := by omega
  have c1 : w1.cell? ⟨b, j, none⟩ = some (.string (D.getD j ByteArray.empty)) := g1.cell (unhide HB j hj) (fun e => by injection e with e; exact absurd e (by show b ≠ c; omega))
  have hm : D.getD j ByteArray.empty ∈ D := by rw [show D.getD j ByteArray.empty = D[j] by simp [hj]]; exact List.getElem_mem hj
  generalize D.getD j ByteArray.empty = y at *
  have HM := hide hm
  have HC1 := hide hc1
  have G1 := hide g1
  clear hc1 g1 hm HB HC
  go_wp2_with fail
  go_ret
  exact ⟨_, rfl, unhide HM, unhide HC1, unhide G1⟩

def list5 : List ByteArray := [⟨#[32]⟩, ⟨#[48]⟩, ⟨#[45]⟩, ⟨#[120]⟩, ⟨#[49]⟩]
def list8 : List ByteArray := [⟨#[]⟩, ⟨#[48]⟩, ⟨#[48, 48]⟩, ⟨#[49, 32, 48, 32]⟩, ⟨#[45, 48, 32, 48]⟩, ⟨#[50, 53, 32, 48]⟩, ⟨#[43, 49, 32, 48]⟩, ⟨#[48, 49, 32, 48]⟩]
theorem list5_size : ∀ s ∈ list5, s.size ≤ 4 := by
  intro s hs
  simp only [list5, List.mem_cons, List.not_mem_nil, or_false] at hs
  rcases hs with rfl | rfl | rfl | rfl | rfl <;> decide
theorem list8_size : ∀ s ∈ list8, s.size ≤ 4 := by
  intro s hs
  simp only [list8, List.mem_cons, List.not_mem_nil, or_false] at hs
  rcases hs with rfl | rfl | rfl | rfl | rfl | rfl | rfl | rfl <;> decide
theorem laid_cell (w : World) (D : List ByteArray) (t : TypeId) : ∀ j, j < D.length → (w.alloc (.cells (D.map Value.string).toArray t)).cell? ⟨w.heap.size, j, none⟩ = some (.string (D.getD j ByteArray.empty)) := by
  intro j hj
  have h : (w.alloc (.cells (D.map Value.string).toArray t)).heap[w.heap.size]? = some (.cells (D.map Value.string).toArray t) := heap_alloc_new w _
  unfold World.cell?
  rw [h]
  simp [hj]
theorem pick5 (c : Nat) (w : World) (hc : Cur w c) :
    Calls Tryd.prog 37 #[.pointer (some ⟨c, 0, none⟩), .slice (some ⟨w.heap.size, 0, none⟩) 5 5] (w.alloc (.cells #[.string ⟨#[32]⟩, .string ⟨#[48]⟩, .string ⟨#[45]⟩, .string ⟨#[120]⟩, .string ⟨#[49]⟩] 9)) fun e w' => ∃ s, e = .returned (.string s) ∧ s.size ≤ 4 ∧ w.grownBy w' (some c) := by
  refine (pickS c w.heap.size list5 _ (hc.kept (World.grownBy_alloc w _ none) (fun r e => by cases e)) hc.lt (by decide) (by decide) (laid_cell w list5 _)).mono ?_
  rintro e w1 ⟨s, rfl, hs, _, g⟩
  exact ⟨s, rfl, list5_size s hs, grown_trans' (World.grownBy_alloc w _ _) g⟩
theorem pick5d (c : Nat) (w : World) (hc : Cur w c) :
    Calls Tryd.prog 37 #[.pointer (some ⟨c, 0, none⟩), .slice (some ⟨w.heap.size, 0, none⟩) 5 5] (w.alloc (.cells #[.string ⟨#[32]⟩, .string ⟨#[48]⟩, .string ⟨#[45]⟩, .string ⟨#[120]⟩, .string ⟨#[49]⟩] 9)).drew fun e w' => ∃ s, e = .returned (.string s) ∧ s.size ≤ 4 ∧ w.grownBy w' (some c) := by
  have g0 : w.grownBy (w.alloc (.cells #[.string ⟨#[32]⟩, .string ⟨#[48]⟩, .string ⟨#[45]⟩, .string ⟨#[120]⟩, .string ⟨#[49]⟩] 9)).drew none := grown_trans (World.grownBy_alloc w _ none) (grown_drewN _ 1)
  have g1 : w.grownBy (w.alloc (.cells #[.string ⟨#[32]⟩, .string ⟨#[48]⟩, .string ⟨#[45]⟩, .string ⟨#[120]⟩, .string ⟨#[49]⟩] 9)).drew (some c) := grown_trans (World.grownBy_alloc w _ none) (grown_drewN _ 1)
  refine (pickS c w.heap.size list5 _ (hc.kept g0 (fun r e => by cases e)) hc.lt (by decide) (by decide) (laid_cell w list5 9)).mono ?_
  rintro e w1 ⟨s, rfl, hs, _, g⟩
  exact ⟨s, rfl, list5_size s hs, grown_trans' g1 g⟩
theorem pick8 (c : Nat) (w : World) (hc : Cur w c) :
    Calls Tryd.prog 37 #[.pointer (some ⟨c, 0, none⟩), .slice (some ⟨w.heap.size, 0, none⟩) 8 8] (w.alloc (.cells #[.string ⟨#[]⟩, .string ⟨#[48]⟩, .string ⟨#[48, 48]⟩, .string ⟨#[49, 32, 48, 32]⟩, .string ⟨#[45, 48, 32, 48]⟩, .string ⟨#[50, 53, 32, 48]⟩, .string ⟨#[43, 49, 32, 48]⟩, .string ⟨#[48, 49, 32, 48]⟩] 9)) fun e w' => ∃ s, e = .returned (.string s) ∧ s.size ≤ 4 ∧ w.grownBy w' (some c) := by
  refine (pickS c w.heap.size list8 _ (hc.kept (World.grownBy_alloc w _ none) (fun r e => by cases e)) hc.lt (by decide) (by decide) (laid_cell w list8 _)).mono ?_
  rintro e w1 ⟨s, rfl, hs, _, g⟩
  exact ⟨s, rfl, list8_size s hs, grown_trans' (World.grownBy_alloc w _ _) g⟩

theorem text_len (L : List Int) : (txt.text L).length ≤ 529 := by
  cases h : cls.okAll L
  · rw [txt.text_no h]; exact Nat.zero_le _
  · rw [txt.text_yes h]
    have h1 := txt.body_take_len h L.length
    rw [List.take_length] at h1
    rw [List.length_append]
    simp
    omega
theorem textC (v : Value) (L : List Int) (w : World) (hL : L.length ≤ 1048576) (hv : Sl w v L) :
    Calls Tryd.prog 11 #[v] w fun e w' => ∃ s : ByteArray, e = .returned (.string s) ∧ s.size ≤ 529 ∧ w' = w := by
  refine (txt.specClauseText v L w hL hv).mono ?_
  rintro e w1 ⟨rfl, rfl⟩
  exact ⟨⟨(txt.text L).toArray⟩, rfl, by rw [rd.size_mk]; exact text_len L, rfl⟩
theorem cat_size (a b c : ByteArray) (i j : Nat) (h : a.size ≤ 529) (hb : b.size ≤ 4) : (a.extract 0 i ++ b ++ a.extract j c.size).size ≤ 1048576 := by
  rw [ByteArray.size_append, ByteArray.size_append, ByteArray.size_extract, ByteArray.size_extract]
  omega

set_option maxHeartbeats 1600000 in
theorem drawReadClause (a : Option Addr) (n cap : Nat) (w : World) (hn : n ≤ 1048576) (hB : Bs w a n) :
    Calls Tryd.prog 14 #[.slice a n cap] w fun e w' => ∃ s : ByteArray, e = .returned (.string s) ∧ s.size ≤ 1048576 ∧ w.grownBy w' none := by
  have HB := hide hB
  clear hB
  go_enter Tryd.func14, Tryd.ntmps14
  go_wp2_with fail
  refine (newCur a n cap _ hn (unhide HB)).mono ?_; rintro e w1 ⟨rfl, hc1, g1⟩
  have HC1 := hide hc1
  have G1 := hide g1
  clear hc1 g1 HB
  generalize hcc : w.heap.size = c at HC1
  have HCC := hide hcc
  clear hcc
  go_wp2_with fail
  refine (clause _ _ _ _ (unhide HC1) (by decide) (by decide) (by decide) (by decide)).mono ?_; rintro e w2 ⟨v, L, rfl, hL, hm⟩
  have G2 := hide (show w.grownBy w2 none from grown_new (unhide G1) hm.2.1 (by rw [unhide HCC]; exact Nat.le_refl _))
  have HM := hide hm
  clear hm HC1 G1
  go_wp2_with fail
  refine (textC v L _ (by omega) (Sl.of_own (unhide HM).1)).mono ?_; rintro e w' ⟨s, rfl, hs, hw⟩; have hw' := hw.symm; clear hw; subst hw'
  have HC2 := hide (unhide HM).2.2
  clear HM hL
  go_wp2_with fail
  refine (draw.below c _ _ (unhide HC2) (by omega) (by omega)).mono ?_; rintro e w3 ⟨x, rfl, x0, x1, hc3, g3⟩
  obtain ⟨i, rfl⟩ := Int.eq_ofNat_of_zero_le x0
  have hi : i ≤ s.size := by omega
  have hi' : (i : Int) ≤ (s.size : Int) := by omega
  have G3 := hide (grown_new (unhide G2) g3 (by rw [unhide HCC]; exact Nat.le_refl _))
  have HC3 := hide hc3
  clear hc3 g3 G2 HC2 x0 x1
  go_wp2_with fail
  refine (draw.below c _ _ (unhide HC3) (by decide) (by decide)).mono ?_; rintro e w4 ⟨y, rfl, y0, y1, hc4, g4⟩
  have G4 := hide (grown_new (unhide G3) g4 (by rw [unhide HCC]; exact Nat.le_refl _))
  have HC4 := hide hc4
  clear hc4 g4 G3 HC3
  by_cases e0 : y = 0
  · subst e0
    go_wp2_with fail
    go_ret
    exact ⟨_, rfl, by rw [ByteArray.size_extract]; omega, unhide G4⟩
  · by_cases e1 : y = 1
    · subst e1
      go_wp2_with fail
      go_region_with (go_at_call 37; refine (pick5d c w4 (unhide HC4)).mono ?_; rintro e w5 ⟨p, rfl, hp, g5⟩; have G5 := hide (grown_new (unhide G4) g5 (by rw [unhide HCC]; exact Nat.le_refl _)); clear g5)
      all_goals
        go_wp2_with fail
        go_ret
        exact ⟨_, rfl, cat_size _ _ _ _ _ hs hp, unhide G5⟩
    · by_cases e2 : y = 2
      · subst e2
        go_wp2_with fail
        refine (pick8 c _ (unhide HC4)).mono ?_; rintro e w5 ⟨p, rfl, hp, g5⟩
        have G5 := hide (grown_new (unhide G4) g5 (by rw [unhide HCC]; exact Nat.le_refl _))
        clear g5 G4 HC4
        go_wp2_with fail
        go_ret
        exact ⟨_, rfl, by omega, unhide G5⟩
      · have f0 : (y == 0) = false := by simpa using e0
        have f1 : (y == 1) = false := by simpa using e1
        have f2 : (y == 2) = false := by simpa using e2
        go_wp2_with fail
        go_ret
        exact ⟨_, rfl, by omega, unhide G4⟩
end Go.Proofs.YtndjfibjkckbdaaDoor.dcls
