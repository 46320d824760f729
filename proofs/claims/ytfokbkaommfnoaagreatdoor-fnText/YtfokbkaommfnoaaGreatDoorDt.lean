/- What DrawCnfText and DrawReadCnf draw: any formula in memory of its own; a text of at most 2^20 bytes; nothing old is written. -/
import Derived.Test.YtfokbkaommfnoaaGreatDoorDAn
import Derived.Test.YtfokbkaommfnoaaGreatDoorDf
import Derived.Test.YtfokbkaommfnoaaGreatDoorPk
import Derived.Test.YtfokbkaommfnoaaGreatDoorCy
namespace Go.Proofs.YtfokbkaommfnoaaGreatDoor.dt
open Go.ChangeShapes Go.WideShapes Go.ChangeAt Go.RowKit
open Go.Proofs.YtfokbkaommfnoaaGreatDoor.sl (Sl Own ints hide unhide grown_refl grown_trans grown_trans' grown_drewN below_of of_below)
open Go.Proofs.YtfokbkaommfnoaaGreatDoor.css (Sls OwnS tot)
open Go.Proofs.YtfokbkaommfnoaaGreatDoor.cf (Box)
open Go.Proofs.YtfokbkaommfnoaaGreatDoor.draw (Bs Cur newCur grown_new)
open Go.Proofs.YtfokbkaommfnoaaGreatDoor.dcn (Bd Came Drawn)
open Go.Proofs.YtfokbkaommfnoaaGreatDoor.pk (pickS laid_cell)
set_option linter.unusedVariables false

set_option maxHeartbeats 1600000 in
theorem drawCnfText (a : Option Addr) (n cap : Nat) (w : World) (hn : n ≤ 1048576) (hB : Bs w a n) :
    Calls Tryz.prog 6 #[.slice a n cap] w fun e w' => ∃ (k : Int) (v : Value) (M : List (List Int)), e = .returned (.agg #[.int .i64 k, v]) ∧ Bd k M 121 ∧ OwnS w.heap.size w'.heap.size w' v M ∧ w.grownBy w' none := by
  have nc := newCur a n cap (w.alloc (.cells #[.int .i64 0, .slice none 0 0] 26)) hn (hB.below (below_of (World.grownBy_alloc w (.cells #[.int .i64 0, .slice none 0 0] 26) none)))
  simp only [World.size_alloc] at nc
  have NC := hide nc
  have R0 := hide (Box.new 26 w (.int .i64 0) (.slice none 0 0))
  clear hB nc
  go_enter Tryz.func6, Tryz.ntmps6
  go_wp2_with fail
  refine (unhide NC).mono ?_; rintro e w1 ⟨rfl, hc1, g1⟩
  have C1 := hide hc1
  have G1 := hide g1
  have R1 := hide ((unhide R0).kept g1)
  clear hc1 g1 NC R0
  go_wp2_with fail
  refine (dcn.any _ _ (unhide C1)).mono ?_; rintro e w2 ⟨k, v, M, rfl, bd, od, gd, cd⟩
  obtain ⟨va, vc, rfl⟩ := od.len
  have r2 := (unhide R1).by gd (fun e => by simp at e)
  have R2 := hide r2
  have OD := hide od
  have GD := hide gd
  have BD := hide bd
  have rc0 := r2.c0
  have rc1 := r2.c1
  have rf0 := r2.f 0
  have rf1 := r2.f 1
  have GA := hide (grown_trans (r := none) (World.grownBy_alloc w (.cells #[.int .i64 0, .slice none 0 0] 26) none) (unhide G1))
  clear r2 od gd cd bd
  go_wp2_with fail
  (try simp only [Exit.inBlock, Exit.then])
  have gw := draw.grown_new (unhide GA) (unhide GD) (Nat.le_succ _)
  have os := gr.ownS_set (i := 1) (u := .slice va M.length vc) (gr.ownS_set (i := 0) (u := .int .i64 k) (unhide OD) (unhide R2)) ((unhide R2).set0 (.int .i64 k))
  refine bodyPost_ret (cf.ret_box rfl rfl (((unhide R2).set0 (.int .i64 k)).set1 (.slice va M.length vc))) rfl ⟨k, _, M, rfl, unhide BD, ?_, ?_⟩
  · refine os.sub (unhide GA).size ?_
    rw [cf.size_set, cf.size_set]
    exact Nat.le_refl _
  · exact cf.grown_set (cf.grown_set gw (Nat.le_refl _)) (Nat.le_refl _)
def list6 : List ByteArray := [⟨#[32]⟩, ⟨#[48]⟩, ⟨#[45]⟩, ⟨#[10]⟩, ⟨#[49, 32, 48, 10]⟩, ⟨#[99, 32, 120, 10]⟩]
theorem list6_size : ∀ s ∈ list6, s.size ≤ 20 := by
  intro s hs
  simp only [list6, List.mem_cons, List.not_mem_nil, or_false] at hs
  rcases hs with rfl | rfl | rfl | rfl | rfl | rfl <;> decide
theorem pick6d (c : Nat) (w : World) (hc : Cur w c) :
    Calls Tryz.prog 61 #[.pointer (some ⟨c, 0, none⟩), .slice (some ⟨w.heap.size, 0, none⟩) 6 6] (w.alloc (.cells #[.string ⟨#[32]⟩, .string ⟨#[48]⟩, .string ⟨#[45]⟩, .string ⟨#[10]⟩, .string ⟨#[49, 32, 48, 10]⟩, .string ⟨#[99, 32, 120, 10]⟩] 9)).drew fun e w' => ∃ s, e = .returned (.string s) ∧ s.size ≤ 20 ∧ w.grownBy w' (some c) := by
  have g0 : w.grownBy (w.alloc (.cells #[.string ⟨#[32]⟩, .string ⟨#[48]⟩, .string ⟨#[45]⟩, .string ⟨#[10]⟩, .string ⟨#[49, 32, 48, 10]⟩, .string ⟨#[99, 32, 120, 10]⟩] 9)).drew none := grown_trans (World.grownBy_alloc w _ none) (grown_drewN _ 1)
  have g1 : w.grownBy (w.alloc (.cells #[.string ⟨#[32]⟩, .string ⟨#[48]⟩, .string ⟨#[45]⟩, .string ⟨#[10]⟩, .string ⟨#[49, 32, 48, 10]⟩, .string ⟨#[99, 32, 120, 10]⟩] 9)).drew (some c) := grown_trans (World.grownBy_alloc w _ none) (grown_drewN _ 1)
  refine (pickS c w.heap.size list6 _ (hc.kept g0 (fun r e => by cases e)) hc.lt (by decide) (by decide) (laid_cell w list6 9)).mono ?_
  rintro e w1 ⟨s, rfl, hs, _, g⟩
  exact ⟨s, rfl, list6_size s hs, grown_trans' g1 g⟩
def list4 : List ByteArray := [⟨#[49, 32, 48, 10]⟩, ⟨#[120, 10]⟩, ⟨#[10]⟩, ⟨#[49]⟩]
theorem list4_size : ∀ s ∈ list4, s.size ≤ 20 := by
  intro s hs
  simp only [list4, List.mem_cons, List.not_mem_nil, or_false] at hs
  rcases hs with rfl | rfl | rfl | rfl <;> decide
theorem pick4 (c : Nat) (w : World) (hc : Cur w c) :
    Calls Tryz.prog 61 #[.pointer (some ⟨c, 0, none⟩), .slice (some ⟨w.heap.size, 0, none⟩) 4 4] (w.alloc (.cells #[.string ⟨#[49, 32, 48, 10]⟩, .string ⟨#[120, 10]⟩, .string ⟨#[10]⟩, .string ⟨#[49]⟩] 9)) fun e w' => ∃ s, e = .returned (.string s) ∧ s.size ≤ 20 ∧ w.grownBy w' (some c) := by
  refine (pickS c w.heap.size list4 _ (hc.kept (World.grownBy_alloc w _ none) (fun r e => by cases e)) hc.lt (by decide) (by decide) (laid_cell w list4 _)).mono ?_
  rintro e w1 ⟨s, rfl, hs, _, g⟩
  exact ⟨s, rfl, list4_size s hs, grown_trans' (World.grownBy_alloc w _ _) g⟩
def list9 : List ByteArray := [⟨#[]⟩, ⟨#[10]⟩, ⟨#[112, 32, 99, 110, 102, 32, 48, 32, 48, 10]⟩, ⟨#[112, 32, 99, 110, 102, 32, 49, 32, 49, 10]⟩, ⟨#[112, 32, 99, 110, 102, 32, 50, 53, 32, 48, 10]⟩, ⟨#[112, 32, 99, 110, 102, 32, 49, 32, 49, 50, 49, 10]⟩, ⟨#[113, 32, 99, 110, 102, 32, 49, 32, 48, 10]⟩, ⟨#[112, 32, 99, 110, 102, 32, 49, 32, 48, 10, 48, 10]⟩, ⟨#[99, 10]⟩]
theorem list9_size : ∀ s ∈ list9, s.size ≤ 20 := by
  intro s hs
  simp only [list9, List.mem_cons, List.not_mem_nil, or_false] at hs
  rcases hs with rfl | rfl | rfl | rfl | rfl | rfl | rfl | rfl | rfl <;> decide
theorem pick9 (c : Nat) (w : World) (hc : Cur w c) :
    Calls Tryz.prog 61 #[.pointer (some ⟨c, 0, none⟩), .slice (some ⟨w.heap.size, 0, none⟩) 9 9] (w.alloc (.cells #[.string ⟨#[]⟩, .string ⟨#[10]⟩, .string ⟨#[112, 32, 99, 110, 102, 32, 48, 32, 48, 10]⟩, .string ⟨#[112, 32, 99, 110, 102, 32, 49, 32, 49, 10]⟩, .string ⟨#[112, 32, 99, 110, 102, 32, 50, 53, 32, 48, 10]⟩, .string ⟨#[112, 32, 99, 110, 102, 32, 49, 32, 49, 50, 49, 10]⟩, .string ⟨#[113, 32, 99, 110, 102, 32, 49, 32, 48, 10]⟩, .string ⟨#[112, 32, 99, 110, 102, 32, 49, 32, 48, 10, 48, 10]⟩, .string ⟨#[99, 10]⟩] 9)) fun e w' => ∃ s, e = .returned (.string s) ∧ s.size ≤ 20 ∧ w.grownBy w' (some c) := by
  refine (pickS c w.heap.size list9 _ (hc.kept (World.grownBy_alloc w _ none) (fun r e => by cases e)) hc.lt (by decide) (by decide) (laid_cell w list9 _)).mono ?_
  rintro e w1 ⟨s, rfl, hs, _, g⟩
  exact ⟨s, rfl, list9_size s hs, grown_trans' (World.grownBy_alloc w _ _) g⟩
theorem textS (v : Value) (n : Int) (LL : List (List Int)) (w : World) (hn : tot LL ≤ 1048576) (hv : Sls w v LL) :
    Calls Tryz.prog 8 #[.agg #[.int .i64 n, v]] w fun e w' => ∃ s : ByteArray, e = .returned (.string s) ∧ s.size ≤ 12000 ∧ w.grownBy w' none := by
  refine (cx.specCnfText v n LL w hn hv).mono ?_
  rintro e w1 ⟨rfl, g⟩
  refine ⟨⟨(cx.cnfT n LL).toArray⟩, rfl, ?_, g⟩
  show (cx.cnfT n LL).toArray.size ≤ _
  rw [List.size_toArray]
  unfold cx.cnfT
  split
  · rename_i h
    rw [Bool.and_eq_true, decide_eq_true_iff] at h
    exact h.2
  · exact Nat.zero_le _
theorem cat_size (a b c : ByteArray) (i j : Nat) (h : a.size ≤ 12000) (hb : b.size ≤ 20) : (a.extract 0 i ++ b ++ a.extract j c.size).size ≤ 1048576 := by
  rw [ByteArray.size_append, ByteArray.size_append, ByteArray.size_extract, ByteArray.size_extract]
  omega
set_option maxHeartbeats 1600000 in
theorem l03Text (c : Nat) (w : World) (hc : Cur w c) :
    Calls Tryz.prog 31 #[.pointer (some ⟨c, 0, none⟩)] w fun e w' => ∃ s : ByteArray, e = .returned (.string s) ∧ s.size ≤ 1048576 ∧ w.grownBy w' (some c) := by
  have HC := hide hc
  clear hc
  go_enter Tryz.func31, Tryz.ntmps31
  go_wp2_with fail
  refine (dcn.cnf c 6 _ (unhide HC) (by decide) (by decide)).mono ?_; rintro e w1 ⟨n, v, M, rfl, hn, hl, hg, od, g1, c1⟩
  have ht : tot M ≤ 1048576 := Nat.le_trans (df.tot_bd (dcn.bd_good hn hl hg) (by decide)) (by decide)
  have OD := hide od
  have C1 := hide c1
  have G1 := hide g1
  clear od c1 g1 hn hl hg HC
  go_wp2_with fail
  refine (textS v n M _ ht (unhide OD).sls).mono ?_; rintro e w2 ⟨s, rfl, hs, g2⟩
  have C2 := hide ((unhide C1).kept g2 (fun r e => by cases e))
  have G2 := hide (grown_trans' (unhide G1) (grown_trans (r := some c) (grown_refl _) g2))
  clear OD C1 G1 g2 ht
  go_wp2_with fail
  refine (draw.below c _ _ (unhide C2) (by omega) (by omega)).mono ?_; rintro e w3 ⟨x, rfl, x0, x1, hc3, g3⟩
  obtain ⟨i, rfl⟩ := Int.eq_ofNat_of_zero_le x0
  have hi : i ≤ s.size := by omega
  have hi' : (i : Int) ≤ (s.size : Int) := by omega
  have G3 := hide (grown_trans' (unhide G2) g3)
  have HC3 := hide hc3
  clear hc3 g3 G2 C2 x0 x1
  go_wp2_with fail
  refine (draw.below c _ _ (unhide HC3) (by decide) (by decide)).mono ?_; rintro e w4 ⟨y, rfl, y0, y1, hc4, g4⟩
  have G4 := hide (grown_trans' (unhide G3) g4)
  have HC4 := hide hc4
  clear hc4 g4 G3 HC3
  by_cases e0 : y = 0
  · subst e0
    go_wp2_with fail
    go_ret
    exact ⟨_, rfl, by rw [ByteArray.size_extract]; omega, unhide G4⟩
  by_cases e1 : y = 1
  · subst e1
    go_wp2_with fail
    go_region_with (go_at_call 61; refine (pick6d c w4 (unhide HC4)).mono ?_; rintro e w5 ⟨p, rfl, hp, g5⟩; have G5 := hide (grown_trans' (unhide G4) g5); clear g5)
    all_goals
      go_wp2_with fail
      go_ret
      exact ⟨_, rfl, cat_size _ _ _ _ _ hs hp, unhide G5⟩
  have f0 : (y == 0) = false := by simpa using e0
  have f1 : (y == 1) = false := by simpa using e1
  by_cases e2 : y = 2
  · subst e2
    clear f0 f1
    go_wp2_with fail
    go_ret
    exact ⟨_, rfl, by rw [ByteArray.size_append]; show 9 + s.size ≤ _; omega, unhide G4⟩
  have f2 : (y == 2) = false := by simpa using e2
  by_cases e3 : y = 3
  · subst e3
    clear f0 f1 f2
    go_wp2_with fail
    refine (pick4 c _ (unhide HC4)).mono ?_; rintro e w5 ⟨p, rfl, hp, g5⟩
    have G5 := hide (grown_trans' (unhide G4) g5)
    clear g5 G4 HC4
    go_wp2_with fail
    go_ret
    exact ⟨_, rfl, by rw [ByteArray.size_append]; omega, unhide G5⟩
  have f3 : (y == 3) = false := by simpa using e3
  by_cases e4 : y = 4
  · subst e4
    clear f0 f1 f2 f3
    go_wp2_with fail
    refine (pick9 c _ (unhide HC4)).mono ?_; rintro e w5 ⟨p, rfl, hp, g5⟩
    have G5 := hide (grown_trans' (unhide G4) g5)
    clear g5 G4 HC4
    go_wp2_with fail
    go_ret
    exact ⟨_, rfl, by omega, unhide G5⟩
  have f4 : (y == 4) = false := by simpa using e4
  clear e0 e1 e2 e3 e4
  go_wp2_with fail
  go_ret
  exact ⟨_, rfl, by omega, unhide G4⟩
set_option maxHeartbeats 1600000 in
theorem drawReadCnf (a : Option Addr) (n cap : Nat) (w : World) (hn : n ≤ 1048576) (hB : Bs w a n) :
    Calls Tryz.prog 11 #[.slice a n cap] w fun e w' => ∃ s : ByteArray, e = .returned (.string s) ∧ s.size ≤ 1048576 ∧ w.grownBy w' none := by
  have HB := hide hB
  clear hB
  go_enter Tryz.func11, Tryz.ntmps11
  go_wp2_with fail
  refine (newCur a n cap _ hn (unhide HB)).mono ?_; rintro e w1 ⟨rfl, hc1, g1⟩
  have HC1 := hide hc1
  have G1 := hide g1
  clear hc1 g1 HB
  generalize hcc : w.heap.size = c at HC1
  have HCC := hide hcc
  clear hcc
  go_wp2_with fail
  refine (l03Text c _ (unhide HC1)).mono ?_; rintro e w2 ⟨s, rfl, hs, g2⟩
  have G2 := hide (show w.grownBy w2 none from grown_new (unhide G1) g2 (by rw [unhide HCC]; exact Nat.le_refl _))
  clear g2 G1 HC1
  go_wp2_with fail
  go_ret
  exact ⟨_, rfl, hs, unhide G2⟩
end Go.Proofs.YtfokbkaommfnoaaGreatDoor.dt
