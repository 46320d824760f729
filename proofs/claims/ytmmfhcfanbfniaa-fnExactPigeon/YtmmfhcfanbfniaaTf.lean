/- AtMost, AtLeast and Exactly of the program, at any number and any list of at most 2^20 numbers that somebody owns. -/
import Derived.Test.YtmmfhcfanbfniaaTe
namespace Go.Proofs.Ytmmfhcfanbfniaa.t2
open Go.ChangeShapes Go.WideShapes Go.ChangeAt Go.RowKit
open Go.Proofs.Ytmmfhcfanbfniaa.lits (okB okB_iff)
open Go.Proofs.Ytmmfhcfanbfniaa.sl (Sl Own ints hide unhide ret_int ret_bool grown_refl grown_trans grown_drewN)
open Go.Proofs.Ytmmfhcfanbfniaa.css (Sls OwnS tot Apart own_ne own_ne' own_kind own_mono)
open Go.Proofs.Ytmmfhcfanbfniaa.cf (Box)
set_option linter.unusedVariables false

def mostB (L : List Int) (k : Int) : Bool := listB L && decide (0 ≤ k) && decide ((mostC L k).length ≤ 120)
def leastB (L : List Int) (k : Int) : Bool := listB L && decide ((leastC L k).length ≤ 120)
def justB (L : List Int) (k : Int) : Bool := listB L && decide (0 ≤ k) && decide ((leastC L k ++ mostC L k).length ≤ 120)
theorem adds_fine {Cs : List (List Int)} : addsR false [] Cs = !decide (Cs.length ≤ 120) := by
  rw [adds_iff Cs [] (by simp), ← decide_not]
  exact decide_eq_decide.2 (by simp)
theorem adds_list {Cs : List (List Int)} (h : Cs.length ≤ 120) : addsC false [] Cs = Cs := by
  have := (adds_no Cs [] (by simpa using h)).2
  simpa using this
set_option maxRecDepth 10000 in
set_option maxHeartbeats 4000000 in
theorem implAtMost (k : Int) (u : Value) (L : List Int) (lo hi : Nat) (w : World) (hL : L.length ≤ 1048576) (hu : Own lo hi w u L) (hh : hi ≤ w.heap.size) :
    Calls Try.prog 16 #[u, .int .i64 k] w fun e w' => AnsE w (mostB L k) (mostC L k) e w' := by
  have gB := World.grownBy_alloc w (.cells #[.slice none 0 0, .bool false] 70) none
  have hb := Bld.new w
  have CM := clauses_atMost w.heap.size _ u false (if 0 ≤ k then addsR false [] (mostC L k) else true) [] (if 0 ≤ k then addsC false [] (mostC L k) else []) k L w _ hL hb (hu.kept gB).sl (by
    intro h
    have lo_ := list_ok h
    by_cases hk : 0 ≤ k
    · rw [if_pos hk, if_pos hk]
      exact (atMost _ _ u false [] k L lo hi w _ lo_.1 hk lo_.2 (by simp) hb (hu.kept gB)).mono (fun e w' h => h.met)
    · rw [if_neg hk, if_neg hk]
      exact (atMostX _ _ u false [] k L lo hi w _ (by omega) hb (hu.kept gB)).mono (fun e w' h => h.met))
  have E : (listB L && !if 0 ≤ k then addsR false [] (mostC L k) else true) = mostB L k := by
    unfold mostB
    by_cases hk : 0 ≤ k
    · rw [if_pos hk, adds_fine, decide_eq_true hk, Bool.and_true, Bool.not_not]
    · rw [if_neg hk, decide_eq_false hk]
      simp
  have CM' := CM.mono (fun e w' h => h.eq (b' := mostB L k) (CC' := mostC L k) E (by
    intro hb
    rw [E] at hb
    simp only [mostB, Bool.and_eq_true, decide_eq_true_eq] at hb
    rw [if_pos hb.1.2, adds_list hb.2]))
  obtain ⟨ua, uc, rfl, _⟩ := hu.sl
  clear gB hb hu CM E
  generalize mostB L k = bb at *
  have CC := hide CM'
  clear CM'
  go_enter Try.func16, Try.ntmps16
  go_wp2_with fail
  refine (unhide CC).mono ?_; rintro e w2 ⟨q, rfl, o2, g2⟩
  have O2 := hide (And.intro o2 g2)
  clear o2 g2 CC
  go_wp2_with fail
  go_ret2
  exact ⟨_, rfl, (unhide O2).1, (unhide O2).2⟩
set_option maxRecDepth 10000 in
set_option maxHeartbeats 4000000 in
theorem implAtLeast (k : Int) (u : Value) (L : List Int) (lo hi : Nat) (w : World) (hL : L.length ≤ 1048576) (hk0 : -9223372036854775808 ≤ k) (hk1 : k ≤ 9223372036854775807) (hu : Own lo hi w u L) (hh : hi ≤ w.heap.size) :
    Calls Try.prog 17 #[u, .int .i64 k] w fun e w' => AnsE w (leastB L k) (leastC L k) e w' := by
  have gB := World.grownBy_alloc w (.cells #[.slice none 0 0, .bool false] 70) none
  have hb := Bld.new w
  have CM := clauses_atLeast w.heap.size _ u false (addsR false [] (leastC L k)) [] (addsC false [] (leastC L k)) k L w _ hL hb (hu.kept gB).sl (by
    intro h
    have lo_ := list_ok h
    exact (atLeast _ _ u false [] k L lo hi w _ lo_.1 hk0 hk1 (by simp) hb (hu.kept gB)).mono (fun e w' h => h.met))
  have E : (listB L && !addsR false [] (leastC L k)) = leastB L k := by
    unfold leastB
    rw [adds_fine, Bool.not_not]
  have CM' := CM.mono (fun e w' h => h.eq (b' := leastB L k) (CC' := leastC L k) E (by
    intro hb
    rw [E] at hb
    simp only [leastB, Bool.and_eq_true, decide_eq_true_eq] at hb
    rw [adds_list hb.2]))
  obtain ⟨ua, uc, rfl, _⟩ := hu.sl
  clear gB hb hu CM E
  generalize leastB L k = bb at *
  have CC := hide CM'
  clear CM'
  go_enter Try.func17, Try.ntmps17
  go_wp2_with fail
  refine (unhide CC).mono ?_; rintro e w2 ⟨q, rfl, o2, g2⟩
  have O2 := hide (And.intro o2 g2)
  clear o2 g2 CC
  go_wp2_with fail
  go_ret2
  exact ⟨_, rfl, (unhide O2).1, (unhide O2).2⟩
set_option maxRecDepth 10000 in
set_option maxHeartbeats 4000000 in
theorem implExactly (k : Int) (u : Value) (L : List Int) (lo hi : Nat) (w : World) (hL : L.length ≤ 1048576) (hk0 : -9223372036854775808 ≤ k) (hk1 : k ≤ 9223372036854775807) (hu : Own lo hi w u L) (hh : hi ≤ w.heap.size) :
    Calls Try.prog 18 #[u, .int .i64 k] w fun e w' => AnsE w (justB L k) (leastC L k ++ mostC L k) e w' := by
  have gB := World.grownBy_alloc w (.cells #[.slice none 0 0, .bool false] 70) none
  have hb := Bld.new w
  have CM := clauses_exactly w.heap.size _ u false (if 0 ≤ k then addsR false [] (leastC L k ++ mostC L k) else true) [] (if 0 ≤ k then addsC false [] (leastC L k ++ mostC L k) else addsC false [] (leastC L k)) k L w _ hL hb (hu.kept gB).sl (by
    intro h
    have lo_ := list_ok h
    have hs := gB.size
    by_cases hk : 0 ≤ k
    · rw [if_pos hk, if_pos hk]
      exact (exactly _ _ u false [] k L lo hi w _ lo_.1 hk hk1 lo_.2 (by simp) hb (hu.kept gB) (by omega)).mono (fun e w' h => h.met)
    · rw [if_neg hk, if_neg hk]
      exact (exactlyX _ _ u false [] k L lo hi w _ lo_.1 hk0 (by omega) (by simp) hb (hu.kept gB) (by omega)).mono (fun e w' h => h.met))
  have E : (listB L && !if 0 ≤ k then addsR false [] (leastC L k ++ mostC L k) else true) = justB L k := by
    unfold justB
    by_cases hk : 0 ≤ k
    · rw [if_pos hk, adds_fine, decide_eq_true hk, Bool.and_true, Bool.not_not]
    · rw [if_neg hk, decide_eq_false hk]
      simp
  have CM' := CM.mono (fun e w' h => h.eq (b' := justB L k) (CC' := leastC L k ++ mostC L k) E (by
    intro hb
    rw [E] at hb
    simp only [justB, Bool.and_eq_true, decide_eq_true_eq] at hb
    rw [if_pos hb.1.2, adds_list hb.2]))
  obtain ⟨ua, uc, rfl, _⟩ := hu.sl
  clear gB hb hu CM E
  generalize justB L k = bb at *
  have CC := hide CM'
  clear CM'
  go_enter Try.func18, Try.ntmps18
  go_wp2_with fail
  refine (unhide CC).mono ?_; rintro e w2 ⟨q, rfl, o2, g2⟩
  have O2 := hide (And.intro o2 g2)
  clear o2 g2 CC
  go_wp2_with fail
  go_ret2
  exact ⟨_, rfl, (unhide O2).1, (unhide O2).2⟩
end Go.Proofs.Ytmmfhcfanbfniaa.t2
