/- Formulas with literals exchanged: the program's exchangedIn and its model's l14Each, at every formula of the call's own that holds at most 2^20 values and variables of at most 24. -/
import Derived.Test.YtgmbahbdepllnaaGe
namespace Go.Proofs.Ytgmbahbdepllnaa.ge
open Go.ChangeShapes Go.WideShapes Go.ChangeAt Go.RowKit
open Go.Proofs.Ytgmbahbdepllnaa.cf (Box)
open Go.Proofs.Ytgmbahbdepllnaa.ok (cnfB)
open Go.Proofs.Ytgmbahbdepllnaa.lits (okB varI)
open Go.Proofs.Ytgmbahbdepllnaa.css (Sls OwnS tot Apart own_ne own_ne' own_kind own_mono)
open Go.Proofs.Ytgmbahbdepllnaa.sl (Sl Own ints hide unhide ret_int ret_bool grown_refl grown_trans)
set_option linter.unusedVariables false

/-- what literal z becomes where x and y change places -/
def exZ (x y z : Int) : Int := if z = -x then -y else if z = x then y else if z = -y then -x else if z = y then x else z
theorem exchanged (z x y : Int) (w : World) (hx : -24 ≤ x ∧ x ≤ 24) (hy : -24 ≤ y ∧ y ≤ 24) :
    Calls Try.prog 80 #[.int .i64 z, .int .i64 x, .int .i64 y] w fun e w' => e = .returned (.int .i64 (exZ x y z)) ∧ w' = w := by
  obtain ⟨x0, x1⟩ := hx
  obtain ⟨y0, y1⟩ := hy
  by_cases h1 : z = -x
  · have E := hide (show exZ x y z = -y by unfold exZ; rw [if_pos h1])
    have b1 : (z == -x) = true := by simpa using h1
    clear h1
    go_enter Try.func80, Try.ntmps80
    go_wp2
    go_ret
    exact ⟨ret_int (unhide E).symm, rfl⟩
  · have b1 : (z == -x) = false := by simpa using h1
    by_cases h2 : z = x
    · have E := hide (show exZ x y z = y by unfold exZ; rw [if_neg h1, if_pos h2])
      have b2 : (z == x) = true := by simpa using h2
      clear h1 h2
      go_enter Try.func80, Try.ntmps80
      go_wp2
      go_ret
      exact ⟨ret_int (unhide E).symm, rfl⟩
    · have b2 : (z == x) = false := by simpa using h2
      by_cases h3 : z = -y
      · have E := hide (show exZ x y z = -x by unfold exZ; rw [if_neg h1, if_neg h2, if_pos h3])
        have b3 : (z == -y) = true := by simpa using h3
        clear h1 h2 h3
        go_enter Try.func80, Try.ntmps80
        go_wp2
        go_ret
        exact ⟨ret_int (unhide E).symm, rfl⟩
      · have b3 : (z == -y) = false := by simpa using h3
        by_cases h4 : z = y
        · have E := hide (show exZ x y z = x by unfold exZ; rw [if_neg h1, if_neg h2, if_neg h3, if_pos h4])
          have b4 : (z == y) = true := by simpa using h4
          clear h1 h2 h3 h4
          go_enter Try.func80, Try.ntmps80
          go_wp2
          go_ret
          exact ⟨ret_int (unhide E).symm, rfl⟩
        · have b4 : (z == y) = false := by simpa using h4
          have E := hide (show exZ x y z = z by unfold exZ; rw [if_neg h1, if_neg h2, if_neg h3, if_neg h4])
          clear h1 h2 h3 h4
          go_enter Try.func80, Try.ntmps80
          go_wp2
          go_ret
          exact ⟨ret_int (unhide E).symm, rfl⟩

theorem Ex.start {W w1 : World} {n : Int} {x y : Value} {a : Option Addr} {cap : Nat} {LL : List (List Int)} (r : Nat) (lr : W.heap.size ≤ r) (hr : r < w1.heap.size) (g : W.grownBy w1 none) (br : Box 26 w1 r (.int .i64 0) (.slice none 0 0)) (o : OwnS W.heap.size w1.heap.size w1 (.slice a LL.length cap) LL) :
    ∃ U, Ex W (w1.alloc (.cells #[.int .i64 n, .slice a LL.length cap] 26)) w1.heap.size r n (.slice a LL.length cap) U LL := by
  have gA := World.grownBy_alloc w1 (.cells #[.int .i64 n, .slice a LL.length cap] 26) none
  obtain ⟨D, e, hD⟩ := OwnD.of ((o.kept gA).sub (Nat.le_refl _) gA.size)
  exact ⟨D.map (·.1), grown_trans g gA, g.size, lr, by omega, Box.new _ _ _ _, br.kept gA, D, rfl, e, hD⟩
theorem Ex.own {W wr : World} {c r : Nat} {n : Int} {v : Value} {U : List Value} {MM : List (List Int)} (h : Ex W wr c r n v U MM) : OwnS W.heap.size wr.heap.size wr v MM := by
  obtain ⟨D, _, rfl, hD⟩ := h.o
  exact hD.to
/-- what is returned through the answer's variable -/
theorem Ex.fin {W wr : World} {c r : Nat} {n : Int} {v : Value} {U : List Value} {MM : List (List Int)} (h : Ex W wr c r n v U MM) :
    Box 26 ((wr.setCell ⟨r, 0, none⟩ (.int .i64 n)).setCell ⟨r, 1, none⟩ v) r (.int .i64 n) v ∧ W.grownBy ((wr.setCell ⟨r, 0, none⟩ (.int .i64 n)).setCell ⟨r, 1, none⟩ v) none ∧ OwnS W.heap.size ((wr.setCell ⟨r, 0, none⟩ (.int .i64 n)).setCell ⟨r, 1, none⟩ v).heap.size ((wr.setCell ⟨r, 0, none⟩ (.int .i64 n)).setCell ⟨r, 1, none⟩ v) v MM := by
  refine ⟨(h.br.set0 _).set1 _, cf.grown_set (cf.grown_set h.g h.lr) h.lr, ?_⟩
  rw [cf.size_set, cf.size_set]
  exact gr.ownS_set (gr.ownS_set h.own h.br) (h.br.set0 _)
def ExE (n : Int) (RR : List (List Int)) (w : World) (e : Ending) (w' : World) : Prop := ∃ u, e = .returned (.agg #[.int .i64 n, u]) ∧ OwnS w.heap.size w'.heap.size w' u RR ∧ w.grownBy w' none

set_option maxRecDepth 10000 in
set_option maxHeartbeats 4000000 in
theorem exchangedIn (v : Value) (n x y : Int) (LL : List (List Int)) (lo hi : Nat) (w : World) (hx : -24 ≤ x ∧ x ≤ 24) (hy : -24 ≤ y ∧ y ≤ 24) (hn : tot LL ≤ 1048576) (hv : OwnS lo hi w v LL) :
    Calls Try.prog 42 #[.agg #[.int .i64 n, v], .int .i64 x, .int .i64 y] w fun e w' => ExE n (LL.map (List.map (exZ x y))) w e w' := by
  obtain ⟨va, vc, rfl⟩ := hv.len
  have hl := Nat.le_trans (css.tot_len LL) hn
  have g0 : w.grownBy ((w.alloc (.cells #[.int .i64 n, .slice va LL.length vc] 26)).alloc (.cells #[.int .i64 0, .slice none 0 0] 26)) none := grown_trans (World.grownBy_alloc _ _ _) (World.grownBy_alloc _ _ _)
  have b1 := Box.new 26 (w.alloc (.cells #[.int .i64 n, .slice va LL.length vc] 26)) (.int .i64 0) (.slice none 0 0)
  rw [World.size_alloc] at b1
  have CL := hide (copyCnf (.slice va LL.length vc) n LL lo hi _ hn (hv.kept g0))
  have EX := hide (fun z w1 => exchanged z x y w1 hx hy)
  have B1 := hide b1
  have G0 := hide g0
  clear hv g0 b1 hx hy
  go_enter Try.func42, Try.ntmps42
  go_wp2_with fail
  refine (unhide CL).mono ?_; rintro e w1 ⟨u, rfl, o1, g1⟩
  obtain ⟨ua, uc, rfl⟩ := o1.len
  have gs := (unhide G0).size
  have bk := (unhide B1).kept g1
  obtain ⟨U, hE⟩ := Ex.start (n := n) (w.heap.size + 1) (by omega) bk.lt (grown_trans (unhide G0) g1) bk (o1.sub gs (Nat.le_refl _)) (x := .int .i64 0) (y := .int .i64 0)
  have HE := hide hE
  clear CL o1 g1 bk gs B1 G0 hE
  go_wp2_with fail
  generalize w1.heap.size = c at *
  generalize hW1 : w1.alloc (.cells #[.int .i64 n, .slice ua LL.length uc] 26) = W1 at *
  clear hW1
  go_loopw [17] (fun i wr => ∃ k : Nat, k ≤ LL.length ∧ i = .int .i64 k ∧ Hid (Ex w wr c (w.heap.size + 1) n (.slice ua LL.length uc) U (midK (exZ x y) LL k))) (fun i _ => LL.length - (intOf i).toNat)
  case atStart => exact ⟨0, Nat.zero_le _, rfl, by show Ex _ _ _ _ _ _ _ _; rw [midK_zero]; exact unhide HE⟩
  case round =>
    obtain ⟨k, hk, rfl, hex⟩ := hrel
    clear HE
    by_cases hlt : k < LL.length
    · obtain ⟨b, cap, uk, ev, c1, hU, ka, kc, rfl⟩ := (unhide hex).row k (by rw [midK_len]; exact hlt)
      rw [midK_len] at ev
      cases ev
      rw [midK_at _ _ _ hlt] at hU c1
      have hi' : (k : Int) < (LL.length : Int) := by omega
      have hL := Nat.le_trans (css.tot_in LL k) hn
      have hex0 := unhide hex
      rw [← midJ_zero _ _ _ hlt] at hex0
      have ME := hide (fun j => midJ_end (exZ x y) LL k j hlt)
      have MS := hide (fun j => midJ_set (exZ x y) LL k j hlt)
      have MA := hide (fun j => midJ_at (exZ x y) LL k j hlt)
      have ML := hide (fun j => midJ_len (exZ x y) LL k j)
      have HX := hide hex0
      have HU := hide hU
      clear hex hex0 hU
      generalize hC : LL.getD k [] = C at *
      have HC := hide hC
      clear hC
      go_wp2_with fail
      go_loopw [23] (fun i wx => ∃ j : Nat, j ≤ C.length ∧ i = .int .i64 j ∧ Hid (Ex w wx c (w.heap.size + 1) n (.slice (some ⟨b, 0, none⟩) LL.length uc) U (midJ (exZ x y) LL k j))) (fun i _ => C.length - (intOf i).toNat)
      case atStart => exact ⟨0, Nat.zero_le _, rfl, HX⟩
      case round =>
        obtain ⟨j, hj, rfl, hxj⟩ := hrel
        clear HX c1
        by_cases hjl : j < C.length
        · have hj' : (j : Int) < (C.length : Int) := by omega
          obtain ⟨g, ca, e3, c2, f2, nx⟩ := (unhide hxj).put k j (by rw [unhide ML j]; exact hlt) (by rw [unhide MA j, midC_len]; exact hjl) _ (unhide HU)
          rw [unhide MA j, midC_len] at e3
          cases e3
          rw [unhide MA j, midC_at _ _ _ hjl] at c2
          have nx' := nx (exZ x y (C.getD j 0))
          rw [unhide MA j] at nx'
          rw [unhide MS j hjl] at nx'
          generalize C.getD j 0 = z at *
          have NX := hide nx'
          have EZ := hide (unhide EX z)
          clear nx nx' hxj
          go_wp2_with fail
          refine (unhide EZ _).mono ?_; rintro e w2 ⟨rfl, hw⟩; have hw' := hw.symm; clear hw; subst hw'
          go_wp2_with fail
          go_roundw
          case rel => exact ⟨j + 1, by omega, by go_num, NX⟩
          case measure => simp [intOf]; omega
        · have hj' : ¬ (j : Int) < (C.length : Int) := by omega
          have NX := unhide hxj
          rw [unhide ME j hjl] at NX
          have NX' := hide NX
          clear hxj NX
          go_wp2_with fail
          go_roundw
          case rel => exact ⟨k + 1, by omega, by go_num, NX'⟩
          case measure => simp [intOf]; omega
    · have hi' : ¬ (k : Int) < (LL.length : Int) := by omega
      have h9 := unhide hex
      rw [midK_end _ _ _ hlt] at h9
      have x0 := h9.b.c0
      have x1 := h9.b.c1
      have y0 := h9.br.c0
      have y1 := h9.br.c1
      have y2 := h9.br.f 0
      have y3 := h9.br.f 1
      have H9 := hide h9.fin
      have nn := h9.ne
      clear hex h9
      go_wp2_with fail
      (try simp only [Exit.inBlock, Exit.then])
      obtain ⟨f1, f2, f3⟩ := unhide H9
      exact bodyPost_ret (cf.ret_box rfl rfl f1) rfl ⟨_, rfl, f3, f2⟩
end Go.Proofs.Ytgmbahbdepllnaa.ge
