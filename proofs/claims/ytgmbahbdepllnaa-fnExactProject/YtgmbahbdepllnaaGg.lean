/- FlipVar and SwapVars: what the program and its model answer at every formula of the call's own that holds at most 2^20 values, and every numbers. -/
import Derived.Test.YtgmbahbdepllnaaGf
namespace Go.Proofs.Ytgmbahbdepllnaa.ge
open Go.ChangeShapes Go.WideShapes Go.ChangeAt Go.RowKit
open Go.Proofs.Ytgmbahbdepllnaa.cf (Box)
open Go.Proofs.Ytgmbahbdepllnaa.ok (cnfB)
open Go.Proofs.Ytgmbahbdepllnaa.lits (okB varI)
open Go.Proofs.Ytgmbahbdepllnaa.css (Sls OwnS tot Apart own_ne own_ne' own_kind own_mono)
open Go.Proofs.Ytgmbahbdepllnaa.sl (Sl Own ints hide unhide ret_int ret_bool grown_refl grown_trans)
set_option linter.unusedVariables false
set_option linter.unusedSimpArgs false

/-- what the model makes of a literal -/
def eaZ (v w t z : Int) : Int := if varI z = v then (if z < 0 then -1 else 1) * t * w else if varI z = w then (if z < 0 then -1 else 1) * t * v else z

theorem wr64 {z : Int} (h0 : -24 ≤ z) (h1 : z ≤ 24) : wrap64 z = z := by
  unfold wrap64
  omega
set_option maxRecDepth 10000 in
set_option maxHeartbeats 4000000 in
theorem l14Each (v : Value) (n x y t : Int) (LL : List (List Int)) (lo hi : Nat) (w : World) (hx : -24 ≤ x ∧ x ≤ 24) (hy : -24 ≤ y ∧ y ≤ 24) (ht : -1 ≤ t ∧ t ≤ 1) (hn : tot LL ≤ 1048576) (hhi : hi ≤ w.heap.size) (hv : OwnS lo hi w v LL) :
    Calls Try.prog 45 #[.agg #[.int .i64 n, v], .int .i64 x, .int .i64 y, .int .i64 t] w fun e w' => ExE n (LL.map (List.map (eaZ x y t))) w e w' := by
  obtain ⟨va, vc, rfl⟩ := hv.len
  have hl := Nat.le_trans (css.tot_len LL) hn
  have g0 : w.grownBy ((w.alloc (.cells #[.int .i64 n, .slice va LL.length vc] 26)).alloc (.cells #[.int .i64 0, .slice none 0 0] 26)) none := grown_trans (World.grownBy_alloc _ _ _) (World.grownBy_alloc _ _ _)
  have b1 := Box.new 26 (w.alloc (.cells #[.int .i64 n, .slice va LL.length vc] 26)) (.int .i64 0) (.slice none 0 0)
  rw [World.size_alloc] at b1
  have CL := hide (jn.l02Copy (.slice va LL.length vc) n LL lo hi _ hn (hv.kept g0) (Nat.le_trans hhi g0.size))
  have B1 := hide b1
  have G0 := hide g0
  obtain ⟨x0, x1⟩ := hx
  obtain ⟨y0, y1⟩ := hy
  obtain ⟨t0, t1⟩ := ht
  have TB := hide (show (-24 ≤ 1 * t * x ∧ 1 * t * x ≤ 24) ∧ (-24 ≤ 1 * t * y ∧ 1 * t * y ≤ 24) ∧ (-24 ≤ -1 * t * x ∧ -1 * t * x ≤ 24) ∧ (-24 ≤ -1 * t * y ∧ -1 * t * y ≤ 24) by
    have : t = -1 ∨ t = 0 ∨ t = 1 := by omega
    rcases this with rfl | rfl | rfl <;> omega)
  clear hv g0 b1
  go_enter Try.func45, Try.ntmps45
  go_wp2_with fail
  refine (unhide CL).mono ?_; rintro e w1 ⟨u, rfl, o1, g1⟩
  obtain ⟨ua, uc, rfl⟩ := o1.len
  have gs := (unhide G0).size
  have bk := (unhide B1).kept g1
  obtain ⟨U, hE⟩ := Ex.start (n := n) (w.heap.size + 1) (by omega) bk.lt (grown_trans (unhide G0) g1) bk (o1.sub gs (Nat.le_refl _)) (x := .int .i64 0) (y := .int .i64 0)
  have HE := hide hE
  clear CL o1 g1 bk gs B1 G0 hE
  go_wp2_with fail
  generalize w1.heap.size = c at *
  generalize hW1 : w1.alloc (.cells #[.int .i64 n, .slice ua LL.length uc] 26) = W1 at *
  clear hW1
  go_loopw [10] (fun i wr => ∃ k : Nat, k ≤ LL.length ∧ i = .int .i64 k ∧ Hid (Ex w wr c (w.heap.size + 1) n (.slice ua LL.length uc) U (midK (eaZ x y t) LL k))) (fun i _ => LL.length - (intOf i).toNat)
  case atStart => exact ⟨0, Nat.zero_le _, rfl, by show Ex _ _ _ _ _ _ _ _; rw [midK_zero]; exact unhide HE⟩
  case round =>
    obtain ⟨k, hk, rfl, hex⟩ := hrel
    clear HE
    by_cases hlt : k < LL.length
    · obtain ⟨b, cap, uk, ev, c1, hU, ka, kc, rfl⟩ := (unhide hex).row k (by rw [midK_len]; exact hlt)
      rw [midK_len] at ev
      cases ev
      rw [midK_at _ _ _ hlt] at hU c1
      have z0 := (unhide hex).b.c0
      have z1 := (unhide hex).b.c1
      have hi' : (k : Int) < (LL.length : Int) := by omega
      have hL := Nat.le_trans (css.tot_in LL k) hn
      have hex0 := unhide hex
      rw [← midJ_zero _ _ _ hlt] at hex0
      have ME := hide (fun j => midJ_end (eaZ x y t) LL k j hlt)
      have MS := hide (fun j => midJ_set (eaZ x y t) LL k j hlt)
      have MA := hide (fun j => midJ_at (eaZ x y t) LL k j hlt)
      have ML := hide (fun j => midJ_len (eaZ x y t) LL k j)
      have HX := hide hex0
      have HU := hide hU
      clear hex hex0 hU
      generalize hC : LL.getD k [] = C at *
      have HC := hide hC
      clear hC
      go_wp2_with fail
      go_loopw [11] (fun i wx => ∃ j : Nat, j ≤ C.length ∧ i = .int .i64 j ∧ Hid (Ex w wx c (w.heap.size + 1) n (.slice (some ⟨b, 0, none⟩) LL.length uc) U (midJ (eaZ x y t) LL k j))) (fun i _ => C.length - (intOf i).toNat)
      case atStart => exact ⟨0, Nat.zero_le _, rfl, HX⟩
      case round =>
        obtain ⟨j, hj, rfl, hxj⟩ := hrel
        clear HX c1 z0 z1
        have z0 := (unhide hxj).b.c0
        have z1 := (unhide hxj).b.c1
        have rw0 := (unhide hxj).row k (by rw [unhide ML j]; exact hlt)
        obtain ⟨b', cap', uk', ev', c1, hU', _⟩ := rw0
        rw [unhide ML j] at ev'
        cases ev'
        rw [unhide HU] at hU'
        cases hU'
        by_cases hjl : j < C.length
        · have hj' : (j : Int) < (C.length : Int) := by omega
          obtain ⟨g, ca, e3, c2, f2, nx⟩ := (unhide hxj).put k j (by rw [unhide ML j]; exact hlt) (by rw [unhide MA j, midC_len]; exact hjl) _ (unhide HU)
          rw [unhide MA j, midC_len] at e3
          cases e3
          rw [unhide MA j, midC_at _ _ _ hjl] at c2
          have nx' := nx (eaZ x y t (C.getD j 0))
          rw [unhide MA j] at nx'
          rw [unhide MS j hjl] at nx'
          generalize C.getD j 0 = z at *
          have NX := hide nx'
          have EZ := hide (fun w1 => lits.specLitVar z w1)
          obtain ⟨⟨p1, p2⟩, ⟨p3, p4⟩, ⟨p5, p6⟩, p7, p8⟩ := unhide TB
          have WW := hide (And.intro (wr64 p1 p2) (And.intro (wr64 p3 p4) (And.intro (wr64 p5 p6) (wr64 p7 p8))))
          clear p1 p2 p3 p4 p5 p6 p7 p8
          have EE := hide (show eaZ x y t z = if varI z = x then (if z < 0 then -1 else 1) * t * y else if varI z = y then (if z < 0 then -1 else 1) * t * x else z from rfl)
          generalize eaZ x y t z = rz at *
          generalize varI z = vz at *
          clear nx nx' hxj TB
          by_cases hz : z < 0
          · by_cases e1 : vz = x
            · have q1 : (vz == x) = true := by simpa using e1
              have E2 : rz = -1 * t * y := by rw [unhide EE, if_pos e1, if_pos hz]
              rw [E2] at NX
              clear E2 EE e1
              go_wp2_with (go_at_call 52; refine (unhide EZ _).mono ?_; rintro e w' ⟨rfl, rfl⟩)
              go_roundw
              case rel => exact ⟨j + 1, by omega, by go_num, (by have ww := (unhide WW).2.2.2; simp only [Int.one_mul, Int.neg_mul] at ww NX ⊢; first | (rw [ww]; exact NX) | (simp only [Int.neg_mul] at *; rw [ww]; exact NX))⟩
              case measure => simp [intOf]; omega
            · have q1 : (vz == x) = false := by simpa using e1
              by_cases e2 : vz = y
              · have q2 : (vz == y) = true := by simpa using e2
                have E2 : rz = -1 * t * x := by rw [unhide EE, if_neg e1, if_pos e2, if_pos hz]
                rw [E2] at NX
                clear E2 EE e1 e2
                go_wp2_with (go_at_call 52; refine (unhide EZ _).mono ?_; rintro e w' ⟨rfl, rfl⟩)
                go_roundw
                case rel => exact ⟨j + 1, by omega, by go_num, (by have ww := (unhide WW).2.2.1; simp only [Int.one_mul, Int.neg_mul] at ww NX ⊢; first | (rw [ww]; exact NX) | (simp only [Int.neg_mul] at *; rw [ww]; exact NX))⟩
                case measure => simp [intOf]; omega
              · have q2 : (vz == y) = false := by simpa using e2
                have E2 : rz = z := by rw [unhide EE, if_neg e1, if_neg e2]
                rw [E2] at NX
                clear E2 EE e1 e2
                go_wp2_with (go_at_call 52; refine (unhide EZ _).mono ?_; rintro e w' ⟨rfl, rfl⟩)
                go_roundw
                case rel => exact ⟨j + 1, by omega, by go_num, NX⟩
                case measure => simp [intOf]; omega
          · by_cases e1 : vz = x
            · have q1 : (vz == x) = true := by simpa using e1
              have E2 : rz = 1 * t * y := by rw [unhide EE, if_pos e1, if_neg hz]
              rw [E2] at NX
              clear E2 EE e1
              go_wp2_with (go_at_call 52; refine (unhide EZ _).mono ?_; rintro e w' ⟨rfl, rfl⟩)
              go_roundw
              case rel => exact ⟨j + 1, by omega, by go_num, (by have ww := (unhide WW).2.1; simp only [Int.one_mul, Int.neg_mul] at ww NX ⊢; first | (rw [ww]; exact NX) | (simp only [Int.neg_mul] at *; rw [ww]; exact NX))⟩
              case measure => simp [intOf]; omega
            · have q1 : (vz == x) = false := by simpa using e1
              by_cases e2 : vz = y
              · have q2 : (vz == y) = true := by simpa using e2
                have E2 : rz = 1 * t * x := by rw [unhide EE, if_neg e1, if_pos e2, if_neg hz]
                rw [E2] at NX
                clear E2 EE e1 e2
                go_wp2_with (go_at_call 52; refine (unhide EZ _).mono ?_; rintro e w' ⟨rfl, rfl⟩)
                go_roundw
                case rel => exact ⟨j + 1, by omega, by go_num, (by have ww := (unhide WW).1; simp only [Int.one_mul, Int.neg_mul] at ww NX ⊢; first | (rw [ww]; exact NX) | (simp only [Int.neg_mul] at *; rw [ww]; exact NX))⟩
                case measure => simp [intOf]; omega
              · have q2 : (vz == y) = false := by simpa using e2
                have E2 : rz = z := by rw [unhide EE, if_neg e1, if_neg e2]
                rw [E2] at NX
                clear E2 EE e1 e2
                go_wp2_with (go_at_call 52; refine (unhide EZ _).mono ?_; rintro e w' ⟨rfl, rfl⟩)
                go_roundw
                case rel => exact ⟨j + 1, by omega, by go_num, NX⟩
                case measure => simp [intOf]; omega
        · have hj' : ¬ (j : Int) < (C.length : Int) := by omega
          have NX := unhide hxj
          rw [unhide ME j hjl] at NX
          have NX' := hide NX
          clear hxj NX
          go_wp2_with fail
          go_roundw
          case rel => exact ⟨k + 1, by omega, by go_num, NX'⟩
          case measure => simp [intOf]; omega
    · have hi' : ¬ (k : Int) < (LL.length : Int) := by omega
      have h9 := unhide hex
      rw [midK_end _ _ _ hlt] at h9
      have z0 := h9.b.c0
      have z1 := h9.b.c1
      have y0 := h9.br.c0
      have y1 := h9.br.c1
      have y2 := h9.br.f 0
      have y3 := h9.br.f 1
      have H9 := hide h9.fin
      have nn := h9.ne
      clear hex h9
      go_wp2_with fail
      (try simp only [Exit.inBlock, Exit.then])
      obtain ⟨f1, f2, f3⟩ := unhide H9
      exact bodyPost_ret (cf.ret_box rfl rfl f1) rfl ⟨_, rfl, f3, f2⟩

/-- both make the same of a literal -/
theorem flip_eq {v z : Int} (hv : 1 ≤ v ∧ v ≤ 24) (hz : okB z = true) : eaZ v v (-1) z = exZ v (-v) z := by
  have := (lits.okB_iff).1 hz
  unfold eaZ exZ varI
  rw [hz, if_pos rfl]
  by_cases h0 : z < 0
  · simp only [if_pos h0]
    repeat' split
    all_goals omega
  · simp only [if_neg h0]
    repeat' split
    all_goals omega
theorem swap_eq {v w z : Int} (hv : 1 ≤ v ∧ v ≤ 24) (hw : 1 ≤ w ∧ w ≤ 24) (hz : okB z = true) : eaZ v w 1 z = exZ v w z := by
  have := (lits.okB_iff).1 hz
  unfold eaZ exZ varI
  rw [hz, if_pos rfl]
  by_cases h0 : z < 0
  · simp only [if_pos h0]
    repeat' split
    all_goals omega
  · simp only [if_neg h0]
    repeat' split
    all_goals omega
theorem map_eq {n : Int} {LL : List (List Int)} {f g : Int → Int} (h : cnfB n LL = true) (e : ∀ z, okB z = true → f z = g z) : LL.map (List.map f) = LL.map (List.map g) := by
  apply List.map_congr_left
  intro C hC
  apply List.map_congr_left
  intro z hz
  unfold ok.cnfB at h
  rw [Bool.and_eq_true, Bool.and_eq_true, List.all_eq_true] at h
  have h1 := h.2 C hC
  unfold ok.clB at h1
  rw [Bool.and_eq_true, List.all_eq_true] at h1
  have h2 := h1.1 z hz
  unfold ok.litIn at h2
  rw [Bool.and_eq_true] at h2
  exact e z h2.1
end Go.Proofs.Ytgmbahbdepllnaa.ge
