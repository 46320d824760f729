/- Color of the model; conditions: sizes. -/
import Derived.Test.YtmmmldcnadidkaaEg
namespace Go.Proofs.Ytmmmldcnadidkaa.t2
open Go.ChangeShapes Go.WideShapes Go.ChangeAt Go.RowKit
open Go.Proofs.Ytmmmldcnadidkaa.lits (okB okB_iff)
open Go.Proofs.Ytmmmldcnadidkaa.sl (Sl Own ints hide unhide ret_int ret_bool grown_refl grown_trans grown_drewN)
open Go.Proofs.Ytmmmldcnadidkaa.css (Sls OwnS tot Apart own_ne own_ne' own_kind own_mono)
open Go.Proofs.Ytmmmldcnadidkaa.cf (Box)
open Go.Proofs.Ytmmmldcnadidkaa.wo (Made)
open Go.Proofs.Ytmmmldcnadidkaa.ed (Eds)
set_option linter.unusedVariables false

/-- how many subsets of a size there are -/
def bin : Nat → Nat → Nat
  | _, 0 => 1
  | 0, _ + 1 => 0
  | n + 1, m + 1 => bin n m + bin n (m + 1)
theorem subs_count : ∀ (L : List Int) (m : Nat), (subs L m).length = bin L.length m
  | L, 0 => by rw [subs_zero]; cases L <;> rfl
  | [], _ + 1 => rfl
  | x :: L, m + 1 => by rw [subs, List.length_append, List.length_map, subs_count L m, subs_count L (m + 1)]; rfl
theorem vert_len (k i : Nat) (h0 : 1 ≤ k) (h1 : k ≤ 6) : (vertC k i).length ≤ 16 := by
  unfold vertC leastC mostC
  rw [List.length_append, subs_count, subs_count, sp.negL, List.length_map, rowL_len]
  have : k = 1 ∨ k = 2 ∨ k = 3 ∨ k = 4 ∨ k = 5 ∨ k = 6 := by omega
  rcases this with rfl | rfl | rfl | rfl | rfl | rfl <;> decide
theorem verts_len (k i : Nat) (h0 : 1 ≤ k) (h1 : k ≤ 6) : (vertsT k i).length ≤ i * 16 := by
  induction i with
  | zero => exact Nat.le_refl _
  | succ i ih =>
    rw [vertsT_step, List.length_append]
    have := vert_len k i h0 h1
    omega
theorem edges_len (k : Nat) (f : Nat → Int) (j : Nat) : (edgesT k f j).length = j * k := by
  induction j with
  | zero => simp [edgesT]
  | succ j ih =>
    rw [edgesT_step, List.length_append, ih, Nat.add_mul, Nat.one_mul]
    simp [edgeC]
theorem just_row {n k i : Nat} (hi : i < n) (hk : n * k ≤ 24) (h0 : 1 ≤ k) (h1 : k ≤ 6) : justB (rowL i k) 1 = true := by
  have hl := vert_len k i h0 h1
  unfold vertC at hl
  have ho : (rowL i k).all okB = true := List.all_eq_true.2 (row_ok hi hk)
  unfold justB listB
  rw [rowL_len, ho, decide_eq_true (show k ≤ 24 by omega), decide_eq_true (show (0 : Int) ≤ 1 by omega), decide_eq_true (show (leastC (rowL i k) 1 ++ mostC (rowL i k) 1).length ≤ 120 by omega)]
  rfl
theorem in_b {x a b : Int} {r : Bool} (h : decide (a ≤ x ∧ x ≤ b) = r) (w : World) : Calls Try.prog 13 #[.int .i64 x, .int .i64 a, .int .i64 b] w fun e w' => e = .returned (.bool r) ∧ w' = w := by
  subst h
  exact ok.l01In x a b w
theorem neg_mulz (x k m : Int) (h : (x - 1) * k = m) : -(x - 1) * k = -m := by rw [Int.neg_mul, h]
set_option maxRecDepth 10000 in
set_option maxHeartbeats 16000000 in
theorem specColor (n k E : Nat) (f : Nat → Int) (v : Value) (w : World) (hn0 : 1 ≤ n) (hn : n ≤ 12) (hk0 : 1 ≤ k) (hk : k ≤ 6) (hnk : n * k ≤ 24) (hE : E ≤ 120) (hv : Eds w v E f) :
    Calls Try.prog 5 #[.int .i64 (n : Int), v, .int .i64 (k : Int)] w fun e w' => CnfE w (edsB n f E && decide ((colC n k E f).length ≤ 120)) ((n : Int) * k) (colC n k E f) e w' := by
  have INn := hide (in_b (decide_eq_true (show (1 : Int) ≤ (n : Int) ∧ (n : Int) ≤ 12 by omega)))
  have INk := hide (in_b (decide_eq_true (show (1 : Int) ≤ (k : Int) ∧ (k : Int) ≤ 6 by omega)))
  have hmul : (n : Int) * (k : Int) = ((n * k : Nat) : Int) := by rw [Int.natCast_mul]
  have NN := hide hmul
  have HNK := hide hnk
  obtain ⟨mm, hmm⟩ : ∃ mm, mm = n * k := ⟨_, rfl⟩
  rw [← hmm] at hmul NN HNK hnk
  have HMM := hide hmm
  have i5 : ¬ (24 : Int) < (mm : Int) := by omega
  have HVE := hide hv
  obtain ⟨a, cap, rfl, ha⟩ := hv
  have ST : Hid (FI w (w.heap.size + 1) (mm : Int) (vertsT k 0) ((w.alloc (.cells #[.int .i64 0, .slice none 0 0] 26)).alloc (.cells #[.int .i64 (mm : Int), .slice none 0 0] 26))) := FI.to (FM.new w mm)
  have h120 : ¬ (120 : Int) < (E : Int) := by omega
  have HA := hide ha
  clear hmm ha
  go_enter Try.func5, Try.ntmps5
  go_wp2_with fail
  refine (unhide INn _).mono ?_; rintro e w' ⟨rfl, hw⟩; have hw' := hw.symm; clear hw; subst hw'
  go_wp2_with fail
  refine (unhide INk _).mono ?_; rintro e w' ⟨rfl, hw⟩; have hw' := hw.symm; clear hw; subst hw'
  clear INn INk
  go_wp2_with fail
  clear hmul
  go_loopw [9] (fun j wr => ∃ i : Nat, i ≤ n ∧ j = .int .i64 (i : Int) ∧ Hid (FI w (w.heap.size + 1) (mm : Int) (vertsT k i) wr)) (fun j _ => n + 1 - (intOf j).toNat)
  case atStart => exact ⟨0, Nat.zero_le _, rfl, ST⟩
  case round =>
    obtain ⟨i, hi, rfl, hm⟩ := hrel
    clear ST
    by_cases hlt : i < n
    · have hi' : (i : Int) < (n : Int) := by omega
      obtain ⟨va, vn, vc, fm, hvn⟩ := unhide hm
      have F1 := hide fm
      have HVN := hide hvn
      have CS := hide (rowL_step i k)
      have CL := hide (rowL_len i k)
      have TS := hide (vertsT_step k i)
      have JR := hide (just_row hlt (by rw [← unhide HMM]; exact unhide HNK) hk0 hk)
      have VL := hide (verts_len k i hk0 hk)
      have VL2 := hide (vert_len k i hk0 hk)
      have hmul2 : (i : Int) * (k : Int) = ((i * k : Nat) : Int) := by rw [Int.natCast_mul]
      have hms2 : i * k ≤ 100 := by
        have := Nat.mul_le_mul (show i ≤ 12 by omega) hk
        omega
      obtain ⟨wo_, hwo⟩ : ∃ wo_, wo_ = wr := ⟨_, rfl⟩
      have ST3 : Hid (Made wo_ (wr.alloc (.cells #[] 3)) (.slice (some ⟨wr.heap.size, 0, none⟩) 0 0) ((rowL i k).take 0)) := by rw [hwo]; exact app.made_nil wr
      rw [← hwo] at F1
      have VC : Hid (vertC k i = leastC (rowL i k) 1 ++ mostC (rowL i k) 1) := rfl
      generalize i * k = m2 at *
      generalize rowL i k = C at *
      clear fm hvn hm
      go_wp2_with fail
      go_loopw [10, 11] (fun v i wx => ∃ k2 : Nat, k2 ≤ k ∧ i = .int .i64 ((k2 : Int) + 1) ∧ Hid (Made wo_ wx v (C.take k2))) (fun _ i _ => k + 1 - (intOf i).toNat)
      case atStart => exact ⟨0, Nat.zero_le _, rfl, ST3⟩
      case round =>
        obtain ⟨k2, hk2, rfl, hc⟩ := hrel
        clear ST3 hwo
        by_cases hlt2 : k2 < k
        · have hi2 : (k2 : Int) + 1 ≤ (k : Int) := by omega
          obtain ⟨ca, cc, rfl, _⟩ := (Own.of (unhide hc).1).sl
          have lw : (C.take k2).length ≤ 4194304 := by rw [List.length_take]; omega
          have rs := unhide CS k2 hlt2
          obtain ⟨P2, hP2⟩ : ∃ P2, P2 = C.take (k2 + 1) := ⟨_, rfl⟩
          rw [← hP2, show ((m2 + (k2 + 1) : Nat) : Int) = (m2 : Int) + ((k2 : Int) + 1) by omega] at rs
          have HP := hide hP2
          have HR := hide rs
          clear hP2 rs
          generalize C.take k2 = P1 at *
          have hg := hide (unhide hc).2
          have ho := hide (unhide hc).1
          clear hc
          go_wp2_with (at_builtin; refine wo.append1 (unhide hg) (unhide ho) lw rfl _ _ rfl rfl rfl ?_)
          intro v' w2 R2
          have R3 : Hid (Made wo_ w2 v' P2) := by
            rw [unhide HR]
            exact R2
          clear R2 HR hg ho
          go_wp2_with fail
          go_roundw
          case rel => exact ⟨k2 + 1, by omega, by go_num, by rw [← unhide HP]; exact R3⟩
          case measure => simp [intOf]; omega
        · have hi2 : ¬ (k2 : Int) + 1 ≤ (k : Int) := by omega
          have e : C.take k2 = C := List.take_of_length_le (by rw [unhide CL]; omega)
          rw [e] at hc
          have AM := specExactly 1 _ C wr (by rw [unhide CL]; omega) (Own.of (unhide hc).1).sl
          rw [unhide JR] at AM
          obtain ⟨ca, cc, rfl, _⟩ := (Own.of (unhide hc).1).sl
          have AMH := hide AM
          have G1 := hide (unhide hc).2
          obtain ⟨P2, hP2⟩ : ∃ P2, P2 = vertsT k (i + 1) := ⟨_, rfl⟩
          have ts : P2 = vertsT k i ++ (leastC C 1 ++ mostC C 1) := by rw [hP2, unhide TS, unhide VC]
          have HE := hide hP2
          have HT := hide ts
          have evn : vn = (vertsT k i).length := unhide HVN
          subst evn
          have hle : (vertsT k i).length + (leastC C 1 ++ mostC C 1).length ≤ 1048576 := by
            have h1 := unhide VL
            have h2 := unhide VL2
            rw [unhide VC] at h2
            omega
          generalize vertsT k i = P1 at *
          generalize leastC C 1 ++ mostC C 1 = Q1 at *
          clear e hc CS CL TS ts hP2 HVN AM JR VL VL2 VC hmul2 hms2
          go_wp2_with fail
          refine (unhide AMH).mono ?_; rintro e w2 ⟨q, rfl, o2, g2⟩
          have o2' : OwnS wr.heap.size w2.heap.size w2 q Q1 := o2
          obtain ⟨qa, qc, rfl⟩ := o2'.len
          have G2 := hide (grown_trans (r := none) (unhide G1) g2)
          have F2 := hide ((unhide F1).kept (unhide G2))
          have c1 := (unhide F2).b.c1
          have f1 := (unhide F2).b.f 1
          have O1 := hide ((unhide F1).o.kept (unhide G2))
          have Q2 := hide o2'
          have S0 := hide (unhide F1).g.size
          have S1 := hide (unhide G1).size
          have S2 := hide (unhide F2).g.size
          have S3 := hide (Nat.le_trans (unhide S0) (unhide S1))
          clear o2 o2' g2 AMH
          go_wp2_with (at_builtin; refine appendJ (unhide O1) (unhide Q2) (unhide S1) (unhide S3) (Nat.le_refl _) (unhide S2) hle rfl _ _ rfl rfl rfl ?_)
          intro v' w3 o3 g3
          have R0 := (unhide F2).put (grown_refl _) o3 g3
          obtain ⟨va3, vc3, rfl⟩ := o3.len
          have c2 := R0.1.1
          have f2 := R0.1.2
          have R : Hid (FI w (w.heap.size + 1) (mm : Int) P2 (w3.setCell ⟨w.heap.size + 1, 1, none⟩ (.slice va3 (P1 ++ Q1).length vc3))) := by
            rw [unhide HT]
            exact FI.to R0.2
          clear R0 o3 g3 O1 Q2 G1 G2 S0 S1 S2 S3 F1 F2 HT c1 f1
          generalize (P1 ++ Q1).length = ln at *
          go_wp2_with fail
          go_roundw
          case rel => exact ⟨i + 1, by omega, by go_num, by rw [← unhide HE]; exact R⟩
          case measure => simp [intOf]; omega
    · have hi' : ¬ (i : Int) < (n : Int) := by omega
      have e : i = n := by omega
      subst e
      have ST2 : Hid (FI w (w.heap.size + 1) (mm : Int) (vertsT k i ++ edgesT k f 0) wr) := by
        show FI w (w.heap.size + 1) (mm : Int) (vertsT k i ++ []) wr
        rw [List.append_nil]
        exact unhide hm
      clear hm hlt hi
      go_wp2_with fail
      go_loopw [14] (fun j wr => ∃ t : Nat, t ≤ E ∧ j = .int .i64 (t : Int) ∧ Hid (FI w (w.heap.size + 1) (mm : Int) (vertsT k i ++ edgesT k f t) wr) ∧ Hid (edsB i f t = true)) (fun j _ => E - (intOf j).toNat)
      case atStart => exact ⟨0, Nat.zero_le _, rfl, ST2, rfl⟩
      case round =>
        obtain ⟨t, ht, rfl, hm, he⟩ := hrel
        clear ST2
        by_cases hlt : t < E
        · have hi' : (t : Int) < (E : Int) := by omega
          rcases unhide HA with h | ⟨b, off, rfl, hb, hcb⟩
          · omega
          · obtain ⟨va, vn, vc, fm, hvn⟩ := unhide hm
            have c0 : wr.cell? ⟨b, off + t * 2, none⟩ = some (.int .i64 (f (t * 2))) := fm.g.cell (hcb (t * 2) (by omega)) (fun e => by cases e)
            have c1 : wr.cell? ⟨b, off + t * 2 + 1, none⟩ = some (.int .i64 (f (t * 2 + 1))) := fm.g.cell (hcb (t * 2 + 1) (by omega)) (fun e => by cases e)
            have es := edgesT_step k f t
            have st := edsB_step i f t
            rw [unhide he, Bool.true_and] at st
            have NO := hide (fun h => edsB_no (n := i) (f := f) hlt h)
            clear hcb
            generalize f (t * 2) = x at *
            generalize f (t * 2 + 1) = y at *
            have ES := hide es
            have STH := hide st
            have FMH := hide fm
            have HVN := hide hvn
            clear es st fm hvn hm he
            go_wp2_with fail
            have FD := hide (fun m => (unhide FMH).kept (grown_drewN wr m))
            go_quiet (fail)
            generalize hwd : wr.drewN _ = wd
            have FX := unhide FD nq
            rw [hwd] at FX
            clear FD FMH hwd
            have HFX := hide FX
            clear FX
            have evn : vn = (vertsT k i ++ edgesT k f t).length := unhide HVN
            by_cases e1 : edB i x y = true
            · have ST2 : Hid (edsB i f (t + 1) = true) := by show _ = _; rw [unhide STH, e1]
              have ok := edB_iff.1 e1
              have INX := hide (in_b (decide_eq_true ok.1))
              have INY := hide (in_b (decide_eq_true ok.2.1))
              have q5 : (x == y) = false := by simp [ok.2.2]
              have OK := hide ok
              clear NO e1 STH ok evn
              have ST3 : Hid (FI w (w.heap.size + 1) (mm : Int) ((vertsT k i ++ edgesT k f t) ++ edgeC k x y 0) wd) := by
                show FI w (w.heap.size + 1) (mm : Int) ((vertsT k i ++ edgesT k f t) ++ []) wd
                rw [List.append_nil]
                exact ⟨va, vn, vc, unhide HFX, unhide HVN⟩
              have LL : Hid ((vertsT k i ++ edgesT k f t).length ≤ 10000) := by
                show _ ≤ _
                have h1 := verts_len k i hk0 hk
                have h2 := edges_len k f t
                have h3 := Nat.mul_le_mul ht hk
                have h4 := Nat.mul_le_mul hE (Nat.le_refl 6)
                rw [List.length_append]
                omega
              clear HFX
              go_wp2_with fail
              refine (unhide INX _).mono ?_; rintro e w' ⟨rfl, hw⟩; have hw' := hw.symm; clear hw; subst hw'
              go_wp2_with fail
              refine (unhide INY _).mono ?_; rintro e w' ⟨rfl, hw⟩; have hw' := hw.symm; clear hw; subst hw'
              go_wp2_with fail
              generalize hPP : vertsT k i ++ edgesT k f t = PP at *
              have HPP := hide hPP
              clear hPP INX INY
              go_loopw [17] (fun j wx => ∃ c : Nat, c ≤ k ∧ j = .int .i64 ((c : Int) + 1) ∧ Hid (FI w (w.heap.size + 1) (mm : Int) (PP ++ edgeC k x y c) wx)) (fun j _ => k + 1 - (intOf j).toNat)
              case atStart => exact ⟨0, Nat.zero_le _, rfl, ST3⟩
              case round =>
                obtain ⟨c, hc, rfl, hm⟩ := hrel
                clear ST3
                by_cases hlt2 : c < k
                · have hi2 : (c : Int) + 1 ≤ (k : Int) := by omega
                  obtain ⟨va, vn, vc, fm, hvn⟩ := unhide hm
                  have hnk2 : i * k ≤ 24 := by rw [← unhide HMM]; exact unhide HNK
                  have bdx := end_bd (unhide OK).1.1 (unhide OK).1.2 hlt2 hnk2
                  have bdy := end_bd (unhide OK).2.1.1 (unhide OK).2.1.2 hlt2 hnk2
                  have EC := hide (edgeC_step k x y c)
                  obtain ⟨X, hX⟩ : ∃ X, X = (x - 1) * (k : Int) := ⟨_, rfl⟩
                  obtain ⟨Y, hY⟩ : ∃ Y, Y = (y - 1) * (k : Int) := ⟨_, rfl⟩
                  have nx := neg_mulz x k X hX.symm
                  have ny := neg_mulz y k Y hY.symm
                  rw [← hX] at bdx
                  rw [← hY] at bdy
                  obtain ⟨bx0, bx1, bx2, bx3⟩ := bdx
                  obtain ⟨by0, by1, by2, by3⟩ := bdy
                  have x0 := (unhide OK).1.1
                  have x9 : x ≤ 12 := by have := (unhide OK).1.2; omega
                  have y0 := (unhide OK).2.1.1
                  have y9 : y ≤ 12 := by have := (unhide OK).2.1.2; omega
                  have c1 := fm.b.c1
                  have f1 := fm.b.f 1
                  have HXX := hide hX
                  have HYY := hide hY
                  have evn : vn = (PP ++ edgeC k x y c).length := hvn
                  have hl : (PP ++ edgeC k x y c).length ≤ 1048576 := by
                    have h1 := unhide LL
                    rw [List.length_append]
                    simp only [edgeC, List.length_map, List.length_range]
                    omega
                  have gA := World.grownBy_alloc wr (.cells #[.int .i64 (-X - ((c : Int) + 1)), .int .i64 (-Y - ((c : Int) + 1))] 3) none
                  have O1 := hide (fm.o.kept gA)
                  have U1 := hide (own_litN wr 2 [-X - ((c : Int) + 1), -Y - ((c : Int) + 1)] #[.int .i64 (-X - ((c : Int) + 1)), .int .i64 (-Y - ((c : Int) + 1))] rfl rfl (by decide))
                  have S1 := hide fm.g.size
                  have S2 : Hid (wr.heap.size ≤ (wr.alloc (.cells #[.int .i64 (-X - ((c : Int) + 1)), .int .i64 (-Y - ((c : Int) + 1))] 3)).heap.size) := by show _ ≤ _; rw [World.size_alloc]; omega
                  have S3 : Hid (wr.heap.size + 1 ≤ (wr.alloc (.cells #[.int .i64 (-X - ((c : Int) + 1)), .int .i64 (-Y - ((c : Int) + 1))] 3)).heap.size) := by show _ ≤ _; rw [World.size_alloc]; omega
                  have U2 := hide (show Own wr.heap.size (wr.alloc (.cells #[.int .i64 (-X - ((c : Int) + 1)), .int .i64 (-Y - ((c : Int) + 1))] 3)).heap.size (wr.alloc (.cells #[.int .i64 (-X - ((c : Int) + 1)), .int .i64 (-Y - ((c : Int) + 1))] 3)) _ _ from ⟨(unhide U1).1, fun k e => Nat.lt_of_lt_of_le ((unhide U1).2 k e) (unhide S3)⟩)
                  have FMX := hide fm
                  have GA := hide gA
                  subst evn
                  obtain ⟨P2, hP2⟩ : ∃ P2, P2 = PP ++ edgeC k x y (c + 1) := ⟨_, rfl⟩
                  have ts : P2 = (PP ++ edgeC k x y c) ++ [[-X - ((c : Int) + 1), -Y - ((c : Int) + 1)]] := by
                    rw [hP2, unhide EC, List.append_assoc, ← hX, ← hY]
                    rw [show -(X + ((c : Int) + 1)) = -X - ((c : Int) + 1) by omega, show -(Y + ((c : Int) + 1)) = -Y - ((c : Int) + 1) by omega]
                  have HE := hide hP2
                  have HT := hide ts
                  generalize PP ++ edgeC k x y c = P1 at *
                  clear hX hY fm hvn hm hnk2 gA hP2 ts EC
                  go_wp2_with (at_builtin; refine appendN (unhide O1) (unhide U2) (unhide S1) (unhide S2) hl rfl _ _ rfl rfl (by rw [World.size_alloc]; rfl) ?_)
                  intro g2 cap2 w2 o2 g2' n2
                  have R0 := (unhide FMX).put (grown_trans (r := none) (unhide GA) (World.grownBy_alloc _ _ none)) o2 g2'
                  have c2 := R0.1.1
                  have f2 := R0.1.2
                  have R : Hid (FI w (w.heap.size + 1) (mm : Int) P2 (w2.setCell ⟨w.heap.size + 1, 1, none⟩ (.slice (some ⟨g2, 0, none⟩) (P1.length + 1) cap2))) := by
                    rw [unhide HT]
                    exact FI.to R0.2
                  clear R0 o2 g2' n2 O1 U1 U2 S1 S2 S3 FMX GA HT c1 f1 nx ny bx0 bx1 bx2 bx3 by0 by1 by2 by3
                  go_wp2_with fail
                  go_roundw
                  case rel => exact ⟨c + 1, by omega, by go_num, by rw [← unhide HE]; exact R⟩
                  case measure => simp [intOf]; omega
                · have hi2 : ¬ (c : Int) + 1 ≤ (k : Int) := by omega
                  have e : c = k := by omega
                  subst e
                  have R : Hid (FI w (w.heap.size + 1) (mm : Int) (vertsT c i ++ edgesT c f (t + 1)) wr) := by
                    rw [unhide ES, ← List.append_assoc, unhide HPP]
                    exact unhide hm
                  clear hm
                  go_wp2_with fail
                  go_roundw
                  case rel => exact ⟨t + 1, by omega, by go_num, R, ST2⟩
                  case measure => simp [intOf]; omega
            · have e2 : edB i x y = false := by cases h : edB i x y; rfl; exact absurd h e1
              have hno := unhide NO e2
              have Z0 := (unhide HFX).r.c0
              have Z1 := (unhide HFX).r.c1
              have Zf0 := (unhide HFX).r.f 0
              have Zf1 := (unhide HFX).r.f 1
              have R : Hid (CnfE w (edsB i f E && decide ((colC i k E f).length ≤ 120)) ((i : Int) * k) (colC i k E f) (.returned (.tuple #[.agg #[.int .i64 0, .slice none 0 0], .bool false])) ((wd.setCell ⟨w.heap.size, 0, none⟩ (.int .i64 0)).setCell ⟨w.heap.size, 1, none⟩ (.slice none 0 0))) := by
                rw [hno, Bool.false_and]
                exact ⟨none, 0, rfl, ownS_nil .., cf.grown_set (cf.grown_set (unhide HFX).g (Nat.le_refl _)) (Nat.le_refl _)⟩
              have BXX := hide (((unhide HFX).r.set0 (.int .i64 0)).set1 (.slice none 0 0))
              have cs : (¬ (1 ≤ x ∧ x ≤ (i : Int))) ∨ ((1 ≤ x ∧ x ≤ (i : Int)) ∧ ¬ (1 ≤ y ∧ y ≤ (i : Int))) ∨ ((1 ≤ x ∧ x ≤ (i : Int)) ∧ (1 ≤ y ∧ y ≤ (i : Int)) ∧ x = y) := by
                unfold edB at e2
                have := of_decide_eq_false e2
                omega
              clear NO e1 e2 STH hno evn HFX
              rcases cs with h1 | ⟨h1, h2⟩ | ⟨h1, h2, rfl⟩
              · have INX := hide (in_b (decide_eq_false h1))
                clear h1
                go_wp2_with fail
                refine (unhide INX _).mono ?_; rintro e w' ⟨rfl, hw⟩; have hw' := hw.symm; clear hw; subst hw'
                go_wp2_with fail
                (try simp only [Exit.inBlock, Exit.then])
                exact bodyPost_ret (cf.ret_box2 rfl rfl (unhide BXX)) rfl (unhide R)
              · have INX := hide (in_b (decide_eq_true h1))
                have INY := hide (in_b (decide_eq_false h2))
                clear h1 h2
                go_wp2_with fail
                refine (unhide INX _).mono ?_; rintro e w' ⟨rfl, hw⟩; have hw' := hw.symm; clear hw; subst hw'
                go_wp2_with fail
                refine (unhide INY _).mono ?_; rintro e w' ⟨rfl, hw⟩; have hw' := hw.symm; clear hw; subst hw'
                go_wp2_with fail
                (try simp only [Exit.inBlock, Exit.then])
                exact bodyPost_ret (cf.ret_box2 rfl rfl (unhide BXX)) rfl (unhide R)
              · have INX := hide (in_b (decide_eq_true h1))
                clear h1 h2
                go_wp2_with fail
                refine (unhide INX _).mono ?_; rintro e w' ⟨rfl, hw⟩; have hw' := hw.symm; clear hw; subst hw'
                go_wp2_with fail
                refine (unhide INX _).mono ?_; rintro e w' ⟨rfl, hw⟩; have hw' := hw.symm; clear hw; subst hw'
                go_wp2_with fail
                (try simp only [Exit.inBlock, Exit.then])
                exact bodyPost_ret (cf.ret_box2 rfl rfl (unhide BXX)) rfl (unhide R)
        · have hi' : ¬ (t : Int) < (E : Int) := by omega
          have e : t = E := by omega
          subst e
          obtain ⟨va, vn, vc, fm, hvn⟩ := unhide hm
          subst hvn
          have hP : vertsT k i ++ edgesT k f t = colC i k t f := rfl
          rw [hP] at fm
          have EE := hide (unhide he)
          generalize hRR : colC i k t f = R at *
          have HRR := hide hRR
          have F1 := hide fm
          have x0 := fm.b.c0
          have x1 := fm.b.c1
          have z0 := fm.r.c0
          have z1 := fm.r.c1
          have zf0 := fm.r.f 0
          have zf1 := fm.r.f 1
          clear fm hm hRR hP he HA
          by_cases hl : R.length ≤ 120
          · have hl' : ¬ (120 : Int) < (R.length : Int) := by omega
            have HD := hide (decide_eq_true hl)
            clear hl
            go_wp2_with fail
            (try simp only [Exit.inBlock, Exit.then])
            refine bodyPost_ret (cf.ret_box2 rfl rfl (((unhide F1).r.set0 _).set1 _)) rfl ?_
            rw [unhide HRR, unhide NN, unhide EE, unhide HD]
            refine ⟨va, vc, rfl, ?_, cf.grown_set (cf.grown_set (unhide F1).g (Nat.le_refl _)) (Nat.le_refl _)⟩
            rw [cf.size_set, cf.size_set]
            exact gr.ownS_set (gr.ownS_set (unhide F1).o (unhide F1).r) ((unhide F1).r.set0 _)
          · have hl' : (120 : Int) < (R.length : Int) := by omega
            have HD := hide (decide_eq_false hl)
            clear hl
            go_wp2_with fail
            (try simp only [Exit.inBlock, Exit.then])
            refine bodyPost_ret (cf.ret_box2 rfl rfl (((unhide F1).r.set0 _).set1 _)) rfl ?_
            rw [unhide HRR, unhide EE, unhide HD]
            exact ⟨none, 0, rfl, ownS_nil .., cf.grown_set (cf.grown_set (unhide F1).g (Nat.le_refl _)) (Nat.le_refl _)⟩
end Go.Proofs.Ytmmmldcnadidkaa.t2
