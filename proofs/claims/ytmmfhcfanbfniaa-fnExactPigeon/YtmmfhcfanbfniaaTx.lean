/- Pigeon of the model, at any number. -/
import Derived.Test.YtmmfhcfanbfniaaTv
import Derived.Test.YtmmfhcfanbfniaaTi
import Derived.Test.YtmmfhcfanbfniaaTk
namespace Go.Proofs.Ytmmfhcfanbfniaa.t2
open Go.ChangeShapes Go.WideShapes Go.ChangeAt Go.RowKit
open Go.Proofs.Ytmmfhcfanbfniaa.lits (okB okB_iff)
open Go.Proofs.Ytmmfhcfanbfniaa.sl (Sl Own ints hide unhide ret_int ret_bool grown_refl grown_trans grown_drewN)
open Go.Proofs.Ytmmfhcfanbfniaa.css (Sls OwnS tot Apart own_ne own_ne' own_kind own_mono)
open Go.Proofs.Ytmmfhcfanbfniaa.cf (Box)
open Go.Proofs.Ytmmfhcfanbfniaa.wo (Made)
set_option linter.unusedVariables false

/-- a formula that is written, beside the one that will be answered -/
structure FM (w wr : World) (c : Nat) (N : Int) (v : Value) (M : List (List Int)) : Prop where
  lo : w.heap.size < c
  g : w.grownBy wr none
  b : Box 52 wr c (.int .i64 N) v
  r : Box 52 wr w.heap.size (.int .i64 0) (.slice none 0 0)
  o : OwnS w.heap.size wr.heap.size wr v M
theorem FM.kept {w wr w1 : World} {c : Nat} {N : Int} {v : Value} {M : List (List Int)} (h : FM w wr c N v M) (g : wr.grownBy w1 none) : FM w w1 c N v M :=
  ⟨h.lo, grown_trans h.g g, h.b.kept g, h.r.kept g, (h.o.kept g).sub (Nat.le_refl _) g.size⟩
theorem FM.new (w : World) (N : Int) : FM w ((w.alloc (.cells #[.int .i64 0, .slice none 0 0] 52)).alloc (.cells #[.int .i64 N, .slice none 0 0] 52)) (w.heap.size + 1) N (.slice none 0 0) [] := by
  have g1 := World.grownBy_alloc w (.cells #[.int .i64 0, .slice none 0 0] 52) none
  have g2 := World.grownBy_alloc (w.alloc (.cells #[.int .i64 0, .slice none 0 0] 52)) (.cells #[.int .i64 N, .slice none 0 0] 52) none
  have b2 := Box.new 52 (w.alloc (.cells #[.int .i64 0, .slice none 0 0] 52)) (.int .i64 N) (.slice none 0 0)
  rw [World.size_alloc] at b2
  exact ⟨Nat.lt_succ_self _, grown_trans g1 g2, b2, (Box.new 52 w (.int .i64 0) (.slice none 0 0)).kept g2, ownS_nil ..⟩
theorem FM.put {w wr wx w1 : World} {c : Nat} {N : Int} {v v' : Value} {M M' : List (List Int)} (h : FM w wr c N v M) (g : wr.grownBy wx none) (o1 : OwnS w.heap.size w1.heap.size w1 v' M') (g1 : wx.grownBy w1 v.ownBlock) :
    (w1.cell? ⟨c, 1, none⟩ = some v ∧ w1.frozen? ⟨c, 1, none⟩ = false) ∧ FM w (w1.setCell ⟨c, 1, none⟩ v') c N v' M' := by
  have hx := h.kept g
  obtain ⟨D, _, ho, _⟩ := hx.o
  have nb : v.ownBlock ≠ some c := gr.box_ne ho gr.ty1 hx.b
  have nr : v.ownBlock ≠ some w.heap.size := gr.box_ne ho gr.ty1 hx.r
  have b1 := hx.b.by g1 nb
  have r1 := hx.r.by g1 nr
  have gg := app.grown_joinS hx.g hx.o g1
  refine ⟨⟨b1.c1, b1.f 1⟩, h.lo, cf.grown_set gg (by have := h.lo; omega), b1.set1 _, r1.setO (by have := h.lo; omega), ?_⟩
  rw [cf.size_set]
  exact gr.ownS_set o1 b1
theorem most_ok {n j : Nat} (h1 : n ≤ 4) (hj : j < n) : mostB (colL (j + 1) n) 1 = true := by
  have hn : n = 1 ∨ n = 2 ∨ n = 3 ∨ n = 4 := by omega
  have hj' : j = 0 ∨ j = 1 ∨ j = 2 ∨ j = 3 := by omega
  rcases hn with rfl | rfl | rfl | rfl <;> rcases hj' with rfl | rfl | rfl | rfl <;> first | omega | decide +kernel

/-- a formula with rows, told so far -/
def FI (w : World) (c : Nat) (N : Int) (M : List (List Int)) (wr : World) : Prop := ∃ a n k, FM w wr c N (.slice a n k) M ∧ n = M.length
theorem FI.to {w wr : World} {c : Nat} {N : Int} {v : Value} {M : List (List Int)} (h : FM w wr c N v M) : FI w c N M wr := by
  obtain ⟨a, k, rfl⟩ := h.o.len
  exact ⟨a, _, k, h, rfl⟩
set_option maxRecDepth 10000 in
set_option maxHeartbeats 8000000 in
theorem specPigeon (n : Nat) (w : World) (hn0 : 1 ≤ n) (hn : n ≤ 4) :
    Calls Try.prog 43 #[.int .i64 (n : Int)] w fun e w' => CnfE w true ((n + 1 : Int) * n) (pigC n) e w' := by
  have IN := hide (ok.l01In (n : Int) 1 4 (w.alloc (.cells #[.int .i64 0, .slice none 0 0] 52)))
  rw [decide_eq_true (show (1 : Int) ≤ (n : Int) ∧ (n : Int) ≤ 4 by omega)] at IN
  have hmul : ((n : Int) + 1) * (n : Int) = (((n + 1) * n : Nat) : Int) := by rw [Int.natCast_mul]; rfl
  have hms : (n + 1) * n ≤ 100 := by
    have := Nat.mul_le_mul (show n + 1 ≤ 5 by omega) hn
    omega
  have NN := hide hmul
  have hlen := pig_len hn0 hn
  obtain ⟨mm, hmm⟩ : ∃ mm, mm = (n + 1) * n := ⟨_, rfl⟩
  rw [← hmm] at hmul hms NN
  have ST : Hid (FI w (w.heap.size + 1) (mm : Int) (rowsT n 0) ((w.alloc (.cells #[.int .i64 0, .slice none 0 0] 52)).alloc (.cells #[.int .i64 (mm : Int), .slice none 0 0] 52))) := FI.to (FM.new w mm)
  have HL := hide hlen
  clear hmm hlen
  go_enter Try.func43, Try.ntmps43
  go_wp2_with fail
  refine (unhide IN).mono ?_; rintro e w' ⟨rfl, hw⟩; have hw' := hw.symm; clear hw; subst hw'
  clear IN
  go_wp2_with fail
  clear hmul hms
  go_loopw [5] (fun j wr => ∃ k : Nat, k ≤ n + 1 ∧ j = .int .i64 (k : Int) ∧ Hid (FI w (w.heap.size + 1) (mm : Int) (rowsT n k) wr)) (fun j _ => n + 2 - (intOf j).toNat)
  case atStart => exact ⟨0, Nat.zero_le _, rfl, ST⟩
  case round =>
    obtain ⟨k, hk, rfl, hm⟩ := hrel
    clear ST
    by_cases hlt : k < n + 1
    · have hi' : (k : Int) ≤ (n : Int) := by omega
      obtain ⟨va, vn, vc, fm, hvn⟩ := unhide hm
      have F1 := hide fm
      have HVN := hide hvn
      have CS := hide (rowL_step k n)
      have CL := hide (rowL_len k n)
      have TS := hide (rowsT_step n k)
      have hmul2 : (k : Int) * (n : Int) = ((k * n : Nat) : Int) := by rw [Int.natCast_mul]
      have hms2 : k * n ≤ 100 := by
        have := Nat.mul_le_mul (show k ≤ 5 by omega) hn
        omega
      obtain ⟨wo_, hwo⟩ : ∃ wo_, wo_ = wr := ⟨_, rfl⟩
      have ST3 : Hid (Made wo_ (wr.alloc (.cells #[] 3)) (.slice (some ⟨wr.heap.size, 0, none⟩) 0 0) ((rowL k n).take 0)) := by rw [hwo]; exact app.made_nil wr
      rw [← hwo] at F1
      generalize k * n = m2 at *
      generalize rowL k n = C at *
      clear fm hvn hm
      go_wp2_with fail
      go_loopw [6, 7] (fun v i wx => ∃ k2 : Nat, k2 ≤ n ∧ i = .int .i64 ((k2 : Int) + 1) ∧ Hid (Made wo_ wx v (C.take k2))) (fun _ i _ => n + 1 - (intOf i).toNat)
      case atStart => exact ⟨0, Nat.zero_le _, rfl, ST3⟩
      case round =>
        obtain ⟨k2, hk2, rfl, hc⟩ := hrel
        clear ST3 hwo
        by_cases hlt2 : k2 < n
        · have hi2 : (k2 : Int) + 1 ≤ (n : Int) := by omega
          obtain ⟨ca, cc, rfl, _⟩ := (Own.of (unhide hc).1).sl
          have lw : (C.take k2).length ≤ 4194304 := by rw [List.length_take]; omega
          have rs := unhide CS k2 hlt2
          obtain ⟨P2, hP2⟩ : ∃ P2, P2 = C.take (k2 + 1) := ⟨_, rfl⟩
          rw [← hP2, show ((m2 + (k2 + 1) : Nat) : Int) = (m2 : Int) + ((k2 : Int) + 1) by omega] at rs
          have HP := hide hP2
          have HR := hide rs
          clear hP2 rs
          generalize C.take k2 = P1 at *
          have hg := hide (unhide hc).2
          have ho := hide (unhide hc).1
          clear hc
          go_wp2_with (at_builtin; refine wo.append1 (unhide hg) (unhide ho) lw rfl _ _ rfl rfl rfl ?_)
          intro v' w2 R2
          have R3 : Hid (Made wo_ w2 v' P2) := by
            rw [unhide HR]
            exact R2
          clear R2 HR hg ho
          go_wp2_with fail
          go_roundw
          case rel => exact ⟨k2 + 1, by omega, by go_num, by rw [← unhide HP]; exact R3⟩
          case measure => simp [intOf]; omega
        · have hi2 : ¬ (k2 : Int) + 1 ≤ (n : Int) := by omega
          have e : C.take k2 = C := List.take_of_length_le (by rw [unhide CL]; omega)
          rw [e] at hc
          obtain ⟨ca, cc, rfl, _⟩ := (Own.of (unhide hc).1).sl
          have c1 := ((unhide F1).kept (unhide hc).2).b.c1
          have f1 := ((unhide F1).kept (unhide hc).2).b.f 1
          have O1 := hide ((unhide F1).o.kept (unhide hc).2)
          have U1 := hide (Own.of (unhide hc).1)
          have G1 := hide (unhide hc).2
          have S1 := hide (unhide F1).g.size
          have S2 := hide (unhide hc).2.size
          have hM : (rowsT n k).length ≤ 1048576 := by unfold rowsT; rw [List.length_map, List.length_range]; omega
          obtain ⟨P2, hP2⟩ : ∃ P2, P2 = rowsT n (k + 1) := ⟨_, rfl⟩
          have ts := unhide TS
          rw [← hP2] at ts
          have HE := hide hP2
          have HT := hide ts
          have evn : vn = (rowsT n k).length := unhide HVN
          subst evn
          generalize rowsT n k = P1 at *
          clear e hc CS CL TS ts hP2 hmul2 hms2 HVN
          go_wp2_with (at_builtin; refine appendN (unhide O1) (unhide U1) (unhide S1) (unhide S2) hM rfl _ _ rfl rfl rfl ?_)
          intro g2 cap2 w2 o2 g2' n2
          have R0 := (unhide F1).put (grown_trans (r := none) (unhide G1) (World.grownBy_alloc _ _ none)) o2 g2'
          have c2 := R0.1.1
          have f2 := R0.1.2
          have R : Hid (FI w (w.heap.size + 1) (mm : Int) P2 (w2.setCell ⟨w.heap.size + 1, 1, none⟩ (.slice (some ⟨g2, 0, none⟩) (P1.length + 1) cap2))) := by
            rw [unhide HT]
            exact FI.to R0.2
          clear R0 o2 g2' n2 O1 U1 G1 S1 S2 F1 HT c1 f1
          go_wp2_with fail
          go_roundw
          case rel => exact ⟨k + 1, by omega, by go_num, by rw [← unhide HE]; exact R⟩
          case measure => simp [intOf]; omega
    · have hi' : ¬ (k : Int) ≤ (n : Int) := by omega
      have e : k = n + 1 := by omega
      subst e
      have ST2 : Hid (FI w (w.heap.size + 1) (mm : Int) (rowsT n (n + 1) ++ colsT n 0) wr) := by
        show FI w (w.heap.size + 1) (mm : Int) (rowsT n (n + 1) ++ []) wr
        rw [List.append_nil]
        exact unhide hm
      clear hm hlt hk
      go_wp2_with fail
      go_loopw [8] (fun j wr => ∃ k : Nat, k ≤ n ∧ j = .int .i64 ((k : Int) + 1) ∧ Hid (FI w (w.heap.size + 1) (mm : Int) (rowsT n (n + 1) ++ colsT n k) wr)) (fun j _ => n + 1 - (intOf j).toNat)
      case atStart => exact ⟨0, Nat.zero_le _, rfl, ST2⟩
      case round =>
        obtain ⟨k, hk, rfl, hm⟩ := hrel
        clear ST2
        by_cases hlt : k < n
        · have hi' : (k : Int) + 1 ≤ (n : Int) := by omega
          obtain ⟨va, vn, vc, fm, hvn⟩ := unhide hm
          have F1 := hide fm
          have HVN := hide hvn
          have CS := hide (colL_step (k + 1) n)
          have CL := hide (colL_len (k + 1) n)
          have TS := hide (colsT_step n k)
          have MO := hide (most_ok (n := n) (j := k) hn hlt)
          have MUL := hide (fun (i : Nat) (hi : i < n + 1) => (show i * n ≤ 16 from Nat.mul_le_mul (show i ≤ 4 by omega) hn))
          obtain ⟨wo_, hwo⟩ : ∃ wo_, wo_ = wr := ⟨_, rfl⟩
          have ST3 : Hid (Made wo_ (wr.alloc (.cells #[] 3)) (.slice (some ⟨wr.heap.size, 0, none⟩) 0 0) ((colL (k + 1) n).take 0)) := by rw [hwo]; exact app.made_nil wr
          rw [← hwo] at F1
          generalize colL (k + 1) n = C at *
          clear fm hvn hm
          go_wp2_with fail
          go_loopw [9, 10] (fun v i wx => ∃ k2 : Nat, k2 ≤ n + 1 ∧ i = .int .i64 (k2 : Int) ∧ Hid (Made wo_ wx v (C.take k2))) (fun _ i _ => n + 2 - (intOf i).toNat)
          case atStart => exact ⟨0, Nat.zero_le _, rfl, ST3⟩
          case round =>
            obtain ⟨k2, hk2, rfl, hc⟩ := hrel
            clear ST3 hwo
            by_cases hlt2 : k2 < n + 1
            · have hi2 : (k2 : Int) ≤ (n : Int) := by omega
              obtain ⟨ca, cc, rfl, _⟩ := (Own.of (unhide hc).1).sl
              have lw : (C.take k2).length ≤ 4194304 := by rw [List.length_take]; omega
              have rs := unhide CS k2 hlt2
              have hmul2 : (k2 : Int) * (n : Int) = ((k2 * n : Nat) : Int) := by rw [Int.natCast_mul]
              have hms2 : k2 * n ≤ 16 := unhide MUL k2 hlt2
              obtain ⟨P2, hP2⟩ : ∃ P2, P2 = C.take (k2 + 1) := ⟨_, rfl⟩
              rw [← hP2, show ((k2 * n + (k + 1) : Nat) : Int) = ((k2 * n : Nat) : Int) + ((k : Int) + 1) by omega] at rs
              have HP := hide hP2
              have HR := hide rs
              clear hP2 rs
              generalize C.take k2 = P1 at *
              generalize k2 * n = m2 at *
              have hg := hide (unhide hc).2
              have ho := hide (unhide hc).1
              clear hc
              go_wp2_with (at_builtin; refine wo.append1 (unhide hg) (unhide ho) lw rfl _ _ rfl rfl rfl ?_)
              intro v' w2 R2
              have R3 : Hid (Made wo_ w2 v' P2) := by
                rw [unhide HR]
                exact R2
              clear R2 HR hg ho hmul2 hms2
              go_wp2_with fail
              go_roundw
              case rel => exact ⟨k2 + 1, by omega, by go_num, by rw [← unhide HP]; exact R3⟩
              case measure => simp [intOf]; omega
            · have hi2 : ¬ (k2 : Int) ≤ (n : Int) := by omega
              have e : C.take k2 = C := List.take_of_length_le (by rw [unhide CL]; omega)
              rw [e] at hc
              have AM := specAtMost 1 _ C wr (by rw [unhide CL]; omega) (Own.of (unhide hc).1).sl
              rw [unhide MO] at AM
              obtain ⟨ca, cc, rfl, _⟩ := (Own.of (unhide hc).1).sl
              have AMH := hide AM
              have G1 := hide (unhide hc).2
              obtain ⟨P2, hP2⟩ : ∃ P2, P2 = rowsT n (n + 1) ++ colsT n (k + 1) := ⟨_, rfl⟩
              have ts : P2 = (rowsT n (n + 1) ++ colsT n k) ++ mostC C 1 := by rw [hP2, unhide TS, List.append_assoc]
              have HE := hide hP2
              have HT := hide ts
              have evn : vn = (rowsT n (n + 1) ++ colsT n k).length := unhide HVN
              subst evn
              have hle : (rowsT n (n + 1) ++ colsT n k).length + (mostC C 1).length ≤ 1048576 := by
                have h1 : (mostC C 1).length ≤ 120 := by
                  have := unhide MO
                  simp only [mostB, Bool.and_eq_true, decide_eq_true_eq] at this
                  exact this.2
                have h2 : (rowsT n (n + 1)).length = n + 1 := by unfold rowsT; rw [List.length_map, List.length_range]
                have h3 := unhide HL
                unfold pigC at h3
                rw [List.length_append] at h3
                have h4 : (colsT n k).length ≤ (colsT n n).length := by
                  unfold colsT
                  rw [List.length_flatMap, List.length_flatMap]
                  obtain ⟨d, hd⟩ : ∃ d, n = k + d := ⟨n - k, by omega⟩
                  rw [hd, List.range_add]
                  simp
                rw [List.length_append]
                omega
              generalize rowsT n (n + 1) ++ colsT n k = P1 at *
              generalize mostC C 1 = Q1 at *
              clear e hc CS CL TS ts hP2 HVN AM MO MUL
              go_wp2_with fail
              refine (unhide AMH).mono ?_; rintro e w2 ⟨q, rfl, o2, g2⟩
              have o2' : OwnS wr.heap.size w2.heap.size w2 q Q1 := o2
              obtain ⟨qa, qc, rfl⟩ := o2'.len
              have G2 := hide (grown_trans (r := none) (unhide G1) g2)
              have F2 := hide ((unhide F1).kept (unhide G2))
              have c1 := (unhide F2).b.c1
              have f1 := (unhide F2).b.f 1
              have O1 := hide ((unhide F1).o.kept (unhide G2))
              have Q2 := hide o2'
              have S0 := hide (unhide F1).g.size
              have S1 := hide (unhide G1).size
              have S2 := hide (unhide F2).g.size
              have S3 := hide (Nat.le_trans (unhide S0) (unhide S1))
              clear o2 o2' g2 AMH
              go_wp2_with (at_builtin; refine appendJ (unhide O1) (unhide Q2) (unhide S1) (unhide S3) (Nat.le_refl _) (unhide S2) hle rfl _ _ rfl rfl rfl ?_)
              intro v' w3 o3 g3
              have R0 := (unhide F2).put (grown_refl _) o3 g3
              obtain ⟨va3, vc3, rfl⟩ := o3.len
              have c2 := R0.1.1
              have f2 := R0.1.2
              have R : Hid (FI w (w.heap.size + 1) (mm : Int) P2 (w3.setCell ⟨w.heap.size + 1, 1, none⟩ (.slice va3 (P1 ++ Q1).length vc3))) := by
                rw [unhide HT]
                exact FI.to R0.2
              clear R0 o3 g3 O1 Q2 G1 G2 S0 S1 S2 S3 F1 F2 HT c1 f1
              generalize (P1 ++ Q1).length = ln at *
              go_wp2_with fail
              go_roundw
              case rel => exact ⟨k + 1, by omega, by go_num, by rw [← unhide HE]; exact R⟩
              case measure => simp [intOf]; omega
        · have hi' : ¬ (k : Int) + 1 ≤ (n : Int) := by omega
          have e : k = n := by omega
          subst e
          obtain ⟨va, vn, vc, fm, hvn⟩ := unhide hm
          subst hvn
          have hP : rowsT k (k + 1) ++ colsT k k = pigC k := rfl
          rw [hP] at fm
          generalize hRR : pigC k = R at *
          have HRR := hide hRR
          have F1 := hide fm
          have x0 := fm.b.c0
          have x1 := fm.b.c1
          have z0 := fm.r.c0
          have z1 := fm.r.c1
          have zf0 := fm.r.f 0
          have zf1 := fm.r.f 1
          clear fm hm hRR hP
          go_wp2_with fail
          (try simp only [Exit.inBlock, Exit.then])
          refine bodyPost_ret (cf.ret_box2 rfl rfl (((unhide F1).r.set0 _).set1 _)) rfl ?_
          rw [unhide HRR, unhide NN]
          refine ⟨va, vc, rfl, ?_, cf.grown_set (cf.grown_set (unhide F1).g (Nat.le_refl _)) (Nat.le_refl _)⟩
          rw [cf.size_set, cf.size_set]
          exact gr.ownS_set (gr.ownS_set (unhide F1).o (unhide F1).r) ((unhide F1).r.set0 _)
theorem specPigeonX (n : Int) (w : World) (h : n < 1 ∨ 4 < n) :
    Calls Try.prog 43 #[.int .i64 n] w fun e w' => CnfE w false ((n + 1) * n) (pigC n.toNat) e w' := by
  have bR := Box.new 52 w (.int .i64 0) (.slice none 0 0)
  have IN := hide (ok.l01In n 1 4 (w.alloc (.cells #[.int .i64 0, .slice none 0 0] 52)))
  rw [decide_eq_false (show ¬ (1 ≤ n ∧ n ≤ 4) by omega)] at IN
  have BR := hide bR
  clear bR
  go_enter Try.func43, Try.ntmps43
  go_wp2_with fail
  refine (unhide IN).mono ?_; rintro e w' ⟨rfl, hw⟩; have hw' := hw.symm; clear hw; subst hw'
  go_wp2_with fail
  (try simp only [Exit.inBlock, Exit.then])
  exact bodyPost_ret (cf.ret_box2 rfl rfl (unhide BR)) rfl (cnf_no w)
theorem cnfE_of {w : World} {b : Bool} {N : Int} {R : List (List Int)} {e : Ending} {w' : World} (h : CnfE w b N R e w') : ∃ u, e = .returned (.tuple #[.agg #[.int .i64 (if b then N else 0), u], .bool b]) ∧ OwnS w.heap.size w'.heap.size w' u (if b then R else []) ∧ w.grownBy w' none := by
  obtain ⟨a, c, rfl, o, g⟩ := h
  exact ⟨_, rfl, o, g⟩
theorem pig_tot {n : Nat} (h0 : 1 ≤ n) (hn : n ≤ 4) : tot (pigC n) ≤ 1048576 := by
  refine tot_few (pig_len h0 hn) fun C hC => ?_
  unfold pigC at hC
  rw [List.mem_append] at hC
  rcases hC with hC | hC
  · unfold rowsT at hC
    rw [List.mem_map] at hC
    obtain ⟨i, _, rfl⟩ := hC
    rw [rowL_len]
    omega
  · unfold colsT at hC
    rw [List.mem_flatMap] at hC
    obtain ⟨j, _, hC⟩ := hC
    exact most_len (by rw [colL_len]; omega) C hC
theorem bothPigeon (n : Int) : ∃ (N : Int) (b : Bool) (R : List (List Int)), tot R ≤ 1048576 ∧ (∀ w, Calls Try.prog 43 #[.int .i64 n] w fun e w' => ∃ u, e = .returned (.tuple #[.agg #[.int .i64 N, u], .bool b]) ∧ OwnS w.heap.size w'.heap.size w' u R ∧ w.grownBy w' none)
    ∧ ∀ w, Calls Try.prog 44 #[.int .i64 n] w fun e w' => ∃ u, e = .returned (.tuple #[.agg #[.int .i64 N, u], .bool b]) ∧ OwnS w.heap.size w'.heap.size w' u R ∧ w.grownBy w' none := by
  by_cases h : n < 1 ∨ 4 < n
  · exact ⟨_, false, _, by simp [tot], fun w => (specPigeonX n w h).mono fun e w' h => cnfE_of h, fun w => (implPigeonX n w h).mono fun e w' h => cnfE_of h⟩
  · obtain ⟨m, rfl⟩ := Int.eq_ofNat_of_zero_le (show 0 ≤ n by omega)
    exact ⟨_, true, _, pig_tot (by omega) (by omega), fun w => (specPigeon m w (by omega) (by omega)).mono fun e w' h => cnfE_of h, fun w => (implPigeon m w (by omega) (by omega)).mono fun e w' h => cnfE_of h⟩
end Go.Proofs.Ytmmfhcfanbfniaa.t2
