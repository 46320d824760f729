/- Color of the program; conditions: sizes. -/
import Derived.Test.YtmmmldcnadidkaaEf
import Derived.Deep.RegionHeld3
namespace Go.Proofs.Ytmmmldcnadidkaa.t2
open Go.ChangeShapes Go.WideShapes Go.ChangeAt Go.RowKit
open Go.Proofs.Ytmmmldcnadidkaa.lits (okB okB_iff)
open Go.Proofs.Ytmmmldcnadidkaa.sl (Sl Own ints hide unhide ret_int ret_bool grown_refl grown_trans grown_drewN)
open Go.Proofs.Ytmmmldcnadidkaa.css (Sls OwnS tot Apart own_ne own_ne' own_kind own_mono)
open Go.Proofs.Ytmmmldcnadidkaa.cf (Box)
open Go.Proofs.Ytmmmldcnadidkaa.wo (Made)
open Go.Proofs.Ytmmmldcnadidkaa.ed (Eds)
set_option linter.unusedVariables false

theorem row_ok {n k i : Nat} (hi : i < n) (hk : n * k ≤ 24) : ∀ y ∈ rowL i k, okB y = true := by
  intro y h
  unfold rowL at h
  rw [List.mem_map] at h
  obtain ⟨j, hj, rfl⟩ := h
  rw [List.mem_range] at hj
  have h1 := Nat.mul_le_mul (show i + 1 ≤ n by omega) (Nat.le_refl k)
  rw [Nat.add_mul, Nat.one_mul] at h1
  exact okB_iff.2 ⟨by omega, by omega, by omega⟩
theorem end_bd {n k c : Nat} {a : Int} (h0 : 1 ≤ a) (h1 : a ≤ (n : Int)) (hc : c < k) (hk : n * k ≤ 24) : 1 ≤ (a - 1) * (k : Int) + ((c : Int) + 1) ∧ (a - 1) * (k : Int) + ((c : Int) + 1) ≤ 24 ∧ 0 ≤ (a - 1) * (k : Int) ∧ (a - 1) * (k : Int) ≤ 24 := by
  obtain ⟨m, hm⟩ := Int.eq_ofNat_of_zero_le (show 0 ≤ a - 1 by omega)
  have h2 := Nat.mul_le_mul (show m + 1 ≤ n by omega) (Nat.le_refl k)
  rw [Nat.add_mul, Nat.one_mul] at h2
  rw [hm]
  have e : (m : Int) * (k : Int) = ((m * k : Nat) : Int) := by rw [Int.natCast_mul]
  rw [e]
  omega
theorem end_ok {n k c : Nat} {a : Int} (h0 : 1 ≤ a) (h1 : a ≤ (n : Int)) (hc : c < k) (hk : n * k ≤ 24) : okB ((a - 1) * (k : Int) + ((c : Int) + 1)) = true := by
  have := end_bd h0 h1 hc hk
  exact okB_iff.2 ⟨by omega, by omega, by omega⟩
theorem edB_iff {n : Nat} {a b : Int} : edB n a b = true ↔ (1 ≤ a ∧ a ≤ (n : Int)) ∧ (1 ≤ b ∧ b ≤ (n : Int)) ∧ a ≠ b := by
  unfold edB
  rw [decide_eq_true_eq]
  constructor
  · rintro ⟨h1, h2, h3, h4, h5⟩
    exact ⟨⟨h1, h2⟩, ⟨h3, h4⟩, h5⟩
  · rintro ⟨⟨h1, h2⟩, ⟨h3, h4⟩, h5⟩
    exact ⟨h1, h2, h3, h4, h5⟩
/-- what lay in memory ahead of the builder lies there still -/
theorem AndI.old {W0 W1 wr w : World} {p b off m : Nat} {x : Value} {r : Bool} {CC P : List (List Int)} (h : AndI W0 p (.slice none 0 0) W1 r CC P wr) (g : w.grownBy W1 none) (hp : w.heap.size ≤ p) (hb : b < w.heap.size) (hc : w.cell? ⟨b, off + m, none⟩ = some x) : wr.cell? ⟨b, off + m, none⟩ = some x := by
  obtain ⟨v', _, f⟩ := h
  have e1 := g.block b hb (fun e => by cases e)
  have e2 := f.block b (Nat.lt_of_lt_of_le hb g.size) (by omega) (by simp [Value.ownBlock])
  unfold World.cell? at *
  rw [e2, e1]
  exact hc
theorem AndI.up {W0 W1 wr w2 : World} {p : Nat} {v : Value} {r : Bool} {CC P : List (List Int)} (h : AndI W0 p v W1 r CC P wr) (g : wr.grownBy w2 none) : AndI W0 p v W1 r CC P w2 := by
  obtain ⟨v', b, f⟩ := h
  exact ⟨v', b.kept g, f.more g⟩
/-- more clauses behind others, with what is made beside them -/
theorem AndI.then {W0 W1 wr w1 w2 : World} {p : Nat} {v : Value} {r : Bool} {CC P Q PQ : List (List Int)} (h : AndI W0 p v W1 r CC P wr) (e : PQ = P ++ Q) (g : wr.grownBy w1 none) (hm : ∀ v1, Bld W0 w1 p v1 (addsR r CC P) (addsC r CC P) → ∃ v2, Bld W0 w2 p v2 (addsR (addsR r CC P) (addsC r CC P) Q) (addsC (addsR r CC P) (addsC r CC P) Q) ∧ Fr p v1 v2 w1 w2) : AndI W0 p v W1 r CC PQ w2 := by
  obtain ⟨v1, b1, f1⟩ := h.up g
  obtain ⟨v2, b2, f2⟩ := hm v1 b1
  exact AndI.more f1 e b2 f2
theorem same_box {w wm w' : World} {p c : Nat} {v v' x y : Value} (h : Box 38 w c x y) (f : Fr p v v' wm w') (g : w.grownBy wm none) (hp : p < c) (hv : v.ownBlock ≠ some c) : Box 38 w' c x y := by
  have h2 := h.kept g
  have e := f.block c h2.lt (by omega) hv
  unfold Box at *
  rw [e]
  exact h2
set_option maxRecDepth 10000 in
set_option maxHeartbeats 16000000 in
theorem implColor (n k E : Nat) (f : Nat → Int) (v : Value) (w : World) (hn0 : 1 ≤ n) (hn : n ≤ 12) (hk0 : 1 ≤ k) (hk : k ≤ 6) (hnk : n * k ≤ 24) (hE : E ≤ 120) (hv : Eds w v E f) (hed : edsB n f E = true) :
    Calls Try.prog 7 #[.int .i64 (n : Int), v, .int .i64 (k : Int)] w fun e w' => CnfE w (decide ((colC n k E f).length ≤ 120)) ((n : Int) * k) (colC n k E f) e w' := by
  have gR := World.grownBy_alloc w (.cells #[.int .i64 0, .slice none 0 0] 26) none
  have bR := Box.new 26 w (.int .i64 0) (.slice none 0 0)
  obtain ⟨W0, hW0⟩ : ∃ W0, W0 = w.alloc (.cells #[.int .i64 0, .slice none 0 0] 26) := ⟨_, rfl⟩
  have hs0 : W0.heap.size = w.heap.size + 1 := by rw [hW0, World.size_alloc]
  rw [← hW0] at gR bR
  have ED := edgesOf n E f v W0 (by omega) (by omega) (hv.kept gR)
  rw [decide_eq_true hE, hed, Bool.true_and] at ED
  have EDH := hide ED
  clear ED
  obtain ⟨a, cap, rfl, ha⟩ := hv
  have HA := hide ha
  have HW0 := hide hW0
  have GR := hide gR
  have BR := hide bR
  have HED := hide hed
  have HS := hide hs0
  have hmul : (n : Int) * (k : Int) = ((n * k : Nat) : Int) := by rw [Int.natCast_mul]
  have NN := hide hmul
  have HNK := hide hnk
  have i1 : ¬ (n : Int) < 1 := by omega
  have i2 : ¬ (12 : Int) < (n : Int) := by omega
  have i3 : ¬ (k : Int) < 1 := by omega
  have i4 : ¬ (6 : Int) < (k : Int) := by omega
  clear ha gR bR hed hs0
  obtain ⟨mm, hmm⟩ : ∃ mm, mm = n * k := ⟨_, rfl⟩
  rw [← hmm] at hmul NN HNK hnk
  have HMM := hide hmm
  have i5 : ¬ (24 : Int) < (mm : Int) := by omega
  clear hmm
  go_enter Try.func7, Try.ntmps7
  go_wp2_with fail
  rw [← hW0]
  refine (unhide EDH).mono ?_; rintro e w1 ⟨rfl, g1⟩
  have gR1 := hide (grown_trans (r := none) (unhide GR) g1)
  have BR1 := hide ((unhide BR).kept g1)
  have GW := hide g1
  have hb := Bld.new w1
  obtain ⟨W1, hW1⟩ : ∃ W1, W1 = w1.alloc (.cells #[.slice none 0 0, .bool false] 42) := ⟨_, rfl⟩
  have gB := hide (hW1 ▸ World.grownBy_alloc w1 (.cells #[.slice none 0 0, .bool false] 42) none : w1.grownBy W1 none)
  rw [← hW1] at hb
  have SP := hide g1.size
  have ST : Hid (AndI w1 w1.heap.size (.slice none 0 0) W1 false [] (vertsT k 0) W1) := ⟨_, hb, Fr.refl ..⟩
  clear hb g1 EDH hW0 hmul hnk
  go_wp2_with fail
  rw [← hW1]
  have E1 := hide hW1
  clear hW1
  go_loopw [9] (fun j wr => ∃ i : Nat, i ≤ n ∧ j = .int .i64 ((i : Int) + 1) ∧ Hid (AndI w1 w1.heap.size (.slice none 0 0) W1 false [] (vertsT k i) wr)) (fun j _ => n + 1 - (intOf j).toNat)
  case atStart => exact ⟨0, Nat.zero_le _, rfl, ST⟩
  case round =>
    obtain ⟨i, hi, rfl, hm⟩ := hrel
    clear ST
    by_cases hlt : i < n
    · have hi' : (i : Int) + 1 ≤ (n : Int) := by omega
      have CH := hide (choicesOf i k wr (by omega) (by omega))
      have VS := vertsT_step k i
      have RO := row_ok (k := k) hlt (by rw [← unhide HMM]; exact unhide HNK)
      obtain ⟨v1, b1, f1⟩ := unhide hm
      have B1 := hide b1
      have F1 := hide f1
      have EY := hide (fun (wx : World) (q : Value) (mq : Made wr wx q (rowL i k)) => exactly w1.heap.size v1 q _ _ 1 (rowL i k) _ _ w1 wx (by rw [rowL_len]; omega) (by omega) (by omega) RO (adds_len (vertsT k i) false [] (by simp)) (b1.kept mq.2) (Own.of mq.1) (Nat.le_refl _))
      have VSH := hide VS
      clear b1 f1 hm
      clear VS RO
      go_wp2_with fail
      refine (unhide CH).mono ?_; rintro e w2 ⟨q, rfl, m2⟩
      have A1 := hide (unhide EY w2 q m2)
      have G2 := hide m2.2
      obtain ⟨qa, qc, rfl, _⟩ := (Own.of m2.1).sl
      clear m2 EY CH
      go_wp2_with fail
      refine (unhide A1).mono ?_; rintro e w3 ⟨rfl, v3, b3, f3⟩
      have R : Hid (AndI w1 w1.heap.size (.slice none 0 0) W1 false [] (vertsT k (i + 1)) w3) := AndI.more (unhide F1) (unhide VSH) b3 (Fr.up (unhide G2) f3 (v_lt (unhide B1)))
      clear b3 f3 A1 F1 B1 G2 VSH
      go_wp2_with fail
      go_roundw
      case rel => exact ⟨i + 1, by omega, by go_num, R⟩
      case measure => simp [intOf]; omega
    · have hi' : ¬ (i : Int) + 1 ≤ (n : Int) := by omega
      have e : i = n := by omega
      subst e
      have ST2 : Hid (AndI w1 w1.heap.size (.slice none 0 0) W1 false [] (vertsT k i ++ edgesT k f 0) wr) := by
        show AndI w1 w1.heap.size (.slice none 0 0) W1 false [] (vertsT k i ++ []) wr
        rw [List.append_nil]
        exact unhide hm
      clear hm hlt hi
      go_wp2_with fail
      go_loopw [51] (fun j wr => ∃ t : Nat, t ≤ E ∧ j = .int .i64 (t : Int) ∧ Hid (AndI w1 w1.heap.size (.slice none 0 0) W1 false [] (vertsT k i ++ edgesT k f t) wr)) (fun j _ => E - (intOf j).toNat)
      case atStart => exact ⟨0, Nat.zero_le _, rfl, ST2⟩
      case round =>
        obtain ⟨t, ht, rfl, hm⟩ := hrel
        clear ST2
        by_cases hlt : t < E
        · have hi' : (t : Int) < (E : Int) := by omega
          rcases unhide HA with h | ⟨b, off, rfl, hb, hcb⟩
          · omega
          · have gw1 := hide (grown_trans (r := none) (unhide gR1) (unhide gB))
            have c0 : wr.cell? ⟨b, off + t * 2, none⟩ = some (.int .i64 (f (t * 2))) := (unhide hm).old (unhide gw1) (unhide gR1).size hb (hcb (t * 2) (by omega))
            have c1 : wr.cell? ⟨b, off + t * 2 + 1, none⟩ = some (.int .i64 (f (t * 2 + 1))) := (unhide hm).old (unhide gw1) (unhide gR1).size hb (hcb (t * 2 + 1) (by omega))
            have es := edgesT_step k f t
            have ok := edB_iff.1 (edsB_at hlt (unhide HED))
            clear hcb
            generalize f (t * 2) = x at *
            generalize f (t * 2 + 1) = y at *
            have ES := hide es
            have OK := hide ok
            have MB := hide ((unhide hm).up (World.grownBy_alloc wr (.cells #[.int .i64 x, .int .i64 y] 38) none))
            have BX := ed.new2 wr (.int .i64 x) (.int .i64 y)
            obtain ⟨wb, hwb⟩ : ∃ wb, wb = wr.heap.size := ⟨_, rfl⟩
            rw [← hwb] at BX
            obtain ⟨W2, hW2⟩ : ∃ W2, W2 = wr.alloc (.cells #[.int .i64 x, .int .i64 y] 38) := ⟨_, rfl⟩
            rw [← hW2] at MB BX
            have LW : Hid (wb < W2.heap.size) := by show _ < _; rw [hW2, hwb, World.size_alloc]; omega
            have ST3 : Hid (AndI w1 w1.heap.size (.slice none 0 0) W1 false [] ((vertsT k i ++ edgesT k f t) ++ edgeC k x y 0) W2 ∧ Box 38 W2 wb (.int .i64 x) (.int .i64 y)) := by
              refine ⟨?_, BX⟩
              show AndI w1 w1.heap.size (.slice none 0 0) W1 false [] ((vertsT k i ++ edgesT k f t) ++ []) W2
              rw [List.append_nil]
              exact unhide MB
            have HWB := hide hwb
            have HW2 := hide hW2
            have LP : Hid (w1.heap.size < wb) := by
              obtain ⟨v0, b0, _⟩ := unhide hm
              show _ < _
              rw [hwb]
              exact b0.b.lt
            clear es ok hm MB BX hW2
            go_wp2_with fail
            rw [← unhide HW2, ← hwb]
            clear hwb
            generalize hPP : vertsT k i ++ edgesT k f t = PP at *
            have HPP := hide hPP
            clear hPP
            go_loopw [12] (fun j wx => ∃ c : Nat, c ≤ k ∧ j = .int .i64 ((c : Int) + 1) ∧ Hid (AndI w1 w1.heap.size (.slice none 0 0) W1 false [] (PP ++ edgeC k x y c) wx ∧ Box 38 wx wb (.int .i64 x) (.int .i64 y))) (fun j _ => k + 1 - (intOf j).toNat)
            case atStart => exact ⟨0, Nat.zero_le _, rfl, ST3⟩
            case round =>
              obtain ⟨c, hc, rfl, hm⟩ := hrel
              clear ST3
              by_cases hlt2 : c < k
              · have hi2 : (c : Int) + 1 ≤ (k : Int) := by omega
                obtain ⟨v1, b1, f1⟩ := (unhide hm).1
                have bx := (unhide hm).2
                have x0 := bx.c0
                have x1 := bx.c1
                have hnk : i * k ≤ 24 := by rw [← unhide HMM]; exact unhide HNK
                have okx := end_ok (unhide OK).1.1 (unhide OK).1.2 hlt2 hnk
                have oky := end_ok (unhide OK).2.1.1 (unhide OK).2.1.2 hlt2 hnk
                have bdx := end_bd (unhide OK).1.1 (unhide OK).1.2 hlt2 hnk
                have bdy := end_bd (unhide OK).2.1.1 (unhide OK).2.1.2 hlt2 hnk
                have CA := hide (fun (z : Int) (hz : 1 ≤ z ∧ z ≤ (i : Int) ∧ 0 ≤ (z - 1) * (k : Int) ∧ (z - 1) * (k : Int) ≤ 24) (wq : World) => choiceAt z ((c : Int) + 1) k ((z - 1) * (k : Int)) rfl (by omega) (by omega) (by omega) wq)
                have CX := hide (show 1 ≤ x ∧ x ≤ (i : Int) ∧ 0 ≤ (x - 1) * (k : Int) ∧ (x - 1) * (k : Int) ≤ 24 from ⟨(unhide OK).1.1, (unhide OK).1.2, bdx.2.2⟩)
                have CY := hide (show 1 ≤ y ∧ y ≤ (i : Int) ∧ 0 ≤ (y - 1) * (k : Int) ∧ (y - 1) * (k : Int) ≤ 24 from ⟨(unhide OK).2.1.1, (unhide OK).2.1.2, bdy.2.2⟩)
                have EC := edgeC_step k x y c
                obtain ⟨X, hX⟩ : ∃ X, X = (x - 1) * (k : Int) + ((c : Int) + 1) := ⟨_, rfl⟩
                obtain ⟨Y, hY⟩ : ∃ Y, Y = (y - 1) * (k : Int) + ((c : Int) + 1) := ⟨_, rfl⟩
                rw [← hX, ← hY] at EC
                rw [← hX] at okx
                rw [← hY] at oky
                have gA := World.grownBy_alloc wr (.cells #[.int .i64 X, .int .i64 Y] 3) none
                have gD := grown_trans (r := none) gA (cf.grown_drew _ none)
                have hu := own_litN wr 2 [X, Y] #[.int .i64 X, .int .i64 Y] rfl rfl (by decide)
                have AM := hide (atMost w1.heap.size v1 _ _ _ 1 [X, Y] _ _ w1 (wr.alloc (.cells #[.int .i64 X, .int .i64 Y] 3)).drew (by simp) (by omega) (by intro z hz; rcases List.mem_cons.1 hz with rfl | hz; exact okx; rcases List.mem_singleton.1 hz with rfl; exact oky) (adds_len (PP ++ edgeC k x y c) false [] (by simp)) (b1.kept gD) (hu.kept (cf.grown_drew _ none)))
                have GD := hide gD
                have NB : Hid (v1.ownBlock ≠ some wb) := by
                  obtain ⟨D, _, ho, _⟩ := b1.o
                  exact box_ne ho (show (38 : Nat) ≠ 35 by decide) bx
                rw [pair_most] at AM
                clear gA gD hu
                have B1 := hide b1
                have F1 := hide f1
                have BX := hide bx
                have HX := hide hX
                have HY := hide hY
                have ECH := hide EC
                clear b1 f1 bx hm okx oky bdx bdy EC hX hY hnk
                go_wp2_with fail
                go_region_held3 (fun w' => w'.cell? ⟨wb, 0, none⟩ = some (.int .i64 x) ∧ w'.cell? ⟨wb, 1, none⟩ = some (.int .i64 y)) (go_keep) (first
                  | (go_at_call 20; refine (unhide CA _ ?hz _).mono ?_; (case hz => first | exact unhide CX | exact unhide CY); rintro e w9 ⟨rfl, hw⟩; have hw' := hw.symm; clear hw; subst hw')
                  | (go_at_call 19; rw [← unhide HX, ← unhide HY]; refine (unhide AM).mono ?_; rintro e w3 ⟨rfl, v3, b3, f3⟩; have bx3 := same_box (unhide BX) f3 (unhide GD) (unhide LP) (unhide NB); have y0 := bx3.c0; have y1 := bx3.c1))
                have R : Hid (AndI w1 w1.heap.size (.slice none 0 0) W1 false [] (PP ++ edgeC k x y (c + 1)) w3 ∧ Box 38 w3 wb (.int .i64 x) (.int .i64 y)) := ⟨AndI.more (unhide F1) (by rw [unhide ECH, List.append_assoc]) b3 (Fr.up (unhide GD) f3 (v_lt (unhide B1))), bx3⟩
                clear b3 f3 bx3 AM B1 F1 BX HX HY ECH CA CX CY
                go_wp2_with fail
                go_roundw
                case rel => exact ⟨c + 1, by omega, by go_num, R⟩
                case measure => simp [intOf]; omega
              · have hi2 : ¬ (c : Int) + 1 ≤ (k : Int) := by omega
                have e : c = k := by omega
                subst e
                have R : Hid (AndI w1 w1.heap.size (.slice none 0 0) W1 false [] (vertsT c i ++ edgesT c f (t + 1)) wr) := by
                  rw [unhide ES, ← List.append_assoc, unhide HPP]
                  exact (unhide hm).1
                clear hm
                go_wp2_with fail
                go_roundw
                case rel => exact ⟨t + 1, by omega, by go_num, R⟩
                case measure => simp [intOf]; omega
        · have hi' : ¬ (t : Int) < (E : Int) := by omega
          have e : t = E := by omega
          subst e
          obtain ⟨v1, b1, f1⟩ := unhide hm
          have hP : vertsT k i ++ edgesT k f t = colC i k t f := rfl
          rw [hP, adds_fine] at b1
          have FO := hide (formula _ v1 (!decide ((colC i k t f).length ≤ 120)) _ (mm : Int) w1 wr b1)
          have B1 := hide b1.g
          have AL := hide (fun (h : (colC i k t f).length ≤ 120) => adds_list h)
          clear b1 f1 hm hP
          have hmul : (i : Int) * (k : Int) = (mm : Int) := unhide NN
          have hnk : mm ≤ 24 := unhide HNK
          go_wp2_with fail
          clear hmul
          refine (unhide FO).mono ?_; rintro e w3 ⟨q, rfl, o3, g3⟩
          have o4 : OwnS w1.heap.size w3.heap.size w3 q (if decide ((colC i k t f).length ≤ 120) then colC i k t f else []) := by
            by_cases hl : (colC i k t f).length ≤ 120
            · rw [decide_eq_true hl] at o3 ⊢
              rw [unhide AL hl] at o3
              exact o3
            · rw [decide_eq_false hl] at o3 ⊢
              exact o3
          have hN : (if (!decide ((colC i k t f).length ≤ 120)) = true then 0 else (mm : Int)) = if decide ((colC i k t f).length ≤ 120) then (i : Int) * k else 0 := by
            rw [unhide NN]
            cases decide ((colC i k t f).length ≤ 120) <;> rfl
          have hB : (!!decide ((colC i k t f).length ≤ 120)) = decide ((colC i k t f).length ≤ 120) := by simp
          rw [hN, hB]
          obtain ⟨qa, qc, rfl⟩ := o4.len
          have GG := grown_trans (r := none) (unhide B1) g3
          have BX := (unhide BR1).kept GG
          have z0 := BX.c0
          have z1 := BX.c1
          have zf0 := BX.f 0
          have zf1 := BX.f 1
          have O3 := hide o4
          have G3 := hide GG
          have BXX := hide BX
          have S0 := hide (unhide gR1).size
          have LW : Hid (w.heap.size < w1.heap.size) := by
            have h := (unhide BR1).lt
            exact h
          clear o3 o4 g3 FO B1 GG BX AL hN hB
          generalize hbb : decide ((colC i k t f).length ≤ 120) = bb at *
          generalize hnn : (if bb = true then (i : Int) * k else 0) = nn at *
          have HNN := hide hnn
          have HBB := hide hbb
          generalize hRR : (if bb = true then colC i k t f else []) = R at *
          have HRR := hide hRR
          clear hRR hbb hnn
          go_wp2_with fail
          (try simp only [Exit.inBlock, Exit.then])
          refine bodyPost_ret (cf.ret_box2 rfl rfl (((unhide BXX).set0 _).set1 _)) rfl ?_
          have hs := unhide LW
          rw [unhide HBB]
          refine ⟨qa, qc, ?_, ?_, cf.grown_set (cf.grown_set (grown_trans (unhide gR1) (unhide G3)) (Nat.le_refl _)) (Nat.le_refl _)⟩
          · rw [unhide HRR, unhide HNN]
            rfl
          · rw [cf.size_set, cf.size_set, unhide HRR]
            exact (cf.ownS_set (cf.ownS_set (unhide O3) (.inl (by omega))) (.inl (by omega))).sub (by omega) (Nat.le_refl _)
/-- what is refused ahead of all -/
def colX (n k : Int) : Bool := decide (n < 1 ∨ 12 < n ∨ k < 1 ∨ 6 < k ∨ 24 < n * k)
set_option maxHeartbeats 4000000 in
theorem implColorX (n k : Int) (E : Nat) (f : Nat → Int) (v : Value) (w : World) (C : List (List Int)) (h : colX n k = true) (hv : Eds w v E f) :
    Calls Try.prog 7 #[.int .i64 n, v, .int .i64 k] w fun e w' => CnfE w false (n * k) C e w' := by
  have bR := Box.new 26 w (.int .i64 0) (.slice none 0 0)
  have h := of_decide_eq_true h
  obtain ⟨a, cap, rfl, _⟩ := hv
  have cs : n < 1 ∨ (¬ n < 1 ∧ 12 < n) ∨ (¬ n < 1 ∧ ¬ 12 < n ∧ k < 1) ∨ (¬ n < 1 ∧ ¬ 12 < n ∧ ¬ k < 1 ∧ 6 < k) ∨ (¬ n < 1 ∧ ¬ 12 < n ∧ ¬ k < 1 ∧ ¬ 6 < k ∧ 24 < n * k) := by omega
  have hm : ¬ n < 1 → ¬ 12 < n → ¬ k < 1 → ¬ 6 < k → 0 ≤ n * k ∧ n * k ≤ 72 := by
    intro h1 h2 h3 h4
    obtain ⟨n', rfl⟩ := Int.eq_ofNat_of_zero_le (show 0 ≤ n by omega)
    obtain ⟨k', rfl⟩ := Int.eq_ofNat_of_zero_le (show 0 ≤ k by omega)
    have := Nat.mul_le_mul (show n' ≤ 12 by omega) (show k' ≤ 6 by omega)
    rw [← Int.natCast_mul]
    omega
  have BR := hide bR
  clear h bR
  rcases cs with h1 | ⟨h1, h2⟩ | ⟨h1, h2, h3⟩ | ⟨h1, h2, h3, h4⟩ | ⟨h1, h2, h3, h4, h5⟩
  · clear hm
    go_enter Try.func7, Try.ntmps7
    go_wp2_with fail
    (try simp only [Exit.inBlock, Exit.then])
    exact bodyPost_ret (cf.ret_box2 rfl rfl (unhide BR)) rfl (cnf_no w)
  · clear hm
    go_enter Try.func7, Try.ntmps7
    go_wp2_with fail
    (try simp only [Exit.inBlock, Exit.then])
    exact bodyPost_ret (cf.ret_box2 rfl rfl (unhide BR)) rfl (cnf_no w)
  · clear hm
    go_enter Try.func7, Try.ntmps7
    go_wp2_with fail
    (try simp only [Exit.inBlock, Exit.then])
    exact bodyPost_ret (cf.ret_box2 rfl rfl (unhide BR)) rfl (cnf_no w)
  · clear hm
    go_enter Try.func7, Try.ntmps7
    go_wp2_with fail
    (try simp only [Exit.inBlock, Exit.then])
    exact bodyPost_ret (cf.ret_box2 rfl rfl (unhide BR)) rfl (cnf_no w)
  · obtain ⟨m0, m1⟩ := hm h1 h2 h3 h4
    generalize hz : n * k = z at *
    have hz' : n * k = z := hz
    have HZ := hide hz
    clear hm hz
    go_enter Try.func7, Try.ntmps7
    go_wp2_with fail
    (try simp only [Exit.inBlock, Exit.then])
    exact bodyPost_ret (cf.ret_box2 rfl rfl (unhide BR)) rfl (cnf_no w)
set_option maxHeartbeats 4000000 in
theorem implColorN (n k E : Nat) (f : Nat → Int) (v : Value) (w : World) (hn0 : 1 ≤ n) (hn : n ≤ 12) (hk0 : 1 ≤ k) (hk : k ≤ 6) (hnk : n * k ≤ 24) (hE : E ≤ 9223372036854775807) (hv : Eds w v E f) (N : Int) (C : List (List Int)) (h : (decide (E ≤ 120) && edsB n f E) = false) :
    Calls Try.prog 7 #[.int .i64 (n : Int), v, .int .i64 (k : Int)] w fun e w' => CnfE w false N C e w' := by
  have gR := World.grownBy_alloc w (.cells #[.int .i64 0, .slice none 0 0] 26) none
  have bR := Box.new 26 w (.int .i64 0) (.slice none 0 0)
  have ED := edgesOf n E f v _ (by omega) hE (hv.kept gR)
  rw [h] at ED
  have EDH := hide ED
  clear ED
  obtain ⟨a, cap, rfl, _⟩ := hv
  have hmul : (n : Int) * (k : Int) = ((n * k : Nat) : Int) := by rw [Int.natCast_mul]
  have i1 : ¬ (n : Int) < 1 := by omega
  have i2 : ¬ (12 : Int) < (n : Int) := by omega
  have i3 : ¬ (k : Int) < 1 := by omega
  have i4 : ¬ (6 : Int) < (k : Int) := by omega
  generalize n * k = mm at *
  have i5 : ¬ (24 : Int) < (mm : Int) := by omega
  have BR := hide bR
  have GR := hide gR
  clear gR bR
  go_enter Try.func7, Try.ntmps7
  go_wp2_with fail
  refine (unhide EDH).mono ?_; rintro e w1 ⟨rfl, g1⟩
  have BX := (unhide BR).kept g1
  have z0 := BX.c0
  have z1 := BX.c1
  have zf0 := BX.f 0
  have zf1 := BX.f 1
  have BXX := hide BX
  have GG := hide (grown_trans (r := none) (unhide GR) g1)
  clear BX g1 EDH
  go_wp2_with fail
  (try simp only [Exit.inBlock, Exit.then])
  refine bodyPost_ret (cf.ret_box2 rfl rfl (((unhide BXX).set0 _).set1 _)) rfl ?_
  exact ⟨none, 0, rfl, ownS_nil .., cf.grown_set (cf.grown_set (unhide GG) (Nat.le_refl _)) (Nat.le_refl _)⟩
end Go.Proofs.Ytmmmldcnadidkaa.t2
