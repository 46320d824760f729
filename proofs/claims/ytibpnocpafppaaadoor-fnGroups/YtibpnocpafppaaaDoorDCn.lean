/- What the laws draw of formulas: a formula in memory of the call's own, whatever the bytes, within named bounds; nothing old but the cursor is written. -/
import Derived.Test.YtibpnocpafppaaaDoorDVa
import Derived.Deep.LoopGhost
import Derived.Deep.CutRange
namespace Go.Proofs.YtibpnocpafppaaaDoor.dcn
open Go.ChangeShapes Go.WideShapes Go.ChangeAt Go.RowKit
open Go.Proofs.YtibpnocpafppaaaDoor.sl (Sl Own ints hide unhide grown_refl grown_trans grown_trans' of_below below_of grown_drewN)
open Go.Proofs.YtibpnocpafppaaaDoor.css (Sls OwnS tot)
open Go.Proofs.YtibpnocpafppaaaDoor.cf (Box)
open Go.Proofs.YtibpnocpafppaaaDoor.draw (Cur Bs I64 newCur grown_new)
open Go.Proofs.YtibpnocpafppaaaDoor.dcls (MadeC MadeC.start appendC)
set_option linter.unusedVariables false

/-- lists of the call's own stay while the cursor, which is older, turns -/
theorem ownS_turn {lo hi c : Nat} {w w1 : World} {v : Value} {M : List (List Int)} (h : OwnS lo hi w v M) (hc : c < lo) (g : w.grownBy w1 (some c)) : OwnS lo hi w1 v M := by
  have kp : ∀ (t : TypeId) (p : Value) (n : Nat) (xs : List Value), w.ownsRow lo t 1 p n xs → w1.ownsRow lo t 1 p n xs := fun t p n xs h => h.kept g (by
    cases e : p.ownBlock with
    | none => exact .inl rfl
    | some k => exact .inr (fun e' => by cases e'; have := (h.lt _ e).1; omega))
  obtain ⟨D, e, ho, hb, hin, hp⟩ := h
  exact ⟨D, e, kp _ _ _ _ ho, hb, fun p hp => ⟨kp _ _ _ _ (hin p hp).1, (hin p hp).2⟩, hp⟩
/-- a struct variable of the call's own (block b) that holds n and the lists M, which lie below hi; the cursor in block c may have turned since w; beside it others, that stay -/
def MidD (c : Nat) (w wr : World) (b : Nat) (n : Int) (M : List (List Int)) (Bs : List (Nat × Value × Value)) (hi : Nat) : Prop :=
  w.heap.size ≤ b ∧ c < w.heap.size ∧ w.grownBy wr (some c) ∧ Cur wr c ∧ hi ≤ wr.heap.size ∧ (∀ p ∈ Bs, p.1 ≠ b ∧ p.1 ≠ c ∧ Box 26 wr p.1 p.2.1 p.2.2) ∧ ∃ a cap, Box 26 wr b (.int .i64 n) (.slice a M.length cap) ∧ OwnS w.heap.size hi wr (.slice a M.length cap) M
theorem MidD.turn {c : Nat} {w wr w1 : World} {b : Nat} {n : Int} {M : List (List Int)} {Bs : List (Nat × Value × Value)} {hi : Nat} (h : MidD c w wr b n M Bs hi) (g : wr.grownBy w1 (some c)) (hcur : Cur w1 c) : MidD c w w1 b n M Bs hi := by
  obtain ⟨hb, hc, hg, _, hh, hB, a, cap, bx, ho⟩ := h
  exact ⟨hb, hc, grown_trans' hg g, hcur, Nat.le_trans hh g.size, fun p hp => ⟨(hB p hp).1, (hB p hp).2.1, (hB p hp).2.2.by g (fun e => (hB p hp).2.1 (by cases e; rfl))⟩, a, cap, bx.by g (fun e => by cases e; omega), ownS_turn ho hc g⟩
theorem MidD.cur {c : Nat} {w wr : World} {b : Nat} {n : Int} {M : List (List Int)} {Bs : List (Nat × Value × Value)} {hi : Nat} (h : MidD c w wr b n M Bs hi) : Cur wr c := h.2.2.2.1
theorem MidD.grown {c : Nat} {w wr : World} {b : Nat} {n : Int} {M : List (List Int)} {Bs : List (Nat × Value × Value)} {hi : Nat} (h : MidD c w wr b n M Bs hi) : w.grownBy wr (some c) := h.2.2.1
theorem MidD.c0 {c : Nat} {w wr : World} {b : Nat} {n : Int} {M : List (List Int)} {Bs : List (Nat × Value × Value)} {hi : Nat} (h : MidD c w wr b n M Bs hi) : wr.cell? ⟨b, 0, none⟩ = some (.int .i64 n) := by
  obtain ⟨_, _, _, _, _, _, a, cap, bx, _⟩ := h
  exact bx.c0
/-- one slice more -/
theorem MidD.step {c : Nat} {w wr w1 : World} {b : Nat} {n : Int} {M : List (List Int)} {Bs : List (Nat × Value × Value)} {hi : Nat} {L : List Int} {a : Option Addr} {cap g cap' : Nat} {u : Value}
    (hb : w.heap.size ≤ b) (hc : c < w.heap.size) (hg : w.grownBy wr (some c)) (hcur : Cur wr c) (hB : ∀ p ∈ Bs, p.1 ≠ b ∧ p.1 ≠ c ∧ Box 26 wr p.1 p.2.1 p.2.2) (bx : Box 26 wr b (.int .i64 n) (.slice a M.length cap)) (ho : OwnS w.heap.size hi wr (.slice a M.length cap) M)
    (h1 : OwnS w.heap.size w1.heap.size w1 (.slice (some ⟨g, 0, none⟩) (M.length + 1) cap') (M ++ [L])) (g1 : (wr.alloc (.cells #[u] 31)).grownBy w1 (Value.slice a M.length cap).ownBlock) :
    (w1.cell? ⟨b, 1, none⟩ = some (.slice a M.length cap) ∧ w1.frozen? ⟨b, 1, none⟩ = false) ∧ MidD c w (w1.setCell ⟨b, 1, none⟩ (.slice (some ⟨g, 0, none⟩) (M.length + 1) cap')) b n (M ++ [L]) Bs w1.heap.size := by
  have gA := World.grownBy_alloc wr (.cells #[u] 31) none
  have hb2 := bx.kept gA
  obtain ⟨D, e, hw, hbb, hin, hp⟩ := ho.kept gA
  have hb1 := hb2.by g1 (gr.box_ne hw gr.ty1 hb2)
  have hg1 : w.grownBy w1 (some c) := ⟨g1.os.trans (gA.os.trans hg.os), g1.tape.trans (gA.tape.trans hg.tape), g1.output.trans (gA.output.trans hg.output), Nat.le_trans hg.size (Nat.le_trans gA.size g1.size), fun k hk hne => by
    rw [g1.block k (Nat.lt_of_lt_of_le hk (Nat.le_trans hg.size gA.size)) (fun e => by have := (hw.lt k e.symm).1; omega), gA.block k (Nat.lt_of_lt_of_le hk hg.size) (fun e => by cases e)]
    exact hg.block k hk hne⟩
  have hcur1 : Cur w1 c := (hcur.kept gA (fun r e => by cases e)).kept g1 (fun r e => by have := (hw.lt r e).1; omega)
  have hB1 : ∀ p ∈ Bs, Box 26 w1 p.1 p.2.1 p.2.2 := by
    intro p hp'
    have hbb := (hB _ hp').2.2.kept gA
    exact hbb.by g1 (gr.box_ne hw gr.ty1 hbb)
  have gS := sl.grown_setCell w1 b 1 (.slice (some ⟨g, 0, none⟩) (M.length + 1) cap')
  refine ⟨⟨hb1.c1, hb1.f 1⟩, hb, hc, ?_, hcur1.kept gS (fun r e => by cases e; omega), by rw [cf.size_set]; exact Nat.le_refl _, fun p hp' => ⟨(hB p hp').1, (hB p hp').2.1, (hB1 p hp').setO (fun e => (hB p hp').1 e.symm)⟩, some ⟨g, 0, none⟩, cap', ?_, ?_⟩
  · exact ⟨gS.os.trans hg1.os, gS.tape.trans hg1.tape, gS.output.trans hg1.output, Nat.le_trans hg1.size gS.size, fun k hk hne => (gS.block k (Nat.lt_of_lt_of_le hk hg1.size) (fun e => by cases e; omega)).trans (hg1.block k hk hne)⟩
  · have := hb1.set1 (.slice (some ⟨g, 0, none⟩) (M.length + 1) cap')
    rw [List.length_append]
    exact this
  · rw [List.length_append]
    exact gr.ownS_set h1 hb1
/-- 'f.N = x' -/
theorem MidD.setN {c : Nat} {w wr : World} {b : Nat} {n : Int} {M : List (List Int)} {Bs : List (Nat × Value × Value)} {hi : Nat} (h : MidD c w wr b n M Bs hi) (x : Int) : MidD c w (wr.setCell ⟨b, 0, none⟩ (.int .i64 x)) b x M Bs hi := by
  obtain ⟨hb, hc, hg, hcur, hh, hB, a, cap, bx, ho⟩ := h
  have gS := sl.grown_setCell wr b 0 (.int .i64 x)
  exact ⟨hb, hc, ⟨gS.os.trans hg.os, gS.tape.trans hg.tape, gS.output.trans hg.output, Nat.le_trans hg.size gS.size, fun k hk hne => (gS.block k (Nat.lt_of_lt_of_le hk hg.size) (fun e => by cases e; omega)).trans (hg.block k hk hne)⟩,
    hcur.kept gS (fun r e => by cases e; omega), by rw [cf.size_set]; exact hh, fun p hp => ⟨(hB p hp).1, (hB p hp).2.1, (hB p hp).2.2.setO (fun e => (hB p hp).1 e.symm)⟩, a, cap, bx.set0 _, gr.ownS_set ho bx⟩
/-- a drawn formula: n and the lists, in memory made since w, while the cursor turned -/
def Drawn (c : Nat) (w w' : World) (v : Value) (M : List (List Int)) : Prop := OwnS w.heap.size w'.heap.size w' v M ∧ w.grownBy w' (some c) ∧ Cur w' c

/-- what a right drawn clause is -/
def good (n : Int) (L : List Int) : Bool := decide (L.length ≤ 4) && L.all fun x => decide (x ≠ 0 ∧ -n ≤ x ∧ x ≤ n)
/-- .. a right one -/
def Right (c : Nat) (w w' : World) (most n : Int) (v : Value) (M : List (List Int)) : Prop := (1 ≤ n ∧ n ≤ most) ∧ (M.length : Int) ≤ 4 * n + 2 ∧ M.all (good n) = true ∧ Drawn c w w' v M
theorem new_some {a b d : World} {c r : Nat} (h : a.grownBy b (some c)) (k : b.grownBy d (some r)) (hr : a.heap.size ≤ r) : a.grownBy d (some c) :=
  ⟨k.os.trans h.os, k.tape.trans h.tape, k.output.trans h.output, Nat.le_trans h.size k.size, fun i hi hn => (k.block i (Nat.lt_of_lt_of_le hi h.size) (fun e => by cases e; omega)).trans (h.block i hi hn)⟩
theorem good_nil (n : Int) : good n [] = true := by simp [good]
theorem good_all {n : Int} {N : List Int} (hl : N.length ≤ 4) (h : N.all (fun x => decide (x ≠ 0 ∧ -n ≤ x ∧ x ≤ n)) = true) : good n N = true := by
  unfold good
  rw [h, decide_eq_true hl]
  rfl
theorem all_snoc {n : Int} {N : List Int} {y : Int} (h : N.all (fun x => decide (x ≠ 0 ∧ -n ≤ x ∧ x ≤ n)) = true) (hy : y ≠ 0 ∧ -n ≤ y ∧ y ≤ n) : (N ++ [y]).all (fun x => decide (x ≠ 0 ∧ -n ≤ x ∧ x ≤ n)) = true := by
  rw [List.all_append, h]
  simp [hy]
theorem allG_snoc {n : Int} {M : List (List Int)} {L : List Int} (h : M.all (good n) = true) (hy : good n L = true) : (M ++ [L]).all (good n) = true := by
  rw [List.all_append, h]
  simp [hy]
theorem midD_start {c : Nat} {w w1 : World} {n : Int} (hlt : c < w.heap.size) (hc1 : Cur w1 c) (g1 : (w.alloc (.cells #[.int .i64 0, .slice none 0 0] 26)).grownBy w1 (some c)) :
    MidD c w (w1.alloc (.cells #[.int .i64 n, .slice none 0 0] 26)) w1.heap.size n [] [(w.heap.size, .int .i64 0, .slice none 0 0)] (w1.heap.size + 1) := by
  have g0 := World.grownBy_alloc w (.cells #[.int .i64 0, .slice none 0 0] 26) (some c)
  have hb := (Box.new 26 w (.int .i64 0) (.slice none 0 0)).by g1 (fun e => by cases e; omega)
  have gA := World.grownBy_alloc w1 (.cells #[.int .i64 n, .slice none 0 0] 26)
  have hs := (grown_trans' g0 g1).size
  refine ⟨hs, hlt, grown_trans' (grown_trans' g0 g1) (gA _), hc1.kept (gA none) (fun r e => by cases e), by rw [World.size_alloc]; exact Nat.le_refl _, fun p hp => ?_, none, 0, Box.new _ _ _ _, ?_⟩
  · rw [List.mem_singleton] at hp
    subst hp
    exact ⟨fun e => by have := hb.lt; have e' : w.heap.size = w1.heap.size := e; omega, fun e => by have e' : w.heap.size = c := e; omega, hb.kept (gA none)⟩
  · exact ⟨[], rfl, World.ownsRow_nil _ _ _ _, fun k e => (by cases e), fun p hp => (by cases hp), .nil⟩

set_option maxRecDepth 100000 in
set_option maxHeartbeats 4000000 in
theorem cnf (c : Nat) (most : Int) (w : World) (hc : Cur w c) (m0 : 0 < most) (m1 : most ≤ 6) :
    Calls Tryd.prog 107 #[.pointer (some ⟨c, 0, none⟩), .int .i64 most] w fun e w' => ∃ (n : Int) (v : Value) (M : List (List Int)), e = .returned (.agg #[.int .i64 n, v]) ∧ Right c w w' most n v M := by
  have hlt := hc.lt
  have C0 := hide (hc.kept (World.grownBy_alloc w (.cells #[.int .i64 0, .slice none 0 0] 26) none) (fun r e => by cases e))
  clear hc
  go_enter Tryd.func107, Tryd.ntmps107
  go_wp2_with fail
  refine (draw.below c _ _ (unhide C0) m0 (by omega)).mono ?_; rintro e w1 ⟨x, rfl, x0, x1, hc1, g1⟩
  have M1 := hide (midD_start (n := 1 + x) hlt hc1 g1)
  have y0 := (unhide M1).c0
  clear hc1 g1 C0
  go_wp2_with fail
  refine (draw.below c _ _ (unhide M1).cur (by omega) (by omega)).mono ?_; rintro e w2 ⟨k, rfl, k0, k1, hc2, g2⟩
  obtain ⟨K, rfl⟩ := Int.eq_ofNat_of_zero_le k0
  have M2 := hide (((unhide M1).turn g2 hc2))
  have hw1 := (unhide M1).2.2.2.2.1
  clear hc2 g2 M1 y0 k0
  generalize hb : w1.heap.size = b at *
  clear hb
  go_wp2_with fail
  go_loopg [7] K (fun gk i wr => ∃ (M : List (List Int)), M.length ≤ K ∧ gk = K - M.length ∧ i = .int .i64 M.length ∧ Hid (M.all (good (1 + x)) = true) ∧ Hid (∃ hi, MidD c w wr b (1 + x) M [(w.heap.size, .int .i64 0, .slice none 0 0)] hi))
  case atStart => exact ⟨[], Nat.zero_le _, rfl, rfl, rfl, _, unhide M2⟩
  case round =>
    obtain ⟨M, hj, hgk, rfl, hgood, hmid⟩ := hrel
    clear M2
    obtain ⟨hi0, hm0⟩ := unhide hmid
    have HM := hide hm0
    clear hmid hm0
    by_cases hlt' : M.length < K
    · have hij : (M.length : Int) < (K : Int) := by omega
      have ST := hide (MadeC.start c wr (unhide HM).cur)
      have hcw : c < wr.heap.size := Nat.lt_of_lt_of_le hlt (unhide HM).grown.size
      go_wp2_with fail
      refine (draw.below c _ _ (unhide ST).2.2 (by decide) (by decide)).mono ?_; rintro e w3 ⟨q, rfl, q0, q1, hc3, g3⟩
      have S3 := hide ((unhide ST).turn hcw g3 hc3)
      clear hc3 g3 ST
      go_wp2_with fail
      refine (draw.once c _ _ (unhide S3).2.2 (by decide) (by decide)).mono ?_; rintro e w4 ⟨bt, rfl, hc4, g4⟩
      have S4 := hide ((unhide S3).turn hcw g4 hc4)
      clear hc4 g4 S3
      go_upto_if 33 with fail
      go_cut [9] from 23 to 66 (fun z wx => ∃ sz : Int, z = .int .i64 sz ∧ 0 ≤ sz ∧ sz ≤ 4 ∧ Hid (MadeC c wr wx (.slice (some ⟨wr.heap.size, 0, none⟩) 0 0) []))
      case first =>
        cases bt
        · go_wp2_with fail
          go_meet
          exact ⟨_, rfl, by omega, by omega, S4⟩
        · go_wp2_with fail
          refine (draw.below c _ _ (unhide S4).2.2 (by decide) (by decide)).mono ?_; rintro e w5 ⟨q', rfl, q0', q1', hc5, g5⟩
          have S5 := hide ((unhide S4).turn hcw g5 hc5)
          clear hc5 g5
          go_wp2_with fail
          go_meet
          exact ⟨_, rfl, by omega, by omega, S5⟩
      case rest =>
        obtain ⟨sz, rfl, sz0, sz1, hS⟩ := hcut
        clear S4 q0 q1
        go_upto_region 10 with fail
        go_cut [42] from 23 to 66 (fun z wx => ∃ bt : Bool, z = .bool bt ∧ Hid (MadeC c wr wx (.slice (some ⟨wr.heap.size, 0, none⟩) 0 0) []))
        case first =>
          by_cases h2 : sz < 2
          · have OC := hide (draw.once c 3 _ (unhide hS).2.2 (by decide) (by decide))
            go_wp2_with (go_at_call 98; refine (unhide OC).mono ?_; rintro e w5 ⟨bu, rfl, hc5, g5⟩; have S5 := hide ((unhide hS).turn hcw g5 hc5); clear hc5 g5)
            go_meet
            exact ⟨_, rfl, S5⟩
          · go_wp2_with fail
            go_meet
            exact ⟨_, rfl, hS⟩
        case rest =>
          obtain ⟨bv, rfl, hS2⟩ := hcut
          rename_i wc'
          clear hS
          go_upto_if 42 with fail
          go_cut [9] from 23 to 66 (fun z wx => ∃ sz : Nat, z = .int .i64 sz ∧ sz ≤ 4 ∧ Hid (MadeC c wr wx (.slice (some ⟨wr.heap.size, 0, none⟩) 0 0) []))
          case first =>
            cases bv
            · go_wp2_with fail
              go_meet
              exact ⟨sz.toNat, by rw [Int.toNat_of_nonneg sz0], by omega, hS2⟩
            · go_wp2_with fail
              go_meet
              exact ⟨2, rfl, by omega, hS2⟩
          case rest =>
            obtain ⟨Z, rfl, hZ, hS3⟩ := hcut
            clear hS2 sz0 sz1
            go_wp2_with fail
            go_loopg [8, 10] Z (fun gd u d wq => ∃ (N : List Int), N.length ≤ Z ∧ gd = Z - N.length ∧ d = .int .i64 N.length ∧ Hid (N.all (fun x_1 => decide (x_1 ≠ 0 ∧ -(1 + x) ≤ x_1 ∧ x_1 ≤ 1 + x)) = true) ∧ Hid (MadeC c wr wq u N))
            case atStart => exact ⟨[], Nat.zero_le _, rfl, rfl, rfl, hS3⟩
            case round =>
              obtain ⟨N, he, hgd, rfl, hall, hS4⟩ := hrel
              clear hS3
              by_cases hlz : N.length < Z
              · have hiz : (N.length : Int) < (Z : Int) := by omega
                have y0 := ((unhide HM).turn (unhide hS4).2.1 (unhide hS4).2.2).c0
                have CB := hide (draw.below c (1 + x) _ (unhide hS4).2.2 (by omega) (by omega))
                go_wp2_with fail
                refine (unhide CB).mono ?_; rintro e' w6 ⟨q, rfl, q0, q1, hc6, g6⟩
                have S6 := hide ((unhide hS4).turn hcw g6 hc6)
                clear hc6 g6 CB hS4 y0
                go_wp2_with fail
                refine (draw.once c _ _ (unhide S6).2.2 (by decide) (by decide)).mono ?_; rintro e' w7 ⟨bw, rfl, hc7, g7⟩
                have S7 := hide ((unhide S6).turn hcw g7 hc7)
                clear hc7 g7 S6
                cases bw
                · have HA := hide (all_snoc (y := 1 + q) (unhide hall) (by omega))
                  clear hall
                  go_wp2_with (at_builtin; refine appendC (unhide S7) hcw (by omega) rfl _ _ rfl rfl rfl ?_)
                  intro v' w8 R
                  have S8 := hide R
                  clear R S7
                  go_wp2
                  go_roundg (Z - (N.length + 1))
                  case measure => omega
                  case rel => exact ⟨_, by rw [List.length_append]; simp; omega, by rw [List.length_append]; rfl, by rw [List.length_append]; go_num, HA, S8⟩
                · have HA := hide (all_snoc (y := -(1 + q)) (unhide hall) (by omega))
                  clear hall
                  go_wp2_with (at_builtin; refine appendC (unhide S7) hcw (by omega) rfl _ _ rfl rfl rfl ?_)
                  intro v' w8 R
                  have S8 := hide R
                  clear R S7
                  go_wp2
                  go_roundg (Z - (N.length + 1))
                  case measure => omega
                  case rel => exact ⟨_, by rw [List.length_append]; simp; omega, by rw [List.length_append]; rfl, by rw [List.length_append]; go_num, HA, S8⟩
              · have hiz : ¬ (N.length : Int) < (Z : Int) := by omega
                have GN := hide (good_all (n := 1 + x) (N := N) (by omega) (unhide hall))
                have G2 := hide (allG_snoc (unhide hgood) (unhide GN))
                obtain ⟨ua, uc, hue⟩ := (unhide hS4).form
                subst hue
                obtain ⟨qb, qc, qg, qcur, qh, qB, oa, ocap, bx, ho⟩ := (unhide HM).turn (unhide hS4).2.1 (unhide hS4).2.2
                have ou := hide (sl.Own.of (unhide hS4).1)
                have ho' := hide (ho.sub (Nat.le_refl _) (unhide HM).2.2.2.2.1)
                have HS := hide (fun (g' cap' : Nat) (w1 : World) h1 g1 => MidD.step (u := .slice ua N.length uc) (L := N) (g := g') (cap' := cap') (w1 := w1) qb qc qg qcur qB bx (unhide ho') h1 g1)
                have hlo : w.heap.size ≤ _ := (unhide HM).grown.size
                have hmd := (unhide hS4).2.1.size
                have b0 := bx.c0
                have b1 := bx.c1
                have HL := hide hlo
                have HMD := hide hmd
                clear hlo hmd qg qcur qB ho bx HM hall GN hS4
                go_wp2_with (at_builtin; refine gr.appendR (unhide ho') (unhide ou) (unhide HL) (unhide HMD) (by omega) rfl _ _ rfl rfl rfl ?_)
                intro g' cap' w9 h1 g1
                obtain ⟨⟨s1, s2⟩, m9⟩ := unhide HS g' cap' w9 h1 g1
                have M9 := hide m9
                clear h1 g1 m9 HS ho' ou
                go_wp2
                go_roundg (K - (M.length + 1))
                case measure => omega
                case rel => exact ⟨_, by rw [List.length_append]; simp; omega, by rw [List.length_append]; rfl, by rw [List.length_append]; go_num, G2, _, unhide M9⟩
    · have hij : ¬ (M.length : Int) < (K : Int) := by omega
      obtain ⟨qb, qc, qg, qcur, qh, qB, oa, ocap, bx, ho⟩ := unhide HM
      have br := (qB _ (List.mem_singleton.2 rfl)).2.2
      have hbr := (qB _ (List.mem_singleton.2 rfl)).1
      have o0 := bx.c0
      have o1 := bx.c1
      have rc0 := br.c0
      have rc1 := br.c1
      have rf0 := br.f 0
      have rf1 := br.f 1
      have BR := hide br
      have OO := hide ho
      have QG := hide qg
      have QC := hide qcur
      clear qg qcur qB bx ho HM br
      go_wp2
      have bb := ((unhide BR).set0 (.int .i64 (1 + x))).set1 (.slice oa M.length ocap)
      have b1 := (unhide BR).set0 (.int .i64 (1 + x))
      have rg : w.heap.size < wr.heap.size := (unhide BR).lt
      (try simp only [Exit.inBlock, Exit.then])
      refine bodyPost_ret (cf.ret_box rfl rfl bb) rfl ⟨_, _, rfl, M, ⟨by omega, by omega⟩, by omega, unhide hgood, ?_, ?_, ?_⟩
      · have := gr.ownS_set (i := 1) (u := .slice oa M.length ocap) (gr.ownS_set (i := 0) (u := .int .i64 (1 + x)) (unhide OO) (unhide BR)) b1
        exact this.sub (Nat.le_refl _) (by rw [cf.size_set, cf.size_set]; exact qh)
      · have g1 := sl.grown_setCell wr w.heap.size 0 (.int .i64 (1 + x))
        have g2 := sl.grown_setCell (wr.setCell ⟨w.heap.size, 0, none⟩ (.int .i64 (1 + x))) w.heap.size 1 (.slice oa M.length ocap)
        exact new_some (new_some (unhide QG) g1 (Nat.le_refl _)) g2 (Nat.le_refl _)
      · have g1 := sl.grown_setCell wr w.heap.size 0 (.int .i64 (1 + x))
        have g2 := sl.grown_setCell (wr.setCell ⟨w.heap.size, 0, none⟩ (.int .i64 (1 + x))) w.heap.size 1 (.slice oa M.length ocap)
        exact ((unhide QC).kept g1 (fun r e => by cases e; exact hlt)).kept g2 (fun r e => by cases e; exact hlt)
end Go.Proofs.YtibpnocpafppaaaDoor.dcn
