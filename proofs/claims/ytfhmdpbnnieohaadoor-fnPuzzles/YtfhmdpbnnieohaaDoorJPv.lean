/- Lists of pairs of numbers in memory, as the walks here speak of them, and what the small helpers on them (a size, a copy, an equality, marks) do; no condition but on sizes. -/
import Derived.Test.YtfhmdpbnnieohaaDoorJPn
import Derived.OpenShut
import Derived.Deep.DeepCutAuto
import Derived.Deep.Slices
import Derived.ChangeSlices
import Derived.Deep.RegionHeld3
import Derived.BigQuiet
import Derived.Test.YtfhmdpbnnieohaaDoorJXTx
namespace Go.Proofs.YtfhmdpbnnieohaaDoor.ed
open Go.ChangeShapes Go.WideShapes Go.ChangeAt Go.RowKit
open sl (hide unhide ret_int ret_bool grown_refl grown_trans grown_drewN below_of of_below)
open css (Outs outs_by own_mono own_kind)
open cf (Box)
set_option linter.unusedVariables false
def cellsE (f : Nat → Int) (n : Nat) : List Value := (List.range (n * 2)).map fun m => .int .i64 (f m)
theorem cellsE_at {f : Nat → Int} {n m : Nat} (h : m < n * 2) : (cellsE f n)[m]? = some (.int .i64 (f m)) := by simp [cellsE, h]
theorem cellsE_same {f g : Nat → Int} {n : Nat} (h : ∀ m, m < n * 2 → f m = g m) : cellsE f n = cellsE g n := by
 unfold cellsE
 apply List.map_congr_left
 intro m hm
 rw [List.mem_range] at hm
 rw [h m hm]
def Eds (w : World) (v : Value) (n : Nat) (f : Nat → Int) : Prop :=
 ∃ a cap, v = .slice a n cap ∧ (n = 0 ∨ ∃ b off, a = some ⟨b, off, none⟩ ∧ b < w.heap.size ∧ ∀ m, m < n * 2 → w.cell? ⟨b, off + m, none⟩ = some (.int .i64 (f m)))
theorem Eds.kept {w w' : World} {v : Value} {n : Nat} {f : Nat → Int} (h : Eds w v n f) (g : w.grownBy w' none) : Eds w' v n f := by
 obtain ⟨a, cap, rfl, h⟩ := h
 refine ⟨a, cap, rfl, ?_⟩
 rcases h with h | ⟨b, off, rfl, hb, hc⟩
 ·exact .inl h
 ·exact .inr ⟨b, off, rfl, Nat.lt_of_lt_of_le hb g.size, fun i hi => g.cell (hc i hi) (fun e => by cases e)⟩
theorem Eds.len {w : World} {v : Value} {n : Nat} {f : Nat → Int} (h : Eds w v n f) : ∃ a cap, v = .slice a n cap := by
 obtain ⟨a, cap, e, _⟩ := h
 exact ⟨a, cap, e⟩
def OwnE (lo hi : Nat) (w : World) (v : Value) (n : Nat) (f : Nat → Int) : Prop := w.ownsRow lo 41 2 v n (cellsE f n) ∧ ∀ k, v.ownBlock = some k → k < hi
theorem OwnE.eds {lo hi : Nat} {w : World} {v : Value} {n : Nat} {f : Nat → Int} (h : OwnE lo hi w v n f) : Eds w v n f := by
 obtain ⟨ho, _⟩ := h
 have ho' := ho
 obtain ⟨_, h2⟩ := ho
 rcases h2 with ⟨rfl, h0⟩ | ⟨g, cap, cur, rfl, hg, hh, _⟩
 ·subst h0
  exact ⟨none, 0, rfl, .inl rfl⟩
 ·refine ⟨some ⟨g, 0, none⟩, cap, rfl, .inr ⟨g, 0, rfl, (Array.getElem?_eq_some_iff.1 hh).1, fun m hm => ?_⟩⟩
  rw [Nat.zero_add, ho'.cellAt _ (by omega)]
  exact cellsE_at hm
theorem OwnE.len {lo hi : Nat} {w : World} {v : Value} {n : Nat} {f : Nat → Int} (h : OwnE lo hi w v n f) : ∃ a cap, v = .slice a n cap := h.eds.len
theorem infoE : (Tryd.prog.info? 41).map (fun i => (i.zero, i.size, i.bytes)) = some (some (.agg #[.int .i64 0, .int .i64 0]), 2, 16) := by kernel_rfl
theorem new2 (w : World) (x y : Value) : Box 41 (w.alloc (.cells #[x, y] 41)) w.heap.size x y := Box.new 41 w x y
end Go.Proofs.YtfhmdpbnnieohaaDoor.ed
namespace Go.Proofs.YtfhmdpbnnieohaaDoor.t2
open Go.ChangeShapes Go.WideShapes Go.ChangeAt Go.RowKit
open lits (okB okB_iff)
open sl (Sl Own ints hide unhide ret_int ret_bool grown_refl grown_trans grown_drewN)
open css (Sls OwnS tot Apart own_ne own_ne' own_kind own_mono)
open cf (Box)
open wo (Made)
open ed (Eds)
set_option linter.unusedVariables false
def vertC (k i : Nat) : List (List Int) := leastC (rowL i k) 1 ++ mostC (rowL i k) 1
def vertsT (k i : Nat) : List (List Int) := (List.range i).flatMap (vertC k)
theorem vertsT_step (k i : Nat) : vertsT k (i + 1) = vertsT k i ++ vertC k i := by
 unfold vertsT
 rw [List.range_succ, List.flatMap_append]
 simp
def edgeC (k : Nat) (a b : Int) (c : Nat) : List (List Int) := (List.range c).map fun (j : Nat) => [-((a - 1) * (k : Int) + ((j : Int) + 1)), -((b - 1) * (k : Int) + ((j : Int) + 1))]
theorem edgeC_step (k : Nat) (a b : Int) (c : Nat) : edgeC k a b (c + 1) = edgeC k a b c ++ [[-((a - 1) * (k : Int) + ((c : Int) + 1)), -((b - 1) * (k : Int) + ((c : Int) + 1))]] := by
 unfold edgeC
 rw [List.range_succ, List.map_append]
 rfl
theorem pair_most (x y : Int) : mostC [x, y] 1 = [[-x, -y]] := by
 rfl
def edgesT (k : Nat) (f : Nat → Int) (j : Nat) : List (List Int) := (List.range j).flatMap fun i => edgeC k (f (i * 2)) (f (i * 2 + 1)) k
theorem edgesT_step (k : Nat) (f : Nat → Int) (j : Nat) : edgesT k f (j + 1) = edgesT k f j ++ edgeC k (f (j * 2)) (f (j * 2 + 1)) k := by
 unfold edgesT
 rw [List.range_succ, List.flatMap_append]
 simp
def colC (n k E : Nat) (f : Nat → Int) : List (List Int) := vertsT k n ++ edgesT k f E
def edB (n : Nat) (a b : Int) : Bool := decide (1 ≤ a ∧ a ≤ (n : Int) ∧ 1 ≤ b ∧ b ≤ (n : Int) ∧ a ≠ b)
def edsB (n : Nat) (f : Nat → Int) (j : Nat) : Bool := (List.range j).all fun i => edB n (f (i * 2)) (f (i * 2 + 1))
theorem edsB_step (n : Nat) (f : Nat → Int) (j : Nat) : edsB n f (j + 1) = (edsB n f j && edB n (f (j * 2)) (f (j * 2 + 1))) := by
 unfold edsB
 rw [List.range_succ, List.all_append]
 simp
theorem edsB_no {n : Nat} {f : Nat → Int} {j E : Nat} (hj : j < E) (h : edB n (f (j * 2)) (f (j * 2 + 1)) = false) : edsB n f E = false := by
 unfold edsB
 rw [List.all_eq_false]
 exact ⟨j, List.mem_range.2 hj, by rw [h]; decide⟩
theorem edsB_at {n : Nat} {f : Nat → Int} {j E : Nat} (hj : j < E) (h : edsB n f E = true) : edB n (f (j * 2)) (f (j * 2 + 1)) = true := by
 unfold edsB at h
 rw [List.all_eq_true] at h
 exact h j (List.mem_range.2 hj)
set_option maxRecDepth 10000 in
set_option maxHeartbeats 4000000 in
theorem edgesOf (n E : Nat) (f : Nat → Int) (v : Value) (w : World) (hn : n ≤ 100) (hE : E ≤ 9223372036854775807) (hv : Eds w v E f) :
  Calls Tryd.prog 30 #[v, .int .i64 (n : Int)] w fun e w' => e = .returned (.bool (decide (E ≤ 120) && edsB n f E)) ∧ w.grownBy w' none := by
 obtain ⟨a, cap, rfl, ha⟩ := hv
 by_cases h120 : E ≤ 120
 ·rw [decide_eq_true h120, Bool.true_and]
  have h120' : ¬ 120 < (E : Int) := by omega
  have HA := hide ha
  clear ha hE
  go_enter Tryd.func30, Tryd.ntmps30
  go_wp2_with fail
  go_loopw [12] (fun i wr => ∃ k : Nat, k ≤ E ∧ i = .int .i64 k ∧ Hid (w.grownBy wr none) ∧ Hid (edsB n f k = true)) (fun i _ => E - (intOf i).toNat)
  case atStart => exact ⟨0, Nat.zero_le _, rfl, grown_refl _, rfl⟩
  case round =>
   obtain ⟨k, hk, rfl, hg, he⟩ := hrel
   by_cases hlt : k < E
   ·have hi' : (k : Int) < (E : Int) := by omega
    rcases unhide HA with h | ⟨b, off, rfl, hb, hcb⟩
    ·omega
    ·have c0 := (unhide hg).cell (hcb (k * 2) (by omega)) (fun e => by cases e)
     have c1 : wr.cell? ⟨b, off + k * 2 + 1, none⟩ = some (.int .i64 (f (k * 2 + 1))) := (unhide hg).cell (hcb (k * 2 + 1) (by omega)) (fun e => by cases e)
     have st := edsB_step n f k
     rw [unhide he, Bool.true_and] at st
     have ST := hide st
     have NO := hide (fun h => edsB_no (n := n) (f := f) hlt h)
     clear hcb HA st he
     generalize f (k * 2) = x at *
     generalize f (k * 2 + 1) = y at *
     have G := hide (grown_trans (r := none) (unhide hg) (World.grownBy_alloc wr (.cells #[.int .i64 x, .int .i64 y] 41) none))
     by_cases e1 : edB n x y = true
     ·have ST2 : Hid (edsB n f (k + 1) = true) := by show _ = _; rw [unhide ST, e1]
      unfold edB at e1
      obtain ⟨p1, p2, p3, p4, p5⟩ := of_decide_eq_true e1
      clear NO e1 ST hg
      have q1 : ¬ x < 1 := by omega
      have q2 : ¬ y < 1 := by omega
      have q3 : ¬ (n : Int) < x := by omega
      have q4 : ¬ (n : Int) < y := by omega
      have q5 : (x == y) = false := by simp [p5]
      go_wp2_with fail
      all_goals
       go_roundw
       case rel => exact ⟨k + 1, by omega, by go_num, G, ST2⟩
       case measure => simp [intOf]; omega
     ·have e2 : edB n x y = false := by cases h : edB n x y; rfl; exact absurd h e1
      have R := hide (unhide NO e2)
      have cs : x < 1 ∨ (¬ x < 1 ∧ y < 1) ∨ (¬ x < 1 ∧ ¬ y < 1 ∧ (n : Int) < x) ∨ (¬ x < 1 ∧ ¬ y < 1 ∧ ¬ (n : Int) < x ∧ (n : Int) < y) ∨ (¬ x < 1 ∧ ¬ y < 1 ∧ ¬ (n : Int) < x ∧ ¬ (n : Int) < y ∧ x = y) := by
       unfold edB at e2
       have := of_decide_eq_false e2
       omega
      clear NO e1 e2 ST hg
      rcases cs with h1 | ⟨h1, h2⟩ | ⟨h1, h2, h3⟩ | ⟨h1, h2, h3, h4⟩ | ⟨h1, h2, h3, h4, rfl⟩
      all_goals
       go_wp2_with fail
       all_goals
        go_ret
        exact ⟨ret_bool (unhide R).symm, unhide G⟩
   ·have hi' : ¬ (k : Int) < (E : Int) := by omega
    have e : k = E := by omega
    subst e
    clear HA
    go_wp2_with fail
    go_ret
    exact ⟨ret_bool (unhide he).symm, unhide hg⟩
 ·rw [decide_eq_false h120, Bool.false_and]
  have h120' : 120 < (E : Int) := by omega
  clear ha
  go_enter Tryd.func30, Tryd.ntmps30
  go_wp2_with fail
  go_ret
  exact ⟨rfl, grown_refl _⟩
end Go.Proofs.YtfhmdpbnnieohaaDoor.t2
namespace Go.Proofs.YtfhmdpbnnieohaaDoor.t2
open Go.ChangeShapes Go.WideShapes Go.ChangeAt Go.RowKit
open lits (okB okB_iff)
open sl (Sl Own ints hide unhide ret_int ret_bool grown_refl grown_trans grown_drewN)
open css (Sls OwnS tot Apart own_ne own_ne' own_kind own_mono)
open cf (Box)
open wo (Made)
open ed (Eds)
set_option linter.unusedVariables false
theorem row_ok {n k i : Nat} (hi : i < n) (hk : n * k ≤ 24) : ∀ y ∈ rowL i k, okB y = true := by
 intro y h
 unfold rowL at h
 rw [List.mem_map] at h
 obtain ⟨j, hj, rfl⟩ := h
 rw [List.mem_range] at hj
 have h1 := Nat.mul_le_mul (show i + 1 ≤ n by omega) (Nat.le_refl k)
 rw [Nat.add_mul, Nat.one_mul] at h1
 exact okB_iff.2 ⟨by omega, by omega, by omega⟩
theorem end_bd {n k c : Nat} {a : Int} (h0 : 1 ≤ a) (h1 : a ≤ (n : Int)) (hc : c < k) (hk : n * k ≤ 24) : 1 ≤ (a - 1) * (k : Int) + ((c : Int) + 1) ∧ (a - 1) * (k : Int) + ((c : Int) + 1) ≤ 24 ∧ 0 ≤ (a - 1) * (k : Int) ∧ (a - 1) * (k : Int) ≤ 24 := by
 obtain ⟨m, hm⟩ := Int.eq_ofNat_of_zero_le (show 0 ≤ a - 1 by omega)
 have h2 := Nat.mul_le_mul (show m + 1 ≤ n by omega) (Nat.le_refl k)
 rw [Nat.add_mul, Nat.one_mul] at h2
 rw [hm]
 have e : (m : Int) * (k : Int) = ((m * k : Nat) : Int) := by rw [Int.natCast_mul]
 rw [e]
 omega
theorem end_ok {n k c : Nat} {a : Int} (h0 : 1 ≤ a) (h1 : a ≤ (n : Int)) (hc : c < k) (hk : n * k ≤ 24) : okB ((a - 1) * (k : Int) + ((c : Int) + 1)) = true := by
 have := end_bd h0 h1 hc hk
 exact okB_iff.2 ⟨by omega, by omega, by omega⟩
theorem edB_iff {n : Nat} {a b : Int} : edB n a b = true ↔ (1 ≤ a ∧ a ≤ (n : Int)) ∧ (1 ≤ b ∧ b ≤ (n : Int)) ∧ a ≠ b := by
 unfold edB
 rw [decide_eq_true_eq]
 constructor
 ·rintro ⟨h1, h2, h3, h4, h5⟩
  exact ⟨⟨h1, h2⟩, ⟨h3, h4⟩, h5⟩
 ·rintro ⟨⟨h1, h2⟩, ⟨h3, h4⟩, h5⟩
  exact ⟨h1, h2, h3, h4, h5⟩
theorem AndI.old {W0 W1 wr w : World} {p b off m : Nat} {x : Value} {r : Bool} {CC P : List (List Int)} (h : AndI W0 p (.slice none 0 0) W1 r CC P wr) (g : w.grownBy W1 none) (hp : w.heap.size ≤ p) (hb : b < w.heap.size) (hc : w.cell? ⟨b, off + m, none⟩ = some x) : wr.cell? ⟨b, off + m, none⟩ = some x := by
 obtain ⟨v', _, f⟩ := h
 have e1 := g.block b hb (fun e => by cases e)
 have e2 := f.block b (Nat.lt_of_lt_of_le hb g.size) (by omega) (by simp [Value.ownBlock])
 unfold World.cell? at *
 rw [e2, e1]
 exact hc
theorem AndI.up {W0 W1 wr w2 : World} {p : Nat} {v : Value} {r : Bool} {CC P : List (List Int)} (h : AndI W0 p v W1 r CC P wr) (g : wr.grownBy w2 none) : AndI W0 p v W1 r CC P w2 := by
 obtain ⟨v', b, f⟩ := h
 exact ⟨v', b.kept g, f.more g⟩
theorem same_box {w wm w' : World} {p c : Nat} {v v' x y : Value} (h : Box 41 w c x y) (f : Fr p v v' wm w') (g : w.grownBy wm none) (hp : p < c) (hv : v.ownBlock ≠ some c) : Box 41 w' c x y := by
 have h2 := h.kept g
 have e := f.block c h2.lt (by omega) hv
 unfold Box at *
 rw [e]
 exact h2
set_option maxRecDepth 10000 in
set_option maxHeartbeats 16000000 in
theorem implColor (n k E : Nat) (f : Nat → Int) (v : Value) (w : World) (hn0 : 1 ≤ n) (hn : n ≤ 12) (hk0 : 1 ≤ k) (hk : k ≤ 6) (hnk : n * k ≤ 24) (hE : E ≤ 120) (hv : Eds w v E f) (hed : edsB n f E = true) :
  Calls Tryd.prog 11 #[.int .i64 (n : Int), v, .int .i64 (k : Int)] w fun e w' => CnfE w (decide ((colC n k E f).length ≤ 120)) ((n : Int) * k) (colC n k E f) e w' := by
 have gR := World.grownBy_alloc w (.cells #[.int .i64 0, .slice none 0 0] 27) none
 have bR := Box.new 27 w (.int .i64 0) (.slice none 0 0)
 obtain ⟨W0, hW0⟩ : ∃ W0, W0 = w.alloc (.cells #[.int .i64 0, .slice none 0 0] 27) := ⟨_, rfl⟩
 have hs0 : W0.heap.size = w.heap.size + 1 := by rw [hW0, World.size_alloc]
 rw [← hW0] at gR bR
 have ED := edgesOf n E f v W0 (by omega) (by omega) (hv.kept gR)
 rw [decide_eq_true hE, hed, Bool.true_and] at ED
 have EDH := hide ED
 clear ED
 obtain ⟨a, cap, rfl, ha⟩ := hv
 have HA := hide ha
 have HW0 := hide hW0
 have GR := hide gR
 have BR := hide bR
 have HED := hide hed
 have HS := hide hs0
 have hmul : (n : Int) * (k : Int) = ((n * k : Nat) : Int) := by rw [Int.natCast_mul]
 have NN := hide hmul
 have HNK := hide hnk
 have i1 : ¬ (n : Int) < 1 := by omega
 have i2 : ¬ (12 : Int) < (n : Int) := by omega
 have i3 : ¬ (k : Int) < 1 := by omega
 have i4 : ¬ (6 : Int) < (k : Int) := by omega
 clear ha gR bR hed hs0
 obtain ⟨mm, hmm⟩ : ∃ mm, mm = n * k := ⟨_, rfl⟩
 rw [← hmm] at hmul NN HNK hnk
 have HMM := hide hmm
 have i5 : ¬ (24 : Int) < (mm : Int) := by omega
 clear hmm
 go_enter Tryd.func11, Tryd.ntmps11
 go_wp2_with fail
 rw [← hW0]
 refine (unhide EDH).mono ?_; rintro e w1 ⟨rfl, g1⟩
 have gR1 := hide (grown_trans (r := none) (unhide GR) g1)
 have BR1 := hide ((unhide BR).kept g1)
 have GW := hide g1
 have hb := Bld.new w1
 obtain ⟨W1, hW1⟩ : ∃ W1, W1 = w1.alloc (.cells #[.slice none 0 0, .bool false] 44) := ⟨_, rfl⟩
 have gB := hide (hW1 ▸ World.grownBy_alloc w1 (.cells #[.slice none 0 0, .bool false] 44) none : w1.grownBy W1 none)
 rw [← hW1] at hb
 have SP := hide g1.size
 have ST : Hid (AndI w1 w1.heap.size (.slice none 0 0) W1 false [] (vertsT k 0) W1) := ⟨_, hb, Fr.refl ..⟩
 clear hb g1 EDH hW0 hmul hnk
 go_wp2_with fail
 rw [← hW1]
 have E1 := hide hW1
 clear hW1
 go_loopw [9] (fun j wr => ∃ i : Nat, i ≤ n ∧ j = .int .i64 ((i : Int) + 1) ∧ Hid (AndI w1 w1.heap.size (.slice none 0 0) W1 false [] (vertsT k i) wr)) (fun j _ => n + 1 - (intOf j).toNat)
 case atStart => exact ⟨0, Nat.zero_le _, rfl, ST⟩
 case round =>
  obtain ⟨i, hi, rfl, hm⟩ := hrel
  clear ST
  by_cases hlt : i < n
  ·have hi' : (i : Int) + 1 ≤ (n : Int) := by omega
   have CH := hide (choicesOf i k wr (by omega) (by omega))
   have VS := vertsT_step k i
   have RO := row_ok (k := k) hlt (by rw [← unhide HMM]; exact unhide HNK)
   obtain ⟨v1, b1, f1⟩ := unhide hm
   have B1 := hide b1
   have F1 := hide f1
   have EY := hide (fun (wx : World) (q : Value) (mq : Made wr wx q (rowL i k)) => exactly w1.heap.size v1 q _ _ 1 (rowL i k) _ _ w1 wx (by rw [rowL_len]; omega) (by omega) (by omega) RO (adds_len (vertsT k i) false [] (by simp)) (b1.kept mq.2) (Own.of mq.1) (Nat.le_refl _))
   have VSH := hide VS
   clear b1 f1 hm
   clear VS RO
   go_wp2_with fail
   refine (unhide CH).mono ?_; rintro e w2 ⟨q, rfl, m2⟩
   have A1 := hide (unhide EY w2 q m2)
   have G2 := hide m2.2
   obtain ⟨qa, qc, rfl, _⟩ := (Own.of m2.1).sl
   clear m2 EY CH
   go_wp2_with fail
   refine (unhide A1).mono ?_; rintro e w3 ⟨rfl, v3, b3, f3⟩
   have R : Hid (AndI w1 w1.heap.size (.slice none 0 0) W1 false [] (vertsT k (i + 1)) w3) := AndI.more (unhide F1) (unhide VSH) b3 (Fr.up (unhide G2) f3 (v_lt (unhide B1)))
   clear b3 f3 A1 F1 B1 G2 VSH
   go_wp2_with fail
   go_roundw
   case rel => exact ⟨i + 1, by omega, by go_num, R⟩
   case measure => simp [intOf]; omega
  ·have hi' : ¬ (i : Int) + 1 ≤ (n : Int) := by omega
   have e : i = n := by omega
   subst e
   have ST2 : Hid (AndI w1 w1.heap.size (.slice none 0 0) W1 false [] (vertsT k i ++ edgesT k f 0) wr) := by
    show AndI w1 w1.heap.size (.slice none 0 0) W1 false [] (vertsT k i ++ []) wr
    rw [List.append_nil]
    exact unhide hm
   clear hm hlt hi
   go_wp2_with fail
   go_loopw [51] (fun j wr => ∃ t : Nat, t ≤ E ∧ j = .int .i64 (t : Int) ∧ Hid (AndI w1 w1.heap.size (.slice none 0 0) W1 false [] (vertsT k i ++ edgesT k f t) wr)) (fun j _ => E - (intOf j).toNat)
   case atStart => exact ⟨0, Nat.zero_le _, rfl, ST2⟩
   case round =>
    obtain ⟨t, ht, rfl, hm⟩ := hrel
    clear ST2
    by_cases hlt : t < E
    ·have hi' : (t : Int) < (E : Int) := by omega
     rcases unhide HA with h | ⟨b, off, rfl, hb, hcb⟩
     ·omega
     ·have gw1 := hide (grown_trans (r := none) (unhide gR1) (unhide gB))
      have c0 : wr.cell? ⟨b, off + t * 2, none⟩ = some (.int .i64 (f (t * 2))) := (unhide hm).old (unhide gw1) (unhide gR1).size hb (hcb (t * 2) (by omega))
      have c1 : wr.cell? ⟨b, off + t * 2 + 1, none⟩ = some (.int .i64 (f (t * 2 + 1))) := (unhide hm).old (unhide gw1) (unhide gR1).size hb (hcb (t * 2 + 1) (by omega))
      have es := edgesT_step k f t
      have ok := edB_iff.1 (edsB_at hlt (unhide HED))
      clear hcb
      generalize f (t * 2) = x at *
      generalize f (t * 2 + 1) = y at *
      have ES := hide es
      have OK := hide ok
      have MB := hide ((unhide hm).up (World.grownBy_alloc wr (.cells #[.int .i64 x, .int .i64 y] 41) none))
      have BX := ed.new2 wr (.int .i64 x) (.int .i64 y)
      obtain ⟨wb, hwb⟩ : ∃ wb, wb = wr.heap.size := ⟨_, rfl⟩
      rw [← hwb] at BX
      obtain ⟨W2, hW2⟩ : ∃ W2, W2 = wr.alloc (.cells #[.int .i64 x, .int .i64 y] 41) := ⟨_, rfl⟩
      rw [← hW2] at MB BX
      have LW : Hid (wb < W2.heap.size) := by show _ < _; rw [hW2, hwb, World.size_alloc]; omega
      have ST3 : Hid (AndI w1 w1.heap.size (.slice none 0 0) W1 false [] ((vertsT k i ++ edgesT k f t) ++ edgeC k x y 0) W2 ∧ Box 41 W2 wb (.int .i64 x) (.int .i64 y)) := by
       refine ⟨?_, BX⟩
       show AndI w1 w1.heap.size (.slice none 0 0) W1 false [] ((vertsT k i ++ edgesT k f t) ++ []) W2
       rw [List.append_nil]
       exact unhide MB
      have HWB := hide hwb
      have HW2 := hide hW2
      have LP : Hid (w1.heap.size < wb) := by
       obtain ⟨v0, b0, _⟩ := unhide hm
       show _ < _
       rw [hwb]
       exact b0.b.lt
      clear es ok hm MB BX hW2
      go_wp2_with fail
      rw [← unhide HW2, ← hwb]
      clear hwb
      generalize hPP : vertsT k i ++ edgesT k f t = PP at *
      have HPP := hide hPP
      clear hPP
      go_loopw [12] (fun j wx => ∃ c : Nat, c ≤ k ∧ j = .int .i64 ((c : Int) + 1) ∧ Hid (AndI w1 w1.heap.size (.slice none 0 0) W1 false [] (PP ++ edgeC k x y c) wx ∧ Box 41 wx wb (.int .i64 x) (.int .i64 y))) (fun j _ => k + 1 - (intOf j).toNat)
      case atStart => exact ⟨0, Nat.zero_le _, rfl, ST3⟩
      case round =>
       obtain ⟨c, hc, rfl, hm⟩ := hrel
       clear ST3
       by_cases hlt2 : c < k
       ·have hi2 : (c : Int) + 1 ≤ (k : Int) := by omega
        obtain ⟨v1, b1, f1⟩ := (unhide hm).1
        have bx := (unhide hm).2
        have x0 := bx.c0
        have x1 := bx.c1
        have hnk : i * k ≤ 24 := by rw [← unhide HMM]; exact unhide HNK
        have okx := end_ok (unhide OK).1.1 (unhide OK).1.2 hlt2 hnk
        have oky := end_ok (unhide OK).2.1.1 (unhide OK).2.1.2 hlt2 hnk
        have bdx := end_bd (unhide OK).1.1 (unhide OK).1.2 hlt2 hnk
        have bdy := end_bd (unhide OK).2.1.1 (unhide OK).2.1.2 hlt2 hnk
        have CA := hide (fun (z : Int) (hz : 1 ≤ z ∧ z ≤ (i : Int) ∧ 0 ≤ (z - 1) * (k : Int) ∧ (z - 1) * (k : Int) ≤ 24) (wq : World) => choiceAt z ((c : Int) + 1) k ((z - 1) * (k : Int)) rfl (by omega) (by omega) (by omega) wq)
        have CX := hide (show 1 ≤ x ∧ x ≤ (i : Int) ∧ 0 ≤ (x - 1) * (k : Int) ∧ (x - 1) * (k : Int) ≤ 24 from ⟨(unhide OK).1.1, (unhide OK).1.2, bdx.2.2⟩)
        have CY := hide (show 1 ≤ y ∧ y ≤ (i : Int) ∧ 0 ≤ (y - 1) * (k : Int) ∧ (y - 1) * (k : Int) ≤ 24 from ⟨(unhide OK).2.1.1, (unhide OK).2.1.2, bdy.2.2⟩)
        have EC := edgeC_step k x y c
        obtain ⟨X, hX⟩ : ∃ X, X = (x - 1) * (k : Int) + ((c : Int) + 1) := ⟨_, rfl⟩
        obtain ⟨Y, hY⟩ : ∃ Y, Y = (y - 1) * (k : Int) + ((c : Int) + 1) := ⟨_, rfl⟩
        rw [← hX, ← hY] at EC
        rw [← hX] at okx
        rw [← hY] at oky
        have gA := World.grownBy_alloc wr (.cells #[.int .i64 X, .int .i64 Y] 3) none
        have gD := grown_trans (r := none) gA (cf.grown_drew _ none)
        have hu := own_litN wr 2 [X, Y] #[.int .i64 X, .int .i64 Y] rfl rfl (by decide)
        have AM := hide (atMost w1.heap.size v1 _ _ _ 1 [X, Y] _ _ w1 (wr.alloc (.cells #[.int .i64 X, .int .i64 Y] 3)).drew (by simp) (by omega) (by intro z hz; rcases List.mem_cons.1 hz with rfl | hz; exact okx; rcases List.mem_singleton.1 hz with rfl; exact oky) (adds_len (PP ++ edgeC k x y c) false [] (by simp)) (b1.kept gD) (hu.kept (cf.grown_drew _ none)))
        have GD := hide gD
        have NB : Hid (v1.ownBlock ≠ some wb) := by
         obtain ⟨D, _, ho, _⟩ := b1.o
         exact box_ne ho (show (41 : Nat) ≠ 30 by decide) bx
        rw [pair_most] at AM
        clear gA gD hu
        have B1 := hide b1
        have F1 := hide f1
        have BX := hide bx
        have HX := hide hX
        have HY := hide hY
        have ECH := hide EC
        clear b1 f1 bx hm okx oky bdx bdy EC hX hY hnk
        go_wp2_with fail
        go_region_held3 (fun w' => w'.cell? ⟨wb, 0, none⟩ = some (.int .i64 x) ∧ w'.cell? ⟨wb, 1, none⟩ = some (.int .i64 y)) (go_keep) (first
         | (go_at_call 17; refine (unhide CA _ ?hz _).mono ?_; (case hz => first | exact unhide CX | exact unhide CY); rintro e w9 ⟨rfl, hw⟩; have hw' := hw.symm; clear hw; subst hw')
         | (go_at_call 18; rw [← unhide HX, ← unhide HY]; refine (unhide AM).mono ?_; rintro e w3 ⟨rfl, v3, b3, f3⟩; have bx3 := same_box (unhide BX) f3 (unhide GD) (unhide LP) (unhide NB); have y0 := bx3.c0; have y1 := bx3.c1))
        have R : Hid (AndI w1 w1.heap.size (.slice none 0 0) W1 false [] (PP ++ edgeC k x y (c + 1)) w3 ∧ Box 41 w3 wb (.int .i64 x) (.int .i64 y)) := ⟨AndI.more (unhide F1) (by rw [unhide ECH, List.append_assoc]) b3 (Fr.up (unhide GD) f3 (v_lt (unhide B1))), bx3⟩
        clear b3 f3 bx3 AM B1 F1 BX HX HY ECH CA CX CY
        go_wp2_with fail
        go_roundw
        case rel => exact ⟨c + 1, by omega, by go_num, R⟩
        case measure => simp [intOf]; omega
       ·have hi2 : ¬ (c : Int) + 1 ≤ (k : Int) := by omega
        have e : c = k := by omega
        subst e
        have R : Hid (AndI w1 w1.heap.size (.slice none 0 0) W1 false [] (vertsT c i ++ edgesT c f (t + 1)) wr) := by
         rw [unhide ES, ← List.append_assoc, unhide HPP]
         exact (unhide hm).1
        clear hm
        go_wp2_with fail
        go_roundw
        case rel => exact ⟨t + 1, by omega, by go_num, R⟩
        case measure => simp [intOf]; omega
    ·have hi' : ¬ (t : Int) < (E : Int) := by omega
     have e : t = E := by omega
     subst e
     obtain ⟨v1, b1, f1⟩ := unhide hm
     have hP : vertsT k i ++ edgesT k f t = colC i k t f := rfl
     rw [hP, adds_fine] at b1
     have FO := hide (formula _ v1 (!decide ((colC i k t f).length ≤ 120)) _ (mm : Int) w1 wr b1)
     have B1 := hide b1.g
     have AL := hide (fun (h : (colC i k t f).length ≤ 120) => adds_list h)
     clear b1 f1 hm hP
     have hmul : (i : Int) * (k : Int) = (mm : Int) := unhide NN
     have hnk : mm ≤ 24 := unhide HNK
     go_wp2_with fail
     clear hmul
     refine (unhide FO).mono ?_; rintro e w3 ⟨q, rfl, o3, g3⟩
     have o4 : OwnS w1.heap.size w3.heap.size w3 q (if decide ((colC i k t f).length ≤ 120) then colC i k t f else []) := by
      by_cases hl : (colC i k t f).length ≤ 120
      ·rw [decide_eq_true hl] at o3 ⊢
       rw [unhide AL hl] at o3
       exact o3
      ·rw [decide_eq_false hl] at o3 ⊢
       exact o3
     have hN : (if (!decide ((colC i k t f).length ≤ 120)) = true then 0 else (mm : Int)) = if decide ((colC i k t f).length ≤ 120) then (i : Int) * k else 0 := by
      rw [unhide NN]
      cases decide ((colC i k t f).length ≤ 120) <;> rfl
     have hB : (!!decide ((colC i k t f).length ≤ 120)) = decide ((colC i k t f).length ≤ 120) := by simp
     rw [hN, hB]
     obtain ⟨qa, qc, rfl⟩ := o4.len
     have GG := grown_trans (r := none) (unhide B1) g3
     have BX := (unhide BR1).kept GG
     have z0 := BX.c0
     have z1 := BX.c1
     have zf0 := BX.f 0
     have zf1 := BX.f 1
     have O3 := hide o4
     have G3 := hide GG
     have BXX := hide BX
     have S0 := hide (unhide gR1).size
     have LW : Hid (w.heap.size < w1.heap.size) := by
      have h := (unhide BR1).lt
      exact h
     clear o3 o4 g3 FO B1 GG BX AL hN hB
     generalize hbb : decide ((colC i k t f).length ≤ 120) = bb at *
     generalize hnn : (if bb = true then (i : Int) * k else 0) = nn at *
     have HNN := hide hnn
     have HBB := hide hbb
     generalize hRR : (if bb = true then colC i k t f else []) = R at *
     have HRR := hide hRR
     clear hRR hbb hnn
     go_wp2_with fail
     (try simp only [Exit.inBlock, Exit.then])
     refine bodyPost_ret (cf.ret_box2 rfl rfl (((unhide BXX).set0 _).set1 _)) rfl ?_
     have hs := unhide LW
     rw [unhide HBB]
     refine ⟨qa, qc, ?_, ?_, cf.grown_set (cf.grown_set (grown_trans (unhide gR1) (unhide G3)) (Nat.le_refl _)) (Nat.le_refl _)⟩
     ·rw [unhide HRR, unhide HNN]
      rfl
     ·rw [cf.size_set, cf.size_set, unhide HRR]
      exact (cf.ownS_set (cf.ownS_set (unhide O3) (.inl (by omega))) (.inl (by omega))).sub (by omega) (Nat.le_refl _)
def colX (n k : Int) : Bool := decide (n < 1 ∨ 12 < n ∨ k < 1 ∨ 6 < k ∨ 24 < n * k)
set_option maxHeartbeats 4000000 in
theorem implColorX (n k : Int) (E : Nat) (f : Nat → Int) (v : Value) (w : World) (C : List (List Int)) (h : colX n k = true) (hv : Eds w v E f) :
  Calls Tryd.prog 11 #[.int .i64 n, v, .int .i64 k] w fun e w' => CnfE w false (n * k) C e w' := by
 have bR := Box.new 27 w (.int .i64 0) (.slice none 0 0)
 have h := of_decide_eq_true h
 obtain ⟨a, cap, rfl, _⟩ := hv
 have cs : n < 1 ∨ (¬ n < 1 ∧ 12 < n) ∨ (¬ n < 1 ∧ ¬ 12 < n ∧ k < 1) ∨ (¬ n < 1 ∧ ¬ 12 < n ∧ ¬ k < 1 ∧ 6 < k) ∨ (¬ n < 1 ∧ ¬ 12 < n ∧ ¬ k < 1 ∧ ¬ 6 < k ∧ 24 < n * k) := by omega
 have hm : ¬ n < 1 → ¬ 12 < n → ¬ k < 1 → ¬ 6 < k → 0 ≤ n * k ∧ n * k ≤ 72 := by
  intro h1 h2 h3 h4
  obtain ⟨n', rfl⟩ := Int.eq_ofNat_of_zero_le (show 0 ≤ n by omega)
  obtain ⟨k', rfl⟩ := Int.eq_ofNat_of_zero_le (show 0 ≤ k by omega)
  have := Nat.mul_le_mul (show n' ≤ 12 by omega) (show k' ≤ 6 by omega)
  rw [← Int.natCast_mul]
  omega
 have BR := hide bR
 clear h bR
 rcases cs with h1 | ⟨h1, h2⟩ | ⟨h1, h2, h3⟩ | ⟨h1, h2, h3, h4⟩ | ⟨h1, h2, h3, h4, h5⟩
 ·clear hm
  go_enter Tryd.func11, Tryd.ntmps11
  go_wp2_with fail
  (try simp only [Exit.inBlock, Exit.then])
  exact bodyPost_ret (cf.ret_box2 rfl rfl (unhide BR)) rfl (cnf_no w)
 ·clear hm
  go_enter Tryd.func11, Tryd.ntmps11
  go_wp2_with fail
  (try simp only [Exit.inBlock, Exit.then])
  exact bodyPost_ret (cf.ret_box2 rfl rfl (unhide BR)) rfl (cnf_no w)
 ·clear hm
  go_enter Tryd.func11, Tryd.ntmps11
  go_wp2_with fail
  (try simp only [Exit.inBlock, Exit.then])
  exact bodyPost_ret (cf.ret_box2 rfl rfl (unhide BR)) rfl (cnf_no w)
 ·clear hm
  go_enter Tryd.func11, Tryd.ntmps11
  go_wp2_with fail
  (try simp only [Exit.inBlock, Exit.then])
  exact bodyPost_ret (cf.ret_box2 rfl rfl (unhide BR)) rfl (cnf_no w)
 ·obtain ⟨m0, m1⟩ := hm h1 h2 h3 h4
  generalize hz : n * k = z at *
  have hz' : n * k = z := hz
  have HZ := hide hz
  clear hm hz
  go_enter Tryd.func11, Tryd.ntmps11
  go_wp2_with fail
  (try simp only [Exit.inBlock, Exit.then])
  exact bodyPost_ret (cf.ret_box2 rfl rfl (unhide BR)) rfl (cnf_no w)
set_option maxHeartbeats 4000000 in
theorem implColorN (n k E : Nat) (f : Nat → Int) (v : Value) (w : World) (hn0 : 1 ≤ n) (hn : n ≤ 12) (hk0 : 1 ≤ k) (hk : k ≤ 6) (hnk : n * k ≤ 24) (hE : E ≤ 9223372036854775807) (hv : Eds w v E f) (N : Int) (C : List (List Int)) (h : (decide (E ≤ 120) && edsB n f E) = false) :
  Calls Tryd.prog 11 #[.int .i64 (n : Int), v, .int .i64 (k : Int)] w fun e w' => CnfE w false N C e w' := by
 have gR := World.grownBy_alloc w (.cells #[.int .i64 0, .slice none 0 0] 27) none
 have bR := Box.new 27 w (.int .i64 0) (.slice none 0 0)
 have ED := edgesOf n E f v _ (by omega) hE (hv.kept gR)
 rw [h] at ED
 have EDH := hide ED
 clear ED
 obtain ⟨a, cap, rfl, _⟩ := hv
 have hmul : (n : Int) * (k : Int) = ((n * k : Nat) : Int) := by rw [Int.natCast_mul]
 have i1 : ¬ (n : Int) < 1 := by omega
 have i2 : ¬ (12 : Int) < (n : Int) := by omega
 have i3 : ¬ (k : Int) < 1 := by omega
 have i4 : ¬ (6 : Int) < (k : Int) := by omega
 generalize n * k = mm at *
 have i5 : ¬ (24 : Int) < (mm : Int) := by omega
 have BR := hide bR
 have GR := hide gR
 clear gR bR
 go_enter Tryd.func11, Tryd.ntmps11
 go_wp2_with fail
 refine (unhide EDH).mono ?_; rintro e w1 ⟨rfl, g1⟩
 have BX := (unhide BR).kept g1
 have z0 := BX.c0
 have z1 := BX.c1
 have zf0 := BX.f 0
 have zf1 := BX.f 1
 have BXX := hide BX
 have GG := hide (grown_trans (r := none) (unhide GR) g1)
 clear BX g1 EDH
 go_wp2_with fail
 (try simp only [Exit.inBlock, Exit.then])
 refine bodyPost_ret (cf.ret_box2 rfl rfl (((unhide BXX).set0 _).set1 _)) rfl ?_
 exact ⟨none, 0, rfl, ownS_nil .., cf.grown_set (cf.grown_set (unhide GG) (Nat.le_refl _)) (Nat.le_refl _)⟩
end Go.Proofs.YtfhmdpbnnieohaaDoor.t2
namespace Go.Proofs.YtfhmdpbnnieohaaDoor.t2
open Go.ChangeShapes Go.WideShapes Go.ChangeAt Go.RowKit
open lits (okB okB_iff)
open sl (Sl Own ints hide unhide ret_int ret_bool grown_refl grown_trans grown_drewN)
open css (Sls OwnS tot Apart own_ne own_ne' own_kind own_mono)
open cf (Box)
open wo (Made)
open ed (Eds)
set_option linter.unusedVariables false
def bin : Nat → Nat → Nat
 | _, 0 => 1
 | 0, _ + 1 => 0
 | n + 1, m + 1 => bin n m + bin n (m + 1)
theorem subs_count : ∀ (L : List Int) (m : Nat), (subs L m).length = bin L.length m
 | L, 0 => by rw [subs_zero]; cases L <;> rfl
 | [], _ + 1 => rfl
 | x :: L, m + 1 => by rw [subs, List.length_append, List.length_map, subs_count L m, subs_count L (m + 1)]; rfl
theorem vert_len (k i : Nat) (h0 : 1 ≤ k) (h1 : k ≤ 6) : (vertC k i).length ≤ 16 := by
 unfold vertC leastC mostC
 rw [List.length_append, subs_count, subs_count, sp.negL, List.length_map, rowL_len]
 have : k = 1 ∨ k = 2 ∨ k = 3 ∨ k = 4 ∨ k = 5 ∨ k = 6 := by omega
 rcases this with rfl | rfl | rfl | rfl | rfl | rfl <;> decide
theorem verts_len (k i : Nat) (h0 : 1 ≤ k) (h1 : k ≤ 6) : (vertsT k i).length ≤ i * 16 := by
 induction i with
 | zero => exact Nat.le_refl _
 | succ i ih =>
  rw [vertsT_step, List.length_append]
  have := vert_len k i h0 h1
  omega
theorem edges_len (k : Nat) (f : Nat → Int) (j : Nat) : (edgesT k f j).length = j * k := by
 induction j with
 | zero => simp [edgesT]
 | succ j ih =>
  rw [edgesT_step, List.length_append, ih, Nat.add_mul, Nat.one_mul]
  simp [edgeC]
theorem just_row {n k i : Nat} (hi : i < n) (hk : n * k ≤ 24) (h0 : 1 ≤ k) (h1 : k ≤ 6) : justB (rowL i k) 1 = true := by
 have hl := vert_len k i h0 h1
 unfold vertC at hl
 have ho : (rowL i k).all okB = true := List.all_eq_true.2 (row_ok hi hk)
 unfold justB listB
 rw [rowL_len, ho, decide_eq_true (show k ≤ 24 by omega), decide_eq_true (show (0 : Int) ≤ 1 by omega), decide_eq_true (show (leastC (rowL i k) 1 ++ mostC (rowL i k) 1).length ≤ 120 by omega)]
 rfl
theorem in_b {x a b : Int} {r : Bool} (h : decide (a ≤ x ∧ x ≤ b) = r) (w : World) : Calls Tryd.prog 32 #[.int .i64 x, .int .i64 a, .int .i64 b] w fun e w' => e = .returned (.bool r) ∧ w' = w := by
 subst h
 exact ok.l01In x a b w
theorem neg_mulz (x k m : Int) (h : (x - 1) * k = m) : -(x - 1) * k = -m := by rw [Int.neg_mul, h]
set_option maxRecDepth 10000 in
set_option maxHeartbeats 16000000 in
theorem specColor (n k E : Nat) (f : Nat → Int) (v : Value) (w : World) (hn0 : 1 ≤ n) (hn : n ≤ 12) (hk0 : 1 ≤ k) (hk : k ≤ 6) (hnk : n * k ≤ 24) (hE : E ≤ 120) (hv : Eds w v E f) :
  Calls Tryd.prog 12 #[.int .i64 (n : Int), v, .int .i64 (k : Int)] w fun e w' => CnfE w (edsB n f E && decide ((colC n k E f).length ≤ 120)) ((n : Int) * k) (colC n k E f) e w' := by
 have INn := hide (in_b (decide_eq_true (show (1 : Int) ≤ (n : Int) ∧ (n : Int) ≤ 12 by omega)))
 have INk := hide (in_b (decide_eq_true (show (1 : Int) ≤ (k : Int) ∧ (k : Int) ≤ 6 by omega)))
 have hmul : (n : Int) * (k : Int) = ((n * k : Nat) : Int) := by rw [Int.natCast_mul]
 have NN := hide hmul
 have HNK := hide hnk
 obtain ⟨mm, hmm⟩ : ∃ mm, mm = n * k := ⟨_, rfl⟩
 rw [← hmm] at hmul NN HNK hnk
 have HMM := hide hmm
 have i5 : ¬ (24 : Int) < (mm : Int) := by omega
 have HVE := hide hv
 obtain ⟨a, cap, rfl, ha⟩ := hv
 have ST : Hid (FI w (w.heap.size + 1) (mm : Int) (vertsT k 0) ((w.alloc (.cells #[.int .i64 0, .slice none 0 0] 27)).alloc (.cells #[.int .i64 (mm : Int), .slice none 0 0] 27))) := FI.to (FM.new w mm)
 have h120 : ¬ (120 : Int) < (E : Int) := by omega
 have HA := hide ha
 clear hmm ha
 go_enter Tryd.func12, Tryd.ntmps12
 go_wp2_with fail
 refine (unhide INn _).mono ?_; rintro e w' ⟨rfl, hw⟩; have hw' := hw.symm; clear hw; subst hw'
 go_wp2_with fail
 refine (unhide INk _).mono ?_; rintro e w' ⟨rfl, hw⟩; have hw' := hw.symm; clear hw; subst hw'
 clear INn INk
 go_wp2_with fail
 clear hmul
 go_loopw [9] (fun j wr => ∃ i : Nat, i ≤ n ∧ j = .int .i64 (i : Int) ∧ Hid (FI w (w.heap.size + 1) (mm : Int) (vertsT k i) wr)) (fun j _ => n + 1 - (intOf j).toNat)
 case atStart => exact ⟨0, Nat.zero_le _, rfl, ST⟩
 case round =>
  obtain ⟨i, hi, rfl, hm⟩ := hrel
  clear ST
  by_cases hlt : i < n
  ·have hi' : (i : Int) < (n : Int) := by omega
   obtain ⟨va, vn, vc, fm, hvn⟩ := unhide hm
   have F1 := hide fm
   have HVN := hide hvn
   have CS := hide (rowL_step i k)
   have CL := hide (rowL_len i k)
   have TS := hide (vertsT_step k i)
   have JR := hide (just_row hlt (by rw [← unhide HMM]; exact unhide HNK) hk0 hk)
   have VL := hide (verts_len k i hk0 hk)
   have VL2 := hide (vert_len k i hk0 hk)
   have hmul2 : (i : Int) * (k : Int) = ((i * k : Nat) : Int) := by rw [Int.natCast_mul]
   have hms2 : i * k ≤ 100 := by
    have := Nat.mul_le_mul (show i ≤ 12 by omega) hk
    omega
   obtain ⟨wo_, hwo⟩ : ∃ wo_, wo_ = wr := ⟨_, rfl⟩
   have ST3 : Hid (Made wo_ (wr.alloc (.cells #[] 3)) (.slice (some ⟨wr.heap.size, 0, none⟩) 0 0) ((rowL i k).take 0)) := by rw [hwo]; exact app.made_nil wr
   rw [← hwo] at F1
   have VC : Hid (vertC k i = leastC (rowL i k) 1 ++ mostC (rowL i k) 1) := rfl
   generalize i * k = m2 at *
   generalize rowL i k = C at *
   clear fm hvn hm
   go_wp2_with fail
   go_loopw [10, 11] (fun v i wx => ∃ k2 : Nat, k2 ≤ k ∧ i = .int .i64 ((k2 : Int) + 1) ∧ Hid (Made wo_ wx v (C.take k2))) (fun _ i _ => k + 1 - (intOf i).toNat)
   case atStart => exact ⟨0, Nat.zero_le _, rfl, ST3⟩
   case round =>
    obtain ⟨k2, hk2, rfl, hc⟩ := hrel
    clear ST3 hwo
    by_cases hlt2 : k2 < k
    ·have hi2 : (k2 : Int) + 1 ≤ (k : Int) := by omega
     obtain ⟨ca, cc, rfl, _⟩ := (Own.of (unhide hc).1).sl
     have lw : (C.take k2).length ≤ 4194304 := by rw [List.length_take]; omega
     have rs := unhide CS k2 hlt2
     obtain ⟨P2, hP2⟩ : ∃ P2, P2 = C.take (k2 + 1) := ⟨_, rfl⟩
     rw [← hP2, show ((m2 + (k2 + 1) : Nat) : Int) = (m2 : Int) + ((k2 : Int) + 1) by omega] at rs
     have HP := hide hP2
     have HR := hide rs
     clear hP2 rs
     generalize C.take k2 = P1 at *
     have hg := hide (unhide hc).2
     have ho := hide (unhide hc).1
     clear hc
     go_wp2_with (at_builtin; refine wo.append1 (unhide hg) (unhide ho) lw rfl _ _ rfl rfl rfl ?_)
     intro v' w2 R2
     have R3 : Hid (Made wo_ w2 v' P2) := by
      rw [unhide HR]
      exact R2
     clear R2 HR hg ho
     go_wp2_with fail
     go_roundw
     case rel => exact ⟨k2 + 1, by omega, by go_num, by rw [← unhide HP]; exact R3⟩
     case measure => simp [intOf]; omega
    ·have hi2 : ¬ (k2 : Int) + 1 ≤ (k : Int) := by omega
     have e : C.take k2 = C := List.take_of_length_le (by rw [unhide CL]; omega)
     rw [e] at hc
     have AM := specExactly 1 _ C wr (by rw [unhide CL]; omega) (Own.of (unhide hc).1).sl
     rw [unhide JR] at AM
     obtain ⟨ca, cc, rfl, _⟩ := (Own.of (unhide hc).1).sl
     have AMH := hide AM
     have G1 := hide (unhide hc).2
     obtain ⟨P2, hP2⟩ : ∃ P2, P2 = vertsT k (i + 1) := ⟨_, rfl⟩
     have ts : P2 = vertsT k i ++ (leastC C 1 ++ mostC C 1) := by rw [hP2, unhide TS, unhide VC]
     have HE := hide hP2
     have HT := hide ts
     have evn : vn = (vertsT k i).length := unhide HVN
     subst evn
     have hle : (vertsT k i).length + (leastC C 1 ++ mostC C 1).length ≤ 1048576 := by
      have h1 := unhide VL
      have h2 := unhide VL2
      rw [unhide VC] at h2
      omega
     generalize vertsT k i = P1 at *
     generalize leastC C 1 ++ mostC C 1 = Q1 at *
     clear e hc CS CL TS ts hP2 HVN AM JR VL VL2 VC hmul2 hms2
     go_wp2_with fail
     refine (unhide AMH).mono ?_; rintro e w2 ⟨q, rfl, o2, g2⟩
     have o2' : OwnS wr.heap.size w2.heap.size w2 q Q1 := o2
     obtain ⟨qa, qc, rfl⟩ := o2'.len
     have G2 := hide (grown_trans (r := none) (unhide G1) g2)
     have F2 := hide ((unhide F1).kept (unhide G2))
     have c1 := (unhide F2).b.c1
     have f1 := (unhide F2).b.f 1
     have O1 := hide ((unhide F1).o.kept (unhide G2))
     have Q2 := hide o2'
     have S0 := hide (unhide F1).g.size
     have S1 := hide (unhide G1).size
     have S2 := hide (unhide F2).g.size
     have S3 := hide (Nat.le_trans (unhide S0) (unhide S1))
     clear o2 o2' g2 AMH
     go_wp2_with (at_builtin; refine appendJ (unhide O1) (unhide Q2) (unhide S1) (unhide S3) (Nat.le_refl _) (unhide S2) hle rfl _ _ rfl rfl rfl ?_)
     intro v' w3 o3 g3
     have R0 := (unhide F2).put (grown_refl _) o3 g3
     obtain ⟨va3, vc3, rfl⟩ := o3.len
     have c2 := R0.1.1
     have f2 := R0.1.2
     have R : Hid (FI w (w.heap.size + 1) (mm : Int) P2 (w3.setCell ⟨w.heap.size + 1, 1, none⟩ (.slice va3 (P1 ++ Q1).length vc3))) := by
      rw [unhide HT]
      exact FI.to R0.2
     clear R0 o3 g3 O1 Q2 G1 G2 S0 S1 S2 S3 F1 F2 HT c1 f1
     generalize (P1 ++ Q1).length = ln at *
     go_wp2_with fail
     go_roundw
     case rel => exact ⟨i + 1, by omega, by go_num, by rw [← unhide HE]; exact R⟩
     case measure => simp [intOf]; omega
  ·have hi' : ¬ (i : Int) < (n : Int) := by omega
   have e : i = n := by omega
   subst e
   have ST2 : Hid (FI w (w.heap.size + 1) (mm : Int) (vertsT k i ++ edgesT k f 0) wr) := by
    show FI w (w.heap.size + 1) (mm : Int) (vertsT k i ++ []) wr
    rw [List.append_nil]
    exact unhide hm
   clear hm hlt hi
   go_wp2_with fail
   go_loopw [14] (fun j wr => ∃ t : Nat, t ≤ E ∧ j = .int .i64 (t : Int) ∧ Hid (FI w (w.heap.size + 1) (mm : Int) (vertsT k i ++ edgesT k f t) wr) ∧ Hid (edsB i f t = true)) (fun j _ => E - (intOf j).toNat)
   case atStart => exact ⟨0, Nat.zero_le _, rfl, ST2, rfl⟩
   case round =>
    obtain ⟨t, ht, rfl, hm, he⟩ := hrel
    clear ST2
    by_cases hlt : t < E
    ·have hi' : (t : Int) < (E : Int) := by omega
     rcases unhide HA with h | ⟨b, off, rfl, hb, hcb⟩
     ·omega
     ·obtain ⟨va, vn, vc, fm, hvn⟩ := unhide hm
      have c0 : wr.cell? ⟨b, off + t * 2, none⟩ = some (.int .i64 (f (t * 2))) := fm.g.cell (hcb (t * 2) (by omega)) (fun e => by cases e)
      have c1 : wr.cell? ⟨b, off + t * 2 + 1, none⟩ = some (.int .i64 (f (t * 2 + 1))) := fm.g.cell (hcb (t * 2 + 1) (by omega)) (fun e => by cases e)
      have es := edgesT_step k f t
      have st := edsB_step i f t
      rw [unhide he, Bool.true_and] at st
      have NO := hide (fun h => edsB_no (n := i) (f := f) hlt h)
      clear hcb
      generalize f (t * 2) = x at *
      generalize f (t * 2 + 1) = y at *
      have ES := hide es
      have STH := hide st
      have FMH := hide fm
      have HVN := hide hvn
      clear es st fm hvn hm he
      go_wp2_with fail
      have FD := hide (fun m => (unhide FMH).kept (grown_drewN wr m))
      go_quiet (fail)
      generalize hwd : wr.drewN _ = wd
      have FX := unhide FD nq
      rw [hwd] at FX
      clear FD FMH hwd
      have HFX := hide FX
      clear FX
      have evn : vn = (vertsT k i ++ edgesT k f t).length := unhide HVN
      by_cases e1 : edB i x y = true
      ·have ST2 : Hid (edsB i f (t + 1) = true) := by show _ = _; rw [unhide STH, e1]
       have ok := edB_iff.1 e1
       have INX := hide (in_b (decide_eq_true ok.1))
       have INY := hide (in_b (decide_eq_true ok.2.1))
       have q5 : (x == y) = false := by simp [ok.2.2]
       have OK := hide ok
       clear NO e1 STH ok evn
       have ST3 : Hid (FI w (w.heap.size + 1) (mm : Int) ((vertsT k i ++ edgesT k f t) ++ edgeC k x y 0) wd) := by
        show FI w (w.heap.size + 1) (mm : Int) ((vertsT k i ++ edgesT k f t) ++ []) wd
        rw [List.append_nil]
        exact ⟨va, vn, vc, unhide HFX, unhide HVN⟩
       have LL : Hid ((vertsT k i ++ edgesT k f t).length ≤ 10000) := by
        show _ ≤ _
        have h1 := verts_len k i hk0 hk
        have h2 := edges_len k f t
        have h3 := Nat.mul_le_mul ht hk
        have h4 := Nat.mul_le_mul hE (Nat.le_refl 6)
        rw [List.length_append]
        omega
       clear HFX
       go_wp2_with fail
       refine (unhide INX _).mono ?_; rintro e w' ⟨rfl, hw⟩; have hw' := hw.symm; clear hw; subst hw'
       go_wp2_with fail
       refine (unhide INY _).mono ?_; rintro e w' ⟨rfl, hw⟩; have hw' := hw.symm; clear hw; subst hw'
       go_wp2_with fail
       generalize hPP : vertsT k i ++ edgesT k f t = PP at *
       have HPP := hide hPP
       clear hPP INX INY
       go_loopw [17] (fun j wx => ∃ c : Nat, c ≤ k ∧ j = .int .i64 ((c : Int) + 1) ∧ Hid (FI w (w.heap.size + 1) (mm : Int) (PP ++ edgeC k x y c) wx)) (fun j _ => k + 1 - (intOf j).toNat)
       case atStart => exact ⟨0, Nat.zero_le _, rfl, ST3⟩
       case round =>
        obtain ⟨c, hc, rfl, hm⟩ := hrel
        clear ST3
        by_cases hlt2 : c < k
        ·have hi2 : (c : Int) + 1 ≤ (k : Int) := by omega
         obtain ⟨va, vn, vc, fm, hvn⟩ := unhide hm
         have hnk2 : i * k ≤ 24 := by rw [← unhide HMM]; exact unhide HNK
         have bdx := end_bd (unhide OK).1.1 (unhide OK).1.2 hlt2 hnk2
         have bdy := end_bd (unhide OK).2.1.1 (unhide OK).2.1.2 hlt2 hnk2
         have EC := hide (edgeC_step k x y c)
         obtain ⟨X, hX⟩ : ∃ X, X = (x - 1) * (k : Int) := ⟨_, rfl⟩
         obtain ⟨Y, hY⟩ : ∃ Y, Y = (y - 1) * (k : Int) := ⟨_, rfl⟩
         have nx := neg_mulz x k X hX.symm
         have ny := neg_mulz y k Y hY.symm
         rw [← hX] at bdx
         rw [← hY] at bdy
         obtain ⟨bx0, bx1, bx2, bx3⟩ := bdx
         obtain ⟨by0, by1, by2, by3⟩ := bdy
         have x0 := (unhide OK).1.1
         have x9 : x ≤ 12 := by have := (unhide OK).1.2; omega
         have y0 := (unhide OK).2.1.1
         have y9 : y ≤ 12 := by have := (unhide OK).2.1.2; omega
         have c1 := fm.b.c1
         have f1 := fm.b.f 1
         have HXX := hide hX
         have HYY := hide hY
         have evn : vn = (PP ++ edgeC k x y c).length := hvn
         have hl : (PP ++ edgeC k x y c).length ≤ 1048576 := by
          have h1 := unhide LL
          rw [List.length_append]
          simp only [edgeC, List.length_map, List.length_range]
          omega
         have gA := World.grownBy_alloc wr (.cells #[.int .i64 (-X - ((c : Int) + 1)), .int .i64 (-Y - ((c : Int) + 1))] 3) none
         have O1 := hide (fm.o.kept gA)
         have U1 := hide (own_litN wr 2 [-X - ((c : Int) + 1), -Y - ((c : Int) + 1)] #[.int .i64 (-X - ((c : Int) + 1)), .int .i64 (-Y - ((c : Int) + 1))] rfl rfl (by decide))
         have S1 := hide fm.g.size
         have S2 : Hid (wr.heap.size ≤ (wr.alloc (.cells #[.int .i64 (-X - ((c : Int) + 1)), .int .i64 (-Y - ((c : Int) + 1))] 3)).heap.size) := by show _ ≤ _; rw [World.size_alloc]; omega
         have S3 : Hid (wr.heap.size + 1 ≤ (wr.alloc (.cells #[.int .i64 (-X - ((c : Int) + 1)), .int .i64 (-Y - ((c : Int) + 1))] 3)).heap.size) := by show _ ≤ _; rw [World.size_alloc]; omega
         have U2 := hide (show Own wr.heap.size (wr.alloc (.cells #[.int .i64 (-X - ((c : Int) + 1)), .int .i64 (-Y - ((c : Int) + 1))] 3)).heap.size (wr.alloc (.cells #[.int .i64 (-X - ((c : Int) + 1)), .int .i64 (-Y - ((c : Int) + 1))] 3)) _ _ from ⟨(unhide U1).1, fun k e => Nat.lt_of_lt_of_le ((unhide U1).2 k e) (unhide S3)⟩)
         have FMX := hide fm
         have GA := hide gA
         subst evn
         obtain ⟨P2, hP2⟩ : ∃ P2, P2 = PP ++ edgeC k x y (c + 1) := ⟨_, rfl⟩
         have ts : P2 = (PP ++ edgeC k x y c) ++ [[-X - ((c : Int) + 1), -Y - ((c : Int) + 1)]] := by
          rw [hP2, unhide EC, List.append_assoc, ← hX, ← hY]
          rw [show -(X + ((c : Int) + 1)) = -X - ((c : Int) + 1) by omega, show -(Y + ((c : Int) + 1)) = -Y - ((c : Int) + 1) by omega]
         have HE := hide hP2
         have HT := hide ts
         generalize PP ++ edgeC k x y c = P1 at *
         clear hX hY fm hvn hm hnk2 gA hP2 ts EC
         go_wp2_with (at_builtin; refine appendN (unhide O1) (unhide U2) (unhide S1) (unhide S2) hl rfl _ _ rfl rfl (by rw [World.size_alloc]; rfl) ?_)
         intro g2 cap2 w2 o2 g2' n2
         have R0 := (unhide FMX).put (grown_trans (r := none) (unhide GA) (World.grownBy_alloc _ _ none)) o2 g2'
         have c2 := R0.1.1
         have f2 := R0.1.2
         have R : Hid (FI w (w.heap.size + 1) (mm : Int) P2 (w2.setCell ⟨w.heap.size + 1, 1, none⟩ (.slice (some ⟨g2, 0, none⟩) (P1.length + 1) cap2))) := by
          rw [unhide HT]
          exact FI.to R0.2
         clear R0 o2 g2' n2 O1 U1 U2 S1 S2 S3 FMX GA HT c1 f1 nx ny bx0 bx1 bx2 bx3 by0 by1 by2 by3
         go_wp2_with fail
         go_roundw
         case rel => exact ⟨c + 1, by omega, by go_num, by rw [← unhide HE]; exact R⟩
         case measure => simp [intOf]; omega
        ·have hi2 : ¬ (c : Int) + 1 ≤ (k : Int) := by omega
         have e : c = k := by omega
         subst e
         have R : Hid (FI w (w.heap.size + 1) (mm : Int) (vertsT c i ++ edgesT c f (t + 1)) wr) := by
          rw [unhide ES, ← List.append_assoc, unhide HPP]
          exact unhide hm
         clear hm
         go_wp2_with fail
         go_roundw
         case rel => exact ⟨t + 1, by omega, by go_num, R, ST2⟩
         case measure => simp [intOf]; omega
      ·have e2 : edB i x y = false := by cases h : edB i x y; rfl; exact absurd h e1
       have hno := unhide NO e2
       have Z0 := (unhide HFX).r.c0
       have Z1 := (unhide HFX).r.c1
       have Zf0 := (unhide HFX).r.f 0
       have Zf1 := (unhide HFX).r.f 1
       have R : Hid (CnfE w (edsB i f E && decide ((colC i k E f).length ≤ 120)) ((i : Int) * k) (colC i k E f) (.returned (.tuple #[.agg #[.int .i64 0, .slice none 0 0], .bool false])) ((wd.setCell ⟨w.heap.size, 0, none⟩ (.int .i64 0)).setCell ⟨w.heap.size, 1, none⟩ (.slice none 0 0))) := by
        rw [hno, Bool.false_and]
        exact ⟨none, 0, rfl, ownS_nil .., cf.grown_set (cf.grown_set (unhide HFX).g (Nat.le_refl _)) (Nat.le_refl _)⟩
       have BXX := hide (((unhide HFX).r.set0 (.int .i64 0)).set1 (.slice none 0 0))
       have cs : (¬ (1 ≤ x ∧ x ≤ (i : Int))) ∨ ((1 ≤ x ∧ x ≤ (i : Int)) ∧ ¬ (1 ≤ y ∧ y ≤ (i : Int))) ∨ ((1 ≤ x ∧ x ≤ (i : Int)) ∧ (1 ≤ y ∧ y ≤ (i : Int)) ∧ x = y) := by
        unfold edB at e2
        have := of_decide_eq_false e2
        omega
       clear NO e1 e2 STH hno evn HFX
       rcases cs with h1 | ⟨h1, h2⟩ | ⟨h1, h2, rfl⟩
       ·have INX := hide (in_b (decide_eq_false h1))
        clear h1
        go_wp2_with fail
        refine (unhide INX _).mono ?_; rintro e w' ⟨rfl, hw⟩; have hw' := hw.symm; clear hw; subst hw'
        go_wp2_with fail
        (try simp only [Exit.inBlock, Exit.then])
        exact bodyPost_ret (cf.ret_box2 rfl rfl (unhide BXX)) rfl (unhide R)
       ·have INX := hide (in_b (decide_eq_true h1))
        have INY := hide (in_b (decide_eq_false h2))
        clear h1 h2
        go_wp2_with fail
        refine (unhide INX _).mono ?_; rintro e w' ⟨rfl, hw⟩; have hw' := hw.symm; clear hw; subst hw'
        go_wp2_with fail
        refine (unhide INY _).mono ?_; rintro e w' ⟨rfl, hw⟩; have hw' := hw.symm; clear hw; subst hw'
        go_wp2_with fail
        (try simp only [Exit.inBlock, Exit.then])
        exact bodyPost_ret (cf.ret_box2 rfl rfl (unhide BXX)) rfl (unhide R)
       ·have INX := hide (in_b (decide_eq_true h1))
        clear h1 h2
        go_wp2_with fail
        refine (unhide INX _).mono ?_; rintro e w' ⟨rfl, hw⟩; have hw' := hw.symm; clear hw; subst hw'
        go_wp2_with fail
        refine (unhide INX _).mono ?_; rintro e w' ⟨rfl, hw⟩; have hw' := hw.symm; clear hw; subst hw'
        go_wp2_with fail
        (try simp only [Exit.inBlock, Exit.then])
        exact bodyPost_ret (cf.ret_box2 rfl rfl (unhide BXX)) rfl (unhide R)
    ·have hi' : ¬ (t : Int) < (E : Int) := by omega
     have e : t = E := by omega
     subst e
     obtain ⟨va, vn, vc, fm, hvn⟩ := unhide hm
     subst hvn
     have hP : vertsT k i ++ edgesT k f t = colC i k t f := rfl
     rw [hP] at fm
     have EE := hide (unhide he)
     generalize hRR : colC i k t f = R at *
     have HRR := hide hRR
     have F1 := hide fm
     have x0 := fm.b.c0
     have x1 := fm.b.c1
     have z0 := fm.r.c0
     have z1 := fm.r.c1
     have zf0 := fm.r.f 0
     have zf1 := fm.r.f 1
     clear fm hm hRR hP he HA
     by_cases hl : R.length ≤ 120
     ·have hl' : ¬ (120 : Int) < (R.length : Int) := by omega
      have HD := hide (decide_eq_true hl)
      clear hl
      go_wp2_with fail
      (try simp only [Exit.inBlock, Exit.then])
      refine bodyPost_ret (cf.ret_box2 rfl rfl (((unhide F1).r.set0 _).set1 _)) rfl ?_
      rw [unhide HRR, unhide NN, unhide EE, unhide HD]
      refine ⟨va, vc, rfl, ?_, cf.grown_set (cf.grown_set (unhide F1).g (Nat.le_refl _)) (Nat.le_refl _)⟩
      rw [cf.size_set, cf.size_set]
      exact gr.ownS_set (gr.ownS_set (unhide F1).o (unhide F1).r) ((unhide F1).r.set0 _)
     ·have hl' : (120 : Int) < (R.length : Int) := by omega
      have HD := hide (decide_eq_false hl)
      clear hl
      go_wp2_with fail
      (try simp only [Exit.inBlock, Exit.then])
      refine bodyPost_ret (cf.ret_box2 rfl rfl (((unhide F1).r.set0 _).set1 _)) rfl ?_
      rw [unhide HRR, unhide EE, unhide HD]
      exact ⟨none, 0, rfl, ownS_nil .., cf.grown_set (cf.grown_set (unhide F1).g (Nat.le_refl _)) (Nat.le_refl _)⟩
end Go.Proofs.YtfhmdpbnnieohaaDoor.t2
namespace Go.Proofs.YtfhmdpbnnieohaaDoor.t2
open Go.ChangeShapes Go.WideShapes Go.ChangeAt Go.RowKit
open lits (okB okB_iff)
open sl (Sl Own ints hide unhide ret_int ret_bool grown_refl grown_trans grown_drewN)
open css (Sls OwnS tot Apart own_ne own_ne' own_kind own_mono)
open cf (Box)
open ed (Eds)
set_option linter.unusedVariables false
set_option maxHeartbeats 4000000 in
theorem specColorX (n k : Int) (E : Nat) (f : Nat → Int) (v : Value) (w : World) (C : List (List Int)) (h : colX n k = true ∨ 120 < E) (hE : E ≤ 9223372036854775807) (hv : Eds w v E f) :
  Calls Tryd.prog 12 #[.int .i64 n, v, .int .i64 k] w fun e w' => CnfE w false (n * k) C e w' := by
 have bR := Box.new 27 w (.int .i64 0) (.slice none 0 0)
 obtain ⟨a, cap, rfl, _⟩ := hv
 have cs : ¬ (1 ≤ n ∧ n ≤ 12) ∨ ((1 ≤ n ∧ n ≤ 12) ∧ ¬ (1 ≤ k ∧ k ≤ 6)) ∨ ((1 ≤ n ∧ n ≤ 12) ∧ (1 ≤ k ∧ k ≤ 6) ∧ 24 < n * k) ∨ ((1 ≤ n ∧ n ≤ 12) ∧ (1 ≤ k ∧ k ≤ 6) ∧ ¬ 24 < n * k ∧ 120 < E) := by
  rcases h with h | h
  ·have h := of_decide_eq_true h
   omega
  ·omega
 have hm : (1 ≤ n ∧ n ≤ 12) → (1 ≤ k ∧ k ≤ 6) → 0 ≤ n * k ∧ n * k ≤ 72 := by
  rintro ⟨h1, h2⟩ ⟨h3, h4⟩
  obtain ⟨n', rfl⟩ := Int.eq_ofNat_of_zero_le (show 0 ≤ n by omega)
  obtain ⟨k', rfl⟩ := Int.eq_ofNat_of_zero_le (show 0 ≤ k by omega)
  have := Nat.mul_le_mul (show n' ≤ 12 by omega) (show k' ≤ 6 by omega)
  rw [← Int.natCast_mul]
  omega
 have BR := hide bR
 clear h bR
 rcases cs with h1 | ⟨h1, h2⟩ | ⟨h1, h2, h3⟩ | ⟨h1, h2, h3, h4⟩
 ·have IN := hide (in_b (decide_eq_false h1))
  clear hm h1
  go_enter Tryd.func12, Tryd.ntmps12
  go_wp2_with fail
  refine (unhide IN _).mono ?_; rintro e w' ⟨rfl, hw⟩; have hw' := hw.symm; clear hw; subst hw'
  go_wp2_with fail
  (try simp only [Exit.inBlock, Exit.then])
  exact bodyPost_ret (cf.ret_box2 rfl rfl (unhide BR)) rfl (cnf_no w)
 ·have IN := hide (in_b (decide_eq_true h1))
  have IK := hide (in_b (decide_eq_false h2))
  clear hm h1 h2
  go_enter Tryd.func12, Tryd.ntmps12
  go_wp2_with fail
  refine (unhide IN _).mono ?_; rintro e w' ⟨rfl, hw⟩; have hw' := hw.symm; clear hw; subst hw'
  go_wp2_with fail
  refine (unhide IK _).mono ?_; rintro e w' ⟨rfl, hw⟩; have hw' := hw.symm; clear hw; subst hw'
  go_wp2_with fail
  (try simp only [Exit.inBlock, Exit.then])
  exact bodyPost_ret (cf.ret_box2 rfl rfl (unhide BR)) rfl (cnf_no w)
 ·have IN := hide (in_b (decide_eq_true h1))
  have IK := hide (in_b (decide_eq_true h2))
  obtain ⟨m0, m1⟩ := hm h1 h2
  generalize hz : n * k = z at *
  clear hm h1 h2
  go_enter Tryd.func12, Tryd.ntmps12
  go_wp2_with fail
  refine (unhide IN _).mono ?_; rintro e w' ⟨rfl, hw⟩; have hw' := hw.symm; clear hw; subst hw'
  go_wp2_with fail
  refine (unhide IK _).mono ?_; rintro e w' ⟨rfl, hw⟩; have hw' := hw.symm; clear hw; subst hw'
  go_wp2_with fail
  (try simp only [Exit.inBlock, Exit.then])
  exact bodyPost_ret (cf.ret_box2 rfl rfl (unhide BR)) rfl (cnf_no w)
 ·have IN := hide (in_b (decide_eq_true h1))
  have IK := hide (in_b (decide_eq_true h2))
  obtain ⟨m0, m1⟩ := hm h1 h2
  have h4' : (120 : Int) < (E : Int) := by omega
  generalize hz : n * k = z at *
  clear hm h1 h2 h4
  go_enter Tryd.func12, Tryd.ntmps12
  go_wp2_with fail
  refine (unhide IN _).mono ?_; rintro e w' ⟨rfl, hw⟩; have hw' := hw.symm; clear hw; subst hw'
  go_wp2_with fail
  refine (unhide IK _).mono ?_; rintro e w' ⟨rfl, hw⟩; have hw' := hw.symm; clear hw; subst hw'
  go_wp2_with fail
  (try simp only [Exit.inBlock, Exit.then])
  exact bodyPost_ret (cf.ret_box2 rfl rfl (unhide BR)) rfl (cnf_no w)
theorem col_tot {n k E : Nat} {f : Nat → Int} (hk : k ≤ 6) {b : Bool} (h : b = true → (colC n k E f).length ≤ 120) : tot (if b then colC n k E f else []) ≤ 1048576 := by
 cases b
 ·simp [tot]
 ·refine tot_few (h rfl) fun C hC => ?_
  unfold colC at hC
  rw [if_pos rfl, List.mem_append] at hC
  rcases hC with hC | hC
  ·unfold vertsT at hC
   rw [List.mem_flatMap] at hC
   obtain ⟨i, _, hC⟩ := hC
   unfold vertC at hC
   rw [List.mem_append] at hC
   rcases hC with hC | hC
   ·exact least_len (by rw [rowL_len]; omega) C hC
   ·exact most_len (by rw [rowL_len]; omega) C hC
  ·unfold edgesT at hC
   rw [List.mem_flatMap] at hC
   obtain ⟨j, _, hC⟩ := hC
   unfold edgeC at hC
   rw [List.mem_map] at hC
   obtain ⟨c, _, rfl⟩ := hC
   simp
end Go.Proofs.YtfhmdpbnnieohaaDoor.t2
