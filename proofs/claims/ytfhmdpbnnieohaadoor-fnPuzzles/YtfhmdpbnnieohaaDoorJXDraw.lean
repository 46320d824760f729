/- The cursor that the laws draw their inputs with: it answers numbers within their bounds and writes into its own block alone; what is drawn is left open. -/
import Derived.Test.YtfhmdpbnnieohaaDoorJXSl
import Derived.Laws.BitsLemmas
namespace Go.Proofs.YtfhmdpbnnieohaaDoor.draw
open Go.ChangeShapes Go.WideShapes Go.ChangeAt Go.RowKit
open sl (Sl ints hide unhide ret_int ret_bool grown_refl grown_trans grown_trans' grown_drewN)
set_option linter.unusedVariables false
theorem and255 (n : Int) : bits .and .i64 n 255 = n % 256 := by
 have h255 : (BitVec.ofInt 64 255).toNat = 2 ^ 8 - 1 := by decide
 have key : (BitVec.ofInt 64 n &&& BitVec.ofInt 64 255).toNat = (n % ((2 ^ 64 : Nat) : Int)).toNat % 2 ^ 8 := by
  rw [BitVec.toNat_and, BitVec.toNat_ofInt, h255, Nat.and_two_pow_sub_one_eq_mod]
 show IntKind.i64.wrap ((BitVec.ofInt 64 n &&& BitVec.ofInt 64 255).toNat : Nat) = n % 256
 rw [key, IntKind.wrap_i64]
 omega
theorem and255_bd (n : Int) : 0 ≤ bits .and .i64 n 255 ∧ bits .and .i64 n 255 ≤ 255 := by
 rw [and255]
 omega
def Cur (w : World) (c : Nat) : Prop :=
 ∃ (a : Option Addr) (n cap i : Nat) (h : Int), n ≤ 1048576 ∧ i ≤ n ∧ w.heap[c]? = some (.cells #[.slice a n cap, .int .i64 i, .int .i64 h] 104 (0, 0)) ∧
  (n = 0 ∨ ∃ b off, a = some ⟨b, off, none⟩ ∧ b < c ∧ ∀ j, j < n → ∃ x : Nat, x ≤ 255 ∧ w.cell? ⟨b, off + j, none⟩ = some (.int .u8 (x : Int)))
theorem Cur.lt {w : World} {c : Nat} (h : Cur w c) : c < w.heap.size := by
 obtain ⟨a, n, cap, i, h, _, _, hb, _⟩ := h
 exact (Array.getElem?_eq_some_iff.1 hb).1
theorem Cur.kept {w w' : World} {c : Nat} {row : Option Nat} (h : Cur w c) (g : w.grownBy w' row) (hr : ∀ r, row = some r → c < r) : Cur w' c := by
 have hlt := h.lt
 obtain ⟨a, n, cap, i, h, hn, hi, hb, hx⟩ := h
 refine ⟨a, n, cap, i, h, hn, hi, (g.block c hlt (fun e => by have := hr c e.symm; omega)).trans hb, ?_⟩
 rcases hx with hx | ⟨b, off, e, hbc, hx⟩
 ·exact .inl hx
 ·refine .inr ⟨b, off, e, hbc, fun j hj => ?_⟩
  obtain ⟨x, hx1, hx2⟩ := hx j hj
  exact ⟨x, hx1, g.cell hx2 (fun e => by have := hr b e.symm; omega)⟩
theorem cells3 {w : World} {c : Nat} {x y z : Value} {t : TypeId} (h : w.heap[c]? = some (.cells #[x, y, z] t (0, 0))) :
  w.cell? ⟨c, 0, none⟩ = some x ∧ w.cell? ⟨c, 1, none⟩ = some y ∧ w.cell? ⟨c, 2, none⟩ = some z ∧ ∀ j, w.frozen? ⟨c, j, none⟩ = false := by
 refine ⟨by simp [World.cell?, h], by simp [World.cell?, h], by simp [World.cell?, h], fun j => by simp [World.frozen?, h]⟩
theorem set3_1 {w : World} {c : Nat} {x y z u : Value} {t : TypeId} (h : w.heap[c]? = some (.cells #[x, y, z] t (0, 0))) : (w.setCell ⟨c, 1, none⟩ u).heap[c]? = some (.cells #[x, u, z] t (0, 0)) := by
 simp [World.setCell, Array.getElem?_modify, h]
theorem set3_2 {w : World} {c : Nat} {x y z u : Value} {t : TypeId} (h : w.heap[c]? = some (.cells #[x, y, z] t (0, 0))) : (w.setCell ⟨c, 2, none⟩ u).heap[c]? = some (.cells #[x, y, u] t (0, 0)) := by
 simp [World.setCell, Array.getElem?_modify, h]
theorem grown_drew (w : World) (q : Nat) (r : Option Nat) : w.grownBy (w.drewN q) r := ⟨rfl, rfl, rfl, Nat.le_refl _, fun _ _ _ => rfl⟩
theorem grown_one (w : World) (c q : Nat) (u : Value) : w.grownBy ((w.setCell ⟨c, 2, none⟩ u).drewN q) (some c) :=
 grown_trans' (sl.grown_setCell w c 2 u) (grown_drew _ q _)
theorem grown_two (w : World) (c q : Nat) (u u' : Value) : w.grownBy (((w.setCell ⟨c, 2, none⟩ u).drewN q).setCell ⟨c, 1, none⟩ u') (some c) :=
 grown_trans' (grown_one w c q u) (sl.grown_setCell _ c 1 u')
theorem old_cell {w w' : World} {c b off n : Nat} (g : w.grownBy w' (some c)) (hbc : b < c) (hx : ∀ j, j < n → ∃ x : Nat, x ≤ 255 ∧ w.cell? ⟨b, off + j, none⟩ = some (.int .u8 (x : Int))) :
  ∀ j, j < n → ∃ x : Nat, x ≤ 255 ∧ w'.cell? ⟨b, off + j, none⟩ = some (.int .u8 (x : Int)) := by
 intro j hj
 obtain ⟨x, hx1, hx2⟩ := hx j hj
 exact ⟨x, hx1, g.cell hx2 (fun e => by injection e with e; exact absurd e (by show b ≠ c; omega))⟩
theorem cur_one {w : World} {c : Nat} {a : Option Addr} {n cap i : Nat} {h : Int} (q : Nat) (h' : Int) (hn : n ≤ 1048576) (hi : i ≤ n) (hb : w.heap[c]? = some (.cells #[.slice a n cap, .int .i64 i, .int .i64 h] 104 (0, 0)))
  (hx : n = 0 ∨ ∃ b off, a = some ⟨b, off, none⟩ ∧ b < c ∧ ∀ j, j < n → ∃ x : Nat, x ≤ 255 ∧ w.cell? ⟨b, off + j, none⟩ = some (.int .u8 (x : Int))) :
  Cur ((w.setCell ⟨c, 2, none⟩ (.int .i64 h')).drewN q) c := by
 refine ⟨a, n, cap, i, h', hn, hi, set3_2 hb, ?_⟩
 rcases hx with h0 | ⟨b, off, e, hbc, hx⟩
 ·exact .inl h0
 ·exact .inr ⟨b, off, e, hbc, old_cell (grown_one w c q _) hbc hx⟩
theorem Cur.drew {w : World} {c : Nat} (h : Cur w c) (q : Nat) : Cur (w.drewN q) c := h.kept (grown_drew w q none) (fun r e => by cases e)
theorem cur_two {w : World} {c : Nat} {a : Option Addr} {n cap i : Nat} {h : Int} (q : Nat) (h' : Int) (hn : n ≤ 1048576) (hi : i + 1 ≤ n) (hb : w.heap[c]? = some (.cells #[.slice a n cap, .int .i64 i, .int .i64 h] 104 (0, 0)))
  (hx : n = 0 ∨ ∃ b off, a = some ⟨b, off, none⟩ ∧ b < c ∧ ∀ j, j < n → ∃ x : Nat, x ≤ 255 ∧ w.cell? ⟨b, off + j, none⟩ = some (.int .u8 (x : Int))) :
  Cur (((w.setCell ⟨c, 2, none⟩ (.int .i64 h')).drewN q).setCell ⟨c, 1, none⟩ (.int .i64 ((i : Int) + 1))) c := by
 have e1 : ((w.setCell ⟨c, 2, none⟩ (.int .i64 h')).drewN q).heap[c]? = some (.cells #[.slice a n cap, .int .i64 i, .int .i64 h'] 104 (0, 0)) := set3_2 hb
 refine ⟨a, n, cap, i + 1, h', hn, hi, ?_, ?_⟩
 ·rw [show ((i + 1 : Nat) : Int) = (i : Int) + 1 from by omega]
  exact set3_1 e1
 ·rcases hx with h0 | ⟨b, off, e, hbc, hx⟩
  ·exact .inl h0
  ·exact .inr ⟨b, off, e, hbc, old_cell (grown_two w c q _ _) hbc hx⟩
set_option maxHeartbeats 400000 in
theorem byte (c : Nat) (w : World) (hc : Cur w c) :
  Calls Tryd.prog 52 #[.pointer (some ⟨c, 0, none⟩)] w fun e w' => ∃ x : Int, e = .returned (.int .i64 x) ∧ 0 ≤ x ∧ x ≤ 255 ∧ Cur w' c ∧ w.grownBy w' (some c) := by
 obtain ⟨a, n, cap, i, h, hn, hi, hb, hx⟩ := hc
 obtain ⟨c0, c1, c2, cf⟩ := cells3 hb
 have f1 := cf 1
 have f2 := cf 2
 have HB := hide hb
 have HX := hide hx
 clear hb hx cf
 by_cases hlt : i < n
 ·rcases unhide HX with h0 | ⟨b, off, rfl, hbc, hx⟩
  ·omega
  ·have HXX := hide hx
   obtain ⟨x, hx1, hx2⟩ := hx i hlt
   have hlt' : (i : Int) < (n : Int) := by omega
   clear hx HX
   go_enter Tryd.func52, Tryd.ntmps52
   go_wp2
   go_quiet (fail)
   go_wp2
   go_quiet (fail)
   go_wp2
   go_quiet (fail)
   go_wp2
   go_ret
   exact ⟨_, rfl, (and255_bd _).1, (and255_bd _).2, cur_two _ _ hn hlt (unhide HB) (.inr ⟨b, off, rfl, hbc, unhide HXX⟩), grown_two w c _ _ _⟩
 ·have hlt' : ¬ (i : Int) < (n : Int) := by omega
  go_enter Tryd.func52, Tryd.ntmps52
  go_wp2
  go_quiet (fail)
  go_wp2
  go_quiet (fail)
  go_wp2
  go_ret
  exact ⟨_, rfl, (and255_bd _).1, (and255_bd _).2, Cur.drew (cur_one _ _ hn hi (unhide HB) (unhide HX)) _, grown_trans' (grown_one w c _ _) (grown_drew _ _ _)⟩
theorem below (c : Nat) (n : Int) (w : World) (hc : Cur w c) (n0 : 0 < n) (n1 : n ≤ 1073741824) :
  Calls Tryd.prog 27 #[.pointer (some ⟨c, 0, none⟩), .int .i64 n] w fun e w' => ∃ x : Int, e = .returned (.int .i64 x) ∧ 0 ≤ x ∧ x < n ∧ Cur w' c ∧ w.grownBy w' (some c) := by
 have HC := hide hc
 clear hc
 have m0 : ¬ n ≤ 0 := by omega
 by_cases h : n ≤ 256
 ·go_enter Tryd.func27, Tryd.ntmps27
  go_wp2_with fail
  refine (byte c _ (unhide HC)).mono ?_; rintro e w1 ⟨x, rfl, x0, x1, hc1, g1⟩
  have HC1 := hide hc1
  have G1 := hide g1
  clear hc1 g1
  go_wp2_with fail
  go_ret
  exact ⟨_, rfl, Int.emod_nonneg _ (by omega), Int.emod_lt_of_pos _ n0, unhide HC1, unhide G1⟩
 ·go_enter Tryd.func27, Tryd.ntmps27
  go_wp2_with fail
  refine (byte c _ (unhide HC)).mono ?_; rintro e w1 ⟨x, rfl, x0, x1, hc1, g1⟩
  have HC1 := hide hc1
  have G1 := hide g1
  clear hc1 g1 HC
  go_wp2_with fail
  refine (byte c _ (unhide HC1)).mono ?_; rintro e w2 ⟨y, rfl, y0, y1, hc2, g2⟩
  have HC2 := hide hc2
  have G2 := hide (grown_trans' (unhide G1) g2)
  clear hc2 g2 HC1 G1
  go_wp2_with fail
  refine (byte c _ (unhide HC2)).mono ?_; rintro e w3 ⟨z, rfl, z0, z1, hc3, g3⟩
  have HC3 := hide hc3
  have G3 := hide (grown_trans' (unhide G2) g3)
  clear hc3 g3 HC2 G2
  go_wp2_with fail
  refine (byte c _ (unhide HC3)).mono ?_; rintro e w4 ⟨q, rfl, q0, q1, hc4, g4⟩
  have HC4 := hide hc4
  have G4 := hide (grown_trans' (unhide G3) g4)
  clear hc4 g4 HC3 G3
  go_wp2_with fail
  go_ret
  exact ⟨_, rfl, Int.emod_nonneg _ (by omega), Int.emod_lt_of_pos _ n0, unhide HC4, unhide G4⟩
theorem once (c : Nat) (n : Int) (w : World) (hc : Cur w c) (n0 : 0 < n) (n1 : n ≤ 1073741824) :
  Calls Tryd.prog 28 #[.pointer (some ⟨c, 0, none⟩), .int .i64 n] w fun e w' => ∃ b : Bool, e = .returned (.bool b) ∧ Cur w' c ∧ w.grownBy w' (some c) := by
 have HC := hide hc
 clear hc
 go_enter Tryd.func28, Tryd.ntmps28
 go_wp2_with fail
 refine (below c n _ (unhide HC) n0 n1).mono ?_; rintro e w1 ⟨x, rfl, x0, x1, hc1, g1⟩
 have HC1 := hide hc1
 have G1 := hide g1
 clear hc1 g1
 go_wp2_with fail
 go_ret
 exact ⟨_, rfl, unhide HC1, unhide G1⟩
theorem pickInt (c : Nat) (v : Value) (L : List Int) (w : World) (hc : Cur w c) (hL : 0 < L.length) (hL1 : L.length ≤ 1048576) (hv : Sl w v L) (hb : ∀ k, v.ownBlock = some k → c < k) :
  Calls Tryd.prog 29 #[.pointer (some ⟨c, 0, none⟩), v] w fun e w' => ∃ x : Int, e = .returned (.int .i64 x) ∧ x ∈ L ∧ Cur w' c ∧ w.grownBy w' (some c) := by
 have hv' := hv
 obtain ⟨a, cap, rfl, ha⟩ := hv
 rcases ha with rfl | ⟨b, off, rfl, hbs, hcb⟩
 ·simp at hL
 ·have HC := hide hc
  have HB := hide hcb
  have hbc : c < b := hb b rfl
  clear hc hcb hv' hb
  go_enter Tryd.func29, Tryd.ntmps29
  go_wp2_with fail
  refine (below c _ _ (unhide HC) (by omega) (by omega)).mono ?_; rintro e w1 ⟨x, rfl, x0, x1, hc1, g1⟩
  obtain ⟨j, rfl⟩ := Int.eq_ofNat_of_zero_le x0
  have hj : j < L.length := by omega
  have c1 : w1.cell? ⟨b, off + j, none⟩ = some (.int .i64 (L.getD j 0)) := g1.cell (unhide HB j hj) (fun e => by injection e with e; exact absurd e (by show b ≠ c; omega))
  have hm : L.getD j 0 ∈ L := by rw [show L.getD j 0 = L[j] by simp [hj]]; exact List.getElem_mem hj
  generalize L.getD j 0 = y at *
  have HM := hide hm
  have HC1 := hide hc1
  have G1 := hide g1
  clear hc1 g1 hm HB HC
  go_wp2_with fail
  go_ret
  exact ⟨_, rfl, unhide HM, unhide HC1, unhide G1⟩
def Bs (w : World) (a : Option Addr) (n : Nat) : Prop := n = 0 ∨ ∃ b off, a = some ⟨b, off, none⟩ ∧ b < w.heap.size ∧ ∀ j, j < n → ∃ x : Nat, x ≤ 255 ∧ w.cell? ⟨b, off + j, none⟩ = some (.int .u8 (x : Int))
theorem Bs.below {w w' : World} {a : Option Addr} {n : Nat} (h : Bs w a n) (hb : Below w.heap.size w w') : Bs w' a n := by
 rcases h with h | ⟨b, off, e, hl, hx⟩
 ·exact .inl h
 ·refine .inr ⟨b, off, e, Nat.lt_of_lt_of_le hl hb.size, fun j hj => ?_⟩
  obtain ⟨x, hx1, hx2⟩ := hx j hj
  exact ⟨x, hx1, (hb.cell (p := ⟨b, off + j, none⟩) hl).trans hx2⟩
theorem of_rowB {w : World} {a : Option Addr} {len cap : Nat} {zs : List Int}
  (h : (a = none ∧ len = 0 ∧ cap = 0 ∧ zs = []) ∨ ∃ x, a = some x ∧ len ≤ cap ∧ cap ≤ maxLen ∧ zs.length = cap ∧ (∀ i, i < zs.length → w.cell? (x.add i) = some (.int .u8 (zs.getD i 0))) ∧ ∀ n ∈ zs, (Lit.int .u8 n).wf = true) :
  Bs w a len := by
 rcases h with ⟨rfl, rfl, rfl, rfl⟩ | ⟨x, rfl, hl, hm, hz, hc, hw⟩
 ·exact .inl rfl
 ·by_cases h0 : len = 0
  ·exact .inl h0
  ·obtain ⟨b, off, spot⟩ := x
   have h1 := hc 0 (by omega)
   have hs : spot = none := by simpa [Addr.add] using World.cell?_spot h1
   subst hs
   refine .inr ⟨b, off, rfl, World.block_lt_of_cell? w _ h1, fun j hj => ?_⟩
   have h2 := hc j (by omega)
   rw [Addr.add_lit] at h2
   have hm : zs.getD j 0 ∈ zs := by rw [show zs.getD j 0 = zs[j]'(by omega) by simp [show j < zs.length by omega]]; exact List.getElem_mem _
   have h3 := hw _ hm
   have h4 : 0 ≤ zs.getD j 0 ∧ zs.getD j 0 ≤ 255 := by simpa [Lit.wf, IntKind.min, IntKind.max, IntKind.signed, IntKind.bits] using h3
   exact ⟨(zs.getD j 0).toNat, by omega, by rw [h2]; congr 2; omega⟩
theorem new_cur (w : World) (a : Option Addr) (n cap : Nat) (h : Int) (hn : n ≤ 1048576) (hB : Bs w a n) : Cur (w.alloc (.cells #[.slice a n cap, .int .i64 0, .int .i64 h] 104)) w.heap.size := by
 refine ⟨a, n, cap, 0, h, hn, Nat.zero_le _, heap_alloc_new w _, ?_⟩
 rcases hB with h0 | ⟨b, off, e, hl, hx⟩
 ·exact .inl h0
 ·refine .inr ⟨b, off, e, hl, fun j hj => ?_⟩
  obtain ⟨x, hx1, hx2⟩ := hx j hj
  exact ⟨x, hx1, (World.grownBy_alloc w _ none).cell hx2 (fun e => by cases e)⟩
theorem newCur (a : Option Addr) (n cap : Nat) (w : World) (hn : n ≤ 1048576) (hB : Bs w a n) :
  Calls Tryd.prog 26 #[.slice a n cap] w fun e w' => e = .returned (.pointer (some ⟨w.heap.size, 0, none⟩)) ∧ Cur w' w.heap.size ∧ w.grownBy w' none := by
 have HB := hide hB
 clear hB
 go_enter Tryd.func26, Tryd.ntmps26
 go_wp2
 go_loop [3, 4] (fun h i => ∃ (k : Nat) (H : Int), k ≤ n ∧ i = .int .i64 k ∧ h = .int .i64 H) (fun _ i => n - (intOf i).toNat)
 case atStart => exact ⟨0, _, Nat.zero_le _, rfl, rfl⟩
 case round =>
  obtain ⟨k, H, hk, rfl, rfl⟩ := hrel
  by_cases hlt : k < n
  ·have hi' : (k : Int) < (n : Int) := by omega
   by_cases h4 : k < 4000
   ·have h4' : (k : Int) < 4000 := by omega
    rcases unhide HB with h0 | ⟨b, off, rfl, hl, hx⟩
    ·omega
    ·obtain ⟨x, hx1, hx2⟩ := hx k hlt
     clear hx
     go_wp2
     go_round
     case rel => exact ⟨k + 1, _, by omega, by go_num, rfl⟩
     case measure => simp [intOf]; omega
   ·have h4' : decide ((k : Int) < 4000) = false := decide_eq_false (by omega)
    go_wp2
    go_ret
    exact ⟨rfl, new_cur _ _ _ _ _ hn (unhide HB), World.grownBy_alloc _ _ _⟩
  ·have hi' : decide ((k : Int) < (n : Int)) = false := decide_eq_false (by omega)
   go_wp2
   go_ret
   exact ⟨rfl, new_cur _ _ _ _ _ hn (unhide HB), World.grownBy_alloc _ _ _⟩
theorem own_alloc (w : World) (L : List Int) (hL : L.length ≤ maxLen) : (w.alloc (.cells (ints L).toArray 3)).ownsRow w.heap.size 3 1 (.slice (some ⟨w.heap.size, 0, none⟩) L.length L.length) L.length (ints L) :=
 World.ownsRow_lit w (ints L).toArray L.length (Nat.le_refl _) hL (by simp [ints])
theorem grown_new {a b d : World} {r : Nat} (h : a.grownBy b none) (k : b.grownBy d (some r)) (hr : a.heap.size ≤ r) : a.grownBy d none :=
 ⟨k.os.trans h.os, k.tape.trans h.tape, k.output.trans h.output, Nat.le_trans h.size k.size, fun i hi _ => (k.block i (Nat.lt_of_lt_of_le hi h.size) (fun e => by injection e with e; omega)).trans (h.block i hi (fun e => by cases e))⟩
theorem big (a : Option Addr) (n cap : Nat) (w : World) (hn : n ≤ 9223372036854775807) : Calls Tryd.prog 4 #[.slice a n cap] w fun e w' => e = .returned (.bool (decide (1048576 < n))) ∧ w' = w := by
 by_cases h : 1048576 < n
 ·rw [decide_eq_true h]
  have h' : (1048576 : Int) < (n : Int) := by omega
  go_enter Tryd.func4, Tryd.ntmps4
  go_wp2
  go_ret
  exact ⟨rfl, rfl⟩
 ·rw [decide_eq_false h]
  have h' : ¬ (1048576 : Int) < (n : Int) := by omega
  go_enter Tryd.func4, Tryd.ntmps4
  go_wp2
  go_ret
  exact ⟨rfl, rfl⟩
end Go.Proofs.YtfhmdpbnnieohaaDoor.draw
