/- The cursor that the laws draw their inputs with: it answers numbers within their bounds and writes into its own block alone; what is drawn is left open. -/
import Derived.Test.YtnlllcgcaddhmaaGreatDoorJXSl
import Derived.Laws.BitsLemmas
import Derived.Test.YtnlllcgcaddhmaaGreatDoorJOn
import Derived.Deep.LoopGhost
import Derived.Deep.CutRange
import Derived.Deep.CutBlock
import Derived.Test.YtnlllcgcaddhmaaGreatDoorJXAn
import Derived.Test.YtnlllcgcaddhmaaGreatDoorJUp
import Derived.Test.YtnlllcgcaddhmaaGreatDoorJUe
namespace Go.Proofs.YtnlllcgcaddhmaaGreatDoor.draw
open Go.ChangeShapes Go.WideShapes Go.ChangeAt Go.RowKit
open sl (Sl ints hide unhide ret_int ret_bool grown_refl grown_trans grown_trans' grown_drewN)
set_option linter.unusedVariables false
theorem and255 (n : Int) : bits .and .i64 n 255 = n % 256 := by
 have h255 : (BitVec.ofInt 64 255).toNat = 2 ^ 8 - 1 := by decide
 have key : (BitVec.ofInt 64 n &&& BitVec.ofInt 64 255).toNat = (n % ((2 ^ 64 : Nat) : Int)).toNat % 2 ^ 8 := by
  rw [BitVec.toNat_and, BitVec.toNat_ofInt, h255, Nat.and_two_pow_sub_one_eq_mod]
 show IntKind.i64.wrap ((BitVec.ofInt 64 n &&& BitVec.ofInt 64 255).toNat : Nat) = n % 256
 rw [key, IntKind.wrap_i64]
 omega
theorem and255_bd (n : Int) : 0 ≤ bits .and .i64 n 255 ∧ bits .and .i64 n 255 ≤ 255 := by
 rw [and255]
 omega
def Cur (w : World) (c : Nat) : Prop :=
 ∃ (a : Option Addr) (n cap i : Nat) (h : Int), n ≤ 1048576 ∧ i ≤ n ∧ w.heap[c]? = some (.cells #[.slice a n cap, .int .i64 i, .int .i64 h] 87 (0, 0)) ∧
  (n = 0 ∨ ∃ b off, a = some ⟨b, off, none⟩ ∧ b < c ∧ ∀ j, j < n → ∃ x : Nat, x ≤ 255 ∧ w.cell? ⟨b, off + j, none⟩ = some (.int .u8 (x : Int)))
theorem Cur.lt {w : World} {c : Nat} (h : Cur w c) : c < w.heap.size := by
 obtain ⟨a, n, cap, i, h, _, _, hb, _⟩ := h
 exact (Array.getElem?_eq_some_iff.1 hb).1
theorem Cur.kept {w w' : World} {c : Nat} {row : Option Nat} (h : Cur w c) (g : w.grownBy w' row) (hr : ∀ r, row = some r → c < r) : Cur w' c := by
 have hlt := h.lt
 obtain ⟨a, n, cap, i, h, hn, hi, hb, hx⟩ := h
 refine ⟨a, n, cap, i, h, hn, hi, (g.block c hlt (fun e => by have := hr c e.symm; omega)).trans hb, ?_⟩
 rcases hx with hx | ⟨b, off, e, hbc, hx⟩
 ·exact .inl hx
 ·refine .inr ⟨b, off, e, hbc, fun j hj => ?_⟩
  obtain ⟨x, hx1, hx2⟩ := hx j hj
  exact ⟨x, hx1, g.cell hx2 (fun e => by have := hr b e.symm; omega)⟩
theorem cells3 {w : World} {c : Nat} {x y z : Value} {t : TypeId} (h : w.heap[c]? = some (.cells #[x, y, z] t (0, 0))) :
  w.cell? ⟨c, 0, none⟩ = some x ∧ w.cell? ⟨c, 1, none⟩ = some y ∧ w.cell? ⟨c, 2, none⟩ = some z ∧ ∀ j, w.frozen? ⟨c, j, none⟩ = false := by
 refine ⟨by simp [World.cell?, h], by simp [World.cell?, h], by simp [World.cell?, h], fun j => by simp [World.frozen?, h]⟩
theorem set3_1 {w : World} {c : Nat} {x y z u : Value} {t : TypeId} (h : w.heap[c]? = some (.cells #[x, y, z] t (0, 0))) : (w.setCell ⟨c, 1, none⟩ u).heap[c]? = some (.cells #[x, u, z] t (0, 0)) := by
 simp [World.setCell, Array.getElem?_modify, h]
theorem set3_2 {w : World} {c : Nat} {x y z u : Value} {t : TypeId} (h : w.heap[c]? = some (.cells #[x, y, z] t (0, 0))) : (w.setCell ⟨c, 2, none⟩ u).heap[c]? = some (.cells #[x, y, u] t (0, 0)) := by
 simp [World.setCell, Array.getElem?_modify, h]
theorem grown_drew (w : World) (q : Nat) (r : Option Nat) : w.grownBy (w.drewN q) r := ⟨rfl, rfl, rfl, Nat.le_refl _, fun _ _ _ => rfl⟩
theorem grown_one (w : World) (c q : Nat) (u : Value) : w.grownBy ((w.setCell ⟨c, 2, none⟩ u).drewN q) (some c) :=
 grown_trans' (sl.grown_setCell w c 2 u) (grown_drew _ q _)
theorem grown_two (w : World) (c q : Nat) (u u' : Value) : w.grownBy (((w.setCell ⟨c, 2, none⟩ u).drewN q).setCell ⟨c, 1, none⟩ u') (some c) :=
 grown_trans' (grown_one w c q u) (sl.grown_setCell _ c 1 u')
theorem old_cell {w w' : World} {c b off n : Nat} (g : w.grownBy w' (some c)) (hbc : b < c) (hx : ∀ j, j < n → ∃ x : Nat, x ≤ 255 ∧ w.cell? ⟨b, off + j, none⟩ = some (.int .u8 (x : Int))) :
  ∀ j, j < n → ∃ x : Nat, x ≤ 255 ∧ w'.cell? ⟨b, off + j, none⟩ = some (.int .u8 (x : Int)) := by
 intro j hj
 obtain ⟨x, hx1, hx2⟩ := hx j hj
 exact ⟨x, hx1, g.cell hx2 (fun e => by injection e with e; exact absurd e (by show b ≠ c; omega))⟩
theorem cur_one {w : World} {c : Nat} {a : Option Addr} {n cap i : Nat} {h : Int} (q : Nat) (h' : Int) (hn : n ≤ 1048576) (hi : i ≤ n) (hb : w.heap[c]? = some (.cells #[.slice a n cap, .int .i64 i, .int .i64 h] 87 (0, 0)))
  (hx : n = 0 ∨ ∃ b off, a = some ⟨b, off, none⟩ ∧ b < c ∧ ∀ j, j < n → ∃ x : Nat, x ≤ 255 ∧ w.cell? ⟨b, off + j, none⟩ = some (.int .u8 (x : Int))) :
  Cur ((w.setCell ⟨c, 2, none⟩ (.int .i64 h')).drewN q) c := by
 refine ⟨a, n, cap, i, h', hn, hi, set3_2 hb, ?_⟩
 rcases hx with h0 | ⟨b, off, e, hbc, hx⟩
 ·exact .inl h0
 ·exact .inr ⟨b, off, e, hbc, old_cell (grown_one w c q _) hbc hx⟩
theorem Cur.drew {w : World} {c : Nat} (h : Cur w c) (q : Nat) : Cur (w.drewN q) c := h.kept (grown_drew w q none) (fun r e => by cases e)
theorem cur_two {w : World} {c : Nat} {a : Option Addr} {n cap i : Nat} {h : Int} (q : Nat) (h' : Int) (hn : n ≤ 1048576) (hi : i + 1 ≤ n) (hb : w.heap[c]? = some (.cells #[.slice a n cap, .int .i64 i, .int .i64 h] 87 (0, 0)))
  (hx : n = 0 ∨ ∃ b off, a = some ⟨b, off, none⟩ ∧ b < c ∧ ∀ j, j < n → ∃ x : Nat, x ≤ 255 ∧ w.cell? ⟨b, off + j, none⟩ = some (.int .u8 (x : Int))) :
  Cur (((w.setCell ⟨c, 2, none⟩ (.int .i64 h')).drewN q).setCell ⟨c, 1, none⟩ (.int .i64 ((i : Int) + 1))) c := by
 have e1 : ((w.setCell ⟨c, 2, none⟩ (.int .i64 h')).drewN q).heap[c]? = some (.cells #[.slice a n cap, .int .i64 i, .int .i64 h'] 87 (0, 0)) := set3_2 hb
 refine ⟨a, n, cap, i + 1, h', hn, hi, ?_, ?_⟩
 ·rw [show ((i + 1 : Nat) : Int) = (i : Int) + 1 from by omega]
  exact set3_1 e1
 ·rcases hx with h0 | ⟨b, off, e, hbc, hx⟩
  ·exact .inl h0
  ·exact .inr ⟨b, off, e, hbc, old_cell (grown_two w c q _ _) hbc hx⟩
set_option maxHeartbeats 400000 in
theorem byte (c : Nat) (w : World) (hc : Cur w c) :
  Calls Tryz.prog 98 #[.pointer (some ⟨c, 0, none⟩)] w fun e w' => ∃ x : Int, e = .returned (.int .i64 x) ∧ 0 ≤ x ∧ x ≤ 255 ∧ Cur w' c ∧ w.grownBy w' (some c) := by
 obtain ⟨a, n, cap, i, h, hn, hi, hb, hx⟩ := hc
 obtain ⟨c0, c1, c2, cf⟩ := cells3 hb
 have f1 := cf 1
 have f2 := cf 2
 have HB := hide hb
 have HX := hide hx
 clear hb hx cf
 by_cases hlt : i < n
 ·rcases unhide HX with h0 | ⟨b, off, rfl, hbc, hx⟩
  ·omega
  ·have HXX := hide hx
   obtain ⟨x, hx1, hx2⟩ := hx i hlt
   have hlt' : (i : Int) < (n : Int) := by omega
   clear hx HX
   go_enter Tryz.func98, Tryz.ntmps98
   go_wp2
   go_quiet (fail)
   go_wp2
   go_quiet (fail)
   go_wp2
   go_quiet (fail)
   go_wp2
   go_ret
   exact ⟨_, rfl, (and255_bd _).1, (and255_bd _).2, cur_two _ _ hn hlt (unhide HB) (.inr ⟨b, off, rfl, hbc, unhide HXX⟩), grown_two w c _ _ _⟩
 ·have hlt' : ¬ (i : Int) < (n : Int) := by omega
  go_enter Tryz.func98, Tryz.ntmps98
  go_wp2
  go_quiet (fail)
  go_wp2
  go_quiet (fail)
  go_wp2
  go_ret
  exact ⟨_, rfl, (and255_bd _).1, (and255_bd _).2, Cur.drew (cur_one _ _ hn hi (unhide HB) (unhide HX)) _, grown_trans' (grown_one w c _ _) (grown_drew _ _ _)⟩
theorem below (c : Nat) (n : Int) (w : World) (hc : Cur w c) (n0 : 0 < n) (n1 : n ≤ 1073741824) :
  Calls Tryz.prog 60 #[.pointer (some ⟨c, 0, none⟩), .int .i64 n] w fun e w' => ∃ x : Int, e = .returned (.int .i64 x) ∧ 0 ≤ x ∧ x < n ∧ Cur w' c ∧ w.grownBy w' (some c) := by
 have HC := hide hc
 clear hc
 have m0 : ¬ n ≤ 0 := by omega
 by_cases h : n ≤ 256
 ·go_enter Tryz.func60, Tryz.ntmps60
  go_wp2_with fail
  refine (byte c _ (unhide HC)).mono ?_; rintro e w1 ⟨x, rfl, x0, x1, hc1, g1⟩
  have HC1 := hide hc1
  have G1 := hide g1
  clear hc1 g1
  go_wp2_with fail
  go_ret
  exact ⟨_, rfl, Int.emod_nonneg _ (by omega), Int.emod_lt_of_pos _ n0, unhide HC1, unhide G1⟩
 ·go_enter Tryz.func60, Tryz.ntmps60
  go_wp2_with fail
  refine (byte c _ (unhide HC)).mono ?_; rintro e w1 ⟨x, rfl, x0, x1, hc1, g1⟩
  have HC1 := hide hc1
  have G1 := hide g1
  clear hc1 g1 HC
  go_wp2_with fail
  refine (byte c _ (unhide HC1)).mono ?_; rintro e w2 ⟨y, rfl, y0, y1, hc2, g2⟩
  have HC2 := hide hc2
  have G2 := hide (grown_trans' (unhide G1) g2)
  clear hc2 g2 HC1 G1
  go_wp2_with fail
  refine (byte c _ (unhide HC2)).mono ?_; rintro e w3 ⟨z, rfl, z0, z1, hc3, g3⟩
  have HC3 := hide hc3
  have G3 := hide (grown_trans' (unhide G2) g3)
  clear hc3 g3 HC2 G2
  go_wp2_with fail
  refine (byte c _ (unhide HC3)).mono ?_; rintro e w4 ⟨q, rfl, q0, q1, hc4, g4⟩
  have HC4 := hide hc4
  have G4 := hide (grown_trans' (unhide G3) g4)
  clear hc4 g4 HC3 G3
  go_wp2_with fail
  go_ret
  exact ⟨_, rfl, Int.emod_nonneg _ (by omega), Int.emod_lt_of_pos _ n0, unhide HC4, unhide G4⟩
theorem once (c : Nat) (n : Int) (w : World) (hc : Cur w c) (n0 : 0 < n) (n1 : n ≤ 1073741824) :
  Calls Tryz.prog 42 #[.pointer (some ⟨c, 0, none⟩), .int .i64 n] w fun e w' => ∃ b : Bool, e = .returned (.bool b) ∧ Cur w' c ∧ w.grownBy w' (some c) := by
 have HC := hide hc
 clear hc
 go_enter Tryz.func42, Tryz.ntmps42
 go_wp2_with fail
 refine (below c n _ (unhide HC) n0 n1).mono ?_; rintro e w1 ⟨x, rfl, x0, x1, hc1, g1⟩
 have HC1 := hide hc1
 have G1 := hide g1
 clear hc1 g1
 go_wp2_with fail
 go_ret
 exact ⟨_, rfl, unhide HC1, unhide G1⟩
theorem pickInt (c : Nat) (v : Value) (L : List Int) (w : World) (hc : Cur w c) (hL : 0 < L.length) (hL1 : L.length ≤ 1048576) (hv : Sl w v L) (hb : ∀ k, v.ownBlock = some k → c < k) :
  Calls Tryz.prog 87 #[.pointer (some ⟨c, 0, none⟩), v] w fun e w' => ∃ x : Int, e = .returned (.int .i64 x) ∧ x ∈ L ∧ Cur w' c ∧ w.grownBy w' (some c) := by
 have hv' := hv
 obtain ⟨a, cap, rfl, ha⟩ := hv
 rcases ha with rfl | ⟨b, off, rfl, hbs, hcb⟩
 ·simp at hL
 ·have HC := hide hc
  have HB := hide hcb
  have hbc : c < b := hb b rfl
  clear hc hcb hv' hb
  go_enter Tryz.func87, Tryz.ntmps87
  go_wp2_with fail
  refine (below c _ _ (unhide HC) (by omega) (by omega)).mono ?_; rintro e w1 ⟨x, rfl, x0, x1, hc1, g1⟩
  obtain ⟨j, rfl⟩ := Int.eq_ofNat_of_zero_le x0
  have hj : j < L.length := by omega
  have c1 : w1.cell? ⟨b, off + j, none⟩ = some (.int .i64 (L.getD j 0)) := g1.cell (unhide HB j hj) (fun e => by injection e with e; exact absurd e (by show b ≠ c; omega))
  have hm : L.getD j 0 ∈ L := by rw [show L.getD j 0 = L[j] by simp [hj]]; exact List.getElem_mem hj
  generalize L.getD j 0 = y at *
  have HM := hide hm
  have HC1 := hide hc1
  have G1 := hide g1
  clear hc1 g1 hm HB HC
  go_wp2_with fail
  go_ret
  exact ⟨_, rfl, unhide HM, unhide HC1, unhide G1⟩
def Bs (w : World) (a : Option Addr) (n : Nat) : Prop := n = 0 ∨ ∃ b off, a = some ⟨b, off, none⟩ ∧ b < w.heap.size ∧ ∀ j, j < n → ∃ x : Nat, x ≤ 255 ∧ w.cell? ⟨b, off + j, none⟩ = some (.int .u8 (x : Int))
theorem Bs.below {w w' : World} {a : Option Addr} {n : Nat} (h : Bs w a n) (hb : Below w.heap.size w w') : Bs w' a n := by
 rcases h with h | ⟨b, off, e, hl, hx⟩
 ·exact .inl h
 ·refine .inr ⟨b, off, e, Nat.lt_of_lt_of_le hl hb.size, fun j hj => ?_⟩
  obtain ⟨x, hx1, hx2⟩ := hx j hj
  exact ⟨x, hx1, (hb.cell (p := ⟨b, off + j, none⟩) hl).trans hx2⟩
theorem of_rowB {w : World} {a : Option Addr} {len cap : Nat} {zs : List Int}
  (h : (a = none ∧ len = 0 ∧ cap = 0 ∧ zs = []) ∨ ∃ x, a = some x ∧ len ≤ cap ∧ cap ≤ maxLen ∧ zs.length = cap ∧ (∀ i, i < zs.length → w.cell? (x.add i) = some (.int .u8 (zs.getD i 0))) ∧ ∀ n ∈ zs, (Lit.int .u8 n).wf = true) :
  Bs w a len := by
 rcases h with ⟨rfl, rfl, rfl, rfl⟩ | ⟨x, rfl, hl, hm, hz, hc, hw⟩
 ·exact .inl rfl
 ·by_cases h0 : len = 0
  ·exact .inl h0
  ·obtain ⟨b, off, spot⟩ := x
   have h1 := hc 0 (by omega)
   have hs : spot = none := by simpa [Addr.add] using World.cell?_spot h1
   subst hs
   refine .inr ⟨b, off, rfl, World.block_lt_of_cell? w _ h1, fun j hj => ?_⟩
   have h2 := hc j (by omega)
   rw [Addr.add_lit] at h2
   have hm : zs.getD j 0 ∈ zs := by rw [show zs.getD j 0 = zs[j]'(by omega) by simp [show j < zs.length by omega]]; exact List.getElem_mem _
   have h3 := hw _ hm
   have h4 : 0 ≤ zs.getD j 0 ∧ zs.getD j 0 ≤ 255 := by simpa [Lit.wf, IntKind.min, IntKind.max, IntKind.signed, IntKind.bits] using h3
   exact ⟨(zs.getD j 0).toNat, by omega, by rw [h2]; congr 2; omega⟩
theorem new_cur (w : World) (a : Option Addr) (n cap : Nat) (h : Int) (hn : n ≤ 1048576) (hB : Bs w a n) : Cur (w.alloc (.cells #[.slice a n cap, .int .i64 0, .int .i64 h] 87)) w.heap.size := by
 refine ⟨a, n, cap, 0, h, hn, Nat.zero_le _, heap_alloc_new w _, ?_⟩
 rcases hB with h0 | ⟨b, off, e, hl, hx⟩
 ·exact .inl h0
 ·refine .inr ⟨b, off, e, hl, fun j hj => ?_⟩
  obtain ⟨x, hx1, hx2⟩ := hx j hj
  exact ⟨x, hx1, (World.grownBy_alloc w _ none).cell hx2 (fun e => by cases e)⟩
theorem newCur (a : Option Addr) (n cap : Nat) (w : World) (hn : n ≤ 1048576) (hB : Bs w a n) :
  Calls Tryz.prog 29 #[.slice a n cap] w fun e w' => e = .returned (.pointer (some ⟨w.heap.size, 0, none⟩)) ∧ Cur w' w.heap.size ∧ w.grownBy w' none := by
 have HB := hide hB
 clear hB
 go_enter Tryz.func29, Tryz.ntmps29
 go_wp2
 go_loop [3, 4] (fun h i => ∃ (k : Nat) (H : Int), k ≤ n ∧ i = .int .i64 k ∧ h = .int .i64 H) (fun _ i => n - (intOf i).toNat)
 case atStart => exact ⟨0, _, Nat.zero_le _, rfl, rfl⟩
 case round =>
  obtain ⟨k, H, hk, rfl, rfl⟩ := hrel
  by_cases hlt : k < n
  ·have hi' : (k : Int) < (n : Int) := by omega
   by_cases h4 : k < 4000
   ·have h4' : (k : Int) < 4000 := by omega
    rcases unhide HB with h0 | ⟨b, off, rfl, hl, hx⟩
    ·omega
    ·obtain ⟨x, hx1, hx2⟩ := hx k hlt
     clear hx
     go_wp2
     go_round
     case rel => exact ⟨k + 1, _, by omega, by go_num, rfl⟩
     case measure => simp [intOf]; omega
   ·have h4' : decide ((k : Int) < 4000) = false := decide_eq_false (by omega)
    go_wp2
    go_ret
    exact ⟨rfl, new_cur _ _ _ _ _ hn (unhide HB), World.grownBy_alloc _ _ _⟩
  ·have hi' : decide ((k : Int) < (n : Int)) = false := decide_eq_false (by omega)
   go_wp2
   go_ret
   exact ⟨rfl, new_cur _ _ _ _ _ hn (unhide HB), World.grownBy_alloc _ _ _⟩
theorem own_alloc (w : World) (L : List Int) (hL : L.length ≤ maxLen) : (w.alloc (.cells (ints L).toArray 3)).ownsRow w.heap.size 3 1 (.slice (some ⟨w.heap.size, 0, none⟩) L.length L.length) L.length (ints L) :=
 World.ownsRow_lit w (ints L).toArray L.length (Nat.le_refl _) hL (by simp [ints])
theorem grown_new {a b d : World} {r : Nat} (h : a.grownBy b none) (k : b.grownBy d (some r)) (hr : a.heap.size ≤ r) : a.grownBy d none :=
 ⟨k.os.trans h.os, k.tape.trans h.tape, k.output.trans h.output, Nat.le_trans h.size k.size, fun i hi _ => (k.block i (Nat.lt_of_lt_of_le hi h.size) (fun e => by injection e with e; omega)).trans (h.block i hi (fun e => by cases e))⟩
theorem big (a : Option Addr) (n cap : Nat) (w : World) (hn : n ≤ 9223372036854775807) : Calls Tryz.prog 5 #[.slice a n cap] w fun e w' => e = .returned (.bool (decide (1048576 < n))) ∧ w' = w := by
 by_cases h : 1048576 < n
 ·rw [decide_eq_true h]
  have h' : (1048576 : Int) < (n : Int) := by omega
  go_enter Tryz.func5, Tryz.ntmps5
  go_wp2
  go_ret
  exact ⟨rfl, rfl⟩
 ·rw [decide_eq_false h]
  have h' : ¬ (1048576 : Int) < (n : Int) := by omega
  go_enter Tryz.func5, Tryz.ntmps5
  go_wp2
  go_ret
  exact ⟨rfl, rfl⟩
end Go.Proofs.YtnlllcgcaddhmaaGreatDoor.draw
namespace Go.Proofs.YtnlllcgcaddhmaaGreatDoor.dcls
open Go.ChangeShapes Go.WideShapes Go.ChangeAt Go.RowKit
open sl (Sl ints hide unhide grown_refl grown_trans grown_trans' of_below below_of grown_drewN)
open draw (Cur Bs newCur grown_new)
open wo (Made)
set_option linter.unusedVariables false
def MadeC (c : Nat) (w w1 : World) (v : Value) (M : List Int) : Prop := w1.ownsRow w.heap.size 3 1 v M.length (ints M) ∧ w.grownBy w1 (some c) ∧ Cur w1 c
theorem MadeC.form {c : Nat} {w w1 : World} {v : Value} {M : List Int} (h : MadeC c w w1 v M) : ∃ a cap, v = .slice a M.length cap := by
 obtain ⟨a, cap, e, _⟩ := Sl.of_own h.1
 exact ⟨a, cap, e⟩
theorem MadeC.turn {c : Nat} {w wr w1 : World} {v : Value} {M : List Int} (h : MadeC c w wr v M) (hc : c < w.heap.size) (g : wr.grownBy w1 (some c)) (hcur : Cur w1 c) : MadeC c w w1 v M := by
 refine ⟨h.1.kept g (.inr (fun e => ?_)), grown_trans' h.2.1 g, hcur⟩
 have := (h.1.lt c e).1
 omega
theorem MadeC.start (c : Nat) (w : World) (h : Cur w c) : MadeC c w (w.alloc (.cells #[] 3)) (.slice (some ⟨w.heap.size, 0, none⟩) 0 0) [] :=
 ⟨(app.made_nil w).1, World.grownBy_alloc _ _ _, h.kept (World.grownBy_alloc w _ none) (fun r e => by cases e)⟩
theorem MadeC.grow {c : Nat} {w wr w1 : World} {v v' : Value} {M : List Int} {y : Int} {o : Obj} (h : MadeC c w wr v M) (hc : c < w.heap.size)
  (hown' : w1.ownsRow w.heap.size 3 1 v' (M.length + 1) (ints M ++ [.int .i64 y])) (hgrow : (wr.alloc o).grownBy w1 v.ownBlock) : MadeC c w w1 v' (M ++ [y]) := by
 obtain ⟨hown, hg, hcur⟩ := h
 refine ⟨?_, ⟨hgrow.os.trans hg.os, hgrow.tape.trans hg.tape, hgrow.output.trans hg.output, ?_, fun k hk hne => ?_⟩, ?_⟩
 ·have e1 : (M ++ [y]).length = M.length + 1 := by simp
  have e2 : ints (M ++ [y]) = ints M ++ [.int .i64 y] := by simp [ints]
  rw [e1, e2]
  exact hown'
 ·have h1 := hgrow.size
  have h2 := hg.size
  simp at h1
  omega
 ·have h2 := hg.size
  rw [hgrow.block k (by simp; omega) ?_, Below.heap_alloc _ _ _ (by omega)]
  ·exact hg.block k hk hne
  ·intro e
   have := (hown.lt k e.symm).1
   omega
 ·refine (hcur.kept (World.grownBy_alloc wr o none) (fun r e => by cases e)).kept hgrow (fun r e => ?_)
  have := (hown.lt r e).1
  omega
theorem appendC {ops : Array Oper} {rest : List Oper} {o : Oper} {a : Act} {Q : Exit → Act → World → Prop} {c : Nat} {w wr : World} {v : Value} {M : List Int} {y : Int}
  (hm : MadeC c w wr v M) (hc : c < w.heap.size) (hM : M.length ≤ 4194304) (hgd : o.guard = none) (s x : Operand)
  (ho : o.op = .call { callee := .builtin .append, args := #[s, x], argTypes := #[34, 34] }) (hs : a.eval s = v) (hx : a.eval x = .slice (some ⟨wr.heap.size, 0, none⟩) 1 1)
  (h : ∀ v' w1, MadeC c w w1 v' (M ++ [y]) → wpList Tryz.prog ops Q rest (a.put o.dst v') w1) :
  wpList Tryz.prog ops Q (o :: rest) a (wr.alloc (.cells #[.int .i64 y] 3)) := by
 obtain ⟨i0, hi, hz0, hz1, hz2⟩ := info_parts sl.info3
 have hown := hm.1
 have hsz := hm.2.1.size
 refine wpList_append_own _ hgd s x 34 ho w.heap.size 3 i0 (.int .i64 0) 1 8 Tryz.underlying34 hi hz0 hz1 hz2 rfl (by decide) v M.length (ints M) hs (hown.alloc _) ⟨wr.heap.size, 0, none⟩ 1 1 [.int .i64 y] hx rfl ?_ ?_ ?_ ?_ ?_ ?_
 ·intro j u hj
  match j, hj with
  | 0, hj => simp at hj; subst hj; simp [Addr.add]
 ·intro u hu
  simp at hu
  subst hu
  rfl
 ·unfold maxLen
  omega
 ·omega
 ·simp
  omega
 ·intro v' w1 hown' hgrow _
  exact h v' w1 (hm.grow hc hown' hgrow)
theorem sameC (v u : Value) (L : List Int) (w : World) (hL : L.length ≤ 1048576) (hv : Sl w v L) (hu : Sl w u L) :
  Calls Tryz.prog 12 #[v, u] w fun e w' => e = .returned (.bool true) ∧ w.grownBy w' none := by
 obtain ⟨a, cap, rfl, ha⟩ := hv
 obtain ⟨c, cap', rfl, hc⟩ := hu
 rcases ha with rfl | ⟨b, off, rfl, hb, hcb⟩
 ·go_enter Tryz.func12, Tryz.ntmps12
  go_wp2
  refine wp_loop_rounds 1 ?_
  rw [rounds_succ]
  go_wp2
  go_ret
  exact ⟨rfl, grown_refl _⟩
 ·rcases hc with rfl | ⟨d, off', rfl, hd, hcd⟩
  ·go_enter Tryz.func12, Tryz.ntmps12
   go_wp2
   refine wp_loop_rounds 1 ?_
   rw [rounds_succ]
   go_wp2
   go_ret
   exact ⟨rfl, grown_refl _⟩
  ·have HB := hide hcb
   have HD := hide hcd
   clear hcb hcd
   go_enter Tryz.func12, Tryz.ntmps12
   go_wp2
   go_loopw [5] (fun i wr => ∃ k : Nat, k ≤ L.length ∧ i = .int .i64 k ∧ w.grownBy wr none) (fun i _ => L.length - (intOf i).toNat)
   case atStart => exact ⟨0, Nat.zero_le _, rfl, grown_refl _⟩
   case round =>
    obtain ⟨k, hk, rfl, hg⟩ := hrel
    by_cases hlt : k < L.length
    ·have c1 : wr.cell? ⟨b, off + k, none⟩ = some (.int .i64 (L.getD k 0)) := hg.cell (unhide HB k hlt) (fun e => by cases e)
     have c2 : wr.cell? ⟨d, off' + k, none⟩ = some (.int .i64 (L.getD k 0)) := hg.cell (unhide HD k hlt) (fun e => by cases e)
     have hi : (k : Int) < (L.length : Int) := by omega
     have G := hide hg
     clear hg
     go_wp2
     go_quiet (fail)
     go_wp2
     go_roundw
     case rel => exact ⟨k + 1, by omega, by go_num, grown_trans (unhide G) (grown_drewN _ _)⟩
     case measure => simp [intOf]; omega
    ·have hi : ¬ (k : Int) < (L.length : Int) := by omega
     have G := hide hg
     clear hg
     go_wp2
     go_ret
     exact ⟨rfl, unhide G⟩
end Go.Proofs.YtnlllcgcaddhmaaGreatDoor.dcls
namespace Go.Proofs.YtnlllcgcaddhmaaGreatDoor.dva
open Go.ChangeShapes Go.WideShapes Go.ChangeAt Go.RowKit
open sl (Sl ints hide unhide grown_refl grown_trans grown_trans' of_below below_of grown_drewN)
open draw (Cur Bs newCur grown_new)
open wo (Made)
set_option linter.unusedVariables false
set_option maxHeartbeats 400000 in
theorem at_ (a : Option Addr) (n cap : Nat) (i : Int) (w : World) (hn : n ≤ 1048576) (i0 : 0 ≤ i) (i1 : i ≤ 1000) (hB : Bs w a n) :
  Calls Tryz.prog 8 #[.slice a n cap, .int .i64 i] w fun e w' => ∃ x : Int, e = .returned (.int .i64 x) ∧ 0 ≤ x ∧ x ≤ 255 ∧ w' = w := by
 obtain ⟨k, rfl⟩ := Int.eq_ofNat_of_zero_le i0
 by_cases h : k < n
 ·rcases hB with h0 | ⟨b, off, rfl, hb, hx⟩
  ·omega
  ·obtain ⟨x, hx1, c1⟩ := hx k h
   have hi : (k : Int) < (n : Int) := by omega
   clear hx
   go_enter Tryz.func8, Tryz.ntmps8
   go_wp2
   go_ret
   exact ⟨_, rfl, by omega, by omega, rfl⟩
 ·have hi : decide ((k : Int) < (n : Int)) = false := decide_eq_false (by omega)
  clear hB
  go_enter Tryz.func8, Tryz.ntmps8
  go_wp2
  go_ret
  refine ⟨_, rfl, ?_, ?_, rfl⟩
  ·omega
  ·omega
end Go.Proofs.YtnlllcgcaddhmaaGreatDoor.dva
namespace Go.Proofs.YtnlllcgcaddhmaaGreatDoor.dcn
open Go.ChangeShapes Go.WideShapes Go.ChangeAt Go.RowKit
open sl (Sl Own ints hide unhide grown_refl grown_trans grown_trans' of_below below_of grown_drewN)
open css (Sls OwnS tot)
open cf (Box)
open draw (Cur Bs newCur grown_new)
open dcls (MadeC MadeC.start appendC)
set_option linter.unusedVariables false
theorem ownS_turn {lo hi c : Nat} {w w1 : World} {v : Value} {M : List (List Int)} (h : OwnS lo hi w v M) (hc : c < lo) (g : w.grownBy w1 (some c)) : OwnS lo hi w1 v M := by
 have kp : ∀ (t : TypeId) (p : Value) (n : Nat) (xs : List Value), w.ownsRow lo t 1 p n xs → w1.ownsRow lo t 1 p n xs := fun t p n xs h => h.kept g (by
  cases e : p.ownBlock with
  | none => exact .inl rfl
  | some k => exact .inr (fun e' => by cases e'; have := (h.lt _ e).1; omega))
 obtain ⟨D, e, ho, hb, hin, hp⟩ := h
 exact ⟨D, e, kp _ _ _ _ ho, hb, fun p hp => ⟨kp _ _ _ _ (hin p hp).1, (hin p hp).2⟩, hp⟩
def MidD (c : Nat) (w wr : World) (b : Nat) (n : Int) (M : List (List Int)) (Bs : List (Nat × Value × Value)) (hi : Nat) : Prop :=
 w.heap.size ≤ b ∧ c < w.heap.size ∧ w.grownBy wr (some c) ∧ Cur wr c ∧ hi ≤ wr.heap.size ∧ (∀ p ∈ Bs, p.1 ≠ b ∧ p.1 ≠ c ∧ Box 26 wr p.1 p.2.1 p.2.2) ∧ ∃ a cap, Box 26 wr b (.int .i64 n) (.slice a M.length cap) ∧ OwnS w.heap.size hi wr (.slice a M.length cap) M
theorem MidD.turn {c : Nat} {w wr w1 : World} {b : Nat} {n : Int} {M : List (List Int)} {Bs : List (Nat × Value × Value)} {hi : Nat} (h : MidD c w wr b n M Bs hi) (g : wr.grownBy w1 (some c)) (hcur : Cur w1 c) : MidD c w w1 b n M Bs hi := by
 obtain ⟨hb, hc, hg, _, hh, hB, a, cap, bx, ho⟩ := h
 exact ⟨hb, hc, grown_trans' hg g, hcur, Nat.le_trans hh g.size, fun p hp => ⟨(hB p hp).1, (hB p hp).2.1, (hB p hp).2.2.by g (fun e => (hB p hp).2.1 (by cases e; rfl))⟩, a, cap, bx.by g (fun e => by cases e; omega), ownS_turn ho hc g⟩
theorem MidD.cur {c : Nat} {w wr : World} {b : Nat} {n : Int} {M : List (List Int)} {Bs : List (Nat × Value × Value)} {hi : Nat} (h : MidD c w wr b n M Bs hi) : Cur wr c := h.2.2.2.1
theorem MidD.grown {c : Nat} {w wr : World} {b : Nat} {n : Int} {M : List (List Int)} {Bs : List (Nat × Value × Value)} {hi : Nat} (h : MidD c w wr b n M Bs hi) : w.grownBy wr (some c) := h.2.2.1
theorem MidD.c0 {c : Nat} {w wr : World} {b : Nat} {n : Int} {M : List (List Int)} {Bs : List (Nat × Value × Value)} {hi : Nat} (h : MidD c w wr b n M Bs hi) : wr.cell? ⟨b, 0, none⟩ = some (.int .i64 n) := by
 obtain ⟨_, _, _, _, _, _, a, cap, bx, _⟩ := h
 exact bx.c0
theorem MidD.step {c : Nat} {w wr w1 : World} {b : Nat} {n : Int} {M : List (List Int)} {Bs : List (Nat × Value × Value)} {hi : Nat} {L : List Int} {a : Option Addr} {cap g cap' : Nat} {u : Value}
  (hb : w.heap.size ≤ b) (hc : c < w.heap.size) (hg : w.grownBy wr (some c)) (hcur : Cur wr c) (hB : ∀ p ∈ Bs, p.1 ≠ b ∧ p.1 ≠ c ∧ Box 26 wr p.1 p.2.1 p.2.2) (bx : Box 26 wr b (.int .i64 n) (.slice a M.length cap)) (ho : OwnS w.heap.size hi wr (.slice a M.length cap) M)
  (h1 : OwnS w.heap.size w1.heap.size w1 (.slice (some ⟨g, 0, none⟩) (M.length + 1) cap') (M ++ [L])) (g1 : (wr.alloc (.cells #[u] 34)).grownBy w1 (Value.slice a M.length cap).ownBlock) :
  (w1.cell? ⟨b, 1, none⟩ = some (.slice a M.length cap) ∧ w1.frozen? ⟨b, 1, none⟩ = false) ∧ MidD c w (w1.setCell ⟨b, 1, none⟩ (.slice (some ⟨g, 0, none⟩) (M.length + 1) cap')) b n (M ++ [L]) Bs w1.heap.size := by
 have gA := World.grownBy_alloc wr (.cells #[u] 34) none
 have hb2 := bx.kept gA
 obtain ⟨D, e, hw, hbb, hin, hp⟩ := ho.kept gA
 have hb1 := hb2.by g1 (gr.box_ne hw gr.ty1 hb2)
 have hg1 : w.grownBy w1 (some c) := ⟨g1.os.trans (gA.os.trans hg.os), g1.tape.trans (gA.tape.trans hg.tape), g1.output.trans (gA.output.trans hg.output), Nat.le_trans hg.size (Nat.le_trans gA.size g1.size), fun k hk hne => by
  rw [g1.block k (Nat.lt_of_lt_of_le hk (Nat.le_trans hg.size gA.size)) (fun e => by have := (hw.lt k e.symm).1; omega), gA.block k (Nat.lt_of_lt_of_le hk hg.size) (fun e => by cases e)]
  exact hg.block k hk hne⟩
 have hcur1 : Cur w1 c := (hcur.kept gA (fun r e => by cases e)).kept g1 (fun r e => by have := (hw.lt r e).1; omega)
 have hB1 : ∀ p ∈ Bs, Box 26 w1 p.1 p.2.1 p.2.2 := by
  intro p hp'
  have hbb := (hB _ hp').2.2.kept gA
  exact hbb.by g1 (gr.box_ne hw gr.ty1 hbb)
 have gS := sl.grown_setCell w1 b 1 (.slice (some ⟨g, 0, none⟩) (M.length + 1) cap')
 refine ⟨⟨hb1.c1, hb1.f 1⟩, hb, hc, ?_, hcur1.kept gS (fun r e => by cases e; omega), by rw [cf.size_set]; exact Nat.le_refl _, fun p hp' => ⟨(hB p hp').1, (hB p hp').2.1, (hB1 p hp').setO (fun e => (hB p hp').1 e.symm)⟩, some ⟨g, 0, none⟩, cap', ?_, ?_⟩
 ·exact ⟨gS.os.trans hg1.os, gS.tape.trans hg1.tape, gS.output.trans hg1.output, Nat.le_trans hg1.size gS.size, fun k hk hne => (gS.block k (Nat.lt_of_lt_of_le hk hg1.size) (fun e => by cases e; omega)).trans (hg1.block k hk hne)⟩
 ·have := hb1.set1 (.slice (some ⟨g, 0, none⟩) (M.length + 1) cap')
  rw [List.length_append]
  exact this
 ·rw [List.length_append]
  exact gr.ownS_set h1 hb1
def Drawn (c : Nat) (w w' : World) (v : Value) (M : List (List Int)) : Prop := OwnS w.heap.size w'.heap.size w' v M ∧ w.grownBy w' (some c) ∧ Cur w' c
def good (n : Int) (L : List Int) : Bool := decide (L.length ≤ 4) && L.all fun x => decide (x ≠ 0 ∧ -n ≤ x ∧ x ≤ n)
def Right (c : Nat) (w w' : World) (most n : Int) (v : Value) (M : List (List Int)) : Prop := (1 ≤ n ∧ n ≤ most) ∧ (M.length : Int) ≤ 4 * n + 2 ∧ M.all (good n) = true ∧ Drawn c w w' v M
theorem new_some {a b d : World} {c r : Nat} (h : a.grownBy b (some c)) (k : b.grownBy d (some r)) (hr : a.heap.size ≤ r) : a.grownBy d (some c) :=
 ⟨k.os.trans h.os, k.tape.trans h.tape, k.output.trans h.output, Nat.le_trans h.size k.size, fun i hi hn => (k.block i (Nat.lt_of_lt_of_le hi h.size) (fun e => by cases e; omega)).trans (h.block i hi hn)⟩
theorem good_all {n : Int} {N : List Int} (hl : N.length ≤ 4) (h : N.all (fun x => decide (x ≠ 0 ∧ -n ≤ x ∧ x ≤ n)) = true) : good n N = true := by
 unfold good
 rw [h, decide_eq_true hl]
 rfl
theorem all_snoc {n : Int} {N : List Int} {y : Int} (h : N.all (fun x => decide (x ≠ 0 ∧ -n ≤ x ∧ x ≤ n)) = true) (hy : y ≠ 0 ∧ -n ≤ y ∧ y ≤ n) : (N ++ [y]).all (fun x => decide (x ≠ 0 ∧ -n ≤ x ∧ x ≤ n)) = true := by
 rw [List.all_append, h]
 simp [hy]
theorem allG_snoc {n : Int} {M : List (List Int)} {L : List Int} (h : M.all (good n) = true) (hy : good n L = true) : (M ++ [L]).all (good n) = true := by
 rw [List.all_append, h]
 simp [hy]
theorem midD_start {c : Nat} {w w1 : World} {n : Int} (hlt : c < w.heap.size) (hc1 : Cur w1 c) (g1 : (w.alloc (.cells #[.int .i64 0, .slice none 0 0] 26)).grownBy w1 (some c)) :
  MidD c w (w1.alloc (.cells #[.int .i64 n, .slice none 0 0] 26)) w1.heap.size n [] [(w.heap.size, .int .i64 0, .slice none 0 0)] (w1.heap.size + 1) := by
 have g0 := World.grownBy_alloc w (.cells #[.int .i64 0, .slice none 0 0] 26) (some c)
 have hb := (Box.new 26 w (.int .i64 0) (.slice none 0 0)).by g1 (fun e => by cases e; omega)
 have gA := World.grownBy_alloc w1 (.cells #[.int .i64 n, .slice none 0 0] 26)
 have hs := (grown_trans' g0 g1).size
 refine ⟨hs, hlt, grown_trans' (grown_trans' g0 g1) (gA _), hc1.kept (gA none) (fun r e => by cases e), by rw [World.size_alloc]; exact Nat.le_refl _, fun p hp => ?_, none, 0, Box.new _ _ _ _, ?_⟩
 ·rw [List.mem_singleton] at hp
  subst hp
  exact ⟨fun e => by have := hb.lt; have e' : w.heap.size = w1.heap.size := e; omega, fun e => by have e' : w.heap.size = c := e; omega, hb.kept (gA none)⟩
 ·exact ⟨[], rfl, World.ownsRow_nil _ _ _ _, fun k e => (by cases e), fun p hp => (by cases hp), .nil⟩
set_option maxRecDepth 100000 in
set_option maxHeartbeats 4000000 in
theorem cnf (c : Nat) (most : Int) (w : World) (hc : Cur w c) (m0 : 0 < most) (m1 : most ≤ 6) :
  Calls Tryz.prog 28 #[.pointer (some ⟨c, 0, none⟩), .int .i64 most] w fun e w' => ∃ (n : Int) (v : Value) (M : List (List Int)), e = .returned (.agg #[.int .i64 n, v]) ∧ Right c w w' most n v M := by
 have hlt := hc.lt
 have C0 := hide (hc.kept (World.grownBy_alloc w (.cells #[.int .i64 0, .slice none 0 0] 26) none) (fun r e => by cases e))
 clear hc
 go_enter Tryz.func28, Tryz.ntmps28
 go_wp2_with fail
 refine (draw.below c _ _ (unhide C0) m0 (by omega)).mono ?_; rintro e w1 ⟨x, rfl, x0, x1, hc1, g1⟩
 have M1 := hide (midD_start (n := 1 + x) hlt hc1 g1)
 have y0 := (unhide M1).c0
 clear hc1 g1 C0
 go_wp2_with fail
 refine (draw.below c _ _ (unhide M1).cur (by omega) (by omega)).mono ?_; rintro e w2 ⟨k, rfl, k0, k1, hc2, g2⟩
 obtain ⟨K, rfl⟩ := Int.eq_ofNat_of_zero_le k0
 have M2 := hide (((unhide M1).turn g2 hc2))
 have hw1 := (unhide M1).2.2.2.2.1
 clear hc2 g2 M1 y0 k0
 generalize hb : w1.heap.size = b at *
 clear hb
 go_wp2_with fail
 go_loopg [7] K (fun gk i wr => ∃ (M : List (List Int)), M.length ≤ K ∧ gk = K - M.length ∧ i = .int .i64 M.length ∧ Hid (M.all (good (1 + x)) = true) ∧ Hid (∃ hi, MidD c w wr b (1 + x) M [(w.heap.size, .int .i64 0, .slice none 0 0)] hi))
 case atStart => exact ⟨[], Nat.zero_le _, rfl, rfl, rfl, _, unhide M2⟩
 case round =>
  obtain ⟨M, hj, hgk, rfl, hgood, hmid⟩ := hrel
  clear M2
  obtain ⟨hi0, hm0⟩ := unhide hmid
  have HM := hide hm0
  clear hmid hm0
  by_cases hlt' : M.length < K
  ·have hij : (M.length : Int) < (K : Int) := by omega
   have ST := hide (MadeC.start c wr (unhide HM).cur)
   have hcw : c < wr.heap.size := Nat.lt_of_lt_of_le hlt (unhide HM).grown.size
   go_wp2_with fail
   refine (draw.below c _ _ (unhide ST).2.2 (by decide) (by decide)).mono ?_; rintro e w3 ⟨q, rfl, q0, q1, hc3, g3⟩
   have S3 := hide ((unhide ST).turn hcw g3 hc3)
   clear hc3 g3 ST
   go_wp2_with fail
   refine (draw.once c _ _ (unhide S3).2.2 (by decide) (by decide)).mono ?_; rintro e w4 ⟨bt, rfl, hc4, g4⟩
   have S4 := hide ((unhide S3).turn hcw g4 hc4)
   clear hc4 g4 S3
   go_upto_if 33 with fail
   go_cut [9] from 23 to 66 (fun z wx => ∃ sz : Int, z = .int .i64 sz ∧ 0 ≤ sz ∧ sz ≤ 4 ∧ Hid (MadeC c wr wx (.slice (some ⟨wr.heap.size, 0, none⟩) 0 0) []))
   case first =>
    cases bt
    ·go_wp2_with fail
     go_meet
     exact ⟨_, rfl, by omega, by omega, S4⟩
    ·go_wp2_with fail
     refine (draw.below c _ _ (unhide S4).2.2 (by decide) (by decide)).mono ?_; rintro e w5 ⟨q', rfl, q0', q1', hc5, g5⟩
     have S5 := hide ((unhide S4).turn hcw g5 hc5)
     clear hc5 g5
     go_wp2_with fail
     go_meet
     exact ⟨_, rfl, by omega, by omega, S5⟩
   case rest =>
    obtain ⟨sz, rfl, sz0, sz1, hS⟩ := hcut
    clear S4 q0 q1
    go_upto_region 10 with fail
    go_cut [42] from 23 to 66 (fun z wx => ∃ bt : Bool, z = .bool bt ∧ Hid (MadeC c wr wx (.slice (some ⟨wr.heap.size, 0, none⟩) 0 0) []))
    case first =>
     by_cases h2 : sz < 2
     ·have OC := hide (draw.once c 3 _ (unhide hS).2.2 (by decide) (by decide))
      go_wp2_with (go_at_call 42; refine (unhide OC).mono ?_; rintro e w5 ⟨bu, rfl, hc5, g5⟩; have S5 := hide ((unhide hS).turn hcw g5 hc5); clear hc5 g5)
      go_meet
      exact ⟨_, rfl, S5⟩
     ·go_wp2_with fail
      go_meet
      exact ⟨_, rfl, hS⟩
    case rest =>
     obtain ⟨bv, rfl, hS2⟩ := hcut
     rename_i wc'
     clear hS
     go_upto_if 42 with fail
     go_cut [9] from 23 to 66 (fun z wx => ∃ sz : Nat, z = .int .i64 sz ∧ sz ≤ 4 ∧ Hid (MadeC c wr wx (.slice (some ⟨wr.heap.size, 0, none⟩) 0 0) []))
     case first =>
      cases bv
      ·go_wp2_with fail
       go_meet
       exact ⟨sz.toNat, by rw [Int.toNat_of_nonneg sz0], by omega, hS2⟩
      ·go_wp2_with fail
       go_meet
       exact ⟨2, rfl, by omega, hS2⟩
     case rest =>
      obtain ⟨Z, rfl, hZ, hS3⟩ := hcut
      clear hS2 sz0 sz1
      go_wp2_with fail
      go_loopg [8, 10] Z (fun gd u d wq => ∃ (N : List Int), N.length ≤ Z ∧ gd = Z - N.length ∧ d = .int .i64 N.length ∧ Hid (N.all (fun x_1 => decide (x_1 ≠ 0 ∧ -(1 + x) ≤ x_1 ∧ x_1 ≤ 1 + x)) = true) ∧ Hid (MadeC c wr wq u N))
      case atStart => exact ⟨[], Nat.zero_le _, rfl, rfl, rfl, hS3⟩
      case round =>
       obtain ⟨N, he, hgd, rfl, hall, hS4⟩ := hrel
       clear hS3
       by_cases hlz : N.length < Z
       ·have hiz : (N.length : Int) < (Z : Int) := by omega
        have y0 := ((unhide HM).turn (unhide hS4).2.1 (unhide hS4).2.2).c0
        have CB := hide (draw.below c (1 + x) _ (unhide hS4).2.2 (by omega) (by omega))
        go_wp2_with fail
        refine (unhide CB).mono ?_; rintro e' w6 ⟨q, rfl, q0, q1, hc6, g6⟩
        have S6 := hide ((unhide hS4).turn hcw g6 hc6)
        clear hc6 g6 CB hS4 y0
        go_wp2_with fail
        refine (draw.once c _ _ (unhide S6).2.2 (by decide) (by decide)).mono ?_; rintro e' w7 ⟨bw, rfl, hc7, g7⟩
        have S7 := hide ((unhide S6).turn hcw g7 hc7)
        clear hc7 g7 S6
        cases bw
        ·have HA := hide (all_snoc (y := 1 + q) (unhide hall) (by omega))
         clear hall
         go_wp2_with (at_builtin; refine appendC (unhide S7) hcw (by omega) rfl _ _ rfl rfl rfl ?_)
         intro v' w8 R
         have S8 := hide R
         clear R S7
         go_wp2
         go_roundg (Z - (N.length + 1))
         case measure => omega
         case rel => exact ⟨_, by rw [List.length_append]; simp; omega, by rw [List.length_append]; rfl, by rw [List.length_append]; go_num, HA, S8⟩
        ·have HA := hide (all_snoc (y := -(1 + q)) (unhide hall) (by omega))
         clear hall
         go_wp2_with (at_builtin; refine appendC (unhide S7) hcw (by omega) rfl _ _ rfl rfl rfl ?_)
         intro v' w8 R
         have S8 := hide R
         clear R S7
         go_wp2
         go_roundg (Z - (N.length + 1))
         case measure => omega
         case rel => exact ⟨_, by rw [List.length_append]; simp; omega, by rw [List.length_append]; rfl, by rw [List.length_append]; go_num, HA, S8⟩
       ·have hiz : ¬ (N.length : Int) < (Z : Int) := by omega
        have GN := hide (good_all (n := 1 + x) (N := N) (by omega) (unhide hall))
        have G2 := hide (allG_snoc (unhide hgood) (unhide GN))
        obtain ⟨ua, uc, hue⟩ := (unhide hS4).form
        subst hue
        obtain ⟨qb, qc, qg, qcur, qh, qB, oa, ocap, bx, ho⟩ := (unhide HM).turn (unhide hS4).2.1 (unhide hS4).2.2
        have ou := hide (sl.Own.of (unhide hS4).1)
        have ho' := hide (ho.sub (Nat.le_refl _) (unhide HM).2.2.2.2.1)
        have HS := hide (fun (g' cap' : Nat) (w1 : World) h1 g1 => MidD.step (u := .slice ua N.length uc) (L := N) (g := g') (cap' := cap') (w1 := w1) qb qc qg qcur qB bx (unhide ho') h1 g1)
        have hlo : w.heap.size ≤ _ := (unhide HM).grown.size
        have hmd := (unhide hS4).2.1.size
        have b0 := bx.c0
        have b1 := bx.c1
        have HL := hide hlo
        have HMD := hide hmd
        clear hlo hmd qg qcur qB ho bx HM hall GN hS4
        go_wp2_with (at_builtin; refine gr.appendR (unhide ho') (unhide ou) (unhide HL) (unhide HMD) (by omega) rfl _ _ rfl rfl rfl ?_)
        intro g' cap' w9 h1 g1
        obtain ⟨⟨s1, s2⟩, m9⟩ := unhide HS g' cap' w9 h1 g1
        have M9 := hide m9
        clear h1 g1 m9 HS ho' ou
        go_wp2
        go_roundg (K - (M.length + 1))
        case measure => omega
        case rel => exact ⟨_, by rw [List.length_append]; simp; omega, by rw [List.length_append]; rfl, by rw [List.length_append]; go_num, G2, _, unhide M9⟩
  ·have hij : ¬ (M.length : Int) < (K : Int) := by omega
   obtain ⟨qb, qc, qg, qcur, qh, qB, oa, ocap, bx, ho⟩ := unhide HM
   have br := (qB _ (List.mem_singleton.2 rfl)).2.2
   have hbr := (qB _ (List.mem_singleton.2 rfl)).1
   have o0 := bx.c0
   have o1 := bx.c1
   have rc0 := br.c0
   have rc1 := br.c1
   have rf0 := br.f 0
   have rf1 := br.f 1
   have BR := hide br
   have OO := hide ho
   have QG := hide qg
   have QC := hide qcur
   clear qg qcur qB bx ho HM br
   go_wp2
   have bb := ((unhide BR).set0 (.int .i64 (1 + x))).set1 (.slice oa M.length ocap)
   have b1 := (unhide BR).set0 (.int .i64 (1 + x))
   have rg : w.heap.size < wr.heap.size := (unhide BR).lt
   (try simp only [Exit.inBlock, Exit.then])
   refine bodyPost_ret (cf.ret_box rfl rfl bb) rfl ⟨_, _, rfl, M, ⟨by omega, by omega⟩, by omega, unhide hgood, ?_, ?_, ?_⟩
   ·have := gr.ownS_set (i := 1) (u := .slice oa M.length ocap) (gr.ownS_set (i := 0) (u := .int .i64 (1 + x)) (unhide OO) (unhide BR)) b1
    exact this.sub (Nat.le_refl _) (by rw [cf.size_set, cf.size_set]; exact qh)
   ·have g1 := sl.grown_setCell wr w.heap.size 0 (.int .i64 (1 + x))
    have g2 := sl.grown_setCell (wr.setCell ⟨w.heap.size, 0, none⟩ (.int .i64 (1 + x))) w.heap.size 1 (.slice oa M.length ocap)
    exact new_some (new_some (unhide QG) g1 (Nat.le_refl _)) g2 (Nat.le_refl _)
   ·have g1 := sl.grown_setCell wr w.heap.size 0 (.int .i64 (1 + x))
    have g2 := sl.grown_setCell (wr.setCell ⟨w.heap.size, 0, none⟩ (.int .i64 (1 + x))) w.heap.size 1 (.slice oa M.length ocap)
    exact ((unhide QC).kept g1 (fun r e => by cases e; exact hlt)).kept g2 (fun r e => by cases e; exact hlt)
end Go.Proofs.YtnlllcgcaddhmaaGreatDoor.dcn
namespace Go.Proofs.YtnlllcgcaddhmaaGreatDoor.dcn
open Go.ChangeShapes Go.WideShapes Go.ChangeAt Go.RowKit
open sl (Sl Own ints hide unhide grown_refl grown_trans grown_trans' of_below below_of grown_drewN)
open css (Sls OwnS tot)
open cf (Box)
open draw (Cur Bs newCur grown_new)
open dcls (MadeC MadeC.start appendC)
set_option linter.unusedVariables false
def Low (L : List Int) : Prop := ∀ x ∈ L, x ≠ 0 ∧ -7 ≤ x ∧ x ≤ 7
def Bd (n : Int) (M : List (List Int)) (k : Nat) : Prop := (-1 ≤ n ∧ n ≤ 25) ∧ M.length ≤ k ∧ (∀ L ∈ M, L.length ≤ 49) ∧ (n ≤ 7 ∨ ∀ L ∈ M, Low L)
theorem bd_good {n : Int} {M : List (List Int)} (hn : 1 ≤ n ∧ n ≤ 6) (hl : (M.length : Int) ≤ 4 * n + 2) (h : M.all (good n) = true) : Bd n M 26 := by
 refine ⟨by omega, by omega, fun L hL => ?_, .inl (by omega)⟩
 have := List.all_eq_true.1 h L hL
 unfold good at this
 rw [Bool.and_eq_true, decide_eq_true_iff] at this
 omega
end Go.Proofs.YtnlllcgcaddhmaaGreatDoor.dcn
namespace Go.Proofs.YtnlllcgcaddhmaaGreatDoor.df
open Go.ChangeShapes Go.WideShapes Go.ChangeAt Go.RowKit
open sl (Sl Own ints hide unhide grown_refl grown_trans grown_trans' of_below below_of grown_drewN)
open css (Sls OwnS tot)
open cf (Box)
open draw (Cur Bs newCur grown_new)
open dcn (Bd Drawn)
set_option linter.unusedVariables false
theorem tot_bd {n : Int} {M : List (List Int)} {k : Nat} (h : Bd n M k) (hk : k ≤ 121) : tot M ≤ 6050 := by
 unfold css.tot
 have h2 : (M.map List.length).sum ≤ 49 * M.length := by
  have := h.2.2.1
  clear h
  induction M with
  | nil => simp
  | cons L l ih =>
   rw [List.map_cons, List.sum_cons, List.length_cons]
   have := ih (fun K hK => this K (List.mem_cons_of_mem _ hK))
   have := (by assumption : ∀ K ∈ L :: l, K.length ≤ 49) L (List.mem_cons_self ..)
   omega
 have := h.2.1
 omega
end Go.Proofs.YtnlllcgcaddhmaaGreatDoor.df
namespace Go.Proofs.YtnlllcgcaddhmaaGreatDoor.db
open Go.ChangeShapes Go.WideShapes Go.ChangeAt Go.RowKit
open sl (Sl Own ints hide unhide grown_refl grown_trans grown_trans' grown_drewN below_of of_below)
open css (Sls OwnS tot)
open cf (Box)
open draw (Bs Cur newCur)
open dcn (Bd Drawn good bd_good)
set_option linter.unusedVariables false
set_option maxHeartbeats 1600000 in
theorem drawFormula (a : Option Addr) (n cap : Nat) (w : World) (hn : n ≤ 1048576) (hB : Bs w a n) :
  Calls Tryz.prog 6 #[.slice a n cap] w fun e w' => ∃ (k : Int) (v : Value) (M : List (List Int)), e = .returned (.agg #[.int .i64 k, v]) ∧ ((1 ≤ k ∧ k ≤ 6) ∧ (M.length : Int) ≤ 4 * k + 2 ∧ M.all (good k) = true) ∧ OwnS w.heap.size w'.heap.size w' v M ∧ w.grownBy w' none := by
 have nc := newCur a n cap (w.alloc (.cells #[.int .i64 0, .slice none 0 0] 26)) hn (hB.below (below_of (World.grownBy_alloc w (.cells #[.int .i64 0, .slice none 0 0] 26) none)))
 simp only [World.size_alloc] at nc
 have NC := hide nc
 have R0 := hide (Box.new 26 w (.int .i64 0) (.slice none 0 0))
 clear hB nc
 go_enter Tryz.func6, Tryz.ntmps6
 go_wp2_with fail
 refine (unhide NC).mono ?_; rintro e w1 ⟨rfl, hc1, g1⟩
 have C1 := hide hc1
 have G1 := hide g1
 have R1 := hide ((unhide R0).kept g1)
 clear hc1 g1 NC R0
 go_wp2_with fail
 refine (dcn.cnf _ 6 _ (unhide C1) (by decide) (by decide)).mono ?_; rintro e w2 ⟨k, v, M, rfl, b1, b2, b3, od, gd, cd⟩
 have bd := And.intro b1 (And.intro b2 b3)
 obtain ⟨va, vc, rfl⟩ := od.len
 have r2 := (unhide R1).by gd (fun e => by simp at e)
 have R2 := hide r2
 have OD := hide od
 have GD := hide gd
 have BD := hide bd
 have rc0 := r2.c0
 have rc1 := r2.c1
 have rf0 := r2.f 0
 have rf1 := r2.f 1
 have GA := hide (grown_trans (r := none) (World.grownBy_alloc w (.cells #[.int .i64 0, .slice none 0 0] 26) none) (unhide G1))
 clear r2 od gd cd bd
 go_wp2_with fail
 (try simp only [Exit.inBlock, Exit.then])
 have gw := draw.grown_new (unhide GA) (unhide GD) (Nat.le_succ _)
 have os := gr.ownS_set (i := 1) (u := .slice va M.length vc) (gr.ownS_set (i := 0) (u := .int .i64 k) (unhide OD) (unhide R2)) ((unhide R2).set0 (.int .i64 k))
 refine bodyPost_ret (cf.ret_box rfl rfl (((unhide R2).set0 (.int .i64 k)).set1 (.slice va M.length vc))) rfl ⟨k, _, M, rfl, unhide BD, ?_, ?_⟩
 ·refine os.sub (unhide GA).size ?_
  rw [cf.size_set, cf.size_set]
  exact Nat.le_refl _
 ·exact cf.grown_set (cf.grown_set gw (Nat.le_refl _)) (Nat.le_refl _)
end Go.Proofs.YtnlllcgcaddhmaaGreatDoor.db
namespace Go.Proofs.YtnlllcgcaddhmaaGreatDoor.pk
open Go.ChangeShapes Go.WideShapes Go.ChangeAt Go.RowKit
open sl (Sl ints hide unhide grown_refl grown_trans grown_trans' of_below below_of grown_drewN)
open draw (Cur Bs newCur grown_new)
set_option linter.unusedVariables false
theorem pickS (c b : Nat) (D : List ByteArray) (w : World) (hc : Cur w c) (hbc : c < b) (hD : 0 < D.length) (hD1 : D.length ≤ 1048576) (h : ∀ j, j < D.length → w.cell? ⟨b, j, none⟩ = some (.string (D.getD j ByteArray.empty))) :
  Calls Tryz.prog 141 #[.pointer (some ⟨c, 0, none⟩), .slice (some ⟨b, 0, none⟩) D.length D.length] w fun e w' => ∃ s, e = .returned (.string s) ∧ s ∈ D ∧ Cur w' c ∧ w.grownBy w' (some c) := by
 have HC := hide hc
 have HB := hide h
 clear hc h
 go_enter Tryz.func141, Tryz.ntmps141
 go_wp2_with fail
 refine (draw.below c _ _ (unhide HC) (by omega) (by omega)).mono ?_; rintro e w1 ⟨x, rfl, x0, x1, hc1, g1⟩
 obtain ⟨j, rfl⟩ := Int.eq_ofNat_of_zero_le x0
 have hj : j < D.length := by omega
 have c1 : w1.cell? ⟨b, j, none⟩ = some (.string (D.getD j ByteArray.empty)) := g1.cell (unhide HB j hj) (fun e => by injection e with e; exact absurd e (by show b ≠ c; omega))
 have hm : D.getD j ByteArray.empty ∈ D := by rw [show D.getD j ByteArray.empty = D[j] by simp [hj]]; exact List.getElem_mem hj
 generalize D.getD j ByteArray.empty = y at *
 have HM := hide hm
 have HC1 := hide hc1
 have G1 := hide g1
 clear hc1 g1 hm HB HC
 go_wp2_with fail
 go_ret
 exact ⟨_, rfl, unhide HM, unhide HC1, unhide G1⟩
theorem laid_cell (w : World) (D : List ByteArray) (t : TypeId) : ∀ j, j < D.length → (w.alloc (.cells (D.map Value.string).toArray t)).cell? ⟨w.heap.size, j, none⟩ = some (.string (D.getD j ByteArray.empty)) := by
 intro j hj
 have h : (w.alloc (.cells (D.map Value.string).toArray t)).heap[w.heap.size]? = some (.cells (D.map Value.string).toArray t) := heap_alloc_new w _
 unfold World.cell?
 rw [h]
 simp [hj]
end Go.Proofs.YtnlllcgcaddhmaaGreatDoor.pk
namespace Go.Proofs.YtnlllcgcaddhmaaGreatDoor.dk
open Go.ChangeShapes Go.WideShapes Go.ChangeAt Go.RowKit
open sl (Sl ints hide unhide grown_refl grown_trans grown_trans')
open css (Sls OwnS tot Outs outs_by)
open cf (Box)
open yb (Box4)
open draw (Bs Cur newCur)
open ua (Kn kz Vl VKns RwK)
set_option linter.unusedVariables false
theorem sum_len (s : ByteArray) : (zo.sumT s).length = 32 ∨ (zo.sumT s).length = 0 := by
 unfold zo.sumT
 split
 ·unfold zo.sumL
  rw [zo.out4_length]
  exact .inl rfl
 ·exact .inr rfl
theorem dig_size (n : Int) (LL : List (List Int)) : (an.dgA n LL).size = 32 ∨ (an.dgA n LL).size = 0 := by
 have e : (an.dgA n LL).size = (da.digT n LL).length := by
  unfold an.dgA
  simp [ByteArray.size]
 rw [e]
 unfold da.digT
 split
 ·exact sum_len _
 ·exact .inr rfl
def DK (K : Kn) : Prop := K.vals.length ≤ 24 ∧ K.dg.size ≤ 32 ∧ K.dg.size ≠ 14
theorem dk_ask (n : Int) (LL : List (List Int)) : DK (an.askK n LL) := by
 refine ⟨an.ask_vals n LL, ?_⟩
 unfold an.askK
 split
 ·have := dig_size n LL
  show (an.dgA n LL).size ≤ 32 ∧ (an.dgA n LL).size ≠ 14
  omega
 ·exact ⟨Nat.zero_le _, by decide⟩
theorem types : (3 : Nat) ≠ 87 ∧ (36 : Nat) ≠ 87 ∧ (30 : Nat) ≠ 87 ∧ (3 : Nat) ≠ 36 := by decide
theorem vl_by {w w' : World} {u : Value} {L : List Int} {c : Nat} {cs : Array Value} {t : TypeId} {fz : Nat × Nat} (h : Vl w u L) (g : w.grownBy w' (some c)) (hc : w.heap[c]? = some (.cells cs t fz)) (ht : (3 : Nat) ≠ t) : Vl w' u L :=
 h.outs (outs_by (lo := c) (hi := c + 1) g (fun k e => by cases e; omega)) (fun k h1 h2 => by
  obtain rfl : k = c := by omega
  exact ⟨_, _, _, hc, ht⟩)
theorem vl_turn {w w' : World} {u : Value} {L : List Int} {c : Nat} (h : Vl w u L) (g : w.grownBy w' (some c)) (hc : Cur w c) : Vl w' u L := by
 obtain ⟨a, n, cap, i, hh, _, _, hb, _⟩ := hc
 exact vl_by h g hb types.1
structure Mid (c : Nat) (w wx : World) (b : Nat) (K : Kn) (u : Value) : Prop where
 r : Box4 36 wx w.heap.size (.string ⟨#[]⟩) (.bool false) (.slice none 0 0) (.int .i64 0)
 k : Box4 36 wx b (.string K.dg) (.bool K.sat) u (.int .i64 K.cost)
 v : Vl wx u K.vals
 d : DK K
 cur : Cur wx c
 g : w.grownBy wx (some c)
 hb : w.heap.size < b
 hc : c < w.heap.size
theorem Mid.turn {c : Nat} {w wx wy : World} {b : Nat} {K : Kn} {u : Value} (h : Mid c w wx b K u) (g : wx.grownBy wy (some c)) (hy : Cur wy c) : Mid c w wy b K u :=
 have hb := h.hb
 have hc := h.hc
 ⟨h.r.by g (fun e => by simp only [Option.some.injEq] at e; omega), h.k.by g (fun e => by simp only [Option.some.injEq] at e; omega), vl_turn h.v g h.cur, h.d, hy, grown_trans' h.g g, hb, hc⟩
theorem Mid.more {c : Nat} {w wx wy : World} {b : Nat} {K : Kn} {u : Value} (h : Mid c w wx b K u) (g : wx.grownBy wy none) : Mid c w wy b K u :=
 ⟨h.r.kept g, h.k.kept g, h.v.kept g, h.d, h.cur.kept g (fun r e => by cases e), ⟨g.os.trans h.g.os, g.tape.trans h.g.tape, g.output.trans h.g.output, Nat.le_trans h.g.size g.size, fun i hi hn => (g.block i (Nat.lt_of_lt_of_le hi h.g.size) (fun e => by cases e)).trans (h.g.block i hi hn)⟩, h.hb, h.hc⟩
theorem cur_set {w : World} {c b i : Nat} {u : Value} (h : Cur w c) (hb : c < b) : Cur (w.setCell ⟨b, i, none⟩ u) c := h.kept (sl.grown_setCell w b i u) (fun r e => by cases e; exact hb)
theorem grown_set1 {w wx : World} {c b i : Nat} {u : Value} (g : w.grownBy wx (some c)) (hb : w.heap.size ≤ b) : w.grownBy (wx.setCell ⟨b, i, none⟩ u) (some c) := dcn.new_some g (sl.grown_setCell wx b i u) hb
theorem Mid.put {c : Nat} {w wx : World} {b : Nat} {K : Kn} {u : Value} (h : Mid c w wx b K u) (K' : Kn) (u' : Value) (hv : Vl wx u' K'.vals) (hd : DK K') :
  Mid c w ((((wx.setCell ⟨b, 0, none⟩ (.string K'.dg)).setCell ⟨b, 1, none⟩ (.bool K'.sat)).setCell ⟨b, 2, none⟩ u').setCell ⟨b, 3, none⟩ (.int .i64 K'.cost)) b K' u' := by
 have hb := h.hb
 have hc := h.hc
 have n : b ≠ w.heap.size := by omega
 have k1 := h.k.set0 (.string K'.dg)
 have k2 := k1.set1 (.bool K'.sat)
 have k3 := k2.set2 u'
 have cl : c < b := by omega
 have le : w.heap.size ≤ b := by omega
 refine ⟨(((h.r.setO n).setO n).setO n).setO n, h.k.setA _ _ _ _, ?_, hd, cur_set (cur_set (cur_set (cur_set h.cur cl) cl) cl) cl, grown_set1 (grown_set1 (grown_set1 (grown_set1 h.g le) le) le) le, hb, hc⟩
 exact vl_by (vl_by (vl_by (vl_by hv (sl.grown_setCell _ _ _ _) h.k types.2.2.2) (sl.grown_setCell _ _ _ _) k1 types.2.2.2) (sl.grown_setCell _ _ _ _) k2 types.2.2.2) (sl.grown_setCell _ _ _ _) k3 types.2.2.2
theorem Mid.cost {c : Nat} {w wx : World} {b : Nat} {K : Kn} {u : Value} (h : Mid c w wx b K u) (x : Int) :
  Mid c w (wx.setCell ⟨b, 3, none⟩ (.int .i64 x)) b ⟨K.dg, K.sat, K.vals, x⟩ u := by
 have hb := h.hb
 have hc := h.hc
 have n : b ≠ w.heap.size := by omega
 exact ⟨h.r.setO n, h.k.set3 _, vl_by h.v (sl.grown_setCell _ _ _ _) h.k types.2.2.2, h.d, cur_set h.cur (by omega), grown_set1 h.g (by omega), hb, hc⟩
def KnE (c : Nat) (w : World) (e : Ending) (w' : World) : Prop := ∃ (K : Kn) (u : Value), e = .returned (.agg #[.string K.dg, .bool K.sat, u, .int .i64 K.cost]) ∧ DK K ∧ Vl w' u K.vals ∧ Cur w' c ∧ w.grownBy w' (some c)
theorem mid_start {c : Nat} {w w1 w2 : World} {K : Kn} {u : Value} (hlt : c < w.heap.size) (g1 : (w.alloc (.cells #[.string ⟨#[]⟩, .bool false, .slice none 0 0, .int .i64 0] 36)).grownBy w1 (some c)) (hc1 : Cur w1 c) (g2 : w1.grownBy w2 none) (hu : sl.Own w1.heap.size w2.heap.size w2 u K.vals) (hd : DK K) :
  Mid c w (w2.alloc (.cells #[.string K.dg, .bool K.sat, u, .int .i64 K.cost] 36)) w2.heap.size K u := by
 have a := World.grownBy_alloc w2 (.cells #[.string K.dg, .bool K.sat, u, .int .i64 K.cost] 36) none
 have r0 := Box4.new 36 w (.string ⟨#[]⟩) (.bool false) (.slice none 0 0) (.int .i64 0)
 have s1 := g1.size
 have s2 := g2.size
 rw [World.size_alloc] at s1
 have g0 := World.grownBy_alloc w (.cells #[.string ⟨#[]⟩, .bool false, .slice none 0 0, .int .i64 0] 36) none
 refine ⟨((r0.by g1 (fun e => by simp only [Option.some.injEq] at e; omega)).kept g2).kept a, Box4.new _ _ _ _ _ _, ⟨_, _, hu.kept a⟩, hd, (hc1.kept (grown_trans (r := none) g2 a) (fun r e => by cases e)), ?_, by omega, hlt⟩
 have gg := grown_trans (r := none) g2 a
 exact ⟨gg.os.trans g1.os, gg.tape.trans g1.tape, gg.output.trans g1.output, by have := gg.size; omega, fun i hi hn => (gg.block i (by omega) (fun e => by cases e)).trans ((g1.block i (by rw [World.size_alloc]; omega) hn).trans (g0.block i hi (fun e => by cases e)))⟩
theorem right_tot {c : Nat} {w w' : World} {n : Int} {v : Value} {M : List (List Int)} (h : dcn.Right c w w' 4 n v M) : tot M ≤ 1048576 := Nat.le_trans (df.tot_bd (dcn.bd_good ⟨h.1.1, by have := h.1.2; omega⟩ h.2.1 h.2.2.1) (by decide)) (by decide)
set_option maxRecDepth 10000 in
set_option maxHeartbeats 4000000 in
theorem known (c : Nat) (w : World) (hc : Cur w c) :
  Calls Tryz.prog 86 #[.pointer (some ⟨c, 0, none⟩)] w fun e w' => KnE c w e w' := by
 have hlt := hc.lt
 have C0 := hide (dcn.cnf c 4 _ (hc.kept (World.grownBy_alloc w (.cells #[.string ⟨#[]⟩, .bool false, .slice none 0 0, .int .i64 0] 36) none) (fun r e => by cases e)) (by decide) (by decide))
 clear hc
 go_enter Tryz.func86, Tryz.ntmps86
 go_wp2_with fail
 refine (unhide C0).mono ?_; rintro e w1 ⟨n, v, M, rfl, hR⟩
 have ht := right_tot hR
 obtain ⟨_, _, _, od, g1, hc1⟩ := hR
 have C1 := hide (an.specAsk v n M w1 ht od.sls)
 have hD := dk_ask n M
 obtain ⟨K, hK⟩ : ∃ K, K = an.askK n M := ⟨_, rfl⟩
 obtain ⟨b, hb⟩ : ∃ b, b = an.askB n M := ⟨_, rfl⟩
 rw [← hK, ← hb] at C1
 rw [← hK] at hD
 clear hK hb ht
 unfold an.AskE at C1
 have HG1 := hide g1
 have HC1 := hide hc1
 have HD := hide hD
 obtain ⟨dg, sat, vals, cost⟩ := K
 dsimp only at C1
 clear C0 g1 hc1 od hD
 go_wp2_with fail
 refine (unhide C1).mono ?_; rintro e w2 ⟨u2, rfl, o2, g2⟩
 obtain ⟨a2, c2, rfl, hx2⟩ := o2.sl
 clear hx2
 have M0 := hide (mid_start (K := ⟨dg, sat, vals, cost⟩) hlt (unhide HG1) (unhide HC1) g2 o2 (unhide HD))
 dsimp only at M0
 obtain ⟨W3, hW3⟩ : ∃ W3, W3 = w2.alloc (.cells #[.string dg, .bool sat, .slice a2 vals.length c2, .int .i64 cost] 36) := ⟨_, rfl⟩
 rw [← hW3] at M0
 clear g2 o2 C1 HG1 HC1 HD
 go_upto_region 2 with fail
 rw [← hW3]
 clear hW3
 generalize w2.heap.size = bk at *
 go_cut [16] (fun q wx => ∃ t : Bool, q = .bool t ∧ Hid (Mid c w wx bk ⟨dg, sat, vals, cost⟩ (.slice a2 vals.length c2)))
 case first =>
  cases b
  ·go_wp2_with fail
   go_meet
   exact ⟨_, rfl, M0⟩
  ·have OC := hide (draw.once c 3 _ (unhide M0).cur (by decide) (by decide))
   go_wp2_with fail
   refine (unhide OC).mono ?_; rintro e w4 ⟨t, rfl, hc4, g4⟩
   have M4 := hide ((unhide M0).turn g4 hc4)
   clear hc4 g4
   go_wp2_with fail
   go_meet
   exact ⟨_, rfl, M4⟩
 case rest =>
  obtain ⟨t, rfl, hM⟩ := hcut
  clear M0
  go_upto_if 16 with fail
  go_cut [3] (fun p wx => p = .pointer (some ⟨bk, 0, none⟩) ∧ Hid (∃ K u, Mid c w wx bk K u))
  case first =>
   cases t
   ·go_wp2_with fail
    go_meet
    exact ⟨rfl, _, _, unhide hM⟩
   ·have MA := hide ((unhide hM).more (World.grownBy_alloc wc (.cells #[.string ⟨#[97]⟩, .string ⟨#[98]⟩, .string ⟨#[99]⟩, .string ⟨#[]⟩] 9) none))
    have CP := hide (pk.pickS c wc.heap.size [⟨#[97]⟩, ⟨#[98]⟩, ⟨#[99]⟩, ⟨#[]⟩] _ (unhide MA).cur (Nat.lt_of_lt_of_le (unhide hM).hc (unhide hM).g.size) (by decide) (by decide) (pk.laid_cell wc [⟨#[97]⟩, ⟨#[98]⟩, ⟨#[99]⟩, ⟨#[]⟩] 9))
    dsimp only [List.map, List.length] at CP
    go_wp2_with fail
    refine (unhide CP).mono ?_; rintro e w5 ⟨s5, rfl, hs5, hc5, g5⟩
    have M5 := hide ((unhide MA).turn g5 hc5)
    have hsz : s5.size ≤ 1 := by
     simp only [List.mem_cons, List.not_mem_nil, or_false] at hs5
     rcases hs5 with rfl | rfl | rfl | rfl <;> decide
    have HSZ := hide hsz
    clear CP MA hs5 hc5 g5 hsz
    go_wp2_with fail
    refine (draw.below c 90 _ (unhide M5).cur (by decide) (by decide)).mono ?_; rintro e w6 ⟨x, rfl, x0, x1, hc6, g6⟩
    have M6 := hide ((unhide M5).turn g6 hc6)
    clear hc6 g6
    have k0 := (unhide M6).k.c0
    have k1 := (unhide M6).k.c1
    have k2 := (unhide M6).k.c2
    have k3 := (unhide M6).k.c3
    have kf0 := (unhide M6).k.f 0
    have kf1 := (unhide M6).k.f 1
    have kf2 := (unhide M6).k.f 2
    have kf3 := (unhide M6).k.f 3
    go_wp2_with fail
    go_meet
    exact ⟨rfl, _, _, (unhide M6).put ⟨s5, false, [], x⟩ (.slice none 0 0) ⟨0, 0, an.own_none _ _ _⟩ ⟨Nat.zero_le _, by have := unhide HSZ; show s5.size ≤ 32; omega, by have := unhide HSZ; show s5.size ≠ 14; omega⟩⟩
  case rest =>
   obtain ⟨rfl, hM2⟩ := hcut
   rename_i wc2
   clear hM
   obtain ⟨K, u, hm⟩ := unhide hM2
   obtain ⟨a7, c7, rfl, hx7⟩ := hm.v.sl
   have M7 := hide hm
   clear hM2 hm hx7
   go_wp2_with fail
   refine (draw.once c 20 _ (unhide M7).cur (by decide) (by decide)).mono ?_; rintro e w8 ⟨t8, rfl, hc8, g8⟩
   have M8 := hide ((unhide M7).turn g8 hc8)
   clear hc8 g8
   go_upto_if 24 with fail
   go_cut [3] (fun p wx => p = .pointer (some ⟨bk, 0, none⟩) ∧ Hid (∃ K u, Mid c w wx bk K u))
   case first =>
    cases t8
    ·go_wp2_with fail
     go_meet
     exact ⟨rfl, _, _, unhide M8⟩
    ·have MA := hide ((unhide M8).more (World.grownBy_alloc w8 (.cells #[.int .i64 (-1), .int .i64 1000001] 3) none))
     have CP := hide (draw.pickInt c (.slice (some ⟨w8.heap.size, 0, none⟩) 2 2) [-1, 1000001] _ (unhide MA).cur (by decide) (by decide) (Sl.of_own (draw.own_alloc w8 [-1, 1000001] (by decide))) (fun k e => by cases e; exact Nat.lt_of_lt_of_le (unhide M8).hc (unhide M8).g.size))
     go_wp2_with fail
     refine (unhide CP).mono ?_; rintro e w9 ⟨x9, rfl, hx9, hc9, g9⟩
     have M9 := hide ((unhide MA).turn g9 hc9)
     clear hc9 g9 hx9 CP
     have k3 := (unhide M9).k.c3
     have kf3 := (unhide M9).k.f 3
     go_wp2_with fail
     go_meet
     exact ⟨rfl, _, _, (unhide M9).cost x9⟩
   case rest =>
    obtain ⟨rfl, hM3⟩ := hcut
    obtain ⟨K9, u9, hm⟩ := unhide hM3
    have k0 := hm.k.c0
    have k1 := hm.k.c1
    have k2 := hm.k.c2
    have k3 := hm.k.c3
    have r0 := hm.r.c0
    have r1 := hm.r.c1
    have r2 := hm.r.c2
    have r3 := hm.r.c3
    have rf0 := hm.r.f 0
    have rf1 := hm.r.f 1
    have rf2 := hm.r.f 2
    have rf3 := hm.r.f 3
    obtain ⟨a9, c9, rfl, hx9⟩ := hm.v.sl
    have HM := hide hm
    clear hm hM3 hx9
    go_wp2_with fail
    (try simp only [Exit.inBlock, Exit.then])
    have hm := unhide HM
    have hb := hm.hb
    have hc := hm.hc
    have q1 := hm.r.set0 (.string K9.dg)
    have q2 := q1.set1 (.bool K9.sat)
    have q3 := q2.set2 (.slice a9 K9.vals.length c9)
    refine bodyPost_ret (ua.ret_known rfl rfl (hm.r.setA _ _ _ _)) rfl ⟨K9, _, rfl, hm.d, ?_, cur_set (cur_set (cur_set (cur_set hm.cur hc) hc) hc) hc, grown_set1 (grown_set1 (grown_set1 (grown_set1 hm.g (Nat.le_refl _)) (Nat.le_refl _)) (Nat.le_refl _)) (Nat.le_refl _)⟩
    exact vl_by (vl_by (vl_by (vl_by hm.v (sl.grown_setCell _ _ _ _) hm.r types.2.2.2) (sl.grown_setCell _ _ _ _) q1 types.2.2.2) (sl.grown_setCell _ _ _ _) q2 types.2.2.2) (sl.grown_setCell _ _ _ _) q3 types.2.2.2
end Go.Proofs.YtnlllcgcaddhmaaGreatDoor.dk
namespace Go.Proofs.YtnlllcgcaddhmaaGreatDoor.dk
open Go.ChangeShapes Go.WideShapes Go.ChangeAt Go.RowKit
open sl (Sl ints hide unhide grown_refl grown_trans grown_trans')
open css (Outs outs_by)
open cf (Box)
open yb (Box4)
open draw (Bs Cur newCur)
open ua (Kn kz Vl VKns RwK putK)
set_option linter.unusedVariables false
theorem rwk_turn {w w' : World} {lo c : Nat} {u : Value} {L : List Kn} (h : RwK lo w u L) (g : w.grownBy w' (some c)) (hc : Cur w c) : RwK lo w' u L := by
 obtain ⟨a, n, cap, i, hh, _, _, hb, _⟩ := hc
 exact h.by g hb types.2.1 types.1
structure MidC (c : Nat) (w wx : World) (b : Nat) (room : Int) (u : Value) (KK : List Kn) : Prop where
 r : Box 30 wx w.heap.size (.int .i64 0) (.slice none 0 0)
 k : Box 30 wx b (.int .i64 room) u
 v : RwK w.heap.size wx u KK
 d : ∀ x ∈ KK, DK x
 cur : Cur wx c
 g : w.grownBy wx (some c)
 hb : w.heap.size < b
 hc : c < w.heap.size
theorem MidC.turn {c : Nat} {w wx wy : World} {b : Nat} {room : Int} {u : Value} {KK : List Kn} (h : MidC c w wx b room u KK) (g : wx.grownBy wy (some c)) (hy : Cur wy c) : MidC c w wy b room u KK := by
 have hb := h.hb
 have hc := h.hc
 exact ⟨h.r.by g (fun e => by simp only [Option.some.injEq] at e; omega), h.k.by g (fun e => by simp only [Option.some.injEq] at e; omega), rwk_turn h.v g h.cur, h.d, hy, grown_trans' h.g g, hb, hc⟩
theorem grown_some_none {w wx wy : World} {c : Nat} (h : w.grownBy wx (some c)) (g : wx.grownBy wy none) : w.grownBy wy (some c) :=
 ⟨g.os.trans h.os, g.tape.trans h.tape, g.output.trans h.output, Nat.le_trans h.size g.size, fun i hi hn => (g.block i (Nat.lt_of_lt_of_le hi h.size) (fun e => by cases e)).trans (h.block i hi hn)⟩
theorem MidC.more {c : Nat} {w wx wy : World} {b : Nat} {room : Int} {u : Value} {KK : List Kn} (h : MidC c w wx b room u KK) (g : wx.grownBy wy none) : MidC c w wy b room u KK := by
 exact ⟨h.r.kept g, h.k.kept g, h.v.kept g, h.d, h.cur.kept g (fun r e => by cases e), grown_some_none h.g g, h.hb, h.hc⟩
theorem MidC.put {c : Nat} {w wx : World} {b : Nat} {room : Int} {u u' : Value} {KK KK' : List Kn} (h : MidC c w wx b room u KK) (room' : Int) (hv : RwK w.heap.size wx u' KK') (hd : ∀ x ∈ KK', DK x) :
  MidC c w ((wx.setCell ⟨b, 0, none⟩ (.int .i64 room')).setCell ⟨b, 1, none⟩ u') b room' u' KK' := by
 have hb := h.hb
 have hc := h.hc
 have n : b ≠ w.heap.size := by omega
 have le : w.heap.size ≤ b := by omega
 refine ⟨(h.r.setO n).setO n, (h.k.set0 _).set1 _, ?_, hd, cur_set (cur_set h.cur (by omega)) (by omega), grown_set1 (grown_set1 h.g le) le, hb, hc⟩
 exact (hv.by (sl.grown_setCell _ _ _ _) h.k ua.cache_ty.1 ua.cache_ty.2).by (sl.grown_setCell _ _ _ _) (h.k.set0 _) ua.cache_ty.1 ua.cache_ty.2
theorem MidC.room {c : Nat} {w wx : World} {b : Nat} {room : Int} {u : Value} {KK : List Kn} (h : MidC c w wx b room u KK) (x : Int) : MidC c w (wx.setCell ⟨b, 0, none⟩ (.int .i64 x)) b x u KK := by
 have hb := h.hb
 have hc := h.hc
 have n : b ≠ w.heap.size := by omega
 exact ⟨h.r.setO n, h.k.set0 _, h.v.by (sl.grown_setCell _ _ _ _) h.k ua.cache_ty.1 ua.cache_ty.2, h.d, cur_set h.cur (by omega), grown_set1 h.g (by omega), hb, hc⟩
theorem row_ne {lo c : Nat} {w : World} {u : Value} {KK : List Kn} {cs : Array Value} {t : TypeId} {fz : Nat × Nat} (h : RwK lo w u KK) (hc : w.heap[c]? = some (.cells cs t fz)) (ht : (36 : Nat) ≠ t) : u.ownBlock ≠ some c := by
 intro e
 obtain ⟨D, _, ho, _⟩ := h
 obtain ⟨c', fz', hc'⟩ := css.own_kind ho c e
 rw [hc] at hc'
 simp only [Option.some.injEq, Obj.cells.injEq] at hc'
 exact ht hc'.2.1.symm
theorem MidC.swap {c : Nat} {w wx wy : World} {b : Nat} {room : Int} {u u' : Value} {KK KK' : List Kn} (h : MidC c w wx b room u KK) (g : wx.grownBy wy u.ownBlock) (hv : RwK w.heap.size wy u' KK') (hd : ∀ x ∈ KK', DK x) :
  Box 30 wy b (.int .i64 room) u ∧ MidC c w (wy.setCell ⟨b, 1, none⟩ u') b room u' KK' := by
 have hb := h.hb
 have hc := h.hc
 have hlo := h.v.lo
 have n : b ≠ w.heap.size := by omega
 have k1 := h.k.by g (row_ne h.v h.k ua.cache_ty.1)
 have r1 := h.r.by g (row_ne h.v h.r ua.cache_ty.1)
 have cy : Cur wy c := h.cur.kept g (fun r e => by have := hlo r e; omega)
 have gg : w.grownBy wy (some c) := ⟨g.os.trans h.g.os, g.tape.trans h.g.tape, g.output.trans h.g.output, Nat.le_trans h.g.size g.size, fun i hi hn => by
  rw [g.block i (Nat.lt_of_lt_of_le hi h.g.size) (fun e => by have := (hlo i e.symm).1; omega)]
  exact h.g.block i hi hn⟩
 exact ⟨k1, r1.setO n, k1.set1 _, hv.by (sl.grown_setCell _ _ _ _) k1 ua.cache_ty.1 ua.cache_ty.2, hd, cur_set cy (by omega), grown_set1 gg (by omega), hb, hc⟩
theorem dk_put {room : Int} {KK : List Kn} {k : Kn} (h : ∀ x ∈ KK, DK x) (hk : DK k) : ∀ x ∈ putK room KK k, DK x := by
 intro x hx
 rcases ua.mem_put hx with rfl | e
 ·exact hk
 ·exact h x e
theorem dk_tot {KK : List Kn} {n : Nat} (h : ∀ x ∈ KK, DK x) (hn : KK.length ≤ n) : ua.tot KK ≤ 57 * n := by
 have q : ∀ L : List Kn, (∀ x ∈ L, DK x) → (L.map ua.wt).sum ≤ 56 * L.length := by
  intro L
  induction L with
  | nil => intro _; exact Nat.zero_le _
  | cons x l ih =>
   intro hx
   have h1 := hx x (List.mem_cons_self ..)
   have h2 := ih (fun y hy => hx y (List.mem_cons_of_mem _ hy))
   have h3 : ua.wt x ≤ 56 := by unfold ua.wt; have := h1.1; have := h1.2.1; omega
   simp only [List.map_cons, List.sum_cons, List.length_cons]
   omega
 have := q KK h
 unfold ua.tot
 omega
def CaE (c : Nat) (w : World) (e : Ending) (w' : World) : Prop := ∃ (room : Int) (KK : List Kn) (u : Value), e = .returned (.agg #[.int .i64 room, u]) ∧ (∀ x ∈ KK, DK x) ∧ KK.length ≤ 6 ∧ RwK w.heap.size w' u KK ∧ Cur w' c ∧ w.grownBy w' (some c)
theorem midC_start {c : Nat} {w w1 w2 : World} {room : Int} (hlt : c < w.heap.size) (g1 : (w.alloc (.cells #[.int .i64 0, .slice none 0 0] 30)).grownBy w1 (some c)) (hc1 : Cur w1 c) (g2 : w1.grownBy w2 none) :
  MidC c w (w2.alloc (.cells #[.int .i64 room, .slice none 0 0] 30)) w2.heap.size room (.slice none 0 0) [] := by
 have a := World.grownBy_alloc w2 (.cells #[.int .i64 room, .slice none 0 0] 30) none
 have r0 := Box.new 30 w (.int .i64 0) (.slice none 0 0)
 have s1 := g1.size
 have s2 := g2.size
 rw [World.size_alloc] at s1
 have g0 := World.grownBy_alloc w (.cells #[.int .i64 0, .slice none 0 0] 30) none
 have gg := grown_trans (r := none) g2 a
 refine ⟨((r0.by g1 (fun e => by simp only [Option.some.injEq] at e; omega)).kept g2).kept a, Box.new _ _ _ _, (ua.OwnK.none w.heap.size w.heap.size _).rwk, (fun x hx => by cases hx), (hc1.kept gg (fun r e => by cases e)), ?_, by omega, hlt⟩
 exact ⟨gg.os.trans g1.os, gg.tape.trans g1.tape, gg.output.trans g1.output, by have := gg.size; omega, fun i hi hn => (gg.block i (by omega) (fun e => by cases e)).trans ((g1.block i (by rw [World.size_alloc]; omega) hn).trans (g0.block i hi (fun e => by cases e)))⟩
theorem MidC.form {c : Nat} {w wx : World} {b : Nat} {room : Int} {u : Value} {KK : List Kn} (h : MidC c w wx b room u KK) : ∃ a cap, u = .slice a KK.length cap := by
 exact h.v.len
theorem MidC.next {c : Nat} {w wx : World} {b : Nat} {room : Int} {u u' : Value} {KK : List Kn} {K : Kn} (h : MidC c w wx b room u KK) (hv : RwK w.heap.size wx u' (putK room KK K)) (hd : DK K) :
  MidC c w ((wx.setCell ⟨b, 0, none⟩ (.int .i64 room)).setCell ⟨b, 1, none⟩ u') b room u' (putK room KK K) := h.put room hv (dk_put h.d hd)
theorem MidC.done {c : Nat} {w wx : World} {b : Nat} {room : Int} {u : Value} {KK : List Kn} (h : MidC c w wx b room u KK) :
  Box 30 ((wx.setCell ⟨w.heap.size, 0, none⟩ (.int .i64 room)).setCell ⟨w.heap.size, 1, none⟩ u) w.heap.size (.int .i64 room) u ∧ RwK w.heap.size ((wx.setCell ⟨w.heap.size, 0, none⟩ (.int .i64 room)).setCell ⟨w.heap.size, 1, none⟩ u) u KK ∧ Cur ((wx.setCell ⟨w.heap.size, 0, none⟩ (.int .i64 room)).setCell ⟨w.heap.size, 1, none⟩ u) c ∧ w.grownBy ((wx.setCell ⟨w.heap.size, 0, none⟩ (.int .i64 room)).setCell ⟨w.heap.size, 1, none⟩ u) (some c) := by
 have hb := h.hb
 have hc := h.hc
 have hv := h.v
 refine ⟨(h.r.set0 _).set1 _, ?_, cur_set (cur_set h.cur hc) hc, grown_set1 (grown_set1 h.g (Nat.le_refl _)) (Nat.le_refl _)⟩
 exact (hv.by (sl.grown_setCell _ _ _ _) h.r ua.cache_ty.1 ua.cache_ty.2).by (sl.grown_setCell _ _ _ _) (h.r.set0 _) ua.cache_ty.1 ua.cache_ty.2
theorem caE_of {c : Nat} {w wx : World} {b : Nat} {room : Int} {u : Value} {KK : List Kn} (h : MidC c w wx b room u KK) (hl : KK.length ≤ 6) : CaE c w (.returned (.agg #[.int .i64 room, u])) ((wx.setCell ⟨w.heap.size, 0, none⟩ (.int .i64 room)).setCell ⟨w.heap.size, 1, none⟩ u) := by
 obtain ⟨_, h2, h3, h4⟩ := h.done
 exact ⟨room, KK, u, rfl, h.d, hl, h2, h3, h4⟩
theorem put_len (room : Int) (KK : List Kn) (k : Kn) : (putK room KK k).length ≤ KK.length + 1 := by
 unfold ua.putK
 split
 ·have h := ua.rest_le KK k.dg
  unfold ua.putL
  split
  ·rw [List.length_drop, List.length_append, List.length_singleton]; omega
  ·rw [List.length_append, List.length_singleton]; omega
 ·omega
set_option maxRecDepth 10000 in
set_option maxHeartbeats 4000000 in
theorem cache (c : Nat) (w : World) (hc : Cur w c) :
  Calls Tryz.prog 41 #[.pointer (some ⟨c, 0, none⟩)] w fun e w' => CaE c w e w' := by
 have hlt := hc.lt
 have C0 := hide (draw.below c 5 _ (hc.kept (World.grownBy_alloc w (.cells #[.int .i64 0, .slice none 0 0] 30) none) (fun r e => by cases e)) (by decide) (by decide))
 clear hc
 go_enter Tryz.func41, Tryz.ntmps41
 go_wp2_with fail
 refine (unhide C0).mono ?_; rintro e w1 ⟨x, rfl, x0, x1, hc1, g1⟩
 have HG1 := hide g1
 have HC1 := hide hc1
 clear C0 g1 hc1
 go_wp2_with fail
 refine (ua.specCacheStart x w1).mono ?_; rintro e w2 ⟨rfl, g2⟩
 have M0 := hide (midC_start (room := ua.startR x) hlt (unhide HG1) (unhide HC1) g2)
 obtain ⟨W3, hW3⟩ : ∃ W3, W3 = w2.alloc (.cells #[.int .i64 (ua.startR x), .slice none 0 0] 30) := ⟨_, rfl⟩
 rw [← hW3] at M0
 clear g2 HG1 HC1
 go_upto_region 2 with fail
 rw [← hW3]
 clear hW3
 generalize w2.heap.size = bk at *
 generalize ua.startR x = rm at *
 go_wp2_with fail
 refine (draw.below c 6 _ (unhide M0).cur (by decide) (by decide)).mono ?_; rintro e w4 ⟨q, rfl, q0, q1, hc4, g4⟩
 have M4 := hide ((unhide M0).turn g4 hc4)
 obtain ⟨Q, rfl⟩ := Int.eq_ofNat_of_zero_le q0
 clear hc4 g4 M0 q0
 go_wp2_with fail
 go_loopg [6] Q (fun gk i wr => ∃ (j : Nat) (KK : List Kn) (u : Value), j ≤ Q ∧ gk = Q - j ∧ i = .int .i64 j ∧ KK.length ≤ j ∧ Hid (MidC c w wr bk rm u KK))
 case atStart => exact ⟨0, [], _, Nat.zero_le _, rfl, rfl, Nat.le_refl _, M4⟩
 case round =>
  obtain ⟨j, KK, u, hj, hgk, rfl, hk, hM⟩ := hrel
  by_cases hlt' : j < Q
  ·have hi : (j : Int) < (Q : Int) := by omega
   obtain ⟨va, vc, rfl⟩ := (unhide hM).form
   have z0 := (unhide hM).k.c0
   have z1 := (unhide hM).k.c1
   have HT : Hid (ua.tot KK ≤ 1048576) := by
    have := dk_tot (unhide hM).d (Nat.le_refl KK.length)
    show _ ≤ _
    omega
   have CKn := hide (known c wr.drew ((unhide hM).cur.kept (cf.grown_drew wr none) (fun r e => by cases e)))
   have TM := hide (fun w5 (gx : wr.drew.grownBy w5 (some c)) (hc5 : Cur w5 c) => (unhide hM).turn (grown_trans' (cf.grown_drew wr (some c)) gx) hc5)
   go_upto_region 6 with fail
   go_region_with (first
    | (go_at_call 86; refine (unhide CKn).mono ?_; rintro e w5 ⟨K, uk, rfl, hd, hv, hc5, g5⟩; obtain ⟨ka, kc, rfl, hx5⟩ := hv.sl; have M5 := hide (unhide TM w5 g5 hc5); have CP := hide (ua.specCachePutT (.slice va KK.length vc) (.slice ka K.vals.length kc) rm KK K w5 (unhide HT) (Nat.le_trans hd.1 (by decide)) (unhide M5).v.vkns hv); have HD := hide hd; have z0 := (unhide M5).k.c0; have z1 := (unhide M5).k.c1; clear hd hv hc5 g5 hx5)
    | (go_at_call 43; refine (unhide CP).mono ?_; rintro e w6 ⟨u6, lo6, rfl, h6, g6, hl6⟩; obtain ⟨pa, pc, rfl⟩ := h6.len; have M6 := hide ((unhide M5).more g6); have k0 := (unhide M6).k.c0; have k1 := (unhide M6).k.c1; have f0 := (unhide M6).k.f 0; have f1 := (unhide M6).k.f 1; have HL := hide (And.intro h6 (And.intro g6 hl6)); clear h6 g6 hl6))
   all_goals
    have M7 := hide ((unhide M6).next ((unhide HL).1.sub (Nat.le_trans (unhide M5).g.size (unhide HL).2.2)) (unhide HD))
    have hp7 : (putK rm KK K).length ≤ j + 1 := by have := put_len rm KK K; omega
    clear M5 M6 HL HD CP TM CKn z0 z1 k0 k1 f0 f1
    go_wp2_with fail
    go_roundg (Q - (j + 1))
    case measure => omega
    case rel => exact ⟨j + 1, putK rm KK K, _, by omega, rfl, by go_num, hp7, M7⟩
  ·have hi : ¬ (j : Int) < (Q : Int) := by omega
   have hk5 : KK.length ≤ 5 := by omega
   clear M4 hlt' hgk hj hk q1
   obtain ⟨va, vc, rfl⟩ := (unhide hM).form
   go_wp2_with fail
   refine (draw.below c 18 _ (unhide hM).cur (by decide) (by decide)).mono ?_; rintro e w5 ⟨x, rfl, x0, x1, hc5, g5⟩
   have M5 := hide ((unhide hM).turn g5 hc5)
   clear hM hc5 g5 hi
   have r0 := (unhide M5).r.c0
   have r1 := (unhide M5).r.c1
   have rf0 := (unhide M5).r.f 0
   have rf1 := (unhide M5).r.f 1
   have z0 := (unhide M5).k.c0
   have z1 := (unhide M5).k.c1
   have zf0 := (unhide M5).k.f 0
   have zf1 := (unhide M5).k.f 1
   by_cases e0 : x = 0
   ·subst e0
    clear x0 x1
    have MA := hide ((unhide M5).more (World.grownBy_alloc w5 (.cells #[.int .i64 (-1), .int .i64 50, .int .i64 51, .int .i64 0] 3) none))
    go_wp2_with fail
    refine (draw.pickInt _ _ [-1, 50, 51, 0] _ (unhide MA).cur (by decide) (by decide) (sl.Sl.of_own (draw.own_alloc w5 [-1, 50, 51, 0] (by decide))) (fun k e => ?_)).mono ?_
    ·cases e
     have h1 := (unhide M5).hc
     have h2 := (unhide M5).g.size
     show c < w5.heap.size
     omega
    rintro e w6 ⟨y, rfl, hy, hc6, g6⟩
    have M6 := hide ((unhide MA).turn g6 hc6)
    clear hc6 g6 hy MA M5 r0 r1 rf0 rf1 z0 z1 zf0 zf1
    have z0 := (unhide M6).k.c0
    have z1 := (unhide M6).k.c1
    have zf0 := (unhide M6).k.f 0
    have M7 := hide ((unhide M6).room y)
    have z2 := (unhide M7).k.c0
    have z3 := (unhide M7).k.c1
    have r2 := (unhide M7).r.c0
    have r3 := (unhide M7).r.c1
    have rf2 := (unhide M7).r.f 0
    have rf3 := (unhide M7).r.f 1
    have CA := hide (caE_of (unhide M7) (by omega))
    have BB := hide (unhide M7).done.1
    clear M6 M7
    go_wp2_with fail
    exact bodyPost_ret (ua.ret_cache rfl rfl (unhide BB)) rfl (unhide CA)
   ·by_cases e1 : x = 1
    ·subst e1
     clear x0 x1 e0
     have HR5 := hide (unhide M5).v
     have LO := hide (ua.lies_one (w := w5) (u := .slice none 0 0) (k := ⟨⟨#[97]⟩, false, [], 0⟩) ⟨0, 0, an.own_none _ _ _⟩)
     have MA := hide ((unhide M5).more (World.grownBy_alloc w5 (.cells #[.string ⟨#[97]⟩, .bool false, .slice none 0 0, .int .i64 0] 36) none))
     have h5 : w.heap.size ≤ (w5.alloc (.cells #[.string ⟨#[97]⟩, .bool false, .slice none 0 0, .int .i64 0] 36)).heap.size := (unhide MA).g.size
     clear rf0 rf1 zf0 zf1 r0 r1
     go_wp2_with (at_builtin; refine ua.listA ((unhide HR5).kept (World.grownBy_alloc _ _ none)) (unhide LO) h5 (by show KK.length + 1 ≤ _; omega) rfl _ _ rfl rfl 1 rfl rfl ?_)
     intro pa pn pc w6 h6 g6
     have SW := (unhide MA).swap g6 h6 (fun x hx => by
      rw [List.mem_append, List.mem_singleton] at hx
      rcases hx with q | rfl
      ·exact (unhide MA).d x q
      ·exact ⟨Nat.zero_le _, by decide, by decide⟩)
     have y0 := SW.1.c0
     have y1 := SW.1.c1
     have yf1 := SW.1.f 1
     have M6 := hide SW.2
     have hl6 : (KK ++ [(⟨⟨#[97]⟩, false, [], 0⟩ : Kn)]).length ≤ 6 := by rw [List.length_append, List.length_singleton]; omega
     have z2 := (unhide M6).k.c0
     have z3 := (unhide M6).k.c1
     have r2 := (unhide M6).r.c0
     have r3 := (unhide M6).r.c1
     have rf2 := (unhide M6).r.f 0
     have rf3 := (unhide M6).r.f 1
     have CA := hide (caE_of (unhide M6) hl6)
     have BB := hide (unhide M6).done.1
     clear M6 SW MA h6 g6 HR5 LO M5 h5 z0 z1 hl6
     generalize KK ++ [(⟨⟨#[97]⟩, false, [], 0⟩ : Kn)] = KK2 at *
     go_wp2_with fail
     exact bodyPost_ret (ua.ret_cache rfl rfl (unhide BB)) rfl (unhide CA)
    ·have CA := hide (caE_of (unhide M5) (by omega))
     have BB := hide (unhide M5).done.1
     clear M5
     go_wp2_with fail
     exact bodyPost_ret (ua.ret_cache rfl rfl (unhide BB)) rfl (unhide CA)
end Go.Proofs.YtnlllcgcaddhmaaGreatDoor.dk
namespace Go.Proofs.YtnlllcgcaddhmaaGreatDoor.dk
open Go.ChangeShapes Go.WideShapes Go.ChangeAt Go.RowKit
open sl (Sl ints hide unhide grown_refl grown_trans grown_trans' below_of)
open css (Sls OwnS tot)
open cf (Box)
open yb (Box4)
open draw (Bs Cur newCur grown_new)
open ua (Kn kz Vl VKns RwK putK sizeC)
set_option linter.unusedVariables false
def LkD (w : World) (e : Ending) (w' : World) : Prop := ∃ (room : Int) (KK : List Kn) (u : Value) (lo : Nat) (n : Int) (v : Value) (M : List (List Int)) (a b : Nat), e = .returned (.tuple #[.agg #[.int .i64 room, u], .agg #[.int .i64 n, v]]) ∧ (∀ x ∈ KK, DK x) ∧ KK.length ≤ 7 ∧ RwK lo w' u KK ∧ tot M ≤ 1048576 ∧ OwnS a b w' v M ∧ w.grownBy w' none
theorem ret_cc {fn : Func} {p p2 : Tmp} {tmps : Array Value} {w : World} {c c2 : Nat} {x y a b : Value} (h : fn.results = #[.cell p 30, .cell p2 26]) (hp : tmps.getD p undef = .pointer (some ⟨c, 0, none⟩)) (hp2 : tmps.getD p2 undef = .pointer (some ⟨c2, 0, none⟩)) (hb : Box 30 w c x y) (hb2 : Box 26 w c2 a b) :
  (results fn tmps).run Tryz.prog w = .ok (.tuple #[.agg #[x, y], .agg #[a, b]]) w := by
 have e : (results fn tmps).run Tryz.prog w = ((asAddr (tmps.getD p undef)).run Tryz.prog w).andThen fun a w₁ => ((loadVar 30 a).run Tryz.prog w₁).andThen fun v w₂ => ((asAddr (tmps.getD p2 undef)).run Tryz.prog w₂).andThen fun a2 w₃ => ((loadVar 26 a2).run Tryz.prog w₃).andThen fun v2 w₄ => .ok (.tuple #[v, v2]) w₄ := by
  simp only [results, h]
  simp [Sem.run_bind, Result.andThen]
 rw [e, hp]
 simp only [asAddr, Sem.run_pure, Result.andThen_ok]
 rw [run_loadVar_row w c 30 30 #[x, y] (0, 0) _ hb Tryz.underlying30 rfl sizeC]
 simp only [Result.andThen_ok, hp2, Sem.run_pure]
 rw [run_loadVar_row w c2 26 26 #[a, b] (0, 0) _ hb2 Tryz.underlying26 rfl cf.sizeCnf]
 rfl
theorem cnf_ty : (36 : Nat) ≠ 26 ∧ (3 : Nat) ≠ 26 := by decide
structure MidL (c : Nat) (w wx : World) (kb fb : Nat) (room : Int) (u : Value) (KK : List Kn) (n : Int) (v : Value) (M : List (List Int)) : Prop where
 r : Box 30 wx w.heap.size (.int .i64 0) (.slice none 0 0)
 q : Box 26 wx (w.heap.size + 1) (.int .i64 0) (.slice none 0 0)
 k : Box 30 wx kb (.int .i64 room) u
 f : Box 26 wx fb (.int .i64 n) v
 e : RwK (w.heap.size + 2) wx u KK
 o : ∃ lo hi, kb < lo ∧ OwnS lo hi wx v M
 d : ∀ x ∈ KK, DK x
 l : KK.length ≤ 7
 t : tot M ≤ 1048576
 cur : Cur wx c
 g : w.grownBy wx none
 hc : w.heap.size + 1 < c
 hk : c < kb
 hf : kb < fb
theorem MidL.turn {c : Nat} {w wx wy : World} {kb fb : Nat} {room n : Int} {u v : Value} {KK : List Kn} {M : List (List Int)} (h : MidL c w wx kb fb room u KK n v M) (g : wx.grownBy wy (some c)) (hy : Cur wy c) : MidL c w wy kb fb room u KK n v M := by
 have h1 := h.hc
 have h2 := h.hk
 have h3 := h.hf
 obtain ⟨lo, hi, hlo, o⟩ := h.o
 exact ⟨h.r.by g (fun e => by simp only [Option.some.injEq] at e; omega), h.q.by g (fun e => by simp only [Option.some.injEq] at e; omega), h.k.by g (fun e => by simp only [Option.some.injEq] at e; omega), h.f.by g (fun e => by simp only [Option.some.injEq] at e; omega), rwk_turn h.e g h.cur, ⟨lo, hi, hlo, o.outs (css.outs_by (lo := c) (hi := c + 1) g (fun k e => by cases e; omega)) (by omega)⟩, h.d, h.l, h.t, hy, grown_new h.g g (by omega), h1, h2, h3⟩
theorem MidL.more {c : Nat} {w wx wy : World} {kb fb : Nat} {room n : Int} {u v : Value} {KK : List Kn} {M : List (List Int)} (h : MidL c w wx kb fb room u KK n v M) (g : wx.grownBy wy none) : MidL c w wy kb fb room u KK n v M := by
 obtain ⟨lo, hi, hlo, o⟩ := h.o
 exact ⟨h.r.kept g, h.q.kept g, h.k.kept g, h.f.kept g, h.e.kept g, ⟨lo, hi, hlo, o.kept g⟩, h.d, h.l, h.t, h.cur.kept g (fun r e => by cases e), grown_trans (r := none) h.g g, h.hc, h.hk, h.hf⟩
theorem MidL.put {c : Nat} {w wx : World} {kb fb : Nat} {room n : Int} {u u' v : Value} {KK KK' : List Kn} {M : List (List Int)} (h : MidL c w wx kb fb room u KK n v M) (hv : RwK (w.heap.size + 2) wx u' KK') (hd : ∀ x ∈ KK', DK x) (hl : KK'.length ≤ 7) :
  MidL c w ((wx.setCell ⟨kb, 0, none⟩ (.int .i64 room)).setCell ⟨kb, 1, none⟩ u') kb fb room u' KK' n v M := by
 have h1 := h.hc
 have h2 := h.hk
 have h3 := h.hf
 obtain ⟨lo, hi, hlo, o⟩ := h.o
 have n1 : kb ≠ w.heap.size := by omega
 have n2 : kb ≠ w.heap.size + 1 := by omega
 have n3 : kb ≠ fb := by omega
 refine ⟨(h.r.setO n1).setO n1, (h.q.setO n2).setO n2, (h.k.set0 _).set1 _, (h.f.setO n3).setO n3, ?_, ⟨lo, hi, hlo, cf.ownS_set (cf.ownS_set o (by omega)) (by omega)⟩, hd, hl, h.t, cur_set (cur_set h.cur (by omega)) (by omega), cf.grown_set (cf.grown_set h.g (by omega)) (by omega), h1, h2, h3⟩
 exact (hv.by (sl.grown_setCell _ _ _ _) h.k ua.cache_ty.1 ua.cache_ty.2).by (sl.grown_setCell _ _ _ _) (h.k.set0 _) ua.cache_ty.1 ua.cache_ty.2
theorem MidL.fin {c : Nat} {w wx : World} {kb fb : Nat} {room n : Int} {u v : Value} {KK : List Kn} {M : List (List Int)} (h : MidL c w wx kb fb room u KK n v M) :
  ∃ wy, wy = (((wx.setCell ⟨w.heap.size, 0, none⟩ (.int .i64 room)).setCell ⟨w.heap.size, 1, none⟩ u).setCell ⟨w.heap.size + 1, 0, none⟩ (.int .i64 n)).setCell ⟨w.heap.size + 1, 1, none⟩ v ∧
   Box 30 wy w.heap.size (.int .i64 room) u ∧ Box 26 wy (w.heap.size + 1) (.int .i64 n) v ∧ LkD w (.returned (.tuple #[.agg #[.int .i64 room, u], .agg #[.int .i64 n, v]])) wy := by
 have h1 := h.hc
 have h2 := h.hk
 obtain ⟨lo, hi, hlo, o⟩ := h.o
 have n1 : w.heap.size + 1 ≠ w.heap.size := by omega
 have n2 : w.heap.size ≠ w.heap.size + 1 := by omega
 have R1 := h.r.set0 (.int .i64 room)
 have R2 := R1.set1 u
 have Q2 := (h.q.setO (i := 0) (u := .int .i64 room) n2).setO (i := 1) (u := u) n2
 have Q3 := Q2.set0 (.int .i64 n)
 refine ⟨_, rfl, (R2.setO n1).setO n1, Q3.set1 v, room, KK, u, w.heap.size + 2, n, v, M, lo, hi, rfl, h.d, h.l, ?_, h.t, ?_, cf.grown_set (cf.grown_set (cf.grown_set (cf.grown_set h.g (Nat.le_refl _)) (Nat.le_refl _)) (by omega)) (by omega)⟩
 ·exact (((h.e.by (sl.grown_setCell _ _ _ _) h.r ua.cache_ty.1 ua.cache_ty.2).by (sl.grown_setCell _ _ _ _) R1 ua.cache_ty.1 ua.cache_ty.2).by (sl.grown_setCell _ _ _ _) Q2 cnf_ty.1 cnf_ty.2).by (sl.grown_setCell _ _ _ _) Q3 cnf_ty.1 cnf_ty.2
 ·exact cf.ownS_set (cf.ownS_set (cf.ownS_set (cf.ownS_set o (by omega)) (by omega)) (by omega)) (by omega)
theorem right_tot3 {c : Nat} {w w' : World} {n : Int} {v : Value} {M : List (List Int)} (h : dcn.Right c w w' 3 n v M) : tot M ≤ 1048576 := Nat.le_trans (df.tot_bd (dcn.bd_good ⟨h.1.1, by have := h.1.2; omega⟩ h.2.1 h.2.2.1) (by decide)) (by decide)
set_option maxRecDepth 10000 in
set_option maxHeartbeats 4000000 in
theorem drawLookup (a : Option Addr) (n cap : Nat) (w : World) (hn : n ≤ 1048576) (hB : Bs w a n) :
  Calls Tryz.prog 13 #[.slice a n cap] w fun e w' => LkD w e w' := by
 obtain ⟨W0, hW0⟩ : ∃ W0, W0 = (w.alloc (.cells #[.int .i64 0, .slice none 0 0] 30)).alloc (.cells #[.int .i64 0, .slice none 0 0] 26) := ⟨_, rfl⟩
 have g0 : w.grownBy W0 none := by rw [hW0]; exact grown_trans (World.grownBy_alloc _ _ _) (World.grownBy_alloc _ _ _)
 have s0 : w.heap.size + 2 ≤ W0.heap.size := by rw [hW0]; simp only [World.size_alloc]; omega
 have R0 : Hid (Box 30 W0 w.heap.size (.int .i64 0) (.slice none 0 0)) := by rw [hW0]; exact (Box.new _ _ _ _).kept (World.grownBy_alloc _ _ none)
 have Q0 : Hid (Box 26 W0 (w.heap.size + 1) (.int .i64 0) (.slice none 0 0)) := by
  rw [hW0]
  have q := Box.new 26 (w.alloc (.cells #[.int .i64 0, .slice none 0 0] 30)) (.int .i64 0) (.slice none 0 0)
  rw [World.size_alloc] at q
  exact q
 have NC := hide (newCur a n cap W0 hn (hB.below (below_of g0)))
 have G0 := hide g0
 clear hB g0
 go_enter Tryz.func13, Tryz.ntmps13
 go_wp2_with fail
 rw [← hW0]
 clear hW0
 refine (unhide NC).mono ?_; rintro e w1 ⟨rfl, hc1, g1⟩
 have G1 := hide (grown_trans (r := none) (unhide G0) g1)
 have R1 := hide ((unhide R0).kept g1)
 have Q1 := hide ((unhide Q0).kept g1)
 have C1 := hide hc1
 have s1 : w.heap.size + 2 ≤ w1.heap.size := Nat.le_trans s0 g1.size
 clear NC G0 R0 Q0 g1 hc1
 generalize W0.heap.size = c at *
 go_wp2_with fail
 refine (cache c w1 (unhide C1)).mono ?_; rintro e w2 ⟨room, KK, u, rfl, hd, hl, hv, hc2, g2⟩
 obtain ⟨ua2, uc2, rfl⟩ := hv.len
 have gA := World.grownBy_alloc w2 (.cells #[.int .i64 room, .slice ua2 KK.length uc2] 30) none
 obtain ⟨W3, hW3⟩ : ∃ W3, W3 = w2.alloc (.cells #[.int .i64 room, .slice ua2 KK.length uc2] 30) := ⟨_, rfl⟩
 rw [← hW3] at gA
 have B3 : Box 30 W3 w2.heap.size (.int .i64 room) (.slice ua2 KK.length uc2) := by rw [hW3]; exact Box.new _ _ _ _
 have z3 : W3.heap.size = w2.heap.size + 1 := by rw [hW3]; exact World.size_alloc ..
 have hc3 := hc2.kept gA (fun r e => by cases e)
 have hcw := hc2.lt
 have CC := hide (dcn.cnf c 3 W3 hc3 (by decide) (by decide))
 have HR := hide (((unhide R1).by g2 (fun e => by simp only [Option.some.injEq] at e; omega)).kept gA)
 have HQ := hide (((unhide Q1).by g2 (fun e => by simp only [Option.some.injEq] at e; omega)).kept gA)
 have HB := hide B3
 have HV := hide ((hv.kept gA).sub s1)
 have GG := hide (grown_new (unhide G1) (grown_some_none g2 gA) (by omega))
 have HC := hide hc3
 have HD := hide (And.intro hd hl)
 clear hd hl hv hc2 g2 gA B3 hc3 R1 Q1 G1 C1
 go_upto_region 3 with fail
 rw [← hW3]
 clear hW3
 generalize hkb : w2.heap.size = kb at *
 go_wp2_with fail
 refine (unhide CC).mono ?_; rintro e w4 ⟨n, v, M, rfl, hR⟩
 have ht := right_tot3 hR
 obtain ⟨_, _, _, od, g4, hc4⟩ := hR
 obtain ⟨va, vc, rfl⟩ := od.len
 have gB := World.grownBy_alloc w4 (.cells #[.int .i64 n, .slice va M.length vc] 26) none
 obtain ⟨W5, hW5⟩ : ∃ W5, W5 = w4.alloc (.cells #[.int .i64 n, .slice va M.length vc] 26) := ⟨_, rfl⟩
 rw [← hW5] at gB
 have F5 : Box 26 W5 w4.heap.size (.int .i64 n) (.slice va M.length vc) := by rw [hW5]; exact Box.new _ _ _ _
 have M5 : Hid (MidL c w W5 kb w4.heap.size room (.slice ua2 KK.length uc2) KK n (.slice va M.length vc) M) := by
  have s4 := g4.size
  exact ⟨((unhide HR).by g4 (fun e => by simp only [Option.some.injEq] at e; omega)).kept gB, ((unhide HQ).by g4 (fun e => by simp only [Option.some.injEq] at e; omega)).kept gB, ((unhide HB).by g4 (fun e => by simp only [Option.some.injEq] at e; omega)).kept gB, F5, (rwk_turn (unhide HV) g4 (unhide HC)).kept gB, ⟨W3.heap.size, w4.heap.size, by omega, od.kept gB⟩, (unhide HD).1, by have := (unhide HD).2; omega, ht, hc4.kept gB (fun r e => by cases e), grown_new (unhide GG) (grown_some_none g4 gB) (by omega), by omega, by omega, by omega⟩
 have HL6 := hide (unhide HD).2
 clear od g4 hc4 gB F5 ht HR HQ HB HV GG HC HD CC
 go_upto_region 4 with fail
 rw [← hW5]
 clear hW5
 generalize w4.heap.size = fb at *
 go_wp2_with fail
 refine (draw.once c 2 _ (unhide M5).cur (by decide) (by decide)).mono ?_; rintro e w6 ⟨t, rfl, hc6, g6⟩
 have M6 := hide ((unhide M5).turn g6 hc6)
 clear hc6 g6 M5
 cases t
 ·have FE := hide ((unhide M6).more (cf.grown_drew w6 none)).fin
  have k0 := (unhide M6).k.c0
  have k1 := (unhide M6).k.c1
  have f0 := (unhide M6).f.c0
  have f1 := (unhide M6).f.c1
  have r0 := (unhide M6).r.c0
  have r1 := (unhide M6).r.c1
  have r2 := (unhide M6).r.f 0
  have r3 := (unhide M6).r.f 1
  have q0 := (unhide M6).q.c0
  have q1 := (unhide M6).q.c1
  have q2 := (unhide M6).q.f 0
  have q3 := (unhide M6).q.f 1
  have n1 : fb ≠ w.heap.size := by have := (unhide M6).hc; have := (unhide M6).hk; have := (unhide M6).hf; omega
  have n2 : kb ≠ w.heap.size + 1 := by have := (unhide M6).hc; have := (unhide M6).hk; omega
  clear M6
  go_wp2_with fail
  go_region
  all_goals
   obtain ⟨wy, hwy, f1, f2, f3⟩ := unhide FE
   subst hwy
   have F1 := hide f1
   have F2 := hide f2
   have F3 := hide f3
   clear f1 f2 f3 FE
   go_wp2_with fail
   (try simp only [Exit.inBlock, Exit.then])
   exact bodyPost_ret (ret_cc rfl rfl rfl (unhide F1) (unhide F2)) rfl (unhide F3)
 ·have ht6 := (unhide M6).t
  have o6 := (unhide M6).o
  obtain ⟨lo6, hi6, _, o6⟩ := o6
  have CA := hide (an.specAsk (.slice va M.length vc) n M w6 ht6 o6.sls)
  have hDK := dk_ask n M
  obtain ⟨K, hK⟩ : ∃ K, K = an.askK n M := ⟨_, rfl⟩
  obtain ⟨b, hb⟩ : ∃ b, b = an.askB n M := ⟨_, rfl⟩
  rw [← hK, ← hb] at CA
  rw [← hK] at hDK
  clear hK hb o6 ht6
  unfold an.AskE at CA
  have HDK := hide hDK
  have f0 := (unhide M6).f.c0
  have f1 := (unhide M6).f.c1
  go_wp2_with fail
  refine (unhide CA).mono ?_; rintro e w7 ⟨u7, rfl, o7, g7⟩
  obtain ⟨a7, c7, rfl, hx7⟩ := o7.sl
  have gC := World.grownBy_alloc w7 (.cells #[.string K.dg, .bool K.sat, .slice a7 K.vals.length c7, .int .i64 K.cost] 36) none
  obtain ⟨W8, hW8⟩ : ∃ W8, W8 = w7.alloc (.cells #[.string K.dg, .bool K.sat, .slice a7 K.vals.length c7, .int .i64 K.cost] 36) := ⟨_, rfl⟩
  rw [← hW8] at gC
  have K8 : Box4 36 W8 w7.heap.size (.string K.dg) (.bool K.sat) (.slice a7 K.vals.length c7) (.int .i64 K.cost) := by rw [hW8]; exact Box4.new _ _ _ _ _ _
  have M8 := hide (((unhide M6).more g7).more gC)
  have V8 : Hid (Vl W8 (.slice a7 K.vals.length c7) K.vals) := ⟨_, _, o7.kept gC⟩
  have k0 := (unhide M8).k.c0
  have k1 := (unhide M8).k.c1
  have kf0 := (unhide M8).k.f 0
  have kf1 := (unhide M8).k.f 1
  have p0 := K8.c0
  have p1 := K8.c1
  have p2 := K8.c2
  have p3 := K8.c3
  have ht8 : ua.tot KK ≤ 1048576 := Nat.le_trans (dk_tot (unhide M8).d (unhide M8).l) (by decide)
  have CP := hide (ua.specCachePutT (.slice ua2 KK.length uc2) (.slice a7 K.vals.length c7) room KK K W8 ht8 (Nat.le_trans (unhide HDK).1 (by decide)) (unhide M8).e.vkns (unhide V8))
  clear f0 f1 g7 gC o7 hx7 hDK CA K8 ht8 V8
  go_upto_region 6 with fail
  rw [← hW8]
  clear hW8 M6
  generalize w7.heap.size = pb at *
  go_wp2_with fail
  refine (unhide CP).mono ?_; rintro e w9 ⟨u9, lo9, rfl, h9, g9, hl9⟩
  obtain ⟨a9, c9, rfl⟩ := h9.len
  have f0 := (unhide M8).f.c0
  have s8 : w.heap.size + 2 ≤ lo9 := by have := (unhide M8).hc; have := (unhide M8).hk; have := (unhide M8).k.lt; omega
  have hl7 : (ua.putK room KK K).length ≤ 7 := by have := put_len room KK K; have := unhide HL6; omega
  have M10 := hide (((unhide M8).more g9).put (h9.sub s8) (dk_put (unhide M8).d (unhide HDK)) hl7)
  obtain ⟨W10, hW10⟩ : ∃ W10, W10 = (w9.setCell ⟨kb, 0, none⟩ (.int .i64 room)).setCell ⟨kb, 1, none⟩ (.slice a9 (ua.putK room KK K).length c9) := ⟨_, rfl⟩
  have kk := ((unhide M8).more g9).k
  have j0 := kk.c0
  have j1 := kk.c1
  have j2 := kk.f 0
  have j3 := kk.f 1
  rw [← hW10] at M10
  clear k0 k1 kf0 kf1 p0 p1 p2 p3 h9 g9 hl9 kk CP M8 s8 f0 hl7 HL6 HDK
  generalize ua.putK room KK K = KP at *
  go_upto_region 7 with fail
  rw [← hW10]
  clear hW10 j0 j1 j2 j3
  have FE := hide ((unhide M10).more (cf.grown_drew W10 none)).fin
  have k0 := (unhide M10).k.c0
  have k1 := (unhide M10).k.c1
  have f0 := (unhide M10).f.c0
  have f1 := (unhide M10).f.c1
  have r0 := (unhide M10).r.c0
  have r1 := (unhide M10).r.c1
  have r2 := (unhide M10).r.f 0
  have r3 := (unhide M10).r.f 1
  have q0 := (unhide M10).q.c0
  have q1 := (unhide M10).q.c1
  have q2 := (unhide M10).q.f 0
  have q3 := (unhide M10).q.f 1
  have n1 : fb ≠ w.heap.size := by have := (unhide M10).hc; have := (unhide M10).hk; have := (unhide M10).hf; omega
  have n2 : kb ≠ w.heap.size + 1 := by have := (unhide M10).hc; have := (unhide M10).hk; omega
  clear M10
  go_wp2_with fail
  go_region
  all_goals
   obtain ⟨wy, hwy, f1, f2, f3⟩ := unhide FE
   subst hwy
   have F1 := hide f1
   have F2 := hide f2
   have F3 := hide f3
   clear f1 f2 f3 FE
   go_wp2_with fail
   (try simp only [Exit.inBlock, Exit.then])
   exact bodyPost_ret (ret_cc rfl rfl rfl (unhide F1) (unhide F2)) rfl (unhide F3)
end Go.Proofs.YtnlllcgcaddhmaaGreatDoor.dk
