/- The cursor that the laws draw their inputs with: it answers numbers within their bounds and writes into its own block alone; what is drawn is left open. What the laws draw of clauses: a list of at most 49 numbers in memory of the call's own, whatever the bytes; nothing old but the cursor is written. What the laws draw of assignments (values), and what stays while a cursor turns; whatever the bytes. What the laws draw of formulas: a formula in memory of the call's own, whatever the bytes, within named bounds; nothing old but the cursor is written. What the laws draw of formulas, right or not (l02Any): a formula in memory of the call's own, whatever the bytes, within named bounds; nothing old but the cursor is written. What Clash (of the program and of its model) answers at every list of at most 2^20 numbers; no other condition. What the model's SolveWith and Solve answer at every formula of the call's own that holds at most 2^20 values and every list of the call's own of at most 2^20 numbers. Plain mathematics of the machine: its path as a list of values, a step, many steps. What the model's l06False draws: a right formula of at most five variables; no condition but that the cursor is one. What the laws' own comparisons of lists answer at lists that are alike, and what DrawFix draws; whatever the bytes. What spec.DrawRefute draws: any formula, or one that mostly cannot be true, in memory of its own. What spec.DrawCheck draws: a formula that mostly cannot be true and what may be a proof of it, in memory of their own. spec.l01Pick at a list of texts: it tells one of them. What spec.DrawProofText and spec.DrawReadProof draw: clauses in memory of their own; a text of at most 2^20 bytes; nothing old is written. -/
import Derived.Test.YtcgiphcfjhbonaaGreatDoorSl
import Derived.Laws.BitsLemmas
import Derived.Test.YtcgiphcfjhbonaaGreatDoorCss
import Derived.Test.YtcgiphcfjhbonaaGreatDoorApp
import Derived.Deep.LoopGhost
import Derived.Deep.CutRange
import Derived.Deep.CutBlock
import Derived.Test.YtcgiphcfjhbonaaGreatDoorFm
import Derived.Test.YtcgiphcfjhbonaaGreatDoorLr
import Derived.Test.YtcgiphcfjhbonaaGreatDoorL4
import Derived.Test.YtcgiphcfjhbonaaGreatDoorTl
import Derived.Test.YtcgiphcfjhbonaaGreatDoorJIw
import Derived.Test.YtcgiphcfjhbonaaGreatDoorNs
import Derived.Deep.RegionHeld3
import Derived.Test.YtcgiphcfjhbonaaGreatDoorJPc
import Derived.Test.YtcgiphcfjhbonaaGreatDoorJIt
namespace Go.Proofs.YtcgiphcfjhbonaaGreatDoor.draw
open Go.ChangeShapes Go.WideShapes Go.ChangeAt Go.RowKit
open sl (Sl ints hide unhide ret_int ret_bool grown_refl grown_trans grown_trans' grown_drewN)
set_option linter.unusedVariables false

theorem and255 (n : Int) : bits .and .i64 n 255 = n % 256 := by
 have h255 : (BitVec.ofInt 64 255).toNat = 2 ^ 8 - 1 := by decide
 have key : (BitVec.ofInt 64 n &&& BitVec.ofInt 64 255).toNat = (n % ((2 ^ 64 : Nat) : Int)).toNat % 2 ^ 8 := by
  rw [BitVec.toNat_and, BitVec.toNat_ofInt, h255, Nat.and_two_pow_sub_one_eq_mod]
 show IntKind.i64.wrap ((BitVec.ofInt 64 n &&& BitVec.ofInt 64 255).toNat : Nat) = n % 256
 rw [key, IntKind.wrap_i64]
 omega
theorem and255_bd (n : Int) : 0 ≤ bits .and .i64 n 255 ∧ bits .and .i64 n 255 ≤ 255 := by
 rw [and255]
 omega

def Cur (w : World) (c : Nat) : Prop :=
 ∃ (a : Option Addr) (n cap i : Nat) (h : Int), n ≤ 1048576 ∧ i ≤ n ∧ w.heap[c]? = some (.cells #[.slice a n cap, .int .i64 i, .int .i64 h] 114 (0, 0)) ∧
  (n = 0 ∨ ∃ b off, a = some ⟨b, off, none⟩ ∧ b < c ∧ ∀ j, j < n → ∃ x : Nat, x ≤ 255 ∧ w.cell? ⟨b, off + j, none⟩ = some (.int .u8 (x : Int)))

theorem Cur.lt {w : World} {c : Nat} (h : Cur w c) : c < w.heap.size := by
 obtain ⟨a, n, cap, i, h, _, _, hb, _⟩ := h
 exact (Array.getElem?_eq_some_iff.1 hb).1

theorem Cur.kept {w w' : World} {c : Nat} {row : Option Nat} (h : Cur w c) (g : w.grownBy w' row) (hr : ∀ r, row = some r → c < r) : Cur w' c := by
 have hlt := h.lt
 obtain ⟨a, n, cap, i, h, hn, hi, hb, hx⟩ := h
 refine ⟨a, n, cap, i, h, hn, hi, (g.block c hlt (fun e => by have := hr c e.symm; omega)).trans hb, ?_⟩
 rcases hx with hx | ⟨b, off, e, hbc, hx⟩
 ·exact .inl hx
 ·refine .inr ⟨b, off, e, hbc, fun j hj => ?_⟩
  obtain ⟨x, hx1, hx2⟩ := hx j hj
  exact ⟨x, hx1, g.cell hx2 (fun e => by have := hr b e.symm; omega)⟩

theorem cells3 {w : World} {c : Nat} {x y z : Value} {t : TypeId} (h : w.heap[c]? = some (.cells #[x, y, z] t (0, 0))) :
  w.cell? ⟨c, 0, none⟩ = some x ∧ w.cell? ⟨c, 1, none⟩ = some y ∧ w.cell? ⟨c, 2, none⟩ = some z ∧ ∀ j, w.frozen? ⟨c, j, none⟩ = false := by
 refine ⟨by simp [World.cell?, h], by simp [World.cell?, h], by simp [World.cell?, h], fun j => by simp [World.frozen?, h]⟩

theorem set3_1 {w : World} {c : Nat} {x y z u : Value} {t : TypeId} (h : w.heap[c]? = some (.cells #[x, y, z] t (0, 0))) : (w.setCell ⟨c, 1, none⟩ u).heap[c]? = some (.cells #[x, u, z] t (0, 0)) := by
 simp [World.setCell, Array.getElem?_modify, h]
theorem set3_2 {w : World} {c : Nat} {x y z u : Value} {t : TypeId} (h : w.heap[c]? = some (.cells #[x, y, z] t (0, 0))) : (w.setCell ⟨c, 2, none⟩ u).heap[c]? = some (.cells #[x, y, u] t (0, 0)) := by
 simp [World.setCell, Array.getElem?_modify, h]
theorem grown_drew (w : World) (q : Nat) (r : Option Nat) : w.grownBy (w.drewN q) r := ⟨rfl, rfl, rfl, Nat.le_refl _, fun _ _ _ => rfl⟩
theorem grown_one (w : World) (c q : Nat) (u : Value) : w.grownBy ((w.setCell ⟨c, 2, none⟩ u).drewN q) (some c) :=
 grown_trans' (sl.grown_setCell w c 2 u) (grown_drew _ q _)
theorem grown_two (w : World) (c q : Nat) (u u' : Value) : w.grownBy (((w.setCell ⟨c, 2, none⟩ u).drewN q).setCell ⟨c, 1, none⟩ u') (some c) :=
 grown_trans' (grown_one w c q u) (sl.grown_setCell _ c 1 u')
theorem old_cell {w w' : World} {c b off n : Nat} (g : w.grownBy w' (some c)) (hbc : b < c) (hx : ∀ j, j < n → ∃ x : Nat, x ≤ 255 ∧ w.cell? ⟨b, off + j, none⟩ = some (.int .u8 (x : Int))) :
  ∀ j, j < n → ∃ x : Nat, x ≤ 255 ∧ w'.cell? ⟨b, off + j, none⟩ = some (.int .u8 (x : Int)) := by
 intro j hj
 obtain ⟨x, hx1, hx2⟩ := hx j hj
 exact ⟨x, hx1, g.cell hx2 (fun e => by injection e with e; exact absurd e (by show b ≠ c; omega))⟩

theorem cur_one {w : World} {c : Nat} {a : Option Addr} {n cap i : Nat} {h : Int} (q : Nat) (h' : Int) (hn : n ≤ 1048576) (hi : i ≤ n) (hb : w.heap[c]? = some (.cells #[.slice a n cap, .int .i64 i, .int .i64 h] 114 (0, 0)))
  (hx : n = 0 ∨ ∃ b off, a = some ⟨b, off, none⟩ ∧ b < c ∧ ∀ j, j < n → ∃ x : Nat, x ≤ 255 ∧ w.cell? ⟨b, off + j, none⟩ = some (.int .u8 (x : Int))) :
  Cur ((w.setCell ⟨c, 2, none⟩ (.int .i64 h')).drewN q) c := by
 refine ⟨a, n, cap, i, h', hn, hi, set3_2 hb, ?_⟩
 rcases hx with h0 | ⟨b, off, e, hbc, hx⟩
 ·exact .inl h0
 ·exact .inr ⟨b, off, e, hbc, old_cell (grown_one w c q _) hbc hx⟩
theorem Cur.drew {w : World} {c : Nat} (h : Cur w c) (q : Nat) : Cur (w.drewN q) c := h.kept (grown_drew w q none) (fun r e => by cases e)
theorem cur_two {w : World} {c : Nat} {a : Option Addr} {n cap i : Nat} {h : Int} (q : Nat) (h' : Int) (hn : n ≤ 1048576) (hi : i + 1 ≤ n) (hb : w.heap[c]? = some (.cells #[.slice a n cap, .int .i64 i, .int .i64 h] 114 (0, 0)))
  (hx : n = 0 ∨ ∃ b off, a = some ⟨b, off, none⟩ ∧ b < c ∧ ∀ j, j < n → ∃ x : Nat, x ≤ 255 ∧ w.cell? ⟨b, off + j, none⟩ = some (.int .u8 (x : Int))) :
  Cur (((w.setCell ⟨c, 2, none⟩ (.int .i64 h')).drewN q).setCell ⟨c, 1, none⟩ (.int .i64 ((i : Int) + 1))) c := by
 have e1 : ((w.setCell ⟨c, 2, none⟩ (.int .i64 h')).drewN q).heap[c]? = some (.cells #[.slice a n cap, .int .i64 i, .int .i64 h'] 114 (0, 0)) := set3_2 hb
 refine ⟨a, n, cap, i + 1, h', hn, hi, ?_, ?_⟩
 ·rw [show ((i + 1 : Nat) : Int) = (i : Int) + 1 from by omega]
  exact set3_1 e1
 ·rcases hx with h0 | ⟨b, off, e, hbc, hx⟩
  ·exact .inl h0
  ·exact .inr ⟨b, off, e, hbc, old_cell (grown_two w c q _ _) hbc hx⟩

set_option maxHeartbeats 400000 in
theorem byte (c : Nat) (w : World) (hc : Cur w c) :
  Calls Tryz.prog 92 #[.pointer (some ⟨c, 0, none⟩)] w fun e w' => ∃ x : Int, e = .returned (.int .i64 x) ∧ 0 ≤ x ∧ x ≤ 255 ∧ Cur w' c ∧ w.grownBy w' (some c) := by
 obtain ⟨a, n, cap, i, h, hn, hi, hb, hx⟩ := hc
 obtain ⟨c0, c1, c2, cf⟩ := cells3 hb
 have f1 := cf 1
 have f2 := cf 2
 have HB := hide hb
 have HX := hide hx
 clear hb hx cf
 by_cases hlt : i < n
 ·rcases unhide HX with h0 | ⟨b, off, rfl, hbc, hx⟩
  ·omega
  ·have HXX := hide hx
   obtain ⟨x, hx1, hx2⟩ := hx i hlt
   have hlt' : (i : Int) < (n : Int) := by omega
   clear hx HX
   go_enter Tryz.func92, Tryz.ntmps92
   go_wp2
   go_quiet (fail)
   go_wp2
   go_quiet (fail)
   go_wp2
   go_quiet (fail)
   go_wp2
   go_ret
   exact ⟨_, rfl, (and255_bd _).1, (and255_bd _).2, cur_two _ _ hn hlt (unhide HB) (.inr ⟨b, off, rfl, hbc, unhide HXX⟩), grown_two w c _ _ _⟩
 ·have hlt' : ¬ (i : Int) < (n : Int) := by omega
  go_enter Tryz.func92, Tryz.ntmps92
  go_wp2
  go_quiet (fail)
  go_wp2
  go_quiet (fail)
  go_wp2
  go_ret
  exact ⟨_, rfl, (and255_bd _).1, (and255_bd _).2, Cur.drew (cur_one _ _ hn hi (unhide HB) (unhide HX)) _, grown_trans' (grown_one w c _ _) (grown_drew _ _ _)⟩

theorem below (c : Nat) (n : Int) (w : World) (hc : Cur w c) (n0 : 0 < n) (n1 : n ≤ 1073741824) :
  Calls Tryz.prog 49 #[.pointer (some ⟨c, 0, none⟩), .int .i64 n] w fun e w' => ∃ x : Int, e = .returned (.int .i64 x) ∧ 0 ≤ x ∧ x < n ∧ Cur w' c ∧ w.grownBy w' (some c) := by
 have HC := hide hc
 clear hc
 have m0 : ¬ n ≤ 0 := by omega
 by_cases h : n ≤ 256
 ·go_enter Tryz.func49, Tryz.ntmps49
  go_wp2_with fail
  refine (byte c _ (unhide HC)).mono ?_; rintro e w1 ⟨x, rfl, x0, x1, hc1, g1⟩
  have HC1 := hide hc1
  have G1 := hide g1
  clear hc1 g1
  go_wp2_with fail
  go_ret
  exact ⟨_, rfl, Int.emod_nonneg _ (by omega), Int.emod_lt_of_pos _ n0, unhide HC1, unhide G1⟩
 ·go_enter Tryz.func49, Tryz.ntmps49
  go_wp2_with fail
  refine (byte c _ (unhide HC)).mono ?_; rintro e w1 ⟨x, rfl, x0, x1, hc1, g1⟩
  have HC1 := hide hc1
  have G1 := hide g1
  clear hc1 g1 HC
  go_wp2_with fail
  refine (byte c _ (unhide HC1)).mono ?_; rintro e w2 ⟨y, rfl, y0, y1, hc2, g2⟩
  have HC2 := hide hc2
  have G2 := hide (grown_trans' (unhide G1) g2)
  clear hc2 g2 HC1 G1
  go_wp2_with fail
  refine (byte c _ (unhide HC2)).mono ?_; rintro e w3 ⟨z, rfl, z0, z1, hc3, g3⟩
  have HC3 := hide hc3
  have G3 := hide (grown_trans' (unhide G2) g3)
  clear hc3 g3 HC2 G2
  go_wp2_with fail
  refine (byte c _ (unhide HC3)).mono ?_; rintro e w4 ⟨q, rfl, q0, q1, hc4, g4⟩
  have HC4 := hide hc4
  have G4 := hide (grown_trans' (unhide G3) g4)
  clear hc4 g4 HC3 G3
  go_wp2_with fail
  go_ret
  exact ⟨_, rfl, Int.emod_nonneg _ (by omega), Int.emod_lt_of_pos _ n0, unhide HC4, unhide G4⟩

theorem once (c : Nat) (n : Int) (w : World) (hc : Cur w c) (n0 : 0 < n) (n1 : n ≤ 1073741824) :
  Calls Tryz.prog 35 #[.pointer (some ⟨c, 0, none⟩), .int .i64 n] w fun e w' => ∃ b : Bool, e = .returned (.bool b) ∧ Cur w' c ∧ w.grownBy w' (some c) := by
 have HC := hide hc
 clear hc
 go_enter Tryz.func35, Tryz.ntmps35
 go_wp2_with fail
 refine (below c n _ (unhide HC) n0 n1).mono ?_; rintro e w1 ⟨x, rfl, x0, x1, hc1, g1⟩
 have HC1 := hide hc1
 have G1 := hide g1
 clear hc1 g1
 go_wp2_with fail
 go_ret
 exact ⟨_, rfl, unhide HC1, unhide G1⟩

def I64 (x : Int) : Prop := (Lit.int .i64 x).wf = true

theorem pickInt (c : Nat) (v : Value) (L : List Int) (w : World) (hc : Cur w c) (hL : 0 < L.length) (hL1 : L.length ≤ 1048576) (hv : Sl w v L) (hb : ∀ k, v.ownBlock = some k → c < k) :
  Calls Tryz.prog 142 #[.pointer (some ⟨c, 0, none⟩), v] w fun e w' => ∃ x : Int, e = .returned (.int .i64 x) ∧ x ∈ L ∧ Cur w' c ∧ w.grownBy w' (some c) := by
 have hv' := hv
 obtain ⟨a, cap, rfl, ha⟩ := hv
 rcases ha with rfl | ⟨b, off, rfl, hbs, hcb⟩
 ·simp at hL
 ·have HC := hide hc
  have HB := hide hcb
  have hbc : c < b := hb b rfl
  clear hc hcb hv' hb
  go_enter Tryz.func142, Tryz.ntmps142
  go_wp2_with fail
  refine (below c _ _ (unhide HC) (by omega) (by omega)).mono ?_; rintro e w1 ⟨x, rfl, x0, x1, hc1, g1⟩
  obtain ⟨j, rfl⟩ := Int.eq_ofNat_of_zero_le x0
  have hj : j < L.length := by omega
  have c1 : w1.cell? ⟨b, off + j, none⟩ = some (.int .i64 (L.getD j 0)) := g1.cell (unhide HB j hj) (fun e => by injection e with e; exact absurd e (by show b ≠ c; omega))
  have hm : L.getD j 0 ∈ L := by rw [show L.getD j 0 = L[j] by simp [hj]]; exact List.getElem_mem hj
  generalize L.getD j 0 = y at *
  have HM := hide hm
  have HC1 := hide hc1
  have G1 := hide g1
  clear hc1 g1 hm HB HC
  go_wp2_with fail
  go_ret
  exact ⟨_, rfl, unhide HM, unhide HC1, unhide G1⟩

def Bs (w : World) (a : Option Addr) (n : Nat) : Prop := n = 0 ∨ ∃ b off, a = some ⟨b, off, none⟩ ∧ b < w.heap.size ∧ ∀ j, j < n → ∃ x : Nat, x ≤ 255 ∧ w.cell? ⟨b, off + j, none⟩ = some (.int .u8 (x : Int))
theorem Bs.below {w w' : World} {a : Option Addr} {n : Nat} (h : Bs w a n) (hb : Below w.heap.size w w') : Bs w' a n := by
 rcases h with h | ⟨b, off, e, hl, hx⟩
 ·exact .inl h
 ·refine .inr ⟨b, off, e, Nat.lt_of_lt_of_le hl hb.size, fun j hj => ?_⟩
  obtain ⟨x, hx1, hx2⟩ := hx j hj
  exact ⟨x, hx1, (hb.cell (p := ⟨b, off + j, none⟩) hl).trans hx2⟩
theorem of_rowB {w : World} {a : Option Addr} {len cap : Nat} {zs : List Int}
  (h : (a = none ∧ len = 0 ∧ cap = 0 ∧ zs = []) ∨ ∃ x, a = some x ∧ len ≤ cap ∧ cap ≤ maxLen ∧ zs.length = cap ∧ (∀ i, i < zs.length → w.cell? (x.add i) = some (.int .u8 (zs.getD i 0))) ∧ ∀ n ∈ zs, (Lit.int .u8 n).wf = true) :
  Bs w a len := by
 rcases h with ⟨rfl, rfl, rfl, rfl⟩ | ⟨x, rfl, hl, hm, hz, hc, hw⟩
 ·exact .inl rfl
 ·by_cases h0 : len = 0
  ·exact .inl h0
  ·obtain ⟨b, off, spot⟩ := x
   have h1 := hc 0 (by omega)
   have hs : spot = none := by simpa [Addr.add] using World.cell?_spot h1
   subst hs
   refine .inr ⟨b, off, rfl, World.block_lt_of_cell? w _ h1, fun j hj => ?_⟩
   have h2 := hc j (by omega)
   rw [Addr.add_lit] at h2
   have hm : zs.getD j 0 ∈ zs := by rw [show zs.getD j 0 = zs[j]'(by omega) by simp [show j < zs.length by omega]]; exact List.getElem_mem _
   have h3 := hw _ hm
   have h4 : 0 ≤ zs.getD j 0 ∧ zs.getD j 0 ≤ 255 := by simpa [Lit.wf, IntKind.min, IntKind.max, IntKind.signed, IntKind.bits] using h3
   exact ⟨(zs.getD j 0).toNat, by omega, by rw [h2]; congr 2; omega⟩

theorem new_cur (w : World) (a : Option Addr) (n cap : Nat) (h : Int) (hn : n ≤ 1048576) (hB : Bs w a n) : Cur (w.alloc (.cells #[.slice a n cap, .int .i64 0, .int .i64 h] 114)) w.heap.size := by
 refine ⟨a, n, cap, 0, h, hn, Nat.zero_le _, heap_alloc_new w _, ?_⟩
 rcases hB with h0 | ⟨b, off, e, hl, hx⟩
 ·exact .inl h0
 ·refine .inr ⟨b, off, e, hl, fun j hj => ?_⟩
  obtain ⟨x, hx1, hx2⟩ := hx j hj
  exact ⟨x, hx1, (World.grownBy_alloc w _ none).cell hx2 (fun e => by cases e)⟩

theorem newCur (a : Option Addr) (n cap : Nat) (w : World) (hn : n ≤ 1048576) (hB : Bs w a n) :
  Calls Tryz.prog 33 #[.slice a n cap] w fun e w' => e = .returned (.pointer (some ⟨w.heap.size, 0, none⟩)) ∧ Cur w' w.heap.size ∧ w.grownBy w' none := by
 have HB := hide hB
 clear hB
 go_enter Tryz.func33, Tryz.ntmps33
 go_wp2
 go_loop [3, 4] (fun h i => ∃ (k : Nat) (H : Int), k ≤ n ∧ i = .int .i64 k ∧ h = .int .i64 H) (fun _ i => n - (intOf i).toNat)
 case atStart => exact ⟨0, _, Nat.zero_le _, rfl, rfl⟩
 case round =>
  obtain ⟨k, H, hk, rfl, rfl⟩ := hrel
  by_cases hlt : k < n
  ·have hi' : (k : Int) < (n : Int) := by omega
   by_cases h4 : k < 4000
   ·have h4' : (k : Int) < 4000 := by omega
    rcases unhide HB with h0 | ⟨b, off, rfl, hl, hx⟩
    ·omega
    ·obtain ⟨x, hx1, hx2⟩ := hx k hlt
     clear hx
     go_wp2
     go_round
     case rel => exact ⟨k + 1, _, by omega, by go_num, rfl⟩
     case measure => simp [intOf]; omega
   ·have h4' : decide ((k : Int) < 4000) = false := decide_eq_false (by omega)
    go_wp2
    go_ret
    exact ⟨rfl, new_cur _ _ _ _ _ hn (unhide HB), World.grownBy_alloc _ _ _⟩
  ·have hi' : decide ((k : Int) < (n : Int)) = false := decide_eq_false (by omega)
   go_wp2
   go_ret
   exact ⟨rfl, new_cur _ _ _ _ _ hn (unhide HB), World.grownBy_alloc _ _ _⟩

def edges : List Int := [0, 25, -25, 24, -24, 9223372036854775807, -9223372036854775808]
theorem edges_wf : ∀ x ∈ edges, I64 x := by
 intro x hx
 simp only [edges, List.mem_cons, List.not_mem_nil, or_false] at hx
 unfold I64
 rcases hx with rfl | rfl | rfl | rfl | rfl | rfl | rfl <;> decide
theorem own_alloc (w : World) (L : List Int) (hL : L.length ≤ maxLen) : (w.alloc (.cells (ints L).toArray 3)).ownsRow w.heap.size 3 1 (.slice (some ⟨w.heap.size, 0, none⟩) L.length L.length) L.length (ints L) :=
 World.ownsRow_lit w (ints L).toArray L.length (Nat.le_refl _) hL (by simp [ints])
theorem edges_own (w : World) : (w.alloc (.cells #[.int .i64 0, .int .i64 25, .int .i64 (-25), .int .i64 24, .int .i64 (-24), .int .i64 9223372036854775807, .int .i64 (-9223372036854775808)] 3)).ownsRow w.heap.size 3 1 (.slice (some ⟨w.heap.size, 0, none⟩) 7 7) 7 (ints edges) :=
 own_alloc w edges (by decide)

theorem grown_alloc_some (w : World) (o : Obj) (r : Option Nat) : w.grownBy (w.alloc o) r := World.grownBy_alloc w o r
theorem i64_of {x : Int} (h1 : -1073741825 ≤ x) (h2 : x ≤ 1073741825) : I64 x := by
 unfold I64
 simp [Lit.wf, IntKind.min, IntKind.max, IntKind.signed, IntKind.bits]
 omega

theorem lit (c : Nat) (n : Int) (w : World) (hc : Cur w c) (n0 : 0 < n) (n1 : n ≤ 1073741824) :
  Calls Tryz.prog 137 #[.pointer (some ⟨c, 0, none⟩), .int .i64 n] w fun e w' => ∃ x : Int, e = .returned (.int .i64 x) ∧ I64 x ∧ Cur w' c ∧ w.grownBy w' (some c) := by
 have HC := hide hc
 clear hc
 go_enter Tryz.func137, Tryz.ntmps137
 go_wp2_with fail
 refine (once c _ _ (unhide HC) (by decide) (by decide)).mono ?_; rintro e w1 ⟨b1, rfl, hc1, g1⟩
 have HC1 := hide hc1
 have G1 := hide g1
 clear hc1 g1 HC
 cases b1
 ·go_wp2_with fail
  refine (below c n _ (unhide HC1) n0 n1).mono ?_; rintro e w2 ⟨x, rfl, x0, x1, hc2, g2⟩
  have HC2 := hide hc2
  have G2 := hide (grown_trans' (unhide G1) g2)
  clear hc2 g2 HC1 G1
  go_wp2_with fail
  refine (once c _ _ (unhide HC2) (by decide) (by decide)).mono ?_; rintro e w3 ⟨b3, rfl, hc3, g3⟩
  have HC3 := hide hc3
  have G3 := hide (grown_trans' (unhide G2) g3)
  clear hc3 g3 HC2 G2
  cases b3
  ·go_wp2_with fail
   go_ret
   exact ⟨_, rfl, i64_of (by omega) (by omega), unhide HC3, unhide G3⟩
  ·go_wp2_with fail
   go_ret
   exact ⟨_, rfl, i64_of (by omega) (by omega), unhide HC3, unhide G3⟩
 ·go_wp2_with fail
  refine (pickInt c _ edges _ ((unhide HC1).kept (grown_alloc_some _ _ none) (fun r e => by cases e)) (by decide) (by decide) (sl.Sl.of_own (edges_own w1)) (fun k e => ?_)).mono ?_
  ·cases e
   exact (unhide HC1).lt
  rintro e w2 ⟨x, rfl, hx, hc2, g2⟩
  have HX := hide (edges_wf x hx)
  have HC2 := hide hc2
  have G2 := hide (grown_trans' (grown_trans' (unhide G1) (grown_alloc_some _ _ _)) g2)
  clear hc2 g2 hx HC1 G1
  go_wp2_with fail
  go_ret
  exact ⟨_, rfl, unhide HX, unhide HC2, unhide G2⟩

theorem grown_new {a b d : World} {r : Nat} (h : a.grownBy b none) (k : b.grownBy d (some r)) (hr : a.heap.size ≤ r) : a.grownBy d none :=
 ⟨k.os.trans h.os, k.tape.trans h.tape, k.output.trans h.output, Nat.le_trans h.size k.size, fun i hi _ => (k.block i (Nat.lt_of_lt_of_le hi h.size) (fun e => by injection e with e; omega)).trans (h.block i hi (fun e => by cases e))⟩
theorem big (a : Option Addr) (n cap : Nat) (w : World) (hn : n ≤ 9223372036854775807) : Calls Tryz.prog 8 #[.slice a n cap] w fun e w' => e = .returned (.bool (decide (1048576 < n))) ∧ w' = w := by
 by_cases h : 1048576 < n
 ·rw [decide_eq_true h]
  have h' : (1048576 : Int) < (n : Int) := by omega
  go_enter Tryz.func8, Tryz.ntmps8
  go_wp2
  go_ret
  exact ⟨rfl, rfl⟩
 ·rw [decide_eq_false h]
  have h' : ¬ (1048576 : Int) < (n : Int) := by omega
  go_enter Tryz.func8, Tryz.ntmps8
  go_wp2
  go_ret
  exact ⟨rfl, rfl⟩
end Go.Proofs.YtcgiphcfjhbonaaGreatDoor.draw
namespace Go.Proofs.YtcgiphcfjhbonaaGreatDoor.dcls
open Go.ChangeShapes Go.WideShapes Go.ChangeAt Go.RowKit
open sl (Sl ints hide unhide grown_refl grown_trans grown_trans' of_below below_of grown_drewN)
open draw (Cur Bs I64 newCur grown_new)
open wo (Made)
set_option linter.unusedVariables false

def MadeC (c : Nat) (w w1 : World) (v : Value) (M : List Int) : Prop := w1.ownsRow w.heap.size 3 1 v M.length (ints M) ∧ w.grownBy w1 (some c) ∧ Cur w1 c
theorem MadeC.form {c : Nat} {w w1 : World} {v : Value} {M : List Int} (h : MadeC c w w1 v M) : ∃ a cap, v = .slice a M.length cap := by
 obtain ⟨a, cap, e, _⟩ := Sl.of_own h.1
 exact ⟨a, cap, e⟩
theorem MadeC.turn {c : Nat} {w wr w1 : World} {v : Value} {M : List Int} (h : MadeC c w wr v M) (hc : c < w.heap.size) (g : wr.grownBy w1 (some c)) (hcur : Cur w1 c) : MadeC c w w1 v M := by
 refine ⟨h.1.kept g (.inr (fun e => ?_)), grown_trans' h.2.1 g, hcur⟩
 have := (h.1.lt c e).1
 omega
theorem MadeC.start (c : Nat) (w : World) (h : Cur w c) : MadeC c w (w.alloc (.cells #[] 3)) (.slice (some ⟨w.heap.size, 0, none⟩) 0 0) [] :=
 ⟨(app.made_nil w).1, World.grownBy_alloc _ _ _, h.kept (World.grownBy_alloc w _ none) (fun r e => by cases e)⟩
theorem MadeC.grow {c : Nat} {w wr w1 : World} {v v' : Value} {M : List Int} {y : Int} {o : Obj} (h : MadeC c w wr v M) (hc : c < w.heap.size)
  (hown' : w1.ownsRow w.heap.size 3 1 v' (M.length + 1) (ints M ++ [.int .i64 y])) (hgrow : (wr.alloc o).grownBy w1 v.ownBlock) : MadeC c w w1 v' (M ++ [y]) := by
 obtain ⟨hown, hg, hcur⟩ := h
 refine ⟨?_, ⟨hgrow.os.trans hg.os, hgrow.tape.trans hg.tape, hgrow.output.trans hg.output, ?_, fun k hk hne => ?_⟩, ?_⟩
 ·have e1 : (M ++ [y]).length = M.length + 1 := by simp
  have e2 : ints (M ++ [y]) = ints M ++ [.int .i64 y] := by simp [ints]
  rw [e1, e2]
  exact hown'
 ·have h1 := hgrow.size
  have h2 := hg.size
  simp at h1
  omega
 ·have h2 := hg.size
  rw [hgrow.block k (by simp; omega) ?_, Below.heap_alloc _ _ _ (by omega)]
  ·exact hg.block k hk hne
  ·intro e
   have := (hown.lt k e.symm).1
   omega
 ·refine (hcur.kept (World.grownBy_alloc wr o none) (fun r e => by cases e)).kept hgrow (fun r e => ?_)
  have := (hown.lt r e).1
  omega
theorem appendC {ops : Array Oper} {rest : List Oper} {o : Oper} {a : Act} {Q : Exit → Act → World → Prop} {c : Nat} {w wr : World} {v : Value} {M : List Int} {y : Int}
  (hm : MadeC c w wr v M) (hc : c < w.heap.size) (hM : M.length ≤ 4194304) (hgd : o.guard = none) (s x : Operand)
  (ho : o.op = .call { callee := .builtin .append, args := #[s, x], argTypes := #[43, 43] }) (hs : a.eval s = v) (hx : a.eval x = .slice (some ⟨wr.heap.size, 0, none⟩) 1 1)
  (h : ∀ v' w1, MadeC c w w1 v' (M ++ [y]) → wpList Tryz.prog ops Q rest (a.put o.dst v') w1) :
  wpList Tryz.prog ops Q (o :: rest) a (wr.alloc (.cells #[.int .i64 y] 3)) := by
 obtain ⟨i0, hi, hz0, hz1, hz2⟩ := info_parts sl.info3
 have hown := hm.1
 have hsz := hm.2.1.size
 refine wpList_append_own _ hgd s x 43 ho w.heap.size 3 i0 (.int .i64 0) 1 8 Tryz.underlying43 hi hz0 hz1 hz2 rfl (by decide) v M.length (ints M) hs (hown.alloc _) ⟨wr.heap.size, 0, none⟩ 1 1 [.int .i64 y] hx rfl ?_ ?_ ?_ ?_ ?_ ?_
 ·intro j u hj
  match j, hj with
  | 0, hj => simp at hj; subst hj; simp [Addr.add]
 ·intro u hu
  simp at hu
  subst hu
  rfl
 ·unfold maxLen
  omega
 ·omega
 ·simp
  omega
 ·intro v' w1 hown' hgrow _
  exact h v' w1 (hm.grow hc hown' hgrow)
def slLen : Value → Nat
 | .slice _ n _ => n
 | _ => 0

set_option maxHeartbeats 800000 in
theorem clause (c : Nat) (n most : Int) (w : World) (hc : Cur w c) (n0 : 0 < n) (n1 : n ≤ 1073741824) (m0 : 0 ≤ most) (m1 : most ≤ 6) :
  Calls Tryz.prog 83 #[.pointer (some ⟨c, 0, none⟩), .int .i64 n, .int .i64 most] w fun e w' => ∃ v L, e = .returned v ∧ L.length ≤ 49 ∧ MadeC c w w' v L := by
 have hlt := hc.lt
 have START := hide (MadeC.start c w hc)
 clear hc
 go_enter Tryz.func83, Tryz.ntmps83
 go_wp2_with fail
 refine (draw.below c _ _ (unhide START).2.2 (by omega) (by omega)).mono ?_; rintro e w1 ⟨x, rfl, x0, x1, hc1, g1⟩
 obtain ⟨K, rfl⟩ := Int.eq_ofNat_of_zero_le x0
 have M1 := hide ((unhide START).turn hlt g1 hc1)
 have hK : K ≤ 6 := by omega
 clear hc1 g1 START x0 x1
 go_wp2_with fail
 go_loopw [7, 9] (fun u i wr => ∃ (k : Nat) (M : List Int), k ≤ K ∧ M.length = k ∧ i = .int .i64 k ∧ MadeC c w wr u M) (fun _ i _ => K - (intOf i).toNat)
 case atStart => exact ⟨0, [], Nat.zero_le _, rfl, rfl, unhide M1⟩
 case round =>
  obtain ⟨k, M, hk, hM, rfl, hm⟩ := hrel
  clear M1
  have HM := hide hm
  clear hm
  by_cases hlt' : k < K
  ·have hi : (k : Int) < (K : Int) := by omega
   go_wp2_with fail
   refine (draw.lit c n _ (unhide HM).2.2 n0 n1).mono ?_; rintro e w2 ⟨y, rfl, hy, hc2, g2⟩
   have HM2 := hide ((unhide HM).turn hlt g2 hc2)
   clear hy hc2 g2 HM
   go_wp2_with (at_builtin; refine appendC (unhide HM2) hlt (by omega) rfl _ _ rfl rfl rfl ?_)
   intro v' w3 R
   clear HM2
   go_wp2
   go_roundw
   case rel => exact ⟨k + 1, M ++ [y], by omega, by rw [List.length_append, hM]; rfl, by go_num, R⟩
   case measure => simp [intOf]; omega
  ·have hi : ¬ (k : Int) < (K : Int) := by omega
   go_wp2_with fail
   refine (draw.once c _ _ (unhide HM).2.2 (by decide) (by decide)).mono ?_; rintro e w2 ⟨b, rfl, hc2, g2⟩
   have HM2 := hide ((unhide HM).turn hlt g2 hc2)
   clear hc2 g2 HM
   cases b
   ·go_wp2_with fail
    go_ret
    exact ⟨_, M, rfl, by omega, unhide HM2⟩
   ·have hM9 : M.length ≤ 49 := by omega
    clear hM hk hi hlt'
    go_wp2_with fail
    go_loopw [7] (fun u wr => ∃ (N : List Int), N.length ≤ 49 ∧ MadeC c w wr u N) (fun u _ => 49 - slLen u)
    case atStart => exact ⟨M, hM9, unhide HM2⟩
    case round =>
     obtain ⟨N, hN, hm⟩ := hrel
     clear HM2 hM9
     obtain ⟨a, cap, rfl⟩ := hm.form
     have HM3 := hide hm
     clear hm
     go_wp2_with fail
     refine (draw.below c _ _ (unhide HM3).2.2 (by decide) (by decide)).mono ?_; rintro e w3 ⟨x, rfl, x0, x1, hc3, g3⟩
     have HM4 := hide ((unhide HM3).turn hlt g3 hc3)
     clear hc3 g3 HM3
     by_cases h48 : (N.length : Int) < 48 + x
     ·go_wp2_with (at_builtin; refine appendC (unhide HM4) hlt (by omega) rfl _ _ rfl rfl rfl ?_)
      intro v' w4 R
      clear HM4
      obtain ⟨a', cap', rfl⟩ := R.form
      have HR := hide R
      have hl : (N ++ [1]).length = N.length + 1 := by simp
      clear R
      go_wp2
      go_roundw
      case rel => exact ⟨N ++ [1], by omega, unhide HR⟩
      case measure => simp [slLen]; omega
     ·go_wp2_with fail
      go_ret
      exact ⟨_, N, rfl, hN, unhide HM4⟩

theorem sameC (v u : Value) (L : List Int) (w : World) (hL : L.length ≤ 1048576) (hv : Sl w v L) (hu : Sl w u L) :
  Calls Tryz.prog 48 #[v, u] w fun e w' => e = .returned (.bool true) ∧ w.grownBy w' none := by
 obtain ⟨a, cap, rfl, ha⟩ := hv
 obtain ⟨c, cap', rfl, hc⟩ := hu
 rcases ha with rfl | ⟨b, off, rfl, hb, hcb⟩
 ·go_enter Tryz.func48, Tryz.ntmps48
  go_wp2
  refine wp_loop_rounds 1 ?_
  rw [rounds_succ]
  go_wp2
  go_ret
  exact ⟨rfl, grown_refl _⟩
 ·rcases hc with rfl | ⟨d, off', rfl, hd, hcd⟩
  ·go_enter Tryz.func48, Tryz.ntmps48
   go_wp2
   refine wp_loop_rounds 1 ?_
   rw [rounds_succ]
   go_wp2
   go_ret
   exact ⟨rfl, grown_refl _⟩
  ·have HB := hide hcb
   have HD := hide hcd
   clear hcb hcd
   go_enter Tryz.func48, Tryz.ntmps48
   go_wp2
   go_loopw [5] (fun i wr => ∃ k : Nat, k ≤ L.length ∧ i = .int .i64 k ∧ w.grownBy wr none) (fun i _ => L.length - (intOf i).toNat)
   case atStart => exact ⟨0, Nat.zero_le _, rfl, grown_refl _⟩
   case round =>
    obtain ⟨k, hk, rfl, hg⟩ := hrel
    by_cases hlt : k < L.length
    ·have c1 : wr.cell? ⟨b, off + k, none⟩ = some (.int .i64 (L.getD k 0)) := hg.cell (unhide HB k hlt) (fun e => by cases e)
     have c2 : wr.cell? ⟨d, off' + k, none⟩ = some (.int .i64 (L.getD k 0)) := hg.cell (unhide HD k hlt) (fun e => by cases e)
     have hi : (k : Int) < (L.length : Int) := by omega
     have G := hide hg
     clear hg
     go_wp2
     go_quiet (fail)
     go_wp2
     go_roundw
     case rel => exact ⟨k + 1, by omega, by go_num, grown_trans (unhide G) (grown_drewN _ _)⟩
     case measure => simp [intOf]; omega
    ·have hi : ¬ (k : Int) < (L.length : Int) := by omega
     have G := hide hg
     clear hg
     go_wp2
     go_ret
     exact ⟨rfl, unhide G⟩
end Go.Proofs.YtcgiphcfjhbonaaGreatDoor.dcls
namespace Go.Proofs.YtcgiphcfjhbonaaGreatDoor.dva
open Go.ChangeShapes Go.WideShapes Go.ChangeAt Go.RowKit
open sl (Sl ints hide unhide grown_refl grown_trans grown_trans' of_below below_of grown_drewN)
open draw (Cur Bs I64 newCur grown_new)
open wo (Made)
set_option linter.unusedVariables false

theorem madeC_own {c : Nat} {w wr w1 : World} {lo : Nat} {v : Value} {L : List Int} (h : wr.ownsRow lo 3 1 v L.length (ints L)) (hc : c < lo) (g : wr.grownBy w1 (some c)) : w1.ownsRow lo 3 1 v L.length (ints L) := by
 refine h.kept g ?_
 cases e : v.ownBlock with
 | none => exact .inl rfl
 | some k => exact .inr (fun e' => by cases e'; have := (h.lt _ e).1; omega)

theorem cur_ty : (114 : Nat) ≠ 3 := by decide
theorem cur_ne {w : World} {c lo n : Nat} {v : Value} {xs : List Value} (h : w.ownsRow lo 3 1 v n xs) (hc : Cur w c) : v.ownBlock ≠ some c := by
 intro e
 obtain ⟨cs, fz, hk⟩ := css.own_kind h c e
 obtain ⟨_, _, _, _, _, _, _, hb, _⟩ := hc
 rw [hb] at hk
 simp only [Option.some.injEq, Obj.cells.injEq] at hk
 exact cur_ty hk.2.1
theorem row_turn {w w1 : World} {c lo : Nat} {v : Value} {L : List Int} (h : w.ownsRow lo 3 1 v L.length (ints L)) (hc : Cur w c) (g : w.grownBy w1 (some c)) : w1.ownsRow lo 3 1 v L.length (ints L) := by
 refine h.kept g ?_
 cases e : v.ownBlock with
 | none => exact .inl rfl
 | some k => exact .inr (fun e' => cur_ne h hc (e.trans e'))
theorem row_none {w w1 : World} {lo : Nat} {v : Value} {L : List Int} (h : w.ownsRow lo 3 1 v L.length (ints L)) (g : w.grownBy w1 none) : w1.ownsRow lo 3 1 v L.length (ints L) := by
 refine h.kept g ?_
 cases e : v.ownBlock with
 | none => exact .inl rfl
 | some k => exact .inr (fun e' => by cases e')
end Go.Proofs.YtcgiphcfjhbonaaGreatDoor.dva
namespace Go.Proofs.YtcgiphcfjhbonaaGreatDoor.dcn
open Go.ChangeShapes Go.WideShapes Go.ChangeAt Go.RowKit
open sl (Sl Own ints hide unhide grown_refl grown_trans grown_trans' of_below below_of grown_drewN)
open css (Sls OwnS tot)
open cf (Box)
open draw (Cur Bs I64 newCur grown_new)
open dcls (MadeC MadeC.start appendC)
set_option linter.unusedVariables false

theorem ownS_turn {lo hi c : Nat} {w w1 : World} {v : Value} {M : List (List Int)} (h : OwnS lo hi w v M) (hc : c < lo) (g : w.grownBy w1 (some c)) : OwnS lo hi w1 v M := by
 have kp : ∀ (t : TypeId) (p : Value) (n : Nat) (xs : List Value), w.ownsRow lo t 1 p n xs → w1.ownsRow lo t 1 p n xs := fun t p n xs h => h.kept g (by
  cases e : p.ownBlock with
  | none => exact .inl rfl
  | some k => exact .inr (fun e' => by cases e'; have := (h.lt _ e).1; omega))
 obtain ⟨D, e, ho, hb, hin, hp⟩ := h
 exact ⟨D, e, kp _ _ _ _ ho, hb, fun p hp => ⟨kp _ _ _ _ (hin p hp).1, (hin p hp).2⟩, hp⟩
def MidD (c : Nat) (w wr : World) (b : Nat) (n : Int) (M : List (List Int)) (Bs : List (Nat × Value × Value)) (hi : Nat) : Prop :=
 w.heap.size ≤ b ∧ c < w.heap.size ∧ w.grownBy wr (some c) ∧ Cur wr c ∧ hi ≤ wr.heap.size ∧ (∀ p ∈ Bs, p.1 ≠ b ∧ p.1 ≠ c ∧ Box 32 wr p.1 p.2.1 p.2.2) ∧ ∃ a cap, Box 32 wr b (.int .i64 n) (.slice a M.length cap) ∧ OwnS w.heap.size hi wr (.slice a M.length cap) M
theorem MidD.turn {c : Nat} {w wr w1 : World} {b : Nat} {n : Int} {M : List (List Int)} {Bs : List (Nat × Value × Value)} {hi : Nat} (h : MidD c w wr b n M Bs hi) (g : wr.grownBy w1 (some c)) (hcur : Cur w1 c) : MidD c w w1 b n M Bs hi := by
 obtain ⟨hb, hc, hg, _, hh, hB, a, cap, bx, ho⟩ := h
 exact ⟨hb, hc, grown_trans' hg g, hcur, Nat.le_trans hh g.size, fun p hp => ⟨(hB p hp).1, (hB p hp).2.1, (hB p hp).2.2.by g (fun e => (hB p hp).2.1 (by cases e; rfl))⟩, a, cap, bx.by g (fun e => by cases e; omega), ownS_turn ho hc g⟩
theorem MidD.cur {c : Nat} {w wr : World} {b : Nat} {n : Int} {M : List (List Int)} {Bs : List (Nat × Value × Value)} {hi : Nat} (h : MidD c w wr b n M Bs hi) : Cur wr c := h.2.2.2.1
theorem MidD.grown {c : Nat} {w wr : World} {b : Nat} {n : Int} {M : List (List Int)} {Bs : List (Nat × Value × Value)} {hi : Nat} (h : MidD c w wr b n M Bs hi) : w.grownBy wr (some c) := h.2.2.1
theorem MidD.c0 {c : Nat} {w wr : World} {b : Nat} {n : Int} {M : List (List Int)} {Bs : List (Nat × Value × Value)} {hi : Nat} (h : MidD c w wr b n M Bs hi) : wr.cell? ⟨b, 0, none⟩ = some (.int .i64 n) := by
 obtain ⟨_, _, _, _, _, _, a, cap, bx, _⟩ := h
 exact bx.c0
theorem MidD.step {c : Nat} {w wr w1 : World} {b : Nat} {n : Int} {M : List (List Int)} {Bs : List (Nat × Value × Value)} {hi : Nat} {L : List Int} {a : Option Addr} {cap g cap' : Nat} {u : Value}
  (hb : w.heap.size ≤ b) (hc : c < w.heap.size) (hg : w.grownBy wr (some c)) (hcur : Cur wr c) (hB : ∀ p ∈ Bs, p.1 ≠ b ∧ p.1 ≠ c ∧ Box 32 wr p.1 p.2.1 p.2.2) (bx : Box 32 wr b (.int .i64 n) (.slice a M.length cap)) (ho : OwnS w.heap.size hi wr (.slice a M.length cap) M)
  (h1 : OwnS w.heap.size w1.heap.size w1 (.slice (some ⟨g, 0, none⟩) (M.length + 1) cap') (M ++ [L])) (g1 : (wr.alloc (.cells #[u] 43)).grownBy w1 (Value.slice a M.length cap).ownBlock) :
  (w1.cell? ⟨b, 1, none⟩ = some (.slice a M.length cap) ∧ w1.frozen? ⟨b, 1, none⟩ = false) ∧ MidD c w (w1.setCell ⟨b, 1, none⟩ (.slice (some ⟨g, 0, none⟩) (M.length + 1) cap')) b n (M ++ [L]) Bs w1.heap.size := by
 have gA := World.grownBy_alloc wr (.cells #[u] 43) none
 have hb2 := bx.kept gA
 obtain ⟨D, e, hw, hbb, hin, hp⟩ := ho.kept gA
 have hb1 := hb2.by g1 (gr.box_ne hw gr.ty1 hb2)
 have hg1 : w.grownBy w1 (some c) := ⟨g1.os.trans (gA.os.trans hg.os), g1.tape.trans (gA.tape.trans hg.tape), g1.output.trans (gA.output.trans hg.output), Nat.le_trans hg.size (Nat.le_trans gA.size g1.size), fun k hk hne => by
  rw [g1.block k (Nat.lt_of_lt_of_le hk (Nat.le_trans hg.size gA.size)) (fun e => by have := (hw.lt k e.symm).1; omega), gA.block k (Nat.lt_of_lt_of_le hk hg.size) (fun e => by cases e)]
  exact hg.block k hk hne⟩
 have hcur1 : Cur w1 c := (hcur.kept gA (fun r e => by cases e)).kept g1 (fun r e => by have := (hw.lt r e).1; omega)
 have hB1 : ∀ p ∈ Bs, Box 32 w1 p.1 p.2.1 p.2.2 := by
  intro p hp'
  have hbb := (hB _ hp').2.2.kept gA
  exact hbb.by g1 (gr.box_ne hw gr.ty1 hbb)
 have gS := sl.grown_setCell w1 b 1 (.slice (some ⟨g, 0, none⟩) (M.length + 1) cap')
 refine ⟨⟨hb1.c1, hb1.f 1⟩, hb, hc, ?_, hcur1.kept gS (fun r e => by cases e; omega), by rw [cf.size_set]; exact Nat.le_refl _, fun p hp' => ⟨(hB p hp').1, (hB p hp').2.1, (hB1 p hp').setO (fun e => (hB p hp').1 e.symm)⟩, some ⟨g, 0, none⟩, cap', ?_, ?_⟩
 ·exact ⟨gS.os.trans hg1.os, gS.tape.trans hg1.tape, gS.output.trans hg1.output, Nat.le_trans hg1.size gS.size, fun k hk hne => (gS.block k (Nat.lt_of_lt_of_le hk hg1.size) (fun e => by cases e; omega)).trans (hg1.block k hk hne)⟩
 ·have := hb1.set1 (.slice (some ⟨g, 0, none⟩) (M.length + 1) cap')
  rw [List.length_append]
  exact this
 ·rw [List.length_append]
  exact gr.ownS_set h1 hb1
theorem MidD.setN {c : Nat} {w wr : World} {b : Nat} {n : Int} {M : List (List Int)} {Bs : List (Nat × Value × Value)} {hi : Nat} (h : MidD c w wr b n M Bs hi) (x : Int) : MidD c w (wr.setCell ⟨b, 0, none⟩ (.int .i64 x)) b x M Bs hi := by
 obtain ⟨hb, hc, hg, hcur, hh, hB, a, cap, bx, ho⟩ := h
 have gS := sl.grown_setCell wr b 0 (.int .i64 x)
 exact ⟨hb, hc, ⟨gS.os.trans hg.os, gS.tape.trans hg.tape, gS.output.trans hg.output, Nat.le_trans hg.size gS.size, fun k hk hne => (gS.block k (Nat.lt_of_lt_of_le hk hg.size) (fun e => by cases e; omega)).trans (hg.block k hk hne)⟩,
  hcur.kept gS (fun r e => by cases e; omega), by rw [cf.size_set]; exact hh, fun p hp => ⟨(hB p hp).1, (hB p hp).2.1, (hB p hp).2.2.setO (fun e => (hB p hp).1 e.symm)⟩, a, cap, bx.set0 _, gr.ownS_set ho bx⟩
def Drawn (c : Nat) (w w' : World) (v : Value) (M : List (List Int)) : Prop := OwnS w.heap.size w'.heap.size w' v M ∧ w.grownBy w' (some c) ∧ Cur w' c

def good (n : Int) (L : List Int) : Bool := decide (L.length ≤ 4) && L.all fun x => decide (x ≠ 0 ∧ -n ≤ x ∧ x ≤ n)
def Right (c : Nat) (w w' : World) (most n : Int) (v : Value) (M : List (List Int)) : Prop := (1 ≤ n ∧ n ≤ most) ∧ (M.length : Int) ≤ 4 * n + 2 ∧ M.all (good n) = true ∧ Drawn c w w' v M
theorem new_some {a b d : World} {c r : Nat} (h : a.grownBy b (some c)) (k : b.grownBy d (some r)) (hr : a.heap.size ≤ r) : a.grownBy d (some c) :=
 ⟨k.os.trans h.os, k.tape.trans h.tape, k.output.trans h.output, Nat.le_trans h.size k.size, fun i hi hn => (k.block i (Nat.lt_of_lt_of_le hi h.size) (fun e => by cases e; omega)).trans (h.block i hi hn)⟩
theorem good_nil (n : Int) : good n [] = true := by simp [good]
theorem good_all {n : Int} {N : List Int} (hl : N.length ≤ 4) (h : N.all (fun x => decide (x ≠ 0 ∧ -n ≤ x ∧ x ≤ n)) = true) : good n N = true := by
 unfold good
 rw [h, decide_eq_true hl]
 rfl
theorem all_snoc {n : Int} {N : List Int} {y : Int} (h : N.all (fun x => decide (x ≠ 0 ∧ -n ≤ x ∧ x ≤ n)) = true) (hy : y ≠ 0 ∧ -n ≤ y ∧ y ≤ n) : (N ++ [y]).all (fun x => decide (x ≠ 0 ∧ -n ≤ x ∧ x ≤ n)) = true := by
 rw [List.all_append, h]
 simp [hy]
theorem allG_snoc {n : Int} {M : List (List Int)} {L : List Int} (h : M.all (good n) = true) (hy : good n L = true) : (M ++ [L]).all (good n) = true := by
 rw [List.all_append, h]
 simp [hy]
theorem midD_start {c : Nat} {w w1 : World} {n : Int} (hlt : c < w.heap.size) (hc1 : Cur w1 c) (g1 : (w.alloc (.cells #[.int .i64 0, .slice none 0 0] 32)).grownBy w1 (some c)) :
  MidD c w (w1.alloc (.cells #[.int .i64 n, .slice none 0 0] 32)) w1.heap.size n [] [(w.heap.size, .int .i64 0, .slice none 0 0)] (w1.heap.size + 1) := by
 have g0 := World.grownBy_alloc w (.cells #[.int .i64 0, .slice none 0 0] 32) (some c)
 have hb := (Box.new 32 w (.int .i64 0) (.slice none 0 0)).by g1 (fun e => by cases e; omega)
 have gA := World.grownBy_alloc w1 (.cells #[.int .i64 n, .slice none 0 0] 32)
 have hs := (grown_trans' g0 g1).size
 refine ⟨hs, hlt, grown_trans' (grown_trans' g0 g1) (gA _), hc1.kept (gA none) (fun r e => by cases e), by rw [World.size_alloc]; exact Nat.le_refl _, fun p hp => ?_, none, 0, Box.new _ _ _ _, ?_⟩
 ·rw [List.mem_singleton] at hp
  subst hp
  exact ⟨fun e => by have := hb.lt; have e' : w.heap.size = w1.heap.size := e; omega, fun e => by have e' : w.heap.size = c := e; omega, hb.kept (gA none)⟩
 ·exact ⟨[], rfl, World.ownsRow_nil _ _ _ _, fun k e => (by cases e), fun p hp => (by cases hp), .nil⟩

set_option maxRecDepth 100000 in
set_option maxHeartbeats 4000000 in
theorem cnf (c : Nat) (most : Int) (w : World) (hc : Cur w c) (m0 : 0 < most) (m1 : most ≤ 6) :
  Calls Tryz.prog 75 #[.pointer (some ⟨c, 0, none⟩), .int .i64 most] w fun e w' => ∃ (n : Int) (v : Value) (M : List (List Int)), e = .returned (.agg #[.int .i64 n, v]) ∧ Right c w w' most n v M := by
 have hlt := hc.lt
 have C0 := hide (hc.kept (World.grownBy_alloc w (.cells #[.int .i64 0, .slice none 0 0] 32) none) (fun r e => by cases e))
 clear hc
 go_enter Tryz.func75, Tryz.ntmps75
 go_wp2_with fail
 refine (draw.below c _ _ (unhide C0) m0 (by omega)).mono ?_; rintro e w1 ⟨x, rfl, x0, x1, hc1, g1⟩
 have M1 := hide (midD_start (n := 1 + x) hlt hc1 g1)
 have y0 := (unhide M1).c0
 clear hc1 g1 C0
 go_wp2_with fail
 refine (draw.below c _ _ (unhide M1).cur (by omega) (by omega)).mono ?_; rintro e w2 ⟨k, rfl, k0, k1, hc2, g2⟩
 obtain ⟨K, rfl⟩ := Int.eq_ofNat_of_zero_le k0
 have M2 := hide (((unhide M1).turn g2 hc2))
 have hw1 := (unhide M1).2.2.2.2.1
 clear hc2 g2 M1 y0 k0
 generalize hb : w1.heap.size = b at *
 clear hb
 go_wp2_with fail
 go_loopg [7] K (fun gk i wr => ∃ (M : List (List Int)), M.length ≤ K ∧ gk = K - M.length ∧ i = .int .i64 M.length ∧ Hid (M.all (good (1 + x)) = true) ∧ Hid (∃ hi, MidD c w wr b (1 + x) M [(w.heap.size, .int .i64 0, .slice none 0 0)] hi))
 case atStart => exact ⟨[], Nat.zero_le _, rfl, rfl, rfl, _, unhide M2⟩
 case round =>
  obtain ⟨M, hj, hgk, rfl, hgood, hmid⟩ := hrel
  clear M2
  obtain ⟨hi0, hm0⟩ := unhide hmid
  have HM := hide hm0
  clear hmid hm0
  by_cases hlt' : M.length < K
  ·have hij : (M.length : Int) < (K : Int) := by omega
   have ST := hide (MadeC.start c wr (unhide HM).cur)
   have hcw : c < wr.heap.size := Nat.lt_of_lt_of_le hlt (unhide HM).grown.size
   go_wp2_with fail
   refine (draw.below c _ _ (unhide ST).2.2 (by decide) (by decide)).mono ?_; rintro e w3 ⟨q, rfl, q0, q1, hc3, g3⟩
   have S3 := hide ((unhide ST).turn hcw g3 hc3)
   clear hc3 g3 ST
   go_wp2_with fail
   refine (draw.once c _ _ (unhide S3).2.2 (by decide) (by decide)).mono ?_; rintro e w4 ⟨bt, rfl, hc4, g4⟩
   have S4 := hide ((unhide S3).turn hcw g4 hc4)
   clear hc4 g4 S3
   go_upto_if 33 with fail
   go_cut [9] from 23 to 66 (fun z wx => ∃ sz : Int, z = .int .i64 sz ∧ 0 ≤ sz ∧ sz ≤ 4 ∧ Hid (MadeC c wr wx (.slice (some ⟨wr.heap.size, 0, none⟩) 0 0) []))
   case first =>
    cases bt
    ·go_wp2_with fail
     go_meet
     exact ⟨_, rfl, by omega, by omega, S4⟩
    ·go_wp2_with fail
     refine (draw.below c _ _ (unhide S4).2.2 (by decide) (by decide)).mono ?_; rintro e w5 ⟨q', rfl, q0', q1', hc5, g5⟩
     have S5 := hide ((unhide S4).turn hcw g5 hc5)
     clear hc5 g5
     go_wp2_with fail
     go_meet
     exact ⟨_, rfl, by omega, by omega, S5⟩
   case rest =>
    obtain ⟨sz, rfl, sz0, sz1, hS⟩ := hcut
    clear S4 q0 q1
    go_upto_region 10 with fail
    go_cut [42] from 23 to 66 (fun z wx => ∃ bt : Bool, z = .bool bt ∧ Hid (MadeC c wr wx (.slice (some ⟨wr.heap.size, 0, none⟩) 0 0) []))
    case first =>
     by_cases h2 : sz < 2
     ·have OC := hide (draw.once c 3 _ (unhide hS).2.2 (by decide) (by decide))
      go_wp2_with (go_at_call 35; refine (unhide OC).mono ?_; rintro e w5 ⟨bu, rfl, hc5, g5⟩; have S5 := hide ((unhide hS).turn hcw g5 hc5); clear hc5 g5)
      go_meet
      exact ⟨_, rfl, S5⟩
     ·go_wp2_with fail
      go_meet
      exact ⟨_, rfl, hS⟩
    case rest =>
     obtain ⟨bv, rfl, hS2⟩ := hcut
     rename_i wc'
     clear hS
     go_upto_if 42 with fail
     go_cut [9] from 23 to 66 (fun z wx => ∃ sz : Nat, z = .int .i64 sz ∧ sz ≤ 4 ∧ Hid (MadeC c wr wx (.slice (some ⟨wr.heap.size, 0, none⟩) 0 0) []))
     case first =>
      cases bv
      ·go_wp2_with fail
       go_meet
       exact ⟨sz.toNat, by rw [Int.toNat_of_nonneg sz0], by omega, hS2⟩
      ·go_wp2_with fail
       go_meet
       exact ⟨2, rfl, by omega, hS2⟩
     case rest =>
      obtain ⟨Z, rfl, hZ, hS3⟩ := hcut
      clear hS2 sz0 sz1
      go_wp2_with fail
      go_loopg [8, 10] Z (fun gd u d wq => ∃ (N : List Int), N.length ≤ Z ∧ gd = Z - N.length ∧ d = .int .i64 N.length ∧ Hid (N.all (fun x_1 => decide (x_1 ≠ 0 ∧ -(1 + x) ≤ x_1 ∧ x_1 ≤ 1 + x)) = true) ∧ Hid (MadeC c wr wq u N))
      case atStart => exact ⟨[], Nat.zero_le _, rfl, rfl, rfl, hS3⟩
      case round =>
       obtain ⟨N, he, hgd, rfl, hall, hS4⟩ := hrel
       clear hS3
       by_cases hlz : N.length < Z
       ·have hiz : (N.length : Int) < (Z : Int) := by omega
        have y0 := ((unhide HM).turn (unhide hS4).2.1 (unhide hS4).2.2).c0
        have CB := hide (draw.below c (1 + x) _ (unhide hS4).2.2 (by omega) (by omega))
        go_wp2_with fail
        refine (unhide CB).mono ?_; rintro e' w6 ⟨q, rfl, q0, q1, hc6, g6⟩
        have S6 := hide ((unhide hS4).turn hcw g6 hc6)
        clear hc6 g6 CB hS4 y0
        go_wp2_with fail
        refine (draw.once c _ _ (unhide S6).2.2 (by decide) (by decide)).mono ?_; rintro e' w7 ⟨bw, rfl, hc7, g7⟩
        have S7 := hide ((unhide S6).turn hcw g7 hc7)
        clear hc7 g7 S6
        cases bw
        ·have HA := hide (all_snoc (y := 1 + q) (unhide hall) (by omega))
         clear hall
         go_wp2_with (at_builtin; refine appendC (unhide S7) hcw (by omega) rfl _ _ rfl rfl rfl ?_)
         intro v' w8 R
         have S8 := hide R
         clear R S7
         go_wp2
         go_roundg (Z - (N.length + 1))
         case measure => omega
         case rel => exact ⟨_, by rw [List.length_append]; simp; omega, by rw [List.length_append]; rfl, by rw [List.length_append]; go_num, HA, S8⟩
        ·have HA := hide (all_snoc (y := -(1 + q)) (unhide hall) (by omega))
         clear hall
         go_wp2_with (at_builtin; refine appendC (unhide S7) hcw (by omega) rfl _ _ rfl rfl rfl ?_)
         intro v' w8 R
         have S8 := hide R
         clear R S7
         go_wp2
         go_roundg (Z - (N.length + 1))
         case measure => omega
         case rel => exact ⟨_, by rw [List.length_append]; simp; omega, by rw [List.length_append]; rfl, by rw [List.length_append]; go_num, HA, S8⟩
       ·have hiz : ¬ (N.length : Int) < (Z : Int) := by omega
        have GN := hide (good_all (n := 1 + x) (N := N) (by omega) (unhide hall))
        have G2 := hide (allG_snoc (unhide hgood) (unhide GN))
        obtain ⟨ua, uc, hue⟩ := (unhide hS4).form
        subst hue
        obtain ⟨qb, qc, qg, qcur, qh, qB, oa, ocap, bx, ho⟩ := (unhide HM).turn (unhide hS4).2.1 (unhide hS4).2.2
        have ou := hide (sl.Own.of (unhide hS4).1)
        have ho' := hide (ho.sub (Nat.le_refl _) (unhide HM).2.2.2.2.1)
        have HS := hide (fun (g' cap' : Nat) (w1 : World) h1 g1 => MidD.step (u := .slice ua N.length uc) (L := N) (g := g') (cap' := cap') (w1 := w1) qb qc qg qcur qB bx (unhide ho') h1 g1)
        have hlo : w.heap.size ≤ _ := (unhide HM).grown.size
        have hmd := (unhide hS4).2.1.size
        have b0 := bx.c0
        have b1 := bx.c1
        have HL := hide hlo
        have HMD := hide hmd
        clear hlo hmd qg qcur qB ho bx HM hall GN hS4
        go_wp2_with (at_builtin; refine gr.appendR (unhide ho') (unhide ou) (unhide HL) (unhide HMD) (by omega) rfl _ _ rfl rfl rfl ?_)
        intro g' cap' w9 h1 g1
        obtain ⟨⟨s1, s2⟩, m9⟩ := unhide HS g' cap' w9 h1 g1
        have M9 := hide m9
        clear h1 g1 m9 HS ho' ou
        go_wp2
        go_roundg (K - (M.length + 1))
        case measure => omega
        case rel => exact ⟨_, by rw [List.length_append]; simp; omega, by rw [List.length_append]; rfl, by rw [List.length_append]; go_num, G2, _, unhide M9⟩
  ·have hij : ¬ (M.length : Int) < (K : Int) := by omega
   obtain ⟨qb, qc, qg, qcur, qh, qB, oa, ocap, bx, ho⟩ := unhide HM
   have br := (qB _ (List.mem_singleton.2 rfl)).2.2
   have hbr := (qB _ (List.mem_singleton.2 rfl)).1
   have o0 := bx.c0
   have o1 := bx.c1
   have rc0 := br.c0
   have rc1 := br.c1
   have rf0 := br.f 0
   have rf1 := br.f 1
   have BR := hide br
   have OO := hide ho
   have QG := hide qg
   have QC := hide qcur
   clear qg qcur qB bx ho HM br
   go_wp2
   have bb := ((unhide BR).set0 (.int .i64 (1 + x))).set1 (.slice oa M.length ocap)
   have b1 := (unhide BR).set0 (.int .i64 (1 + x))
   have rg : w.heap.size < wr.heap.size := (unhide BR).lt
   (try simp only [Exit.inBlock, Exit.then])
   refine bodyPost_ret (cf.ret_box rfl rfl bb) rfl ⟨_, _, rfl, M, ⟨by omega, by omega⟩, by omega, unhide hgood, ?_, ?_, ?_⟩
   ·have := gr.ownS_set (i := 1) (u := .slice oa M.length ocap) (gr.ownS_set (i := 0) (u := .int .i64 (1 + x)) (unhide OO) (unhide BR)) b1
    exact this.sub (Nat.le_refl _) (by rw [cf.size_set, cf.size_set]; exact qh)
   ·have g1 := sl.grown_setCell wr w.heap.size 0 (.int .i64 (1 + x))
    have g2 := sl.grown_setCell (wr.setCell ⟨w.heap.size, 0, none⟩ (.int .i64 (1 + x))) w.heap.size 1 (.slice oa M.length ocap)
    exact new_some (new_some (unhide QG) g1 (Nat.le_refl _)) g2 (Nat.le_refl _)
   ·have g1 := sl.grown_setCell wr w.heap.size 0 (.int .i64 (1 + x))
    have g2 := sl.grown_setCell (wr.setCell ⟨w.heap.size, 0, none⟩ (.int .i64 (1 + x))) w.heap.size 1 (.slice oa M.length ocap)
    exact ((unhide QC).kept g1 (fun r e => by cases e; exact hlt)).kept g2 (fun r e => by cases e; exact hlt)
end Go.Proofs.YtcgiphcfjhbonaaGreatDoor.dcn
namespace Go.Proofs.YtcgiphcfjhbonaaGreatDoor.dcn
open Go.ChangeShapes Go.WideShapes Go.ChangeAt Go.RowKit
open sl (Sl Own ints hide unhide grown_refl grown_trans grown_trans' of_below below_of grown_drewN)
open css (Sls OwnS tot)
open cf (Box)
open draw (Cur Bs I64 newCur grown_new)
open dcls (MadeC MadeC.start appendC)
set_option linter.unusedVariables false

def Bd (n : Int) (M : List (List Int)) (k : Nat) : Prop := (-1 ≤ n ∧ n ≤ 25) ∧ M.length ≤ k ∧ ∀ L ∈ M, L.length ≤ 49
theorem bd_good {n : Int} {M : List (List Int)} (hn : 1 ≤ n ∧ n ≤ 6) (hl : (M.length : Int) ≤ 4 * n + 2) (h : M.all (good n) = true) : Bd n M 26 := by
 refine ⟨by omega, by omega, fun L hL => ?_⟩
 have := List.all_eq_true.1 h L hL
 unfold good at this
 rw [Bool.and_eq_true, decide_eq_true_iff] at this
 omega
theorem Bd.snoc {n : Int} {M : List (List Int)} {k : Nat} {L : List Int} (h : Bd n M k) (hL : L.length ≤ 49) : Bd n (M ++ [L]) (k + 1) := by
 refine ⟨h.1, by rw [List.length_append]; have := h.2.1; simp; omega, fun K hK => ?_⟩
 rw [List.mem_append, List.mem_singleton] at hK
 rcases hK with hK | rfl
 ·exact h.2.2 K hK
 ·exact hL
theorem Bd.more {n : Int} {M : List (List Int)} {k k' : Nat} (h : Bd n M k) (hk : k ≤ k') : Bd n M k' := ⟨h.1, Nat.le_trans h.2.1 hk, h.2.2⟩
theorem Bd.setN {n n' : Int} {M : List (List Int)} {k : Nat} (h : Bd n M k) (hn : -1 ≤ n' ∧ n' ≤ 25) : Bd n' M k := ⟨hn, h.2⟩
def Any (c : Nat) (w wr : World) (b k : Nat) : Prop := ∃ n M hi, Bd n M k ∧ MidD c w wr b n M [(w.heap.size, .int .i64 0, .slice none 0 0)] hi
def Came (c : Nat) (w w' : World) (n : Int) (v : Value) (M : List (List Int)) : Prop := Bd n M 121 ∧ Drawn c w w' v M
theorem midD_of {c : Nat} {w w1 : World} {n : Int} {a : Option Addr} {cap : Nat} {M : List (List Int)} (hlt : c < w.heap.size) (d : Drawn c (w.alloc (.cells #[.int .i64 0, .slice none 0 0] 32)) w1 (.slice a M.length cap) M) :
  MidD c w (w1.alloc (.cells #[.int .i64 n, .slice a M.length cap] 32)) w1.heap.size n M [(w.heap.size, .int .i64 0, .slice none 0 0)] w1.heap.size := by
 obtain ⟨ho, g1, hc1⟩ := d
 have g0 := World.grownBy_alloc w (.cells #[.int .i64 0, .slice none 0 0] 32) (some c)
 have hb := (Box.new 32 w (.int .i64 0) (.slice none 0 0)).by g1 (fun e => by cases e; omega)
 have gA := World.grownBy_alloc w1 (.cells #[.int .i64 n, .slice a M.length cap] 32)
 have hs := (grown_trans' g0 g1).size
 refine ⟨hs, hlt, grown_trans' (grown_trans' g0 g1) (gA _), hc1.kept (gA none) (fun r e => by cases e), by rw [World.size_alloc]; omega, fun p hp => ?_, a, cap, Box.new _ _ _ _, ?_⟩
 ·rw [List.mem_singleton] at hp
  subst hp
  exact ⟨fun e => by have := hb.lt; have e' : w.heap.size = w1.heap.size := e; omega, fun e => by have e' : w.heap.size = c := e; omega, hb.kept (gA none)⟩
 ·exact (ho.kept (gA none)).sub (by rw [World.size_alloc]; omega) (Nat.le_refl _)

theorem wr120 {x : Int} (h0 : 0 ≤ x) (h1 : x < 2) : IntKind.i64.wrap (120 + x) = 120 + x := by
 have : x = 0 ∨ x = 1 := by omega
 rcases this with rfl | rfl <;> rfl
theorem Drawn.stored {c : Nat} {w wr : World} {hi : Nat} {a : Option Addr} {cap : Nat} {M : List (List Int)} {x y : Value} (hlt : c < w.heap.size) (qg : w.grownBy wr (some c)) (qcur : Cur wr c) (qh : hi ≤ wr.heap.size) (ho : OwnS w.heap.size hi wr (.slice a M.length cap) M) (br : Box 32 wr w.heap.size x y) (n : Int) :
  Drawn c w ((wr.setCell ⟨w.heap.size, 0, none⟩ (.int .i64 n)).setCell ⟨w.heap.size, 1, none⟩ (.slice a M.length cap)) (.slice a M.length cap) M := by
 have g1 := sl.grown_setCell wr w.heap.size 0 (.int .i64 n)
 have g2 := sl.grown_setCell (wr.setCell ⟨w.heap.size, 0, none⟩ (.int .i64 n)) w.heap.size 1 (.slice a M.length cap)
 refine ⟨?_, new_some (new_some qg g1 (Nat.le_refl _)) g2 (Nat.le_refl _), (qcur.kept g1 (fun r e => by cases e; exact hlt)).kept g2 (fun r e => by cases e; exact hlt)⟩
 have := gr.ownS_set (i := 1) (u := .slice a M.length cap) (gr.ownS_set (i := 0) (u := .int .i64 n) ho br) (br.set0 (.int .i64 n))
 exact this.sub (Nat.le_refl _) (by rw [cf.size_set, cf.size_set]; exact qh)

set_option maxRecDepth 100000 in
set_option maxHeartbeats 4000000 in
theorem any (c : Nat) (w : World) (hc : Cur w c) :
  Calls Tryz.prog 95 #[.pointer (some ⟨c, 0, none⟩)] w fun e w' => ∃ (n : Int) (v : Value) (M : List (List Int)), e = .returned (.agg #[.int .i64 n, v]) ∧ Came c w w' n v M := by
 have hlt := hc.lt
 have C0 := hide (cnf c 6 _ (hc.kept (World.grownBy_alloc w (.cells #[.int .i64 0, .slice none 0 0] 32) none) (fun r e => by cases e)) (by decide) (by decide))
 clear hc
 go_enter Tryz.func95, Tryz.ntmps95
 go_wp2_with fail
 refine (unhide C0).mono ?_; rintro e w1 ⟨n, v, M, rfl, hn, hl, hg, hd⟩
 obtain ⟨va, vc, rfl⟩ := hd.1.len
 have A1 : Hid (Any c w (w1.alloc (.cells #[.int .i64 n, .slice va M.length vc] 32)) w1.heap.size 26) := ⟨n, M, _, bd_good hn hl hg, midD_of hlt hd⟩
 have m1 := hide (midD_of (n := n) hlt hd)
 have B0 := hide (bd_good hn hl hg)
 clear hl hg hd C0
 go_wp2_with fail
 refine (draw.below c _ _ (unhide m1).cur (by decide) (by decide)).mono ?_; rintro e w2 ⟨k, rfl, k0, k1, hc2, g2⟩
 have M2 := hide ((unhide m1).turn g2 hc2)
 have hb1 : w1.heap.size < w2.heap.size := by have := g2.size; rw [World.size_alloc] at this; omega
 clear hc2 g2 m1 A1
 generalize hb : w1.heap.size = b at *
 clear hb
 go_upto_block 0 with fail
 go_cut [8] (fun _ wx => Hid (Any c w wx b 27))
 case first =>
  have y0 := (unhide M2).c0
  by_cases k_0 : k = 0
  ·subst k_0
   have P := hide (fun (w3 : World) (hl : w3 = w2.alloc (.cells #[.int .i64 (-1), .int .i64 0, .int .i64 25, .int .i64 24, .int .i64 (n + 1)] 3)) => draw.pickInt c (.slice (some ⟨w2.heap.size, 0, none⟩) 5 5) [-1, 0, 25, 24, n + 1] w3 (by rw [hl]; exact (unhide M2).cur.kept (World.grownBy_alloc w2 _ none) (fun r e => by cases e)) (by simp) (by simp) (by rw [hl]; exact Sl.of_own (draw.own_alloc w2 [-1, 0, 25, 24, n + 1] (by show 5 ≤ maxLen; decide))) (fun k e => by cases e; exact Nat.lt_of_lt_of_le hlt (unhide M2).grown.size))
   have TA := hide (fun (w4 : World) (hc4 : Cur w4 c) (g4 : (w2.alloc (.cells #[.int .i64 (-1), .int .i64 0, .int .i64 25, .int .i64 24, .int .i64 (n + 1)] 3)).grownBy w4 (some c)) => (unhide M2).turn (grown_trans' (World.grownBy_alloc w2 _ (some c)) g4) hc4)
   go_wp2_with fail
   refine (unhide P _ rfl).mono ?_; rintro e w4 ⟨x, rfl, hx, hc4, g4⟩
   have M4 := hide (unhide TA w4 hc4 g4)
   have hx' : -1 ≤ x ∧ x ≤ 25 := by
    simp at hx
    omega
   have y1 := (unhide M4).c0
   have y2 : w4.frozen? ⟨b, 0, none⟩ = false := by
    obtain ⟨_, _, _, _, _, _, a, cap, bx, _⟩ := unhide M4
    exact bx.f 0
   clear hx hc4 g4 P TA
   go_wp2_with fail
   go_meet
   exact ⟨x, M, _, ((unhide B0).setN hx').more (by decide), (unhide M4).setN x⟩
  ·by_cases k_1 : k = 1
   ·subst k_1
    have CL := hide (dcls.clause c 9 4 w2.drew ((unhide M2).cur.kept (cf.grown_drew w2 none) (fun r e => by cases e)) (by decide) (by decide) (by decide) (by decide))
    obtain ⟨qb, qc, qg, qcur, qh, qB, oa, ocap, bx, ho⟩ := unhide M2
    have hlo : w.heap.size ≤ w2.heap.size := qg.size
    have hMl : M.length ≤ 1048576 := by have := (unhide B0).2.1; omega
    have b1 := bx.c1
    have HT := hide (fun (w3 : World) (ua : Option Addr) (uc : Nat) (L : List Int) (m3 : MadeC c w2.drew w3 (.slice ua L.length uc) L) => And.intro ((bx.by (grown_trans' (cf.grown_drew w2 (some c)) m3.2.1) (fun e => by cases e; omega))) (And.intro ((ownS_turn ho qc (grown_trans' (cf.grown_drew w2 (some c)) m3.2.1)).sub (Nat.le_refl _) qh) (And.intro (sl.Own.of m3.1) m3.2.1.size)))
    have HS := hide (fun (w3 : World) (ua : Option Addr) (uc : Nat) (L : List Int) (m3 : MadeC c w2.drew w3 (.slice ua L.length uc) L) (g' cap' : Nat) (w1 : World) h1 g1 => MidD.step (u := .slice ua L.length uc) (L := L) (g := g') (cap' := cap') (w1 := w1) qb qc (grown_trans' qg (grown_trans' (cf.grown_drew w2 (some c)) m3.2.1)) m3.2.2 (fun p hp => ⟨(qB p hp).1, (qB p hp).2.1, (qB p hp).2.2.by (grown_trans' (cf.grown_drew w2 (some c)) m3.2.1) (fun e => (qB p hp).2.1 (by cases e; rfl))⟩) (unhide HT w3 ua uc L m3).1 (unhide HT w3 ua uc L m3).2.1 h1 g1)
    clear bx ho qg qcur qB
    go_upto_region 6 with fail
    go_region_law
     (first
      | (go_simp; go_at_call 83; refine (unhide CL).mono ?_; rintro e w3 ⟨u3, L, rfl, hL3, m3⟩; obtain ⟨ua, uc, rfl⟩ := m3.form; obtain ⟨bx3, oo3, ou3, sz3⟩ := unhide HT w3 ua uc L m3; have k1 := bx3.c1; have k2 := bx3.f 1; have k9 := (bx3.kept (World.grownBy_alloc w3 (.cells #[.slice ua L.length uc] 43) none)).c1; have OO3 := hide oo3; have OU3 := hide ou3; have SZ3 := hide sz3; have M3 := hide m3; clear oo3 ou3 sz3 m3 bx3)
      | (refine gr.stepR (unhide OO3) (unhide OU3) hlo (unhide SZ3) hMl (by rfl) _ _ (by rfl) (by rfl) (by rfl) ?_; intro g4 cap4 w4 h4 g4'; have R4 := hide (unhide HS w3 ua uc L (unhide M3) g4 cap4 w4 h4 g4'); have k3 := (unhide R4).1.1; have k4 := (unhide R4).1.2; clear h4 g4'))
    all_goals
     go_wp2_with fail
     go_meet
     exact ⟨n, _, _, (unhide B0).snoc hL3, (unhide R4).2⟩
   ·by_cases k_2 : k = 2
    ·subst k_2
     have ST := hide (MadeC.start c w2 (unhide M2).cur)
     have x1 : w2.cell? ⟨b, 1, none⟩ = w2.cell? ⟨b, 1, none⟩ := rfl
     obtain ⟨qb, qc, qg, qcur, qh, qB, oa, ocap, bx, ho⟩ := (unhide M2).turn (unhide ST).2.1 (unhide ST).2.2
     have ou := hide (sl.Own.of (L := []) (unhide ST).1)
     have ho' := hide (ho.sub (hi' := w2.heap.size) (Nat.le_refl _) (unhide M2).2.2.2.2.1)
     have HS := hide (fun (g' cap' : Nat) (w1 : World) h1 g1 => MidD.step (u := .slice (some ⟨w2.heap.size, 0, none⟩) 0 0) (L := []) (g := g') (cap' := cap') (w1 := w1) qb qc qg qcur qB bx (unhide ho') h1 g1)
     have hlo : w.heap.size ≤ w2.heap.size := (unhide M2).grown.size
     have hmd := (unhide ST).2.1.size
     have hMl : M.length ≤ 1048576 := by have := (unhide B0).2.1; omega
     have b1 : w2.cell? ⟨b, 1, none⟩ = some (.slice oa M.length ocap) := by
      have e : (w2.alloc (.cells #[] 3)).heap[b]? = w2.heap[b]? := Below.heap_alloc _ _ _ hb1
      rw [← World.cell?_of_block (a := ⟨b, 1, none⟩) e]
      exact bx.c1
     have HMD := hide hmd
     clear hmd qg qcur qB ho bx ST x1
     go_wp2_with (at_builtin; refine gr.appendR (unhide ho') (unhide ou) hlo (unhide HMD) hMl rfl _ _ rfl rfl (by rw [World.size_alloc]; rfl) ?_)
     intro g' cap' w9 h1 g1
     obtain ⟨⟨s1, s2⟩, m9⟩ := unhide HS g' cap' w9 h1 g1
     have M9 := hide m9
     clear h1 g1 m9 HS ho' ou
     go_wp2_with fail
     go_meet
     exact ⟨n, _, _, (unhide B0).snoc (by decide), unhide M9⟩
    ·have e0 : (k == 0) = false := beq_eq_false_iff_ne.2 k_0
     have e1 : (k == 1) = false := beq_eq_false_iff_ne.2 k_1
     have e2 : (k == 2) = false := beq_eq_false_iff_ne.2 k_2
     go_wp2_with fail
     go_meet
     exact ⟨n, M, _, (unhide B0).more (by decide), unhide M2⟩
 case rest =>
  clear M2 B0 k0 k1 hn
  obtain ⟨n2, N, hi2, bd2, md2⟩ := unhide hcut
  have M2 := hide md2
  have B2 := hide bd2
  clear hcut bd2 md2
  go_wp2_with fail
  refine (draw.once c _ _ (unhide M2).cur (by decide) (by decide)).mono ?_; rintro e w3 ⟨bt, rfl, hc3, g3⟩
  have M3 := hide ((unhide M2).turn g3 hc3)
  clear hc3 g3 M2
  cases bt
  ·obtain ⟨qb, qc, qg, qcur, qh, qB, oa, ocap, bx, ho⟩ := unhide M3
   have br := (qB _ (List.mem_singleton.2 rfl)).2.2
   have o0 := bx.c0
   have o1 := bx.c1
   have rc0 := br.c0
   have rc1 := br.c1
   have rf0 := br.f 0
   have rf1 := br.f 1
   have BR := hide br
   have DR := hide (Drawn.stored hlt qg qcur qh ho br n2)
   clear qg qcur qB bx ho M3 br
   go_wp2_with fail
   (try simp only [Exit.inBlock, Exit.then])
   refine bodyPost_ret (cf.ret_box rfl rfl (((unhide BR).set0 (.int .i64 n2)).set1 (.slice oa N.length ocap))) rfl ⟨_, _, N, rfl, (unhide B2).more (by decide), unhide DR⟩
  ·go_wp2_with fail
   go_loopg [36] (121 - N.length) (fun gk _ wr => ∃ (M : List (List Int)) (hi : Nat), M.length ≤ 121 ∧ gk = 121 - M.length ∧ Hid (Bd n2 M 121) ∧ Hid (MidD c w wr b n2 M [(w.heap.size, .int .i64 0, .slice none 0 0)] hi))
   case atStart => exact ⟨N, _, by have := (unhide B2).2.1; omega, rfl, (unhide B2).more (by decide), unhide M3⟩
   case round =>
    obtain ⟨M, hi, hM, hgk, hbd, hmd⟩ := hrel
    clear M3 B2
    have CB := hide (draw.below c 2 wr.drew ((unhide hmd).cur.kept (cf.grown_drew wr none) (fun r e => by cases e)) (by decide) (by decide))
    have TM := hide (fun (w4 : World) (hc4 : Cur w4 c) (g4 : wr.drew.grownBy w4 (some c)) => (unhide hmd).turn (grown_trans' (cf.grown_drew wr (some c)) g4) hc4)
    obtain ⟨va, vc, hbx⟩ : ∃ va vc, Box 32 wr b (.int .i64 n2) (.slice va M.length vc) := by
     obtain ⟨_, _, _, _, _, _, a, cap, bx, _⟩ := unhide hmd
     exact ⟨a, cap, bx⟩
    have TB := hide (fun (w4 : World) (g4 : wr.drew.grownBy w4 (some c)) => hbx.by (grown_trans' (cf.grown_drew wr (some c)) g4) (fun e => by have := (unhide hmd).1; cases e; omega))
    have x1 := hbx.c1
    clear hbx
    go_upto_region 10 with fail
    go_cut [42] from 36 to 48 (fun q wx => ∃ x : Int, (0 ≤ x ∧ x < 2) ∧ q = .bool (decide ((M.length : Int) < 120 + x)) ∧ Hid (MidD c w wx b n2 M [(w.heap.size, .int .i64 0, .slice none 0 0)] hi))
    case first =>
     go_region_with (go_at_call 49; refine (unhide CB).mono ?_; rintro e w4 ⟨x, rfl, x0, x1', hc4, g4⟩; have M4 := hide (unhide TM w4 hc4 g4); have z1 := (unhide TB w4 g4).c1; clear hc4 g4)
     all_goals
      go_wp2_with fail
      go_meet
      exact ⟨x, ⟨x0, x1'⟩, by rw [wr120 x0 x1'], M4⟩
    case rest =>
     obtain ⟨x, hx, rfl, hm4⟩ := hcut
     clear hmd CB TM TB x1
     by_cases hl : (M.length : Int) < 120 + x
     ·have hl' : decide ((M.length : Int) < 120 + x) = true := decide_eq_true hl
      have hbc : b < wc.heap.size := by
       obtain ⟨_, _, _, _, _, _, a, cap, bx, _⟩ := unhide hm4
       exact bx.lt
      have ST := hide (show wc.grownBy (wc.alloc (.cells #[.int .i64 1] 3)) (some c) ∧ Cur (wc.alloc (.cells #[.int .i64 1] 3)) c from ⟨World.grownBy_alloc _ _ _, (unhide hm4).cur.kept (World.grownBy_alloc wc (.cells #[.int .i64 1] 3) none) (fun r e => by cases e)⟩)
      obtain ⟨qb, qc, qg, qcur, qh, qB, oa, ocap, bx, ho⟩ := (unhide hm4).turn (unhide ST).1 (unhide ST).2
      have ou : Hid (Own wc.heap.size (wc.alloc (.cells #[.int .i64 1] 3)).heap.size (wc.alloc (.cells #[.int .i64 1] 3)) (.slice (some ⟨wc.heap.size, 0, none⟩) 1 1) [1]) := sl.Own.of (L := [1]) (draw.own_alloc wc [1] (by decide))
      have ho' := hide (ho.sub (hi' := wc.heap.size) (Nat.le_refl _) (unhide hm4).2.2.2.2.1)
      have HS := hide (fun (g' cap' : Nat) (w1 : World) h1 g1 => MidD.step (u := .slice (some ⟨wc.heap.size, 0, none⟩) 1 1) (L := [1]) (g := g') (cap' := cap') (w1 := w1) qb qc qg qcur qB bx (unhide ho') h1 g1)
      have hlo : w.heap.size ≤ wc.heap.size := (unhide hm4).grown.size
      have hmd := (unhide ST).1.size
      have b1 : wc.cell? ⟨b, 1, none⟩ = some (.slice oa M.length ocap) := by
       have e : (wc.alloc (.cells #[.int .i64 1] 3)).heap[b]? = wc.heap[b]? := Below.heap_alloc _ _ _ hbc
       rw [← World.cell?_of_block (a := ⟨b, 1, none⟩) e]
       exact bx.c1
      have HMD := hide hmd
      clear hmd qg qcur qB ho bx ST hm4
      have hMl : M.length ≤ 1048576 := by omega
      go_wp2_with (at_builtin; refine gr.appendR (unhide ho') (unhide ou) hlo (unhide HMD) hMl rfl _ _ rfl rfl (by rw [World.size_alloc]; rfl) ?_)
      intro g' cap' w9 h1 g1
      obtain ⟨⟨s1, s2⟩, m9⟩ := unhide HS g' cap' w9 h1 g1
      have M9 := hide m9
      have HB := hide (show Bd n2 (M ++ [[1]]) 121 from ⟨(unhide hbd).1, by rw [List.length_append]; simp; omega, ((unhide hbd).snoc (by decide)).2.2⟩)
      clear h1 g1 m9 HS ho' ou hbd
      go_wp2_with fail
      go_roundg (121 - (M.length + 1))
      case measure => omega
      case rel => exact ⟨_, _, by rw [List.length_append]; simp; omega, by rw [List.length_append]; rfl, HB, M9⟩
     ·have hl' : decide ((M.length : Int) < 120 + x) = false := decide_eq_false hl
      obtain ⟨qb, qc, qg, qcur, qh, qB, oa, ocap, bx, ho⟩ := unhide hm4
      have br := (qB _ (List.mem_singleton.2 rfl)).2.2
      have o0 := bx.c0
      have o1 := bx.c1
      have rc0 := br.c0
      have rc1 := br.c1
      have rf0 := br.f 0
      have rf1 := br.f 1
      have BR := hide br
      have DR := hide (Drawn.stored hlt qg qcur qh ho br n2)
      clear qg qcur qB bx ho hm4 br
      go_wp2_with fail
      (try simp only [Exit.inBlock, Exit.then])
      refine bodyPost_ret (cf.ret_box rfl rfl (((unhide BR).set0 (.int .i64 n2)).set1 (.slice oa M.length ocap))) rfl ⟨_, _, rfl, M, unhide hbd, unhide DR⟩
end Go.Proofs.YtcgiphcfjhbonaaGreatDoor.dcn
namespace Go.Proofs.YtcgiphcfjhbonaaGreatDoor.fc
open Go.ChangeShapes Go.WideShapes Go.ChangeAt Go.RowKit
open lits (okB okB_iff okB_yes)
open sl (Sl ints hide unhide ret_int ret_bool grown_refl grown_trans grown_drewN)
open cls (hasB)
open bset (setOf setOf_lt)
open fm (clashB clash_iff)
set_option linter.unusedVariables false

theorem specClash (v : Value) (L : List Int) (w : World) (hL : L.length ≤ 1048576) (hv : Sl w v L) :
  Calls Tryz.prog 124 #[v] w fun e w' => e = .returned (.bool (clashB L)) ∧ w' = w := by
 have CH := hide (fun x => cls.specClauseHas v L x w hL hv)
 obtain ⟨a, cap, rfl, ha⟩ := hv
 have HA := hide ha
 clear ha
 go_enter Tryz.func124, Tryz.ntmps124
 go_wp2
 go_loop [3] (fun i => ∃ k : Nat, k ≤ L.length ∧ i = .int .i64 k ∧ Hid ((L.take k).any (fun x => okB x && hasB L (-x)) = false)) (fun i => L.length - (intOf i).toNat)
 case atStart => exact ⟨0, Nat.zero_le _, rfl, by show _ = _; simp⟩
 case round =>
  obtain ⟨k, hk, rfl, hall⟩ := hrel
  by_cases hlt : k < L.length
  ·rcases unhide HA with h | ⟨b, off, rfl, hb, hcb⟩
   ·rw [h] at hlt
    simp at hlt
   ·have c1 := hcb k hlt
    have hi' : (k : Int) < (L.length : Int) := by omega
    have h1 := tr.any_hit (fun x => okB x && hasB L (-x)) L k 0 hlt
    have h2 := tr.any_step (fun x => okB x && hasB L (-x)) L k 0 hlt (unhide hall)
    generalize L.getD k 0 = x at *
    have cx := lits.specLitOk x
    have ch := unhide CH (-x)
    cases hx : okB x
    ·rw [hx] at cx
     have CX := hide cx
     have H := hide (h2 (by show (okB x && _) = _; rw [hx]; rfl))
     clear cx ch h1 h2 hx hcb HA hall CH
     go_wp2_with (go_at_call 88; refine (unhide CX _).mono ?_; rintro e w' ⟨rfl, rfl⟩)
     go_round
     case rel => exact ⟨k + 1, by omega, by go_num, H⟩
     case measure => simp [intOf]; omega
    ·rw [hx] at cx
     have CX := hide cx
     have hbd := okB_iff.1 hx
     obtain ⟨b0, b1, b2⟩ := hbd
     cases hh : hasB L (-x)
     ·rw [hh] at ch
      have C2 := hide ch
      have H := hide (h2 (by show (okB x && hasB L (-x)) = _; rw [hx, hh]; rfl))
      clear cx ch h1 h2 hx hh hcb HA hall CH
      go_wp2_with (first | (go_at_call 88; refine (unhide CX _).mono ?_; rintro e w' ⟨rfl, rfl⟩) | (go_at_call 161; refine (unhide C2).mono ?_; rintro e w' ⟨rfl, rfl⟩))
      go_round
      case rel => exact ⟨k + 1, by omega, by go_num, H⟩
      case measure => simp [intOf]; omega
     ·rw [hh] at ch
      have C2 := hide ch
      have H := hide (h1 (by show (okB x && hasB L (-x)) = _; rw [hx, hh]; rfl))
      clear cx ch h1 h2 hx hh hcb HA hall CH
      go_wp2_with (first | (go_at_call 88; refine (unhide CX _).mono ?_; rintro e w' ⟨rfl, rfl⟩) | (go_at_call 161; refine (unhide C2).mono ?_; rintro e w' ⟨rfl, rfl⟩))
      go_ret
      exact ⟨ret_bool (unhide H).symm, rfl⟩
  ·have hi' : ¬ (k : Int) < (L.length : Int) := by omega
   have HR := hide (tr.any_end (fun x => okB x && hasB L (-x)) L k hlt (unhide hall))
   clear HA hall CH
   go_wp2
   go_ret
   exact ⟨ret_bool (unhide HR).symm, rfl⟩

end Go.Proofs.YtcgiphcfjhbonaaGreatDoor.fc
namespace Go.Proofs.YtcgiphcfjhbonaaGreatDoor.lq
open Go.ChangeShapes Go.WideShapes Go.ChangeAt Go.RowKit
open lits (okB varI okB_iff varI_yes)
open cls (hasB)
open css (Sls OwnS tot own_mono)
open cf (Box)
open ok (cnfB clB litIn)
open fm (clashB)
open wo (Made)
open sl (Sl Own ints hide unhide ret_int ret_bool grown_refl grown_trans grown_drewN)
set_option linter.unusedVariables false
theorem solve_no {n : Int} {LL : List (List Int)} {a : List Int} (h : (cnfB n LL && a.all (litIn n)) = false) : solveL n LL a = none := by
 unfold solveL
 rw [h]
 rfl
theorem solve_clash {n : Int} {LL : List (List Int)} {a : List Int} (h : clashB a = true) : solveL n LL a = none := by
 unfold solveL
 split
 ·rw [lst_none]
  intro l _
  unfold fm.clashB at h
  obtain ⟨x, hx, h2⟩ := List.any_eq_true.1 h
  rw [Bool.and_eq_true] at h2
  cases hh : holds LL a l with
  | false => rfl
  | true =>
   have h3 := holds_lit hh hx
   have h4 := holds_lit hh (of_decide_eq_true h2.2)
   rw [litT_neg h2.1, h3] at h4
   cases h4
 ·rfl
theorem solve_bits (n : Int) (LL : List (List Int)) (a : List Int) : ∀ A, solveL n LL a = some A → A.length ≤ 24 := by
 intro A h
 unfold solveL at h
 split at h
 ·rename_i hc
  rw [Bool.and_eq_true] at hc
  have h24 : n.toNat ≤ 24 := by
   have := hc.1
   unfold ok.cnfB at this
   rw [Bool.and_eq_true, Bool.and_eq_true, decide_eq_true_iff] at this
   omega
  have := (lst_some h).1.1
  omega
 ·cases h
theorem ahead_start {n : Nat} {LL : List (List Int)} {a : List Int} (hc : cnfB (n : Int) LL = true) (ha : a.all (litIn (n : Int)) = true) (hn : clashB a = false) : Ahead n a [] ∧ rest n LL a [] = solveL (n : Int) LL a := by
 have h24 : n ≤ 24 := by
  unfold ok.cnfB at hc
  rw [Bool.and_eq_true, Bool.and_eq_true, decide_eq_true_iff] at hc
  omega
 have hl := List.all_eq_true.1 ha
 refine ⟨⟨h24, Nat.zero_le _, fun x hx => (by cases hx), fun j hj => absurd hj (Nat.not_lt_zero _), hl, fun x hx => ?_⟩, ?_⟩
 ·cases hb : hasB a (-x) with
  | false => rfl
  | true =>
   unfold fm.clashB at hn
   have : (a.any fun x => okB x && hasB a (-x)) = true := List.any_eq_true.2 ⟨x, hx, by rw [(litIn_parts (hl x hx)).1, hb]; rfl⟩
   rw [this] at hn
   cases hn
 ·unfold rest solveL
  rw [hc, ha, Bool.true_and, if_pos rfl]
  show (lst n (fun l => holds LL a l)).map (fun l => l) = lst n (holds LL a)
  cases lst n (holds LL a) <;> rfl
set_option maxRecDepth 100000 in
set_option maxHeartbeats 4000000 in
theorem specSolveWith (v u : Value) (n : Int) (LL : List (List Int)) (a : List Int) (lo hi : Nat) (w : World) (hn : tot LL ≤ 1048576) (ha : a.length ≤ 1048576) (hv : Sls w v LL) (hu : Own lo hi w u a) :
  Calls Tryz.prog 74 #[.agg #[.int .i64 n, v], u] w fun e w' => FromE w (solveL n LL a) e w' := by
 obtain ⟨O, hO⟩ : ∃ O, solveL n LL a = O := ⟨_, rfl⟩
 rw [hO]
 have HO := hide hO
 clear hO
 have g0 := World.grownBy_alloc w (.cells #[.int .i64 n, v] 32) none
 have C1 := ok.specCnfOk v n LL _ hn (hv.kept g0)
 have F0 := hide (Box.new 32 w (.int .i64 n) v)
 have HU := hide (hu.kept g0)
 have HV := hide (hv.kept g0)
 have G0 := hide g0
 obtain ⟨ua, uc, rfl, _⟩ := hu.sl
 have x0 := (unhide F0).c0
 have x1 := (unhide F0).c1
 clear g0 hv hu
 cases hc : cnfB n LL
 ·rw [hc] at C1
  have CC := hide C1
  have E := hide ((unhide HO).symm.trans (solve_no (n := n) (LL := LL) (a := a) (by rw [hc]; rfl)))
  clear C1 hc HV HU
  go_enter Tryz.func74, Tryz.ntmps74
  go_wp2_with fail
  refine (unhide CC).mono ?_; rintro e w1 ⟨rfl, g1⟩
  have G1 := hide (grown_trans (r := none) (unhide G0) g1)
  clear g1 CC x0 x1
  go_wp2_with fail
  go_ret2
  rw [unhide E]
  exact ⟨_, rfl, made_sub (unhide G1) (app.made_nil _)⟩
 rw [hc] at C1
 have CC := hide C1
 have HC := hide hc
 clear C1 hc
 go_enter Tryz.func74, Tryz.ntmps74
 go_wp2_with fail
 refine (unhide CC).mono ?_; rintro e w1 ⟨rfl, g1⟩
 have G1 := hide (grown_trans (r := none) (unhide G0) g1)
 have F1 := hide ((unhide F0).kept g1)
 have U1 := hide ((unhide HU).kept g1)
 have V1 := hide ((unhide HV).kept g1)
 have y0 := (unhide F1).c0
 have y1 := (unhide F1).c1
 have CL := l4.l04Lits v (.slice ua a.length uc) n a w1 ha (unhide U1).sl
 clear g1 CC x0 x1 G0 F0 HU HV
 cases hl : a.all (litIn n)
 ·rw [hl] at CL
  have C2 := hide CL
  have E := hide ((unhide HO).symm.trans (solve_no (n := n) (LL := LL) (a := a) (by rw [hl, Bool.and_false])))
  clear CL hl V1 U1 HC
  go_wp2_with fail
  refine (unhide C2).mono ?_; rintro e w2 ⟨rfl, g2⟩
  have G2 := hide (grown_trans (r := none) (unhide G1) g2)
  clear g2 C2 y0 y1
  go_wp2_with fail
  go_ret2
  rw [unhide E]
  exact ⟨_, rfl, made_sub (unhide G2) (app.made_nil _)⟩
 rw [hl] at CL
 have C2 := hide CL
 have HL := hide hl
 clear CL hl
 go_wp2_with fail
 refine (unhide C2).mono ?_; rintro e w2 ⟨rfl, g2⟩
 have G2 := hide (grown_trans (r := none) (unhide G1) g2)
 have F2 := hide ((unhide F1).kept g2)
 have U2 := hide ((unhide U1).kept g2)
 have V2 := hide ((unhide V1).kept g2)
 have CC := fc.specClash (.slice ua a.length uc) a w2 ha (unhide U2).sl
 clear g2 C2 y0 y1 G1 F1 U1 V1
 have z0 := (unhide F2).c0
 have z1 := (unhide F2).c1
 cases hx : clashB a
 ·rw [hx] at CC
  have C3 := hide CC
  have hn0 : 0 ≤ n := by
   have := unhide HC
   unfold ok.cnfB at this
   rw [Bool.and_eq_true, Bool.and_eq_true, decide_eq_true_iff] at this
   omega
  obtain ⟨m, rfl⟩ := Int.eq_ofNat_of_zero_le hn0
  obtain ⟨hA, hR⟩ := ahead_start (unhide HC) (unhide HL) hx
  have CF := from_ m LL hn (lits_in (unhide HC)) (m + 1) a [] v (.slice ua a.length uc) lo hi w2 hA (by show m - 0 < m + 1; omega) (by show a.length ≤ 1048576 + 0; omega) (unhide V2) (unhide U2)
  rw [hR, unhide HO] at CF
  have K4 : Hid (Calls Tryz.prog 125 #[.agg #[.int .i64 (m : Int), v], .slice ua a.length uc, .int .i64 1] w2 fun e w' => FromE w2 O e w') := CF
  clear CC hx hA hR CF
  go_wp2_with fail
  refine (unhide C3).mono ?_; rintro e w3 ⟨rfl, hw⟩; have hw' := hw.symm; clear hw; subst hw'
  go_wp2_with fail
  refine (unhide K4).mono ?_; rintro e w3 ⟨r, rfl, m3⟩
  have M3 := hide m3
  clear m3 K4 C3
  go_wp2_with fail
  go_ret2
  exact ⟨r, rfl, made_sub (unhide G2) (unhide M3)⟩
 ·rw [hx] at CC
  have C3 := hide CC
  have E := hide ((unhide HO).symm.trans (solve_clash (n := n) (LL := LL) hx))
  clear CC hx
  go_wp2_with fail
  refine (unhide C3).mono ?_; rintro e w3 ⟨rfl, hw⟩; have hw' := hw.symm; clear hw; subst hw'
  go_wp2_with fail
  go_ret2
  rw [unhide E]
  exact ⟨_, rfl, made_sub (unhide G2) (app.made_nil _)⟩
set_option maxRecDepth 100000 in
set_option maxHeartbeats 4000000 in
theorem specSolve (v : Value) (n : Int) (LL : List (List Int)) (w : World) (hn : tot LL ≤ 1048576) (hv : Sls w v LL) :
  Calls Tryz.prog 23 #[.agg #[.int .i64 n, v]] w fun e w' => FromE w (solveL n LL []) e w' := by
 have g0 := World.grownBy_alloc w (.cells #[.int .i64 n, v] 32) none
 have F0 := hide (Box.new 32 w (.int .i64 n) v)
 have mn := app.made_nil (w.alloc (.cells #[.int .i64 n, v] 32))
 have C := specSolveWith v (.slice (some ⟨(w.alloc (.cells #[.int .i64 n, v] 32)).heap.size, 0, none⟩) 0 0) n LL [] _ _ _ hn (Nat.zero_le _) ((hv.kept g0).kept mn.2) (Own.of mn.1)
 obtain ⟨O, hO⟩ : ∃ O, solveL n LL [] = O := ⟨_, rfl⟩
 rw [hO] at C ⊢
 rw [World.size_alloc] at C
 have G := hide (grown_trans (r := none) g0 mn.2)
 have CC := hide C
 have x0 := (unhide F0).c0
 have x1 := (unhide F0).c1
 clear C g0 mn hv hO
 go_enter Tryz.func23, Tryz.ntmps23
 go_wp2_with fail
 refine (unhide CC).mono ?_; rintro e w3 ⟨r, rfl, m3⟩
 have M3 := hide m3
 clear m3 CC
 go_wp2_with fail
 go_ret2
 exact ⟨r, rfl, made_sub (unhide G) (unhide M3)⟩
end Go.Proofs.YtcgiphcfjhbonaaGreatDoor.lq
namespace Go.Proofs.YtcgiphcfjhbonaaGreatDoor.qm
open as_ (litAt tl tl_snoc tl_len)
open cls (hasB)
open ok (cnfB litIn)
open l4 (openB emptyB)
set_option linter.unusedVariables false
theorem tl_getD (A : List Int) : ∀ (k i : Nat), i < A.length → (tl k A).getD i 0 = litAt (k + i) (A.getD i 0) := by
 induction A with
 | nil => intro k i h; exact absurd h (Nat.not_lt_zero _)
 | cons x A ih =>
  intro k i h
  cases i with
  | zero => rfl
  | succ i =>
   have := ih (k + 1) i (by simpa using h)
   show (tl (k + 1) A).getD i 0 = litAt (k + (i + 1)) (A.getD i 0)
   rw [this, show k + 1 + i = k + (i + 1) by omega]
theorem tl_take (A : List Int) : ∀ (k m : Nat), (tl k A).take m = tl k (A.take m) := by
 induction A with
 | nil => intro k m; cases m <;> rfl
 | cons x A ih =>
  intro k m
  cases m with
  | zero => rfl
  | succ m => show litAt k x :: (tl (k + 1) A).take m = litAt k x :: tl (k + 1) (A.take m); rw [ih]
theorem getD_mem {A : List Int} {i : Nat} (h : i < A.length) : A.getD i 0 ∈ A := by
 rw [show A.getD i 0 = A[i] by simp [h]]
 exact List.getElem_mem h
def turnB (P : List Int) : Bool := decide (∀ i, i < P.length → P.getD i 0 = (i : Int) + 1 ∨ P.getD i 0 = -(i : Int) - 1)
def vals (P : List Int) : List Int := P.map fun x => if 0 < x then 1 else 0
theorem vals_len (P : List Int) : (vals P).length = P.length := List.length_map ..
theorem vals_bit (P : List Int) : ∀ x ∈ vals P, x = 0 ∨ x = 1 := by
 intro x hx
 obtain ⟨y, _, rfl⟩ := List.mem_map.1 hx
 split
 ·exact .inr rfl
 ·exact .inl rfl
theorem vals_at {P : List Int} {i : Nat} (h : i < P.length) : (vals P).getD i 0 = if 0 < P.getD i 0 then 1 else 0 := by
 simp [vals, h]
theorem vals_snoc (P : List Int) (k : Nat) (h : k < P.length) : vals (P.take (k + 1)) = vals (P.take k) ++ [if 0 < P.getD k 0 then 1 else 0] := by
 rw [List.take_succ_eq_append_getElem h, show P.getD k 0 = P[k] by simp [h]]
 unfold vals
 rw [List.map_append]
 rfl
theorem turn_tl {P : List Int} (h : turnB P = true) : tl 0 (vals P) = P := by
 have h := of_decide_eq_true h
 refine List.ext_getElem (by rw [tl_len, vals_len]) fun i h1 h2 => ?_
 have e1 := tl_getD (vals P) 0 i (by rw [vals_len]; exact h2)
 rw [show (tl 0 (vals P)).getD i 0 = (tl 0 (vals P))[i] by simp [h1], vals_at h2, Nat.zero_add] at e1
 rw [e1]
 have e2 : P.getD i 0 = P[i] := by simp [h2]
 rw [← e2]
 unfold as_.litAt
 rcases h i h2 with q | q
 ·have h0 : (0 : Int) < (i : Int) + 1 := by omega
  rw [q]
  simp only [if_pos h0, if_true]
 ·have h0 : ¬ (0 : Int) < -(i : Int) - 1 := by omega
  rw [q]
  simp only [if_neg h0]
  rfl
theorem tl_turn (A : List Int) : turnB (tl 0 A) = true := by
 unfold turnB
 rw [decide_eq_true_iff]
 intro i hi
 rw [tl_len] at hi
 rw [tl_getD A 0 i hi, Nat.zero_add]
 unfold as_.litAt
 split
 ·exact .inl rfl
 ·exact .inr rfl
theorem tl_vals {A : List Int} (hA : ∀ x ∈ A, x = 0 ∨ x = 1) : vals (tl 0 A) = A := by
 refine List.ext_getElem (by rw [vals_len, tl_len]) fun i h1 h2 => ?_
 have e1 := vals_at (P := tl 0 A) (i := i) (by rw [tl_len]; exact h2)
 rw [show (vals (tl 0 A)).getD i 0 = (vals (tl 0 A))[i] by simp [h1], tl_getD A 0 i h2, Nat.zero_add] at e1
 rw [e1]
 have e2 : A.getD i 0 = A[i] := by simp [h2]
 rw [← e2]
 unfold as_.litAt
 rcases hA _ (getD_mem h2) with q | q
 ·rw [q, if_neg (show ¬ (0 : Int) = 1 by decide)]
  exact if_neg (by omega)
 ·rw [q, if_pos rfl]
  exact if_pos (by omega)
def machB (n : Int) (LL : List (List Int)) (P : List Int) (st k : Int) : Bool :=
 cnfB n LL && decide ((P.length : Int) ≤ n) && turnB P && decide (0 ≤ k ∧ k ≤ 1000000000) && (decide (st = 0) || (decide (st = 1) && decide ((P.length : Int) = n)) || (decide (st = 2) && decide (P.length = 0)))
structure MS where
 A : List Int
 st : Int
 k : Int
def cutN (A : List Int) : Nat → Nat
 | 0 => 0
 | m + 1 => if A.getD m 0 = 1 then cutN A m else m + 1
def back (A : List Int) : List Int := A.take (cutN A A.length - 1) ++ [1]
def stepM (n : Nat) (LL : List (List Int)) (m : MS) : MS :=
 if m.st = 0 ∧ m.k < 1000000000 then
  if openB LL (tl 0 m.A) then
   if m.A.length = n then ⟨m.A, 1, m.k + 1⟩ else ⟨m.A ++ [0], 0, m.k + 1⟩
  else if cutN m.A m.A.length = 0 then ⟨[], 2, m.k + 1⟩ else ⟨back m.A, 0, m.k + 1⟩
 else m
def runM (n : Nat) (LL : List (List Int)) : Nat → MS → MS
 | 0, m => m
 | j + 1, m => runM n LL j (stepM n LL m)
structure OkM (n : Nat) (m : MS) : Prop where
 len : m.A.length ≤ n
 bit : ∀ x ∈ m.A, x = 0 ∨ x = 1
 k0 : 0 ≤ m.k
 k1 : m.k ≤ 1000000000
 st : m.st = 0 ∨ (m.st = 1 ∧ m.A.length = n) ∨ (m.st = 2 ∧ m.A = [])
theorem cut_le (A : List Int) : ∀ m, cutN A m ≤ m := by
 intro m
 induction m with
 | zero => exact Nat.le_refl _
 | succ m ih =>
  unfold cutN
  split
  ·omega
  ·omega
theorem back_len {A : List Int} (h : cutN A A.length ≠ 0) : (back A).length = cutN A A.length := by
 have := cut_le A A.length
 unfold back
 rw [List.length_append, List.length_take, List.length_singleton]
 omega
theorem OkM.step {n : Nat} {LL : List (List Int)} {m : MS} (h : OkM n m) : OkM n (stepM n LL m) := by
 unfold stepM
 split
 ·rename_i h0
  split
  ·split
   ·rename_i hl
    exact ⟨h.len, h.bit, by show 0 ≤ m.k + 1; have := h.k0; omega, by show m.k + 1 ≤ _; omega, .inr (.inl ⟨rfl, hl⟩)⟩
   ·rename_i hl
    refine ⟨?_, ?_, by show 0 ≤ m.k + 1; have := h.k0; omega, by show m.k + 1 ≤ _; omega, .inl rfl⟩
    ·show (m.A ++ [0]).length ≤ n
     have := h.len
     rw [List.length_append, List.length_singleton]
     omega
    ·intro x hx
     rcases List.mem_append.1 hx with q | q
     ·exact h.bit x q
     ·exact .inl (List.mem_singleton.1 q)
  ·split
   ·exact ⟨Nat.zero_le _, (fun x hx => by cases hx), by show 0 ≤ m.k + 1; have := h.k0; omega, by show m.k + 1 ≤ _; omega, .inr (.inr ⟨rfl, rfl⟩)⟩
   ·rename_i hc
    refine ⟨?_, ?_, by show 0 ≤ m.k + 1; have := h.k0; omega, by show m.k + 1 ≤ _; omega, .inl rfl⟩
    ·show (back m.A).length ≤ n
     rw [back_len hc]
     exact Nat.le_trans (cut_le _ _) h.len
    ·intro x hx
     rcases List.mem_append.1 hx with q | q
     ·exact h.bit x (List.mem_of_mem_take q)
     ·exact .inr (List.mem_singleton.1 q)
 ·exact h
theorem OkM.run {n : Nat} {LL : List (List Int)} (j : Nat) : ∀ {m : MS}, OkM n m → OkM n (runM n LL j m) := by
 induction j with
 | zero => intro m h; exact h
 | succ j ih => intro m h; exact ih h.step
theorem step_stop {n : Nat} {LL : List (List Int)} {m : MS} (h : ¬ (m.st = 0 ∧ m.k < 1000000000)) : stepM n LL m = m := if_neg h
theorem run_stop {n : Nat} {LL : List (List Int)} {m : MS} (h : ¬ (m.st = 0 ∧ m.k < 1000000000)) (j : Nat) : runM n LL j m = m := by
 induction j with
 | zero => rfl
 | succ j ih => show runM n LL j (stepM n LL m) = m; rw [step_stop h, ih]
theorem run_add {n : Nat} {LL : List (List Int)} (i j : Nat) : ∀ m, runM n LL (i + j) m = runM n LL j (runM n LL i m) := by
 induction i with
 | zero => intro m; rw [Nat.zero_add]; rfl
 | succ i ih => intro m; rw [show i + 1 + j = (i + j) + 1 by omega]; exact ih _
theorem mach_ok {n : Int} {LL : List (List Int)} {P : List Int} {st k : Int} (h : machB n LL P st k = true) : ∃ N : Nat, n = (N : Int) ∧ N ≤ 24 ∧ cnfB n LL = true ∧ tl 0 (vals P) = P ∧ OkM N ⟨vals P, st, k⟩ := by
 unfold machB at h
 simp only [Bool.and_eq_true, Bool.or_eq_true, decide_eq_true_iff] at h
 obtain ⟨⟨⟨⟨hc, hl⟩, ht⟩, hk⟩, hs⟩ := h
 have hc' := hc
 unfold ok.cnfB at hc'
 simp only [Bool.and_eq_true, decide_eq_true_iff] at hc'
 have h24 := hc'.1.1
 obtain ⟨N, rfl⟩ := Int.eq_ofNat_of_zero_le h24.1
 refine ⟨N, rfl, by omega, hc, turn_tl ht, by show (vals P).length ≤ N; rw [vals_len]; omega, vals_bit P, hk.1, hk.2, ?_⟩
 rcases hs with (h0 | ⟨h1, h2⟩) | ⟨h1, h2⟩
 ·exact .inl h0
 ·exact .inr (.inl ⟨h1, by show (vals P).length = N; rw [vals_len]; omega⟩)
 ·refine .inr (.inr ⟨h1, List.eq_nil_of_length_eq_zero ?_⟩)
  show (vals P).length = 0
  rw [vals_len, h2]
theorem ok_mach {N : Nat} {LL : List (List Int)} {m : MS} (hc : cnfB (N : Int) LL = true) (h : OkM N m) : machB (N : Int) LL (tl 0 m.A) m.st m.k = true := by
 unfold machB
 simp only [Bool.and_eq_true, Bool.or_eq_true, decide_eq_true_iff]
 refine ⟨⟨⟨⟨hc, by rw [tl_len]; have := h.len; omega⟩, tl_turn _⟩, h.k0, h.k1⟩, ?_⟩
 rcases h.st with q | ⟨q, r⟩ | ⟨q, r⟩
 ·exact .inl (.inl q)
 ·exact .inl (.inr ⟨q, by rw [tl_len]; omega⟩)
 ·exact .inr ⟨q, by rw [tl_len, r]; rfl⟩
end Go.Proofs.YtcgiphcfjhbonaaGreatDoor.qm
namespace Go.Proofs.YtcgiphcfjhbonaaGreatDoor.dr
open Go.ChangeShapes Go.WideShapes Go.ChangeAt Go.RowKit
open draw (Cur)
open dcn (MidD Drawn good midD_of ownS_turn)
open cf (Box)
open ok (cnfB clB litIn)
open lits (okB okB_iff)
open sp (negL)
open as_ (tl tl_len litAt)
open lq (solveL Bits FromE)
open css (Sls OwnS tot)
open wo (Made)
open sl (Sl Own ints hide unhide ret_int ret_bool grown_refl grown_trans grown_trans')
set_option linter.unusedVariables false
theorem some_of {w w' : World} {r : Option Nat} (g : w.grownBy w' none) : w.grownBy w' r := ⟨g.os, g.tape, g.output, g.size, fun k hk _ => g.block k hk (fun e => by cases e)⟩
theorem good_cnf {n : Int} {M : List (List Int)} (h : 1 ≤ n ∧ n ≤ 6) (hl : (M.length : Int) ≤ 4 * n + 2) (hg : M.all (good n) = true) : cnfB n M = true := by
 unfold ok.cnfB
 rw [decide_eq_true (by omega), decide_eq_true (by omega), Bool.true_and, Bool.true_and, List.all_eq_true]
 intro L hL
 have := List.all_eq_true.1 hg L hL
 unfold dcn.good at this
 rw [Bool.and_eq_true, decide_eq_true_iff, List.all_eq_true] at this
 unfold ok.clB
 rw [Bool.and_eq_true, decide_eq_true_iff, List.all_eq_true]
 refine ⟨fun x hx => ?_, by omega⟩
 have q := this.2 x hx
 rw [decide_eq_true_iff] at q
 have ho : lits.okB x = true := by rw [lits.okB_iff]; omega
 unfold ok.litIn
 rw [ho, Bool.true_and, decide_eq_true_iff]
 unfold lits.varI
 rw [ho, if_pos rfl]
 split <;> omega
theorem cnf_snoc {n : Int} {M : List (List Int)} {L : List Int} (h : cnfB n M = true) (hM : M.length < 120) (hL : L.length ≤ 48) (hl : ∀ x ∈ L, litIn n x = true) : cnfB n (M ++ [L]) = true := by
 unfold ok.cnfB at *
 simp only [Bool.and_eq_true, decide_eq_true_iff] at *
 obtain ⟨⟨h1, h2⟩, h3⟩ := h
 refine ⟨⟨h1, by rw [List.length_append, List.length_singleton]; omega⟩, ?_⟩
 rw [List.all_append, h3, Bool.true_and]
 simp only [List.all_cons, List.all_nil, Bool.and_true]
 unfold ok.clB
 rw [Bool.and_eq_true, List.all_eq_true, decide_eq_true_iff]
 exact ⟨hl, hL⟩
theorem tot48 {n : Int} {M : List (List Int)} (h : cnfB n M = true) : tot M ≤ 1048576 := by
 have hl : ∀ L ∈ M, L.length ≤ 48 := by
  intro L hL
  unfold ok.cnfB at h
  simp only [Bool.and_eq_true, decide_eq_true_iff] at h
  have := List.all_eq_true.1 h.2 L hL
  unfold ok.clB at this
  rw [Bool.and_eq_true, decide_eq_true_iff] at this
  exact this.2
 have hm : M.length ≤ 120 := by
  unfold ok.cnfB at h
  simp only [Bool.and_eq_true, decide_eq_true_iff] at h
  exact h.1.2
 have hs : (M.map List.length).sum ≤ 48 * M.length := by
  clear h hm
  induction M with
  | nil => simp
  | cons L M ih =>
   have h1 := hl L (List.mem_cons_self ..)
   have h2 := ih (fun K hK => hl K (List.mem_cons_of_mem _ hK))
   simp only [List.map_cons, List.sum_cons, List.length_cons]
   omega
 unfold css.tot
 unfold css.sumLen at *
 omega
theorem neg_lits {n : Int} {M : List (List Int)} {A : List Int} (h : solveL n M [] = some A) : A.length ≤ 24 ∧ (A.length : Int) = n ∧ (∀ x ∈ tl 0 A, okB x = true) ∧ ∀ x ∈ negL (tl 0 A), litIn n x = true := by
 unfold lq.solveL at h
 split at h
 ·rename_i hc
  rw [Bool.and_eq_true] at hc
  have hb := (lq.lst_some h).1
  have hn : 0 ≤ n ∧ n ≤ 24 := by
   have := hc.1
   unfold ok.cnfB at this
   simp only [Bool.and_eq_true, decide_eq_true_iff] at this
   exact this.1.1
  have hl : (A.length : Int) = n := by rw [hb.1]; omega
  have hat : ∀ x ∈ tl 0 A, ∃ i, i < A.length ∧ (x = (i : Int) + 1 ∨ x = -(i : Int) - 1) := by
   intro x hx
   obtain ⟨i, hi, e⟩ := List.getElem_of_mem hx
   rw [tl_len] at hi
   have e1 := qm.tl_getD A 0 i hi
   rw [show (tl 0 A).getD i 0 = (tl 0 A)[i] by simp [tl_len, hi], e, Nat.zero_add] at e1
   refine ⟨i, hi, ?_⟩
   rw [e1]
   unfold as_.litAt
   split
   ·exact .inl rfl
   ·exact .inr rfl
  refine ⟨by omega, hl, fun x hx => ?_, fun x hx => ?_⟩
  ·obtain ⟨i, hi, q⟩ := hat x hx
   rw [okB_iff]
   omega
  ·obtain ⟨y, hy, rfl⟩ := List.mem_map.1 hx
   obtain ⟨i, hi, q⟩ := hat y hy
   have ho : okB (-y) = true := by rw [okB_iff]; omega
   unfold ok.litIn
   rw [ho, Bool.true_and, decide_eq_true_iff, lits.varI_yes (okB_iff.1 ho)]
   split <;> omega
 ·cases h
def FalseE (c : Nat) (w : World) (e : Ending) (w' : World) : Prop := ∃ (n : Int) (v : Value) (M : List (List Int)), e = .returned (.agg #[.int .i64 n, v]) ∧ (1 ≤ n ∧ n ≤ 5) ∧ cnfB n M = true ∧ Drawn c w w' v M
set_option maxRecDepth 100000 in
set_option maxHeartbeats 8000000 in
theorem false_ (c : Nat) (w : World) (hc : Cur w c) :
  Calls Tryz.prog 82 #[.pointer (some ⟨c, 0, none⟩)] w fun e w' => FalseE c w e w' := by
 have hlt := hc.lt
 have C0 := hide (dcn.cnf c 5 _ (hc.kept (World.grownBy_alloc w (.cells #[.int .i64 0, .slice none 0 0] 32) none) (fun r e => by cases e)) (by decide) (by decide))
 clear hc
 go_enter Tryz.func82, Tryz.ntmps82
 go_wp2_with fail
 refine (unhide C0).mono ?_; rintro e w1 ⟨n, v, M0, rfl, hn5, hl, hg, hd⟩
 obtain ⟨va, vc, rfl⟩ := hd.1.len
 have ST : Hid (MidD c w (w1.alloc (.cells #[.int .i64 n, .slice va M0.length vc] 32)) w1.heap.size n M0 [(w.heap.size, .int .i64 0, .slice none 0 0)] w1.heap.size ∧ cnfB n M0 = true ∧ M0.length ≤ 22 + 0) := ⟨midD_of hlt hd, good_cnf ⟨hn5.1, by omega⟩ hl hg, by omega⟩
 clear hl hg hd C0
 go_wp2_with fail
 generalize w1.alloc (.cells #[.int .i64 n, .slice va M0.length vc] 32) = W1 at *
 generalize w1.heap.size = b at *
 go_loopw [4] (fun iv wr => ∃ (j : Nat) (M : List (List Int)) (hi : Nat), j ≤ 40 ∧ iv = .int .i64 (j : Int) ∧ Hid (MidD c w wr b n M [(w.heap.size, .int .i64 0, .slice none 0 0)] hi ∧ cnfB n M = true ∧ M.length ≤ 22 + j)) (fun iv _ => 40 - (intOf iv).toNat)
 case atStart => exact ⟨0, M0, _, Nat.zero_le _, rfl, ST⟩
 case round =>
  obtain ⟨j, M, hi, hj, rfl, hw⟩ := hrel
  clear ST
  have HCN := hide (unhide hw).2.1
  by_cases hlt40 : j < 40
  ·have hjI : (j : Int) < 40 := by omega
   have HW := hw
   obtain ⟨qb, qc, qg, qcur, qh, qB, oa, ocap, bx, ho⟩ := (unhide hw).1
   have CV := hide (lq.specSolve (.slice oa M.length ocap) n M wr (tot48 (unhide hw).2.1) ho.sls)
   have c0 := bx.c0
   have c1 := bx.c1
   have hcl : c < wr.heap.size := qcur.lt
   have hsz := qg.size
   have HSZ := hide (And.intro hsz qh)
   clear qb qc qg qcur qh qB bx ho
   go_wp2_with fail
   refine (unhide CV).mono ?_; rintro e w2 ⟨r, rfl, m2⟩
   have cur2 := ((unhide hw).1.cur.kept m2.2 (fun r e => by cases e))
   have MD2 := (unhide hw).1.turn (some_of m2.2) cur2
   have NL : Hid (∀ A, solveL n M [] = some A → A.length ≤ 24 ∧ (A.length : Int) = n ∧ (∀ x ∈ tl 0 A, okB x = true) ∧ ∀ x ∈ negL (tl 0 A), litIn n x = true) := fun A h => neg_lits h
   cases hsv : solveL n M []
   ·have MR := hide MD2
    clear hsv m2 MD2 cur2 CV c0 c1 NL hw HW hsz HSZ
    obtain ⟨qb, qc, qg, qcur, qh, qB, oa, ocap, bx, ho⟩ := unhide MR
    have br := (qB _ (List.mem_singleton.2 rfl)).2.2
    have FN := hide (And.intro (unhide HCN) (Drawn.stored hlt qg qcur qh ho br n))
    have BR := hide br
    have c0 := bx.c0
    have c1 := bx.c1
    have r0 := br.c0
    have r1 := br.c1
    have f0 := br.f 0
    have f1 := br.f 1
    clear qb qc qg qcur qh qB bx ho br MR
    go_wp2_with fail
    (try simp only [Exit.inBlock, Exit.then])
    exact bodyPost_ret (cf.ret_box rfl rfl (((unhide BR).set0 (.int .i64 n)).set1 (.slice oa M.length ocap))) rfl ⟨n, _, M, rfl, hn5, (unhide FN).1, (unhide FN).2⟩
   ·rename_i A
    rw [hsv] at m2
    have m2' : Made wr w2 r A := m2
    obtain ⟨n24, nlen, nok, nlit⟩ := unhide NL A hsv
    obtain ⟨ra, rc, er, _⟩ := Sl.of_own m2'.1
    subst er
    have M2 := hide MD2
    have MA := hide m2'
    have CO := hide (draw.once c 30 w2 cur2 (by decide) (by decide))
    have NOK := hide nok
    have NLT := hide nlit
    have hs2 := hide m2'.2.size
    clear hsv m2 m2' MD2 cur2 CV c0 c1 NL hw nok nlit
    go_wp2_with fail
    refine (unhide CO).mono ?_; rintro e w3 ⟨b1, rfl, cur3, g3⟩
    have M3 := hide ((unhide M2).turn g3 cur3)
    have A3 := hide ((unhide MA).1.kept g3 (by right; intro e; have := ((unhide MA).1.lt c e).1; omega))
    have hs3 := hide g3.size
    clear CO M2 cur3 g3 MA
    cases b1
    ·have CL := hide (as_.l03Lits (.slice ra A.length rc) A w3 (by omega) (Sl.of_own (unhide A3)))
     go_wp2_with fail
     refine (unhide CL).mono ?_; rintro e w4 ⟨u4, rfl, m4⟩
     have CP := hide (sp.l04Opposite u4 (tl 0 A) w4 (by rw [tl_len]; omega) (unhide NOK) (Sl.of_own m4.1))
     have M4 := hide ((unhide M3).turn (some_of m4.2) ((unhide M3).cur.kept m4.2 (fun r e => by cases e)))
     have hs4 := hide m4.2.size
     clear CL M3 A3 m4
     go_wp2_with fail
     refine (unhide CP).mono ?_; rintro e w5 ⟨u5, rfl, m5⟩
     have hnl : (negL (tl 0 A)).length = A.length := by unfold sp.negL; rw [List.length_map, tl_len]
     have M5 := hide ((unhide M4).turn (some_of m5.2) ((unhide M4).cur.kept m5.2 (fun r e => by cases e)))
     have o5 := m5.1
     rw [hnl] at o5
     obtain ⟨ua, uc, eu⟩ := ks.row_form o5
     subst eu
     have O5 := hide o5
     have LO : Hid (w.heap.size ≤ w4.heap.size ∧ hi ≤ w4.heap.size ∧ w4.heap.size ≤ w5.heap.size) := by
      have h1 := unhide HSZ
      have h2 := unhide hs2
      have h3 := unhide hs3
      have h4 := unhide hs4
      exact ⟨by omega, by omega, m5.2.size⟩
     have HNL := hide hnl
     clear CP M4 m5 o5 hnl hs2 hs3 hs4
     by_cases h2 : 2 < A.length
     ·have h2I : (A.length : Int) > 2 := by omega
      have CT := hide (draw.once c 2 w5 (unhide M5).cur (by decide) (by decide))
      go_wp2_with fail
      refine (unhide CT).mono ?_; rintro e wx ⟨b2, rfl, cur6, g6⟩
      have MX := hide ((unhide M5).turn g6 cur6)
      have OX := hide ((unhide O5).kept g6 (by right; intro e; have := ((unhide O5).lt c e).1; have := (unhide LO).1; omega))
      obtain ⟨lo5, hlo5⟩ : ∃ lo5, lo5 = w4.heap.size := ⟨_, rfl⟩
      have LO5 : Hid (w.heap.size ≤ lo5 ∧ hi ≤ lo5 ∧ lo5 ≤ wx.heap.size) := by
       have h1 := unhide LO
       have h2 := g6.size
       exact ⟨by omega, by omega, by omega⟩
      rw [← hlo5] at OX
      clear CT M5 O5 cur6 g6 LO hlo5
      cases b2
      ·have LLN : Hid ((negL (tl 0 A)).length ≤ 48 ∧ ∀ x ∈ negL (tl 0 A), litIn n x = true) := ⟨by rw [unhide HNL]; omega, unhide NLT⟩
       obtain ⟨qb, qc, qg, qcur, qh, qB, oa, ocap, bx, ho⟩ := unhide MX
       have hlo : w.heap.size ≤ lo5 := (unhide LO5).1
       have ho' := hide (ho.sub (hi' := lo5) (Nat.le_refl _) (unhide LO5).2.1)
       have OU := hide (show Own lo5 wx.heap.size wx (.slice ua A.length uc) (negL (tl 0 A)) from sl.Own.of (by rw [unhide HNL]; exact unhide OX))
       have HMD := hide (unhide LO5).2.2
       have HS := hide (fun (g' cap' : Nat) (w9 : World) h1 g1 => MidD.step (u := (.slice ua A.length uc)) (L := (negL (tl 0 A))) (g := g') (cap' := cap') (w1 := w9) qb qc qg qcur qB bx (unhide ho') h1 g1)
       have hMl : M.length ≤ 1048576 := by have := (unhide HW).2.2; omega
       have b1 := bx.c1
       have neb := World.new_ne wx _ b1
       have b1A := (bx.kept (World.grownBy_alloc wx (.cells #[(.slice ua A.length uc)] 43) none)).c1
       have CN := hide (cnf_snoc (L := (negL (tl 0 A))) (unhide HW).2.1 (by have := (unhide HW).2.2; omega) (unhide LLN).1 (unhide LLN).2)
       have MLn := hide (unhide HW).2.2
       clear qg qcur qB ho bx MX LO5 LLN HW HCN
       go_wp2_with (at_builtin; refine gr.appendR (unhide ho') (unhide OU) hlo (unhide HMD) hMl rfl _ _ rfl rfl rfl ?_)
       intro g' cap' w9 h1 g1
       obtain ⟨⟨s1, s2⟩, m9⟩ := unhide HS g' cap' w9 h1 g1
       have M9 := hide m9
       clear h1 g1 m9 HS ho' OU HMD b1 neb b1A
       go_wp2_with fail
       go_roundw
       case rel => exact ⟨j + 1, M ++ [(negL (tl 0 A))], _, by omega, by go_num, unhide M9, unhide CN, by rw [List.length_append, List.length_singleton]; have := unhide MLn; omega⟩
       case measure => simp [intOf]; omega
      ·have LLN : Hid (((negL (tl 0 A)).take 2).length ≤ 48 ∧ ∀ x ∈ (negL (tl 0 A)).take 2, litIn n x = true) := ⟨by rw [List.length_take]; omega, fun x hx => unhide NLT x (List.mem_of_mem_take hx)⟩
       obtain ⟨g0, hcap, eua, OX2⟩ : ∃ g0, A.length ≤ uc ∧ ua = some ⟨g0, 0, none⟩ ∧ Hid (wx.ownsRow lo5 3 1 (.slice (some ⟨g0, 0, none⟩) 2 uc) 2 ((ints (negL (tl 0 A))).take 2)) := by
        have ox := unhide OX
        rcases ox.2 with ⟨e, h0⟩ | ⟨g, cap', cur, e, hg, _, hcp, _⟩
        ·omega
        ·injection e with e1 e2 e3
         subst e1
         exact ⟨g, by omega, rfl, qw.own_take ox (by omega)⟩
       subst eua
       have hc2 : (2 : Int) ≤ (uc : Int) := by omega
       have hl2 : ((negL (tl 0 A)).take 2).length = 2 := by rw [List.length_take, unhide HNL]; omega
       have e2 : ints ((negL (tl 0 A)).take 2) = (ints (negL (tl 0 A))).take 2 := by unfold sl.ints; rw [List.map_take]
       have OY : Hid (wx.ownsRow lo5 3 1 (.slice (some ⟨g0, 0, none⟩) 2 uc) ((negL (tl 0 A)).take 2).length (ints ((negL (tl 0 A)).take 2))) := by
        show wx.ownsRow _ _ _ _ _ _
        rw [hl2, e2]
        exact unhide OX2
       clear OX OX2 hl2 e2
       obtain ⟨qb, qc, qg, qcur, qh, qB, oa, ocap, bx, ho⟩ := unhide MX
       have hlo : w.heap.size ≤ lo5 := (unhide LO5).1
       have ho' := hide (ho.sub (hi' := lo5) (Nat.le_refl _) (unhide LO5).2.1)
       have OU := hide (show Own lo5 wx.heap.size wx (.slice (some ⟨g0, 0, none⟩) 2 uc) ((negL (tl 0 A)).take 2) from sl.Own.of (unhide OY))
       have HMD := hide (unhide LO5).2.2
       have HS := hide (fun (g' cap' : Nat) (w9 : World) h1 g1 => MidD.step (u := (.slice (some ⟨g0, 0, none⟩) 2 uc)) (L := ((negL (tl 0 A)).take 2)) (g := g') (cap' := cap') (w1 := w9) qb qc qg qcur qB bx (unhide ho') h1 g1)
       have hMl : M.length ≤ 1048576 := by have := (unhide HW).2.2; omega
       have b1 := bx.c1
       have neb := World.new_ne wx _ b1
       have b1A := (bx.kept (World.grownBy_alloc wx (.cells #[(.slice (some ⟨g0, 0, none⟩) 2 uc)] 43) none)).c1
       have CN := hide (cnf_snoc (L := ((negL (tl 0 A)).take 2)) (unhide HW).2.1 (by have := (unhide HW).2.2; omega) (unhide LLN).1 (unhide LLN).2)
       have MLn := hide (unhide HW).2.2
       clear qg qcur qB ho bx MX LO5 LLN HW HCN
       go_wp2_with (at_builtin; refine gr.appendR (unhide ho') (unhide OU) hlo (unhide HMD) hMl rfl _ _ rfl rfl rfl ?_)
       intro g' cap' w9 h1 g1
       obtain ⟨⟨s1, s2⟩, m9⟩ := unhide HS g' cap' w9 h1 g1
       have M9 := hide m9
       clear h1 g1 m9 HS ho' OU HMD b1 neb b1A
       go_wp2_with fail
       go_roundw
       case rel => exact ⟨j + 1, M ++ [((negL (tl 0 A)).take 2)], _, by omega, by go_num, unhide M9, unhide CN, by rw [List.length_append, List.length_singleton]; have := unhide MLn; omega⟩
       case measure => simp [intOf]; omega
     ·have h2I : ¬ (A.length : Int) > 2 := by omega
      have MX := M5
      obtain ⟨wx, hwx⟩ : ∃ wx, wx = w5 := ⟨_, rfl⟩
      rw [← hwx] at MX O5 LO
      subst hwx
      obtain ⟨lo5, hlo5⟩ : ∃ lo5, lo5 = w4.heap.size := ⟨_, rfl⟩
      rw [← hlo5] at O5 LO
      have LO5 := LO
      have LLN : Hid ((negL (tl 0 A)).length ≤ 48 ∧ ∀ x ∈ negL (tl 0 A), litIn n x = true) := ⟨by rw [unhide HNL]; omega, unhide NLT⟩
      clear hlo5 M5
      obtain ⟨qb, qc, qg, qcur, qh, qB, oa, ocap, bx, ho⟩ := unhide MX
      have hlo : w.heap.size ≤ lo5 := (unhide LO5).1
      have ho' := hide (ho.sub (hi' := lo5) (Nat.le_refl _) (unhide LO5).2.1)
      have OU := hide (show Own lo5 wx.heap.size wx (.slice ua A.length uc) (negL (tl 0 A)) from sl.Own.of (by rw [unhide HNL]; exact unhide O5))
      have HMD := hide (unhide LO5).2.2
      have HS := hide (fun (g' cap' : Nat) (w9 : World) h1 g1 => MidD.step (u := (.slice ua A.length uc)) (L := (negL (tl 0 A))) (g := g') (cap' := cap') (w1 := w9) qb qc qg qcur qB bx (unhide ho') h1 g1)
      have hMl : M.length ≤ 1048576 := by have := (unhide HW).2.2; omega
      have b1 := bx.c1
      have neb := World.new_ne wx _ b1
      have b1A := (bx.kept (World.grownBy_alloc wx (.cells #[(.slice ua A.length uc)] 43) none)).c1
      have CN := hide (cnf_snoc (L := (negL (tl 0 A))) (unhide HW).2.1 (by have := (unhide HW).2.2; omega) (unhide LLN).1 (unhide LLN).2)
      have MLn := hide (unhide HW).2.2
      clear qg qcur qB ho bx MX LO5 LLN HW HCN
      go_wp2_with (at_builtin; refine gr.appendR (unhide ho') (unhide OU) hlo (unhide HMD) hMl rfl _ _ rfl rfl rfl ?_)
      intro g' cap' w9 h1 g1
      obtain ⟨⟨s1, s2⟩, m9⟩ := unhide HS g' cap' w9 h1 g1
      have M9 := hide m9
      clear h1 g1 m9 HS ho' OU HMD b1 neb b1A
      go_wp2_with fail
      go_roundw
      case rel => exact ⟨j + 1, M ++ [(negL (tl 0 A))], _, by omega, by go_num, unhide M9, unhide CN, by rw [List.length_append, List.length_singleton]; have := unhide MLn; omega⟩
      case measure => simp [intOf]; omega
    ·have MR := M3
     clear M3 A3 NOK NLT HSZ HW hs2 hs3
     obtain ⟨qb, qc, qg, qcur, qh, qB, oa, ocap, bx, ho⟩ := unhide MR
     have br := (qB _ (List.mem_singleton.2 rfl)).2.2
     have FN := hide (And.intro (unhide HCN) (Drawn.stored hlt qg qcur qh ho br n))
     have BR := hide br
     have c0 := bx.c0
     have c1 := bx.c1
     have r0 := br.c0
     have r1 := br.c1
     have f0 := br.f 0
     have f1 := br.f 1
     clear qb qc qg qcur qh qB bx ho br MR
     go_wp2_with fail
     (try simp only [Exit.inBlock, Exit.then])
     exact bodyPost_ret (cf.ret_box rfl rfl (((unhide BR).set0 (.int .i64 n)).set1 (.slice oa M.length ocap))) rfl ⟨n, _, M, rfl, hn5, (unhide FN).1, (unhide FN).2⟩
  ·have hjI : ¬ (j : Int) < 40 := by omega
   have MR := hide (unhide hw).1
   clear hw
   obtain ⟨qb, qc, qg, qcur, qh, qB, oa, ocap, bx, ho⟩ := unhide MR
   have br := (qB _ (List.mem_singleton.2 rfl)).2.2
   have FN := hide (And.intro (unhide HCN) (Drawn.stored hlt qg qcur qh ho br n))
   have BR := hide br
   have c0 := bx.c0
   have c1 := bx.c1
   have r0 := br.c0
   have r1 := br.c1
   have f0 := br.f 0
   have f1 := br.f 1
   clear qb qc qg qcur qh qB bx ho br MR
   go_wp2_with fail
   (try simp only [Exit.inBlock, Exit.then])
   exact bodyPost_ret (cf.ret_box rfl rfl (((unhide BR).set0 (.int .i64 n)).set1 (.slice oa M.length ocap))) rfl ⟨n, _, M, rfl, hn5, (unhide FN).1, (unhide FN).2⟩
end Go.Proofs.YtcgiphcfjhbonaaGreatDoor.dr
namespace Go.Proofs.YtcgiphcfjhbonaaGreatDoor.df
open Go.ChangeShapes Go.WideShapes Go.ChangeAt Go.RowKit
open sl (Sl Own ints hide unhide grown_refl grown_trans grown_trans' of_below below_of grown_drewN)
open css (Sls OwnS tot)
open cf (Box)
open draw (Cur Bs I64 newCur grown_new)
open dcn (Came Bd Drawn)
set_option linter.unusedVariables false

theorem sameQ (v u : Value) (L : List Int) (w : World) (hL : L.length ≤ 1048576) (hv : Sl w v L) (hu : Sl w u L) :
  Calls Tryz.prog 48 #[v, u] w fun e w' => e = .returned (.bool true) ∧ ∃ m, w' = w.drewN m := by
 obtain ⟨a, cap, rfl, ha⟩ := hv
 obtain ⟨c, cap', rfl, hc⟩ := hu
 rcases ha with rfl | ⟨b, off, rfl, hb, hcb⟩
 ·go_enter Tryz.func48, Tryz.ntmps48
  go_wp2
  refine wp_loop_rounds 1 ?_
  rw [rounds_succ]
  go_wp2
  go_ret
  exact ⟨rfl, 0, rfl⟩
 ·rcases hc with rfl | ⟨d, off', rfl, hd, hcd⟩
  ·go_enter Tryz.func48, Tryz.ntmps48
   go_wp2
   refine wp_loop_rounds 1 ?_
   rw [rounds_succ]
   go_wp2
   go_ret
   exact ⟨rfl, 0, rfl⟩
  ·have HB := hide hcb
   have HD := hide hcd
   clear hcb hcd
   go_enter Tryz.func48, Tryz.ntmps48
   go_wp2
   go_loopw [5] (fun i wr => ∃ k : Nat, k ≤ L.length ∧ i = .int .i64 k ∧ ∃ m, Hid (wr = w.drewN m)) (fun i _ => L.length - (intOf i).toNat)
   case atStart => exact ⟨0, Nat.zero_le _, rfl, 0, rfl⟩
   case round =>
    obtain ⟨k, hk, rfl, m, hg⟩ := hrel
    have hg' := unhide hg
    clear hg
    subst hg'
    by_cases hlt : k < L.length
    ·have c1 : w.cell? ⟨b, off + k, none⟩ = some (.int .i64 (L.getD k 0)) := unhide HB k hlt
     have c2 : w.cell? ⟨d, off' + k, none⟩ = some (.int .i64 (L.getD k 0)) := unhide HD k hlt
     have hi : (k : Int) < (L.length : Int) := by omega
     generalize L.getD k 0 = x at *
     go_wp2
     go_quiet (fail)
     go_wp2
     go_roundw
     case rel => exact ⟨k + 1, by omega, by go_num, _, rfl⟩
     case measure => simp [intOf]; omega
    ·have hi : ¬ (k : Int) < (L.length : Int) := by omega
     go_wp2
     go_ret
     exact ⟨rfl, m, rfl⟩
theorem Sl.drewN {w : World} {v : Value} {L : List Int} (h : Sl w v L) (n : Nat) : Sl (w.drewN n) v L := h.kept (grown_drewN w n) (.inl rfl)

theorem sameList (v u : Value) (LL : List (List Int)) (w : World) (hn : LL.length ≤ 1048576) (hin : ∀ i, (LL.getD i []).length ≤ 1048576) (hv : Sls w v LL) (hu : Sls w u LL) :
  Calls Tryz.prog 13 #[v, u] w fun e w' => e = .returned (.bool true) ∧ w.grownBy w' none := by
 obtain ⟨a, cap, rfl, ha⟩ := hv
 obtain ⟨c, cap', rfl, hc⟩ := hu
 have HA := hide ha
 have HC := hide hc
 clear ha hc
 go_enter Tryz.func13, Tryz.ntmps13
 go_wp2
 go_loopw [5] (fun i wr => ∃ k : Nat, k ≤ LL.length ∧ i = .int .i64 k ∧ w.grownBy wr none) (fun i _ => LL.length - (intOf i).toNat)
 case atStart => exact ⟨0, Nat.zero_le _, rfl, grown_refl _⟩
 case round =>
  obtain ⟨k, hk, rfl, hg⟩ := hrel
  by_cases hlt : k < LL.length
  ·rcases unhide HA with h | ⟨b, off, rfl, hb, hcb⟩
   ·rw [h] at hlt
    simp at hlt
   ·rcases unhide HC with h | ⟨d, off', rfl, hd, hcd⟩
    ·rw [h] at hlt
     simp at hlt
    ·obtain ⟨x, hx, sx⟩ := hcb k hlt
     obtain ⟨y, hy, sy⟩ := hcd k hlt
     have c1 : wr.cell? ⟨b, off + k, none⟩ = some x := hg.cell hx (fun e => by cases e)
     have c2 : wr.cell? ⟨d, off' + k, none⟩ = some y := hg.cell hy (fun e => by cases e)
     have hL := hin k
     generalize LL.getD k [] = L at *
     have C := hide (fun n => sameQ x y L (wr.drewN n) hL ((sx.kept hg (.inl rfl)).kept (grown_drewN wr n) (.inl rfl)) ((sy.kept hg (.inl rfl)).kept (grown_drewN wr n) (.inl rfl)))
     have hi : (k : Int) < (LL.length : Int) := by omega
     have G := hide hg
     clear hg hcb hcd HA HC hx hy sx sy
     go_wp2
     go_quiet (first | (go_at_call 48; exact Calls.quiet_of (unhide C _)))
     go_wp2
     go_roundw
     case rel => exact ⟨k + 1, by omega, by go_num, grown_trans (unhide G) (grown_drewN _ _)⟩
     case measure => simp [intOf]; omega
  ·have hi : ¬ (k : Int) < (LL.length : Int) := by omega
   have G := hide hg
   clear hg HA HC
   go_wp2
   go_ret
   exact ⟨rfl, unhide G⟩


theorem tot_bd {n : Int} {M : List (List Int)} {k : Nat} (h : Bd n M k) (hk : k ≤ 121) : tot M ≤ 6050 := by
 unfold css.tot
 have h2 : (M.map List.length).sum ≤ 49 * M.length := by
  have := h.2.2
  clear h
  induction M with
  | nil => simp
  | cons L l ih =>
   rw [List.map_cons, List.sum_cons, List.length_cons]
   have := ih (fun K hK => this K (List.mem_cons_of_mem _ hK))
   have := (by assumption : ∀ K ∈ L :: l, K.length ≤ 49) L (List.mem_cons_self ..)
   omega
 have := h.2.1
 omega

theorem stored {w w6 : World} {g cap : Nat} {X : List Int} (i : Nat) (y : Int) (h : wo.Made w w6 (.slice (some ⟨g, 0, none⟩) X.length cap) X) (hi : i < X.length) :
  (∃ u, w6.cell? ⟨g, i, none⟩ = some u) ∧ w6.frozen? ⟨g, i, none⟩ = false ∧ wo.Made w (w6.setCell ⟨g, i, none⟩ (.int .i64 y)) (.slice (some ⟨g, 0, none⟩) (X.set i y).length cap) (X.set i y) ∧ css.Outs w.heap.size w6.heap.size w6 (w6.setCell ⟨g, i, none⟩ (.int .i64 y)) := by
 have hg := h.1.lt g rfl
 have gs := sl.grown_setCell w6 g i (.int .i64 y)
 refine ⟨?_, h.1.frozenAt i, ⟨?_, ?_⟩, css.outs_by gs (fun k e => by cases e; exact hg)⟩
 ·rw [h.1.cellAt i (by omega)]
  exact ⟨_, List.getElem?_eq_getElem (by rw [sl.ints_length]; exact hi)⟩
 ·have e : (ints X).set i (.int .i64 y) = ints (X.set i y) := by
   unfold sl.ints
   rw [List.map_set]
  rw [List.length_set, ← e]
  exact (h.1.stored i _).1
 ·exact grown_new h.2 gs hg.1
theorem outs_trans {lo hi : Nat} {a b c : World} (h : css.Outs lo hi a b) (k : css.Outs lo hi b c) : css.Outs lo hi a c :=
 ⟨k.os.trans h.os, k.tape.trans h.tape, k.output.trans h.output, Nat.le_trans h.size k.size, fun i hi' d => (k.block i (Nat.lt_of_lt_of_le hi' h.size) d).trans (h.block i hi' d)⟩
theorem made_some {w w6 : World} {v : Value} {X : List Int} (h : wo.Made w w6 v X) (hX : 0 < X.length) : ∃ g cap, v = .slice (some ⟨g, 0, none⟩) X.length cap := by
 obtain ⟨⟨_, h2⟩, _⟩ := h
 rcases h2 with ⟨rfl, h0⟩ | ⟨g, cap, cur, rfl, _⟩
 ·omega
 ·exact ⟨g, cap, rfl⟩
def Got (w w' : World) (n : Int) (v : Value) (M : List (List Int)) : Prop := Bd n M 121 ∧ OwnS w.heap.size w'.heap.size w' v M ∧ w.grownBy w' none

end Go.Proofs.YtcgiphcfjhbonaaGreatDoor.df
namespace Go.Proofs.YtcgiphcfjhbonaaGreatDoor.dr
open Go.ChangeShapes Go.WideShapes Go.ChangeAt Go.RowKit
open sl (hide unhide grown_refl grown_trans grown_drewN below_of of_below)
open css (Sls OwnS tot)
open cf (Box)
open draw (Bs Cur newCur)
open dcn (Bd Came Drawn)
set_option linter.unusedVariables false
end Go.Proofs.YtcgiphcfjhbonaaGreatDoor.dr
namespace Go.Proofs.YtcgiphcfjhbonaaGreatDoor.dr
open Go.ChangeShapes Go.WideShapes Go.ChangeAt Go.RowKit
open draw (Bs Cur newCur)
open dcn (MidD Drawn midD_of ownS_turn)
open cf (Box)
open ok (cnfB)
open css (Sls OwnS tot)
open sl (hide unhide grown_refl grown_trans grown_trans' grown_drewN below_of of_below)
set_option linter.unusedVariables false
def PairE (c : Nat) (w : World) (e : Ending) (w' : World) : Prop := ∃ (n : Int) (v u : Value) (M P : List (List Int)), e = .returned (.tuple #[.agg #[.int .i64 n, v], u]) ∧ (1 ≤ n ∧ n ≤ 5) ∧ cnfB n M = true ∧ tot P ≤ 100000 ∧ Drawn c w w' v M ∧ OwnS w.heap.size w'.heap.size w' u P
def PairM (c : Nat) (w wr : World) (b : Nat) (n : Int) (M : List (List Int)) (hi : Nat) (u : Value) (P : List (List Int)) : Prop := MidD c w wr b n M [(w.heap.size, .int .i64 0, .slice none 0 0)] hi ∧ (1 ≤ n ∧ n ≤ 5) ∧ cnfB n M = true ∧ tot P ≤ 100000 ∧ OwnS (b + 1) wr.heap.size wr u P ∧ b + 1 ≤ wr.heap.size
theorem PairM.turn {c : Nat} {w wr w1 : World} {b : Nat} {n : Int} {M : List (List Int)} {hi : Nat} {u : Value} {P : List (List Int)} (h : PairM c w wr b n M hi u P) (g : wr.grownBy w1 (some c)) (hcur : Cur w1 c) : PairM c w w1 b n M hi u P := by
 obtain ⟨h1, h2, h3, h4, h5, h6⟩ := h
 have hb := h1.1
 have hc := h1.2.1
 exact ⟨h1.turn g hcur, h2, h3, h4, (ownS_turn h5 (by omega) g).sub (Nat.le_refl _) g.size, Nat.le_trans h6 g.size⟩
theorem PairM.new {c : Nat} {w wr w1 : World} {b : Nat} {n : Int} {M : List (List Int)} {u u' : Value} {P P' : List (List Int)} {r : Option Nat} (h : PairM c w wr b n M b u P) (g : wr.grownBy w1 r) (hr : ∀ k, r = some k → b < k) (ht : tot P' ≤ 100000) (ho : OwnS (b + 1) w1.heap.size w1 u' P') : PairM c w w1 b n M b u' P' := by
 obtain ⟨⟨qb, qc, qg, qcur, qh, qB, oa, ocap, bx, hM⟩, h2, h3, h4, h5, h6⟩ := h
 refine ⟨⟨qb, qc, ⟨g.os.trans qg.os, g.tape.trans qg.tape, g.output.trans qg.output, Nat.le_trans qg.size g.size, fun k hk hne => (g.block k (Nat.lt_of_lt_of_le hk qg.size) (fun e => ?_)).trans (qg.block k hk hne)⟩, qcur.kept g (fun k e => by have := hr k e; omega), Nat.le_trans qh g.size, fun p hp => ⟨(qB p hp).1, (qB p hp).2.1, (qB p hp).2.2.by g (fun e => ?_)⟩, oa, ocap, bx.by g (fun e => ?_), hM.outs (css.outs_by (lo := b + 1) (hi := r.getD 0 + 1) g (fun k e => ⟨hr k e, by rw [e]; exact Nat.lt_succ_self _⟩)) (.inl (Nat.le_succ _))⟩, h2, h3, ht, ho, Nat.le_trans h6 g.size⟩
 ·have := hr k e.symm
  omega
 ·rw [List.mem_singleton.1 hp] at e
  have := hr _ e
  simp only at this
  omega
 ·have := hr _ e
  omega
theorem PairM.fin {c : Nat} {w wr : World} {b : Nat} {n : Int} {M : List (List Int)} {hi : Nat} {u : Value} {P : List (List Int)} (h : PairM c w wr b n M hi u P) : ∃ a cap, wr.cell? ⟨b, 0, none⟩ = some (.int .i64 n) ∧ wr.cell? ⟨b, 1, none⟩ = some (.slice a M.length cap) ∧ Box 32 wr w.heap.size (.int .i64 0) (.slice none 0 0) ∧
  PairE c w (.returned (.tuple #[.agg #[.int .i64 n, .slice a M.length cap], u])) ((wr.setCell ⟨w.heap.size, 0, none⟩ (.int .i64 n)).setCell ⟨w.heap.size, 1, none⟩ (.slice a M.length cap)) := by
 obtain ⟨h1, h2, h3, h4, h5⟩ := h
 obtain ⟨qb, qc, qg, qcur, qh, qB, oa, ocap, bx, ho⟩ := h1
 have br := (qB _ (List.mem_singleton.2 rfl)).2.2
 refine ⟨oa, ocap, bx.c0, bx.c1, br, n, _, u, M, P, rfl, h2, h3, h4, Drawn.stored qc qg qcur qh ho br n, ?_⟩
 have := gr.ownS_set (i := 1) (u := .slice oa M.length ocap) (gr.ownS_set (i := 0) (u := .int .i64 n) h5.1 br) (br.set0 (.int .i64 n))
 exact this.sub (by omega) (by rw [cf.size_set, cf.size_set]; exact Nat.le_refl _)
theorem ownS_put {lo hi0 hi : Nat} {w w5 : World} {g cap i : Nat} {P : List (List Int)} {u u0 : Value} {L : List Int} {r : Option Nat} (h : OwnS lo hi0 w (.slice (some ⟨g, 0, none⟩) P.length cap) P) (hlt : i < P.length) (hh : hi0 ≤ hi) (c0 : w.cell? ⟨g, i, none⟩ = some u0) (gr : w.grownBy w5 r)
  (hr : ∀ k, r = some k → (hi0 ≤ k ∨ k < lo) ∨ u0.ownBlock = some k) (hu : sl.Own lo hi w5 u L) (ap : ∀ k, u.ownBlock = some k → hi0 ≤ k ∨ u0.ownBlock = some k) :
  OwnS lo hi (w5.setCell ⟨g, i, none⟩ u) (.slice (some ⟨g, 0, none⟩) P.length cap) (P.set i L) := by
 obtain ⟨D, he, hw, hb, hin, hp⟩ := h
 have hl : D.length = P.length := by rw [← he, List.length_map]
 have hiD : i < D.length := by omega
 rw [← hl] at hw hb ⊢
 have e0 : u0 = D[i].1 := by
  have := hw.cellAt i (by omega)
  rw [show (⟨g, i, none⟩ : Addr) = ⟨g, 0 + i, none⟩ by rw [Nat.zero_add]] at c0
  simp [hiD] at this
  simp at c0
  rw [c0] at this
  exact Option.some.inj this
 have hpe := List.pairwise_iff_getElem.1 hp
 have apij : ∀ j (hj : j < D.length), j ≠ i → ∀ k, D[j].1.ownBlock = some k → D[i].1.ownBlock ≠ some k := by
  intro j hj hne k e e'
  rcases Nat.lt_or_gt_of_ne hne with q | q
  ·exact hpe j i hj hiD q k e e'
  ·exact hpe i j hiD hj q k e' e
 have hg0 := hb g rfl
 have hg1 := (hw.lt g rfl).1
 have nrow : ∀ j (hj : j < D.length), ∀ k, D[j].1.ownBlock = some k → k ≠ g := fun j hj k e q => css.own_ne hw (hin D[j] (List.getElem_mem hj)).1 k e (by rw [q]; rfl)
 have hr1 : r ≠ some g := by
  intro e
  rcases hr g e with q | q
  ·omega
  ·rw [e0] at q
   exact nrow i hiD g q rfl
 have hw5 := hw.kept gr (.inr (fun e => hr1 e.symm))
 have st := sl.grown_setCell w5 g i u
 have hug : ∀ k, u.ownBlock = some k → k ≠ g := by
  intro k e q
  rcases ap k e with q' | q'
  ·omega
  ·rw [e0] at q'
   exact nrow i hiD k q' q
 refine ⟨D.set i (u, L), ?_, ?_, fun k e => Nat.lt_of_lt_of_le (hb k e) hh, ?_, ?_⟩
 ·rw [List.map_set, he]
 ·rw [List.length_set, List.map_set]
  exact (hw5.stored i u).1
 ·intro p hp'
  obtain ⟨j, hj, rfl⟩ := List.getElem_of_mem hp'
  rw [List.length_set] at hj
  rw [List.getElem_set]
  split
  ·exact ⟨hu.1.kept st (by
    cases q : u.ownBlock with
    | none => exact .inl rfl
    | some k => exact .inr (fun e => hug k q (Option.some.inj e))), hu.2⟩
  ·rename_i hne
   have hj' := hin D[j] (List.getElem_mem hj)
   refine ⟨(hj'.1.kept gr ?_).kept st ?_, fun k e => Nat.lt_of_lt_of_le (hj'.2 k e) hh⟩
   ·cases q : D[j].1.ownBlock with
    | none => exact .inl rfl
    | some k =>
     refine .inr (fun e => ?_)
     have b1 := (hj'.1.lt k q).1
     have b2 := hj'.2 k q
     rcases hr k e.symm with q' | q'
     ·omega
     ·rw [e0] at q'
      exact apij j hj (fun e => hne e.symm) k q q'
   ·cases q : D[j].1.ownBlock with
    | none => exact .inl rfl
    | some k => exact .inr (fun e => nrow j hj k q (Option.some.inj e))
 ·rw [List.pairwise_iff_getElem]
  intro j k hj hk hjk
  rw [List.length_set] at hj hk
  have apu : ∀ m (hm : m < D.length), m ≠ i → ∀ x, u.ownBlock = some x → D[m].1.ownBlock ≠ some x := by
   intro m hm hne x e e'
   rcases ap x e with q | q
   ·have := (hin D[m] (List.getElem_mem hm)).2 x e'
    omega
   ·rw [e0] at q
    exact apij m hm hne x e' q
  rw [List.getElem_set, List.getElem_set]
  split
  ·rename_i h1
   rw [if_neg (by omega)]
   intro x e
   exact apu k hk (by omega) x e
  ·rename_i h1
   split
   ·rename_i h2
    intro x e e'
    exact apu j hj (by omega) x e' e
   ·exact hpe j k hj hk hjk
theorem frz {lo hi : Nat} {w w1 : World} {g n cap : Nat} {P : List (List Int)} {r : Option Nat} (h : OwnS lo hi w (.slice (some ⟨g, 0, none⟩) n cap) P) (gr : w.grownBy w1 r) (hr : r ≠ some g) (i : Nat) : w1.frozen? ⟨g, i, none⟩ = false := by
 obtain ⟨D, _, ho, _⟩ := h
 have ho := ho.kept gr (.inr (fun e => hr e.symm))
 rcases ho.2 with ⟨h', _⟩ | ⟨g', cap', cur, h', hb, hg, _⟩
 ·simp at h'
 ·simp only [Value.slice.injEq, Option.some.injEq, Addr.mk.injEq, and_true] at h'
  obtain ⟨rfl, _⟩ := h'
  simp [World.frozen?, hg]
theorem tot_set (L : List Int) : ∀ (P : List (List Int)) (i : Nat), tot (P.set i L) ≤ tot P + L.length
 | [], i => by simp [css.tot]
 | K :: P, 0 => by
  unfold css.tot
  simp only [List.set_cons_zero, List.length_cons, List.map_cons, List.sum_cons]
  omega
 | K :: P, i + 1 => by
  have := tot_set L P i
  unfold css.tot at *
  simp only [List.set_cons_succ, List.length_cons, List.map_cons, List.sum_cons]
  omega
theorem tot_more (P : List (List Int)) (L : List Int) : tot (P ++ [L]) = tot P + 1 + L.length := by
 unfold css.tot
 simp only [List.length_append, List.map_append, List.sum_append, List.length_cons, List.length_nil, List.map_cons, List.map_nil, List.sum_cons, List.sum_nil]
 omega
theorem _root_.Go.Proofs.YtcgiphcfjhbonaaGreatDoor.css.OwnS.from_ {lo hi : Nat} {w : World} {v : Value} {LL : List (List Int)} (h : OwnS lo hi w v LL) : ∀ k, v.ownBlock = some k → lo ≤ k := by
 obtain ⟨D, _, ho, _⟩ := h
 exact fun k e => (ho.lt k e).1
theorem ownS_nil (lo hi : Nat) (w : World) : OwnS lo hi w (.slice none 0 0) [] := ⟨[], rfl, ⟨rfl, .inl ⟨rfl, rfl⟩⟩, (fun k e => by cases e), (fun p hp => by cases hp), List.Pairwise.nil⟩
theorem appP {ops : Array Oper} {rest : List Oper} {o : Oper} {a : Act} {Q : Exit → Act → World → Prop} {lo hi : Nat} {wr : World} {va : Value} {L : List Int} {x : Int}
  (hA : sl.Own lo hi wr va L) (hlo : lo ≤ wr.heap.size) (hl : L.length ≤ 1048576) (hgd : o.guard = none) (s y : Operand)
  (ho : o.op = .call { callee := .builtin .append, args := #[s, y], argTypes := #[43, 43] }) (hs : a.eval s = va) (hx : a.eval y = .slice (some ⟨wr.heap.size, 0, none⟩) 1 1)
  (h : ∀ g cap w1, sl.Own lo w1.heap.size w1 (.slice (some ⟨g, 0, none⟩) (L.length + 1) cap) (L ++ [x]) → (wr.alloc (.cells #[.int .i64 x] 3)).grownBy w1 va.ownBlock → (va.ownBlock = some g ∨ wr.heap.size ≤ g) →
   wpList Tryz.prog ops Q rest (a.put o.dst (.slice (some ⟨g, 0, none⟩) (L.length + 1) cap)) w1) :
  wpList Tryz.prog ops Q (o :: rest) a (wr.alloc (.cells #[.int .i64 x] 3)) := by
 obtain ⟨i0, hi', hz0, hz1, hz2⟩ := info_parts sl.info3
 refine wpList_append_lies _ hgd s y 43 ho lo 3 i0 (.int .i64 0) 1 8 Tryz.underlying43 hi' hz0 hz1 hz2 rfl (by decide) va L.length (sl.ints L) hs (hA.1.alloc _) ⟨wr.heap.size, 0, none⟩ 1 1 [.int .i64 x] hx rfl ?_ ?_ (by decide) ?_ ?_ ?_ (wr.heap.size + 1) (World.size_alloc ..) ?_
 ·intro j u hj
  match j, hj with
  | 0, hj =>
   simp only [List.getElem?_cons_zero, Option.some.injEq] at hj
   subst hj
   rw [Addr.add_lit]
   have e : (wr.alloc (.cells #[.int .i64 x] 3)).heap[wr.heap.size]? = some (.cells #[.int .i64 x] 3) := by
    show (wr.heap.push _)[wr.heap.size]? = _
    simp
   simp only [World.cell?, e]
   rfl
  | j + 1, hj => simp at hj
 ·intro u hu
  rw [List.mem_singleton.1 hu]
  rfl
 ·unfold maxLen
  omega
 ·omega
 ·rw [World.size_alloc]
  omega
 ·intro g cap w' h2 h3 h4 h5
  refine h g cap w' ⟨?_, fun k e => by cases e; exact h5⟩ h3 ?_
  ·rw [List.length_append, List.length_singleton, app.ints_append]
   exact h2
  ·rcases h4 with q | q
   ·exact .inl q
   ·exact .inr (by omega)
theorem tot_set2 (P : List (List Int)) (i : Nat) (L : List Int) (h : i < P.length) (hL : L.length = (P.getD i []).length + 1) : tot (P.set i L) ≤ tot P + 1 + (P.getD i []).length := by
 have := tot_set L P i
 omega
set_option maxRecDepth 100000 in
set_option maxHeartbeats 8000000 in
theorem pair (c : Nat) (w : World) (hc : Cur w c) :
  Calls Tryz.prog 34 #[.pointer (some ⟨c, 0, none⟩)] w fun e w' => PairE c w e w' := by
 have hlt := hc.lt
 have C0 := hide (false_ c _ (hc.kept (World.grownBy_alloc w (.cells #[.int .i64 0, .slice none 0 0] 32) none) (fun r e => by cases e)))
 clear hc
 go_enter Tryz.func34, Tryz.ntmps34
 go_wp2_with fail
 refine (unhide C0).mono ?_; rintro e w1 ⟨n, v, M, rfl, hn5, hcm, hd⟩
 obtain ⟨va, vc, rfl⟩ := hd.1.len
 have M0 := hide (midD_of (n := n) hlt hd)
 have SL := hide ((hd.1.kept (World.grownBy_alloc w1 (.cells #[.int .i64 n, .slice va M.length vc] 32) none)).sls)
 have SZ : Hid ((w1.alloc (.cells #[.int .i64 n, .slice va M.length vc] 32)).heap.size = w1.heap.size + 1) := World.size_alloc _ _
 obtain ⟨W1, hW1⟩ : ∃ W1, W1 = w1.alloc (.cells #[.int .i64 n, .slice va M.length vc] 32) := ⟨_, rfl⟩
 rw [← hW1] at M0 SL SZ
 have CR := xw.specRefute (.slice va M.length vc) n M W1 (tot48 hcm) (unhide SL)
 have htP := xp.wlk_tot n M
 unfold xw.WalkE at CR
 generalize (if cnfB n M then xw.wlk n M 700 [] else ([], false)) = R at *
 obtain ⟨P, b⟩ := R
 have htP' : tot P ≤ 34300 := htP
 have CR' := hide CR
 clear CR htP C0 hd
 go_wp2_with fail
 rw [← hW1]
 refine (unhide CR').mono ?_; rintro e w2 ⟨r, rfl, o2, g2⟩
 clear hW1 CR'
 generalize w1.heap.size = f at *
 have hP : P.length ≤ 34300 := Nat.le_trans (css.tot_len P) htP'
 have P2 : Hid (PairM c w w2 f n M f r P) := ⟨(unhide M0).turn (some_of g2) ((unhide M0).cur.kept g2 (fun r e => by cases e)), hn5, hcm, Nat.le_trans htP' (by decide), o2.sub (Nat.le_of_eq (unhide SZ).symm) (Nat.le_refl _), Nat.le_trans (Nat.le_of_eq (unhide SZ).symm) g2.size⟩
 obtain ⟨pa, pc, rfl⟩ := o2.len
 clear o2 g2 M0 SL SZ hn5 hcm
 by_cases h0 : P.length = 0
 ·obtain rfl : P = [] := List.length_eq_zero_iff.1 h0
  obtain ⟨a, cap, y0, y1, br, fin⟩ := (unhide P2).fin
  have r0 := br.c0
  have r1 := br.c1
  have f0 := br.f 0
  have f1 := br.f 1
  have FN := hide fin
  have BR := hide br
  clear fin br P2
  go_wp2_with fail
  (try simp only [Exit.inBlock, Exit.then])
  exact bodyPost_ret (cf.ret_box2 rfl rfl (((unhide BR).set0 (.int .i64 n)).set1 (.slice a M.length cap))) rfl (unhide FN)
 ·have hI : ¬ ((P.length : Nat) : Int) = 0 := by omega
  have CB := hide (draw.below c (P.length : Int) w2 (unhide P2).1.cur (by omega) (by omega))
  go_wp2_with fail
  refine (unhide CB).mono ?_; rintro e w3 ⟨x, rfl, hx0, hx1, hc3, g3⟩
  have P3 := hide ((unhide P2).turn g3 hc3)
  clear P2 g3 hc3 CB
  obtain ⟨i, rfl⟩ := Int.eq_ofNat_of_zero_le hx0
  have CB := hide (draw.below c 8 w3 (unhide P3).1.cur (by decide) (by decide))
  go_wp2_with fail
  refine (unhide CB).mono ?_; rintro e w4 ⟨y, rfl, hy0, hy1, hc4, g4⟩
  have P4 := hide ((unhide P3).turn g4 hc4)
  clear P3 g4 hc4 CB
  have hy : y = 0 ∨ y = 1 ∨ y = 2 ∨ y = 3 ∨ (¬ y = 0 ∧ ¬ y = 1 ∧ ¬ y = 2 ∧ ¬ y = 3) := by omega
  rcases hy with rfl | rfl | rfl | rfl | ⟨e0, e1, e2, e3⟩
  ·obtain ⟨K, L, B, rfl, rfl⟩ : ∃ K L B, P = K ++ L :: B ∧ i = K.length := ⟨P.take i, P[i]'(by omega), P.drop (i + 1), by rw [← List.drop_eq_getElem_cons, List.take_append_drop], by rw [List.length_take]; omega⟩
   obtain ⟨g, cap, E, F, D, el, gn⟩ := xt.gone_of (unhide P4).2.2.2.2.1
   have hlen : K.length + 1 + B.length ≤ 34300 := by rw [List.length_append, List.length_cons] at hP; omega
   have hcp := gn.cp
   have hpl : (K ++ L :: B).length = K.length + 1 + B.length := by rw [List.length_append, List.length_cons]; omega
   rw [hpl] at el P4 ⊢
   simp only [Value.slice.injEq] at el
   obtain ⟨rfl, _, rfl⟩ := el
   obtain ⟨kk, hkk⟩ : ∃ kk, kk = K.length := ⟨_, rfl⟩
   obtain ⟨bb, hbb⟩ : ∃ bb, bb = B.length := ⟨_, rfl⟩
   obtain ⟨NN, hNN⟩ : ∃ NN, NN = kk + 1 + bb := ⟨_, rfl⟩
   obtain ⟨k1, hk1⟩ : ∃ k1, k1 = kk + 1 := ⟨_, rfl⟩
   rw [← hkk, ← hbb] at hcp hlen
   rw [← hkk, ← hbb, ← hNN] at P4 ⊢
   have q1 : (0 : Int) ≤ (kk : Int) := by omega
   have q2 : (kk : Int) ≤ (pc : Int) := by omega
   have q3 : (k1 : Int) ≤ (NN : Int) := by omega
   have q4 : (NN : Int) ≤ (pc : Int) := by omega
   have q6 : NN - k1 = bb := by omega
   have q7 : (0 : Int) ≤ (k1 : Int) := by omega
   have q8 : IntKind.i64.wrap ((kk : Int) + 1) = (k1 : Int) := by rw [xw.wrap_in (by omega) (by omega)]; omega
   have HE := hide (And.intro hkk (And.intro hbb (And.intro hNN hk1)))
   have GN := hide gn
   have L0 := hide (xt.Lss.nil w4)
   have HLE := hide hlen
   have q5 : pc = k1 ∨ ¬ pc = k1 := by omega
   have BZ : Hid (pc = k1 → bb = 0) := fun e => by omega
   clear gn hkk hbb hNN hk1 hlen hpl hcp hx0 hx1 hP htP' h0 hI
   have A1 : Hid (∀ j p, E[j]? = some p → ((w4.alloc (.cells #[] 43)).drew).cell? ((⟨g, 0, none⟩ : Addr).add j) = some p.1) := by
    intro j p hj
    rw [Addr.add_lit, Nat.zero_add]
    exact (unhide L0).2.cell ((unhide GN).e1 j p hj) (fun e => by cases e)
   have A2 : Hid (∀ w1, w4.grownBy w1 none → ∀ j p, F[j]? = some p → w1.cell? ((⟨g, k1, none⟩ : Addr).add j) = some p.1) := by
    intro w1 gw j p hj
    rw [Addr.add_lit]
    have := (unhide GN).e2 j p hj
    rw [← (unhide HE).1, ← (unhide HE).2.2.2] at this
    exact gw.cell this (fun e => by cases e)
   have A3 : Hid (pc = k1 → ∀ w1 : World, ∀ j p, F[j]? = some p → w1.cell? ((⟨g, 0, none⟩ : Addr).add j) = some p.1) := by
    intro e w1 j p hj
    have l := (List.getElem?_eq_some_iff.1 hj).1
    have := unhide BZ e
    have := (unhide HE).2.1.trans (unhide GN).l2.symm
    omega
   have l1 : Hid (kk = E.length) := (unhide HE).1.trans (unhide GN).l1.symm
   have l2 : Hid (bb = F.length) := (unhide HE).2.1.trans (unhide GN).l2.symm
   have l3 : Hid (([] : List (Value × List Int)).length + E.length ≤ 1048576) := by show 0 + _ ≤ _; rw [← unhide l1]; have := unhide HLE; omega
   have l4 : Hid (([] ++ E).length + F.length ≤ 1048576) := by show _ ≤ _; rw [List.nil_append, ← unhide l1, ← unhide l2]; have := unhide HLE; omega
   have l5 : Hid (kk = ([] ++ E).length) := by show _ = _; rw [List.nil_append, ← unhide l1]
   rcases q5 with q5 | q5
   ·have IF : ∀ a b : Option Addr, (if pc = k1 then a else b) = a := fun a b => if_pos q5
    have A3' := hide (unhide A3 q5)
    clear q5
    go_wp2_with fail
    go_region_law (first
     | (refine xt.stepV (ad := ⟨g, 0, none⟩) (m := kk) (n := 0) (F := E) (unhide L0) (unhide A1) (unhide GN).o1 (by rfl) (unhide l1) (unhide l3) (by rfl) (.tmp 28) (.tmp 31) (by rfl) (by rfl) (by rfl) ?_; intro ad5 cap5 w5 h5; rw [Nat.zero_add] at h5; have L5 := hide h5; have A5 := hide (unhide A3' w5); clear h5)
     | (refine xt.stepV (ad := ⟨g, 0, none⟩) (m := bb) (n := kk) (F := F) (unhide L5) (unhide A5) (unhide GN).o2 (unhide l5) (unhide l2) (unhide l4) (by rfl) (.tmp 32) (.tmp 36) (by rfl) (by rfl) (by rfl) ?_; intro ad6 cap6 w6 h6; have L6 := hide h6; clear h6))
    all_goals
     have PZ : Hid (PairM c w w6 f n M f (.slice ad6 (kk + bb) cap6) (K ++ B)) := by
      have l6 := unhide L6
      rw [List.nil_append] at l6
      have o6 := xt.lss_own l6 (unhide GN).sub (unhide GN).inn (unhide GN).ap (unhide P4).2.2.2.2.2
      rw [(unhide GN).eq] at o6
      exact (unhide P4).new l6.2 (fun k e => by cases e) (Nat.le_trans (xt.tot_less K B L) (unhide P4).2.2.2.1) o6
     clear P4 GN L0 A1 A2 A3 A3' l1 l2 l3 l4 l5 L5 A5 L6 HE HLE BZ IF q1 q2 q3 q4 q6 q7 q8
     obtain ⟨a, cap, y0, y1, br, fin⟩ := (unhide PZ).fin
     have r0 := br.c0
     have r1 := br.c1
     have f0 := br.f 0
     have f1 := br.f 1
     have FN := hide fin
     have BR := hide br
     clear fin br PZ
     go_wp2_with fail
     (try simp only [Exit.inBlock, Exit.then])
     exact bodyPost_ret (cf.ret_box2 rfl rfl (((unhide BR).set0 (.int .i64 n)).set1 (.slice a M.length cap))) rfl (unhide FN)
   ·clear A3 BZ
    go_wp2_with fail
    go_region_law (first
     | (refine xt.stepV (ad := ⟨g, 0, none⟩) (m := kk) (n := 0) (F := E) (unhide L0) (unhide A1) (unhide GN).o1 (by rfl) (unhide l1) (unhide l3) (by rfl) (.tmp 28) (.tmp 31) (by rfl) (by rfl) (by rfl) ?_; intro ad5 cap5 w5 h5; rw [Nat.zero_add] at h5; have L5 := hide h5; have A5 := hide (unhide A2 w5 h5.2); clear h5)
     | (refine xt.stepV (ad := ⟨g, k1, none⟩) (m := bb) (n := kk) (F := F) (unhide L5) (unhide A5) (unhide GN).o2 (unhide l5) (unhide l2) (unhide l4) (by rfl) (.tmp 32) (.tmp 36) (by rfl) (by rfl) (by rfl) ?_; intro ad6 cap6 w6 h6; have L6 := hide h6; clear h6))
    all_goals
     have PZ : Hid (PairM c w w6 f n M f (.slice ad6 (kk + bb) cap6) (K ++ B)) := by
      have l6 := unhide L6
      rw [List.nil_append] at l6
      have o6 := xt.lss_own l6 (unhide GN).sub (unhide GN).inn (unhide GN).ap (unhide P4).2.2.2.2.2
      rw [(unhide GN).eq] at o6
      exact (unhide P4).new l6.2 (fun k e => by cases e) (Nat.le_trans (xt.tot_less K B L) (unhide P4).2.2.2.1) o6
     clear P4 GN L0 A1 A2 l1 l2 l3 l4 l5 L5 A5 L6 HE HLE q1 q2 q3 q4 q5 q6 q7 q8
     obtain ⟨a, cap, y0, y1, br, fin⟩ := (unhide PZ).fin
     have r0 := br.c0
     have r1 := br.c1
     have f0 := br.f 0
     have f1 := br.f 1
     have FN := hide fin
     have BR := hide br
     clear fin br PZ
     go_wp2_with fail
     (try simp only [Exit.inBlock, Exit.then])
     exact bodyPost_ret (cf.ret_box2 rfl rfl (((unhide BR).set0 (.int .i64 n)).set1 (.slice a M.length cap))) rfl (unhide FN)
  ·obtain ⟨g, cap, u0, e, hgl, cy, hu0⟩ := app.own_at (unhide P4).2.2.2.2.1 i (by omega)
   simp only [Value.slice.injEq] at e
   obtain ⟨rfl, _, rfl⟩ := e
   have CC := hide (dcls.clause c 5 2 w4 (unhide P4).1.cur (by decide) (by decide) (by decide) (by decide))
   have hgf := (unhide P4).2.2.2.2.1.from_ g rfl
   have hcf : c < f := Nat.lt_of_lt_of_le (unhide P4).1.2.1 (unhide P4).1.1
   have ncg : some c ≠ some g := fun e => by injection e; omega
   have CY := hide cy
   clear cy hu0
   go_wp2_with fail
   refine (unhide CC).mono ?_; rintro e w5 ⟨v5, L5, rfl, hL5, mo, gc, cc⟩
   have cy5 : w5.cell? ⟨g, i, none⟩ = some u0 := gc.cell (unhide CY) (fun e => ncg e.symm)
   have fz := frz (unhide P4).2.2.2.2.1 gc ncg i
   have PZ : Hid (PairM c w (w5.setCell ⟨g, i, none⟩ v5) f n M f (.slice (some ⟨g, 0, none⟩) P.length pc) (P.set i L5)) :=
    ((unhide P4).turn gc cc).new (sl.grown_setCell w5 g i v5) (fun k e => by cases e; omega) (Nat.le_trans (tot_set L5 P i) (by omega))
     (ownS_put (unhide P4).2.2.2.2.1 (by omega) (by rw [cf.size_set]; exact gc.size) (unhide CY) gc (fun k e => by cases e; exact .inl (.inr (by omega))) ⟨css.own_mono mo (unhide P4).2.2.2.2.2, fun k e => by rw [cf.size_set]; exact (mo.lt k e).2⟩ (fun k e => .inl (mo.lt k e).1))
   obtain ⟨va5, vc5, ev, _⟩ := sl.Sl.of_own mo
   subst ev
   clear mo gc cc CC CY P4 ncg
   obtain ⟨a, cap, y0, y1, br, fin⟩ := (unhide PZ).fin
   have r0 := br.c0
   have r1 := br.c1
   have f0 := br.f 0
   have f1 := br.f 1
   have FN := hide fin
   have BR := hide br
   clear fin br PZ
   go_wp2_with fail
   (try simp only [Exit.inBlock, Exit.then])
   exact bodyPost_ret (cf.ret_box2 rfl rfl (((unhide BR).set0 (.int .i64 n)).set1 (.slice a M.length cap))) rfl (unhide FN)
  ·obtain ⟨g, cap, u0, e, hgl, cy, hu0⟩ := app.own_at (unhide P4).2.2.2.2.1 i (by omega)
   simp only [Value.slice.injEq] at e
   obtain ⟨rfl, _, rfl⟩ := e
   have hgf := (unhide P4).2.2.2.2.1.from_ g rfl
   have hL := Nat.le_trans (css.tot_in P i) htP'
   have TS := hide (tot_set2 P i (P.getD i [] ++ [1]) (by omega) (by rw [List.length_append]; rfl))
   obtain ⟨ua, uc, eu, _⟩ := hu0.sl
   have HU := hide hu0
   have HLL := hide hL
   have hne : u0.ownBlock ≠ some g := fun e => by
    obtain ⟨D, _, ho, _⟩ := (unhide P4).2.2.2.2.1
    exact css.own_ne ho hu0.1 g e rfl
   have HN := hide hne
   have gB := World.grownBy_alloc w4 (.cells #[.int .i64 1] 3) none
   generalize P.getD i [] = L at *
   subst eu
   have CY := hide cy
   have GB := hide gB
   clear hu0 hL hne gB
   go_wp2_with (at_builtin; refine appP (x := 1) (unhide HU) (unhide P4).2.2.2.2.2 (Nat.le_trans (unhide HLL) (by decide)) rfl _ _ rfl rfl rfl ?_)
   intro g6 cap6 w6 o6 g6' ap6
   have gw := grown_trans' (some_of (unhide GB)) g6'
   have cy6 := gw.cell (unhide CY) (fun e => unhide HN e.symm)
   have fz := frz (unhide P4).2.2.2.2.1 gw (unhide HN) i
   have P6 : PairM c w w6 f n M f (.slice none 0 0) [] := (unhide P4).new gw (fun k e => ((unhide HU).1.lt k e).1) (by decide) (ownS_nil _ _ _)
   have PZ : Hid (PairM c w (w6.setCell ⟨g, i, none⟩ (.slice (some ⟨g6, 0, none⟩) (L.length + 1) cap6)) f n M f (.slice (some ⟨g, 0, none⟩) P.length pc) (P.set i (L ++ [1]))) :=
    P6.new (sl.grown_setCell w6 g i _) (fun k e => by cases e; omega) (by have := unhide TS; have := unhide HLL; omega)
     (ownS_put (unhide P4).2.2.2.2.1 (by omega) (by rw [cf.size_set]; exact gw.size) (unhide CY) gw (fun k e => .inr e) ⟨o6.1, fun k e => by rw [cf.size_set]; exact o6.2 k e⟩ (fun k e => by cases e; exact ap6.symm))
   clear o6 g6' gw P6 P4 HU HLL HN GB CY TS
   obtain ⟨a, cap, y0, y1, br, fin⟩ := (unhide PZ).fin
   have r0 := br.c0
   have r1 := br.c1
   have f0 := br.f 0
   have f1 := br.f 1
   have FN := hide fin
   have BR := hide br
   clear fin br PZ
   go_wp2_with fail
   (try simp only [Exit.inBlock, Exit.then])
   exact bodyPost_ret (cf.ret_box2 rfl rfl (((unhide BR).set0 (.int .i64 n)).set1 (.slice a M.length cap))) rfl (unhide FN)
  ·have gB := World.grownBy_alloc w4 (.cells #[.int .i64 1] 3) none
   have Y5 : Hid (sl.Own w4.heap.size (w4.alloc (.cells #[.int .i64 1] 3)).heap.size (w4.alloc (.cells #[.int .i64 1] 3)) (.slice (some ⟨w4.heap.size, 0, none⟩) 1 1) [1]) := ⟨World.ownsRow_lit w4 #[.int .i64 1] 1 (Nat.le_refl _) (by decide) rfl, fun k e => by cases e; rw [World.size_alloc]; exact Nat.lt_succ_self _⟩
   have P5 := hide ((unhide P4).turn (some_of gB) ((unhide P4).1.cur.kept gB (fun r e => by cases e)))
   have O5 := hide ((unhide P4).2.2.2.2.1.kept gB)
   have S5 := hide gB.size
   have L5 : Hid (f + 1 ≤ w4.heap.size) := (unhide P4).2.2.2.2.2
   clear gB P4
   go_wp2_with (at_builtin; refine gr.appendR (unhide O5) (unhide Y5) (unhide L5) (unhide S5) (Nat.le_trans hP (by decide)) rfl _ _ rfl rfl (by rw [World.size_alloc]; rfl) ?_)
   intro g6 cap6 w6 o6 g6'
   have PZ : Hid (PairM c w w6 f n M f (.slice (some ⟨g6, 0, none⟩) (P.length + 1) cap6) (P ++ [[1]])) := (unhide P5).new (grown_trans' (some_of (World.grownBy_alloc _ _ none)) g6') (fun k e => (unhide O5).from_ k e) (Nat.le_trans (Nat.le_of_eq (tot_more P [1])) (by simp only [List.length_cons, List.length_nil]; omega)) o6
   clear o6 g6' O5 Y5 L5 S5 P5
   obtain ⟨a, cap, y0, y1, br, fin⟩ := (unhide PZ).fin
   have r0 := br.c0
   have r1 := br.c1
   have f0 := br.f 0
   have f1 := br.f 1
   have FN := hide fin
   have BR := hide br
   clear fin br PZ
   go_wp2_with fail
   (try simp only [Exit.inBlock, Exit.then])
   exact bodyPost_ret (cf.ret_box2 rfl rfl (((unhide BR).set0 (.int .i64 n)).set1 (.slice a M.length cap))) rfl (unhide FN)
  ·have PZ := P4
   clear P4
   obtain ⟨a, cap, y0, y1, br, fin⟩ := (unhide PZ).fin
   have r0 := br.c0
   have r1 := br.c1
   have f0 := br.f 0
   have f1 := br.f 1
   have FN := hide fin
   have BR := hide br
   clear fin br PZ
   go_wp2_with fail
   (try simp only [Exit.inBlock, Exit.then])
   exact bodyPost_ret (cf.ret_box2 rfl rfl (((unhide BR).set0 (.int .i64 n)).set1 (.slice a M.length cap))) rfl (unhide FN)
end Go.Proofs.YtcgiphcfjhbonaaGreatDoor.dr
namespace Go.Proofs.YtcgiphcfjhbonaaGreatDoor.pk
open Go.ChangeShapes Go.WideShapes Go.ChangeAt Go.RowKit
open sl (Sl ints hide unhide grown_refl grown_trans grown_trans' of_below below_of grown_drewN)
open draw (Cur Bs I64 newCur grown_new)
set_option linter.unusedVariables false

theorem pickS (c b : Nat) (D : List ByteArray) (w : World) (hc : Cur w c) (hbc : c < b) (hD : 0 < D.length) (hD1 : D.length ≤ 1048576) (h : ∀ j, j < D.length → w.cell? ⟨b, j, none⟩ = some (.string (D.getD j ByteArray.empty))) :
  Calls Tryz.prog 50 #[.pointer (some ⟨c, 0, none⟩), .slice (some ⟨b, 0, none⟩) D.length D.length] w fun e w' => ∃ s, e = .returned (.string s) ∧ s ∈ D ∧ Cur w' c ∧ w.grownBy w' (some c) := by
 have HC := hide hc
 have HB := hide h
 clear hc h
 go_enter Tryz.func50, Tryz.ntmps50
 go_wp2_with fail
 refine (draw.below c _ _ (unhide HC) (by omega) (by omega)).mono ?_; rintro e w1 ⟨x, rfl, x0, x1, hc1, g1⟩
 obtain ⟨j, rfl⟩ := Int.eq_ofNat_of_zero_le x0
 have hj : j < D.length := by omega
 have c1 : w1.cell? ⟨b, j, none⟩ = some (.string (D.getD j ByteArray.empty)) := g1.cell (unhide HB j hj) (fun e => by injection e with e; exact absurd e (by show b ≠ c; omega))
 have hm : D.getD j ByteArray.empty ∈ D := by rw [show D.getD j ByteArray.empty = D[j] by simp [hj]]; exact List.getElem_mem hj
 generalize D.getD j ByteArray.empty = y at *
 have HM := hide hm
 have HC1 := hide hc1
 have G1 := hide g1
 clear hc1 g1 hm HB HC
 go_wp2_with fail
 go_ret
 exact ⟨_, rfl, unhide HM, unhide HC1, unhide G1⟩

theorem laid_cell (w : World) (D : List ByteArray) (t : TypeId) : ∀ j, j < D.length → (w.alloc (.cells (D.map Value.string).toArray t)).cell? ⟨w.heap.size, j, none⟩ = some (.string (D.getD j ByteArray.empty)) := by
 intro j hj
 have h : (w.alloc (.cells (D.map Value.string).toArray t)).heap[w.heap.size]? = some (.cells (D.map Value.string).toArray t) := heap_alloc_new w _
 unfold World.cell?
 rw [h]
 simp [hj]
end Go.Proofs.YtcgiphcfjhbonaaGreatDoor.pk
namespace Go.Proofs.YtcgiphcfjhbonaaGreatDoor.dr
open Go.ChangeShapes Go.WideShapes Go.ChangeAt Go.RowKit
open draw (Bs Cur newCur grown_new)
open css (Sls OwnS tot)
open pk (pickS laid_cell)
open sl (hide unhide grown_refl grown_trans grown_trans' grown_drewN below_of of_below)
set_option linter.unusedVariables false
theorem prf_size (R : List (List Int)) : (⟨(pt.prf R).toArray⟩ : ByteArray).size ≤ 400000 := by
 show (pt.prf R).toArray.size ≤ _
 rw [List.size_toArray]
 unfold pt.prf
 split
 ·rename_i h
  rw [Bool.and_eq_true, decide_eq_true_iff] at h
  have := cx.lines_len R
  omega
 ·exact Nat.zero_le _
set_option maxHeartbeats 1600000 in
theorem drawProofText (a : Option Addr) (n cap : Nat) (w : World) (hn : n ≤ 1048576) (hB : Bs w a n) :
  Calls Tryz.prog 9 #[.slice a n cap] w fun e w' => ∃ (u : Value) (P : List (List Int)), e = .returned u ∧ tot P ≤ 1048576 ∧ OwnS w.heap.size w'.heap.size w' u P ∧ w.grownBy w' none := by
 have NC := hide (newCur a n cap w hn hB)
 clear hB
 go_enter Tryz.func9, Tryz.ntmps9
 go_wp2_with fail
 refine (unhide NC).mono ?_; rintro e w1 ⟨rfl, hc1, g1⟩
 have C1 := hide hc1
 have G1 := hide g1
 have S1 := hide g1.size
 clear hc1 g1 NC
 generalize hcc : w.heap.size = c at C1
 have HCC := hide hcc
 clear hcc
 go_wp2_with fail
 refine (pair _ _ (unhide C1)).mono ?_; rintro e w2 ⟨k, v, u, M, P, rfl, hk, hcm, htP, ⟨od, gd, cd⟩, oP⟩
 obtain ⟨va, vc, rfl⟩ := od.len
 obtain ⟨pa, pc, rfl⟩ := oP.len
 have ga := World.grownBy_alloc w2 (.cells #[.int .i64 k, .slice va M.length vc] 32) none
 have OP := hide (oP.kept ga)
 have CD := hide (cd.kept ga (fun r e => by cases e))
 have GD := hide (grown_trans' gd (grown_trans (r := some c) (grown_refl _) ga))
 have hlc := hide (unhide C1).lt
 clear hk hcm od gd cd ga oP C1
 obtain ⟨W2, hW2⟩ : ∃ W2, W2 = w2.alloc (.cells #[.int .i64 k, .slice va M.length vc] 32) := ⟨_, rfl⟩
 rw [← hW2] at OP CD GD
 go_upto_region 3 with fail
 rw [← hW2]
 have SZ : Hid (w2.heap.size ≤ W2.heap.size) := by rw [hW2, World.size_alloc]; exact Nat.le_succ _
 clear hW2
 go_wp2_with fail
 refine (draw.once c 10 W2 (unhide CD) (by decide) (by decide)).mono ?_; rintro e w3 ⟨b, rfl, hc3, g3⟩
 have G3 := hide (grown_trans' (unhide GD) g3)
 have O3 := hide ((dcn.ownS_turn (unhide OP) (unhide hlc) g3).sub (Nat.le_refl _) (Nat.le_trans (unhide SZ) g3.size))
 clear g3 hc3 GD OP CD
 have GW := hide (show w.grownBy w3 none from grown_new (unhide G1) (unhide G3) (by rw [unhide HCC]; exact Nat.le_refl _))
 cases b
 ·go_wp2_with fail
  go_ret
  exact ⟨_, P, rfl, Nat.le_trans htP (by decide), (unhide O3).sub (unhide S1) (Nat.le_refl _), unhide GW⟩
 ·have gB := World.grownBy_alloc w3 (.cells #[.int .i64 99] 3) none
  have Y5 : Hid (sl.Own w3.heap.size (w3.alloc (.cells #[.int .i64 99] 3)).heap.size (w3.alloc (.cells #[.int .i64 99] 3)) (.slice (some ⟨w3.heap.size, 0, none⟩) 1 1) [99]) := ⟨World.ownsRow_lit w3 #[.int .i64 99] 1 (Nat.le_refl _) (by decide) rfl, fun k e => by cases e; rw [World.size_alloc]; exact Nat.lt_succ_self _⟩
  have O5 := hide ((unhide O3).kept gB)
  have S5 := hide gB.size
  have hP : P.length ≤ 100000 := Nat.le_trans (css.tot_len P) htP
  have L5 : Hid (w1.heap.size ≤ w3.heap.size) := (unhide G3).size
  have FR : Hid (∀ k, (Value.slice pa P.length pc).ownBlock = some k → w1.heap.size ≤ k) := (unhide O3).from_
  clear gB
  go_wp2_with (at_builtin; refine gr.appendR (unhide O5) (unhide Y5) (unhide L5) (unhide S5) (Nat.le_trans hP (by decide)) rfl _ _ rfl rfl (by rw [World.size_alloc]; rfl) ?_)
  intro g6 cap6 w6 o6 g6'
  have gz : w.grownBy w6 none := by
   have ga := grown_trans (r := none) (unhide GW) (World.grownBy_alloc w3 (.cells #[.int .i64 99] 3) none)
   have gb := World.grownBy_alloc (w3.alloc (.cells #[.int .i64 99] 3)) (.cells #[.slice (some ⟨w3.heap.size, 0, none⟩) 1 1] 43) none
   have gc := grown_trans (r := none) ga gb
   exact ⟨g6'.os.trans gc.os, g6'.tape.trans gc.tape, g6'.output.trans gc.output, Nat.le_trans gc.size g6'.size, fun k hk _ => (g6'.block k (Nat.lt_of_lt_of_le hk gc.size) (fun e => by have := unhide FR k e.symm; have := unhide S1; omega)).trans (gc.block k hk (fun e => by cases e))⟩
  have R6 : Hid (OwnS w.heap.size w6.heap.size w6 (.slice (some ⟨g6, 0, none⟩) (P.length + 1) cap6) (P ++ [[99]]) ∧ w.grownBy w6 none) := ⟨o6.sub (unhide S1) (Nat.le_refl _), gz⟩
  clear o6 g6' gz O5 Y5 L5 S5 FR O3 GW
  go_wp2_with fail
  go_ret
  exact ⟨_, P ++ [[99]], rfl, by rw [tot_more]; simp only [List.length_cons, List.length_nil]; omega, unhide R6⟩
def listP : List ByteArray := [⟨#[32]⟩, ⟨#[48]⟩, ⟨#[10]⟩, ⟨#[120]⟩]
theorem listP_size : ∀ s ∈ listP, s.size ≤ 20 := by
 intro s hs
 simp only [listP, List.mem_cons, List.not_mem_nil, or_false] at hs
 rcases hs with rfl | rfl | rfl | rfl <;> decide
theorem pickP (c : Nat) (w : World) (hc : Cur w c) :
  Calls Tryz.prog 50 #[.pointer (some ⟨c, 0, none⟩), .slice (some ⟨w.heap.size, 0, none⟩) 4 4] (w.alloc (.cells #[.string ⟨#[32]⟩, .string ⟨#[48]⟩, .string ⟨#[10]⟩, .string ⟨#[120]⟩] 9)).drew fun e w' => ∃ s, e = .returned (.string s) ∧ s.size ≤ 20 ∧ w.grownBy w' (some c) := by
 have g0 : w.grownBy (w.alloc (.cells #[.string ⟨#[32]⟩, .string ⟨#[48]⟩, .string ⟨#[10]⟩, .string ⟨#[120]⟩] 9)).drew none := grown_trans (World.grownBy_alloc w _ none) (grown_drewN _ 1)
 have g1 : w.grownBy (w.alloc (.cells #[.string ⟨#[32]⟩, .string ⟨#[48]⟩, .string ⟨#[10]⟩, .string ⟨#[120]⟩] 9)).drew (some c) := grown_trans (World.grownBy_alloc w _ none) (grown_drewN _ 1)
 refine (pickS c w.heap.size listP _ (hc.kept g0 (fun r e => by cases e)) hc.lt (by decide) (by decide) (laid_cell w listP 9)).mono ?_
 rintro e w1 ⟨s, rfl, hs, _, g⟩
 exact ⟨s, rfl, listP_size s hs, grown_trans' g1 g⟩
theorem catP_size (a b c : ByteArray) (i j : Nat) (h : a.size ≤ 400000) (hb : b.size ≤ 20) : (a.extract 0 i ++ b ++ a.extract j c.size).size ≤ 1048576 := by
 rw [ByteArray.size_append, ByteArray.size_append, ByteArray.size_extract, ByteArray.size_extract]
 omega
set_option maxHeartbeats 1600000 in
theorem drawReadProof (a : Option Addr) (n cap : Nat) (w : World) (hn : n ≤ 1048576) (hB : Bs w a n) :
  Calls Tryz.prog 14 #[.slice a n cap] w fun e w' => ∃ s : ByteArray, e = .returned (.string s) ∧ s.size ≤ 1048576 ∧ w.grownBy w' none := by
 have NC := hide (newCur a n cap w hn hB)
 clear hB
 go_enter Tryz.func14, Tryz.ntmps14
 go_wp2_with fail
 refine (unhide NC).mono ?_; rintro e w1 ⟨rfl, hc1, g1⟩
 have C1 := hide hc1
 have G1 := hide g1
 clear hc1 g1 NC
 generalize hcc : w.heap.size = c at C1
 have HCC := hide hcc
 clear hcc
 go_wp2_with fail
 refine (pair _ _ (unhide C1)).mono ?_; rintro e w2 ⟨k, v, u, M, P, rfl, hk, hcm, htP, ⟨od, gd, cd⟩, oP⟩
 obtain ⟨va, vc, rfl⟩ := od.len
 obtain ⟨pa, pc, rfl⟩ := oP.len
 have ga := World.grownBy_alloc w2 (.cells #[.int .i64 k, .slice va M.length vc] 32) none
 have CT := hide (pt.specProofText (.slice pa P.length pc) P _ (Nat.le_trans htP (by decide)) (oP.kept ga).sls)
 have CD := hide (cd.kept ga (fun r e => by cases e))
 have GD := hide (grown_trans' gd (grown_trans (r := some c) (grown_refl _) ga))
 clear hk hcm od gd cd ga oP C1
 obtain ⟨W2, hW2⟩ : ∃ W2, W2 = w2.alloc (.cells #[.int .i64 k, .slice va M.length vc] 32) := ⟨_, rfl⟩
 rw [← hW2] at CT CD GD
 unfold dec.str at CT
 have hs := prf_size P
 generalize (⟨(pt.prf P).toArray⟩ : ByteArray) = s at *
 go_upto_region 3 with fail
 rw [← hW2]
 clear hW2
 go_wp2_with fail
 refine (unhide CT).mono ?_; rintro e w3 ⟨rfl, g3⟩
 have C2 := hide ((unhide CD).kept g3 (fun r e => by cases e))
 have G2 := hide (grown_trans' (unhide GD) (grown_trans (r := some c) (grown_refl _) g3))
 clear CT CD GD g3
 go_wp2_with fail
 refine (draw.below c _ _ (unhide C2) (by omega) (by omega)).mono ?_; rintro e w4 ⟨x, rfl, x0, x1, hc4, g4⟩
 obtain ⟨i, rfl⟩ := Int.eq_ofNat_of_zero_le x0
 have hi : i ≤ s.size := by omega
 have hi' : (i : Int) ≤ (s.size : Int) := by omega
 have G3 := hide (grown_trans' (unhide G2) g4)
 have HC3 := hide hc4
 clear hc4 g4 G2 C2 x0 x1
 go_wp2_with fail
 refine (draw.below c _ _ (unhide HC3) (by decide) (by decide)).mono ?_; rintro e w5 ⟨y, rfl, y0, y1, hc5, g5⟩
 have G4 := hide (grown_trans' (unhide G3) g5)
 have HC4 := hide hc5
 have EN : Hid (∀ w6, w1.grownBy w6 (some c) → w.grownBy w6 none) := fun w6 g => grown_new (unhide G1) g (by rw [unhide HCC]; exact Nat.le_refl _)
 clear hc5 g5 G3 HC3
 by_cases e0 : y = 0
 ·subst e0
  go_wp2_with fail
  go_ret
  exact ⟨_, rfl, by rw [ByteArray.size_extract]; omega, unhide EN _ (unhide G4)⟩
 by_cases e1 : y = 1
 ·subst e1
  go_wp2_with fail
  go_region_with (go_at_call 50; refine (pickP c w5 (unhide HC4)).mono ?_; rintro e w6 ⟨p, rfl, hp, g6⟩; have G5 := hide (grown_trans' (unhide G4) g6); clear g6)
  all_goals
   go_wp2_with fail
   go_ret
   exact ⟨_, rfl, catP_size _ _ _ _ _ hs hp, unhide EN _ (unhide G5)⟩
 have f0 : (y == 0) = false := by simpa using e0
 have f1 : (y == 1) = false := by simpa using e1
 clear e0 e1
 go_wp2_with fail
 go_ret
 exact ⟨_, rfl, by omega, unhide EN _ (unhide G4)⟩
end Go.Proofs.YtcgiphcfjhbonaaGreatDoor.dr
