/- The cursor that the laws draw their inputs with: it answers numbers within their bounds and writes into its own block alone; what is drawn is left open. What the laws draw of clauses: a list of at most 49 numbers in memory of the call's own, whatever the bytes; nothing old but the cursor is written. What the laws draw of assignments (values), and what stays while a cursor turns; whatever the bytes. What the laws draw of formulas: a formula in memory of the call's own, whatever the bytes, within named bounds; nothing old but the cursor is written. What the laws draw of formulas, right or not (l02Any): a formula in memory of the call's own, whatever the bytes, within named bounds; nothing old but the cursor is written. Plain mathematics of the machine: its path as a list of values, a step, many steps. What the model's l06False draws: a right formula of at most five variables; no condition but that the cursor is one. What the laws' own comparisons of lists answer at lists that are alike, and what DrawFix draws; whatever the bytes. What spec.l09Cnf draws: a formula in memory of its own; nothing old is written but the cursor. What the laws of sums draw: texts of so many bytes, keys and marks; what is drawn is left open. spec.l01Pick at a list of texts: it tells one of them. What spec.DrawCertText and spec.DrawReadCert draw: a certificate whose parts have texts; a text; nothing old is written. -/
import Derived.Test.YtabiopkjeodamaaDoorSl
import Derived.Laws.BitsLemmas
import Derived.Test.YtabiopkjeodamaaDoorCss
import Derived.Test.YtabiopkjeodamaaDoorApp
import Derived.Deep.LoopGhost
import Derived.Deep.CutRange
import Derived.Deep.CutBlock
import Derived.Test.YtabiopkjeodamaaDoorL4
import Derived.Test.YtabiopkjeodamaaDoorTl
import Derived.Test.YtabiopkjeodamaaDoorJTy
import Derived.Test.YtabiopkjeodamaaDoorOg
import Derived.Test.YtabiopkjeodamaaDoorNs
import Derived.Deep.RegionHeld3
import Derived.Test.YtabiopkjeodamaaDoorJTz
namespace Go.Proofs.YtabiopkjeodamaaDoor.draw
open Go.ChangeShapes Go.WideShapes Go.ChangeAt Go.RowKit
open sl (Sl ints hide unhide ret_int ret_bool grown_refl grown_trans grown_trans' grown_drewN)
set_option linter.unusedVariables false

theorem and255 (n : Int) : bits .and .i64 n 255 = n % 256 := by
 have h255 : (BitVec.ofInt 64 255).toNat = 2 ^ 8 - 1 := by decide
 have key : (BitVec.ofInt 64 n &&& BitVec.ofInt 64 255).toNat = (n % ((2 ^ 64 : Nat) : Int)).toNat % 2 ^ 8 := by
  rw [BitVec.toNat_and, BitVec.toNat_ofInt, h255, Nat.and_two_pow_sub_one_eq_mod]
 show IntKind.i64.wrap ((BitVec.ofInt 64 n &&& BitVec.ofInt 64 255).toNat : Nat) = n % 256
 rw [key, IntKind.wrap_i64]
 omega
theorem and255_bd (n : Int) : 0 ≤ bits .and .i64 n 255 ∧ bits .and .i64 n 255 ≤ 255 := by
 rw [and255]
 omega

def Cur (w : World) (c : Nat) : Prop :=
 ∃ (a : Option Addr) (n cap i : Nat) (h : Int), n ≤ 1048576 ∧ i ≤ n ∧ w.heap[c]? = some (.cells #[.slice a n cap, .int .i64 i, .int .i64 h] 83 (0, 0)) ∧
  (n = 0 ∨ ∃ b off, a = some ⟨b, off, none⟩ ∧ b < c ∧ ∀ j, j < n → ∃ x : Nat, x ≤ 255 ∧ w.cell? ⟨b, off + j, none⟩ = some (.int .u8 (x : Int)))

theorem Cur.lt {w : World} {c : Nat} (h : Cur w c) : c < w.heap.size := by
 obtain ⟨a, n, cap, i, h, _, _, hb, _⟩ := h
 exact (Array.getElem?_eq_some_iff.1 hb).1

theorem Cur.kept {w w' : World} {c : Nat} {row : Option Nat} (h : Cur w c) (g : w.grownBy w' row) (hr : ∀ r, row = some r → c < r) : Cur w' c := by
 have hlt := h.lt
 obtain ⟨a, n, cap, i, h, hn, hi, hb, hx⟩ := h
 refine ⟨a, n, cap, i, h, hn, hi, (g.block c hlt (fun e => by have := hr c e.symm; omega)).trans hb, ?_⟩
 rcases hx with hx | ⟨b, off, e, hbc, hx⟩
 ·exact .inl hx
 ·refine .inr ⟨b, off, e, hbc, fun j hj => ?_⟩
  obtain ⟨x, hx1, hx2⟩ := hx j hj
  exact ⟨x, hx1, g.cell hx2 (fun e => by have := hr b e.symm; omega)⟩

theorem cells3 {w : World} {c : Nat} {x y z : Value} {t : TypeId} (h : w.heap[c]? = some (.cells #[x, y, z] t (0, 0))) :
  w.cell? ⟨c, 0, none⟩ = some x ∧ w.cell? ⟨c, 1, none⟩ = some y ∧ w.cell? ⟨c, 2, none⟩ = some z ∧ ∀ j, w.frozen? ⟨c, j, none⟩ = false := by
 refine ⟨by simp [World.cell?, h], by simp [World.cell?, h], by simp [World.cell?, h], fun j => by simp [World.frozen?, h]⟩

theorem set3_1 {w : World} {c : Nat} {x y z u : Value} {t : TypeId} (h : w.heap[c]? = some (.cells #[x, y, z] t (0, 0))) : (w.setCell ⟨c, 1, none⟩ u).heap[c]? = some (.cells #[x, u, z] t (0, 0)) := by
 simp [World.setCell, Array.getElem?_modify, h]
theorem set3_2 {w : World} {c : Nat} {x y z u : Value} {t : TypeId} (h : w.heap[c]? = some (.cells #[x, y, z] t (0, 0))) : (w.setCell ⟨c, 2, none⟩ u).heap[c]? = some (.cells #[x, y, u] t (0, 0)) := by
 simp [World.setCell, Array.getElem?_modify, h]
theorem grown_drew (w : World) (q : Nat) (r : Option Nat) : w.grownBy (w.drewN q) r := ⟨rfl, rfl, rfl, Nat.le_refl _, fun _ _ _ => rfl⟩
theorem grown_one (w : World) (c q : Nat) (u : Value) : w.grownBy ((w.setCell ⟨c, 2, none⟩ u).drewN q) (some c) :=
 grown_trans' (sl.grown_setCell w c 2 u) (grown_drew _ q _)
theorem grown_two (w : World) (c q : Nat) (u u' : Value) : w.grownBy (((w.setCell ⟨c, 2, none⟩ u).drewN q).setCell ⟨c, 1, none⟩ u') (some c) :=
 grown_trans' (grown_one w c q u) (sl.grown_setCell _ c 1 u')
theorem old_cell {w w' : World} {c b off n : Nat} (g : w.grownBy w' (some c)) (hbc : b < c) (hx : ∀ j, j < n → ∃ x : Nat, x ≤ 255 ∧ w.cell? ⟨b, off + j, none⟩ = some (.int .u8 (x : Int))) :
  ∀ j, j < n → ∃ x : Nat, x ≤ 255 ∧ w'.cell? ⟨b, off + j, none⟩ = some (.int .u8 (x : Int)) := by
 intro j hj
 obtain ⟨x, hx1, hx2⟩ := hx j hj
 exact ⟨x, hx1, g.cell hx2 (fun e => by injection e with e; exact absurd e (by show b ≠ c; omega))⟩

theorem cur_one {w : World} {c : Nat} {a : Option Addr} {n cap i : Nat} {h : Int} (q : Nat) (h' : Int) (hn : n ≤ 1048576) (hi : i ≤ n) (hb : w.heap[c]? = some (.cells #[.slice a n cap, .int .i64 i, .int .i64 h] 83 (0, 0)))
  (hx : n = 0 ∨ ∃ b off, a = some ⟨b, off, none⟩ ∧ b < c ∧ ∀ j, j < n → ∃ x : Nat, x ≤ 255 ∧ w.cell? ⟨b, off + j, none⟩ = some (.int .u8 (x : Int))) :
  Cur ((w.setCell ⟨c, 2, none⟩ (.int .i64 h')).drewN q) c := by
 refine ⟨a, n, cap, i, h', hn, hi, set3_2 hb, ?_⟩
 rcases hx with h0 | ⟨b, off, e, hbc, hx⟩
 ·exact .inl h0
 ·exact .inr ⟨b, off, e, hbc, old_cell (grown_one w c q _) hbc hx⟩
theorem Cur.drew {w : World} {c : Nat} (h : Cur w c) (q : Nat) : Cur (w.drewN q) c := h.kept (grown_drew w q none) (fun r e => by cases e)
theorem cur_two {w : World} {c : Nat} {a : Option Addr} {n cap i : Nat} {h : Int} (q : Nat) (h' : Int) (hn : n ≤ 1048576) (hi : i + 1 ≤ n) (hb : w.heap[c]? = some (.cells #[.slice a n cap, .int .i64 i, .int .i64 h] 83 (0, 0)))
  (hx : n = 0 ∨ ∃ b off, a = some ⟨b, off, none⟩ ∧ b < c ∧ ∀ j, j < n → ∃ x : Nat, x ≤ 255 ∧ w.cell? ⟨b, off + j, none⟩ = some (.int .u8 (x : Int))) :
  Cur (((w.setCell ⟨c, 2, none⟩ (.int .i64 h')).drewN q).setCell ⟨c, 1, none⟩ (.int .i64 ((i : Int) + 1))) c := by
 have e1 : ((w.setCell ⟨c, 2, none⟩ (.int .i64 h')).drewN q).heap[c]? = some (.cells #[.slice a n cap, .int .i64 i, .int .i64 h'] 83 (0, 0)) := set3_2 hb
 refine ⟨a, n, cap, i + 1, h', hn, hi, ?_, ?_⟩
 ·rw [show ((i + 1 : Nat) : Int) = (i : Int) + 1 from by omega]
  exact set3_1 e1
 ·rcases hx with h0 | ⟨b, off, e, hbc, hx⟩
  ·exact .inl h0
  ·exact .inr ⟨b, off, e, hbc, old_cell (grown_two w c q _ _) hbc hx⟩

set_option maxHeartbeats 400000 in
theorem byte (c : Nat) (w : World) (hc : Cur w c) :
  Calls Tryd.prog 70 #[.pointer (some ⟨c, 0, none⟩)] w fun e w' => ∃ x : Int, e = .returned (.int .i64 x) ∧ 0 ≤ x ∧ x ≤ 255 ∧ Cur w' c ∧ w.grownBy w' (some c) := by
 obtain ⟨a, n, cap, i, h, hn, hi, hb, hx⟩ := hc
 obtain ⟨c0, c1, c2, cf⟩ := cells3 hb
 have f1 := cf 1
 have f2 := cf 2
 have HB := hide hb
 have HX := hide hx
 clear hb hx cf
 by_cases hlt : i < n
 ·rcases unhide HX with h0 | ⟨b, off, rfl, hbc, hx⟩
  ·omega
  ·have HXX := hide hx
   obtain ⟨x, hx1, hx2⟩ := hx i hlt
   have hlt' : (i : Int) < (n : Int) := by omega
   clear hx HX
   go_enter Tryd.func70, Tryd.ntmps70
   go_wp2
   go_quiet (fail)
   go_wp2
   go_quiet (fail)
   go_wp2
   go_quiet (fail)
   go_wp2
   go_ret
   exact ⟨_, rfl, (and255_bd _).1, (and255_bd _).2, cur_two _ _ hn hlt (unhide HB) (.inr ⟨b, off, rfl, hbc, unhide HXX⟩), grown_two w c _ _ _⟩
 ·have hlt' : ¬ (i : Int) < (n : Int) := by omega
  go_enter Tryd.func70, Tryd.ntmps70
  go_wp2
  go_quiet (fail)
  go_wp2
  go_quiet (fail)
  go_wp2
  go_ret
  exact ⟨_, rfl, (and255_bd _).1, (and255_bd _).2, Cur.drew (cur_one _ _ hn hi (unhide HB) (unhide HX)) _, grown_trans' (grown_one w c _ _) (grown_drew _ _ _)⟩

theorem below (c : Nat) (n : Int) (w : World) (hc : Cur w c) (n0 : 0 < n) (n1 : n ≤ 1073741824) :
  Calls Tryd.prog 37 #[.pointer (some ⟨c, 0, none⟩), .int .i64 n] w fun e w' => ∃ x : Int, e = .returned (.int .i64 x) ∧ 0 ≤ x ∧ x < n ∧ Cur w' c ∧ w.grownBy w' (some c) := by
 have HC := hide hc
 clear hc
 have m0 : ¬ n ≤ 0 := by omega
 by_cases h : n ≤ 256
 ·go_enter Tryd.func37, Tryd.ntmps37
  go_wp2_with fail
  refine (byte c _ (unhide HC)).mono ?_; rintro e w1 ⟨x, rfl, x0, x1, hc1, g1⟩
  have HC1 := hide hc1
  have G1 := hide g1
  clear hc1 g1
  go_wp2_with fail
  go_ret
  exact ⟨_, rfl, Int.emod_nonneg _ (by omega), Int.emod_lt_of_pos _ n0, unhide HC1, unhide G1⟩
 ·go_enter Tryd.func37, Tryd.ntmps37
  go_wp2_with fail
  refine (byte c _ (unhide HC)).mono ?_; rintro e w1 ⟨x, rfl, x0, x1, hc1, g1⟩
  have HC1 := hide hc1
  have G1 := hide g1
  clear hc1 g1 HC
  go_wp2_with fail
  refine (byte c _ (unhide HC1)).mono ?_; rintro e w2 ⟨y, rfl, y0, y1, hc2, g2⟩
  have HC2 := hide hc2
  have G2 := hide (grown_trans' (unhide G1) g2)
  clear hc2 g2 HC1 G1
  go_wp2_with fail
  refine (byte c _ (unhide HC2)).mono ?_; rintro e w3 ⟨z, rfl, z0, z1, hc3, g3⟩
  have HC3 := hide hc3
  have G3 := hide (grown_trans' (unhide G2) g3)
  clear hc3 g3 HC2 G2
  go_wp2_with fail
  refine (byte c _ (unhide HC3)).mono ?_; rintro e w4 ⟨q, rfl, q0, q1, hc4, g4⟩
  have HC4 := hide hc4
  have G4 := hide (grown_trans' (unhide G3) g4)
  clear hc4 g4 HC3 G3
  go_wp2_with fail
  go_ret
  exact ⟨_, rfl, Int.emod_nonneg _ (by omega), Int.emod_lt_of_pos _ n0, unhide HC4, unhide G4⟩

theorem once (c : Nat) (n : Int) (w : World) (hc : Cur w c) (n0 : 0 < n) (n1 : n ≤ 1073741824) :
  Calls Tryd.prog 64 #[.pointer (some ⟨c, 0, none⟩), .int .i64 n] w fun e w' => ∃ b : Bool, e = .returned (.bool b) ∧ Cur w' c ∧ w.grownBy w' (some c) := by
 have HC := hide hc
 clear hc
 go_enter Tryd.func64, Tryd.ntmps64
 go_wp2_with fail
 refine (below c n _ (unhide HC) n0 n1).mono ?_; rintro e w1 ⟨x, rfl, x0, x1, hc1, g1⟩
 have HC1 := hide hc1
 have G1 := hide g1
 clear hc1 g1
 go_wp2_with fail
 go_ret
 exact ⟨_, rfl, unhide HC1, unhide G1⟩

def I64 (x : Int) : Prop := (Lit.int .i64 x).wf = true

theorem pickInt (c : Nat) (v : Value) (L : List Int) (w : World) (hc : Cur w c) (hL : 0 < L.length) (hL1 : L.length ≤ 1048576) (hv : Sl w v L) (hb : ∀ k, v.ownBlock = some k → c < k) :
  Calls Tryd.prog 131 #[.pointer (some ⟨c, 0, none⟩), v] w fun e w' => ∃ x : Int, e = .returned (.int .i64 x) ∧ x ∈ L ∧ Cur w' c ∧ w.grownBy w' (some c) := by
 have hv' := hv
 obtain ⟨a, cap, rfl, ha⟩ := hv
 rcases ha with rfl | ⟨b, off, rfl, hbs, hcb⟩
 ·simp at hL
 ·have HC := hide hc
  have HB := hide hcb
  have hbc : c < b := hb b rfl
  clear hc hcb hv' hb
  go_enter Tryd.func131, Tryd.ntmps131
  go_wp2_with fail
  refine (below c _ _ (unhide HC) (by omega) (by omega)).mono ?_; rintro e w1 ⟨x, rfl, x0, x1, hc1, g1⟩
  obtain ⟨j, rfl⟩ := Int.eq_ofNat_of_zero_le x0
  have hj : j < L.length := by omega
  have c1 : w1.cell? ⟨b, off + j, none⟩ = some (.int .i64 (L.getD j 0)) := g1.cell (unhide HB j hj) (fun e => by injection e with e; exact absurd e (by show b ≠ c; omega))
  have hm : L.getD j 0 ∈ L := by rw [show L.getD j 0 = L[j] by simp [hj]]; exact List.getElem_mem hj
  generalize L.getD j 0 = y at *
  have HM := hide hm
  have HC1 := hide hc1
  have G1 := hide g1
  clear hc1 g1 hm HB HC
  go_wp2_with fail
  go_ret
  exact ⟨_, rfl, unhide HM, unhide HC1, unhide G1⟩

def Bs (w : World) (a : Option Addr) (n : Nat) : Prop := n = 0 ∨ ∃ b off, a = some ⟨b, off, none⟩ ∧ b < w.heap.size ∧ ∀ j, j < n → ∃ x : Nat, x ≤ 255 ∧ w.cell? ⟨b, off + j, none⟩ = some (.int .u8 (x : Int))
theorem Bs.below {w w' : World} {a : Option Addr} {n : Nat} (h : Bs w a n) (hb : Below w.heap.size w w') : Bs w' a n := by
 rcases h with h | ⟨b, off, e, hl, hx⟩
 ·exact .inl h
 ·refine .inr ⟨b, off, e, Nat.lt_of_lt_of_le hl hb.size, fun j hj => ?_⟩
  obtain ⟨x, hx1, hx2⟩ := hx j hj
  exact ⟨x, hx1, (hb.cell (p := ⟨b, off + j, none⟩) hl).trans hx2⟩
theorem of_rowB {w : World} {a : Option Addr} {len cap : Nat} {zs : List Int}
  (h : (a = none ∧ len = 0 ∧ cap = 0 ∧ zs = []) ∨ ∃ x, a = some x ∧ len ≤ cap ∧ cap ≤ maxLen ∧ zs.length = cap ∧ (∀ i, i < zs.length → w.cell? (x.add i) = some (.int .u8 (zs.getD i 0))) ∧ ∀ n ∈ zs, (Lit.int .u8 n).wf = true) :
  Bs w a len := by
 rcases h with ⟨rfl, rfl, rfl, rfl⟩ | ⟨x, rfl, hl, hm, hz, hc, hw⟩
 ·exact .inl rfl
 ·by_cases h0 : len = 0
  ·exact .inl h0
  ·obtain ⟨b, off, spot⟩ := x
   have h1 := hc 0 (by omega)
   have hs : spot = none := by simpa [Addr.add] using World.cell?_spot h1
   subst hs
   refine .inr ⟨b, off, rfl, World.block_lt_of_cell? w _ h1, fun j hj => ?_⟩
   have h2 := hc j (by omega)
   rw [Addr.add_lit] at h2
   have hm : zs.getD j 0 ∈ zs := by rw [show zs.getD j 0 = zs[j]'(by omega) by simp [show j < zs.length by omega]]; exact List.getElem_mem _
   have h3 := hw _ hm
   have h4 : 0 ≤ zs.getD j 0 ∧ zs.getD j 0 ≤ 255 := by simpa [Lit.wf, IntKind.min, IntKind.max, IntKind.signed, IntKind.bits] using h3
   exact ⟨(zs.getD j 0).toNat, by omega, by rw [h2]; congr 2; omega⟩

theorem new_cur (w : World) (a : Option Addr) (n cap : Nat) (h : Int) (hn : n ≤ 1048576) (hB : Bs w a n) : Cur (w.alloc (.cells #[.slice a n cap, .int .i64 0, .int .i64 h] 83)) w.heap.size := by
 refine ⟨a, n, cap, 0, h, hn, Nat.zero_le _, heap_alloc_new w _, ?_⟩
 rcases hB with h0 | ⟨b, off, e, hl, hx⟩
 ·exact .inl h0
 ·refine .inr ⟨b, off, e, hl, fun j hj => ?_⟩
  obtain ⟨x, hx1, hx2⟩ := hx j hj
  exact ⟨x, hx1, (World.grownBy_alloc w _ none).cell hx2 (fun e => by cases e)⟩

theorem newCur (a : Option Addr) (n cap : Nat) (w : World) (hn : n ≤ 1048576) (hB : Bs w a n) :
  Calls Tryd.prog 32 #[.slice a n cap] w fun e w' => e = .returned (.pointer (some ⟨w.heap.size, 0, none⟩)) ∧ Cur w' w.heap.size ∧ w.grownBy w' none := by
 have HB := hide hB
 clear hB
 go_enter Tryd.func32, Tryd.ntmps32
 go_wp2
 go_loop [3, 4] (fun h i => ∃ (k : Nat) (H : Int), k ≤ n ∧ i = .int .i64 k ∧ h = .int .i64 H) (fun _ i => n - (intOf i).toNat)
 case atStart => exact ⟨0, _, Nat.zero_le _, rfl, rfl⟩
 case round =>
  obtain ⟨k, H, hk, rfl, rfl⟩ := hrel
  by_cases hlt : k < n
  ·have hi' : (k : Int) < (n : Int) := by omega
   by_cases h4 : k < 4000
   ·have h4' : (k : Int) < 4000 := by omega
    rcases unhide HB with h0 | ⟨b, off, rfl, hl, hx⟩
    ·omega
    ·obtain ⟨x, hx1, hx2⟩ := hx k hlt
     clear hx
     go_wp2
     go_round
     case rel => exact ⟨k + 1, _, by omega, by go_num, rfl⟩
     case measure => simp [intOf]; omega
   ·have h4' : decide ((k : Int) < 4000) = false := decide_eq_false (by omega)
    go_wp2
    go_ret
    exact ⟨rfl, new_cur _ _ _ _ _ hn (unhide HB), World.grownBy_alloc _ _ _⟩
  ·have hi' : decide ((k : Int) < (n : Int)) = false := decide_eq_false (by omega)
   go_wp2
   go_ret
   exact ⟨rfl, new_cur _ _ _ _ _ hn (unhide HB), World.grownBy_alloc _ _ _⟩

def edges : List Int := [0, 25, -25, 24, -24, 9223372036854775807, -9223372036854775808]
theorem edges_wf : ∀ x ∈ edges, I64 x := by
 intro x hx
 simp only [edges, List.mem_cons, List.not_mem_nil, or_false] at hx
 unfold I64
 rcases hx with rfl | rfl | rfl | rfl | rfl | rfl | rfl <;> decide
theorem own_alloc (w : World) (L : List Int) (hL : L.length ≤ maxLen) : (w.alloc (.cells (ints L).toArray 3)).ownsRow w.heap.size 3 1 (.slice (some ⟨w.heap.size, 0, none⟩) L.length L.length) L.length (ints L) :=
 World.ownsRow_lit w (ints L).toArray L.length (Nat.le_refl _) hL (by simp [ints])
theorem edges_own (w : World) : (w.alloc (.cells #[.int .i64 0, .int .i64 25, .int .i64 (-25), .int .i64 24, .int .i64 (-24), .int .i64 9223372036854775807, .int .i64 (-9223372036854775808)] 3)).ownsRow w.heap.size 3 1 (.slice (some ⟨w.heap.size, 0, none⟩) 7 7) 7 (ints edges) :=
 own_alloc w edges (by decide)

theorem grown_alloc_some (w : World) (o : Obj) (r : Option Nat) : w.grownBy (w.alloc o) r := World.grownBy_alloc w o r
theorem i64_of {x : Int} (h1 : -1073741825 ≤ x) (h2 : x ≤ 1073741825) : I64 x := by
 unfold I64
 simp [Lit.wf, IntKind.min, IntKind.max, IntKind.signed, IntKind.bits]
 omega

theorem lit (c : Nat) (n : Int) (w : World) (hc : Cur w c) (n0 : 0 < n) (n1 : n ≤ 1073741824) :
  Calls Tryd.prog 155 #[.pointer (some ⟨c, 0, none⟩), .int .i64 n] w fun e w' => ∃ x : Int, e = .returned (.int .i64 x) ∧ I64 x ∧ Cur w' c ∧ w.grownBy w' (some c) := by
 have HC := hide hc
 clear hc
 go_enter Tryd.func155, Tryd.ntmps155
 go_wp2_with fail
 refine (once c _ _ (unhide HC) (by decide) (by decide)).mono ?_; rintro e w1 ⟨b1, rfl, hc1, g1⟩
 have HC1 := hide hc1
 have G1 := hide g1
 clear hc1 g1 HC
 cases b1
 ·go_wp2_with fail
  refine (below c n _ (unhide HC1) n0 n1).mono ?_; rintro e w2 ⟨x, rfl, x0, x1, hc2, g2⟩
  have HC2 := hide hc2
  have G2 := hide (grown_trans' (unhide G1) g2)
  clear hc2 g2 HC1 G1
  go_wp2_with fail
  refine (once c _ _ (unhide HC2) (by decide) (by decide)).mono ?_; rintro e w3 ⟨b3, rfl, hc3, g3⟩
  have HC3 := hide hc3
  have G3 := hide (grown_trans' (unhide G2) g3)
  clear hc3 g3 HC2 G2
  cases b3
  ·go_wp2_with fail
   go_ret
   exact ⟨_, rfl, i64_of (by omega) (by omega), unhide HC3, unhide G3⟩
  ·go_wp2_with fail
   go_ret
   exact ⟨_, rfl, i64_of (by omega) (by omega), unhide HC3, unhide G3⟩
 ·go_wp2_with fail
  refine (pickInt c _ edges _ ((unhide HC1).kept (grown_alloc_some _ _ none) (fun r e => by cases e)) (by decide) (by decide) (sl.Sl.of_own (edges_own w1)) (fun k e => ?_)).mono ?_
  ·cases e
   exact (unhide HC1).lt
  rintro e w2 ⟨x, rfl, hx, hc2, g2⟩
  have HX := hide (edges_wf x hx)
  have HC2 := hide hc2
  have G2 := hide (grown_trans' (grown_trans' (unhide G1) (grown_alloc_some _ _ _)) g2)
  clear hc2 g2 hx HC1 G1
  go_wp2_with fail
  go_ret
  exact ⟨_, rfl, unhide HX, unhide HC2, unhide G2⟩

theorem grown_new {a b d : World} {r : Nat} (h : a.grownBy b none) (k : b.grownBy d (some r)) (hr : a.heap.size ≤ r) : a.grownBy d none :=
 ⟨k.os.trans h.os, k.tape.trans h.tape, k.output.trans h.output, Nat.le_trans h.size k.size, fun i hi _ => (k.block i (Nat.lt_of_lt_of_le hi h.size) (fun e => by injection e with e; omega)).trans (h.block i hi (fun e => by cases e))⟩
theorem big (a : Option Addr) (n cap : Nat) (w : World) (hn : n ≤ 9223372036854775807) : Calls Tryd.prog 8 #[.slice a n cap] w fun e w' => e = .returned (.bool (decide (1048576 < n))) ∧ w' = w := by
 by_cases h : 1048576 < n
 ·rw [decide_eq_true h]
  have h' : (1048576 : Int) < (n : Int) := by omega
  go_enter Tryd.func8, Tryd.ntmps8
  go_wp2
  go_ret
  exact ⟨rfl, rfl⟩
 ·rw [decide_eq_false h]
  have h' : ¬ (1048576 : Int) < (n : Int) := by omega
  go_enter Tryd.func8, Tryd.ntmps8
  go_wp2
  go_ret
  exact ⟨rfl, rfl⟩
end Go.Proofs.YtabiopkjeodamaaDoor.draw
namespace Go.Proofs.YtabiopkjeodamaaDoor.dcls
open Go.ChangeShapes Go.WideShapes Go.ChangeAt Go.RowKit
open sl (Sl ints hide unhide grown_refl grown_trans grown_trans' of_below below_of grown_drewN)
open draw (Cur Bs I64 newCur grown_new)
open wo (Made)
set_option linter.unusedVariables false

def MadeC (c : Nat) (w w1 : World) (v : Value) (M : List Int) : Prop := w1.ownsRow w.heap.size 3 1 v M.length (ints M) ∧ w.grownBy w1 (some c) ∧ Cur w1 c
theorem MadeC.form {c : Nat} {w w1 : World} {v : Value} {M : List Int} (h : MadeC c w w1 v M) : ∃ a cap, v = .slice a M.length cap := by
 obtain ⟨a, cap, e, _⟩ := Sl.of_own h.1
 exact ⟨a, cap, e⟩
theorem MadeC.turn {c : Nat} {w wr w1 : World} {v : Value} {M : List Int} (h : MadeC c w wr v M) (hc : c < w.heap.size) (g : wr.grownBy w1 (some c)) (hcur : Cur w1 c) : MadeC c w w1 v M := by
 refine ⟨h.1.kept g (.inr (fun e => ?_)), grown_trans' h.2.1 g, hcur⟩
 have := (h.1.lt c e).1
 omega
theorem MadeC.start (c : Nat) (w : World) (h : Cur w c) : MadeC c w (w.alloc (.cells #[] 3)) (.slice (some ⟨w.heap.size, 0, none⟩) 0 0) [] :=
 ⟨(app.made_nil w).1, World.grownBy_alloc _ _ _, h.kept (World.grownBy_alloc w _ none) (fun r e => by cases e)⟩
theorem MadeC.grow {c : Nat} {w wr w1 : World} {v v' : Value} {M : List Int} {y : Int} {o : Obj} (h : MadeC c w wr v M) (hc : c < w.heap.size)
  (hown' : w1.ownsRow w.heap.size 3 1 v' (M.length + 1) (ints M ++ [.int .i64 y])) (hgrow : (wr.alloc o).grownBy w1 v.ownBlock) : MadeC c w w1 v' (M ++ [y]) := by
 obtain ⟨hown, hg, hcur⟩ := h
 refine ⟨?_, ⟨hgrow.os.trans hg.os, hgrow.tape.trans hg.tape, hgrow.output.trans hg.output, ?_, fun k hk hne => ?_⟩, ?_⟩
 ·have e1 : (M ++ [y]).length = M.length + 1 := by simp
  have e2 : ints (M ++ [y]) = ints M ++ [.int .i64 y] := by simp [ints]
  rw [e1, e2]
  exact hown'
 ·have h1 := hgrow.size
  have h2 := hg.size
  simp at h1
  omega
 ·have h2 := hg.size
  rw [hgrow.block k (by simp; omega) ?_, Below.heap_alloc _ _ _ (by omega)]
  ·exact hg.block k hk hne
  ·intro e
   have := (hown.lt k e.symm).1
   omega
 ·refine (hcur.kept (World.grownBy_alloc wr o none) (fun r e => by cases e)).kept hgrow (fun r e => ?_)
  have := (hown.lt r e).1
  omega
theorem appendC {ops : Array Oper} {rest : List Oper} {o : Oper} {a : Act} {Q : Exit → Act → World → Prop} {c : Nat} {w wr : World} {v : Value} {M : List Int} {y : Int}
  (hm : MadeC c w wr v M) (hc : c < w.heap.size) (hM : M.length ≤ 4194304) (hgd : o.guard = none) (s x : Operand)
  (ho : o.op = .call { callee := .builtin .append, args := #[s, x], argTypes := #[31, 31] }) (hs : a.eval s = v) (hx : a.eval x = .slice (some ⟨wr.heap.size, 0, none⟩) 1 1)
  (h : ∀ v' w1, MadeC c w w1 v' (M ++ [y]) → wpList Tryd.prog ops Q rest (a.put o.dst v') w1) :
  wpList Tryd.prog ops Q (o :: rest) a (wr.alloc (.cells #[.int .i64 y] 3)) := by
 obtain ⟨i0, hi, hz0, hz1, hz2⟩ := info_parts sl.info3
 have hown := hm.1
 have hsz := hm.2.1.size
 refine wpList_append_own _ hgd s x 31 ho w.heap.size 3 i0 (.int .i64 0) 1 8 Tryd.underlying31 hi hz0 hz1 hz2 rfl (by decide) v M.length (ints M) hs (hown.alloc _) ⟨wr.heap.size, 0, none⟩ 1 1 [.int .i64 y] hx rfl ?_ ?_ ?_ ?_ ?_ ?_
 ·intro j u hj
  match j, hj with
  | 0, hj => simp at hj; subst hj; simp [Addr.add]
 ·intro u hu
  simp at hu
  subst hu
  rfl
 ·unfold maxLen
  omega
 ·omega
 ·simp
  omega
 ·intro v' w1 hown' hgrow _
  exact h v' w1 (hm.grow hc hown' hgrow)
def slLen : Value → Nat
 | .slice _ n _ => n
 | _ => 0

set_option maxHeartbeats 800000 in
theorem clause (c : Nat) (n most : Int) (w : World) (hc : Cur w c) (n0 : 0 < n) (n1 : n ≤ 1073741824) (m0 : 0 ≤ most) (m1 : most ≤ 6) :
  Calls Tryd.prog 132 #[.pointer (some ⟨c, 0, none⟩), .int .i64 n, .int .i64 most] w fun e w' => ∃ v L, e = .returned v ∧ L.length ≤ 49 ∧ MadeC c w w' v L := by
 have hlt := hc.lt
 have START := hide (MadeC.start c w hc)
 clear hc
 go_enter Tryd.func132, Tryd.ntmps132
 go_wp2_with fail
 refine (draw.below c _ _ (unhide START).2.2 (by omega) (by omega)).mono ?_; rintro e w1 ⟨x, rfl, x0, x1, hc1, g1⟩
 obtain ⟨K, rfl⟩ := Int.eq_ofNat_of_zero_le x0
 have M1 := hide ((unhide START).turn hlt g1 hc1)
 have hK : K ≤ 6 := by omega
 clear hc1 g1 START x0 x1
 go_wp2_with fail
 go_loopw [7, 9] (fun u i wr => ∃ (k : Nat) (M : List Int), k ≤ K ∧ M.length = k ∧ i = .int .i64 k ∧ MadeC c w wr u M) (fun _ i _ => K - (intOf i).toNat)
 case atStart => exact ⟨0, [], Nat.zero_le _, rfl, rfl, unhide M1⟩
 case round =>
  obtain ⟨k, M, hk, hM, rfl, hm⟩ := hrel
  clear M1
  have HM := hide hm
  clear hm
  by_cases hlt' : k < K
  ·have hi : (k : Int) < (K : Int) := by omega
   go_wp2_with fail
   refine (draw.lit c n _ (unhide HM).2.2 n0 n1).mono ?_; rintro e w2 ⟨y, rfl, hy, hc2, g2⟩
   have HM2 := hide ((unhide HM).turn hlt g2 hc2)
   clear hy hc2 g2 HM
   go_wp2_with (at_builtin; refine appendC (unhide HM2) hlt (by omega) rfl _ _ rfl rfl rfl ?_)
   intro v' w3 R
   clear HM2
   go_wp2
   go_roundw
   case rel => exact ⟨k + 1, M ++ [y], by omega, by rw [List.length_append, hM]; rfl, by go_num, R⟩
   case measure => simp [intOf]; omega
  ·have hi : ¬ (k : Int) < (K : Int) := by omega
   go_wp2_with fail
   refine (draw.once c _ _ (unhide HM).2.2 (by decide) (by decide)).mono ?_; rintro e w2 ⟨b, rfl, hc2, g2⟩
   have HM2 := hide ((unhide HM).turn hlt g2 hc2)
   clear hc2 g2 HM
   cases b
   ·go_wp2_with fail
    go_ret
    exact ⟨_, M, rfl, by omega, unhide HM2⟩
   ·have hM9 : M.length ≤ 49 := by omega
    clear hM hk hi hlt'
    go_wp2_with fail
    go_loopw [7] (fun u wr => ∃ (N : List Int), N.length ≤ 49 ∧ MadeC c w wr u N) (fun u _ => 49 - slLen u)
    case atStart => exact ⟨M, hM9, unhide HM2⟩
    case round =>
     obtain ⟨N, hN, hm⟩ := hrel
     clear HM2 hM9
     obtain ⟨a, cap, rfl⟩ := hm.form
     have HM3 := hide hm
     clear hm
     go_wp2_with fail
     refine (draw.below c _ _ (unhide HM3).2.2 (by decide) (by decide)).mono ?_; rintro e w3 ⟨x, rfl, x0, x1, hc3, g3⟩
     have HM4 := hide ((unhide HM3).turn hlt g3 hc3)
     clear hc3 g3 HM3
     by_cases h48 : (N.length : Int) < 48 + x
     ·go_wp2_with (at_builtin; refine appendC (unhide HM4) hlt (by omega) rfl _ _ rfl rfl rfl ?_)
      intro v' w4 R
      clear HM4
      obtain ⟨a', cap', rfl⟩ := R.form
      have HR := hide R
      have hl : (N ++ [1]).length = N.length + 1 := by simp
      clear R
      go_wp2
      go_roundw
      case rel => exact ⟨N ++ [1], by omega, unhide HR⟩
      case measure => simp [slLen]; omega
     ·go_wp2_with fail
      go_ret
      exact ⟨_, N, rfl, hN, unhide HM4⟩

end Go.Proofs.YtabiopkjeodamaaDoor.dcls
namespace Go.Proofs.YtabiopkjeodamaaDoor.dva
open Go.ChangeShapes Go.WideShapes Go.ChangeAt Go.RowKit
open sl (Sl ints hide unhide grown_refl grown_trans grown_trans' of_below below_of grown_drewN)
open draw (Cur Bs I64 newCur grown_new)
open wo (Made)
set_option linter.unusedVariables false

theorem madeC_own {c : Nat} {w wr w1 : World} {lo : Nat} {v : Value} {L : List Int} (h : wr.ownsRow lo 3 1 v L.length (ints L)) (hc : c < lo) (g : wr.grownBy w1 (some c)) : w1.ownsRow lo 3 1 v L.length (ints L) := by
 refine h.kept g ?_
 cases e : v.ownBlock with
 | none => exact .inl rfl
 | some k => exact .inr (fun e' => by cases e'; have := (h.lt _ e).1; omega)

theorem cur_ty : (83 : Nat) ≠ 3 := by decide
theorem cur_ne {w : World} {c lo n : Nat} {v : Value} {xs : List Value} (h : w.ownsRow lo 3 1 v n xs) (hc : Cur w c) : v.ownBlock ≠ some c := by
 intro e
 obtain ⟨cs, fz, hk⟩ := css.own_kind h c e
 obtain ⟨_, _, _, _, _, _, _, hb, _⟩ := hc
 rw [hb] at hk
 simp only [Option.some.injEq, Obj.cells.injEq] at hk
 exact cur_ty hk.2.1
theorem row_turn {w w1 : World} {c lo : Nat} {v : Value} {L : List Int} (h : w.ownsRow lo 3 1 v L.length (ints L)) (hc : Cur w c) (g : w.grownBy w1 (some c)) : w1.ownsRow lo 3 1 v L.length (ints L) := by
 refine h.kept g ?_
 cases e : v.ownBlock with
 | none => exact .inl rfl
 | some k => exact .inr (fun e' => cur_ne h hc (e.trans e'))
theorem row_none {w w1 : World} {lo : Nat} {v : Value} {L : List Int} (h : w.ownsRow lo 3 1 v L.length (ints L)) (g : w.grownBy w1 none) : w1.ownsRow lo 3 1 v L.length (ints L) := by
 refine h.kept g ?_
 cases e : v.ownBlock with
 | none => exact .inl rfl
 | some k => exact .inr (fun e' => by cases e')
end Go.Proofs.YtabiopkjeodamaaDoor.dva
namespace Go.Proofs.YtabiopkjeodamaaDoor.dcn
open Go.ChangeShapes Go.WideShapes Go.ChangeAt Go.RowKit
open sl (Sl Own ints hide unhide grown_refl grown_trans grown_trans' of_below below_of grown_drewN)
open css (Sls OwnS tot)
open cf (Box)
open draw (Cur Bs I64 newCur grown_new)
open dcls (MadeC MadeC.start appendC)
set_option linter.unusedVariables false

theorem ownS_turn {lo hi c : Nat} {w w1 : World} {v : Value} {M : List (List Int)} (h : OwnS lo hi w v M) (hc : c < lo) (g : w.grownBy w1 (some c)) : OwnS lo hi w1 v M := by
 have kp : ∀ (t : TypeId) (p : Value) (n : Nat) (xs : List Value), w.ownsRow lo t 1 p n xs → w1.ownsRow lo t 1 p n xs := fun t p n xs h => h.kept g (by
  cases e : p.ownBlock with
  | none => exact .inl rfl
  | some k => exact .inr (fun e' => by cases e'; have := (h.lt _ e).1; omega))
 obtain ⟨D, e, ho, hb, hin, hp⟩ := h
 exact ⟨D, e, kp _ _ _ _ ho, hb, fun p hp => ⟨kp _ _ _ _ (hin p hp).1, (hin p hp).2⟩, hp⟩
def MidD (c : Nat) (w wr : World) (b : Nat) (n : Int) (M : List (List Int)) (Bs : List (Nat × Value × Value)) (hi : Nat) : Prop :=
 w.heap.size ≤ b ∧ c < w.heap.size ∧ w.grownBy wr (some c) ∧ Cur wr c ∧ hi ≤ wr.heap.size ∧ (∀ p ∈ Bs, p.1 ≠ b ∧ p.1 ≠ c ∧ Box 47 wr p.1 p.2.1 p.2.2) ∧ ∃ a cap, Box 47 wr b (.int .i64 n) (.slice a M.length cap) ∧ OwnS w.heap.size hi wr (.slice a M.length cap) M
theorem MidD.turn {c : Nat} {w wr w1 : World} {b : Nat} {n : Int} {M : List (List Int)} {Bs : List (Nat × Value × Value)} {hi : Nat} (h : MidD c w wr b n M Bs hi) (g : wr.grownBy w1 (some c)) (hcur : Cur w1 c) : MidD c w w1 b n M Bs hi := by
 obtain ⟨hb, hc, hg, _, hh, hB, a, cap, bx, ho⟩ := h
 exact ⟨hb, hc, grown_trans' hg g, hcur, Nat.le_trans hh g.size, fun p hp => ⟨(hB p hp).1, (hB p hp).2.1, (hB p hp).2.2.by g (fun e => (hB p hp).2.1 (by cases e; rfl))⟩, a, cap, bx.by g (fun e => by cases e; omega), ownS_turn ho hc g⟩
theorem MidD.cur {c : Nat} {w wr : World} {b : Nat} {n : Int} {M : List (List Int)} {Bs : List (Nat × Value × Value)} {hi : Nat} (h : MidD c w wr b n M Bs hi) : Cur wr c := h.2.2.2.1
theorem MidD.grown {c : Nat} {w wr : World} {b : Nat} {n : Int} {M : List (List Int)} {Bs : List (Nat × Value × Value)} {hi : Nat} (h : MidD c w wr b n M Bs hi) : w.grownBy wr (some c) := h.2.2.1
theorem MidD.c0 {c : Nat} {w wr : World} {b : Nat} {n : Int} {M : List (List Int)} {Bs : List (Nat × Value × Value)} {hi : Nat} (h : MidD c w wr b n M Bs hi) : wr.cell? ⟨b, 0, none⟩ = some (.int .i64 n) := by
 obtain ⟨_, _, _, _, _, _, a, cap, bx, _⟩ := h
 exact bx.c0
theorem MidD.step {c : Nat} {w wr w1 : World} {b : Nat} {n : Int} {M : List (List Int)} {Bs : List (Nat × Value × Value)} {hi : Nat} {L : List Int} {a : Option Addr} {cap g cap' : Nat} {u : Value}
  (hb : w.heap.size ≤ b) (hc : c < w.heap.size) (hg : w.grownBy wr (some c)) (hcur : Cur wr c) (hB : ∀ p ∈ Bs, p.1 ≠ b ∧ p.1 ≠ c ∧ Box 47 wr p.1 p.2.1 p.2.2) (bx : Box 47 wr b (.int .i64 n) (.slice a M.length cap)) (ho : OwnS w.heap.size hi wr (.slice a M.length cap) M)
  (h1 : OwnS w.heap.size w1.heap.size w1 (.slice (some ⟨g, 0, none⟩) (M.length + 1) cap') (M ++ [L])) (g1 : (wr.alloc (.cells #[u] 31)).grownBy w1 (Value.slice a M.length cap).ownBlock) :
  (w1.cell? ⟨b, 1, none⟩ = some (.slice a M.length cap) ∧ w1.frozen? ⟨b, 1, none⟩ = false) ∧ MidD c w (w1.setCell ⟨b, 1, none⟩ (.slice (some ⟨g, 0, none⟩) (M.length + 1) cap')) b n (M ++ [L]) Bs w1.heap.size := by
 have gA := World.grownBy_alloc wr (.cells #[u] 31) none
 have hb2 := bx.kept gA
 obtain ⟨D, e, hw, hbb, hin, hp⟩ := ho.kept gA
 have hb1 := hb2.by g1 (gr.box_ne hw gr.ty1 hb2)
 have hg1 : w.grownBy w1 (some c) := ⟨g1.os.trans (gA.os.trans hg.os), g1.tape.trans (gA.tape.trans hg.tape), g1.output.trans (gA.output.trans hg.output), Nat.le_trans hg.size (Nat.le_trans gA.size g1.size), fun k hk hne => by
  rw [g1.block k (Nat.lt_of_lt_of_le hk (Nat.le_trans hg.size gA.size)) (fun e => by have := (hw.lt k e.symm).1; omega), gA.block k (Nat.lt_of_lt_of_le hk hg.size) (fun e => by cases e)]
  exact hg.block k hk hne⟩
 have hcur1 : Cur w1 c := (hcur.kept gA (fun r e => by cases e)).kept g1 (fun r e => by have := (hw.lt r e).1; omega)
 have hB1 : ∀ p ∈ Bs, Box 47 w1 p.1 p.2.1 p.2.2 := by
  intro p hp'
  have hbb := (hB _ hp').2.2.kept gA
  exact hbb.by g1 (gr.box_ne hw gr.ty1 hbb)
 have gS := sl.grown_setCell w1 b 1 (.slice (some ⟨g, 0, none⟩) (M.length + 1) cap')
 refine ⟨⟨hb1.c1, hb1.f 1⟩, hb, hc, ?_, hcur1.kept gS (fun r e => by cases e; omega), by rw [cf.size_set]; exact Nat.le_refl _, fun p hp' => ⟨(hB p hp').1, (hB p hp').2.1, (hB1 p hp').setO (fun e => (hB p hp').1 e.symm)⟩, some ⟨g, 0, none⟩, cap', ?_, ?_⟩
 ·exact ⟨gS.os.trans hg1.os, gS.tape.trans hg1.tape, gS.output.trans hg1.output, Nat.le_trans hg1.size gS.size, fun k hk hne => (gS.block k (Nat.lt_of_lt_of_le hk hg1.size) (fun e => by cases e; omega)).trans (hg1.block k hk hne)⟩
 ·have := hb1.set1 (.slice (some ⟨g, 0, none⟩) (M.length + 1) cap')
  rw [List.length_append]
  exact this
 ·rw [List.length_append]
  exact gr.ownS_set h1 hb1
theorem MidD.setN {c : Nat} {w wr : World} {b : Nat} {n : Int} {M : List (List Int)} {Bs : List (Nat × Value × Value)} {hi : Nat} (h : MidD c w wr b n M Bs hi) (x : Int) : MidD c w (wr.setCell ⟨b, 0, none⟩ (.int .i64 x)) b x M Bs hi := by
 obtain ⟨hb, hc, hg, hcur, hh, hB, a, cap, bx, ho⟩ := h
 have gS := sl.grown_setCell wr b 0 (.int .i64 x)
 exact ⟨hb, hc, ⟨gS.os.trans hg.os, gS.tape.trans hg.tape, gS.output.trans hg.output, Nat.le_trans hg.size gS.size, fun k hk hne => (gS.block k (Nat.lt_of_lt_of_le hk hg.size) (fun e => by cases e; omega)).trans (hg.block k hk hne)⟩,
  hcur.kept gS (fun r e => by cases e; omega), by rw [cf.size_set]; exact hh, fun p hp => ⟨(hB p hp).1, (hB p hp).2.1, (hB p hp).2.2.setO (fun e => (hB p hp).1 e.symm)⟩, a, cap, bx.set0 _, gr.ownS_set ho bx⟩
def Drawn (c : Nat) (w w' : World) (v : Value) (M : List (List Int)) : Prop := OwnS w.heap.size w'.heap.size w' v M ∧ w.grownBy w' (some c) ∧ Cur w' c

def good (n : Int) (L : List Int) : Bool := decide (L.length ≤ 4) && L.all fun x => decide (x ≠ 0 ∧ -n ≤ x ∧ x ≤ n)
def Right (c : Nat) (w w' : World) (most n : Int) (v : Value) (M : List (List Int)) : Prop := (1 ≤ n ∧ n ≤ most) ∧ (M.length : Int) ≤ 4 * n + 2 ∧ M.all (good n) = true ∧ Drawn c w w' v M
theorem new_some {a b d : World} {c r : Nat} (h : a.grownBy b (some c)) (k : b.grownBy d (some r)) (hr : a.heap.size ≤ r) : a.grownBy d (some c) :=
 ⟨k.os.trans h.os, k.tape.trans h.tape, k.output.trans h.output, Nat.le_trans h.size k.size, fun i hi hn => (k.block i (Nat.lt_of_lt_of_le hi h.size) (fun e => by cases e; omega)).trans (h.block i hi hn)⟩
theorem good_nil (n : Int) : good n [] = true := by simp [good]
theorem good_all {n : Int} {N : List Int} (hl : N.length ≤ 4) (h : N.all (fun x => decide (x ≠ 0 ∧ -n ≤ x ∧ x ≤ n)) = true) : good n N = true := by
 unfold good
 rw [h, decide_eq_true hl]
 rfl
theorem all_snoc {n : Int} {N : List Int} {y : Int} (h : N.all (fun x => decide (x ≠ 0 ∧ -n ≤ x ∧ x ≤ n)) = true) (hy : y ≠ 0 ∧ -n ≤ y ∧ y ≤ n) : (N ++ [y]).all (fun x => decide (x ≠ 0 ∧ -n ≤ x ∧ x ≤ n)) = true := by
 rw [List.all_append, h]
 simp [hy]
theorem allG_snoc {n : Int} {M : List (List Int)} {L : List Int} (h : M.all (good n) = true) (hy : good n L = true) : (M ++ [L]).all (good n) = true := by
 rw [List.all_append, h]
 simp [hy]
theorem midD_start {c : Nat} {w w1 : World} {n : Int} (hlt : c < w.heap.size) (hc1 : Cur w1 c) (g1 : (w.alloc (.cells #[.int .i64 0, .slice none 0 0] 47)).grownBy w1 (some c)) :
  MidD c w (w1.alloc (.cells #[.int .i64 n, .slice none 0 0] 47)) w1.heap.size n [] [(w.heap.size, .int .i64 0, .slice none 0 0)] (w1.heap.size + 1) := by
 have g0 := World.grownBy_alloc w (.cells #[.int .i64 0, .slice none 0 0] 47) (some c)
 have hb := (Box.new 47 w (.int .i64 0) (.slice none 0 0)).by g1 (fun e => by cases e; omega)
 have gA := World.grownBy_alloc w1 (.cells #[.int .i64 n, .slice none 0 0] 47)
 have hs := (grown_trans' g0 g1).size
 refine ⟨hs, hlt, grown_trans' (grown_trans' g0 g1) (gA _), hc1.kept (gA none) (fun r e => by cases e), by rw [World.size_alloc]; exact Nat.le_refl _, fun p hp => ?_, none, 0, Box.new _ _ _ _, ?_⟩
 ·rw [List.mem_singleton] at hp
  subst hp
  exact ⟨fun e => by have := hb.lt; have e' : w.heap.size = w1.heap.size := e; omega, fun e => by have e' : w.heap.size = c := e; omega, hb.kept (gA none)⟩
 ·exact ⟨[], rfl, World.ownsRow_nil _ _ _ _, fun k e => (by cases e), fun p hp => (by cases hp), .nil⟩

set_option maxRecDepth 100000 in
set_option maxHeartbeats 4000000 in
theorem cnf (c : Nat) (most : Int) (w : World) (hc : Cur w c) (m0 : 0 < most) (m1 : most ≤ 6) :
  Calls Tryd.prog 105 #[.pointer (some ⟨c, 0, none⟩), .int .i64 most] w fun e w' => ∃ (n : Int) (v : Value) (M : List (List Int)), e = .returned (.agg #[.int .i64 n, v]) ∧ Right c w w' most n v M := by
 have hlt := hc.lt
 have C0 := hide (hc.kept (World.grownBy_alloc w (.cells #[.int .i64 0, .slice none 0 0] 47) none) (fun r e => by cases e))
 clear hc
 go_enter Tryd.func105, Tryd.ntmps105
 go_wp2_with fail
 refine (draw.below c _ _ (unhide C0) m0 (by omega)).mono ?_; rintro e w1 ⟨x, rfl, x0, x1, hc1, g1⟩
 have M1 := hide (midD_start (n := 1 + x) hlt hc1 g1)
 have y0 := (unhide M1).c0
 clear hc1 g1 C0
 go_wp2_with fail
 refine (draw.below c _ _ (unhide M1).cur (by omega) (by omega)).mono ?_; rintro e w2 ⟨k, rfl, k0, k1, hc2, g2⟩
 obtain ⟨K, rfl⟩ := Int.eq_ofNat_of_zero_le k0
 have M2 := hide (((unhide M1).turn g2 hc2))
 have hw1 := (unhide M1).2.2.2.2.1
 clear hc2 g2 M1 y0 k0
 generalize hb : w1.heap.size = b at *
 clear hb
 go_wp2_with fail
 go_loopg [7] K (fun gk i wr => ∃ (M : List (List Int)), M.length ≤ K ∧ gk = K - M.length ∧ i = .int .i64 M.length ∧ Hid (M.all (good (1 + x)) = true) ∧ Hid (∃ hi, MidD c w wr b (1 + x) M [(w.heap.size, .int .i64 0, .slice none 0 0)] hi))
 case atStart => exact ⟨[], Nat.zero_le _, rfl, rfl, rfl, _, unhide M2⟩
 case round =>
  obtain ⟨M, hj, hgk, rfl, hgood, hmid⟩ := hrel
  clear M2
  obtain ⟨hi0, hm0⟩ := unhide hmid
  have HM := hide hm0
  clear hmid hm0
  by_cases hlt' : M.length < K
  ·have hij : (M.length : Int) < (K : Int) := by omega
   have ST := hide (MadeC.start c wr (unhide HM).cur)
   have hcw : c < wr.heap.size := Nat.lt_of_lt_of_le hlt (unhide HM).grown.size
   go_wp2_with fail
   refine (draw.below c _ _ (unhide ST).2.2 (by decide) (by decide)).mono ?_; rintro e w3 ⟨q, rfl, q0, q1, hc3, g3⟩
   have S3 := hide ((unhide ST).turn hcw g3 hc3)
   clear hc3 g3 ST
   go_wp2_with fail
   refine (draw.once c _ _ (unhide S3).2.2 (by decide) (by decide)).mono ?_; rintro e w4 ⟨bt, rfl, hc4, g4⟩
   have S4 := hide ((unhide S3).turn hcw g4 hc4)
   clear hc4 g4 S3
   go_upto_if 33 with fail
   go_cut [9] from 23 to 66 (fun z wx => ∃ sz : Int, z = .int .i64 sz ∧ 0 ≤ sz ∧ sz ≤ 4 ∧ Hid (MadeC c wr wx (.slice (some ⟨wr.heap.size, 0, none⟩) 0 0) []))
   case first =>
    cases bt
    ·go_wp2_with fail
     go_meet
     exact ⟨_, rfl, by omega, by omega, S4⟩
    ·go_wp2_with fail
     refine (draw.below c _ _ (unhide S4).2.2 (by decide) (by decide)).mono ?_; rintro e w5 ⟨q', rfl, q0', q1', hc5, g5⟩
     have S5 := hide ((unhide S4).turn hcw g5 hc5)
     clear hc5 g5
     go_wp2_with fail
     go_meet
     exact ⟨_, rfl, by omega, by omega, S5⟩
   case rest =>
    obtain ⟨sz, rfl, sz0, sz1, hS⟩ := hcut
    clear S4 q0 q1
    go_upto_region 10 with fail
    go_cut [42] from 23 to 66 (fun z wx => ∃ bt : Bool, z = .bool bt ∧ Hid (MadeC c wr wx (.slice (some ⟨wr.heap.size, 0, none⟩) 0 0) []))
    case first =>
     by_cases h2 : sz < 2
     ·have OC := hide (draw.once c 3 _ (unhide hS).2.2 (by decide) (by decide))
      go_wp2_with (go_at_call 64; refine (unhide OC).mono ?_; rintro e w5 ⟨bu, rfl, hc5, g5⟩; have S5 := hide ((unhide hS).turn hcw g5 hc5); clear hc5 g5)
      go_meet
      exact ⟨_, rfl, S5⟩
     ·go_wp2_with fail
      go_meet
      exact ⟨_, rfl, hS⟩
    case rest =>
     obtain ⟨bv, rfl, hS2⟩ := hcut
     rename_i wc'
     clear hS
     go_upto_if 42 with fail
     go_cut [9] from 23 to 66 (fun z wx => ∃ sz : Nat, z = .int .i64 sz ∧ sz ≤ 4 ∧ Hid (MadeC c wr wx (.slice (some ⟨wr.heap.size, 0, none⟩) 0 0) []))
     case first =>
      cases bv
      ·go_wp2_with fail
       go_meet
       exact ⟨sz.toNat, by rw [Int.toNat_of_nonneg sz0], by omega, hS2⟩
      ·go_wp2_with fail
       go_meet
       exact ⟨2, rfl, by omega, hS2⟩
     case rest =>
      obtain ⟨Z, rfl, hZ, hS3⟩ := hcut
      clear hS2 sz0 sz1
      go_wp2_with fail
      go_loopg [8, 10] Z (fun gd u d wq => ∃ (N : List Int), N.length ≤ Z ∧ gd = Z - N.length ∧ d = .int .i64 N.length ∧ Hid (N.all (fun x_1 => decide (x_1 ≠ 0 ∧ -(1 + x) ≤ x_1 ∧ x_1 ≤ 1 + x)) = true) ∧ Hid (MadeC c wr wq u N))
      case atStart => exact ⟨[], Nat.zero_le _, rfl, rfl, rfl, hS3⟩
      case round =>
       obtain ⟨N, he, hgd, rfl, hall, hS4⟩ := hrel
       clear hS3
       by_cases hlz : N.length < Z
       ·have hiz : (N.length : Int) < (Z : Int) := by omega
        have y0 := ((unhide HM).turn (unhide hS4).2.1 (unhide hS4).2.2).c0
        have CB := hide (draw.below c (1 + x) _ (unhide hS4).2.2 (by omega) (by omega))
        go_wp2_with fail
        refine (unhide CB).mono ?_; rintro e' w6 ⟨q, rfl, q0, q1, hc6, g6⟩
        have S6 := hide ((unhide hS4).turn hcw g6 hc6)
        clear hc6 g6 CB hS4 y0
        go_wp2_with fail
        refine (draw.once c _ _ (unhide S6).2.2 (by decide) (by decide)).mono ?_; rintro e' w7 ⟨bw, rfl, hc7, g7⟩
        have S7 := hide ((unhide S6).turn hcw g7 hc7)
        clear hc7 g7 S6
        cases bw
        ·have HA := hide (all_snoc (y := 1 + q) (unhide hall) (by omega))
         clear hall
         go_wp2_with (at_builtin; refine appendC (unhide S7) hcw (by omega) rfl _ _ rfl rfl rfl ?_)
         intro v' w8 R
         have S8 := hide R
         clear R S7
         go_wp2
         go_roundg (Z - (N.length + 1))
         case measure => omega
         case rel => exact ⟨_, by rw [List.length_append]; simp; omega, by rw [List.length_append]; rfl, by rw [List.length_append]; go_num, HA, S8⟩
        ·have HA := hide (all_snoc (y := -(1 + q)) (unhide hall) (by omega))
         clear hall
         go_wp2_with (at_builtin; refine appendC (unhide S7) hcw (by omega) rfl _ _ rfl rfl rfl ?_)
         intro v' w8 R
         have S8 := hide R
         clear R S7
         go_wp2
         go_roundg (Z - (N.length + 1))
         case measure => omega
         case rel => exact ⟨_, by rw [List.length_append]; simp; omega, by rw [List.length_append]; rfl, by rw [List.length_append]; go_num, HA, S8⟩
       ·have hiz : ¬ (N.length : Int) < (Z : Int) := by omega
        have GN := hide (good_all (n := 1 + x) (N := N) (by omega) (unhide hall))
        have G2 := hide (allG_snoc (unhide hgood) (unhide GN))
        obtain ⟨ua, uc, hue⟩ := (unhide hS4).form
        subst hue
        obtain ⟨qb, qc, qg, qcur, qh, qB, oa, ocap, bx, ho⟩ := (unhide HM).turn (unhide hS4).2.1 (unhide hS4).2.2
        have ou := hide (sl.Own.of (unhide hS4).1)
        have ho' := hide (ho.sub (Nat.le_refl _) (unhide HM).2.2.2.2.1)
        have HS := hide (fun (g' cap' : Nat) (w1 : World) h1 g1 => MidD.step (u := .slice ua N.length uc) (L := N) (g := g') (cap' := cap') (w1 := w1) qb qc qg qcur qB bx (unhide ho') h1 g1)
        have hlo : w.heap.size ≤ _ := (unhide HM).grown.size
        have hmd := (unhide hS4).2.1.size
        have b0 := bx.c0
        have b1 := bx.c1
        have HL := hide hlo
        have HMD := hide hmd
        clear hlo hmd qg qcur qB ho bx HM hall GN hS4
        go_wp2_with (at_builtin; refine gr.appendR (unhide ho') (unhide ou) (unhide HL) (unhide HMD) (by omega) rfl _ _ rfl rfl rfl ?_)
        intro g' cap' w9 h1 g1
        obtain ⟨⟨s1, s2⟩, m9⟩ := unhide HS g' cap' w9 h1 g1
        have M9 := hide m9
        clear h1 g1 m9 HS ho' ou
        go_wp2
        go_roundg (K - (M.length + 1))
        case measure => omega
        case rel => exact ⟨_, by rw [List.length_append]; simp; omega, by rw [List.length_append]; rfl, by rw [List.length_append]; go_num, G2, _, unhide M9⟩
  ·have hij : ¬ (M.length : Int) < (K : Int) := by omega
   obtain ⟨qb, qc, qg, qcur, qh, qB, oa, ocap, bx, ho⟩ := unhide HM
   have br := (qB _ (List.mem_singleton.2 rfl)).2.2
   have hbr := (qB _ (List.mem_singleton.2 rfl)).1
   have o0 := bx.c0
   have o1 := bx.c1
   have rc0 := br.c0
   have rc1 := br.c1
   have rf0 := br.f 0
   have rf1 := br.f 1
   have BR := hide br
   have OO := hide ho
   have QG := hide qg
   have QC := hide qcur
   clear qg qcur qB bx ho HM br
   go_wp2
   have bb := ((unhide BR).set0 (.int .i64 (1 + x))).set1 (.slice oa M.length ocap)
   have b1 := (unhide BR).set0 (.int .i64 (1 + x))
   have rg : w.heap.size < wr.heap.size := (unhide BR).lt
   (try simp only [Exit.inBlock, Exit.then])
   refine bodyPost_ret (cf.ret_box rfl rfl bb) rfl ⟨_, _, rfl, M, ⟨by omega, by omega⟩, by omega, unhide hgood, ?_, ?_, ?_⟩
   ·have := gr.ownS_set (i := 1) (u := .slice oa M.length ocap) (gr.ownS_set (i := 0) (u := .int .i64 (1 + x)) (unhide OO) (unhide BR)) b1
    exact this.sub (Nat.le_refl _) (by rw [cf.size_set, cf.size_set]; exact qh)
   ·have g1 := sl.grown_setCell wr w.heap.size 0 (.int .i64 (1 + x))
    have g2 := sl.grown_setCell (wr.setCell ⟨w.heap.size, 0, none⟩ (.int .i64 (1 + x))) w.heap.size 1 (.slice oa M.length ocap)
    exact new_some (new_some (unhide QG) g1 (Nat.le_refl _)) g2 (Nat.le_refl _)
   ·have g1 := sl.grown_setCell wr w.heap.size 0 (.int .i64 (1 + x))
    have g2 := sl.grown_setCell (wr.setCell ⟨w.heap.size, 0, none⟩ (.int .i64 (1 + x))) w.heap.size 1 (.slice oa M.length ocap)
    exact ((unhide QC).kept g1 (fun r e => by cases e; exact hlt)).kept g2 (fun r e => by cases e; exact hlt)
end Go.Proofs.YtabiopkjeodamaaDoor.dcn
namespace Go.Proofs.YtabiopkjeodamaaDoor.dcn
open Go.ChangeShapes Go.WideShapes Go.ChangeAt Go.RowKit
open sl (Sl Own ints hide unhide grown_refl grown_trans grown_trans' of_below below_of grown_drewN)
open css (Sls OwnS tot)
open cf (Box)
open draw (Cur Bs I64 newCur grown_new)
open dcls (MadeC MadeC.start appendC)
set_option linter.unusedVariables false

def Bd (n : Int) (M : List (List Int)) (k : Nat) : Prop := (-1 ≤ n ∧ n ≤ 25) ∧ M.length ≤ k ∧ ∀ L ∈ M, L.length ≤ 49
theorem bd_good {n : Int} {M : List (List Int)} (hn : 1 ≤ n ∧ n ≤ 6) (hl : (M.length : Int) ≤ 4 * n + 2) (h : M.all (good n) = true) : Bd n M 26 := by
 refine ⟨by omega, by omega, fun L hL => ?_⟩
 have := List.all_eq_true.1 h L hL
 unfold good at this
 rw [Bool.and_eq_true, decide_eq_true_iff] at this
 omega
theorem Bd.snoc {n : Int} {M : List (List Int)} {k : Nat} {L : List Int} (h : Bd n M k) (hL : L.length ≤ 49) : Bd n (M ++ [L]) (k + 1) := by
 refine ⟨h.1, by rw [List.length_append]; have := h.2.1; simp; omega, fun K hK => ?_⟩
 rw [List.mem_append, List.mem_singleton] at hK
 rcases hK with hK | rfl
 ·exact h.2.2 K hK
 ·exact hL
theorem Bd.more {n : Int} {M : List (List Int)} {k k' : Nat} (h : Bd n M k) (hk : k ≤ k') : Bd n M k' := ⟨h.1, Nat.le_trans h.2.1 hk, h.2.2⟩
theorem Bd.setN {n n' : Int} {M : List (List Int)} {k : Nat} (h : Bd n M k) (hn : -1 ≤ n' ∧ n' ≤ 25) : Bd n' M k := ⟨hn, h.2⟩
def Any (c : Nat) (w wr : World) (b k : Nat) : Prop := ∃ n M hi, Bd n M k ∧ MidD c w wr b n M [(w.heap.size, .int .i64 0, .slice none 0 0)] hi
def Came (c : Nat) (w w' : World) (n : Int) (v : Value) (M : List (List Int)) : Prop := Bd n M 121 ∧ Drawn c w w' v M
theorem midD_of {c : Nat} {w w1 : World} {n : Int} {a : Option Addr} {cap : Nat} {M : List (List Int)} (hlt : c < w.heap.size) (d : Drawn c (w.alloc (.cells #[.int .i64 0, .slice none 0 0] 47)) w1 (.slice a M.length cap) M) :
  MidD c w (w1.alloc (.cells #[.int .i64 n, .slice a M.length cap] 47)) w1.heap.size n M [(w.heap.size, .int .i64 0, .slice none 0 0)] w1.heap.size := by
 obtain ⟨ho, g1, hc1⟩ := d
 have g0 := World.grownBy_alloc w (.cells #[.int .i64 0, .slice none 0 0] 47) (some c)
 have hb := (Box.new 47 w (.int .i64 0) (.slice none 0 0)).by g1 (fun e => by cases e; omega)
 have gA := World.grownBy_alloc w1 (.cells #[.int .i64 n, .slice a M.length cap] 47)
 have hs := (grown_trans' g0 g1).size
 refine ⟨hs, hlt, grown_trans' (grown_trans' g0 g1) (gA _), hc1.kept (gA none) (fun r e => by cases e), by rw [World.size_alloc]; omega, fun p hp => ?_, a, cap, Box.new _ _ _ _, ?_⟩
 ·rw [List.mem_singleton] at hp
  subst hp
  exact ⟨fun e => by have := hb.lt; have e' : w.heap.size = w1.heap.size := e; omega, fun e => by have e' : w.heap.size = c := e; omega, hb.kept (gA none)⟩
 ·exact (ho.kept (gA none)).sub (by rw [World.size_alloc]; omega) (Nat.le_refl _)

theorem wr120 {x : Int} (h0 : 0 ≤ x) (h1 : x < 2) : IntKind.i64.wrap (120 + x) = 120 + x := by
 have : x = 0 ∨ x = 1 := by omega
 rcases this with rfl | rfl <;> rfl
theorem Drawn.stored {c : Nat} {w wr : World} {hi : Nat} {a : Option Addr} {cap : Nat} {M : List (List Int)} {x y : Value} (hlt : c < w.heap.size) (qg : w.grownBy wr (some c)) (qcur : Cur wr c) (qh : hi ≤ wr.heap.size) (ho : OwnS w.heap.size hi wr (.slice a M.length cap) M) (br : Box 47 wr w.heap.size x y) (n : Int) :
  Drawn c w ((wr.setCell ⟨w.heap.size, 0, none⟩ (.int .i64 n)).setCell ⟨w.heap.size, 1, none⟩ (.slice a M.length cap)) (.slice a M.length cap) M := by
 have g1 := sl.grown_setCell wr w.heap.size 0 (.int .i64 n)
 have g2 := sl.grown_setCell (wr.setCell ⟨w.heap.size, 0, none⟩ (.int .i64 n)) w.heap.size 1 (.slice a M.length cap)
 refine ⟨?_, new_some (new_some qg g1 (Nat.le_refl _)) g2 (Nat.le_refl _), (qcur.kept g1 (fun r e => by cases e; exact hlt)).kept g2 (fun r e => by cases e; exact hlt)⟩
 have := gr.ownS_set (i := 1) (u := .slice a M.length cap) (gr.ownS_set (i := 0) (u := .int .i64 n) ho br) (br.set0 (.int .i64 n))
 exact this.sub (Nat.le_refl _) (by rw [cf.size_set, cf.size_set]; exact qh)

set_option maxRecDepth 100000 in
set_option maxHeartbeats 4000000 in
theorem any (c : Nat) (w : World) (hc : Cur w c) :
  Calls Tryd.prog 104 #[.pointer (some ⟨c, 0, none⟩)] w fun e w' => ∃ (n : Int) (v : Value) (M : List (List Int)), e = .returned (.agg #[.int .i64 n, v]) ∧ Came c w w' n v M := by
 have hlt := hc.lt
 have C0 := hide (cnf c 6 _ (hc.kept (World.grownBy_alloc w (.cells #[.int .i64 0, .slice none 0 0] 47) none) (fun r e => by cases e)) (by decide) (by decide))
 clear hc
 go_enter Tryd.func104, Tryd.ntmps104
 go_wp2_with fail
 refine (unhide C0).mono ?_; rintro e w1 ⟨n, v, M, rfl, hn, hl, hg, hd⟩
 obtain ⟨va, vc, rfl⟩ := hd.1.len
 have A1 : Hid (Any c w (w1.alloc (.cells #[.int .i64 n, .slice va M.length vc] 47)) w1.heap.size 26) := ⟨n, M, _, bd_good hn hl hg, midD_of hlt hd⟩
 have m1 := hide (midD_of (n := n) hlt hd)
 have B0 := hide (bd_good hn hl hg)
 clear hl hg hd C0
 go_wp2_with fail
 refine (draw.below c _ _ (unhide m1).cur (by decide) (by decide)).mono ?_; rintro e w2 ⟨k, rfl, k0, k1, hc2, g2⟩
 have M2 := hide ((unhide m1).turn g2 hc2)
 have hb1 : w1.heap.size < w2.heap.size := by have := g2.size; rw [World.size_alloc] at this; omega
 clear hc2 g2 m1 A1
 generalize hb : w1.heap.size = b at *
 clear hb
 go_upto_block 0 with fail
 go_cut [8] (fun _ wx => Hid (Any c w wx b 27))
 case first =>
  have y0 := (unhide M2).c0
  by_cases k_0 : k = 0
  ·subst k_0
   have P := hide (fun (w3 : World) (hl : w3 = w2.alloc (.cells #[.int .i64 (-1), .int .i64 0, .int .i64 25, .int .i64 24, .int .i64 (n + 1)] 3)) => draw.pickInt c (.slice (some ⟨w2.heap.size, 0, none⟩) 5 5) [-1, 0, 25, 24, n + 1] w3 (by rw [hl]; exact (unhide M2).cur.kept (World.grownBy_alloc w2 _ none) (fun r e => by cases e)) (by simp) (by simp) (by rw [hl]; exact Sl.of_own (draw.own_alloc w2 [-1, 0, 25, 24, n + 1] (by show 5 ≤ maxLen; decide))) (fun k e => by cases e; exact Nat.lt_of_lt_of_le hlt (unhide M2).grown.size))
   have TA := hide (fun (w4 : World) (hc4 : Cur w4 c) (g4 : (w2.alloc (.cells #[.int .i64 (-1), .int .i64 0, .int .i64 25, .int .i64 24, .int .i64 (n + 1)] 3)).grownBy w4 (some c)) => (unhide M2).turn (grown_trans' (World.grownBy_alloc w2 _ (some c)) g4) hc4)
   go_wp2_with fail
   refine (unhide P _ rfl).mono ?_; rintro e w4 ⟨x, rfl, hx, hc4, g4⟩
   have M4 := hide (unhide TA w4 hc4 g4)
   have hx' : -1 ≤ x ∧ x ≤ 25 := by
    simp at hx
    omega
   have y1 := (unhide M4).c0
   have y2 : w4.frozen? ⟨b, 0, none⟩ = false := by
    obtain ⟨_, _, _, _, _, _, a, cap, bx, _⟩ := unhide M4
    exact bx.f 0
   clear hx hc4 g4 P TA
   go_wp2_with fail
   go_meet
   exact ⟨x, M, _, ((unhide B0).setN hx').more (by decide), (unhide M4).setN x⟩
  ·by_cases k_1 : k = 1
   ·subst k_1
    have CL := hide (dcls.clause c 9 4 w2.drew ((unhide M2).cur.kept (cf.grown_drew w2 none) (fun r e => by cases e)) (by decide) (by decide) (by decide) (by decide))
    obtain ⟨qb, qc, qg, qcur, qh, qB, oa, ocap, bx, ho⟩ := unhide M2
    have hlo : w.heap.size ≤ w2.heap.size := qg.size
    have hMl : M.length ≤ 1048576 := by have := (unhide B0).2.1; omega
    have b1 := bx.c1
    have HT := hide (fun (w3 : World) (ua : Option Addr) (uc : Nat) (L : List Int) (m3 : MadeC c w2.drew w3 (.slice ua L.length uc) L) => And.intro ((bx.by (grown_trans' (cf.grown_drew w2 (some c)) m3.2.1) (fun e => by cases e; omega))) (And.intro ((ownS_turn ho qc (grown_trans' (cf.grown_drew w2 (some c)) m3.2.1)).sub (Nat.le_refl _) qh) (And.intro (sl.Own.of m3.1) m3.2.1.size)))
    have HS := hide (fun (w3 : World) (ua : Option Addr) (uc : Nat) (L : List Int) (m3 : MadeC c w2.drew w3 (.slice ua L.length uc) L) (g' cap' : Nat) (w1 : World) h1 g1 => MidD.step (u := .slice ua L.length uc) (L := L) (g := g') (cap' := cap') (w1 := w1) qb qc (grown_trans' qg (grown_trans' (cf.grown_drew w2 (some c)) m3.2.1)) m3.2.2 (fun p hp => ⟨(qB p hp).1, (qB p hp).2.1, (qB p hp).2.2.by (grown_trans' (cf.grown_drew w2 (some c)) m3.2.1) (fun e => (qB p hp).2.1 (by cases e; rfl))⟩) (unhide HT w3 ua uc L m3).1 (unhide HT w3 ua uc L m3).2.1 h1 g1)
    clear bx ho qg qcur qB
    go_upto_region 6 with fail
    go_region_law
     (first
      | (go_simp; go_at_call 132; refine (unhide CL).mono ?_; rintro e w3 ⟨u3, L, rfl, hL3, m3⟩; obtain ⟨ua, uc, rfl⟩ := m3.form; obtain ⟨bx3, oo3, ou3, sz3⟩ := unhide HT w3 ua uc L m3; have k1 := bx3.c1; have k2 := bx3.f 1; have k9 := (bx3.kept (World.grownBy_alloc w3 (.cells #[.slice ua L.length uc] 31) none)).c1; have OO3 := hide oo3; have OU3 := hide ou3; have SZ3 := hide sz3; have M3 := hide m3; clear oo3 ou3 sz3 m3 bx3)
      | (refine gr.stepR (unhide OO3) (unhide OU3) hlo (unhide SZ3) hMl (by rfl) _ _ (by rfl) (by rfl) (by rfl) ?_; intro g4 cap4 w4 h4 g4'; have R4 := hide (unhide HS w3 ua uc L (unhide M3) g4 cap4 w4 h4 g4'); have k3 := (unhide R4).1.1; have k4 := (unhide R4).1.2; clear h4 g4'))
    all_goals
     go_wp2_with fail
     go_meet
     exact ⟨n, _, _, (unhide B0).snoc hL3, (unhide R4).2⟩
   ·by_cases k_2 : k = 2
    ·subst k_2
     have ST := hide (MadeC.start c w2 (unhide M2).cur)
     have x1 : w2.cell? ⟨b, 1, none⟩ = w2.cell? ⟨b, 1, none⟩ := rfl
     obtain ⟨qb, qc, qg, qcur, qh, qB, oa, ocap, bx, ho⟩ := (unhide M2).turn (unhide ST).2.1 (unhide ST).2.2
     have ou := hide (sl.Own.of (L := []) (unhide ST).1)
     have ho' := hide (ho.sub (hi' := w2.heap.size) (Nat.le_refl _) (unhide M2).2.2.2.2.1)
     have HS := hide (fun (g' cap' : Nat) (w1 : World) h1 g1 => MidD.step (u := .slice (some ⟨w2.heap.size, 0, none⟩) 0 0) (L := []) (g := g') (cap' := cap') (w1 := w1) qb qc qg qcur qB bx (unhide ho') h1 g1)
     have hlo : w.heap.size ≤ w2.heap.size := (unhide M2).grown.size
     have hmd := (unhide ST).2.1.size
     have hMl : M.length ≤ 1048576 := by have := (unhide B0).2.1; omega
     have b1 : w2.cell? ⟨b, 1, none⟩ = some (.slice oa M.length ocap) := by
      have e : (w2.alloc (.cells #[] 3)).heap[b]? = w2.heap[b]? := Below.heap_alloc _ _ _ hb1
      rw [← World.cell?_of_block (a := ⟨b, 1, none⟩) e]
      exact bx.c1
     have HMD := hide hmd
     clear hmd qg qcur qB ho bx ST x1
     go_wp2_with (at_builtin; refine gr.appendR (unhide ho') (unhide ou) hlo (unhide HMD) hMl rfl _ _ rfl rfl (by rw [World.size_alloc]; rfl) ?_)
     intro g' cap' w9 h1 g1
     obtain ⟨⟨s1, s2⟩, m9⟩ := unhide HS g' cap' w9 h1 g1
     have M9 := hide m9
     clear h1 g1 m9 HS ho' ou
     go_wp2_with fail
     go_meet
     exact ⟨n, _, _, (unhide B0).snoc (by decide), unhide M9⟩
    ·have e0 : (k == 0) = false := beq_eq_false_iff_ne.2 k_0
     have e1 : (k == 1) = false := beq_eq_false_iff_ne.2 k_1
     have e2 : (k == 2) = false := beq_eq_false_iff_ne.2 k_2
     go_wp2_with fail
     go_meet
     exact ⟨n, M, _, (unhide B0).more (by decide), unhide M2⟩
 case rest =>
  clear M2 B0 k0 k1 hn
  obtain ⟨n2, N, hi2, bd2, md2⟩ := unhide hcut
  have M2 := hide md2
  have B2 := hide bd2
  clear hcut bd2 md2
  go_wp2_with fail
  refine (draw.once c _ _ (unhide M2).cur (by decide) (by decide)).mono ?_; rintro e w3 ⟨bt, rfl, hc3, g3⟩
  have M3 := hide ((unhide M2).turn g3 hc3)
  clear hc3 g3 M2
  cases bt
  ·obtain ⟨qb, qc, qg, qcur, qh, qB, oa, ocap, bx, ho⟩ := unhide M3
   have br := (qB _ (List.mem_singleton.2 rfl)).2.2
   have o0 := bx.c0
   have o1 := bx.c1
   have rc0 := br.c0
   have rc1 := br.c1
   have rf0 := br.f 0
   have rf1 := br.f 1
   have BR := hide br
   have DR := hide (Drawn.stored hlt qg qcur qh ho br n2)
   clear qg qcur qB bx ho M3 br
   go_wp2_with fail
   (try simp only [Exit.inBlock, Exit.then])
   refine bodyPost_ret (cf.ret_box rfl rfl (((unhide BR).set0 (.int .i64 n2)).set1 (.slice oa N.length ocap))) rfl ⟨_, _, N, rfl, (unhide B2).more (by decide), unhide DR⟩
  ·go_wp2_with fail
   go_loopg [36] (121 - N.length) (fun gk _ wr => ∃ (M : List (List Int)) (hi : Nat), M.length ≤ 121 ∧ gk = 121 - M.length ∧ Hid (Bd n2 M 121) ∧ Hid (MidD c w wr b n2 M [(w.heap.size, .int .i64 0, .slice none 0 0)] hi))
   case atStart => exact ⟨N, _, by have := (unhide B2).2.1; omega, rfl, (unhide B2).more (by decide), unhide M3⟩
   case round =>
    obtain ⟨M, hi, hM, hgk, hbd, hmd⟩ := hrel
    clear M3 B2
    have CB := hide (draw.below c 2 wr.drew ((unhide hmd).cur.kept (cf.grown_drew wr none) (fun r e => by cases e)) (by decide) (by decide))
    have TM := hide (fun (w4 : World) (hc4 : Cur w4 c) (g4 : wr.drew.grownBy w4 (some c)) => (unhide hmd).turn (grown_trans' (cf.grown_drew wr (some c)) g4) hc4)
    obtain ⟨va, vc, hbx⟩ : ∃ va vc, Box 47 wr b (.int .i64 n2) (.slice va M.length vc) := by
     obtain ⟨_, _, _, _, _, _, a, cap, bx, _⟩ := unhide hmd
     exact ⟨a, cap, bx⟩
    have TB := hide (fun (w4 : World) (g4 : wr.drew.grownBy w4 (some c)) => hbx.by (grown_trans' (cf.grown_drew wr (some c)) g4) (fun e => by have := (unhide hmd).1; cases e; omega))
    have x1 := hbx.c1
    clear hbx
    go_upto_region 10 with fail
    go_cut [42] from 36 to 48 (fun q wx => ∃ x : Int, (0 ≤ x ∧ x < 2) ∧ q = .bool (decide ((M.length : Int) < 120 + x)) ∧ Hid (MidD c w wx b n2 M [(w.heap.size, .int .i64 0, .slice none 0 0)] hi))
    case first =>
     go_region_with (go_at_call 37; refine (unhide CB).mono ?_; rintro e w4 ⟨x, rfl, x0, x1', hc4, g4⟩; have M4 := hide (unhide TM w4 hc4 g4); have z1 := (unhide TB w4 g4).c1; clear hc4 g4)
     all_goals
      go_wp2_with fail
      go_meet
      exact ⟨x, ⟨x0, x1'⟩, by rw [wr120 x0 x1'], M4⟩
    case rest =>
     obtain ⟨x, hx, rfl, hm4⟩ := hcut
     clear hmd CB TM TB x1
     by_cases hl : (M.length : Int) < 120 + x
     ·have hl' : decide ((M.length : Int) < 120 + x) = true := decide_eq_true hl
      have hbc : b < wc.heap.size := by
       obtain ⟨_, _, _, _, _, _, a, cap, bx, _⟩ := unhide hm4
       exact bx.lt
      have ST := hide (show wc.grownBy (wc.alloc (.cells #[.int .i64 1] 3)) (some c) ∧ Cur (wc.alloc (.cells #[.int .i64 1] 3)) c from ⟨World.grownBy_alloc _ _ _, (unhide hm4).cur.kept (World.grownBy_alloc wc (.cells #[.int .i64 1] 3) none) (fun r e => by cases e)⟩)
      obtain ⟨qb, qc, qg, qcur, qh, qB, oa, ocap, bx, ho⟩ := (unhide hm4).turn (unhide ST).1 (unhide ST).2
      have ou : Hid (Own wc.heap.size (wc.alloc (.cells #[.int .i64 1] 3)).heap.size (wc.alloc (.cells #[.int .i64 1] 3)) (.slice (some ⟨wc.heap.size, 0, none⟩) 1 1) [1]) := sl.Own.of (L := [1]) (draw.own_alloc wc [1] (by decide))
      have ho' := hide (ho.sub (hi' := wc.heap.size) (Nat.le_refl _) (unhide hm4).2.2.2.2.1)
      have HS := hide (fun (g' cap' : Nat) (w1 : World) h1 g1 => MidD.step (u := .slice (some ⟨wc.heap.size, 0, none⟩) 1 1) (L := [1]) (g := g') (cap' := cap') (w1 := w1) qb qc qg qcur qB bx (unhide ho') h1 g1)
      have hlo : w.heap.size ≤ wc.heap.size := (unhide hm4).grown.size
      have hmd := (unhide ST).1.size
      have b1 : wc.cell? ⟨b, 1, none⟩ = some (.slice oa M.length ocap) := by
       have e : (wc.alloc (.cells #[.int .i64 1] 3)).heap[b]? = wc.heap[b]? := Below.heap_alloc _ _ _ hbc
       rw [← World.cell?_of_block (a := ⟨b, 1, none⟩) e]
       exact bx.c1
      have HMD := hide hmd
      clear hmd qg qcur qB ho bx ST hm4
      have hMl : M.length ≤ 1048576 := by omega
      go_wp2_with (at_builtin; refine gr.appendR (unhide ho') (unhide ou) hlo (unhide HMD) hMl rfl _ _ rfl rfl (by rw [World.size_alloc]; rfl) ?_)
      intro g' cap' w9 h1 g1
      obtain ⟨⟨s1, s2⟩, m9⟩ := unhide HS g' cap' w9 h1 g1
      have M9 := hide m9
      have HB := hide (show Bd n2 (M ++ [[1]]) 121 from ⟨(unhide hbd).1, by rw [List.length_append]; simp; omega, ((unhide hbd).snoc (by decide)).2.2⟩)
      clear h1 g1 m9 HS ho' ou hbd
      go_wp2_with fail
      go_roundg (121 - (M.length + 1))
      case measure => omega
      case rel => exact ⟨_, _, by rw [List.length_append]; simp; omega, by rw [List.length_append]; rfl, HB, M9⟩
     ·have hl' : decide ((M.length : Int) < 120 + x) = false := decide_eq_false hl
      obtain ⟨qb, qc, qg, qcur, qh, qB, oa, ocap, bx, ho⟩ := unhide hm4
      have br := (qB _ (List.mem_singleton.2 rfl)).2.2
      have o0 := bx.c0
      have o1 := bx.c1
      have rc0 := br.c0
      have rc1 := br.c1
      have rf0 := br.f 0
      have rf1 := br.f 1
      have BR := hide br
      have DR := hide (Drawn.stored hlt qg qcur qh ho br n2)
      clear qg qcur qB bx ho hm4 br
      go_wp2_with fail
      (try simp only [Exit.inBlock, Exit.then])
      refine bodyPost_ret (cf.ret_box rfl rfl (((unhide BR).set0 (.int .i64 n2)).set1 (.slice oa M.length ocap))) rfl ⟨_, _, rfl, M, unhide hbd, unhide DR⟩
end Go.Proofs.YtabiopkjeodamaaDoor.dcn
namespace Go.Proofs.YtabiopkjeodamaaDoor.qm
open as_ (litAt tl tl_snoc tl_len)
open cls (hasB)
open ok (cnfB litIn)
open l4 (openB emptyB)
set_option linter.unusedVariables false
theorem tl_getD (A : List Int) : ∀ (k i : Nat), i < A.length → (tl k A).getD i 0 = litAt (k + i) (A.getD i 0) := by
 induction A with
 | nil => intro k i h; exact absurd h (Nat.not_lt_zero _)
 | cons x A ih =>
  intro k i h
  cases i with
  | zero => rfl
  | succ i =>
   have := ih (k + 1) i (by simpa using h)
   show (tl (k + 1) A).getD i 0 = litAt (k + (i + 1)) (A.getD i 0)
   rw [this, show k + 1 + i = k + (i + 1) by omega]
theorem tl_take (A : List Int) : ∀ (k m : Nat), (tl k A).take m = tl k (A.take m) := by
 induction A with
 | nil => intro k m; cases m <;> rfl
 | cons x A ih =>
  intro k m
  cases m with
  | zero => rfl
  | succ m => show litAt k x :: (tl (k + 1) A).take m = litAt k x :: tl (k + 1) (A.take m); rw [ih]
theorem getD_mem {A : List Int} {i : Nat} (h : i < A.length) : A.getD i 0 ∈ A := by
 rw [show A.getD i 0 = A[i] by simp [h]]
 exact List.getElem_mem h
def turnB (P : List Int) : Bool := decide (∀ i, i < P.length → P.getD i 0 = (i : Int) + 1 ∨ P.getD i 0 = -(i : Int) - 1)
def vals (P : List Int) : List Int := P.map fun x => if 0 < x then 1 else 0
theorem vals_len (P : List Int) : (vals P).length = P.length := List.length_map ..
theorem vals_bit (P : List Int) : ∀ x ∈ vals P, x = 0 ∨ x = 1 := by
 intro x hx
 obtain ⟨y, _, rfl⟩ := List.mem_map.1 hx
 split
 ·exact .inr rfl
 ·exact .inl rfl
theorem vals_at {P : List Int} {i : Nat} (h : i < P.length) : (vals P).getD i 0 = if 0 < P.getD i 0 then 1 else 0 := by
 simp [vals, h]
theorem vals_snoc (P : List Int) (k : Nat) (h : k < P.length) : vals (P.take (k + 1)) = vals (P.take k) ++ [if 0 < P.getD k 0 then 1 else 0] := by
 rw [List.take_succ_eq_append_getElem h, show P.getD k 0 = P[k] by simp [h]]
 unfold vals
 rw [List.map_append]
 rfl
theorem turn_tl {P : List Int} (h : turnB P = true) : tl 0 (vals P) = P := by
 have h := of_decide_eq_true h
 refine List.ext_getElem (by rw [tl_len, vals_len]) fun i h1 h2 => ?_
 have e1 := tl_getD (vals P) 0 i (by rw [vals_len]; exact h2)
 rw [show (tl 0 (vals P)).getD i 0 = (tl 0 (vals P))[i] by simp [h1], vals_at h2, Nat.zero_add] at e1
 rw [e1]
 have e2 : P.getD i 0 = P[i] := by simp [h2]
 rw [← e2]
 unfold as_.litAt
 rcases h i h2 with q | q
 ·have h0 : (0 : Int) < (i : Int) + 1 := by omega
  rw [q]
  simp only [if_pos h0, if_true]
 ·have h0 : ¬ (0 : Int) < -(i : Int) - 1 := by omega
  rw [q]
  simp only [if_neg h0]
  rfl
theorem tl_turn (A : List Int) : turnB (tl 0 A) = true := by
 unfold turnB
 rw [decide_eq_true_iff]
 intro i hi
 rw [tl_len] at hi
 rw [tl_getD A 0 i hi, Nat.zero_add]
 unfold as_.litAt
 split
 ·exact .inl rfl
 ·exact .inr rfl
theorem tl_vals {A : List Int} (hA : ∀ x ∈ A, x = 0 ∨ x = 1) : vals (tl 0 A) = A := by
 refine List.ext_getElem (by rw [vals_len, tl_len]) fun i h1 h2 => ?_
 have e1 := vals_at (P := tl 0 A) (i := i) (by rw [tl_len]; exact h2)
 rw [show (vals (tl 0 A)).getD i 0 = (vals (tl 0 A))[i] by simp [h1], tl_getD A 0 i h2, Nat.zero_add] at e1
 rw [e1]
 have e2 : A.getD i 0 = A[i] := by simp [h2]
 rw [← e2]
 unfold as_.litAt
 rcases hA _ (getD_mem h2) with q | q
 ·rw [q, if_neg (show ¬ (0 : Int) = 1 by decide)]
  exact if_neg (by omega)
 ·rw [q, if_pos rfl]
  exact if_pos (by omega)
def machB (n : Int) (LL : List (List Int)) (P : List Int) (st k : Int) : Bool :=
 cnfB n LL && decide ((P.length : Int) ≤ n) && turnB P && decide (0 ≤ k ∧ k ≤ 1000000000) && (decide (st = 0) || (decide (st = 1) && decide ((P.length : Int) = n)) || (decide (st = 2) && decide (P.length = 0)))
structure MS where
 A : List Int
 st : Int
 k : Int
def cutN (A : List Int) : Nat → Nat
 | 0 => 0
 | m + 1 => if A.getD m 0 = 1 then cutN A m else m + 1
def back (A : List Int) : List Int := A.take (cutN A A.length - 1) ++ [1]
def stepM (n : Nat) (LL : List (List Int)) (m : MS) : MS :=
 if m.st = 0 ∧ m.k < 1000000000 then
  if openB LL (tl 0 m.A) then
   if m.A.length = n then ⟨m.A, 1, m.k + 1⟩ else ⟨m.A ++ [0], 0, m.k + 1⟩
  else if cutN m.A m.A.length = 0 then ⟨[], 2, m.k + 1⟩ else ⟨back m.A, 0, m.k + 1⟩
 else m
def runM (n : Nat) (LL : List (List Int)) : Nat → MS → MS
 | 0, m => m
 | j + 1, m => runM n LL j (stepM n LL m)
structure OkM (n : Nat) (m : MS) : Prop where
 len : m.A.length ≤ n
 bit : ∀ x ∈ m.A, x = 0 ∨ x = 1
 k0 : 0 ≤ m.k
 k1 : m.k ≤ 1000000000
 st : m.st = 0 ∨ (m.st = 1 ∧ m.A.length = n) ∨ (m.st = 2 ∧ m.A = [])
theorem cut_le (A : List Int) : ∀ m, cutN A m ≤ m := by
 intro m
 induction m with
 | zero => exact Nat.le_refl _
 | succ m ih =>
  unfold cutN
  split
  ·omega
  ·omega
theorem back_len {A : List Int} (h : cutN A A.length ≠ 0) : (back A).length = cutN A A.length := by
 have := cut_le A A.length
 unfold back
 rw [List.length_append, List.length_take, List.length_singleton]
 omega
theorem OkM.step {n : Nat} {LL : List (List Int)} {m : MS} (h : OkM n m) : OkM n (stepM n LL m) := by
 unfold stepM
 split
 ·rename_i h0
  split
  ·split
   ·rename_i hl
    exact ⟨h.len, h.bit, by show 0 ≤ m.k + 1; have := h.k0; omega, by show m.k + 1 ≤ _; omega, .inr (.inl ⟨rfl, hl⟩)⟩
   ·rename_i hl
    refine ⟨?_, ?_, by show 0 ≤ m.k + 1; have := h.k0; omega, by show m.k + 1 ≤ _; omega, .inl rfl⟩
    ·show (m.A ++ [0]).length ≤ n
     have := h.len
     rw [List.length_append, List.length_singleton]
     omega
    ·intro x hx
     rcases List.mem_append.1 hx with q | q
     ·exact h.bit x q
     ·exact .inl (List.mem_singleton.1 q)
  ·split
   ·exact ⟨Nat.zero_le _, (fun x hx => by cases hx), by show 0 ≤ m.k + 1; have := h.k0; omega, by show m.k + 1 ≤ _; omega, .inr (.inr ⟨rfl, rfl⟩)⟩
   ·rename_i hc
    refine ⟨?_, ?_, by show 0 ≤ m.k + 1; have := h.k0; omega, by show m.k + 1 ≤ _; omega, .inl rfl⟩
    ·show (back m.A).length ≤ n
     rw [back_len hc]
     exact Nat.le_trans (cut_le _ _) h.len
    ·intro x hx
     rcases List.mem_append.1 hx with q | q
     ·exact h.bit x (List.mem_of_mem_take q)
     ·exact .inr (List.mem_singleton.1 q)
 ·exact h
theorem OkM.run {n : Nat} {LL : List (List Int)} (j : Nat) : ∀ {m : MS}, OkM n m → OkM n (runM n LL j m) := by
 induction j with
 | zero => intro m h; exact h
 | succ j ih => intro m h; exact ih h.step
theorem step_stop {n : Nat} {LL : List (List Int)} {m : MS} (h : ¬ (m.st = 0 ∧ m.k < 1000000000)) : stepM n LL m = m := if_neg h
theorem run_stop {n : Nat} {LL : List (List Int)} {m : MS} (h : ¬ (m.st = 0 ∧ m.k < 1000000000)) (j : Nat) : runM n LL j m = m := by
 induction j with
 | zero => rfl
 | succ j ih => show runM n LL j (stepM n LL m) = m; rw [step_stop h, ih]
theorem run_add {n : Nat} {LL : List (List Int)} (i j : Nat) : ∀ m, runM n LL (i + j) m = runM n LL j (runM n LL i m) := by
 induction i with
 | zero => intro m; rw [Nat.zero_add]; rfl
 | succ i ih => intro m; rw [show i + 1 + j = (i + j) + 1 by omega]; exact ih _
theorem mach_ok {n : Int} {LL : List (List Int)} {P : List Int} {st k : Int} (h : machB n LL P st k = true) : ∃ N : Nat, n = (N : Int) ∧ N ≤ 24 ∧ cnfB n LL = true ∧ tl 0 (vals P) = P ∧ OkM N ⟨vals P, st, k⟩ := by
 unfold machB at h
 simp only [Bool.and_eq_true, Bool.or_eq_true, decide_eq_true_iff] at h
 obtain ⟨⟨⟨⟨hc, hl⟩, ht⟩, hk⟩, hs⟩ := h
 have hc' := hc
 unfold ok.cnfB at hc'
 simp only [Bool.and_eq_true, decide_eq_true_iff] at hc'
 have h24 := hc'.1.1
 obtain ⟨N, rfl⟩ := Int.eq_ofNat_of_zero_le h24.1
 refine ⟨N, rfl, by omega, hc, turn_tl ht, by show (vals P).length ≤ N; rw [vals_len]; omega, vals_bit P, hk.1, hk.2, ?_⟩
 rcases hs with (h0 | ⟨h1, h2⟩) | ⟨h1, h2⟩
 ·exact .inl h0
 ·exact .inr (.inl ⟨h1, by show (vals P).length = N; rw [vals_len]; omega⟩)
 ·refine .inr (.inr ⟨h1, List.eq_nil_of_length_eq_zero ?_⟩)
  show (vals P).length = 0
  rw [vals_len, h2]
theorem ok_mach {N : Nat} {LL : List (List Int)} {m : MS} (hc : cnfB (N : Int) LL = true) (h : OkM N m) : machB (N : Int) LL (tl 0 m.A) m.st m.k = true := by
 unfold machB
 simp only [Bool.and_eq_true, Bool.or_eq_true, decide_eq_true_iff]
 refine ⟨⟨⟨⟨hc, by rw [tl_len]; have := h.len; omega⟩, tl_turn _⟩, h.k0, h.k1⟩, ?_⟩
 rcases h.st with q | ⟨q, r⟩ | ⟨q, r⟩
 ·exact .inl (.inl q)
 ·exact .inl (.inr ⟨q, by rw [tl_len]; omega⟩)
 ·exact .inr ⟨q, by rw [tl_len, r]; rfl⟩
end Go.Proofs.YtabiopkjeodamaaDoor.qm
namespace Go.Proofs.YtabiopkjeodamaaDoor.dr
open Go.ChangeShapes Go.WideShapes Go.ChangeAt Go.RowKit
open draw (Cur)
open dcn (MidD Drawn good midD_of ownS_turn)
open cf (Box)
open ok (cnfB clB litIn)
open lits (okB okB_iff)
open sp (negL)
open as_ (tl tl_len litAt)
open lq (solveL Bits FromE)
open css (Sls OwnS tot)
open wo (Made)
open sl (Sl Own ints hide unhide ret_int ret_bool grown_refl grown_trans grown_trans')
set_option linter.unusedVariables false
theorem some_of {w w' : World} {r : Option Nat} (g : w.grownBy w' none) : w.grownBy w' r := ⟨g.os, g.tape, g.output, g.size, fun k hk _ => g.block k hk (fun e => by cases e)⟩
theorem good_cnf {n : Int} {M : List (List Int)} (h : 1 ≤ n ∧ n ≤ 6) (hl : (M.length : Int) ≤ 4 * n + 2) (hg : M.all (good n) = true) : cnfB n M = true := by
 unfold ok.cnfB
 rw [decide_eq_true (by omega), decide_eq_true (by omega), Bool.true_and, Bool.true_and, List.all_eq_true]
 intro L hL
 have := List.all_eq_true.1 hg L hL
 unfold dcn.good at this
 rw [Bool.and_eq_true, decide_eq_true_iff, List.all_eq_true] at this
 unfold ok.clB
 rw [Bool.and_eq_true, decide_eq_true_iff, List.all_eq_true]
 refine ⟨fun x hx => ?_, by omega⟩
 have q := this.2 x hx
 rw [decide_eq_true_iff] at q
 have ho : lits.okB x = true := by rw [lits.okB_iff]; omega
 unfold ok.litIn
 rw [ho, Bool.true_and, decide_eq_true_iff]
 unfold lits.varI
 rw [ho, if_pos rfl]
 split <;> omega
theorem cnf_snoc {n : Int} {M : List (List Int)} {L : List Int} (h : cnfB n M = true) (hM : M.length < 120) (hL : L.length ≤ 48) (hl : ∀ x ∈ L, litIn n x = true) : cnfB n (M ++ [L]) = true := by
 unfold ok.cnfB at *
 simp only [Bool.and_eq_true, decide_eq_true_iff] at *
 obtain ⟨⟨h1, h2⟩, h3⟩ := h
 refine ⟨⟨h1, by rw [List.length_append, List.length_singleton]; omega⟩, ?_⟩
 rw [List.all_append, h3, Bool.true_and]
 simp only [List.all_cons, List.all_nil, Bool.and_true]
 unfold ok.clB
 rw [Bool.and_eq_true, List.all_eq_true, decide_eq_true_iff]
 exact ⟨hl, hL⟩
theorem tot48 {n : Int} {M : List (List Int)} (h : cnfB n M = true) : tot M ≤ 1048576 := by
 have hl : ∀ L ∈ M, L.length ≤ 48 := by
  intro L hL
  unfold ok.cnfB at h
  simp only [Bool.and_eq_true, decide_eq_true_iff] at h
  have := List.all_eq_true.1 h.2 L hL
  unfold ok.clB at this
  rw [Bool.and_eq_true, decide_eq_true_iff] at this
  exact this.2
 have hm : M.length ≤ 120 := by
  unfold ok.cnfB at h
  simp only [Bool.and_eq_true, decide_eq_true_iff] at h
  exact h.1.2
 have hs : (M.map List.length).sum ≤ 48 * M.length := by
  clear h hm
  induction M with
  | nil => simp
  | cons L M ih =>
   have h1 := hl L (List.mem_cons_self ..)
   have h2 := ih (fun K hK => hl K (List.mem_cons_of_mem _ hK))
   simp only [List.map_cons, List.sum_cons, List.length_cons]
   omega
 unfold css.tot
 unfold css.sumLen at *
 omega
theorem neg_lits {n : Int} {M : List (List Int)} {A : List Int} (h : solveL n M [] = some A) : A.length ≤ 24 ∧ (A.length : Int) = n ∧ (∀ x ∈ tl 0 A, okB x = true) ∧ ∀ x ∈ negL (tl 0 A), litIn n x = true := by
 unfold lq.solveL at h
 split at h
 ·rename_i hc
  rw [Bool.and_eq_true] at hc
  have hb := (lq.lst_some h).1
  have hn : 0 ≤ n ∧ n ≤ 24 := by
   have := hc.1
   unfold ok.cnfB at this
   simp only [Bool.and_eq_true, decide_eq_true_iff] at this
   exact this.1.1
  have hl : (A.length : Int) = n := by rw [hb.1]; omega
  have hat : ∀ x ∈ tl 0 A, ∃ i, i < A.length ∧ (x = (i : Int) + 1 ∨ x = -(i : Int) - 1) := by
   intro x hx
   obtain ⟨i, hi, e⟩ := List.getElem_of_mem hx
   rw [tl_len] at hi
   have e1 := qm.tl_getD A 0 i hi
   rw [show (tl 0 A).getD i 0 = (tl 0 A)[i] by simp [tl_len, hi], e, Nat.zero_add] at e1
   refine ⟨i, hi, ?_⟩
   rw [e1]
   unfold as_.litAt
   split
   ·exact .inl rfl
   ·exact .inr rfl
  refine ⟨by omega, hl, fun x hx => ?_, fun x hx => ?_⟩
  ·obtain ⟨i, hi, q⟩ := hat x hx
   rw [okB_iff]
   omega
  ·obtain ⟨y, hy, rfl⟩ := List.mem_map.1 hx
   obtain ⟨i, hi, q⟩ := hat y hy
   have ho : okB (-y) = true := by rw [okB_iff]; omega
   unfold ok.litIn
   rw [ho, Bool.true_and, decide_eq_true_iff, lits.varI_yes (okB_iff.1 ho)]
   split <;> omega
 ·cases h
def FalseE (c : Nat) (w : World) (e : Ending) (w' : World) : Prop := ∃ (n : Int) (v : Value) (M : List (List Int)), e = .returned (.agg #[.int .i64 n, v]) ∧ (1 ≤ n ∧ n ≤ 5) ∧ cnfB n M = true ∧ Drawn c w w' v M
set_option maxRecDepth 100000 in
set_option maxHeartbeats 8000000 in
theorem false_ (c : Nat) (w : World) (hc : Cur w c) :
  Calls Tryd.prog 103 #[.pointer (some ⟨c, 0, none⟩)] w fun e w' => FalseE c w e w' := by
 have hlt := hc.lt
 have C0 := hide (dcn.cnf c 5 _ (hc.kept (World.grownBy_alloc w (.cells #[.int .i64 0, .slice none 0 0] 47) none) (fun r e => by cases e)) (by decide) (by decide))
 clear hc
 go_enter Tryd.func103, Tryd.ntmps103
 go_wp2_with fail
 refine (unhide C0).mono ?_; rintro e w1 ⟨n, v, M0, rfl, hn5, hl, hg, hd⟩
 obtain ⟨va, vc, rfl⟩ := hd.1.len
 have ST : Hid (MidD c w (w1.alloc (.cells #[.int .i64 n, .slice va M0.length vc] 47)) w1.heap.size n M0 [(w.heap.size, .int .i64 0, .slice none 0 0)] w1.heap.size ∧ cnfB n M0 = true ∧ M0.length ≤ 22 + 0) := ⟨midD_of hlt hd, good_cnf ⟨hn5.1, by omega⟩ hl hg, by omega⟩
 clear hl hg hd C0
 go_wp2_with fail
 generalize w1.alloc (.cells #[.int .i64 n, .slice va M0.length vc] 47) = W1 at *
 generalize w1.heap.size = b at *
 go_loopw [4] (fun iv wr => ∃ (j : Nat) (M : List (List Int)) (hi : Nat), j ≤ 40 ∧ iv = .int .i64 (j : Int) ∧ Hid (MidD c w wr b n M [(w.heap.size, .int .i64 0, .slice none 0 0)] hi ∧ cnfB n M = true ∧ M.length ≤ 22 + j)) (fun iv _ => 40 - (intOf iv).toNat)
 case atStart => exact ⟨0, M0, _, Nat.zero_le _, rfl, ST⟩
 case round =>
  obtain ⟨j, M, hi, hj, rfl, hw⟩ := hrel
  clear ST
  have HCN := hide (unhide hw).2.1
  by_cases hlt40 : j < 40
  ·have hjI : (j : Int) < 40 := by omega
   have HW := hw
   obtain ⟨qb, qc, qg, qcur, qh, qB, oa, ocap, bx, ho⟩ := (unhide hw).1
   have CV := hide (lq.specSolve (.slice oa M.length ocap) n M wr (tot48 (unhide hw).2.1) ho.sls)
   have c0 := bx.c0
   have c1 := bx.c1
   have hcl : c < wr.heap.size := qcur.lt
   have hsz := qg.size
   have HSZ := hide (And.intro hsz qh)
   clear qb qc qg qcur qh qB bx ho
   go_wp2_with fail
   refine (unhide CV).mono ?_; rintro e w2 ⟨r, rfl, m2⟩
   have cur2 := ((unhide hw).1.cur.kept m2.2 (fun r e => by cases e))
   have MD2 := (unhide hw).1.turn (some_of m2.2) cur2
   have NL : Hid (∀ A, solveL n M [] = some A → A.length ≤ 24 ∧ (A.length : Int) = n ∧ (∀ x ∈ tl 0 A, okB x = true) ∧ ∀ x ∈ negL (tl 0 A), litIn n x = true) := fun A h => neg_lits h
   cases hsv : solveL n M []
   ·have MR := hide MD2
    clear hsv m2 MD2 cur2 CV c0 c1 NL hw HW hsz HSZ
    obtain ⟨qb, qc, qg, qcur, qh, qB, oa, ocap, bx, ho⟩ := unhide MR
    have br := (qB _ (List.mem_singleton.2 rfl)).2.2
    have FN := hide (And.intro (unhide HCN) (Drawn.stored hlt qg qcur qh ho br n))
    have BR := hide br
    have c0 := bx.c0
    have c1 := bx.c1
    have r0 := br.c0
    have r1 := br.c1
    have f0 := br.f 0
    have f1 := br.f 1
    clear qb qc qg qcur qh qB bx ho br MR
    go_wp2_with fail
    (try simp only [Exit.inBlock, Exit.then])
    exact bodyPost_ret (cf.ret_box rfl rfl (((unhide BR).set0 (.int .i64 n)).set1 (.slice oa M.length ocap))) rfl ⟨n, _, M, rfl, hn5, (unhide FN).1, (unhide FN).2⟩
   ·rename_i A
    rw [hsv] at m2
    have m2' : Made wr w2 r A := m2
    obtain ⟨n24, nlen, nok, nlit⟩ := unhide NL A hsv
    obtain ⟨ra, rc, er, _⟩ := Sl.of_own m2'.1
    subst er
    have M2 := hide MD2
    have MA := hide m2'
    have CO := hide (draw.once c 30 w2 cur2 (by decide) (by decide))
    have NOK := hide nok
    have NLT := hide nlit
    have hs2 := hide m2'.2.size
    clear hsv m2 m2' MD2 cur2 CV c0 c1 NL hw nok nlit
    go_wp2_with fail
    refine (unhide CO).mono ?_; rintro e w3 ⟨b1, rfl, cur3, g3⟩
    have M3 := hide ((unhide M2).turn g3 cur3)
    have A3 := hide ((unhide MA).1.kept g3 (by right; intro e; have := ((unhide MA).1.lt c e).1; omega))
    have hs3 := hide g3.size
    clear CO M2 cur3 g3 MA
    cases b1
    ·have CL := hide (as_.l03Lits (.slice ra A.length rc) A w3 (by omega) (Sl.of_own (unhide A3)))
     go_wp2_with fail
     refine (unhide CL).mono ?_; rintro e w4 ⟨u4, rfl, m4⟩
     have CP := hide (sp.l04Opposite u4 (tl 0 A) w4 (by rw [tl_len]; omega) (unhide NOK) (Sl.of_own m4.1))
     have M4 := hide ((unhide M3).turn (some_of m4.2) ((unhide M3).cur.kept m4.2 (fun r e => by cases e)))
     have hs4 := hide m4.2.size
     clear CL M3 A3 m4
     go_wp2_with fail
     refine (unhide CP).mono ?_; rintro e w5 ⟨u5, rfl, m5⟩
     have hnl : (negL (tl 0 A)).length = A.length := by unfold sp.negL; rw [List.length_map, tl_len]
     have M5 := hide ((unhide M4).turn (some_of m5.2) ((unhide M4).cur.kept m5.2 (fun r e => by cases e)))
     have o5 := m5.1
     rw [hnl] at o5
     obtain ⟨ua, uc, eu⟩ := ks.row_form o5
     subst eu
     have O5 := hide o5
     have LO : Hid (w.heap.size ≤ w4.heap.size ∧ hi ≤ w4.heap.size ∧ w4.heap.size ≤ w5.heap.size) := by
      have h1 := unhide HSZ
      have h2 := unhide hs2
      have h3 := unhide hs3
      have h4 := unhide hs4
      exact ⟨by omega, by omega, m5.2.size⟩
     have HNL := hide hnl
     clear CP M4 m5 o5 hnl hs2 hs3 hs4
     by_cases h2 : 2 < A.length
     ·have h2I : (A.length : Int) > 2 := by omega
      have CT := hide (draw.once c 2 w5 (unhide M5).cur (by decide) (by decide))
      go_wp2_with fail
      refine (unhide CT).mono ?_; rintro e wx ⟨b2, rfl, cur6, g6⟩
      have MX := hide ((unhide M5).turn g6 cur6)
      have OX := hide ((unhide O5).kept g6 (by right; intro e; have := ((unhide O5).lt c e).1; have := (unhide LO).1; omega))
      obtain ⟨lo5, hlo5⟩ : ∃ lo5, lo5 = w4.heap.size := ⟨_, rfl⟩
      have LO5 : Hid (w.heap.size ≤ lo5 ∧ hi ≤ lo5 ∧ lo5 ≤ wx.heap.size) := by
       have h1 := unhide LO
       have h2 := g6.size
       exact ⟨by omega, by omega, by omega⟩
      rw [← hlo5] at OX
      clear CT M5 O5 cur6 g6 LO hlo5
      cases b2
      ·have LLN : Hid ((negL (tl 0 A)).length ≤ 48 ∧ ∀ x ∈ negL (tl 0 A), litIn n x = true) := ⟨by rw [unhide HNL]; omega, unhide NLT⟩
       obtain ⟨qb, qc, qg, qcur, qh, qB, oa, ocap, bx, ho⟩ := unhide MX
       have hlo : w.heap.size ≤ lo5 := (unhide LO5).1
       have ho' := hide (ho.sub (hi' := lo5) (Nat.le_refl _) (unhide LO5).2.1)
       have OU := hide (show Own lo5 wx.heap.size wx (.slice ua A.length uc) (negL (tl 0 A)) from sl.Own.of (by rw [unhide HNL]; exact unhide OX))
       have HMD := hide (unhide LO5).2.2
       have HS := hide (fun (g' cap' : Nat) (w9 : World) h1 g1 => MidD.step (u := (.slice ua A.length uc)) (L := (negL (tl 0 A))) (g := g') (cap' := cap') (w1 := w9) qb qc qg qcur qB bx (unhide ho') h1 g1)
       have hMl : M.length ≤ 1048576 := by have := (unhide HW).2.2; omega
       have b1 := bx.c1
       have neb := World.new_ne wx _ b1
       have b1A := (bx.kept (World.grownBy_alloc wx (.cells #[(.slice ua A.length uc)] 31) none)).c1
       have CN := hide (cnf_snoc (L := (negL (tl 0 A))) (unhide HW).2.1 (by have := (unhide HW).2.2; omega) (unhide LLN).1 (unhide LLN).2)
       have MLn := hide (unhide HW).2.2
       clear qg qcur qB ho bx MX LO5 LLN HW HCN
       go_wp2_with (at_builtin; refine gr.appendR (unhide ho') (unhide OU) hlo (unhide HMD) hMl rfl _ _ rfl rfl rfl ?_)
       intro g' cap' w9 h1 g1
       obtain ⟨⟨s1, s2⟩, m9⟩ := unhide HS g' cap' w9 h1 g1
       have M9 := hide m9
       clear h1 g1 m9 HS ho' OU HMD b1 neb b1A
       go_wp2_with fail
       go_roundw
       case rel => exact ⟨j + 1, M ++ [(negL (tl 0 A))], _, by omega, by go_num, unhide M9, unhide CN, by rw [List.length_append, List.length_singleton]; have := unhide MLn; omega⟩
       case measure => simp [intOf]; omega
      ·have LLN : Hid (((negL (tl 0 A)).take 2).length ≤ 48 ∧ ∀ x ∈ (negL (tl 0 A)).take 2, litIn n x = true) := ⟨by rw [List.length_take]; omega, fun x hx => unhide NLT x (List.mem_of_mem_take hx)⟩
       obtain ⟨g0, hcap, eua, OX2⟩ : ∃ g0, A.length ≤ uc ∧ ua = some ⟨g0, 0, none⟩ ∧ Hid (wx.ownsRow lo5 3 1 (.slice (some ⟨g0, 0, none⟩) 2 uc) 2 ((ints (negL (tl 0 A))).take 2)) := by
        have ox := unhide OX
        rcases ox.2 with ⟨e, h0⟩ | ⟨g, cap', cur, e, hg, _, hcp, _⟩
        ·omega
        ·injection e with e1 e2 e3
         subst e1
         exact ⟨g, by omega, rfl, qw.own_take ox (by omega)⟩
       subst eua
       have hc2 : (2 : Int) ≤ (uc : Int) := by omega
       have hl2 : ((negL (tl 0 A)).take 2).length = 2 := by rw [List.length_take, unhide HNL]; omega
       have e2 : ints ((negL (tl 0 A)).take 2) = (ints (negL (tl 0 A))).take 2 := by unfold sl.ints; rw [List.map_take]
       have OY : Hid (wx.ownsRow lo5 3 1 (.slice (some ⟨g0, 0, none⟩) 2 uc) ((negL (tl 0 A)).take 2).length (ints ((negL (tl 0 A)).take 2))) := by
        show wx.ownsRow _ _ _ _ _ _
        rw [hl2, e2]
        exact unhide OX2
       clear OX OX2 hl2 e2
       obtain ⟨qb, qc, qg, qcur, qh, qB, oa, ocap, bx, ho⟩ := unhide MX
       have hlo : w.heap.size ≤ lo5 := (unhide LO5).1
       have ho' := hide (ho.sub (hi' := lo5) (Nat.le_refl _) (unhide LO5).2.1)
       have OU := hide (show Own lo5 wx.heap.size wx (.slice (some ⟨g0, 0, none⟩) 2 uc) ((negL (tl 0 A)).take 2) from sl.Own.of (unhide OY))
       have HMD := hide (unhide LO5).2.2
       have HS := hide (fun (g' cap' : Nat) (w9 : World) h1 g1 => MidD.step (u := (.slice (some ⟨g0, 0, none⟩) 2 uc)) (L := ((negL (tl 0 A)).take 2)) (g := g') (cap' := cap') (w1 := w9) qb qc qg qcur qB bx (unhide ho') h1 g1)
       have hMl : M.length ≤ 1048576 := by have := (unhide HW).2.2; omega
       have b1 := bx.c1
       have neb := World.new_ne wx _ b1
       have b1A := (bx.kept (World.grownBy_alloc wx (.cells #[(.slice (some ⟨g0, 0, none⟩) 2 uc)] 31) none)).c1
       have CN := hide (cnf_snoc (L := ((negL (tl 0 A)).take 2)) (unhide HW).2.1 (by have := (unhide HW).2.2; omega) (unhide LLN).1 (unhide LLN).2)
       have MLn := hide (unhide HW).2.2
       clear qg qcur qB ho bx MX LO5 LLN HW HCN
       go_wp2_with (at_builtin; refine gr.appendR (unhide ho') (unhide OU) hlo (unhide HMD) hMl rfl _ _ rfl rfl rfl ?_)
       intro g' cap' w9 h1 g1
       obtain ⟨⟨s1, s2⟩, m9⟩ := unhide HS g' cap' w9 h1 g1
       have M9 := hide m9
       clear h1 g1 m9 HS ho' OU HMD b1 neb b1A
       go_wp2_with fail
       go_roundw
       case rel => exact ⟨j + 1, M ++ [((negL (tl 0 A)).take 2)], _, by omega, by go_num, unhide M9, unhide CN, by rw [List.length_append, List.length_singleton]; have := unhide MLn; omega⟩
       case measure => simp [intOf]; omega
     ·have h2I : ¬ (A.length : Int) > 2 := by omega
      have MX := M5
      obtain ⟨wx, hwx⟩ : ∃ wx, wx = w5 := ⟨_, rfl⟩
      rw [← hwx] at MX O5 LO
      subst hwx
      obtain ⟨lo5, hlo5⟩ : ∃ lo5, lo5 = w4.heap.size := ⟨_, rfl⟩
      rw [← hlo5] at O5 LO
      have LO5 := LO
      have LLN : Hid ((negL (tl 0 A)).length ≤ 48 ∧ ∀ x ∈ negL (tl 0 A), litIn n x = true) := ⟨by rw [unhide HNL]; omega, unhide NLT⟩
      clear hlo5 M5
      obtain ⟨qb, qc, qg, qcur, qh, qB, oa, ocap, bx, ho⟩ := unhide MX
      have hlo : w.heap.size ≤ lo5 := (unhide LO5).1
      have ho' := hide (ho.sub (hi' := lo5) (Nat.le_refl _) (unhide LO5).2.1)
      have OU := hide (show Own lo5 wx.heap.size wx (.slice ua A.length uc) (negL (tl 0 A)) from sl.Own.of (by rw [unhide HNL]; exact unhide O5))
      have HMD := hide (unhide LO5).2.2
      have HS := hide (fun (g' cap' : Nat) (w9 : World) h1 g1 => MidD.step (u := (.slice ua A.length uc)) (L := (negL (tl 0 A))) (g := g') (cap' := cap') (w1 := w9) qb qc qg qcur qB bx (unhide ho') h1 g1)
      have hMl : M.length ≤ 1048576 := by have := (unhide HW).2.2; omega
      have b1 := bx.c1
      have neb := World.new_ne wx _ b1
      have b1A := (bx.kept (World.grownBy_alloc wx (.cells #[(.slice ua A.length uc)] 31) none)).c1
      have CN := hide (cnf_snoc (L := (negL (tl 0 A))) (unhide HW).2.1 (by have := (unhide HW).2.2; omega) (unhide LLN).1 (unhide LLN).2)
      have MLn := hide (unhide HW).2.2
      clear qg qcur qB ho bx MX LO5 LLN HW HCN
      go_wp2_with (at_builtin; refine gr.appendR (unhide ho') (unhide OU) hlo (unhide HMD) hMl rfl _ _ rfl rfl rfl ?_)
      intro g' cap' w9 h1 g1
      obtain ⟨⟨s1, s2⟩, m9⟩ := unhide HS g' cap' w9 h1 g1
      have M9 := hide m9
      clear h1 g1 m9 HS ho' OU HMD b1 neb b1A
      go_wp2_with fail
      go_roundw
      case rel => exact ⟨j + 1, M ++ [(negL (tl 0 A))], _, by omega, by go_num, unhide M9, unhide CN, by rw [List.length_append, List.length_singleton]; have := unhide MLn; omega⟩
      case measure => simp [intOf]; omega
    ·have MR := M3
     clear M3 A3 NOK NLT HSZ HW hs2 hs3
     obtain ⟨qb, qc, qg, qcur, qh, qB, oa, ocap, bx, ho⟩ := unhide MR
     have br := (qB _ (List.mem_singleton.2 rfl)).2.2
     have FN := hide (And.intro (unhide HCN) (Drawn.stored hlt qg qcur qh ho br n))
     have BR := hide br
     have c0 := bx.c0
     have c1 := bx.c1
     have r0 := br.c0
     have r1 := br.c1
     have f0 := br.f 0
     have f1 := br.f 1
     clear qb qc qg qcur qh qB bx ho br MR
     go_wp2_with fail
     (try simp only [Exit.inBlock, Exit.then])
     exact bodyPost_ret (cf.ret_box rfl rfl (((unhide BR).set0 (.int .i64 n)).set1 (.slice oa M.length ocap))) rfl ⟨n, _, M, rfl, hn5, (unhide FN).1, (unhide FN).2⟩
  ·have hjI : ¬ (j : Int) < 40 := by omega
   have MR := hide (unhide hw).1
   clear hw
   obtain ⟨qb, qc, qg, qcur, qh, qB, oa, ocap, bx, ho⟩ := unhide MR
   have br := (qB _ (List.mem_singleton.2 rfl)).2.2
   have FN := hide (And.intro (unhide HCN) (Drawn.stored hlt qg qcur qh ho br n))
   have BR := hide br
   have c0 := bx.c0
   have c1 := bx.c1
   have r0 := br.c0
   have r1 := br.c1
   have f0 := br.f 0
   have f1 := br.f 1
   clear qb qc qg qcur qh qB bx ho br MR
   go_wp2_with fail
   (try simp only [Exit.inBlock, Exit.then])
   exact bodyPost_ret (cf.ret_box rfl rfl (((unhide BR).set0 (.int .i64 n)).set1 (.slice oa M.length ocap))) rfl ⟨n, _, M, rfl, hn5, (unhide FN).1, (unhide FN).2⟩
end Go.Proofs.YtabiopkjeodamaaDoor.dr
namespace Go.Proofs.YtabiopkjeodamaaDoor.df
open Go.ChangeShapes Go.WideShapes Go.ChangeAt Go.RowKit
open sl (Sl Own ints hide unhide grown_refl grown_trans grown_trans' of_below below_of grown_drewN)
open css (Sls OwnS tot)
open cf (Box)
open draw (Cur Bs I64 newCur grown_new)
open dcn (Came Bd Drawn)
set_option linter.unusedVariables false

theorem Sl.drewN {w : World} {v : Value} {L : List Int} (h : Sl w v L) (n : Nat) : Sl (w.drewN n) v L := h.kept (grown_drewN w n) (.inl rfl)

theorem tot_bd {n : Int} {M : List (List Int)} {k : Nat} (h : Bd n M k) (hk : k ≤ 121) : tot M ≤ 6050 := by
 unfold css.tot
 have h2 : (M.map List.length).sum ≤ 49 * M.length := by
  have := h.2.2
  clear h
  induction M with
  | nil => simp
  | cons L l ih =>
   rw [List.map_cons, List.sum_cons, List.length_cons]
   have := ih (fun K hK => this K (List.mem_cons_of_mem _ hK))
   have := (by assumption : ∀ K ∈ L :: l, K.length ≤ 49) L (List.mem_cons_self ..)
   omega
 have := h.2.1
 omega

theorem stored {w w6 : World} {g cap : Nat} {X : List Int} (i : Nat) (y : Int) (h : wo.Made w w6 (.slice (some ⟨g, 0, none⟩) X.length cap) X) (hi : i < X.length) :
  (∃ u, w6.cell? ⟨g, i, none⟩ = some u) ∧ w6.frozen? ⟨g, i, none⟩ = false ∧ wo.Made w (w6.setCell ⟨g, i, none⟩ (.int .i64 y)) (.slice (some ⟨g, 0, none⟩) (X.set i y).length cap) (X.set i y) ∧ css.Outs w.heap.size w6.heap.size w6 (w6.setCell ⟨g, i, none⟩ (.int .i64 y)) := by
 have hg := h.1.lt g rfl
 have gs := sl.grown_setCell w6 g i (.int .i64 y)
 refine ⟨?_, h.1.frozenAt i, ⟨?_, ?_⟩, css.outs_by gs (fun k e => by cases e; exact hg)⟩
 ·rw [h.1.cellAt i (by omega)]
  exact ⟨_, List.getElem?_eq_getElem (by rw [sl.ints_length]; exact hi)⟩
 ·have e : (ints X).set i (.int .i64 y) = ints (X.set i y) := by
   unfold sl.ints
   rw [List.map_set]
  rw [List.length_set, ← e]
  exact (h.1.stored i _).1
 ·exact grown_new h.2 gs hg.1
theorem outs_trans {lo hi : Nat} {a b c : World} (h : css.Outs lo hi a b) (k : css.Outs lo hi b c) : css.Outs lo hi a c :=
 ⟨k.os.trans h.os, k.tape.trans h.tape, k.output.trans h.output, Nat.le_trans h.size k.size, fun i hi' d => (k.block i (Nat.lt_of_lt_of_le hi' h.size) d).trans (h.block i hi' d)⟩
theorem made_some {w w6 : World} {v : Value} {X : List Int} (h : wo.Made w w6 v X) (hX : 0 < X.length) : ∃ g cap, v = .slice (some ⟨g, 0, none⟩) X.length cap := by
 obtain ⟨⟨_, h2⟩, _⟩ := h
 rcases h2 with ⟨rfl, h0⟩ | ⟨g, cap, cur, rfl, _⟩
 ·omega
 ·exact ⟨g, cap, rfl⟩
def Got (w w' : World) (n : Int) (v : Value) (M : List (List Int)) : Prop := Bd n M 121 ∧ OwnS w.heap.size w'.heap.size w' v M ∧ w.grownBy w' none

end Go.Proofs.YtabiopkjeodamaaDoor.df
namespace Go.Proofs.YtabiopkjeodamaaDoor.dr
open Go.ChangeShapes Go.WideShapes Go.ChangeAt Go.RowKit
open sl (hide unhide grown_refl grown_trans grown_drewN below_of of_below)
open css (Sls OwnS tot)
open cf (Box)
open draw (Bs Cur newCur)
open dcn (Bd Came Drawn)
set_option linter.unusedVariables false
def AnyE (c : Nat) (w : World) (e : Ending) (w' : World) : Prop := ∃ (k : Int) (v : Value) (M : List (List Int)), e = .returned (.agg #[.int .i64 k, v]) ∧ (-1 ≤ k ∧ k ≤ 25) ∧ tot M ≤ 1048576 ∧ Drawn c w w' v M
theorem _root_.Go.Proofs.YtabiopkjeodamaaDoor.dcn.some_trans {a b d : World} {c : Nat} (h : a.grownBy b none) (k : b.grownBy d (some c)) : a.grownBy d (some c) :=
 ⟨k.os.trans h.os, k.tape.trans h.tape, k.output.trans h.output, Nat.le_trans h.size k.size, fun i hi hn => (k.block i (Nat.lt_of_lt_of_le hi h.size) hn).trans (h.block i hi (fun e => by cases e))⟩
set_option maxHeartbeats 1600000 in
theorem l09Cnf (c : Nat) (w : World) (hc : Cur w c) :
  Calls Tryd.prog 63 #[.pointer (some ⟨c, 0, none⟩)] w fun e w' => AnyE c w e w' := by
 have hlt := hc.lt
 have ga := World.grownBy_alloc w (.cells #[.int .i64 0, .slice none 0 0] 47) none
 have CB := hide (draw.below c 3 _ (hc.kept ga (fun r e => by cases e)) (by decide) (by decide))
 have R0 := hide (Box.new 47 w (.int .i64 0) (.slice none 0 0))
 have GA := hide ga
 clear hc ga
 go_enter Tryd.func63, Tryd.ntmps63
 go_wp2_with fail
 refine (unhide CB).mono ?_; rintro e w1 ⟨x, rfl, x0, x1, hc1, g1⟩
 have C1 := hide hc1
 have G1 := hide g1
 have R1 := hide ((unhide R0).by g1 (fun e => by simp only [Option.some.injEq] at e; omega))
 have SZL : w.heap.size ≤ w1.heap.size := Nat.le_trans (unhide GA).size g1.size
 clear hc1 g1 CB R0
 have hx : x = 0 ∨ x = 1 ∨ (¬ x = 0 ∧ ¬ x = 1) := by omega
 rcases hx with rfl | rfl | ⟨e0, e1⟩
 ·go_wp2_with fail
  refine (false_ _ _ (unhide C1)).mono ?_; rintro e w2 ⟨k, v, M, rfl, hk, hcm, od, gd, cd⟩
  have bd : (-1 ≤ k ∧ k ≤ 25) ∧ tot M ≤ 1048576 := ⟨by omega, tot48 hcm⟩
  clear hk hcm
  obtain ⟨va, vc, rfl⟩ := od.len
  have gd1 := sl.grown_trans' (unhide G1) gd
  have r2 := (unhide R1).by gd (fun e => by simp only [Option.some.injEq] at e; omega)
  have rc0 := r2.c0
  have rc1 := r2.c1
  have rf0 := r2.f 0
  have rf1 := r2.f 1
  have R2 := hide r2
  have FN := hide (dcn.Drawn.stored hlt (show w.grownBy w2 (some c) from dcn.some_trans (unhide GA) gd1) cd (Nat.le_refl _) (od.sub SZL (Nat.le_refl _)) r2 k)
  have BD := hide bd
  clear r2 od gd cd bd gd1
  go_wp2_with fail
  (try simp only [Exit.inBlock, Exit.then])
  exact bodyPost_ret (cf.ret_box rfl rfl (((unhide R2).set0 (.int .i64 k)).set1 (.slice va M.length vc))) rfl ⟨k, _, M, rfl, (unhide BD).1, (unhide BD).2, unhide FN⟩
 ·go_wp2_with fail
  refine (dcn.any _ _ (unhide C1)).mono ?_; rintro e w2 ⟨k, v, M, rfl, hbd, od, gd, cd⟩
  have bd : (-1 ≤ k ∧ k ≤ 25) ∧ tot M ≤ 1048576 := ⟨hbd.1, Nat.le_trans (df.tot_bd hbd (by decide)) (by decide)⟩
  clear hbd
  obtain ⟨va, vc, rfl⟩ := od.len
  have gd1 := sl.grown_trans' (unhide G1) gd
  have r2 := (unhide R1).by gd (fun e => by simp only [Option.some.injEq] at e; omega)
  have rc0 := r2.c0
  have rc1 := r2.c1
  have rf0 := r2.f 0
  have rf1 := r2.f 1
  have R2 := hide r2
  have FN := hide (dcn.Drawn.stored hlt (show w.grownBy w2 (some c) from dcn.some_trans (unhide GA) gd1) cd (Nat.le_refl _) (od.sub SZL (Nat.le_refl _)) r2 k)
  have BD := hide bd
  clear r2 od gd cd bd gd1
  go_wp2_with fail
  (try simp only [Exit.inBlock, Exit.then])
  exact bodyPost_ret (cf.ret_box rfl rfl (((unhide R2).set0 (.int .i64 k)).set1 (.slice va M.length vc))) rfl ⟨k, _, M, rfl, (unhide BD).1, (unhide BD).2, unhide FN⟩
 ·go_wp2_with fail
  refine (dcn.cnf c 6 _ (unhide C1) (by decide) (by decide)).mono ?_; rintro e w2 ⟨k, v, M, rfl, hk, hl, hg, od, gd, cd⟩
  have bd : (-1 ≤ k ∧ k ≤ 25) ∧ tot M ≤ 1048576 := ⟨by omega, Nat.le_trans (df.tot_bd (dcn.bd_good hk hl hg) (by decide)) (by decide)⟩
  clear hk hl hg
  obtain ⟨va, vc, rfl⟩ := od.len
  have gd1 := sl.grown_trans' (unhide G1) gd
  have r2 := (unhide R1).by gd (fun e => by simp only [Option.some.injEq] at e; omega)
  have rc0 := r2.c0
  have rc1 := r2.c1
  have rf0 := r2.f 0
  have rf1 := r2.f 1
  have R2 := hide r2
  have FN := hide (dcn.Drawn.stored hlt (show w.grownBy w2 (some c) from dcn.some_trans (unhide GA) gd1) cd (Nat.le_refl _) (od.sub SZL (Nat.le_refl _)) r2 k)
  have BD := hide bd
  clear r2 od gd cd bd gd1
  go_wp2_with fail
  (try simp only [Exit.inBlock, Exit.then])
  exact bodyPost_ret (cf.ret_box rfl rfl (((unhide R2).set0 (.int .i64 k)).set1 (.slice va M.length vc))) rfl ⟨k, _, M, rfl, (unhide BD).1, (unhide BD).2, unhide FN⟩
end Go.Proofs.YtabiopkjeodamaaDoor.dr
namespace Go.Proofs.YtabiopkjeodamaaDoor.zu
open Go.ChangeShapes Go.WideShapes Go.ChangeAt Go.RowKit
open sl (hide unhide ret_int ret_bool grown_refl grown_trans grown_trans' grown_drewN Sl)
open draw (Cur Bs newCur below once pickInt grown_new)
open ze (of_own cell_new one_at bts bts_length)
open byt (run_back)
open dec (str)
set_option linter.unusedVariables false

theorem appO {ops : Array Oper} {rest : List Oper} {o : Oper} {a : Act} {Q : Exit → Act → World → Prop} {lo : Nat} {wr : World} {va : Value} {l t : List UInt8} {ad : Addr} {n cap : Nat}
  (hlo : lo ≤ wr.heap.size) (hA : wr.ownsRow lo 5 1 va l.length (Lib.byteCells l)) (hc : ∀ j u, (Lib.byteCells t)[j]? = some u → wr.cell? (ad.add j) = some u) (hl : l.length + t.length ≤ 4194304) (hn : n = t.length) (hgd : o.guard = none) (s x : Operand)
  (ho : o.op = .call { callee := .builtin .append, args := #[s, x], argTypes := #[22, 22] }) (hs : a.eval s = va) (hx : a.eval x = .slice (some ad) n cap)
  (h : ∀ v' w1, w1.ownsRow lo 5 1 v' (l ++ t).length (Lib.byteCells (l ++ t)) → wr.grownBy w1 va.ownBlock → wpList Tryd.prog ops Q rest (a.put o.dst v') w1) : wpList Tryd.prog ops Q (o :: rest) a wr := by
 subst hn
 obtain ⟨i0, hi, hz0, hz1, hz2⟩ := info_parts byt.infoU
 refine wpList_append_own _ hgd s x 22 ho lo 5 i0 (.int .u8 0) 1 1 Tryd.underlying22 hi hz0 hz1 hz2 rfl (by decide) va l.length (Lib.byteCells l) hs hA ad t.length cap (Lib.byteCells t) hx (by rw [Lib.byteCells_length]; omega) hc (Lib.byteCells_one t) ?_ ?_ ?_ ?_
 ·unfold maxLen
  omega
 ·omega
 ·exact hlo
 ·intro v' w1 hown' hgrow _
  refine h v' w1 ?_ hgrow
  rw [List.length_append, Lib.byteCells_append]
  exact hown'
theorem convert_own {lo : Nat} {w : World} {v : Value} {l : List UInt8} (h : w.ownsRow lo 5 1 v l.length (Lib.byteCells l)) (hv : ∃ a c, v = .slice (some a) l.length c) : (convert 22 9 v).run Tryd.prog w = .ok (str l) w := by
 obtain ⟨a, c, rfl⟩ := hv
 exact run_back w _ l lo (of_own h)

set_option maxRecDepth 100000 in
set_option maxHeartbeats 2000000 in
theorem any (c n : Nat) (w : World) (hc : Cur w c) (hn : n ≤ 100000) :
  Calls Tryd.prog 65 #[.pointer (some ⟨c, 0, none⟩), .int .i64 n] w fun e w' => ∃ s : ByteArray, e = .returned (.string s) ∧ s.size = n ∧ Cur w' c ∧ w.grownBy w' (some c) := by
 have hcl := hc.lt
 have start : Hid ((w.alloc (.cells #[] 5)).ownsRow w.heap.size 5 1 (.slice (some ⟨w.heap.size, 0, none⟩) 0 0) ([] : List UInt8).length (Lib.byteCells []) ∧ Cur (w.alloc (.cells #[] 5)) c ∧ w.grownBy (w.alloc (.cells #[] 5)) (some c)) :=
  ⟨World.ownsRow_lit w #[] 0 (Nat.le_refl _) (Nat.zero_le _) rfl, hc.kept (World.grownBy_alloc w _ none) (fun r e => by cases e), World.grownBy_alloc w _ _⟩
 clear hc
 go_enter Tryd.func65, Tryd.ntmps65
 go_wp2
 go_loopw [5, 6] (fun u i wr => ∃ (k g cap : Nat) (l : List UInt8), k ≤ n ∧ i = .int .i64 k ∧ u = .slice (some ⟨g, 0, none⟩) k cap ∧ l.length = k ∧ wr.ownsRow w.heap.size 5 1 (.slice (some ⟨g, 0, none⟩) k cap) l.length (Lib.byteCells l) ∧ Cur wr c ∧ w.grownBy wr (some c)) (fun _ i _ => n - (intOf i).toNat)
 case atStart => exact ⟨0, w.heap.size, 0, [], Nat.zero_le _, rfl, rfl, rfl, (unhide start).1, (unhide start).2.1, (unhide start).2.2⟩
 case round =>
  obtain ⟨k, g, cap, l, hk, rfl, rfl, hl, hown, hC, hg⟩ := hrel
  clear start
  by_cases hlt : k < n
  ·have i0 : (k : Int) < (n : Int) := by omega
   have HO := hide hown
   have HC := hide hC
   have HG := hide hg
   have HLl := hide hl
   have HL : Hid (l.length + 1 ≤ 4194304) := by show _ ≤ _; omega
   have hgl : w.heap.size ≤ g := (hown.lt g rfl).1
   clear hown hC hg hl
   go_wp2_with fail
   refine (below c 256 _ (unhide HC) (by decide) (by decide)).mono ?_; rintro e w1 ⟨x, rfl, x0, x1, hc1, g1⟩
   obtain ⟨xn, rfl⟩ := Int.eq_ofNat_of_zero_le x0
   obtain ⟨y, hy⟩ : ∃ y : UInt8, (xn : Int) = (y.toNat : Int) := ⟨UInt8.ofNat xn, by rw [UInt8.toNat_ofNat']; omega⟩
   have O1 : Hid ((w1.alloc (.cells #[.int .u8 y.toNat] 5)).ownsRow w.heap.size 5 1 (.slice (some ⟨g, 0, none⟩) k cap) l.length (Lib.byteCells l)) := ((unhide HO).kept g1 (.inr (fun e => by have e' : g = c := Option.some.inj e; omega))).alloc _
   have G1 : Hid (w.grownBy (w1.alloc (.cells #[.int .u8 y.toNat] 5)) (some c)) := grown_trans' (grown_trans' (unhide HG) g1) (World.grownBy_alloc _ _ _)
   have C1 : Hid (Cur (w1.alloc (.cells #[.int .u8 y.toNat] 5)) c) := hc1.kept (World.grownBy_alloc _ _ none) (fun r e => by cases e)
   have HB := hide (one_at w1 y)
   have hsz : Hid (w.heap.size ≤ (w1.alloc (.cells #[.int .u8 y.toNat] 5)).heap.size) := (unhide G1).size
   clear hc1 g1 HO HC HG x0
   go_wp2_with (at_builtin; refine appO (unhide hsz) (unhide O1) (unhide HB) (unhide HL) rfl rfl (.tmp 13) (.tmp 17) rfl rfl rfl ?_; intro v2 w2 o2 g2; have O2 := hide o2; have G2 := hide g2; clear o2 g2)
   have hv : ∃ g2 c2, v2 = .slice (some ⟨g2, 0, none⟩) (k + 1) c2 := by
    have ll : (l ++ [y]).length = k + 1 := by rw [List.length_append, unhide HLl]; rfl
    have oo := unhide O2
    rw [ll] at oo
    obtain ⟨_, h⟩ := oo
    rcases h with ⟨_, h0⟩ | ⟨g2, c2, cur, e, _⟩
    ·omega
    ·exact ⟨g2, c2, e⟩
   obtain ⟨gg, cc, rfl⟩ := hv
   have ll : Hid ((l ++ [y]).length = k + 1) := by show _ = _; rw [List.length_append, unhide HLl]; rfl
   have R : Hid (Cur w2 c ∧ w.grownBy w2 (some c)) := by
    have g2 : (w1.alloc (.cells #[.int .u8 y.toNat] 5)).grownBy w2 (some g) := unhide G2
    refine ⟨(unhide C1).kept g2 (fun r e => by injection e with e; omega), ?_⟩
    have hG := unhide G1
    exact ⟨g2.os.trans hG.os, g2.tape.trans hG.tape, g2.output.trans hG.output, Nat.le_trans hG.size g2.size, fun j hj hr => (g2.block j (Nat.lt_of_lt_of_le hj hG.size) (fun e => by injection e with e; omega)).trans (hG.block j hj hr)⟩
   clear O1 G1 C1 HB hsz G2
   go_roundw
   case rel => exact ⟨k + 1, gg, cc, l ++ [y], by omega, by go_num, rfl, unhide ll, unhide O2, (unhide R).1, (unhide R).2⟩
   case measure => simp [intOf]; omega
  ·have i0 : ¬ (k : Int) < (n : Int) := by omega
   have hk' : k = n := by omega
   have CV := convert_own hown ⟨_, cap, by rw [hl]⟩
   unfold dec.str at CV
   have HC := hide hC
   have HG := hide hg
   have HS : Hid ((ByteArray.mk l.toArray).size = n) := by show _ = _; rw [zr.mk_size, hl, hk']
   clear hown hC hg hl hk'
   go_wp2_with fail
   go_ret
   exact ⟨_, rfl, unhide HS, unhide HC, unhide HG⟩

theorem lit_sl (w : World) (L : List Int) : Sl (w.alloc (.cells (sl.ints L).toArray 3)) (.slice (some ⟨w.heap.size, 0, none⟩) L.length L.length) L := by
 refine ⟨_, L.length, rfl, .inr ⟨w.heap.size, 0, rfl, by rw [World.size_alloc]; omega, fun i hi => ?_⟩⟩
 have h := cell_new w (sl.ints L).toArray 3 i
 rw [Addr.add_lit] at h
 rw [h, List.getElem?_toArray]
 simp [sl.ints, hi]
end Go.Proofs.YtabiopkjeodamaaDoor.zu
namespace Go.Proofs.YtabiopkjeodamaaDoor.pk
open Go.ChangeShapes Go.WideShapes Go.ChangeAt Go.RowKit
open sl (Sl ints hide unhide grown_refl grown_trans grown_trans' of_below below_of grown_drewN)
open draw (Cur Bs I64 newCur grown_new)
set_option linter.unusedVariables false

theorem pickS (c b : Nat) (D : List ByteArray) (w : World) (hc : Cur w c) (hbc : c < b) (hD : 0 < D.length) (hD1 : D.length ≤ 1048576) (h : ∀ j, j < D.length → w.cell? ⟨b, j, none⟩ = some (.string (D.getD j ByteArray.empty))) :
  Calls Tryd.prog 38 #[.pointer (some ⟨c, 0, none⟩), .slice (some ⟨b, 0, none⟩) D.length D.length] w fun e w' => ∃ s, e = .returned (.string s) ∧ s ∈ D ∧ Cur w' c ∧ w.grownBy w' (some c) := by
 have HC := hide hc
 have HB := hide h
 clear hc h
 go_enter Tryd.func38, Tryd.ntmps38
 go_wp2_with fail
 refine (draw.below c _ _ (unhide HC) (by omega) (by omega)).mono ?_; rintro e w1 ⟨x, rfl, x0, x1, hc1, g1⟩
 obtain ⟨j, rfl⟩ := Int.eq_ofNat_of_zero_le x0
 have hj : j < D.length := by omega
 have c1 : w1.cell? ⟨b, j, none⟩ = some (.string (D.getD j ByteArray.empty)) := g1.cell (unhide HB j hj) (fun e => by injection e with e; exact absurd e (by show b ≠ c; omega))
 have hm : D.getD j ByteArray.empty ∈ D := by rw [show D.getD j ByteArray.empty = D[j] by simp [hj]]; exact List.getElem_mem hj
 generalize D.getD j ByteArray.empty = y at *
 have HM := hide hm
 have HC1 := hide hc1
 have G1 := hide g1
 clear hc1 g1 hm HB HC
 go_wp2_with fail
 go_ret
 exact ⟨_, rfl, unhide HM, unhide HC1, unhide G1⟩

theorem laid_cell (w : World) (D : List ByteArray) (t : TypeId) : ∀ j, j < D.length → (w.alloc (.cells (D.map Value.string).toArray t)).cell? ⟨w.heap.size, j, none⟩ = some (.string (D.getD j ByteArray.empty)) := by
 intro j hj
 have h : (w.alloc (.cells (D.map Value.string).toArray t)).heap[w.heap.size]? = some (.cells (D.map Value.string).toArray t) := heap_alloc_new w _
 unfold World.cell?
 rw [h]
 simp [hj]
end Go.Proofs.YtabiopkjeodamaaDoor.pk
namespace Go.Proofs.YtabiopkjeodamaaDoor.de
open Go.ChangeShapes Go.WideShapes Go.ChangeAt Go.RowKit
open sl (hide unhide grown_refl grown_trans grown_trans' grown_drewN below_of of_below)
open css (Sls OwnS tot)
open draw (Bs Cur newCur grown_new)
open dcn (Drawn some_trans)
open yb (Box4 Cr cellsC CertE)
open pk (pickS laid_cell)
set_option linter.unusedVariables false
def CertD (c : Nat) (w : World) (e : Ending) (w' : World) : Prop := ∃ (d : ByteArray) (sat : Bool) (b m : ByteArray), e = .returned (.agg #[.string d, .bool sat, .string b, .string m]) ∧ d.size ≤ 1024 ∧ m.size ≤ 1024 ∧ b.size ≤ 400000 ∧ Cur w' c ∧ w.grownBy w' (some c)
theorem mark_size (key d : ByteArray) (sat : Bool) (b : ByteArray) : (yi.markB key d sat b).size ≤ 1024 := by
 show (zr.macT key (yg.sgB d sat b)).toArray.size ≤ _
 rw [List.size_toArray]
 unfold zr.macT
 split
 ·exact Nat.le_trans (zr.sumT_len _) (by decide)
 ·exact Nat.zero_le _
theorem iss_bd (key : ByteArray) (n : Int) (LL : List (List Int)) : ∃ (d : ByteArray) (sat : Bool) (b m : ByteArray) (ok : Bool), cellsC (yi.issO key n LL) = #[.string d, .bool sat, .string b, .string m] ∧ (yi.issO key n LL).isSome = ok ∧ d.size ≤ 1024 ∧ m.size ≤ 1024 ∧ b.size ≤ 400000 := by
 unfold yi.issO
 split
 ·exact ⟨_, _, _, _, _, rfl, rfl, by decide, by decide, by decide⟩
 ·exact ⟨_, _, _, _, _, rfl, rfl, yi.dig_size n LL, mark_size _ _ _ _, yi.body_size _⟩
set_option maxRecDepth 100000 in
set_option maxHeartbeats 4000000 in
theorem l09Cert (c : Nat) (w : World) (hc : Cur w c) :
  Calls Tryd.prog 31 #[.pointer (some ⟨c, 0, none⟩)] w fun e w' => CertD c w e w' := by
 have hlt := hc.lt
 have ga := World.grownBy_alloc w (.cells #[.string ⟨#[]⟩, .bool false, .string ⟨#[]⟩, .string ⟨#[]⟩] 25) none
 have R0 := hide (Box4.new 25 w (.string ⟨#[]⟩) (.bool false) (.string ⟨#[]⟩) (.string ⟨#[]⟩))
 have CN := hide (dr.l09Cnf c _ (hc.kept ga (fun r e => by cases e)))
 have GA := hide ga
 clear ga hc
 go_enter Tryd.func31, Tryd.ntmps31
 go_wp2_with fail
 refine (unhide CN).mono ?_; rintro e w1 ⟨k, v, M, rfl, hk, ht, od, gd, cd⟩
 obtain ⟨va, vc, rfl⟩ := od.len
 obtain ⟨d, sat, b, m, ok, ec, eo, bd, bm, bb⟩ := iss_bd ⟨#[107, 101, 121]⟩ k M
 have CI := yi.specIssue ⟨#[107, 101, 121]⟩ (.slice va M.length vc) k M w1 (by decide) ht od.sls
 unfold yb.CertE at CI
 rw [ec, eo] at CI
 have HI := hide CI
 have G1 := hide (some_trans (unhide GA) gd)
 have R1 := hide ((unhide R0).by gd (fun e => by simp only [Option.some.injEq] at e; omega))
 have C1 := hide cd
 clear CI ec eo od gd cd CN hk ht R0 GA
 go_wp2_with fail
 refine (unhide HI).mono ?_; rintro e w2 ⟨rfl, g2⟩
 obtain ⟨W2, hW2⟩ : ∃ W2, W2 = w2.alloc (.cells #[.string d, .bool sat, .string b, .string m] 25) := ⟨_, rfl⟩
 have ga : w2.grownBy W2 none := by rw [hW2]; exact World.grownBy_alloc w2 _ none
 have gs := grown_trans (r := none) g2 ga
 have K2 : Hid (Box4 25 W2 w2.heap.size (.string d) (.bool sat) (.string b) (.string m)) := by rw [hW2]; exact Box4.new 25 w2 _ _ _ _
 have G2 := hide (grown_trans' (unhide G1) (dr.some_of (r := some c) gs))
 have R2 := hide ((unhide R1).kept gs)
 have C2 := hide ((unhide C1).kept gs (fun r e => by cases e))
 have hk1 : w.heap.size < w2.heap.size := Nat.lt_of_lt_of_le (unhide R1).lt g2.size
 clear g2 ga gs HI G1 R1 C1
 go_upto_region 2 with fail
 rw [← hW2]
 clear hW2
 generalize w2.heap.size = q at *
 go_wp2_with fail
 refine (draw.once c 6 W2 (unhide C2) (by decide) (by decide)).mono ?_; rintro e w3 ⟨o1, rfl, hc3, g3⟩
 have G3 := hide (grown_trans' (unhide G2) g3)
 have R3 := hide ((unhide R2).by g3 (fun e => by simp only [Option.some.injEq] at e; omega))
 have K3 := hide ((unhide K2).by g3 (fun e => by simp only [Option.some.injEq] at e; omega))
 have C3 := hide hc3
 clear g3 hc3 G2 R2 K2 C2
 obtain ⟨m', bm', w4, G4, R4, K4, C4, hgo⟩ : ∃ (m' : ByteArray) (_ : m'.size ≤ 1024) (w4 : World), Hid (w.grownBy w4 (some c)) ∧ Hid (Box4 25 w4 w.heap.size (.string ⟨#[]⟩) (.bool false) (.string ⟨#[]⟩) (.string ⟨#[]⟩)) ∧ Hid (Box4 25 w4 q (.string d) (.bool sat) (.string b) (.string m')) ∧ Hid (Cur w4 c) ∧ (if o1 = true then m' = ⟨#[]⟩ ∧ w4 = w3.setCell ⟨q, 3, none⟩ (.string ⟨#[]⟩) else m' = m ∧ w4 = w3) := by
  cases o1
  ·exact ⟨m, bm, w3, G3, R3, K3, C3, rfl, rfl⟩
  ·exact ⟨⟨#[]⟩, by decide, _, dcn.new_some (unhide G3) (sl.grown_setCell w3 q 3 _) (Nat.le_of_lt hk1), (unhide R3).setO (by omega), (unhide K3).set3 _, (unhide C3).kept (sl.grown_setCell w3 q 3 _) (fun r e => by cases e; omega), rfl, rfl⟩
 have p3 := (unhide K3).c3
 have pf := (unhide K3).f 3
 have GOAL4 : Hid (∀ d' : ByteArray, d'.size ≤ 1024 → ∀ w5, w.grownBy w5 (some c) → Box4 25 w5 w.heap.size (.string ⟨#[]⟩) (.bool false) (.string ⟨#[]⟩) (.string ⟨#[]⟩) → Cur w5 c → CertD c w (.returned (.agg #[.string d', .bool sat, .string b, .string m'])) ((((w5.setCell ⟨w.heap.size, 0, none⟩ (.string d')).setCell ⟨w.heap.size, 1, none⟩ (.bool sat)).setCell ⟨w.heap.size, 2, none⟩ (.string b)).setCell ⟨w.heap.size, 3, none⟩ (.string m'))) := by
  intro d' hd' w5 g5 r5 c5
  have st : ∀ (wz : World) i u, w.grownBy wz (some c) → Cur wz c → w.grownBy (wz.setCell ⟨w.heap.size, i, none⟩ u) (some c) ∧ Cur (wz.setCell ⟨w.heap.size, i, none⟩ u) c := fun wz i u g h => ⟨dcn.new_some g (sl.grown_setCell wz w.heap.size i u) (Nat.le_refl _), h.kept (sl.grown_setCell wz w.heap.size i u) (fun r e => by cases e; exact hlt)⟩
  have s1 := st w5 0 (.string d') g5 c5
  have s2 := st _ 1 (.bool sat) s1.1 s1.2
  have s3 := st _ 2 (.string b) s2.1 s2.2
  have s4 := st _ 3 (.string m') s3.1 s3.2
  exact ⟨d', sat, b, m', rfl, hd', bm', bb, s4.2, s4.1⟩
 have ON := hide (draw.once c 6 w4 (unhide C4) (by decide) (by decide))
 cases o1
 ·obtain ⟨rfl, rfl⟩ := hgo
  clear p3 pf R3 G3 C3
  go_wp2_with fail
  refine (unhide ON).mono ?_; rintro e w5 ⟨o2, rfl, hc5, g5⟩
  have G5 := hide (grown_trans' (unhide G4) g5)
  have R5 := hide ((unhide R4).by g5 (fun e => by simp only [Option.some.injEq] at e; omega))
  have K5 := hide ((unhide K4).by g5 (fun e => by simp only [Option.some.injEq] at e; omega))
  have C5 := hide hc5
  clear g5 hc5 G4 R4 K4 C4 ON
  cases o2
  ·have FN := hide (unhide GOAL4 d bd w5 (unhide G5) (unhide R5) (unhide C5))
   have q0 := (unhide K5).c0
   have q1 := (unhide K5).c1
   have q2 := (unhide K5).c2
   have q3 := (unhide K5).c3
   have p0 := (unhide R5).c0
   have p1 := (unhide R5).c1
   have p2 := (unhide R5).c2
   have p3 := (unhide R5).c3
   have f0 := (unhide R5).f 0
   have f1 := (unhide R5).f 1
   have f2 := (unhide R5).f 2
   have f3 := (unhide R5).f 3
   clear GOAL4 G5 C5
   go_wp2_with fail
   (try simp only [Exit.inBlock, Exit.then])
   exact bodyPost_ret (yb.ret_box rfl rfl ((unhide R5).setA _ _ _ _)) rfl (unhide FN)
  ·go_wp2_with fail
   refine (zu.any c 3 w5 (unhide C5) (by decide)).mono ?_; rintro e w6 ⟨d', rfl, hd', hc6, g6⟩
   have K6 := hide ((unhide K5).by g6 (fun e => by simp only [Option.some.injEq] at e; omega))
   have R6 := hide ((unhide R5).by g6 (fun e => by simp only [Option.some.injEq] at e; omega))
   have G6 := hide (grown_trans' (unhide G5) g6)
   have C6 := hide hc6
   clear hc6 g6 G5 R5 K5 C5
   have q0 := (unhide K6).c0
   have qf := (unhide K6).f 0
   obtain ⟨W7, hW7⟩ : ∃ W7, W7 = w6.setCell ⟨q, 0, none⟩ (.string d') := ⟨_, rfl⟩
   have K7 := hide ((unhide K6).set0 (.string d'))
   rw [← hW7] at K7
   have R7 : Hid (Box4 25 W7 w.heap.size (.string ⟨#[]⟩) (.bool false) (.string ⟨#[]⟩) (.string ⟨#[]⟩)) := by rw [hW7]; exact (unhide R6).setO (by omega)
   have G7 : w.grownBy W7 (some c) := by rw [hW7]; exact dcn.new_some (unhide G6) (sl.grown_setCell w6 q 0 _) (Nat.le_of_lt hk1)
   have C7 : Cur W7 c := by rw [hW7]; exact (unhide C6).kept (sl.grown_setCell w6 q 0 _) (fun r e => by cases e; omega)
   have FN := hide (unhide GOAL4 d' (by omega) W7 G7 (unhide R7) C7)
   clear GOAL4 G6 C6 K6 R6 G7 C7
   go_upto_region 6 with fail
   rw [← hW7]
   clear hW7 q0 qf
   have q0 := (unhide K7).c0
   have q1 := (unhide K7).c1
   have q2 := (unhide K7).c2
   have q3 := (unhide K7).c3
   have p0 := (unhide R7).c0
   have p1 := (unhide R7).c1
   have p2 := (unhide R7).c2
   have p3 := (unhide R7).c3
   have f0 := (unhide R7).f 0
   have f1 := (unhide R7).f 1
   have f2 := (unhide R7).f 2
   have f3 := (unhide R7).f 3
   go_wp2_with fail
   (try simp only [Exit.inBlock, Exit.then])
   exact bodyPost_ret (yb.ret_box rfl rfl ((unhide R7).setA _ _ _ _)) rfl (unhide FN)
 ·obtain ⟨rfl, hw4⟩ := hgo
  clear R3 G3 C3
  go_upto_region 4 with fail
  rw [← hw4]
  clear hw4 p3 pf
  go_wp2_with fail
  refine (unhide ON).mono ?_; rintro e w5 ⟨o2, rfl, hc5, g5⟩
  have G5 := hide (grown_trans' (unhide G4) g5)
  have R5 := hide ((unhide R4).by g5 (fun e => by simp only [Option.some.injEq] at e; omega))
  have K5 := hide ((unhide K4).by g5 (fun e => by simp only [Option.some.injEq] at e; omega))
  have C5 := hide hc5
  clear g5 hc5 G4 R4 K4 C4 ON
  cases o2
  ·have FN := hide (unhide GOAL4 d bd w5 (unhide G5) (unhide R5) (unhide C5))
   have q0 := (unhide K5).c0
   have q1 := (unhide K5).c1
   have q2 := (unhide K5).c2
   have q3 := (unhide K5).c3
   have p0 := (unhide R5).c0
   have p1 := (unhide R5).c1
   have p2 := (unhide R5).c2
   have p3 := (unhide R5).c3
   have f0 := (unhide R5).f 0
   have f1 := (unhide R5).f 1
   have f2 := (unhide R5).f 2
   have f3 := (unhide R5).f 3
   clear GOAL4 G5 C5
   go_wp2_with fail
   (try simp only [Exit.inBlock, Exit.then])
   exact bodyPost_ret (yb.ret_box rfl rfl ((unhide R5).setA _ _ _ _)) rfl (unhide FN)
  ·go_wp2_with fail
   refine (zu.any c 3 w5 (unhide C5) (by decide)).mono ?_; rintro e w6 ⟨d', rfl, hd', hc6, g6⟩
   have K6 := hide ((unhide K5).by g6 (fun e => by simp only [Option.some.injEq] at e; omega))
   have R6 := hide ((unhide R5).by g6 (fun e => by simp only [Option.some.injEq] at e; omega))
   have G6 := hide (grown_trans' (unhide G5) g6)
   have C6 := hide hc6
   clear hc6 g6 G5 R5 K5 C5
   have q0 := (unhide K6).c0
   have qf := (unhide K6).f 0
   obtain ⟨W7, hW7⟩ : ∃ W7, W7 = w6.setCell ⟨q, 0, none⟩ (.string d') := ⟨_, rfl⟩
   have K7 := hide ((unhide K6).set0 (.string d'))
   rw [← hW7] at K7
   have R7 : Hid (Box4 25 W7 w.heap.size (.string ⟨#[]⟩) (.bool false) (.string ⟨#[]⟩) (.string ⟨#[]⟩)) := by rw [hW7]; exact (unhide R6).setO (by omega)
   have G7 : w.grownBy W7 (some c) := by rw [hW7]; exact dcn.new_some (unhide G6) (sl.grown_setCell w6 q 0 _) (Nat.le_of_lt hk1)
   have C7 : Cur W7 c := by rw [hW7]; exact (unhide C6).kept (sl.grown_setCell w6 q 0 _) (fun r e => by cases e; omega)
   have FN := hide (unhide GOAL4 d' (by omega) W7 G7 (unhide R7) C7)
   clear GOAL4 G6 C6 K6 R6 G7 C7
   go_upto_region 6 with fail
   rw [← hW7]
   clear hW7 q0 qf
   have q0 := (unhide K7).c0
   have q1 := (unhide K7).c1
   have q2 := (unhide K7).c2
   have q3 := (unhide K7).c3
   have p0 := (unhide R7).c0
   have p1 := (unhide R7).c1
   have p2 := (unhide R7).c2
   have p3 := (unhide R7).c3
   have f0 := (unhide R7).f 0
   have f1 := (unhide R7).f 1
   have f2 := (unhide R7).f 2
   have f3 := (unhide R7).f 3
   go_wp2_with fail
   (try simp only [Exit.inBlock, Exit.then])
   exact bodyPost_ret (yb.ret_box rfl rfl ((unhide R7).setA _ _ _ _)) rfl (unhide FN)
set_option maxHeartbeats 1600000 in
theorem drawCertText (a : Option Addr) (n cap : Nat) (w : World) (hn : n ≤ 1048576) (hB : Bs w a n) :
  Calls Tryd.prog 9 #[.slice a n cap] w fun e w' => ∃ (d : ByteArray) (sat : Bool) (b m : ByteArray), e = .returned (.agg #[.string d, .bool sat, .string b, .string m]) ∧ d.size ≤ 1024 ∧ m.size ≤ 1024 ∧ b.size ≤ 400000 ∧ w.grownBy w' none := by
 have ga := World.grownBy_alloc w (.cells #[.string ⟨#[]⟩, .bool false, .string ⟨#[]⟩, .string ⟨#[]⟩] 25) none
 have nc := newCur a n cap _ hn (hB.below (below_of ga))
 simp only [World.size_alloc] at nc
 have NC := hide nc
 have R0 := hide (Box4.new 25 w (.string ⟨#[]⟩) (.bool false) (.string ⟨#[]⟩) (.string ⟨#[]⟩))
 have GA := hide ga
 clear hB nc ga
 go_enter Tryd.func9, Tryd.ntmps9
 go_wp2_with fail
 refine (unhide NC).mono ?_; rintro e w1 ⟨rfl, hc1, g1⟩
 have C1 := hide hc1
 have G1 := hide (grown_trans (r := none) (unhide GA) g1)
 have R1 := hide ((unhide R0).kept g1)
 clear hc1 g1 NC R0 GA
 go_wp2_with fail
 refine (l09Cert _ _ (unhide C1)).mono ?_; rintro e w2 ⟨d, sat, b, m, rfl, bd, bm, bb, hc2, g2⟩
 have G2 := hide (grown_new (unhide G1) g2 (Nat.le_succ _))
 have R2 := hide ((unhide R1).by g2 (fun e => by simp only [Option.some.injEq] at e; omega))
 have p0 := (unhide R2).c0
 have p1 := (unhide R2).c1
 have p2 := (unhide R2).c2
 have p3 := (unhide R2).c3
 have f0 := (unhide R2).f 0
 have f1 := (unhide R2).f 1
 have f2 := (unhide R2).f 2
 have f3 := (unhide R2).f 3
 clear g2 hc2 C1 G1 R1
 go_wp2_with fail
 (try simp only [Exit.inBlock, Exit.then])
 exact bodyPost_ret (yb.ret_box rfl rfl ((unhide R2).setA _ _ _ _)) rfl ⟨d, sat, b, m, rfl, bd, bm, bb, yb.grown_setA (unhide G2) (Nat.le_refl _)⟩
def listC : List ByteArray := [⟨#[32]⟩, ⟨#[48]⟩, ⟨#[10]⟩, ⟨#[120]⟩, ⟨#[45]⟩]
theorem listC_size : ∀ s ∈ listC, s.size ≤ 20 := by
 intro s hs
 simp only [listC, List.mem_cons, List.not_mem_nil, or_false] at hs
 rcases hs with rfl | rfl | rfl | rfl | rfl <;> decide
theorem pickC (c : Nat) (w : World) (hc : Cur w c) :
  Calls Tryd.prog 38 #[.pointer (some ⟨c, 0, none⟩), .slice (some ⟨w.heap.size, 0, none⟩) 5 5] (w.alloc (.cells #[.string ⟨#[32]⟩, .string ⟨#[48]⟩, .string ⟨#[10]⟩, .string ⟨#[120]⟩, .string ⟨#[45]⟩] 9)).drew fun e w' => ∃ s, e = .returned (.string s) ∧ s.size ≤ 20 ∧ w.grownBy w' (some c) := by
 have g0 : w.grownBy (w.alloc (.cells #[.string ⟨#[32]⟩, .string ⟨#[48]⟩, .string ⟨#[10]⟩, .string ⟨#[120]⟩, .string ⟨#[45]⟩] 9)).drew none := grown_trans (World.grownBy_alloc w _ none) (grown_drewN _ 1)
 have g1 : w.grownBy (w.alloc (.cells #[.string ⟨#[32]⟩, .string ⟨#[48]⟩, .string ⟨#[10]⟩, .string ⟨#[120]⟩, .string ⟨#[45]⟩] 9)).drew (some c) := grown_trans (World.grownBy_alloc w _ none) (grown_drewN _ 1)
 refine (pickS c w.heap.size listC _ (hc.kept g0 (fun r e => by cases e)) hc.lt (by decide) (by decide) (laid_cell w listC 9)).mono ?_
 rintro e w1 ⟨s, rfl, hs, _, g⟩
 exact ⟨s, rfl, listC_size s hs, grown_trans' g1 g⟩
theorem catC_size (a b c : ByteArray) (i j : Nat) (h : a.size ≤ 700000) (hi : i ≤ a.size) (hc : c.size = a.size) (hb : b.size ≤ 20) (hij : i = j) : (a.extract 0 i ++ b ++ a.extract j c.size).size ≤ 1048576 := by
 rw [ByteArray.size_append, ByteArray.size_append, ByteArray.size_extract, ByteArray.size_extract]
 omega
theorem cert_size {d m b : ByteArray} (sat : Bool) (hb : b.size ≤ 400000) : (ya.certB d sat b m).size ≤ 700000 := by
 have h1 := ya.part_size d
 have h2 := ya.part_size m
 have h3 : (ya.wordB sat).size ≤ 5 := by cases sat <;> decide
 unfold ya.certB
 simp only [ByteArray.size_append]
 have e1 : (⟨#[32]⟩ : ByteArray).size = 1 := rfl
 have e2 : (⟨#[10]⟩ : ByteArray).size = 1 := rfl
 omega
set_option maxHeartbeats 1600000 in
theorem drawReadCert (a : Option Addr) (n cap : Nat) (w : World) (hn : n ≤ 1048576) (hB : Bs w a n) :
  Calls Tryd.prog 12 #[.slice a n cap] w fun e w' => ∃ s : ByteArray, e = .returned (.string s) ∧ s.size ≤ 1048576 ∧ w.grownBy w' none := by
 have NC := hide (newCur a n cap w hn hB)
 clear hB
 go_enter Tryd.func12, Tryd.ntmps12
 go_wp2_with fail
 refine (unhide NC).mono ?_; rintro e w1 ⟨rfl, hc1, g1⟩
 have C1 := hide hc1
 have G1 := hide g1
 clear hc1 g1 NC
 generalize hcc : w.heap.size = c at C1
 have HCC := hide hcc
 clear hcc
 go_wp2_with fail
 refine (l09Cert _ _ (unhide C1)).mono ?_; rintro e w2 ⟨d, sat, b, m, rfl, bd, bm, bb, hc2, g2⟩
 have CT := hide (fun w1 => ya.specCertText d sat b m w1 (by omega) (by omega) (by omega))
 have hs : (ya.certB d sat b m).size ≤ 700000 := cert_size sat bb
 have CD := hide hc2
 have GD := hide g2
 clear hc2 g2 bd bm bb C1
 generalize ya.certB d sat b m = s at *
 go_wp2_with fail
 refine (unhide CT _).mono ?_; rintro e w3 ⟨rfl, g3⟩
 have C2 := hide ((unhide CD).kept g3 (fun r e => by cases e))
 have G2 := hide (grown_trans' (unhide GD) (grown_trans (r := some c) (grown_refl _) g3))
 clear CT CD GD g3
 go_wp2_with fail
 refine (draw.below c _ _ (unhide C2) (by omega) (by omega)).mono ?_; rintro e w4 ⟨x, rfl, x0, x1, hc4, g4⟩
 obtain ⟨i, rfl⟩ := Int.eq_ofNat_of_zero_le x0
 have hi : i ≤ s.size := by omega
 have hi' : (i : Int) ≤ (s.size : Int) := by omega
 have G3 := hide (grown_trans' (unhide G2) g4)
 have HC3 := hide hc4
 clear hc4 g4 G2 C2 x0 x1
 go_wp2_with fail
 refine (draw.below c _ _ (unhide HC3) (by decide) (by decide)).mono ?_; rintro e w5 ⟨y, rfl, y0, y1, hc5, g5⟩
 have G4 := hide (grown_trans' (unhide G3) g5)
 have HC4 := hide hc5
 have EN : Hid (∀ w6, w1.grownBy w6 (some c) → w.grownBy w6 none) := fun w6 g => grown_new (unhide G1) g (by rw [unhide HCC]; exact Nat.le_refl _)
 clear hc5 g5 G3 HC3
 by_cases e0 : y = 0
 ·subst e0
  go_wp2_with fail
  go_ret
  exact ⟨_, rfl, by rw [ByteArray.size_extract]; omega, unhide EN _ (unhide G4)⟩
 by_cases e1 : y = 1
 ·subst e1
  go_wp2_with fail
  go_region_with (go_at_call 38; refine (pickC c w5 (unhide HC4)).mono ?_; rintro e w6 ⟨p, rfl, hp, g6⟩; have G5 := hide (grown_trans' (unhide G4) g6); clear g6)
  all_goals
   go_wp2_with fail
   go_ret
   exact ⟨_, rfl, catC_size _ _ _ _ _ hs hi rfl hp rfl, unhide EN _ (unhide G5)⟩
 have f0 : (y == 0) = false := by simpa using e0
 have f1 : (y == 1) = false := by simpa using e1
 clear e0 e1
 go_wp2_with fail
 go_ret
 exact ⟨_, rfl, by omega, unhide EN _ (unhide G4)⟩
end Go.Proofs.YtabiopkjeodamaaDoor.de
