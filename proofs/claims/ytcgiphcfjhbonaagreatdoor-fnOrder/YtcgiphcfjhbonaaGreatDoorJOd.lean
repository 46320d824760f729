/- The cursor that the laws draw their inputs with: it answers numbers within their bounds and writes into its own block alone; what is drawn is left open. -/
import Derived.Test.YtcgiphcfjhbonaaGreatDoorJXSl
import Derived.Laws.BitsLemmas
import Derived.Test.YtcgiphcfjhbonaaGreatDoorJXCss
import Derived.Test.YtcgiphcfjhbonaaGreatDoorJXApp
import Derived.Deep.LoopGhost
import Derived.Deep.CutRange
import Derived.Deep.CutBlock
import Derived.Test.YtcgiphcfjhbonaaGreatDoorJXLr
import Derived.Test.YtcgiphcfjhbonaaGreatDoorJXFm
namespace Go.Proofs.YtcgiphcfjhbonaaGreatDoor.draw
open Go.ChangeShapes Go.WideShapes Go.ChangeAt Go.RowKit
open sl (Sl ints hide unhide ret_int ret_bool grown_refl grown_trans grown_trans' grown_drewN)
set_option linter.unusedVariables false
theorem and255 (n : Int) : bits .and .i64 n 255 = n % 256 := by
 have h255 : (BitVec.ofInt 64 255).toNat = 2 ^ 8 - 1 := by decide
 have key : (BitVec.ofInt 64 n &&& BitVec.ofInt 64 255).toNat = (n % ((2 ^ 64 : Nat) : Int)).toNat % 2 ^ 8 := by
  rw [BitVec.toNat_and, BitVec.toNat_ofInt, h255, Nat.and_two_pow_sub_one_eq_mod]
 show IntKind.i64.wrap ((BitVec.ofInt 64 n &&& BitVec.ofInt 64 255).toNat : Nat) = n % 256
 rw [key, IntKind.wrap_i64]
 omega
theorem and255_bd (n : Int) : 0 ≤ bits .and .i64 n 255 ∧ bits .and .i64 n 255 ≤ 255 := by
 rw [and255]
 omega
def Cur (w : World) (c : Nat) : Prop :=
 ∃ (a : Option Addr) (n cap i : Nat) (h : Int), n ≤ 1048576 ∧ i ≤ n ∧ w.heap[c]? = some (.cells #[.slice a n cap, .int .i64 i, .int .i64 h] 114 (0, 0)) ∧
  (n = 0 ∨ ∃ b off, a = some ⟨b, off, none⟩ ∧ b < c ∧ ∀ j, j < n → ∃ x : Nat, x ≤ 255 ∧ w.cell? ⟨b, off + j, none⟩ = some (.int .u8 (x : Int)))
theorem Cur.lt {w : World} {c : Nat} (h : Cur w c) : c < w.heap.size := by
 obtain ⟨a, n, cap, i, h, _, _, hb, _⟩ := h
 exact (Array.getElem?_eq_some_iff.1 hb).1
theorem Cur.kept {w w' : World} {c : Nat} {row : Option Nat} (h : Cur w c) (g : w.grownBy w' row) (hr : ∀ r, row = some r → c < r) : Cur w' c := by
 have hlt := h.lt
 obtain ⟨a, n, cap, i, h, hn, hi, hb, hx⟩ := h
 refine ⟨a, n, cap, i, h, hn, hi, (g.block c hlt (fun e => by have := hr c e.symm; omega)).trans hb, ?_⟩
 rcases hx with hx | ⟨b, off, e, hbc, hx⟩
 ·exact .inl hx
 ·refine .inr ⟨b, off, e, hbc, fun j hj => ?_⟩
  obtain ⟨x, hx1, hx2⟩ := hx j hj
  exact ⟨x, hx1, g.cell hx2 (fun e => by have := hr b e.symm; omega)⟩
theorem cells3 {w : World} {c : Nat} {x y z : Value} {t : TypeId} (h : w.heap[c]? = some (.cells #[x, y, z] t (0, 0))) :
  w.cell? ⟨c, 0, none⟩ = some x ∧ w.cell? ⟨c, 1, none⟩ = some y ∧ w.cell? ⟨c, 2, none⟩ = some z ∧ ∀ j, w.frozen? ⟨c, j, none⟩ = false := by
 refine ⟨by simp [World.cell?, h], by simp [World.cell?, h], by simp [World.cell?, h], fun j => by simp [World.frozen?, h]⟩
theorem set3_1 {w : World} {c : Nat} {x y z u : Value} {t : TypeId} (h : w.heap[c]? = some (.cells #[x, y, z] t (0, 0))) : (w.setCell ⟨c, 1, none⟩ u).heap[c]? = some (.cells #[x, u, z] t (0, 0)) := by
 simp [World.setCell, Array.getElem?_modify, h]
theorem set3_2 {w : World} {c : Nat} {x y z u : Value} {t : TypeId} (h : w.heap[c]? = some (.cells #[x, y, z] t (0, 0))) : (w.setCell ⟨c, 2, none⟩ u).heap[c]? = some (.cells #[x, y, u] t (0, 0)) := by
 simp [World.setCell, Array.getElem?_modify, h]
theorem grown_drew (w : World) (q : Nat) (r : Option Nat) : w.grownBy (w.drewN q) r := ⟨rfl, rfl, rfl, Nat.le_refl _, fun _ _ _ => rfl⟩
theorem grown_one (w : World) (c q : Nat) (u : Value) : w.grownBy ((w.setCell ⟨c, 2, none⟩ u).drewN q) (some c) :=
 grown_trans' (sl.grown_setCell w c 2 u) (grown_drew _ q _)
theorem grown_two (w : World) (c q : Nat) (u u' : Value) : w.grownBy (((w.setCell ⟨c, 2, none⟩ u).drewN q).setCell ⟨c, 1, none⟩ u') (some c) :=
 grown_trans' (grown_one w c q u) (sl.grown_setCell _ c 1 u')
theorem old_cell {w w' : World} {c b off n : Nat} (g : w.grownBy w' (some c)) (hbc : b < c) (hx : ∀ j, j < n → ∃ x : Nat, x ≤ 255 ∧ w.cell? ⟨b, off + j, none⟩ = some (.int .u8 (x : Int))) :
  ∀ j, j < n → ∃ x : Nat, x ≤ 255 ∧ w'.cell? ⟨b, off + j, none⟩ = some (.int .u8 (x : Int)) := by
 intro j hj
 obtain ⟨x, hx1, hx2⟩ := hx j hj
 exact ⟨x, hx1, g.cell hx2 (fun e => by injection e with e; exact absurd e (by show b ≠ c; omega))⟩
theorem cur_one {w : World} {c : Nat} {a : Option Addr} {n cap i : Nat} {h : Int} (q : Nat) (h' : Int) (hn : n ≤ 1048576) (hi : i ≤ n) (hb : w.heap[c]? = some (.cells #[.slice a n cap, .int .i64 i, .int .i64 h] 114 (0, 0)))
  (hx : n = 0 ∨ ∃ b off, a = some ⟨b, off, none⟩ ∧ b < c ∧ ∀ j, j < n → ∃ x : Nat, x ≤ 255 ∧ w.cell? ⟨b, off + j, none⟩ = some (.int .u8 (x : Int))) :
  Cur ((w.setCell ⟨c, 2, none⟩ (.int .i64 h')).drewN q) c := by
 refine ⟨a, n, cap, i, h', hn, hi, set3_2 hb, ?_⟩
 rcases hx with h0 | ⟨b, off, e, hbc, hx⟩
 ·exact .inl h0
 ·exact .inr ⟨b, off, e, hbc, old_cell (grown_one w c q _) hbc hx⟩
theorem Cur.drew {w : World} {c : Nat} (h : Cur w c) (q : Nat) : Cur (w.drewN q) c := h.kept (grown_drew w q none) (fun r e => by cases e)
theorem cur_two {w : World} {c : Nat} {a : Option Addr} {n cap i : Nat} {h : Int} (q : Nat) (h' : Int) (hn : n ≤ 1048576) (hi : i + 1 ≤ n) (hb : w.heap[c]? = some (.cells #[.slice a n cap, .int .i64 i, .int .i64 h] 114 (0, 0)))
  (hx : n = 0 ∨ ∃ b off, a = some ⟨b, off, none⟩ ∧ b < c ∧ ∀ j, j < n → ∃ x : Nat, x ≤ 255 ∧ w.cell? ⟨b, off + j, none⟩ = some (.int .u8 (x : Int))) :
  Cur (((w.setCell ⟨c, 2, none⟩ (.int .i64 h')).drewN q).setCell ⟨c, 1, none⟩ (.int .i64 ((i : Int) + 1))) c := by
 have e1 : ((w.setCell ⟨c, 2, none⟩ (.int .i64 h')).drewN q).heap[c]? = some (.cells #[.slice a n cap, .int .i64 i, .int .i64 h'] 114 (0, 0)) := set3_2 hb
 refine ⟨a, n, cap, i + 1, h', hn, hi, ?_, ?_⟩
 ·rw [show ((i + 1 : Nat) : Int) = (i : Int) + 1 from by omega]
  exact set3_1 e1
 ·rcases hx with h0 | ⟨b, off, e, hbc, hx⟩
  ·exact .inl h0
  ·exact .inr ⟨b, off, e, hbc, old_cell (grown_two w c q _ _) hbc hx⟩
set_option maxHeartbeats 400000 in
theorem byte (c : Nat) (w : World) (hc : Cur w c) :
  Calls Tryz.prog 92 #[.pointer (some ⟨c, 0, none⟩)] w fun e w' => ∃ x : Int, e = .returned (.int .i64 x) ∧ 0 ≤ x ∧ x ≤ 255 ∧ Cur w' c ∧ w.grownBy w' (some c) := by
 obtain ⟨a, n, cap, i, h, hn, hi, hb, hx⟩ := hc
 obtain ⟨c0, c1, c2, cf⟩ := cells3 hb
 have f1 := cf 1
 have f2 := cf 2
 have HB := hide hb
 have HX := hide hx
 clear hb hx cf
 by_cases hlt : i < n
 ·rcases unhide HX with h0 | ⟨b, off, rfl, hbc, hx⟩
  ·omega
  ·have HXX := hide hx
   obtain ⟨x, hx1, hx2⟩ := hx i hlt
   have hlt' : (i : Int) < (n : Int) := by omega
   clear hx HX
   go_enter Tryz.func92, Tryz.ntmps92
   go_wp2
   go_quiet (fail)
   go_wp2
   go_quiet (fail)
   go_wp2
   go_quiet (fail)
   go_wp2
   go_ret
   exact ⟨_, rfl, (and255_bd _).1, (and255_bd _).2, cur_two _ _ hn hlt (unhide HB) (.inr ⟨b, off, rfl, hbc, unhide HXX⟩), grown_two w c _ _ _⟩
 ·have hlt' : ¬ (i : Int) < (n : Int) := by omega
  go_enter Tryz.func92, Tryz.ntmps92
  go_wp2
  go_quiet (fail)
  go_wp2
  go_quiet (fail)
  go_wp2
  go_ret
  exact ⟨_, rfl, (and255_bd _).1, (and255_bd _).2, Cur.drew (cur_one _ _ hn hi (unhide HB) (unhide HX)) _, grown_trans' (grown_one w c _ _) (grown_drew _ _ _)⟩
theorem below (c : Nat) (n : Int) (w : World) (hc : Cur w c) (n0 : 0 < n) (n1 : n ≤ 1073741824) :
  Calls Tryz.prog 49 #[.pointer (some ⟨c, 0, none⟩), .int .i64 n] w fun e w' => ∃ x : Int, e = .returned (.int .i64 x) ∧ 0 ≤ x ∧ x < n ∧ Cur w' c ∧ w.grownBy w' (some c) := by
 have HC := hide hc
 clear hc
 have m0 : ¬ n ≤ 0 := by omega
 by_cases h : n ≤ 256
 ·go_enter Tryz.func49, Tryz.ntmps49
  go_wp2_with fail
  refine (byte c _ (unhide HC)).mono ?_; rintro e w1 ⟨x, rfl, x0, x1, hc1, g1⟩
  have HC1 := hide hc1
  have G1 := hide g1
  clear hc1 g1
  go_wp2_with fail
  go_ret
  exact ⟨_, rfl, Int.emod_nonneg _ (by omega), Int.emod_lt_of_pos _ n0, unhide HC1, unhide G1⟩
 ·go_enter Tryz.func49, Tryz.ntmps49
  go_wp2_with fail
  refine (byte c _ (unhide HC)).mono ?_; rintro e w1 ⟨x, rfl, x0, x1, hc1, g1⟩
  have HC1 := hide hc1
  have G1 := hide g1
  clear hc1 g1 HC
  go_wp2_with fail
  refine (byte c _ (unhide HC1)).mono ?_; rintro e w2 ⟨y, rfl, y0, y1, hc2, g2⟩
  have HC2 := hide hc2
  have G2 := hide (grown_trans' (unhide G1) g2)
  clear hc2 g2 HC1 G1
  go_wp2_with fail
  refine (byte c _ (unhide HC2)).mono ?_; rintro e w3 ⟨z, rfl, z0, z1, hc3, g3⟩
  have HC3 := hide hc3
  have G3 := hide (grown_trans' (unhide G2) g3)
  clear hc3 g3 HC2 G2
  go_wp2_with fail
  refine (byte c _ (unhide HC3)).mono ?_; rintro e w4 ⟨q, rfl, q0, q1, hc4, g4⟩
  have HC4 := hide hc4
  have G4 := hide (grown_trans' (unhide G3) g4)
  clear hc4 g4 HC3 G3
  go_wp2_with fail
  go_ret
  exact ⟨_, rfl, Int.emod_nonneg _ (by omega), Int.emod_lt_of_pos _ n0, unhide HC4, unhide G4⟩
theorem once (c : Nat) (n : Int) (w : World) (hc : Cur w c) (n0 : 0 < n) (n1 : n ≤ 1073741824) :
  Calls Tryz.prog 35 #[.pointer (some ⟨c, 0, none⟩), .int .i64 n] w fun e w' => ∃ b : Bool, e = .returned (.bool b) ∧ Cur w' c ∧ w.grownBy w' (some c) := by
 have HC := hide hc
 clear hc
 go_enter Tryz.func35, Tryz.ntmps35
 go_wp2_with fail
 refine (below c n _ (unhide HC) n0 n1).mono ?_; rintro e w1 ⟨x, rfl, x0, x1, hc1, g1⟩
 have HC1 := hide hc1
 have G1 := hide g1
 clear hc1 g1
 go_wp2_with fail
 go_ret
 exact ⟨_, rfl, unhide HC1, unhide G1⟩
def Bs (w : World) (a : Option Addr) (n : Nat) : Prop := n = 0 ∨ ∃ b off, a = some ⟨b, off, none⟩ ∧ b < w.heap.size ∧ ∀ j, j < n → ∃ x : Nat, x ≤ 255 ∧ w.cell? ⟨b, off + j, none⟩ = some (.int .u8 (x : Int))
theorem Bs.below {w w' : World} {a : Option Addr} {n : Nat} (h : Bs w a n) (hb : Below w.heap.size w w') : Bs w' a n := by
 rcases h with h | ⟨b, off, e, hl, hx⟩
 ·exact .inl h
 ·refine .inr ⟨b, off, e, Nat.lt_of_lt_of_le hl hb.size, fun j hj => ?_⟩
  obtain ⟨x, hx1, hx2⟩ := hx j hj
  exact ⟨x, hx1, (hb.cell (p := ⟨b, off + j, none⟩) hl).trans hx2⟩
theorem of_rowB {w : World} {a : Option Addr} {len cap : Nat} {zs : List Int}
  (h : (a = none ∧ len = 0 ∧ cap = 0 ∧ zs = []) ∨ ∃ x, a = some x ∧ len ≤ cap ∧ cap ≤ maxLen ∧ zs.length = cap ∧ (∀ i, i < zs.length → w.cell? (x.add i) = some (.int .u8 (zs.getD i 0))) ∧ ∀ n ∈ zs, (Lit.int .u8 n).wf = true) :
  Bs w a len := by
 rcases h with ⟨rfl, rfl, rfl, rfl⟩ | ⟨x, rfl, hl, hm, hz, hc, hw⟩
 ·exact .inl rfl
 ·by_cases h0 : len = 0
  ·exact .inl h0
  ·obtain ⟨b, off, spot⟩ := x
   have h1 := hc 0 (by omega)
   have hs : spot = none := by simpa [Addr.add] using World.cell?_spot h1
   subst hs
   refine .inr ⟨b, off, rfl, World.block_lt_of_cell? w _ h1, fun j hj => ?_⟩
   have h2 := hc j (by omega)
   rw [Addr.add_lit] at h2
   have hm : zs.getD j 0 ∈ zs := by rw [show zs.getD j 0 = zs[j]'(by omega) by simp [show j < zs.length by omega]]; exact List.getElem_mem _
   have h3 := hw _ hm
   have h4 : 0 ≤ zs.getD j 0 ∧ zs.getD j 0 ≤ 255 := by simpa [Lit.wf, IntKind.min, IntKind.max, IntKind.signed, IntKind.bits] using h3
   exact ⟨(zs.getD j 0).toNat, by omega, by rw [h2]; congr 2; omega⟩
theorem new_cur (w : World) (a : Option Addr) (n cap : Nat) (h : Int) (hn : n ≤ 1048576) (hB : Bs w a n) : Cur (w.alloc (.cells #[.slice a n cap, .int .i64 0, .int .i64 h] 114)) w.heap.size := by
 refine ⟨a, n, cap, 0, h, hn, Nat.zero_le _, heap_alloc_new w _, ?_⟩
 rcases hB with h0 | ⟨b, off, e, hl, hx⟩
 ·exact .inl h0
 ·refine .inr ⟨b, off, e, hl, fun j hj => ?_⟩
  obtain ⟨x, hx1, hx2⟩ := hx j hj
  exact ⟨x, hx1, (World.grownBy_alloc w _ none).cell hx2 (fun e => by cases e)⟩
theorem newCur (a : Option Addr) (n cap : Nat) (w : World) (hn : n ≤ 1048576) (hB : Bs w a n) :
  Calls Tryz.prog 33 #[.slice a n cap] w fun e w' => e = .returned (.pointer (some ⟨w.heap.size, 0, none⟩)) ∧ Cur w' w.heap.size ∧ w.grownBy w' none := by
 have HB := hide hB
 clear hB
 go_enter Tryz.func33, Tryz.ntmps33
 go_wp2
 go_loop [3, 4] (fun h i => ∃ (k : Nat) (H : Int), k ≤ n ∧ i = .int .i64 k ∧ h = .int .i64 H) (fun _ i => n - (intOf i).toNat)
 case atStart => exact ⟨0, _, Nat.zero_le _, rfl, rfl⟩
 case round =>
  obtain ⟨k, H, hk, rfl, rfl⟩ := hrel
  by_cases hlt : k < n
  ·have hi' : (k : Int) < (n : Int) := by omega
   by_cases h4 : k < 4000
   ·have h4' : (k : Int) < 4000 := by omega
    rcases unhide HB with h0 | ⟨b, off, rfl, hl, hx⟩
    ·omega
    ·obtain ⟨x, hx1, hx2⟩ := hx k hlt
     clear hx
     go_wp2
     go_round
     case rel => exact ⟨k + 1, _, by omega, by go_num, rfl⟩
     case measure => simp [intOf]; omega
   ·have h4' : decide ((k : Int) < 4000) = false := decide_eq_false (by omega)
    go_wp2
    go_ret
    exact ⟨rfl, new_cur _ _ _ _ _ hn (unhide HB), World.grownBy_alloc _ _ _⟩
  ·have hi' : decide ((k : Int) < (n : Int)) = false := decide_eq_false (by omega)
   go_wp2
   go_ret
   exact ⟨rfl, new_cur _ _ _ _ _ hn (unhide HB), World.grownBy_alloc _ _ _⟩
theorem grown_new {a b d : World} {r : Nat} (h : a.grownBy b none) (k : b.grownBy d (some r)) (hr : a.heap.size ≤ r) : a.grownBy d none :=
 ⟨k.os.trans h.os, k.tape.trans h.tape, k.output.trans h.output, Nat.le_trans h.size k.size, fun i hi _ => (k.block i (Nat.lt_of_lt_of_le hi h.size) (fun e => by injection e with e; omega)).trans (h.block i hi (fun e => by cases e))⟩
theorem big (a : Option Addr) (n cap : Nat) (w : World) (hn : n ≤ 9223372036854775807) : Calls Tryz.prog 8 #[.slice a n cap] w fun e w' => e = .returned (.bool (decide (1048576 < n))) ∧ w' = w := by
 by_cases h : 1048576 < n
 ·rw [decide_eq_true h]
  have h' : (1048576 : Int) < (n : Int) := by omega
  go_enter Tryz.func8, Tryz.ntmps8
  go_wp2
  go_ret
  exact ⟨rfl, rfl⟩
 ·rw [decide_eq_false h]
  have h' : ¬ (1048576 : Int) < (n : Int) := by omega
  go_enter Tryz.func8, Tryz.ntmps8
  go_wp2
  go_ret
  exact ⟨rfl, rfl⟩
end Go.Proofs.YtcgiphcfjhbonaaGreatDoor.draw
namespace Go.Proofs.YtcgiphcfjhbonaaGreatDoor.dcls
open Go.ChangeShapes Go.WideShapes Go.ChangeAt Go.RowKit
open sl (Sl ints hide unhide grown_refl grown_trans grown_trans' of_below below_of grown_drewN)
open draw (Cur Bs newCur grown_new)
open wo (Made)
set_option linter.unusedVariables false
def MadeC (c : Nat) (w w1 : World) (v : Value) (M : List Int) : Prop := w1.ownsRow w.heap.size 3 1 v M.length (ints M) ∧ w.grownBy w1 (some c) ∧ Cur w1 c
theorem MadeC.form {c : Nat} {w w1 : World} {v : Value} {M : List Int} (h : MadeC c w w1 v M) : ∃ a cap, v = .slice a M.length cap := by
 obtain ⟨a, cap, e, _⟩ := Sl.of_own h.1
 exact ⟨a, cap, e⟩
theorem MadeC.turn {c : Nat} {w wr w1 : World} {v : Value} {M : List Int} (h : MadeC c w wr v M) (hc : c < w.heap.size) (g : wr.grownBy w1 (some c)) (hcur : Cur w1 c) : MadeC c w w1 v M := by
 refine ⟨h.1.kept g (.inr (fun e => ?_)), grown_trans' h.2.1 g, hcur⟩
 have := (h.1.lt c e).1
 omega
theorem MadeC.start (c : Nat) (w : World) (h : Cur w c) : MadeC c w (w.alloc (.cells #[] 3)) (.slice (some ⟨w.heap.size, 0, none⟩) 0 0) [] :=
 ⟨(app.made_nil w).1, World.grownBy_alloc _ _ _, h.kept (World.grownBy_alloc w _ none) (fun r e => by cases e)⟩
theorem MadeC.grow {c : Nat} {w wr w1 : World} {v v' : Value} {M : List Int} {y : Int} {o : Obj} (h : MadeC c w wr v M) (hc : c < w.heap.size)
  (hown' : w1.ownsRow w.heap.size 3 1 v' (M.length + 1) (ints M ++ [.int .i64 y])) (hgrow : (wr.alloc o).grownBy w1 v.ownBlock) : MadeC c w w1 v' (M ++ [y]) := by
 obtain ⟨hown, hg, hcur⟩ := h
 refine ⟨?_, ⟨hgrow.os.trans hg.os, hgrow.tape.trans hg.tape, hgrow.output.trans hg.output, ?_, fun k hk hne => ?_⟩, ?_⟩
 ·have e1 : (M ++ [y]).length = M.length + 1 := by simp
  have e2 : ints (M ++ [y]) = ints M ++ [.int .i64 y] := by simp [ints]
  rw [e1, e2]
  exact hown'
 ·have h1 := hgrow.size
  have h2 := hg.size
  simp at h1
  omega
 ·have h2 := hg.size
  rw [hgrow.block k (by simp; omega) ?_, Below.heap_alloc _ _ _ (by omega)]
  ·exact hg.block k hk hne
  ·intro e
   have := (hown.lt k e.symm).1
   omega
 ·refine (hcur.kept (World.grownBy_alloc wr o none) (fun r e => by cases e)).kept hgrow (fun r e => ?_)
  have := (hown.lt r e).1
  omega
theorem appendC {ops : Array Oper} {rest : List Oper} {o : Oper} {a : Act} {Q : Exit → Act → World → Prop} {c : Nat} {w wr : World} {v : Value} {M : List Int} {y : Int}
  (hm : MadeC c w wr v M) (hc : c < w.heap.size) (hM : M.length ≤ 4194304) (hgd : o.guard = none) (s x : Operand)
  (ho : o.op = .call { callee := .builtin .append, args := #[s, x], argTypes := #[43, 43] }) (hs : a.eval s = v) (hx : a.eval x = .slice (some ⟨wr.heap.size, 0, none⟩) 1 1)
  (h : ∀ v' w1, MadeC c w w1 v' (M ++ [y]) → wpList Tryz.prog ops Q rest (a.put o.dst v') w1) :
  wpList Tryz.prog ops Q (o :: rest) a (wr.alloc (.cells #[.int .i64 y] 3)) := by
 obtain ⟨i0, hi, hz0, hz1, hz2⟩ := info_parts sl.info3
 have hown := hm.1
 have hsz := hm.2.1.size
 refine wpList_append_own _ hgd s x 43 ho w.heap.size 3 i0 (.int .i64 0) 1 8 Tryz.underlying43 hi hz0 hz1 hz2 rfl (by decide) v M.length (ints M) hs (hown.alloc _) ⟨wr.heap.size, 0, none⟩ 1 1 [.int .i64 y] hx rfl ?_ ?_ ?_ ?_ ?_ ?_
 ·intro j u hj
  match j, hj with
  | 0, hj => simp at hj; subst hj; simp [Addr.add]
 ·intro u hu
  simp at hu
  subst hu
  rfl
 ·unfold maxLen
  omega
 ·omega
 ·simp
  omega
 ·intro v' w1 hown' hgrow _
  exact h v' w1 (hm.grow hc hown' hgrow)
end Go.Proofs.YtcgiphcfjhbonaaGreatDoor.dcls
namespace Go.Proofs.YtcgiphcfjhbonaaGreatDoor.dcn
open Go.ChangeShapes Go.WideShapes Go.ChangeAt Go.RowKit
open sl (Sl Own ints hide unhide grown_refl grown_trans grown_trans' of_below below_of grown_drewN)
open css (Sls OwnS tot)
open cf (Box)
open draw (Cur Bs newCur grown_new)
open dcls (MadeC MadeC.start appendC)
set_option linter.unusedVariables false
theorem ownS_turn {lo hi c : Nat} {w w1 : World} {v : Value} {M : List (List Int)} (h : OwnS lo hi w v M) (hc : c < lo) (g : w.grownBy w1 (some c)) : OwnS lo hi w1 v M := by
 have kp : ∀ (t : TypeId) (p : Value) (n : Nat) (xs : List Value), w.ownsRow lo t 1 p n xs → w1.ownsRow lo t 1 p n xs := fun t p n xs h => h.kept g (by
  cases e : p.ownBlock with
  | none => exact .inl rfl
  | some k => exact .inr (fun e' => by cases e'; have := (h.lt _ e).1; omega))
 obtain ⟨D, e, ho, hb, hin, hp⟩ := h
 exact ⟨D, e, kp _ _ _ _ ho, hb, fun p hp => ⟨kp _ _ _ _ (hin p hp).1, (hin p hp).2⟩, hp⟩
def MidD (c : Nat) (w wr : World) (b : Nat) (n : Int) (M : List (List Int)) (Bs : List (Nat × Value × Value)) (hi : Nat) : Prop :=
 w.heap.size ≤ b ∧ c < w.heap.size ∧ w.grownBy wr (some c) ∧ Cur wr c ∧ hi ≤ wr.heap.size ∧ (∀ p ∈ Bs, p.1 ≠ b ∧ p.1 ≠ c ∧ Box 32 wr p.1 p.2.1 p.2.2) ∧ ∃ a cap, Box 32 wr b (.int .i64 n) (.slice a M.length cap) ∧ OwnS w.heap.size hi wr (.slice a M.length cap) M
theorem MidD.turn {c : Nat} {w wr w1 : World} {b : Nat} {n : Int} {M : List (List Int)} {Bs : List (Nat × Value × Value)} {hi : Nat} (h : MidD c w wr b n M Bs hi) (g : wr.grownBy w1 (some c)) (hcur : Cur w1 c) : MidD c w w1 b n M Bs hi := by
 obtain ⟨hb, hc, hg, _, hh, hB, a, cap, bx, ho⟩ := h
 exact ⟨hb, hc, grown_trans' hg g, hcur, Nat.le_trans hh g.size, fun p hp => ⟨(hB p hp).1, (hB p hp).2.1, (hB p hp).2.2.by g (fun e => (hB p hp).2.1 (by cases e; rfl))⟩, a, cap, bx.by g (fun e => by cases e; omega), ownS_turn ho hc g⟩
theorem MidD.cur {c : Nat} {w wr : World} {b : Nat} {n : Int} {M : List (List Int)} {Bs : List (Nat × Value × Value)} {hi : Nat} (h : MidD c w wr b n M Bs hi) : Cur wr c := h.2.2.2.1
theorem MidD.grown {c : Nat} {w wr : World} {b : Nat} {n : Int} {M : List (List Int)} {Bs : List (Nat × Value × Value)} {hi : Nat} (h : MidD c w wr b n M Bs hi) : w.grownBy wr (some c) := h.2.2.1
theorem MidD.c0 {c : Nat} {w wr : World} {b : Nat} {n : Int} {M : List (List Int)} {Bs : List (Nat × Value × Value)} {hi : Nat} (h : MidD c w wr b n M Bs hi) : wr.cell? ⟨b, 0, none⟩ = some (.int .i64 n) := by
 obtain ⟨_, _, _, _, _, _, a, cap, bx, _⟩ := h
 exact bx.c0
theorem MidD.step {c : Nat} {w wr w1 : World} {b : Nat} {n : Int} {M : List (List Int)} {Bs : List (Nat × Value × Value)} {hi : Nat} {L : List Int} {a : Option Addr} {cap g cap' : Nat} {u : Value}
  (hb : w.heap.size ≤ b) (hc : c < w.heap.size) (hg : w.grownBy wr (some c)) (hcur : Cur wr c) (hB : ∀ p ∈ Bs, p.1 ≠ b ∧ p.1 ≠ c ∧ Box 32 wr p.1 p.2.1 p.2.2) (bx : Box 32 wr b (.int .i64 n) (.slice a M.length cap)) (ho : OwnS w.heap.size hi wr (.slice a M.length cap) M)
  (h1 : OwnS w.heap.size w1.heap.size w1 (.slice (some ⟨g, 0, none⟩) (M.length + 1) cap') (M ++ [L])) (g1 : (wr.alloc (.cells #[u] 43)).grownBy w1 (Value.slice a M.length cap).ownBlock) :
  (w1.cell? ⟨b, 1, none⟩ = some (.slice a M.length cap) ∧ w1.frozen? ⟨b, 1, none⟩ = false) ∧ MidD c w (w1.setCell ⟨b, 1, none⟩ (.slice (some ⟨g, 0, none⟩) (M.length + 1) cap')) b n (M ++ [L]) Bs w1.heap.size := by
 have gA := World.grownBy_alloc wr (.cells #[u] 43) none
 have hb2 := bx.kept gA
 obtain ⟨D, e, hw, hbb, hin, hp⟩ := ho.kept gA
 have hb1 := hb2.by g1 (gr.box_ne hw gr.ty1 hb2)
 have hg1 : w.grownBy w1 (some c) := ⟨g1.os.trans (gA.os.trans hg.os), g1.tape.trans (gA.tape.trans hg.tape), g1.output.trans (gA.output.trans hg.output), Nat.le_trans hg.size (Nat.le_trans gA.size g1.size), fun k hk hne => by
  rw [g1.block k (Nat.lt_of_lt_of_le hk (Nat.le_trans hg.size gA.size)) (fun e => by have := (hw.lt k e.symm).1; omega), gA.block k (Nat.lt_of_lt_of_le hk hg.size) (fun e => by cases e)]
  exact hg.block k hk hne⟩
 have hcur1 : Cur w1 c := (hcur.kept gA (fun r e => by cases e)).kept g1 (fun r e => by have := (hw.lt r e).1; omega)
 have hB1 : ∀ p ∈ Bs, Box 32 w1 p.1 p.2.1 p.2.2 := by
  intro p hp'
  have hbb := (hB _ hp').2.2.kept gA
  exact hbb.by g1 (gr.box_ne hw gr.ty1 hbb)
 have gS := sl.grown_setCell w1 b 1 (.slice (some ⟨g, 0, none⟩) (M.length + 1) cap')
 refine ⟨⟨hb1.c1, hb1.f 1⟩, hb, hc, ?_, hcur1.kept gS (fun r e => by cases e; omega), by rw [cf.size_set]; exact Nat.le_refl _, fun p hp' => ⟨(hB p hp').1, (hB p hp').2.1, (hB1 p hp').setO (fun e => (hB p hp').1 e.symm)⟩, some ⟨g, 0, none⟩, cap', ?_, ?_⟩
 ·exact ⟨gS.os.trans hg1.os, gS.tape.trans hg1.tape, gS.output.trans hg1.output, Nat.le_trans hg1.size gS.size, fun k hk hne => (gS.block k (Nat.lt_of_lt_of_le hk hg1.size) (fun e => by cases e; omega)).trans (hg1.block k hk hne)⟩
 ·have := hb1.set1 (.slice (some ⟨g, 0, none⟩) (M.length + 1) cap')
  rw [List.length_append]
  exact this
 ·rw [List.length_append]
  exact gr.ownS_set h1 hb1
def Drawn (c : Nat) (w w' : World) (v : Value) (M : List (List Int)) : Prop := OwnS w.heap.size w'.heap.size w' v M ∧ w.grownBy w' (some c) ∧ Cur w' c
def good (n : Int) (L : List Int) : Bool := decide (L.length ≤ 4) && L.all fun x => decide (x ≠ 0 ∧ -n ≤ x ∧ x ≤ n)
def Right (c : Nat) (w w' : World) (most n : Int) (v : Value) (M : List (List Int)) : Prop := (1 ≤ n ∧ n ≤ most) ∧ (M.length : Int) ≤ 4 * n + 2 ∧ M.all (good n) = true ∧ Drawn c w w' v M
theorem new_some {a b d : World} {c r : Nat} (h : a.grownBy b (some c)) (k : b.grownBy d (some r)) (hr : a.heap.size ≤ r) : a.grownBy d (some c) :=
 ⟨k.os.trans h.os, k.tape.trans h.tape, k.output.trans h.output, Nat.le_trans h.size k.size, fun i hi hn => (k.block i (Nat.lt_of_lt_of_le hi h.size) (fun e => by cases e; omega)).trans (h.block i hi hn)⟩
theorem good_all {n : Int} {N : List Int} (hl : N.length ≤ 4) (h : N.all (fun x => decide (x ≠ 0 ∧ -n ≤ x ∧ x ≤ n)) = true) : good n N = true := by
 unfold good
 rw [h, decide_eq_true hl]
 rfl
theorem all_snoc {n : Int} {N : List Int} {y : Int} (h : N.all (fun x => decide (x ≠ 0 ∧ -n ≤ x ∧ x ≤ n)) = true) (hy : y ≠ 0 ∧ -n ≤ y ∧ y ≤ n) : (N ++ [y]).all (fun x => decide (x ≠ 0 ∧ -n ≤ x ∧ x ≤ n)) = true := by
 rw [List.all_append, h]
 simp [hy]
theorem allG_snoc {n : Int} {M : List (List Int)} {L : List Int} (h : M.all (good n) = true) (hy : good n L = true) : (M ++ [L]).all (good n) = true := by
 rw [List.all_append, h]
 simp [hy]
theorem midD_start {c : Nat} {w w1 : World} {n : Int} (hlt : c < w.heap.size) (hc1 : Cur w1 c) (g1 : (w.alloc (.cells #[.int .i64 0, .slice none 0 0] 32)).grownBy w1 (some c)) :
  MidD c w (w1.alloc (.cells #[.int .i64 n, .slice none 0 0] 32)) w1.heap.size n [] [(w.heap.size, .int .i64 0, .slice none 0 0)] (w1.heap.size + 1) := by
 have g0 := World.grownBy_alloc w (.cells #[.int .i64 0, .slice none 0 0] 32) (some c)
 have hb := (Box.new 32 w (.int .i64 0) (.slice none 0 0)).by g1 (fun e => by cases e; omega)
 have gA := World.grownBy_alloc w1 (.cells #[.int .i64 n, .slice none 0 0] 32)
 have hs := (grown_trans' g0 g1).size
 refine ⟨hs, hlt, grown_trans' (grown_trans' g0 g1) (gA _), hc1.kept (gA none) (fun r e => by cases e), by rw [World.size_alloc]; exact Nat.le_refl _, fun p hp => ?_, none, 0, Box.new _ _ _ _, ?_⟩
 ·rw [List.mem_singleton] at hp
  subst hp
  exact ⟨fun e => by have := hb.lt; have e' : w.heap.size = w1.heap.size := e; omega, fun e => by have e' : w.heap.size = c := e; omega, hb.kept (gA none)⟩
 ·exact ⟨[], rfl, World.ownsRow_nil _ _ _ _, fun k e => (by cases e), fun p hp => (by cases hp), .nil⟩
set_option maxRecDepth 100000 in
set_option maxHeartbeats 4000000 in
theorem cnf (c : Nat) (most : Int) (w : World) (hc : Cur w c) (m0 : 0 < most) (m1 : most ≤ 6) :
  Calls Tryz.prog 75 #[.pointer (some ⟨c, 0, none⟩), .int .i64 most] w fun e w' => ∃ (n : Int) (v : Value) (M : List (List Int)), e = .returned (.agg #[.int .i64 n, v]) ∧ Right c w w' most n v M := by
 have hlt := hc.lt
 have C0 := hide (hc.kept (World.grownBy_alloc w (.cells #[.int .i64 0, .slice none 0 0] 32) none) (fun r e => by cases e))
 clear hc
 go_enter Tryz.func75, Tryz.ntmps75
 go_wp2_with fail
 refine (draw.below c _ _ (unhide C0) m0 (by omega)).mono ?_; rintro e w1 ⟨x, rfl, x0, x1, hc1, g1⟩
 have M1 := hide (midD_start (n := 1 + x) hlt hc1 g1)
 have y0 := (unhide M1).c0
 clear hc1 g1 C0
 go_wp2_with fail
 refine (draw.below c _ _ (unhide M1).cur (by omega) (by omega)).mono ?_; rintro e w2 ⟨k, rfl, k0, k1, hc2, g2⟩
 obtain ⟨K, rfl⟩ := Int.eq_ofNat_of_zero_le k0
 have M2 := hide (((unhide M1).turn g2 hc2))
 have hw1 := (unhide M1).2.2.2.2.1
 clear hc2 g2 M1 y0 k0
 generalize hb : w1.heap.size = b at *
 clear hb
 go_wp2_with fail
 go_loopg [7] K (fun gk i wr => ∃ (M : List (List Int)), M.length ≤ K ∧ gk = K - M.length ∧ i = .int .i64 M.length ∧ Hid (M.all (good (1 + x)) = true) ∧ Hid (∃ hi, MidD c w wr b (1 + x) M [(w.heap.size, .int .i64 0, .slice none 0 0)] hi))
 case atStart => exact ⟨[], Nat.zero_le _, rfl, rfl, rfl, _, unhide M2⟩
 case round =>
  obtain ⟨M, hj, hgk, rfl, hgood, hmid⟩ := hrel
  clear M2
  obtain ⟨hi0, hm0⟩ := unhide hmid
  have HM := hide hm0
  clear hmid hm0
  by_cases hlt' : M.length < K
  ·have hij : (M.length : Int) < (K : Int) := by omega
   have ST := hide (MadeC.start c wr (unhide HM).cur)
   have hcw : c < wr.heap.size := Nat.lt_of_lt_of_le hlt (unhide HM).grown.size
   go_wp2_with fail
   refine (draw.below c _ _ (unhide ST).2.2 (by decide) (by decide)).mono ?_; rintro e w3 ⟨q, rfl, q0, q1, hc3, g3⟩
   have S3 := hide ((unhide ST).turn hcw g3 hc3)
   clear hc3 g3 ST
   go_wp2_with fail
   refine (draw.once c _ _ (unhide S3).2.2 (by decide) (by decide)).mono ?_; rintro e w4 ⟨bt, rfl, hc4, g4⟩
   have S4 := hide ((unhide S3).turn hcw g4 hc4)
   clear hc4 g4 S3
   go_upto_if 33 with fail
   go_cut [9] from 23 to 66 (fun z wx => ∃ sz : Int, z = .int .i64 sz ∧ 0 ≤ sz ∧ sz ≤ 4 ∧ Hid (MadeC c wr wx (.slice (some ⟨wr.heap.size, 0, none⟩) 0 0) []))
   case first =>
    cases bt
    ·go_wp2_with fail
     go_meet
     exact ⟨_, rfl, by omega, by omega, S4⟩
    ·go_wp2_with fail
     refine (draw.below c _ _ (unhide S4).2.2 (by decide) (by decide)).mono ?_; rintro e w5 ⟨q', rfl, q0', q1', hc5, g5⟩
     have S5 := hide ((unhide S4).turn hcw g5 hc5)
     clear hc5 g5
     go_wp2_with fail
     go_meet
     exact ⟨_, rfl, by omega, by omega, S5⟩
   case rest =>
    obtain ⟨sz, rfl, sz0, sz1, hS⟩ := hcut
    clear S4 q0 q1
    go_upto_region 10 with fail
    go_cut [42] from 23 to 66 (fun z wx => ∃ bt : Bool, z = .bool bt ∧ Hid (MadeC c wr wx (.slice (some ⟨wr.heap.size, 0, none⟩) 0 0) []))
    case first =>
     by_cases h2 : sz < 2
     ·have OC := hide (draw.once c 3 _ (unhide hS).2.2 (by decide) (by decide))
      go_wp2_with (go_at_call 35; refine (unhide OC).mono ?_; rintro e w5 ⟨bu, rfl, hc5, g5⟩; have S5 := hide ((unhide hS).turn hcw g5 hc5); clear hc5 g5)
      go_meet
      exact ⟨_, rfl, S5⟩
     ·go_wp2_with fail
      go_meet
      exact ⟨_, rfl, hS⟩
    case rest =>
     obtain ⟨bv, rfl, hS2⟩ := hcut
     rename_i wc'
     clear hS
     go_upto_if 42 with fail
     go_cut [9] from 23 to 66 (fun z wx => ∃ sz : Nat, z = .int .i64 sz ∧ sz ≤ 4 ∧ Hid (MadeC c wr wx (.slice (some ⟨wr.heap.size, 0, none⟩) 0 0) []))
     case first =>
      cases bv
      ·go_wp2_with fail
       go_meet
       exact ⟨sz.toNat, by rw [Int.toNat_of_nonneg sz0], by omega, hS2⟩
      ·go_wp2_with fail
       go_meet
       exact ⟨2, rfl, by omega, hS2⟩
     case rest =>
      obtain ⟨Z, rfl, hZ, hS3⟩ := hcut
      clear hS2 sz0 sz1
      go_wp2_with fail
      go_loopg [8, 10] Z (fun gd u d wq => ∃ (N : List Int), N.length ≤ Z ∧ gd = Z - N.length ∧ d = .int .i64 N.length ∧ Hid (N.all (fun x_1 => decide (x_1 ≠ 0 ∧ -(1 + x) ≤ x_1 ∧ x_1 ≤ 1 + x)) = true) ∧ Hid (MadeC c wr wq u N))
      case atStart => exact ⟨[], Nat.zero_le _, rfl, rfl, rfl, hS3⟩
      case round =>
       obtain ⟨N, he, hgd, rfl, hall, hS4⟩ := hrel
       clear hS3
       by_cases hlz : N.length < Z
       ·have hiz : (N.length : Int) < (Z : Int) := by omega
        have y0 := ((unhide HM).turn (unhide hS4).2.1 (unhide hS4).2.2).c0
        have CB := hide (draw.below c (1 + x) _ (unhide hS4).2.2 (by omega) (by omega))
        go_wp2_with fail
        refine (unhide CB).mono ?_; rintro e' w6 ⟨q, rfl, q0, q1, hc6, g6⟩
        have S6 := hide ((unhide hS4).turn hcw g6 hc6)
        clear hc6 g6 CB hS4 y0
        go_wp2_with fail
        refine (draw.once c _ _ (unhide S6).2.2 (by decide) (by decide)).mono ?_; rintro e' w7 ⟨bw, rfl, hc7, g7⟩
        have S7 := hide ((unhide S6).turn hcw g7 hc7)
        clear hc7 g7 S6
        cases bw
        ·have HA := hide (all_snoc (y := 1 + q) (unhide hall) (by omega))
         clear hall
         go_wp2_with (at_builtin; refine appendC (unhide S7) hcw (by omega) rfl _ _ rfl rfl rfl ?_)
         intro v' w8 R
         have S8 := hide R
         clear R S7
         go_wp2
         go_roundg (Z - (N.length + 1))
         case measure => omega
         case rel => exact ⟨_, by rw [List.length_append]; simp; omega, by rw [List.length_append]; rfl, by rw [List.length_append]; go_num, HA, S8⟩
        ·have HA := hide (all_snoc (y := -(1 + q)) (unhide hall) (by omega))
         clear hall
         go_wp2_with (at_builtin; refine appendC (unhide S7) hcw (by omega) rfl _ _ rfl rfl rfl ?_)
         intro v' w8 R
         have S8 := hide R
         clear R S7
         go_wp2
         go_roundg (Z - (N.length + 1))
         case measure => omega
         case rel => exact ⟨_, by rw [List.length_append]; simp; omega, by rw [List.length_append]; rfl, by rw [List.length_append]; go_num, HA, S8⟩
       ·have hiz : ¬ (N.length : Int) < (Z : Int) := by omega
        have GN := hide (good_all (n := 1 + x) (N := N) (by omega) (unhide hall))
        have G2 := hide (allG_snoc (unhide hgood) (unhide GN))
        obtain ⟨ua, uc, hue⟩ := (unhide hS4).form
        subst hue
        obtain ⟨qb, qc, qg, qcur, qh, qB, oa, ocap, bx, ho⟩ := (unhide HM).turn (unhide hS4).2.1 (unhide hS4).2.2
        have ou := hide (sl.Own.of (unhide hS4).1)
        have ho' := hide (ho.sub (Nat.le_refl _) (unhide HM).2.2.2.2.1)
        have HS := hide (fun (g' cap' : Nat) (w1 : World) h1 g1 => MidD.step (u := .slice ua N.length uc) (L := N) (g := g') (cap' := cap') (w1 := w1) qb qc qg qcur qB bx (unhide ho') h1 g1)
        have hlo : w.heap.size ≤ _ := (unhide HM).grown.size
        have hmd := (unhide hS4).2.1.size
        have b0 := bx.c0
        have b1 := bx.c1
        have HL := hide hlo
        have HMD := hide hmd
        clear hlo hmd qg qcur qB ho bx HM hall GN hS4
        go_wp2_with (at_builtin; refine gr.appendR (unhide ho') (unhide ou) (unhide HL) (unhide HMD) (by omega) rfl _ _ rfl rfl rfl ?_)
        intro g' cap' w9 h1 g1
        obtain ⟨⟨s1, s2⟩, m9⟩ := unhide HS g' cap' w9 h1 g1
        have M9 := hide m9
        clear h1 g1 m9 HS ho' ou
        go_wp2
        go_roundg (K - (M.length + 1))
        case measure => omega
        case rel => exact ⟨_, by rw [List.length_append]; simp; omega, by rw [List.length_append]; rfl, by rw [List.length_append]; go_num, G2, _, unhide M9⟩
  ·have hij : ¬ (M.length : Int) < (K : Int) := by omega
   obtain ⟨qb, qc, qg, qcur, qh, qB, oa, ocap, bx, ho⟩ := unhide HM
   have br := (qB _ (List.mem_singleton.2 rfl)).2.2
   have hbr := (qB _ (List.mem_singleton.2 rfl)).1
   have o0 := bx.c0
   have o1 := bx.c1
   have rc0 := br.c0
   have rc1 := br.c1
   have rf0 := br.f 0
   have rf1 := br.f 1
   have BR := hide br
   have OO := hide ho
   have QG := hide qg
   have QC := hide qcur
   clear qg qcur qB bx ho HM br
   go_wp2
   have bb := ((unhide BR).set0 (.int .i64 (1 + x))).set1 (.slice oa M.length ocap)
   have b1 := (unhide BR).set0 (.int .i64 (1 + x))
   have rg : w.heap.size < wr.heap.size := (unhide BR).lt
   (try simp only [Exit.inBlock, Exit.then])
   refine bodyPost_ret (cf.ret_box rfl rfl bb) rfl ⟨_, _, rfl, M, ⟨by omega, by omega⟩, by omega, unhide hgood, ?_, ?_, ?_⟩
   ·have := gr.ownS_set (i := 1) (u := .slice oa M.length ocap) (gr.ownS_set (i := 0) (u := .int .i64 (1 + x)) (unhide OO) (unhide BR)) b1
    exact this.sub (Nat.le_refl _) (by rw [cf.size_set, cf.size_set]; exact qh)
   ·have g1 := sl.grown_setCell wr w.heap.size 0 (.int .i64 (1 + x))
    have g2 := sl.grown_setCell (wr.setCell ⟨w.heap.size, 0, none⟩ (.int .i64 (1 + x))) w.heap.size 1 (.slice oa M.length ocap)
    exact new_some (new_some (unhide QG) g1 (Nat.le_refl _)) g2 (Nat.le_refl _)
   ·have g1 := sl.grown_setCell wr w.heap.size 0 (.int .i64 (1 + x))
    have g2 := sl.grown_setCell (wr.setCell ⟨w.heap.size, 0, none⟩ (.int .i64 (1 + x))) w.heap.size 1 (.slice oa M.length ocap)
    exact ((unhide QC).kept g1 (fun r e => by cases e; exact hlt)).kept g2 (fun r e => by cases e; exact hlt)
end Go.Proofs.YtcgiphcfjhbonaaGreatDoor.dcn
namespace Go.Proofs.YtcgiphcfjhbonaaGreatDoor.dcn
open Go.ChangeShapes Go.WideShapes Go.ChangeAt Go.RowKit
open sl (Sl Own ints hide unhide grown_refl grown_trans grown_trans' of_below below_of grown_drewN)
open css (Sls OwnS tot)
open cf (Box)
open draw (Cur Bs newCur grown_new)
open dcls (MadeC MadeC.start appendC)
set_option linter.unusedVariables false
def Low (L : List Int) : Prop := ∀ x ∈ L, x ≠ 0 ∧ -7 ≤ x ∧ x ≤ 7
def Bd (n : Int) (M : List (List Int)) (k : Nat) : Prop := (-1 ≤ n ∧ n ≤ 25) ∧ M.length ≤ k ∧ (∀ L ∈ M, L.length ≤ 49) ∧ (n ≤ 7 ∨ ∀ L ∈ M, Low L)
theorem bd_good {n : Int} {M : List (List Int)} (hn : 1 ≤ n ∧ n ≤ 6) (hl : (M.length : Int) ≤ 4 * n + 2) (h : M.all (good n) = true) : Bd n M 26 := by
 refine ⟨by omega, by omega, fun L hL => ?_, .inl (by omega)⟩
 have := List.all_eq_true.1 h L hL
 unfold good at this
 rw [Bool.and_eq_true, decide_eq_true_iff] at this
 omega
end Go.Proofs.YtcgiphcfjhbonaaGreatDoor.dcn
namespace Go.Proofs.YtcgiphcfjhbonaaGreatDoor.lq
open Go.ChangeShapes Go.WideShapes Go.ChangeAt Go.RowKit
open lits (okB varI okB_iff varI_yes)
open cls (hasB)
open css (Sls OwnS tot own_mono)
open cf (Box)
open ok (cnfB clB litIn)
open wo (Made)
open sl (Sl Own ints hide unhide ret_int ret_bool grown_refl grown_trans grown_drewN)
set_option linter.unusedVariables false
theorem solve_no {n : Int} {LL : List (List Int)} {a : List Int} (h : (cnfB n LL && a.all (litIn n)) = false) : solveL n LL a = none := by
 unfold solveL
 rw [h]
 rfl
end Go.Proofs.YtcgiphcfjhbonaaGreatDoor.lq
namespace Go.Proofs.YtcgiphcfjhbonaaGreatDoor.df
open Go.ChangeShapes Go.WideShapes Go.ChangeAt Go.RowKit
open sl (Sl Own ints hide unhide grown_refl grown_trans grown_trans' of_below below_of grown_drewN)
open css (Sls OwnS tot)
open cf (Box)
open draw (Cur Bs newCur grown_new)
open dcn (Bd Drawn)
set_option linter.unusedVariables false
theorem tot_bd {n : Int} {M : List (List Int)} {k : Nat} (h : Bd n M k) (hk : k ≤ 121) : tot M ≤ 6050 := by
 unfold css.tot
 have h2 : (M.map List.length).sum ≤ 49 * M.length := by
  have := h.2.2.1
  clear h
  induction M with
  | nil => simp
  | cons L l ih =>
   rw [List.map_cons, List.sum_cons, List.length_cons]
   have := ih (fun K hK => this K (List.mem_cons_of_mem _ hK))
   have := (by assumption : ∀ K ∈ L :: l, K.length ≤ 49) L (List.mem_cons_self ..)
   omega
 have := h.2.1
 omega
end Go.Proofs.YtcgiphcfjhbonaaGreatDoor.df
namespace Go.Proofs.YtcgiphcfjhbonaaGreatDoor.db
open Go.ChangeShapes Go.WideShapes Go.ChangeAt Go.RowKit
open sl (Sl Own ints hide unhide grown_refl grown_trans grown_trans' grown_drewN below_of of_below)
open css (Sls OwnS tot)
open cf (Box)
open draw (Bs Cur newCur)
open dcn (Bd Drawn good bd_good)
set_option linter.unusedVariables false
set_option maxHeartbeats 1600000 in
theorem drawFormula (a : Option Addr) (n cap : Nat) (w : World) (hn : n ≤ 1048576) (hB : Bs w a n) :
  Calls Tryz.prog 24 #[.slice a n cap] w fun e w' => ∃ (k : Int) (v : Value) (M : List (List Int)), e = .returned (.agg #[.int .i64 k, v]) ∧ ((1 ≤ k ∧ k ≤ 6) ∧ (M.length : Int) ≤ 4 * k + 2 ∧ M.all (good k) = true) ∧ OwnS w.heap.size w'.heap.size w' v M ∧ w.grownBy w' none := by
 have nc := newCur a n cap (w.alloc (.cells #[.int .i64 0, .slice none 0 0] 32)) hn (hB.below (below_of (World.grownBy_alloc w (.cells #[.int .i64 0, .slice none 0 0] 32) none)))
 simp only [World.size_alloc] at nc
 have NC := hide nc
 have R0 := hide (Box.new 32 w (.int .i64 0) (.slice none 0 0))
 clear hB nc
 go_enter Tryz.func24, Tryz.ntmps24
 go_wp2_with fail
 refine (unhide NC).mono ?_; rintro e w1 ⟨rfl, hc1, g1⟩
 have C1 := hide hc1
 have G1 := hide g1
 have R1 := hide ((unhide R0).kept g1)
 clear hc1 g1 NC R0
 go_wp2_with fail
 refine (dcn.cnf _ 6 _ (unhide C1) (by decide) (by decide)).mono ?_; rintro e w2 ⟨k, v, M, rfl, b1, b2, b3, od, gd, cd⟩
 have bd := And.intro b1 (And.intro b2 b3)
 obtain ⟨va, vc, rfl⟩ := od.len
 have r2 := (unhide R1).by gd (fun e => by simp at e)
 have R2 := hide r2
 have OD := hide od
 have GD := hide gd
 have BD := hide bd
 have rc0 := r2.c0
 have rc1 := r2.c1
 have rf0 := r2.f 0
 have rf1 := r2.f 1
 have GA := hide (grown_trans (r := none) (World.grownBy_alloc w (.cells #[.int .i64 0, .slice none 0 0] 32) none) (unhide G1))
 clear r2 od gd cd bd
 go_wp2_with fail
 (try simp only [Exit.inBlock, Exit.then])
 have gw := draw.grown_new (unhide GA) (unhide GD) (Nat.le_succ _)
 have os := gr.ownS_set (i := 1) (u := .slice va M.length vc) (gr.ownS_set (i := 0) (u := .int .i64 k) (unhide OD) (unhide R2)) ((unhide R2).set0 (.int .i64 k))
 refine bodyPost_ret (cf.ret_box rfl rfl (((unhide R2).set0 (.int .i64 k)).set1 (.slice va M.length vc))) rfl ⟨k, _, M, rfl, unhide BD, ?_, ?_⟩
 ·refine os.sub (unhide GA).size ?_
  rw [cf.size_set, cf.size_set]
  exact Nat.le_refl _
 ·exact cf.grown_set (cf.grown_set gw (Nat.le_refl _)) (Nat.le_refl _)
end Go.Proofs.YtcgiphcfjhbonaaGreatDoor.db
