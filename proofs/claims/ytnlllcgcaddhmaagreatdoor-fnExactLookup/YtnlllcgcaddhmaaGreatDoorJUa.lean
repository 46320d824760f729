/- Lists of what is known (a digest, a truth value, values, a cost) in memory, as the walks here speak of them; no condition. -/
import Derived.Test.YtnlllcgcaddhmaaGreatDoorJOn
import Derived.Test.YtnlllcgcaddhmaaGreatDoorJXYb
import Derived.Deep.RegionHeld3
import Derived.Deep.DeepCutAuto
import Derived.Laws.IdiomStrings
import Derived.Laws.NewBlocks
namespace Go.Proofs.YtnlllcgcaddhmaaGreatDoor.ua
open Go.ChangeShapes Go.WideShapes Go.ChangeAt Go.RowKit
open sl (Sl Own ints marks hide unhide ret_int ret_bool grown_refl grown_trans grown_drewN below_of of_below)
open css (Outs outs_trans outs_none outs_by outs_refl own_mono own_sub own_outs own_kind)
set_option linter.unusedVariables false
structure Kn where
 dg : ByteArray
 sat : Bool
 vals : List Int
 cost : Int
def kz : Kn := ⟨⟨#[]⟩, false, [], 0⟩
def four (u : Value) (k : Kn) : List Value := [.string k.dg, .bool k.sat, u, .int .i64 k.cost]
def cells4 (D : List (Value × Kn)) : List Value := D.flatMap fun p => four p.1 p.2
theorem cells4_cons (p : Value × Kn) (D : List (Value × Kn)) : cells4 (p :: D) = .string p.2.dg :: .bool p.2.sat :: p.1 :: .int .i64 p.2.cost :: cells4 D := rfl
theorem cells4_append (A B : List (Value × Kn)) : cells4 (A ++ B) = cells4 A ++ cells4 B := by
 unfold cells4
 rw [List.flatMap_append]
theorem cells4_len (D : List (Value × Kn)) : (cells4 D).length = D.length * 4 := by
 induction D with
 | nil => rfl
 | cons p D ih =>
  rw [cells4_cons]
  simp only [List.length_cons, ih]
  omega
theorem cells4_at {D : List (Value × Kn)} {i : Nat} (h : i < D.length) : (cells4 D)[i * 4]? = some (.string D[i].2.dg) ∧ (cells4 D)[i * 4 + 1]? = some (.bool D[i].2.sat) ∧ (cells4 D)[i * 4 + 2]? = some D[i].1 ∧ (cells4 D)[i * 4 + 3]? = some (.int .i64 D[i].2.cost) := by
 induction D generalizing i with
 | nil => exact absurd h (by simp)
 | cons p D ih =>
  rw [cells4_cons]
  cases i with
  | zero => exact ⟨rfl, rfl, rfl, rfl⟩
  | succ i =>
   have q := ih (i := i) (by simpa using h)
   have e : (i + 1) * 4 = i * 4 + 4 := by omega
   rw [e]
   exact q
theorem cells4_set (A B : List (Value × Kn)) (q p : Value × Kn) (n : Nat) (hn : A.length = n) : ((((cells4 (A ++ q :: B)).set (n * 4) (.string p.2.dg)).set (n * 4 + 1) (.bool p.2.sat)).set (n * 4 + 2) p.1).set (n * 4 + 3) (.int .i64 p.2.cost) = cells4 (A ++ p :: B) := by
 have l := cells4_len A
 rw [hn] at l
 rw [cells4_append, cells4_append, cells4_cons, cells4_cons]
 rw [List.set_append_right _ _ (by omega), List.set_append_right _ _ (by omega), List.set_append_right _ _ (by omega), List.set_append_right _ _ (by omega), l]
 rw [show n * 4 - n * 4 = 0 by omega, show n * 4 + 1 - n * 4 = 1 by omega, show n * 4 + 2 - n * 4 = 2 by omega, show n * 4 + 3 - n * 4 = 3 by omega]
 rfl
def At (w : World) (b o : Nat) (u : Value) (k : Kn) : Prop :=
 w.cell? ⟨b, o, none⟩ = some (.string k.dg) ∧ w.cell? ⟨b, o + 1, none⟩ = some (.bool k.sat) ∧ w.cell? ⟨b, o + 2, none⟩ = some u ∧ w.cell? ⟨b, o + 3, none⟩ = some (.int .i64 k.cost) ∧ Sl w u k.vals
theorem At.kept {w w' : World} {b o : Nat} {u : Value} {k : Kn} (h : At w b o u k) (g : w.grownBy w' none) : At w' b o u k :=
 ⟨g.cell h.1 (fun e => by cases e), g.cell h.2.1 (fun e => by cases e), g.cell h.2.2.1 (fun e => by cases e), g.cell h.2.2.2.1 (fun e => by cases e), h.2.2.2.2.kept g (.inl rfl)⟩
def Kns (w : World) (v : Value) (KK : List Kn) : Prop :=
 ∃ a cap, v = .slice a KK.length cap ∧ (KK = [] ∨ ∃ b off, a = some ⟨b, off, none⟩ ∧ b < w.heap.size ∧ ∀ i, i < KK.length → ∃ u, At w b (off + i * 4) u (KK.getD i kz))
theorem Kns.kept {w w' : World} {v : Value} {KK : List Kn} (h : Kns w v KK) (g : w.grownBy w' none) : Kns w' v KK := by
 obtain ⟨a, cap, rfl, h⟩ := h
 refine ⟨a, cap, rfl, ?_⟩
 rcases h with h | ⟨b, off, rfl, hb, hc⟩
 ·exact .inl h
 ·refine .inr ⟨b, off, rfl, Nat.lt_of_lt_of_le hb g.size, fun i hi => ?_⟩
  obtain ⟨u, hu⟩ := hc i hi
  exact ⟨u, hu.kept g⟩
theorem Kns.len {w : World} {v : Value} {KK : List Kn} (h : Kns w v KK) : ∃ a cap, v = .slice a KK.length cap := by
 obtain ⟨a, cap, e, _⟩ := h
 exact ⟨a, cap, e⟩
theorem Kns.nil (w : World) (a : Option Addr) (cap : Nat) : Kns w (.slice a 0 cap) [] := ⟨a, cap, rfl, .inl rfl⟩
def Apart (a b : Value × Kn) : Prop := ∀ g, a.1.ownBlock = some g → b.1.ownBlock ≠ some g
def OwnK (lo hi : Nat) (w : World) (v : Value) (KK : List Kn) : Prop :=
 ∃ D : List (Value × Kn), D.map (·.2) = KK ∧ w.ownsRow lo 36 4 v D.length (cells4 D) ∧ (∀ k, v.ownBlock = some k → k < hi) ∧ (∀ p ∈ D, Own lo hi w p.1 p.2.vals) ∧ D.Pairwise Apart
theorem OwnK.sub {lo lo' hi hi' : Nat} {w : World} {v : Value} {KK : List Kn} (h : OwnK lo hi w v KK) (a : lo' ≤ lo) (b : hi ≤ hi') : OwnK lo' hi' w v KK := by
 obtain ⟨D, e, ho, hb, hi, hp⟩ := h
 exact ⟨D, e, own_mono ho a, fun k e => Nat.lt_of_lt_of_le (hb k e) b, fun p hp => own_sub (hi p hp) a b, hp⟩
theorem row_kept {w w' : World} {lo n z : Nat} {t : TypeId} {v : Value} {xs : List Value} (h : w.ownsRow lo t z v n xs) (g : w.grownBy w' none) : w'.ownsRow lo t z v n xs := h.kept g (by
 cases hv : v.ownBlock
 ·exact .inl rfl
 ·exact .inr (fun e => by cases e))
theorem OwnK.kept {lo hi : Nat} {w w' : World} {v : Value} {KK : List Kn} (h : OwnK lo hi w v KK) (g : w.grownBy w' none) : OwnK lo hi w' v KK := by
 obtain ⟨D, e, ho, hb, hi, hp⟩ := h
 exact ⟨D, e, row_kept ho g, hb, fun p hp => (hi p hp).kept g, hp⟩
theorem row_outs {lo hi lo' hi' n z : Nat} {t : TypeId} {w w' : World} {v : Value} {xs : List Value} (h : w.ownsRow lo t z v n xs) (hb : ∀ k, v.ownBlock = some k → k < hi) (g : Outs lo' hi' w w') (d : hi ≤ lo' ∨ hi' ≤ lo) : w'.ownsRow lo t z v n xs := by
 have h' := h
 obtain ⟨h1, h2⟩ := h
 refine ⟨h1, ?_⟩
 rcases h2 with h2 | ⟨b, cap, cur, rfl, hg, hh, r⟩
 ·exact .inl h2
 ·refine .inr ⟨b, cap, cur, rfl, hg, ?_, r⟩
  have l1 := h'.lt b rfl
  have l2 := hb b rfl
  rw [g.block b l1.2 (by omega)]
  exact hh
theorem OwnK.outs {lo hi lo' hi' : Nat} {w w' : World} {v : Value} {KK : List Kn} (h : OwnK lo hi w v KK) (g : Outs lo' hi' w w') (d : hi ≤ lo' ∨ hi' ≤ lo) : OwnK lo hi w' v KK := by
 obtain ⟨D, e, ho, hb, hi, hp⟩ := h
 exact ⟨D, e, row_outs ho hb g d, hb, fun p hp => own_outs (hi p hp) g d, hp⟩
theorem map_at {D : List (Value × Kn)} {i : Nat} (h : i < D.length) : (D.map (·.2)).getD i kz = D[i].2 := by simp [h]
theorem own_at {lo n cap g i : Nat} {w : World} {D : List (Value × Kn)} (h : w.ownsRow lo 36 4 (.slice (some ⟨g, 0, none⟩) n cap) n (cells4 D)) (hn : D.length = n) (hi : i < D.length) :
  w.cell? ⟨g, i * 4, none⟩ = some (.string D[i].2.dg) ∧ w.cell? ⟨g, i * 4 + 1, none⟩ = some (.bool D[i].2.sat) ∧ w.cell? ⟨g, i * 4 + 2, none⟩ = some D[i].1 ∧ w.cell? ⟨g, i * 4 + 3, none⟩ = some (.int .i64 D[i].2.cost) := by
 have q := cells4_at hi
 refine ⟨?_, ?_, ?_, ?_⟩
 ·rw [h.cellAt _ (by omega)]; exact q.1
 ·rw [h.cellAt _ (by omega)]; exact q.2.1
 ·rw [h.cellAt _ (by omega)]; exact q.2.2.1
 ·rw [h.cellAt _ (by omega)]; exact q.2.2.2
theorem OwnK.kns {lo hi : Nat} {w : World} {v : Value} {KK : List Kn} (h : OwnK lo hi w v KK) : Kns w v KK := by
 obtain ⟨D, rfl, ho, hb, hi, hp⟩ := h
 have ho' := ho
 obtain ⟨_, h2⟩ := ho
 rcases h2 with ⟨rfl, h0⟩ | ⟨g, cap, cur, rfl, hg, hh, hn, hm, hs, ht⟩
 ·have : D = [] := List.eq_nil_of_length_eq_zero h0
  subst this
  exact ⟨none, 0, rfl, .inl rfl⟩
 ·refine ⟨some ⟨g, 0, none⟩, cap, by rw [List.length_map], .inr ⟨g, 0, rfl, (Array.getElem?_eq_some_iff.1 hh).1, fun i hi' => ?_⟩⟩
  rw [List.length_map] at hi'
  have q := own_at ho' rfl hi'
  rw [map_at hi', Nat.zero_add]
  exact ⟨D[i].1, q.1, q.2.1, q.2.2.1, q.2.2.2, (hi _ (List.getElem_mem hi')).sl⟩
theorem OwnK.len {lo hi : Nat} {w : World} {v : Value} {KK : List Kn} (h : OwnK lo hi w v KK) : ∃ a cap, v = .slice a KK.length cap := h.kns.len
theorem OwnK.hi {lo hi : Nat} {w : World} {v : Value} {KK : List Kn} (h : OwnK lo hi w v KK) : ∀ k, v.ownBlock = some k → k < hi := by
 obtain ⟨D, e, ho, hb, hi, hp⟩ := h
 exact hb
theorem OwnK.none (lo hi : Nat) (w : World) : OwnK lo hi w (.slice none 0 0) [] :=
 ⟨[], rfl, World.ownsRow_nil .., (fun k e => by cases e), (fun p hp => by cases hp), .nil⟩
def Vl (w : World) (u : Value) (L : List Int) : Prop := ∃ lo hi, Own lo hi w u L
theorem Vl.sl {w : World} {u : Value} {L : List Int} (h : Vl w u L) : Sl w u L := by
 obtain ⟨lo, hi, h⟩ := h
 exact h.sl
theorem Vl.kept {w w' : World} {u : Value} {L : List Int} (h : Vl w u L) (g : w.grownBy w' none) : Vl w' u L := by
 obtain ⟨lo, hi, h⟩ := h
 exact ⟨lo, hi, h.kept g⟩
def VKns (w : World) (v : Value) (KK : List Kn) : Prop :=
 ∃ a cap, v = .slice a KK.length cap ∧ (KK = [] ∨ ∃ b off, a = some ⟨b, off, none⟩ ∧ b < w.heap.size ∧ ∀ i, i < KK.length → ∃ u, At w b (off + i * 4) u (KK.getD i kz) ∧ Vl w u (KK.getD i kz).vals)
theorem VKns.kept {w w' : World} {v : Value} {KK : List Kn} (h : VKns w v KK) (g : w.grownBy w' none) : VKns w' v KK := by
 obtain ⟨a, cap, rfl, h⟩ := h
 refine ⟨a, cap, rfl, ?_⟩
 rcases h with h | ⟨b, off, rfl, hb, hc⟩
 ·exact .inl h
 ·refine .inr ⟨b, off, rfl, Nat.lt_of_lt_of_le hb g.size, fun i hi => ?_⟩
  obtain ⟨u, hu, hv⟩ := hc i hi
  exact ⟨u, hu.kept g, hv.kept g⟩
theorem VKns.kns {w : World} {v : Value} {KK : List Kn} (h : VKns w v KK) : Kns w v KK := by
 obtain ⟨a, cap, rfl, h⟩ := h
 refine ⟨a, cap, rfl, ?_⟩
 rcases h with h | ⟨b, off, rfl, hb, hc⟩
 ·exact .inl h
 ·refine .inr ⟨b, off, rfl, hb, fun i hi => ?_⟩
  obtain ⟨u, hu, _⟩ := hc i hi
  exact ⟨u, hu⟩
theorem VKns.len {w : World} {v : Value} {KK : List Kn} (h : VKns w v KK) : ∃ a cap, v = .slice a KK.length cap := h.kns.len
theorem OwnK.vkns {lo hi : Nat} {w : World} {v : Value} {KK : List Kn} (h : OwnK lo hi w v KK) : VKns w v KK := by
 obtain ⟨D, rfl, ho, hb, hi, hp⟩ := h
 have ho' := ho
 obtain ⟨_, h2⟩ := ho
 rcases h2 with ⟨rfl, h0⟩ | ⟨g, cap, cur, rfl, hg, hh, hn, hm, hs, ht⟩
 ·have : D = [] := List.eq_nil_of_length_eq_zero h0
  subst this
  exact ⟨Option.none, 0, rfl, .inl rfl⟩
 ·refine ⟨some ⟨g, 0, Option.none⟩, cap, by rw [List.length_map], .inr ⟨g, 0, rfl, (Array.getElem?_eq_some_iff.1 hh).1, fun i hi' => ?_⟩⟩
  rw [List.length_map] at hi'
  have q := own_at ho' rfl hi'
  rw [map_at hi', Nat.zero_add]
  exact ⟨D[i].1, ⟨q.1, q.2.1, q.2.2.1, q.2.2.2, (hi _ (List.getElem_mem hi')).sl⟩, _, _, hi _ (List.getElem_mem hi')⟩
theorem types_ne : (36 : Nat) ≠ 3 := by decide
theorem own_ne {w : World} {lo lo' n n' : Nat} {v v' : Value} {xs xs' : List Value} (h : w.ownsRow lo 36 4 v n xs) (h' : w.ownsRow lo' 3 1 v' n' xs') : ∀ g, v'.ownBlock = some g → v.ownBlock ≠ some g := by
 intro g e e'
 obtain ⟨c, fz, hc⟩ := own_kind h g e'
 obtain ⟨c', fz', hc'⟩ := own_kind h' g e
 rw [hc] at hc'
 simp only [Option.some.injEq, Obj.cells.injEq] at hc'
 exact types_ne hc'.2.1
theorem own_ne' {w : World} {lo lo' n n' : Nat} {v v' : Value} {xs xs' : List Value} (h : w.ownsRow lo 36 4 v n xs) (h' : w.ownsRow lo' 3 1 v' n' xs') : v'.ownBlock = none ∨ v'.ownBlock ≠ v.ownBlock := by
 cases e : v'.ownBlock with
 | none => exact .inl rfl
 | some g => exact .inr (fun e' => own_ne h h' g e e'.symm)
theorem sizeK : (Tryz.prog.info? 36).map (·.size) = some 4 := by kernel_rfl
theorem infoK : (Tryz.prog.info? 36).map (fun i => (i.zero, i.size, i.bytes)) = some (some (.agg #[.string ⟨#[]⟩, .bool false, .slice none 0 0, .int .i64 0]), 4, 56) := by kernel_rfl
theorem ret_known {fn : Func} {p : Tmp} {tmps : Array Value} {w : World} {c : Nat} {a b q x : Value} (h : fn.results = #[.cell p 36]) (hp : tmps.getD p undef = .pointer (some ⟨c, 0, none⟩)) (hb : yb.Box4 36 w c a b q x) :
  (results fn tmps).run Tryz.prog w = .ok (.agg #[a, b, q, x]) w :=
 results_cell_row h tmps w c 36 #[a, b, q, x] (0, 0) _ hp hb Tryz.underlying36 rfl sizeK
theorem ret_known2 {fn : Func} {p u : Tmp} {tmps : Array Value} {w : World} {c : Nat} {a b q x : Value} (h : fn.results = #[.cell p 36, .tmp u]) (hp : tmps.getD p undef = .pointer (some ⟨c, 0, none⟩)) (hb : yb.Box4 36 w c a b q x) :
  (results fn tmps).run Tryz.prog w = .ok (.tuple #[.agg #[a, b, q, x], tmps.getD u undef]) w := by
 rw [results_cell_tmp h, hp]
 simp only [asAddr, Sem.run_pure, Result.andThen_ok]
 rw [run_loadVar_row w c 36 36 #[a, b, q, x] (0, 0) _ hb Tryz.underlying36 rfl sizeK]
 rfl
def zs (n : Nat) : List (Value × Kn) := List.replicate n (.slice none 0 0, kz)
theorem made4 (n : Nat) : (madeCells #[.string ⟨#[]⟩, .bool false, .slice none 0 0, .int .i64 0] (n * 4)).toList = cells4 (zs n) := by
 apply List.ext_getElem?
 intro j
 have l := cells4_len (zs n)
 have lz : (zs n).length = n := by simp [zs]
 rw [lz] at l
 by_cases hj : j < n * 4
 ·have hd : j / 4 < (zs n).length := by rw [lz]; omega
  have q := cells4_at hd
  have zi : (zs n)[j / 4] = (.slice none 0 0, kz) := by simp [zs]
  rw [zi] at q
  have e1 : (madeCells #[.string ⟨#[]⟩, .bool false, .slice none 0 0, .int .i64 0] (n * 4)).toList[j]? = some ((#[.string ⟨#[]⟩, .bool false, .slice none 0 0, .int .i64 0] : Array Value)[j % 4]!) := by
   simp [madeCells, hj]
  rw [e1]
  have hm : j % 4 < 4 := Nat.mod_lt _ (by decide)
  have hjj : j / 4 * 4 + j % 4 = j := by omega
  rcases (show j % 4 = 0 ∨ j % 4 = 1 ∨ j % 4 = 2 ∨ j % 4 = 3 by omega) with h | h | h | h
  ·rw [h] at hjj ⊢; rw [← hjj]; exact q.1.symm
  ·rw [h] at hjj ⊢; rw [← hjj]; exact q.2.1.symm
  ·rw [h] at hjj ⊢; rw [← hjj]; exact q.2.2.1.symm
  ·rw [h] at hjj ⊢; rw [← hjj]; exact q.2.2.2.symm
 ·rw [List.getElem?_eq_none (by simp [madeCells]; omega), List.getElem?_eq_none (by omega)]
end Go.Proofs.YtnlllcgcaddhmaaGreatDoor.ua
namespace Go.Proofs.YtnlllcgcaddhmaaGreatDoor.ua
open Go.ChangeShapes Go.WideShapes Go.ChangeAt Go.RowKit
open sl (Sl Own ints marks hide unhide ret_int ret_bool grown_refl grown_trans grown_drewN below_of of_below)
open css (Outs outs_trans outs_none outs_by outs_refl own_mono own_sub own_outs own_kind)
open yb (Box4)
set_option linter.unusedVariables false
theorem row_set {w : World} {lo n z c i : Nat} {t : TypeId} {v : Value} {xs : List Value} {u : Value} (h : w.ownsRow lo t z v n xs) (hc : c < lo) : (w.setCell ⟨c, i, none⟩ u).ownsRow lo t z v n xs := h.kept (sl.grown_setCell w c i u) (by
 cases e : v.ownBlock with
 | none => exact .inl rfl
 | some k => exact .inr (fun e' => by cases e'; have := (h.lt _ e).1; omega))
set_option maxHeartbeats 800000 in
theorem toKnown (u : Value) (k : Kn) (w : World) (hL : k.vals.length ≤ 1048576) (hu : Sl w u k.vals) :
  Calls Tryz.prog 95 #[.agg #[.string k.dg, .bool k.sat, u, .int .i64 k.cost]] w fun e w' => ∃ v, e = .returned (.agg #[.string k.dg, .bool k.sat, v, .int .i64 k.cost]) ∧ w'.ownsRow w.heap.size 3 1 v k.vals.length (ints k.vals) ∧ w.grownBy w' none := by
 have C := hide (fun w1 (g : w.grownBy w1 none) => sl.toIntS u k.vals w1 hL (hu.kept g (.inl rfl)))
 clear hu
 obtain ⟨W1, hW1⟩ : ∃ W1, W1 = ((w.alloc (.cells #[.string k.dg, .bool k.sat, u, .int .i64 k.cost] 128)).alloc (.cells #[.string ⟨#[]⟩, .bool false, .slice none 0 0, .int .i64 0] 36)).alloc (.cells #[.string k.dg, .bool k.sat, .slice none 0 0, .int .i64 0] 36) := ⟨_, rfl⟩
 have g0 : w.grownBy W1 none := by rw [hW1]; exact grown_trans (grown_trans (World.grownBy_alloc _ _ _) (World.grownBy_alloc _ _ _)) (World.grownBy_alloc _ _ _)
 have b0 : Box4 128 W1 w.heap.size (.string k.dg) (.bool k.sat) u (.int .i64 k.cost) := by rw [hW1]; exact ((Box4.new _ w _ _ _ _).kept (World.grownBy_alloc _ _ none)).kept (World.grownBy_alloc _ _ none)
 have b1 : Box4 36 W1 (w.heap.size + 1) (.string ⟨#[]⟩) (.bool false) (.slice none 0 0) (.int .i64 0) := by
  rw [hW1]
  have := (Box4.new 36 (w.alloc (.cells #[.string k.dg, .bool k.sat, u, .int .i64 k.cost] 128)) (.string ⟨#[]⟩) (.bool false) (.slice none 0 0) (.int .i64 0)).kept (World.grownBy_alloc _ (.cells #[.string k.dg, .bool k.sat, .slice none 0 0, .int .i64 0] 36) none)
  rw [World.size_alloc] at this
  exact this
 have b2 : Box4 36 W1 (w.heap.size + 1 + 1) (.string k.dg) (.bool k.sat) (.slice none 0 0) (.int .i64 0) := by
  rw [hW1]
  have := Box4.new 36 ((w.alloc (.cells #[.string k.dg, .bool k.sat, u, .int .i64 k.cost] 128)).alloc (.cells #[.string ⟨#[]⟩, .bool false, .slice none 0 0, .int .i64 0] 36)) (.string k.dg) (.bool k.sat) (.slice none 0 0) (.int .i64 0)
  rw [World.size_alloc, World.size_alloc] at this
  exact this
 have sz1 : w.heap.size + 3 ≤ W1.heap.size := by rw [hW1]; simp only [World.size_alloc]; omega
 have G0 := hide g0
 have B0 := hide b0
 have B1 := hide b1
 have B2 := hide b2
 have CC := hide (unhide C W1 g0)
 clear g0 b0 b1 b2 C
 go_enter Tryz.func95, Tryz.ntmps95
 go_wp2_with fail
 rw [← hW1]
 clear hW1
 refine (unhide CC).mono ?_; rintro e w2 ⟨rfl, o2, g2⟩
 have B0' := hide ((unhide B0).kept g2)
 have B1' := hide ((unhide B1).kept g2)
 have B2' := hide ((unhide B2).kept g2)
 have G2 := hide (grown_trans (r := none) (unhide G0) g2)
 have O2 := hide o2
 clear g2 o2 B0 B1 B2 G0 CC
 have x3 := (unhide B0').c3
 have p0 := (unhide B1').c0
 have p1 := (unhide B1').c1
 have p2 := (unhide B1').c2
 have p3 := (unhide B1').c3
 have pf0 := (unhide B1').f 0
 have pf1 := (unhide B1').f 1
 have pf2 := (unhide B1').f 2
 have pf3 := (unhide B1').f 3
 have q0 := (unhide B2').c0
 have q1 := (unhide B2').c1
 have q2 := (unhide B2').c2
 have q3 := (unhide B2').c3
 have qf2 := (unhide B2').f 2
 have qf3 := (unhide B2').f 3
 go_wp2_with fail
 (try simp only [Exit.inBlock, Exit.then])
 refine bodyPost_ret (ret_known rfl rfl ((((unhide B1').setO (d := w.heap.size + 1 + 1) (by omega)).setO (d := w.heap.size + 1 + 1) (by omega)).setA _ _ _ _)) rfl ⟨_, rfl, ?_, ?_⟩
 ·exact own_mono (row_set (row_set (row_set (row_set (row_set (row_set (unhide O2) (by omega)) (by omega)) (by omega)) (by omega)) (by omega)) (by omega)) (by omega)
 ·exact yb.grown_setA (yb.grown_set (yb.grown_set (unhide G2) (by omega)) (by omega)) (by omega)
def MidK (w wr : World) (n : Nat) (KK : List Kn) : Prop :=
 ∃ D : List (Value × Kn), D.map (·.2) = KK ∧ D.length ≤ n ∧ wr.ownsRow w.heap.size 36 4 (.slice (some ⟨w.heap.size, 0, none⟩) n n) n (cells4 (D ++ zs (n - D.length))) ∧ (∀ p ∈ D, Own w.heap.size wr.heap.size wr p.1 p.2.vals) ∧ D.Pairwise Apart ∧ w.grownBy wr none
theorem MidK.start {w w1 : World} {n : Nat} (ho : w1.ownsRow w.heap.size 36 4 (.slice (some ⟨w.heap.size, 0, none⟩) n n) n (madeCells #[.string ⟨#[]⟩, .bool false, .slice none 0 0, .int .i64 0] (n * 4)).toList) (g : w.grownBy w1 none) : MidK w w1 n [] := by
 rw [made4] at ho
 exact ⟨[], rfl, Nat.zero_le _, ho, (fun p hp => by cases hp), .nil, g⟩
theorem MidK.grown {w wr : World} {n : Nat} {KK : List Kn} (h : MidK w wr n KK) : w.grownBy wr none := by
 obtain ⟨D, _, _, _, _, _, g⟩ := h
 exact g
theorem MidK.cell {w wr w1 : World} {n : Nat} {KK : List Kn} (h : MidK w wr n KK) (hk : KK.length < n) (g : wr.grownBy w1 none) (j : Nat) (hj : j < 4) :
  (∃ x, w1.cell? ⟨w.heap.size, KK.length * 4 + j, none⟩ = some x) ∧ w1.frozen? ⟨w.heap.size, KK.length * 4 + j, none⟩ = false := by
 obtain ⟨D, rfl, hD, ho, hi, hp, hg⟩ := h
 have ho1 := row_kept ho g
 refine ⟨?_, ho1.frozenAt _⟩
 rw [List.length_map] at *
 rw [ho1.cellAt _ (by omega)]
 refine ⟨_, List.getElem?_eq_getElem ?_⟩
 rw [cells4_len, List.length_append]
 simp only [zs, List.length_replicate]
 omega
theorem MidK.step {w wr w1 : World} {n : Nat} {KK : List Kn} {u : Value} {k : Kn} (h : MidK w wr n KK) (hk : KK.length < n) (g : wr.grownBy w1 none) (hu : w1.ownsRow wr.heap.size 3 1 u k.vals.length (ints k.vals)) :
  MidK w ((((w1.setCell ⟨w.heap.size, KK.length * 4, none⟩ (.string k.dg)).setCell ⟨w.heap.size, KK.length * 4 + 1, none⟩ (.bool k.sat)).setCell ⟨w.heap.size, KK.length * 4 + 2, none⟩ u).setCell ⟨w.heap.size, KK.length * 4 + 3, none⟩ (.int .i64 k.cost)) n (KK ++ [k]) := by
 obtain ⟨D, rfl, hD, ho, hi, hp, hg⟩ := h
 rw [List.length_map] at *
 have ho1 := row_kept ho g
 have hsz := g.size
 have hlt := (ho.lt w.heap.size rfl).2
 generalize hW : (((w1.setCell ⟨w.heap.size, D.length * 4, none⟩ (.string k.dg)).setCell ⟨w.heap.size, D.length * 4 + 1, none⟩ (.bool k.sat)).setCell ⟨w.heap.size, D.length * 4 + 2, none⟩ u).setCell ⟨w.heap.size, D.length * 4 + 3, none⟩ (.int .i64 k.cost) = W
 have st : w1.grownBy W (some w.heap.size) := by
  rw [← hW]
  exact sl.grown_trans' (sl.grown_trans' (sl.grown_trans' (sl.grown_setCell _ _ _ _) (sl.grown_setCell _ _ _ _)) (sl.grown_setCell _ _ _ _)) (sl.grown_setCell _ _ _ _)
 have sz : W.heap.size = w1.heap.size := by rw [← hW]; simp [World.setCell]
 refine ⟨D ++ [(u, k)], by simp, by simp; omega, ?_, ?_, ?_, ?_⟩
 ·have e1 : n - D.length = (n - (D ++ [(u, k)]).length) + 1 := by simp; omega
  have e2 : zs (n - D.length) = (.slice none 0 0, kz) :: zs (n - (D ++ [(u, k)]).length) := by rw [e1]; rfl
  rw [e2] at ho1
  have e3 := cells4_set D (zs (n - (D ++ [(u, k)]).length)) (.slice none 0 0, kz) (u, k) D.length rfl
  rw [List.append_assoc, List.singleton_append, ← e3, ← hW]
  exact ((((ho1.stored _ _).1.stored _ _).1.stored _ _).1.stored _ _).1
 ·intro p hp'
  rw [List.mem_append, List.mem_singleton] at hp'
  rw [sz]
  rcases hp' with hp' | rfl
  ·have q := (hi p hp').kept g
   exact ⟨q.1.kept st (own_ne' ho1 q.1), fun k' e => Nat.lt_of_lt_of_le ((hi p hp').2 k' e) hsz⟩
  ·refine ⟨(own_mono hu (by omega)).kept st ?_, fun k e => (hu.lt k e).2⟩
   cases e : u.ownBlock with
   | none => exact .inl rfl
   | some k => exact .inr (fun e' => by cases e'; have := (hu.lt _ e).1; omega)
 ·rw [List.pairwise_append]
  refine ⟨hp, List.pairwise_singleton _ _, fun a ha b hb => ?_⟩
  rw [List.mem_singleton] at hb
  subst hb
  intro k e e'
  have h1 := (hi a ha).2 k e
  have h2 := (hu.lt k e').1
  omega
 ·exact ⟨st.os.trans (g.os.trans hg.os), st.tape.trans (g.tape.trans hg.tape), st.output.trans (g.output.trans hg.output), Nat.le_trans hg.size (Nat.le_trans hsz st.size), fun k hk _ => by
   rw [st.block k (by have := hg.size; omega) (by intro e; cases e; omega), g.block k (by have := hg.size; omega) (fun e => by cases e), hg.block k hk (fun e => by cases e)]⟩
theorem MidK.done {w wr : World} {n : Nat} {KK : List Kn} (h : MidK w wr n KK) (hn : KK.length = n) : OwnK w.heap.size wr.heap.size wr (.slice (some ⟨w.heap.size, 0, none⟩) n n) KK ∧ w.grownBy wr none := by
 obtain ⟨D, rfl, hD, ho, hi, hp, hg⟩ := h
 rw [List.length_map] at hn
 subst hn
 refine ⟨⟨D, rfl, ?_, fun k e => (ho.lt k e).2, hi, hp⟩, hg⟩
 simpa [zs] using ho
theorem take_snoc (KK : List Kn) (k : Nat) (h : k < KK.length) : KK.take (k + 1) = KK.take k ++ [KK.getD k kz] := by
 rw [List.take_succ_eq_append_getElem h]
 simp [h]
set_option maxHeartbeats 800000 in
theorem toKnownS (v : Value) (KK : List Kn) (w : World) (hn : KK.length ≤ 1048576) (hin : ∀ i, (KK.getD i kz).vals.length ≤ 1048576) (hv : Kns w v KK) :
  Calls Tryz.prog 50 #[v] w fun e w' => ∃ u, e = .returned u ∧ OwnK w.heap.size w'.heap.size w' u KK ∧ w.grownBy w' none := by
 obtain ⟨a, cap, rfl, ha⟩ := hv
 obtain ⟨i0, hi, hz0, hz1, hz2⟩ := info_parts infoK
 have HA := hide ha
 clear ha
 go_enter Tryz.func50, Tryz.ntmps50
 go_wp2_with (first | (at_make; refine wpList_make_full _ rfl _ _ 28 rfl w.heap.size 36 i0 (.agg #[.string ⟨#[]⟩, .bool false, .slice none 0 0, .int .i64 0]) 4 Tryz.underlying28 hi hz0 hz1 _ _ _ _ KK.length rfl rfl (by rfl) (by rfl) ?b1 ?b2 ?b3 ?_) | go_in)
 case b1 => rw [hz2]; omega
 case b2 => unfold maxLen; omega
 case b3 => exact Nat.le_refl _
 intro w1 hown hgrow
 have O := hide (MidK.start hown hgrow)
 clear hown hgrow
 go_wp2
 go_loopw [4] (fun i wr => ∃ k : Nat, k ≤ KK.length ∧ i = .int .i64 k ∧ Hid (MidK w wr KK.length (KK.take k))) (fun i _ => KK.length - (intOf i).toNat)
 case atStart => exact ⟨0, Nat.zero_le _, rfl, O⟩
 case round =>
  obtain ⟨k, hk, rfl, hmid⟩ := hrel
  by_cases hlt : k < KK.length
  ·rcases unhide HA with h | ⟨b, off, rfl, hb, hcb⟩
   ·rw [h] at hlt
    simp at hlt
   ·obtain ⟨u, hu⟩ := hcb k hlt
    have hg := (unhide hmid).grown
    obtain ⟨c0, c1, c2, c3, hs'⟩ := hu.kept hg
    have hL := hin k
    have hts := take_snoc KK k hlt
    have htl : (KK.take k).length = k := by rw [List.length_take]; omega
    generalize KK.getD k kz = x at *
    have CT := hide (toKnown u x wr hL hs')
    have HT := hide hts
    have HL := hide htl
    have hi' : (k : Int) < (KK.length : Int) := by omega
    obtain ⟨dg, sat, vals, cost⟩ := x
    dsimp only at c0 c1 c2 c3 CT
    clear hs' hcb hu hg O hts htl HA hL
    go_wp2_with fail
    refine (unhide CT).mono ?_; rintro e w2 ⟨v2, rfl, o2, g2⟩
    have cc := fun j hj => (unhide hmid).cell (by rw [unhide HL]; exact hlt) g2 j hj
    rw [unhide HL] at cc
    obtain ⟨⟨x0, hx0⟩, hf0⟩ := cc 0 (by decide)
    obtain ⟨⟨x1, hx1⟩, hf1⟩ := cc 1 (by decide)
    obtain ⟨⟨x2, hx2⟩, hf2⟩ := cc 2 (by decide)
    obtain ⟨⟨x3, hx3⟩, hf3⟩ := cc 3 (by decide)
    rw [Nat.add_zero] at hx0 hf0
    obtain ⟨va, vc, rfl, _⟩ := Sl.of_own o2
    have M2 := hide ((unhide hmid).step (k := ⟨dg, sat, vals, cost⟩) (by rw [unhide HL]; exact hlt) g2 o2)
    rw [unhide HL, ← unhide HT] at M2
    clear o2 g2 hmid CT cc
    go_wp2
    go_roundw
    case rel => exact ⟨k + 1, by omega, by go_num, M2⟩
    case measure => simp [intOf]; omega
  ·have hi' : ¬ (k : Int) < (KK.length : Int) := by omega
   have e : KK.take k = KK := List.take_of_length_le (by omega)
   rw [e] at hmid
   have R := hide ((unhide hmid).done rfl)
   clear HA hmid O e
   go_wp2
   go_ret
   exact ⟨_, rfl, unhide R⟩
end Go.Proofs.YtnlllcgcaddhmaaGreatDoor.ua
