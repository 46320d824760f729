/- Lists of what is known (a digest, a truth value, values, a cost) in memory, as the walks here speak of them; no condition. -/
import Derived.Test.YtnlllcgcaddhmaaGreatDoorJOn
import Derived.Test.YtnlllcgcaddhmaaGreatDoorJXYb
import Derived.Deep.RegionHeld3
import Derived.Deep.DeepCutAuto
import Derived.Laws.IdiomStrings
import Derived.Laws.NewBlocks
namespace Go.Proofs.YtnlllcgcaddhmaaGreatDoor.ua
open Go.ChangeShapes Go.WideShapes Go.ChangeAt Go.RowKit
open sl (Sl Own ints hide unhide ret_int ret_bool grown_refl grown_trans grown_drewN below_of of_below)
open css (Outs outs_trans outs_by own_mono own_sub own_outs own_kind)
set_option linter.unusedVariables false
structure Kn where
 dg : ByteArray
 sat : Bool
 vals : List Int
 cost : Int
def kz : Kn := ⟨⟨#[]⟩, false, [], 0⟩
def four (u : Value) (k : Kn) : List Value := [.string k.dg, .bool k.sat, u, .int .i64 k.cost]
def cells4 (D : List (Value × Kn)) : List Value := D.flatMap fun p => four p.1 p.2
theorem cells4_cons (p : Value × Kn) (D : List (Value × Kn)) : cells4 (p :: D) = .string p.2.dg :: .bool p.2.sat :: p.1 :: .int .i64 p.2.cost :: cells4 D := rfl
theorem cells4_append (A B : List (Value × Kn)) : cells4 (A ++ B) = cells4 A ++ cells4 B := by
 unfold cells4
 rw [List.flatMap_append]
theorem cells4_len (D : List (Value × Kn)) : (cells4 D).length = D.length * 4 := by
 induction D with
 | nil => rfl
 | cons p D ih =>
  rw [cells4_cons]
  simp only [List.length_cons, ih]
  omega
theorem cells4_at {D : List (Value × Kn)} {i : Nat} (h : i < D.length) : (cells4 D)[i * 4]? = some (.string D[i].2.dg) ∧ (cells4 D)[i * 4 + 1]? = some (.bool D[i].2.sat) ∧ (cells4 D)[i * 4 + 2]? = some D[i].1 ∧ (cells4 D)[i * 4 + 3]? = some (.int .i64 D[i].2.cost) := by
 induction D generalizing i with
 | nil => exact absurd h (by simp)
 | cons p D ih =>
  rw [cells4_cons]
  cases i with
  | zero => exact ⟨rfl, rfl, rfl, rfl⟩
  | succ i =>
   have q := ih (i := i) (by simpa using h)
   have e : (i + 1) * 4 = i * 4 + 4 := by omega
   rw [e]
   exact q
def At (w : World) (b o : Nat) (u : Value) (k : Kn) : Prop :=
 w.cell? ⟨b, o, none⟩ = some (.string k.dg) ∧ w.cell? ⟨b, o + 1, none⟩ = some (.bool k.sat) ∧ w.cell? ⟨b, o + 2, none⟩ = some u ∧ w.cell? ⟨b, o + 3, none⟩ = some (.int .i64 k.cost) ∧ Sl w u k.vals
theorem At.kept {w w' : World} {b o : Nat} {u : Value} {k : Kn} (h : At w b o u k) (g : w.grownBy w' none) : At w' b o u k :=
 ⟨g.cell h.1 (fun e => by cases e), g.cell h.2.1 (fun e => by cases e), g.cell h.2.2.1 (fun e => by cases e), g.cell h.2.2.2.1 (fun e => by cases e), h.2.2.2.2.kept g (.inl rfl)⟩
def Kns (w : World) (v : Value) (KK : List Kn) : Prop :=
 ∃ a cap, v = .slice a KK.length cap ∧ (KK = [] ∨ ∃ b off, a = some ⟨b, off, none⟩ ∧ b < w.heap.size ∧ ∀ i, i < KK.length → ∃ u, At w b (off + i * 4) u (KK.getD i kz))
theorem Kns.kept {w w' : World} {v : Value} {KK : List Kn} (h : Kns w v KK) (g : w.grownBy w' none) : Kns w' v KK := by
 obtain ⟨a, cap, rfl, h⟩ := h
 refine ⟨a, cap, rfl, ?_⟩
 rcases h with h | ⟨b, off, rfl, hb, hc⟩
 ·exact .inl h
 ·refine .inr ⟨b, off, rfl, Nat.lt_of_lt_of_le hb g.size, fun i hi => ?_⟩
  obtain ⟨u, hu⟩ := hc i hi
  exact ⟨u, hu.kept g⟩
theorem Kns.len {w : World} {v : Value} {KK : List Kn} (h : Kns w v KK) : ∃ a cap, v = .slice a KK.length cap := by
 obtain ⟨a, cap, e, _⟩ := h
 exact ⟨a, cap, e⟩
def Apart (a b : Value × Kn) : Prop := ∀ g, a.1.ownBlock = some g → b.1.ownBlock ≠ some g
def OwnK (lo hi : Nat) (w : World) (v : Value) (KK : List Kn) : Prop :=
 ∃ D : List (Value × Kn), D.map (·.2) = KK ∧ w.ownsRow lo 36 4 v D.length (cells4 D) ∧ (∀ k, v.ownBlock = some k → k < hi) ∧ (∀ p ∈ D, Own lo hi w p.1 p.2.vals) ∧ D.Pairwise Apart
theorem OwnK.sub {lo lo' hi hi' : Nat} {w : World} {v : Value} {KK : List Kn} (h : OwnK lo hi w v KK) (a : lo' ≤ lo) (b : hi ≤ hi') : OwnK lo' hi' w v KK := by
 obtain ⟨D, e, ho, hb, hi, hp⟩ := h
 exact ⟨D, e, own_mono ho a, fun k e => Nat.lt_of_lt_of_le (hb k e) b, fun p hp => own_sub (hi p hp) a b, hp⟩
theorem row_kept {w w' : World} {lo n z : Nat} {t : TypeId} {v : Value} {xs : List Value} (h : w.ownsRow lo t z v n xs) (g : w.grownBy w' none) : w'.ownsRow lo t z v n xs := h.kept g (by
 cases hv : v.ownBlock
 ·exact .inl rfl
 ·exact .inr (fun e => by cases e))
theorem OwnK.kept {lo hi : Nat} {w w' : World} {v : Value} {KK : List Kn} (h : OwnK lo hi w v KK) (g : w.grownBy w' none) : OwnK lo hi w' v KK := by
 obtain ⟨D, e, ho, hb, hi, hp⟩ := h
 exact ⟨D, e, row_kept ho g, hb, fun p hp => (hi p hp).kept g, hp⟩
theorem row_outs {lo hi lo' hi' n z : Nat} {t : TypeId} {w w' : World} {v : Value} {xs : List Value} (h : w.ownsRow lo t z v n xs) (hb : ∀ k, v.ownBlock = some k → k < hi) (g : Outs lo' hi' w w') (d : hi ≤ lo' ∨ hi' ≤ lo) : w'.ownsRow lo t z v n xs := by
 have h' := h
 obtain ⟨h1, h2⟩ := h
 refine ⟨h1, ?_⟩
 rcases h2 with h2 | ⟨b, cap, cur, rfl, hg, hh, r⟩
 ·exact .inl h2
 ·refine .inr ⟨b, cap, cur, rfl, hg, ?_, r⟩
  have l1 := h'.lt b rfl
  have l2 := hb b rfl
  rw [g.block b l1.2 (by omega)]
  exact hh
theorem OwnK.outs {lo hi lo' hi' : Nat} {w w' : World} {v : Value} {KK : List Kn} (h : OwnK lo hi w v KK) (g : Outs lo' hi' w w') (d : hi ≤ lo' ∨ hi' ≤ lo) : OwnK lo hi w' v KK := by
 obtain ⟨D, e, ho, hb, hi, hp⟩ := h
 exact ⟨D, e, row_outs ho hb g d, hb, fun p hp => own_outs (hi p hp) g d, hp⟩
theorem map_at {D : List (Value × Kn)} {i : Nat} (h : i < D.length) : (D.map (·.2)).getD i kz = D[i].2 := by simp [h]
theorem own_at {lo n cap g i : Nat} {w : World} {D : List (Value × Kn)} (h : w.ownsRow lo 36 4 (.slice (some ⟨g, 0, none⟩) n cap) n (cells4 D)) (hn : D.length = n) (hi : i < D.length) :
  w.cell? ⟨g, i * 4, none⟩ = some (.string D[i].2.dg) ∧ w.cell? ⟨g, i * 4 + 1, none⟩ = some (.bool D[i].2.sat) ∧ w.cell? ⟨g, i * 4 + 2, none⟩ = some D[i].1 ∧ w.cell? ⟨g, i * 4 + 3, none⟩ = some (.int .i64 D[i].2.cost) := by
 have q := cells4_at hi
 refine ⟨?_, ?_, ?_, ?_⟩
 ·rw [h.cellAt _ (by omega)]; exact q.1
 ·rw [h.cellAt _ (by omega)]; exact q.2.1
 ·rw [h.cellAt _ (by omega)]; exact q.2.2.1
 ·rw [h.cellAt _ (by omega)]; exact q.2.2.2
theorem OwnK.kns {lo hi : Nat} {w : World} {v : Value} {KK : List Kn} (h : OwnK lo hi w v KK) : Kns w v KK := by
 obtain ⟨D, rfl, ho, hb, hi, hp⟩ := h
 have ho' := ho
 obtain ⟨_, h2⟩ := ho
 rcases h2 with ⟨rfl, h0⟩ | ⟨g, cap, cur, rfl, hg, hh, hn, hm, hs, ht⟩
 ·have : D = [] := List.eq_nil_of_length_eq_zero h0
  subst this
  exact ⟨none, 0, rfl, .inl rfl⟩
 ·refine ⟨some ⟨g, 0, none⟩, cap, by rw [List.length_map], .inr ⟨g, 0, rfl, (Array.getElem?_eq_some_iff.1 hh).1, fun i hi' => ?_⟩⟩
  rw [List.length_map] at hi'
  have q := own_at ho' rfl hi'
  rw [map_at hi', Nat.zero_add]
  exact ⟨D[i].1, q.1, q.2.1, q.2.2.1, q.2.2.2, (hi _ (List.getElem_mem hi')).sl⟩
theorem OwnK.len {lo hi : Nat} {w : World} {v : Value} {KK : List Kn} (h : OwnK lo hi w v KK) : ∃ a cap, v = .slice a KK.length cap := h.kns.len
theorem OwnK.none (lo hi : Nat) (w : World) : OwnK lo hi w (.slice none 0 0) [] :=
 ⟨[], rfl, World.ownsRow_nil .., (fun k e => by cases e), (fun p hp => by cases hp), .nil⟩
def Vl (w : World) (u : Value) (L : List Int) : Prop := ∃ lo hi, Own lo hi w u L
theorem Vl.sl {w : World} {u : Value} {L : List Int} (h : Vl w u L) : Sl w u L := by
 obtain ⟨lo, hi, h⟩ := h
 exact h.sl
theorem Vl.kept {w w' : World} {u : Value} {L : List Int} (h : Vl w u L) (g : w.grownBy w' none) : Vl w' u L := by
 obtain ⟨lo, hi, h⟩ := h
 exact ⟨lo, hi, h.kept g⟩
def VKns (w : World) (v : Value) (KK : List Kn) : Prop :=
 ∃ a cap, v = .slice a KK.length cap ∧ (KK = [] ∨ ∃ b off, a = some ⟨b, off, none⟩ ∧ b < w.heap.size ∧ ∀ i, i < KK.length → ∃ u, At w b (off + i * 4) u (KK.getD i kz) ∧ Vl w u (KK.getD i kz).vals)
theorem VKns.kept {w w' : World} {v : Value} {KK : List Kn} (h : VKns w v KK) (g : w.grownBy w' none) : VKns w' v KK := by
 obtain ⟨a, cap, rfl, h⟩ := h
 refine ⟨a, cap, rfl, ?_⟩
 rcases h with h | ⟨b, off, rfl, hb, hc⟩
 ·exact .inl h
 ·refine .inr ⟨b, off, rfl, Nat.lt_of_lt_of_le hb g.size, fun i hi => ?_⟩
  obtain ⟨u, hu, hv⟩ := hc i hi
  exact ⟨u, hu.kept g, hv.kept g⟩
theorem VKns.kns {w : World} {v : Value} {KK : List Kn} (h : VKns w v KK) : Kns w v KK := by
 obtain ⟨a, cap, rfl, h⟩ := h
 refine ⟨a, cap, rfl, ?_⟩
 rcases h with h | ⟨b, off, rfl, hb, hc⟩
 ·exact .inl h
 ·refine .inr ⟨b, off, rfl, hb, fun i hi => ?_⟩
  obtain ⟨u, hu, _⟩ := hc i hi
  exact ⟨u, hu⟩
theorem VKns.len {w : World} {v : Value} {KK : List Kn} (h : VKns w v KK) : ∃ a cap, v = .slice a KK.length cap := h.kns.len
theorem VKns.nil (w : World) (a : Option Addr) (cap : Nat) : VKns w (.slice a 0 cap) [] := ⟨a, cap, rfl, .inl rfl⟩
theorem OwnK.vkns {lo hi : Nat} {w : World} {v : Value} {KK : List Kn} (h : OwnK lo hi w v KK) : VKns w v KK := by
 obtain ⟨D, rfl, ho, hb, hi, hp⟩ := h
 have ho' := ho
 obtain ⟨_, h2⟩ := ho
 rcases h2 with ⟨rfl, h0⟩ | ⟨g, cap, cur, rfl, hg, hh, hn, hm, hs, ht⟩
 ·have : D = [] := List.eq_nil_of_length_eq_zero h0
  subst this
  exact ⟨Option.none, 0, rfl, .inl rfl⟩
 ·refine ⟨some ⟨g, 0, Option.none⟩, cap, by rw [List.length_map], .inr ⟨g, 0, rfl, (Array.getElem?_eq_some_iff.1 hh).1, fun i hi' => ?_⟩⟩
  rw [List.length_map] at hi'
  have q := own_at ho' rfl hi'
  rw [map_at hi', Nat.zero_add]
  exact ⟨D[i].1, ⟨q.1, q.2.1, q.2.2.1, q.2.2.2, (hi _ (List.getElem_mem hi')).sl⟩, _, _, hi _ (List.getElem_mem hi')⟩
theorem types_ne : (36 : Nat) ≠ 3 := by decide
theorem own_ne {w : World} {lo lo' n n' : Nat} {v v' : Value} {xs xs' : List Value} (h : w.ownsRow lo 36 4 v n xs) (h' : w.ownsRow lo' 3 1 v' n' xs') : ∀ g, v'.ownBlock = some g → v.ownBlock ≠ some g := by
 intro g e e'
 obtain ⟨c, fz, hc⟩ := own_kind h g e'
 obtain ⟨c', fz', hc'⟩ := own_kind h' g e
 rw [hc] at hc'
 simp only [Option.some.injEq, Obj.cells.injEq] at hc'
 exact types_ne hc'.2.1
theorem own_ne' {w : World} {lo lo' n n' : Nat} {v v' : Value} {xs xs' : List Value} (h : w.ownsRow lo 36 4 v n xs) (h' : w.ownsRow lo' 3 1 v' n' xs') : v'.ownBlock = none ∨ v'.ownBlock ≠ v.ownBlock := by
 cases e : v'.ownBlock with
 | none => exact .inl rfl
 | some g => exact .inr (fun e' => own_ne h h' g e e'.symm)
theorem sizeK : (Tryz.prog.info? 36).map (·.size) = some 4 := by kernel_rfl
theorem infoK : (Tryz.prog.info? 36).map (fun i => (i.zero, i.size, i.bytes)) = some (some (.agg #[.string ⟨#[]⟩, .bool false, .slice none 0 0, .int .i64 0]), 4, 56) := by kernel_rfl
theorem ret_known {fn : Func} {p : Tmp} {tmps : Array Value} {w : World} {c : Nat} {a b q x : Value} (h : fn.results = #[.cell p 36]) (hp : tmps.getD p undef = .pointer (some ⟨c, 0, none⟩)) (hb : yb.Box4 36 w c a b q x) :
  (results fn tmps).run Tryz.prog w = .ok (.agg #[a, b, q, x]) w :=
 results_cell_row h tmps w c 36 #[a, b, q, x] (0, 0) _ hp hb Tryz.underlying36 rfl sizeK
theorem ret_known2 {fn : Func} {p u : Tmp} {tmps : Array Value} {w : World} {c : Nat} {a b q x : Value} (h : fn.results = #[.cell p 36, .tmp u]) (hp : tmps.getD p undef = .pointer (some ⟨c, 0, none⟩)) (hb : yb.Box4 36 w c a b q x) :
  (results fn tmps).run Tryz.prog w = .ok (.tuple #[.agg #[a, b, q, x], tmps.getD u undef]) w := by
 rw [results_cell_tmp h, hp]
 simp only [asAddr, Sem.run_pure, Result.andThen_ok]
 rw [run_loadVar_row w c 36 36 #[a, b, q, x] (0, 0) _ hb Tryz.underlying36 rfl sizeK]
 rfl
end Go.Proofs.YtnlllcgcaddhmaaGreatDoor.ua
namespace Go.Proofs.YtnlllcgcaddhmaaGreatDoor.ua
open Go.ChangeShapes Go.WideShapes Go.ChangeAt Go.RowKit
open sl (Sl Own ints hide unhide ret_int ret_bool grown_refl grown_trans grown_drewN below_of of_below)
open css (Outs outs_trans outs_by own_mono own_sub own_outs own_kind)
open yb (Box4)
set_option linter.unusedVariables false
theorem row_set {w : World} {lo n z c i : Nat} {t : TypeId} {v : Value} {xs : List Value} {u : Value} (h : w.ownsRow lo t z v n xs) (hc : c < lo) : (w.setCell ⟨c, i, none⟩ u).ownsRow lo t z v n xs := h.kept (sl.grown_setCell w c i u) (by
 cases e : v.ownBlock with
 | none => exact .inl rfl
 | some k => exact .inr (fun e' => by cases e'; have := (h.lt _ e).1; omega))
theorem take_snoc (KK : List Kn) (k : Nat) (h : k < KK.length) : KK.take (k + 1) = KK.take k ++ [KK.getD k kz] := by
 rw [List.take_succ_eq_append_getElem h]
 simp [h]
end Go.Proofs.YtnlllcgcaddhmaaGreatDoor.ua
