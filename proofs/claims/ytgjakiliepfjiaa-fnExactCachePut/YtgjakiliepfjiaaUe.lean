/- The shelf in memory (a lock, a room, entries of the call's own over others' values, a map of places) and the map of places as plain mathematics; no condition. -/
import Derived.Test.YtgjakiliepfjiaaUc
import Derived.Test.YtgjakiliepfjiaaUl
import Derived.Conc.MuLone
import Derived.Maps.Own
import Derived.Maps.OwnOps
import Derived.Maps.OwnSet
import Derived.Maps.Views
import Derived.Deep.AppendLies
import Derived.Defers
namespace Go.Proofs.Ytgjakiliepfjiaa.ua
open Go.ChangeShapes Go.WideShapes Go.ChangeAt Go.RowKit Go.Maps
open Go.Proofs.Ytgjakiliepfjiaa.sl (Sl Own ints marks hide unhide ret_int ret_bool grown_refl grown_trans grown_drewN below_of of_below)
open Go.Proofs.Ytgjakiliepfjiaa.css (Outs outs_trans outs_none outs_by outs_refl own_mono own_sub own_outs own_kind)
open Go.Proofs.Ytgjakiliepfjiaa.yb (Box4)
open Go.Proofs.Ytgjakiliepfjiaa.cf (Box)
set_option linter.unusedVariables false
/-- the key of a digest -/
def key (d : ByteArray) : Lit := .string d.data.toList
theorem key_inj {a b : ByteArray} (h : key a = key b) : a = b := by
  unfold key at h
  injection h with h
  apply ByteArray.ext
  exact Array.toList_inj.1 h
theorem key_ok (d : ByteArray) : WideAt.IsKeyLit (key d) := trivial
def num (i : Nat) : DataW Unit := .lit (.int .i64 (i : Int))
/-- the places of the first ones -/
def dmAt (E : List Kn) : Nat → DataW Unit
  | 0 => .map []
  | n + 1 => (dmAt E n).put (key (E.getD n kz).dg) (num n)
theorem dm_tidy (E : List Kn) : ∀ n, Tidy (dmAt E n)
  | 0 => tidy_empty
  | n + 1 => (dm_tidy E n).put (key_ok _) _
/-- no two of the first ones have one digest -/
def Dist (E : List Kn) (n : Nat) : Prop := ∀ i j, i < j → j < n → (E.getD i kz).dg ≠ (E.getD j kz).dg
theorem has_dm (E : List Kn) (d : ByteArray) : ∀ n, Maps.has (dmAt E n) (key d) = true ↔ ∃ i, i < n ∧ (E.getD i kz).dg = d
  | 0 => by
    constructor
    · intro h
      cases h
    · rintro ⟨i, hi, _⟩
      omega
  | n + 1 => by
    by_cases e : (E.getD n kz).dg = d
    · constructor
      · exact fun _ => ⟨n, Nat.lt_succ_self _, e⟩
      · intro _
        show Maps.has ((dmAt E n).put (key (E.getD n kz).dg) (num n)) (key d) = true
        rw [e]
        exact has_put_same (dm_tidy E n).isMap (key_ok d) _
    · show Maps.has ((dmAt E n).put (key (E.getD n kz).dg) (num n)) (key d) = true ↔ _
      rw [has_put_other (fun q => e (key_inj q).symm), has_dm E d n]
      constructor
      · rintro ⟨i, hi, q⟩
        exact ⟨i, Nat.lt_succ_of_lt hi, q⟩
      · rintro ⟨i, hi, q⟩
        refine ⟨i, ?_, q⟩
        rcases Nat.lt_succ_iff_lt_or_eq.1 hi with h | rfl
        · exact h
        · exact absurd q e
theorem at_dm (E : List Kn) (z : DataW Unit) : ∀ n, Dist E n → ∀ i, i < n → (dmAt E n).atKey (key (E.getD i kz).dg) z = num i
  | 0, _, i, hi => by omega
  | n + 1, h, i, hi => by
    show ((dmAt E n).put (key (E.getD n kz).dg) (num n)).atKey (key (E.getD i kz).dg) z = num i
    by_cases e : i = n
    · subst e
      exact atKey_put_same (dm_tidy E i).isMap (key_ok _) _ _
    · rw [atKey_put_other (fun q => h i n (by omega) (Nat.lt_succ_self _) (key_inj q))]
      exact at_dm E z n (fun i j hij hj => h i j hij (by omega)) i (by omega)
theorem size_dm (E : List Kn) : ∀ n, Dist E n → Maps.size (dmAt E n) = n
  | 0, _ => rfl
  | n + 1, h => by
    show Maps.size ((dmAt E n).put (key (E.getD n kz).dg) (num n)) = n + 1
    rw [size_put (dm_tidy E n), if_neg, size_dm E n (fun i j hij hj => h i j hij (by omega))]
    intro q
    obtain ⟨i, hi, e⟩ := (has_dm E _ n).1 q
    exact h i n hi (Nat.lt_succ_self _) e
/-- a list of the call's own over others' values -/
def OwnH (w0 wr : World) (v : Value) (E : List Kn) : Prop :=
  ∃ D : List (Value × Kn), D.map (·.2) = E ∧ wr.ownsRow w0.heap.size 29 4 v D.length (cells4 D) ∧ ∀ p ∈ D, Vl w0 p.1 p.2.vals
theorem OwnH.len {w0 wr : World} {v : Value} {E : List Kn} (h : OwnH w0 wr v E) : ∃ a cap, v = .slice a E.length cap := by
  obtain ⟨D, rfl, ⟨_, h2⟩, _⟩ := h
  rcases h2 with ⟨rfl, h0⟩ | ⟨g, cap, cur, rfl, _⟩
  · exact ⟨none, 0, by rw [List.length_map, h0]⟩
  · exact ⟨_, cap, by rw [List.length_map]⟩
theorem OwnH.kept {w0 wr w1 : World} {v : Value} {E : List Kn} {r : Option Nat} (h : OwnH w0 wr v E) (g : wr.grownBy w1 r) (hr : ∀ k, r = some k → v.ownBlock ≠ some k) : OwnH w0 w1 v E := by
  obtain ⟨D, e, ho, hs⟩ := h
  refine ⟨D, e, ho.kept g ?_, hs⟩
  cases q : v.ownBlock with
  | none => exact .inl rfl
  | some k => exact .inr (fun e => hr k e.symm q)
theorem OwnH.at {w0 wr : World} {v : Value} {E : List Kn} (h : OwnH w0 wr v E) {i : Nat} (hi : i < E.length) : ∃ g cap u, v = .slice (some ⟨g, 0, none⟩) E.length cap ∧ wr.cell? ⟨g, i * 4, none⟩ = some (.string (E.getD i kz).dg) ∧ wr.cell? ⟨g, i * 4 + 1, none⟩ = some (.bool (E.getD i kz).sat) ∧ wr.cell? ⟨g, i * 4 + 2, none⟩ = some u ∧ wr.cell? ⟨g, i * 4 + 3, none⟩ = some (.int .i64 (E.getD i kz).cost) ∧ Vl w0 u (E.getD i kz).vals := by
  obtain ⟨D, rfl, ho, hs⟩ := h
  rw [List.length_map] at hi
  have ho' := ho
  obtain ⟨_, h2⟩ := ho
  rcases h2 with ⟨rfl, h0⟩ | ⟨g, cap, cur, rfl, _⟩
  · omega
  · have q := own_at ho' rfl hi
    rw [map_at hi]
    exact ⟨g, cap, D[i].1, by rw [List.length_map], q.1, q.2.1, q.2.2.1, q.2.2.2, hs _ (List.getElem_mem hi)⟩
/-- the shelf: block s holds the lock lk, the room, the entries E in v and the map of block bm, which reads as D; all is new since w0 -/
structure Shf (w0 wr : World) (s bm : Nat) (lk room : Int) (v : Value) (E : List Kn) (D : DataW Unit) : Prop where
  g : w0.grownBy wr none
  blk : wr.heap[s]? = some (.cells #[.int .i32 lk, .int .u32 0, .int .i64 room, v, .map (some bm)] 97 (0, 0))
  own : OwnH w0 wr v E
  map : wr.ownsMap Try.prog 9 (plainElem Try.prog 3) bm E.length D
  hs : w0.heap.size ≤ s
  hb : w0.heap.size ≤ bm
theorem Shf.lt {w0 wr : World} {s bm : Nat} {lk room : Int} {v : Value} {E : List Kn} {D : DataW Unit} (h : Shf w0 wr s bm lk room v E D) : s < wr.heap.size := (Array.getElem?_eq_some_iff.1 h.blk).1
theorem Shf.cells {w0 wr : World} {s bm : Nat} {lk room : Int} {v : Value} {E : List Kn} {D : DataW Unit} (h : Shf w0 wr s bm lk room v E D) :
    wr.cell? ⟨s, 0, none⟩ = some (.int .i32 lk) ∧ wr.cell? ⟨s, 2, none⟩ = some (.int .i64 room) ∧ wr.cell? ⟨s, 3, none⟩ = some v ∧ wr.cell? ⟨s, 4, none⟩ = some (.map (some bm)) ∧ ∀ i, wr.frozen? ⟨s, i, none⟩ = false := by
  have hb := h.blk
  refine ⟨?_, ?_, ?_, ?_, fun i => ?_⟩
  · simp [World.cell?, hb]
  · simp [World.cell?, hb]
  · simp [World.cell?, hb]
  · simp [World.cell?, hb]
  · simp [World.frozen?, hb]
theorem Shf.ne {w0 wr : World} {s bm : Nat} {lk room : Int} {v : Value} {E : List Kn} {D : DataW Unit} (h : Shf w0 wr s bm lk room v E D) : bm ≠ s := by
  obtain ⟨es, cl, hm, _⟩ := h.map
  rintro rfl
  rw [h.blk] at hm
  cases hm
theorem shelf_ty : (29 : Nat) ≠ 97 := by decide
theorem Shf.row_ne {w0 wr : World} {s bm : Nat} {lk room : Int} {v : Value} {E : List Kn} {D : DataW Unit} (h : Shf w0 wr s bm lk room v E D) : v.ownBlock ≠ some s ∧ v.ownBlock ≠ some bm := by
  obtain ⟨D', _, ho, _⟩ := h.own
  constructor
  · intro e
    obtain ⟨c, fz, hc⟩ := own_kind ho s e
    rw [h.blk] at hc
    simp only [Option.some.injEq, Obj.cells.injEq] at hc
    exact shelf_ty hc.2.1.symm
  · intro e
    obtain ⟨c, fz, hc⟩ := own_kind ho bm e
    obtain ⟨es, cl, hm, _⟩ := h.map
    rw [hm] at hc
    cases hc
theorem Shf.kept {w0 wr w1 : World} {s bm : Nat} {lk room : Int} {v : Value} {E : List Kn} {D : DataW Unit} (h : Shf w0 wr s bm lk room v E D) (g : wr.grownBy w1 none) : Shf w0 w1 s bm lk room v E D :=
  ⟨grown_trans (r := none) h.g g, (g.block s h.lt (fun e => by cases e)).trans h.blk, h.own.kept g (fun k e => by cases e), h.map.kept g (by simp), h.hs, h.hb⟩
theorem grown_in {w0 wr w1 : World} {r : Nat} (h : w0.grownBy wr none) (k : wr.grownBy w1 (some r)) (hr : w0.heap.size ≤ r) : w0.grownBy w1 none :=
  ⟨k.os.trans h.os, k.tape.trans h.tape, k.output.trans h.output, Nat.le_trans h.size k.size, fun i hi _ => (k.block i (Nat.lt_of_lt_of_le hi h.size) (fun e => by injection e with e; omega)).trans (h.block i hi (fun e => by cases e))⟩
/-- a store into the shelf -/
theorem Shf.set {w0 wr : World} {s bm : Nat} {lk room lk' room' : Int} {v v' u : Value} {E : List Kn} {D : DataW Unit} {i : Nat} (h : Shf w0 wr s bm lk room v E D)
    (hb : (wr.setCell ⟨s, i, none⟩ u).heap[s]? = some (.cells #[.int .i32 lk', .int .u32 0, .int .i64 room', v', .map (some bm)] 97 (0, 0))) (ho : v' = v) : Shf w0 (wr.setCell ⟨s, i, none⟩ u) s bm lk' room' v' E D := by
  subst ho
  have g := sl.grown_setCell wr s i u
  exact ⟨grown_in h.g g h.hs, hb, h.own.kept g (fun k e => by cases e; exact h.row_ne.1), h.map.kept g (by intro e; cases e; exact h.ne rfl), h.hs, h.hb⟩
theorem Shf.lock {w0 wr : World} {s bm : Nat} {lk room : Int} {v : Value} {E : List Kn} {D : DataW Unit} (h : Shf w0 wr s bm lk room v E D) (lk' : Int) : Shf w0 (wr.setCell ⟨s, 0, none⟩ (.int .i32 lk')) s bm lk' room v E D := by
  refine h.set ?_ rfl
  have hb := h.blk
  simp [World.setCell, Array.getElem?_modify, hb]
theorem Shf.room {w0 wr : World} {s bm : Nat} {lk room : Int} {v : Value} {E : List Kn} {D : DataW Unit} (h : Shf w0 wr s bm lk room v E D) (r : Int) : Shf w0 (wr.setCell ⟨s, 2, none⟩ (.int .i64 r)) s bm lk r v E D := by
  refine h.set ?_ rfl
  have hb := h.blk
  simp [World.setCell, Array.getElem?_modify, hb]
/-- the map turned -/
theorem Shf.turn {w0 wr w1 : World} {s bm n : Nat} {lk room : Int} {v : Value} {E : List Kn} {D D' : DataW Unit} (h : Shf w0 wr s bm lk room v E D) (g : wr.grownBy w1 (some bm)) (hm : w1.ownsMap Try.prog 9 (plainElem Try.prog 3) bm n D') (hn : n ≤ E.length) : Shf w0 w1 s bm lk room v E D' :=
  ⟨grown_in h.g g h.hb, (g.block s h.lt (fun e => by injection e with e; exact h.ne e.symm)).trans h.blk, h.own.kept g (fun k e => by cases e; exact h.row_ne.2), hm.mono hn, h.hs, h.hb⟩
theorem law : Keyed Try.prog 9 := string_keyed Try.underlying9
theorem zeroE (w : World) : (zeroValue 3).run Try.prog w = .ok (.int .i64 0) w := by kernel_rfl
theorem keyOf_dg {d : ByteArray} (h : d.size ≤ maxLen) : keyOf Try.prog 9 (.string d) = some (key d) := WideMaps.keyOf_string_mk Try.underlying9 h
end Go.Proofs.Ytgjakiliepfjiaa.ua
