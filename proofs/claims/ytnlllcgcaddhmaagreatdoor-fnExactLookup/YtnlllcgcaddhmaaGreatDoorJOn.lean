/- Slices of slices of integers in memory, as the walks here speak of them, and what the small helpers on them (a size, a copy, an equality, marks) do; no condition but that the lists together have at most 2^20 elements. -/
import Derived.Test.YtnlllcgcaddhmaaGreatDoorJXSl
import Derived.Laws.Rows
import Derived.Laws.ResultCell
import Derived.Test.YtnlllcgcaddhmaaGreatDoorJXLits
import Derived.Deep.AppendLies
import Derived.Deep.RegionLaw
import Derived.Deep.DrawnRows
import Derived.Deep.DeepCutAuto
import Derived.Laws.MakeOwn
import Derived.Test.YtnlllcgcaddhmaaGreatDoorJOc
import Derived.Laws.AppendOwnNone
namespace Go.Proofs.YtnlllcgcaddhmaaGreatDoor.css
open Go.ChangeShapes Go.WideShapes Go.ChangeAt Go.RowKit
open sl (Sl Own ints marks hide unhide ret_int ret_bool grown_refl grown_trans grown_drewN below_of of_below)
set_option linter.unusedVariables false
def Sls (w : World) (v : Value) (LL : List (List Int)) : Prop :=
 ∃ a cap, v = .slice a LL.length cap ∧ (LL = [] ∨ ∃ b off, a = some ⟨b, off, none⟩ ∧ b < w.heap.size ∧ ∀ i, i < LL.length → ∃ u, w.cell? ⟨b, off + i, none⟩ = some u ∧ Sl w u (LL.getD i []))
theorem Sls.kept {w w' : World} {v : Value} {LL : List (List Int)} (h : Sls w v LL) (g : w.grownBy w' none) : Sls w' v LL := by
 obtain ⟨a, cap, rfl, h⟩ := h
 refine ⟨a, cap, rfl, ?_⟩
 rcases h with h | ⟨b, off, rfl, hb, hc⟩
 ·exact .inl h
 ·refine .inr ⟨b, off, rfl, Nat.lt_of_lt_of_le hb g.size, fun i hi => ?_⟩
  obtain ⟨u, hu, hs⟩ := hc i hi
  exact ⟨u, g.cell hu (fun e => by cases e), hs.kept g (.inl rfl)⟩
theorem Sls.below {w w' : World} {v : Value} {LL : List (List Int)} (h : Sls w v LL) (b : Below w.heap.size w w') : Sls w' v LL := h.kept (of_below b)
def Apart (a b : Value × List Int) : Prop := ∀ g, a.1.ownBlock = some g → b.1.ownBlock ≠ some g
def OwnS (lo hi : Nat) (w : World) (v : Value) (LL : List (List Int)) : Prop :=
 ∃ D : List (Value × List Int), D.map (·.2) = LL ∧ w.ownsRow lo 34 1 v D.length (D.map (·.1)) ∧ (∀ k, v.ownBlock = some k → k < hi) ∧ (∀ p ∈ D, Own lo hi w p.1 p.2) ∧ D.Pairwise Apart
structure Outs (lo hi : Nat) (w w' : World) : Prop where
 os : w'.os = w.os
 tape : w'.tape = w.tape
 output : w'.output = w.output
 size : w.heap.size ≤ w'.heap.size
 block : ∀ k, k < w.heap.size → (k < lo ∨ hi ≤ k) → w'.heap[k]? = w.heap[k]?
theorem own_mono {w : World} {base base' : Nat} {e : TypeId} {size : Nat} {v : Value} {n : Nat} {xs : List Value} (h : w.ownsRow base e size v n xs) (hb : base' ≤ base) : w.ownsRow base' e size v n xs := by
 obtain ⟨h1, h2⟩ := h
 refine ⟨h1, ?_⟩
 rcases h2 with h2 | ⟨g, cap, cur, hv, hg, r⟩
 ·exact .inl h2
 ·exact .inr ⟨g, cap, cur, hv, Nat.le_trans hb hg, r⟩
theorem own_kind {w : World} {B : Nat} {e : TypeId} {size : Nat} {v : Value} {n : Nat} {xs : List Value} (h : w.ownsRow B e size v n xs) : ∀ g, v.ownBlock = some g → ∃ c fz, w.heap[g]? = some (.cells c e fz) := by
 intro g e'
 obtain ⟨_, h2⟩ := h
 rcases h2 with ⟨rfl, _⟩ | ⟨g', cap, cur, rfl, hg, hh, _⟩
 ·cases e'
 ·cases e'
  exact ⟨_, _, hh⟩
theorem types_ne : (34 : Nat) ≠ 3 := by decide
theorem own_ne {w : World} {lo lo' n n' : Nat} {v v' : Value} {xs xs' : List Value} (h : w.ownsRow lo 34 1 v n xs) (h' : w.ownsRow lo' 3 1 v' n' xs') : ∀ g, v'.ownBlock = some g → v.ownBlock ≠ some g := by
 intro g e e'
 obtain ⟨c, fz, hc⟩ := own_kind h g e'
 obtain ⟨c', fz', hc'⟩ := own_kind h' g e
 rw [hc] at hc'
 simp only [Option.some.injEq, Obj.cells.injEq] at hc'
 exact types_ne hc'.2.1
theorem own_ne' {w : World} {lo lo' n n' : Nat} {v v' : Value} {xs xs' : List Value} (h : w.ownsRow lo 34 1 v n xs) (h' : w.ownsRow lo' 3 1 v' n' xs') : v'.ownBlock = none ∨ v'.ownBlock ≠ v.ownBlock := by
 cases e : v'.ownBlock with
 | none => exact .inl rfl
 | some g => exact .inr (fun e' => own_ne h h' g e e'.symm)
theorem own_sub {lo lo' hi hi' : Nat} {w : World} {v : Value} {L : List Int} (h : Own lo hi w v L) (a : lo' ≤ lo) (b : hi ≤ hi') : Own lo' hi' w v L :=
 ⟨own_mono h.1 a, fun k e => Nat.lt_of_lt_of_le (h.2 k e) b⟩
theorem OwnS.sub {lo lo' hi hi' : Nat} {w : World} {v : Value} {LL : List (List Int)} (h : OwnS lo hi w v LL) (a : lo' ≤ lo) (b : hi ≤ hi') : OwnS lo' hi' w v LL := by
 obtain ⟨D, e, ho, hb, hi, hp⟩ := h
 exact ⟨D, e, own_mono ho a, fun k e => Nat.lt_of_lt_of_le (hb k e) b, fun p hp => own_sub (hi p hp) a b, hp⟩
theorem OwnS.kept {lo hi : Nat} {w w' : World} {v : Value} {LL : List (List Int)} (h : OwnS lo hi w v LL) (g : w.grownBy w' none) : OwnS lo hi w' v LL := by
 obtain ⟨D, e, ho, hb, hi, hp⟩ := h
 refine ⟨D, e, ho.kept g ?_, hb, fun p hp => (hi p hp).kept g, hp⟩
 cases v.ownBlock with
 | none => exact .inl rfl
 | some k => exact .inr (fun e => by cases e)
theorem row_outs {lo hi lo' hi' n : Nat} {t : TypeId} {w w' : World} {v : Value} {xs : List Value} (h : w.ownsRow lo t 1 v n xs) (hb : ∀ k, v.ownBlock = some k → k < hi) (g : Outs lo' hi' w w') (d : hi ≤ lo' ∨ hi' ≤ lo) : w'.ownsRow lo t 1 v n xs := by
 have h' := h
 obtain ⟨h1, h2⟩ := h
 refine ⟨h1, ?_⟩
 rcases h2 with h2 | ⟨b, cap, cur, rfl, hg, hh, r⟩
 ·exact .inl h2
 ·refine .inr ⟨b, cap, cur, rfl, hg, ?_, r⟩
  have l1 := h'.lt b rfl
  have l2 := hb b rfl
  rw [g.block b l1.2 (by omega)]
  exact hh
theorem own_outs {lo hi lo' hi' : Nat} {w w' : World} {v : Value} {L : List Int} (h : Own lo hi w v L) (g : Outs lo' hi' w w') (d : hi ≤ lo' ∨ hi' ≤ lo) : Own lo hi w' v L :=
 ⟨row_outs h.1 h.2 g d, h.2⟩
theorem OwnS.outs {lo hi lo' hi' : Nat} {w w' : World} {v : Value} {LL : List (List Int)} (h : OwnS lo hi w v LL) (g : Outs lo' hi' w w') (d : hi ≤ lo' ∨ hi' ≤ lo) : OwnS lo hi w' v LL := by
 obtain ⟨D, e, ho, hb, hi, hp⟩ := h
 exact ⟨D, e, row_outs ho hb g d, hb, fun p hp => own_outs (hi p hp) g d, hp⟩
theorem below_outs {a w w' : World} {lo hi : Nat} (b : Below a.heap.size a w) (hlo : a.heap.size ≤ lo) (g : Outs lo hi w w') : Below a.heap.size a w' :=
 ⟨g.os.trans b.os, g.tape.trans b.tape, g.output.trans b.output, Nat.le_trans b.size g.size, fun k hk => (g.block k (Nat.lt_of_lt_of_le hk b.size) (.inl (by omega))).trans (b.block k hk)⟩
theorem outs_none {lo hi : Nat} {w w' : World} (g : w.grownBy w' none) : Outs lo hi w w' := ⟨g.os, g.tape, g.output, g.size, fun k hk _ => g.block k hk (fun e => by cases e)⟩
theorem outs_by {lo hi : Nat} {w w' : World} {r : Option Nat} (g : w.grownBy w' r) (h : ∀ k, r = some k → lo ≤ k ∧ k < hi) : Outs lo hi w w' :=
 ⟨g.os, g.tape, g.output, g.size, fun k hk d => g.block k hk (fun e => by have := h k e.symm; omega)⟩
theorem outs_trans {lo hi : Nat} {a b c : World} (h : Outs lo hi a b) (k : Outs lo hi b c) : Outs lo hi a c :=
 ⟨k.os.trans h.os, k.tape.trans h.tape, k.output.trans h.output, Nat.le_trans h.size k.size, fun i hi d => (k.block i (Nat.lt_of_lt_of_le hi h.size) d).trans (h.block i hi d)⟩
theorem outs_refl (lo hi : Nat) (w : World) : Outs lo hi w w := ⟨rfl, rfl, rfl, Nat.le_refl _, fun _ _ _ => rfl⟩
theorem map2_getD {D : List (Value × List Int)} {i : Nat} (h : i < D.length) : (D.map (·.2)).getD i [] = D[i].2 := by simp [h]
theorem OwnS.sls {lo hi : Nat} {w : World} {v : Value} {LL : List (List Int)} (h : OwnS lo hi w v LL) : Sls w v LL := by
 obtain ⟨D, rfl, ho, hb, hi, hp⟩ := h
 have ho' := ho
 obtain ⟨_, h2⟩ := ho
 rcases h2 with ⟨rfl, h0⟩ | ⟨g, cap, cur, rfl, hg, hh, hn, hm, hs, ht⟩
 ·have : D = [] := List.eq_nil_of_length_eq_zero h0
  subst this
  exact ⟨none, 0, rfl, .inl rfl⟩
 ·refine ⟨some ⟨g, 0, none⟩, cap, by rw [List.length_map], .inr ⟨g, 0, rfl, (Array.getElem?_eq_some_iff.1 hh).1, fun i hi' => ?_⟩⟩
  rw [List.length_map] at hi'
  refine ⟨D[i].1, ?_, ?_⟩
  ·rw [Nat.zero_add, ho'.cellAt i (by omega)]
   simp [hi']
  ·rw [map2_getD hi']
   exact (hi _ (List.getElem_mem hi')).sl
theorem OwnS.len {lo hi : Nat} {w : World} {v : Value} {LL : List (List Int)} (h : OwnS lo hi w v LL) : ∃ a cap, v = .slice a LL.length cap := by
 obtain ⟨a, cap, e, _⟩ := h.sls
 exact ⟨a, cap, e⟩
theorem infoSl : (Tryz.prog.info? 34).map (fun i => (i.zero, i.size, i.bytes)) = some (some (.slice none 0 0), 1, 24) := by kernel_rfl
def Mid (w wr : World) (n : Nat) (LL : List (List Int)) : Prop :=
 ∃ D : List (Value × List Int), D.map (·.2) = LL ∧ wr.ownsRow w.heap.size 34 1 (.slice (some ⟨w.heap.size, 0, none⟩) n n) n (D.map (·.1) ++ List.replicate (n - D.length) (.slice none 0 0)) ∧ (∀ p ∈ D, Own w.heap.size wr.heap.size wr p.1 p.2) ∧ D.Pairwise Apart ∧ w.grownBy wr none
theorem Mid.start {w w1 : World} {n : Nat} (ho : w1.ownsRow w.heap.size 34 1 (.slice (some ⟨w.heap.size, 0, none⟩) n n) n (madeCells #[Value.slice none 0 0] n).toList) (g : w.grownBy w1 none) : Mid w w1 n [] := by
 refine ⟨[], rfl, ?_, (fun p hp => by cases hp), .nil, g⟩
 have e : (madeCells #[Value.slice none 0 0] n).toList = List.replicate n (.slice none 0 0) := by rw [toList_madeCells_one]
 rw [e] at ho
 simpa using ho
theorem Mid.grown {w wr : World} {n : Nat} {LL : List (List Int)} (h : Mid w wr n LL) : w.grownBy wr none := by
 obtain ⟨D, _, _, _, _, g⟩ := h
 exact g
theorem Mid.cell {w wr w1 : World} {n : Nat} {LL : List (List Int)} (h : Mid w wr n LL) (hk : LL.length < n) (g : wr.grownBy w1 none) :
  (∃ x, w1.cell? ⟨w.heap.size, LL.length, none⟩ = some x) ∧ w1.frozen? ⟨w.heap.size, LL.length, none⟩ = false := by
 obtain ⟨D, rfl, ho, hi, hp, hg⟩ := h
 have ho1 := ho.kept g (.inr (fun e => by cases e))
 refine ⟨?_, ho1.frozenAt _⟩
 rw [List.length_map] at *
 rw [ho1.cellAt _ (by omega)]
 exact ⟨_, List.getElem?_eq_getElem (by simp; omega)⟩
theorem Mid.step {w wr w1 : World} {n : Nat} {LL : List (List Int)} {u : Value} {L : List Int} (h : Mid w wr n LL) (hk : LL.length < n) (g : wr.grownBy w1 none) (hu : w1.ownsRow wr.heap.size 3 1 u L.length (ints L)) :
  Mid w (w1.setCell ⟨w.heap.size, LL.length, none⟩ u) n (LL ++ [L]) := by
 obtain ⟨D, rfl, ho, hi, hp, hg⟩ := h
 rw [List.length_map] at *
 have ho1 := ho.kept g (.inr (fun e => by cases e))
 have st := sl.grown_setCell w1 w.heap.size D.length u
 have hsz := g.size
 have hlt := (ho.lt w.heap.size rfl).2
 refine ⟨D ++ [(u, L)], by simp, ?_, ?_, ?_, ?_⟩
 ·have e : (D ++ [(u, L)]).map (fun p : Value × List Int => p.1) ++ List.replicate (n - (D ++ [(u, L)]).length) (Value.slice none 0 0) = (D.map (fun p : Value × List Int => p.1) ++ List.replicate (n - D.length) (Value.slice none 0 0)).set D.length u := by
   have e1 : n - D.length = (n - (D.length + 1)) + 1 := by omega
   rw [e1, List.replicate_succ, List.set_append_right _ _ (by rw [List.length_map]; exact Nat.le_refl _)]
   simp
  rw [e]
  exact (ho1.stored D.length u).1
 ·intro p hp'
  rw [List.mem_append, List.mem_singleton] at hp'
  have sz : (w1.setCell ⟨w.heap.size, D.length, none⟩ u).heap.size = w1.heap.size := by simp [World.setCell]
  rw [sz]
  rcases hp' with hp' | rfl
  ·have k := (hi p hp').kept g
   refine ⟨k.1.kept st ?_, fun k' e => Nat.lt_of_lt_of_le ((hi p hp').2 k' e) hsz⟩
   have := own_ne' ho1 k.1
   exact this
  ·refine ⟨(own_mono hu (by omega)).kept st ?_, fun k e => (hu.lt k e).2⟩
   cases e : u.ownBlock with
   | none => exact .inl rfl
   | some k => exact .inr (fun e' => by cases e'; have := (hu.lt _ e).1; omega)
 ·rw [List.pairwise_append]
  refine ⟨hp, List.pairwise_singleton _ _, fun a ha b hb => ?_⟩
  rw [List.mem_singleton] at hb
  subst hb
  intro k e e'
  have h1 := (hi a ha).2 k e
  have h2 := (hu.lt k e').1
  omega
 ·exact ⟨st.os.trans (g.os.trans hg.os), st.tape.trans (g.tape.trans hg.tape), st.output.trans (g.output.trans hg.output), Nat.le_trans hg.size (Nat.le_trans hsz st.size), fun k hk _ => by
   rw [st.block k (by have := hg.size; omega) (by intro e; cases e; omega), g.block k (by have := hg.size; omega) (fun e => by cases e), hg.block k hk (fun e => by cases e)]⟩
theorem Mid.done {w wr : World} {n : Nat} {LL : List (List Int)} (h : Mid w wr n LL) (hn : LL.length = n) : OwnS w.heap.size wr.heap.size wr (.slice (some ⟨w.heap.size, 0, none⟩) n n) LL ∧ w.grownBy wr none := by
 obtain ⟨D, rfl, ho, hi, hp, hg⟩ := h
 rw [List.length_map] at hn
 subst hn
 refine ⟨⟨D, rfl, by simpa using ho, fun k e => ?_, hi, hp⟩, hg⟩
 exact (ho.lt k e).2
theorem take_snoc (LL : List (List Int)) (k : Nat) (h : k < LL.length) : LL.take (k + 1) = LL.take k ++ [LL.getD k []] := by
 rw [List.take_succ_eq_append_getElem h]
 simp [h]
set_option maxHeartbeats 400000 in
theorem toIntSS (v : Value) (LL : List (List Int)) (w : World) (hn : LL.length ≤ 1048576) (hin : ∀ i, (LL.getD i []).length ≤ 1048576) (hv : Sls w v LL) :
  Calls Tryz.prog 51 #[v] w fun e w' => ∃ u, e = .returned u ∧ OwnS w.heap.size w'.heap.size w' u LL ∧ w.grownBy w' none := by
 obtain ⟨a, cap, rfl, ha⟩ := hv
 obtain ⟨i0, hi, hz0, hz1, hz2⟩ := info_parts infoSl
 have HA := hide ha
 clear ha
 go_enter Tryz.func51, Tryz.ntmps51
 go_wp2_with (first | (at_make; refine wpList_make_full _ rfl _ _ 24 rfl w.heap.size 34 i0 (.slice none 0 0) 1 Tryz.underlying24 hi hz0 hz1 _ _ _ _ LL.length rfl rfl (by rfl) (by rfl) ?b1 ?b2 ?b3 ?_) | go_in)
 case b1 => rw [hz2]; omega
 case b2 => unfold maxLen; omega
 case b3 => exact Nat.le_refl _
 intro w1 hown hgrow
 have O := hide (Mid.start hown hgrow)
 clear hown hgrow
 go_wp2
 go_loopw [4] (fun i wr => ∃ k : Nat, k ≤ LL.length ∧ i = .int .i64 k ∧ Hid (Mid w wr LL.length (LL.take k))) (fun i _ => LL.length - (intOf i).toNat)
 case atStart => exact ⟨0, Nat.zero_le _, rfl, O⟩
 case round =>
  obtain ⟨k, hk, rfl, hmid⟩ := hrel
  by_cases hlt : k < LL.length
  ·rcases unhide HA with h | ⟨b, off, rfl, hb, hcb⟩
   ·rw [h] at hlt
    simp at hlt
   ·obtain ⟨u, hu, hs⟩ := hcb k hlt
    have hg := (unhide hmid).grown
    have c1 : wr.cell? ⟨b, off + k, none⟩ = some u := hg.cell hu (fun e => by cases e)
    have hs' := hs.kept hg (.inl rfl)
    have hL := hin k
    have hts := take_snoc LL k hlt
    have htl : (LL.take k).length = k := by rw [List.length_take]; omega
    generalize LL.getD k [] = L at *
    have CT := hide (sl.toIntS u L wr hL hs')
    have HT := hide hts
    have HL := hide htl
    have hi' : (k : Int) < (LL.length : Int) := by omega
    clear hs hs' hcb hu hg O hts htl HA
    go_wp2_with fail
    refine (unhide CT).mono ?_; rintro e w2 ⟨rfl, o2, g2⟩
    have c2 := (unhide hmid).cell (by rw [unhide HL]; exact hlt) g2
    rw [unhide HL] at c2
    obtain ⟨⟨x, hx⟩, hf⟩ := c2
    have M2 := hide ((unhide hmid).step (by rw [unhide HL]; exact hlt) g2 o2)
    rw [unhide HL, ← unhide HT] at M2
    clear o2 g2 hmid CT
    go_wp2
    go_roundw
    case rel => exact ⟨k + 1, by omega, by go_num, M2⟩
    case measure => simp [intOf]; omega
  ·have hi' : ¬ (k : Int) < (LL.length : Int) := by omega
   have e : LL.take k = LL := List.take_of_length_le (by omega)
   rw [e] at hmid
   have R := hide ((unhide hmid).done rfl)
   clear HA hmid O e
   go_wp2
   go_ret
   exact ⟨_, rfl, unhide R⟩
def tot (LL : List (List Int)) : Nat := LL.length + (LL.map List.length).sum
def used (LL : List (List Int)) (k : Nat) : Nat := LL.length + ((LL.take k).map List.length).sum
theorem used_step (LL : List (List Int)) (k : Nat) (h : k < LL.length) : used LL (k + 1) = used LL k + (LL.getD k []).length := by
 unfold used
 rw [take_snoc LL k h]
 simp [Nat.add_assoc]
theorem used_all (LL : List (List Int)) (k : Nat) (h : ¬ k < LL.length) : used LL k = tot LL := by
 unfold used tot
 rw [List.take_of_length_le (by omega)]
theorem tot_len (LL : List (List Int)) : LL.length ≤ tot LL := Nat.le_add_right _ _
theorem sum_in (l : List (List Int)) (i : Nat) : (l.getD i []).length ≤ (l.map List.length).sum := by
 induction l generalizing i with
 | nil => simp
 | cons x l ih =>
  cases i with
  | zero => simp
  | succ i =>
   have := ih i
   simp at *
   omega
theorem tot_in (LL : List (List Int)) (i : Nat) : (LL.getD i []).length ≤ tot LL := Nat.le_trans (sum_in LL i) (Nat.le_add_left _ _)
theorem szIntS (a : Option Addr) (n cap : Nat) (left : Int) (w : World) (h0 : 0 ≤ left) (h1 : left ≤ 1048576) (hn : n ≤ 9223372036854775807) :
  Calls Tryz.prog 94 #[.slice a n cap, .int .i64 left] w fun e w' => e = .returned (.int .i64 (if left < (n : Int) then -1 else left - n)) ∧ w' = w := by
 by_cases h : left < (n : Int)
 ·rw [if_pos h]
  have h2 : left - (n : Int) < 0 := by omega
  go_enter Tryz.func94, Tryz.ntmps94
  go_wp2
  go_ret
  exact ⟨rfl, rfl⟩
 ·rw [if_neg h]
  have h2 : ¬ left - (n : Int) < 0 := by omega
  go_enter Tryz.func94, Tryz.ntmps94
  go_wp2
  go_ret
  exact ⟨rfl, rfl⟩
theorem szIntSS (v : Value) (LL : List (List Int)) (left : Int) (w : World) (h0 : 0 ≤ left) (h1 : left ≤ 1048576) (hn : LL.length ≤ 9223372036854775807) (hin : ∀ i, (LL.getD i []).length ≤ 9223372036854775807) (hv : Sls w v LL) :
  Calls Tryz.prog 49 #[v, .int .i64 left] w fun e w' => ∃ r : Int, e = .returned (.int .i64 r) ∧ w' = w ∧ (r = -1 ∨ 0 ≤ r ∧ r + (tot LL : Int) = left) := by
 obtain ⟨a, cap, rfl, ha⟩ := hv
 by_cases hl : left < (LL.length : Int)
 ·have h2 : left - (LL.length : Int) < 0 := by omega
  clear ha
  go_enter Tryz.func49, Tryz.ntmps49
  go_wp2
  go_ret
  exact ⟨_, rfl, rfl, .inl rfl⟩
 ·have h2 : ¬ left - (LL.length : Int) < 0 := by omega
  have HA := hide ha
  clear ha
  go_enter Tryz.func49, Tryz.ntmps49
  go_wp2
  go_loop [1, 5] (fun q i => ∃ k : Nat, k ≤ LL.length ∧ i = .int .i64 k ∧ ∃ r : Int, q = .int .i64 r ∧ 0 ≤ r ∧ Hid (r + (used LL k : Int) = left)) (fun _ i => LL.length - (intOf i).toNat)
  case atStart => exact ⟨0, Nat.zero_le _, rfl, _, rfl, by omega, by show _ = _; simp [used]⟩
  case round =>
   obtain ⟨k, hk, rfl, r, rfl, hr, hu⟩ := hrel
   by_cases hlt : k < LL.length
   ·rcases unhide HA with h | ⟨b, off, rfl, hb, hcb⟩
    ·rw [h] at hlt
     simp at hlt
    ·obtain ⟨u, c1, hs⟩ := hcb k hlt
     have us := used_step LL k hlt
     have hl' := hin k
     generalize LL.getD k [] = L at *
     obtain ⟨a', cap', rfl, _⟩ := hs
     have hi' : (k : Int) < (LL.length : Int) := by omega
     have hr1 : r ≤ 1048576 := by have := unhide hu; omega
     have C := szIntS a' L.length cap' r w hr hr1 hl'
     by_cases hq : r < (L.length : Int)
     ·rw [if_pos hq] at C
      have C' := hide C
      clear C hq hcb HA us hu
      go_wp2_with fail
      refine (unhide C').mono ?_; rintro e w' ⟨rfl, rfl⟩
      go_wp2_with fail
      go_ret
      exact ⟨_, rfl, rfl, .inl rfl⟩
     ·rw [if_neg hq] at C
      have C' := hide C
      have hu' : Hid (r - (L.length : Int) + (used LL (k + 1) : Int) = left) := by show _ = _; have := unhide hu; omega
      have hq' : ¬ r - (L.length : Int) < 0 := by omega
      have hq2 : 0 ≤ r - (L.length : Int) := by omega
      clear C hq hcb HA us hu
      go_wp2_with fail
      refine (unhide C').mono ?_; rintro e w' ⟨rfl, rfl⟩
      go_wp2_with fail
      go_round
      case rel => exact ⟨k + 1, by omega, by go_num, _, rfl, hq2, hu'⟩
      case measure => simp [intOf]; omega
   ·have hi' : ¬ (k : Int) < (LL.length : Int) := by omega
    have hu' : Hid (r + (tot LL : Int) = left) := by show _ = _; rw [← used_all LL k hlt]; exact unhide hu
    clear HA hu
    go_wp2
    go_ret
    exact ⟨_, rfl, rfl, .inr ⟨hr, unhide hu'⟩⟩
theorem eqIntSq (v u : Value) (L : List Int) (w : World) (hL : L.length ≤ 1048576) (hv : Sl w v L) (hu : Sl w u L) :
  Calls Tryz.prog 53 #[v, u] w fun e w' => e = .returned (.bool true) ∧ ∃ m, w' = w.drewN m := by
 obtain ⟨a, cap, rfl, ha⟩ := hv
 obtain ⟨c, cap', rfl, hc⟩ := hu
 rcases ha with rfl | ⟨b, off, rfl, hb, hcb⟩
 ·go_enter Tryz.func53, Tryz.ntmps53
  go_wp2
  refine wp_loop_rounds 1 ?_
  rw [rounds_succ]
  go_wp2
  go_ret
  exact ⟨rfl, 0, rfl⟩
 ·rcases hc with rfl | ⟨d, off', rfl, hd, hcd⟩
  ·go_enter Tryz.func53, Tryz.ntmps53
   go_wp2
   refine wp_loop_rounds 1 ?_
   rw [rounds_succ]
   go_wp2
   go_ret
   exact ⟨rfl, 0, rfl⟩
  ·have HB := hide hcb
   have HD := hide hcd
   clear hcb hcd
   go_enter Tryz.func53, Tryz.ntmps53
   go_wp2
   go_loopw [5] (fun i wr => ∃ k : Nat, k ≤ L.length ∧ i = .int .i64 k ∧ ∃ m, Hid (wr = w.drewN m)) (fun i _ => L.length - (intOf i).toNat)
   case atStart => exact ⟨0, Nat.zero_le _, rfl, 0, rfl⟩
   case round =>
    obtain ⟨k, hk, rfl, m, hg⟩ := hrel
    have hg' := unhide hg
    clear hg
    subst hg'
    by_cases hlt : k < L.length
    ·have c1 : w.cell? ⟨b, off + k, none⟩ = some (.int .i64 (L.getD k 0)) := unhide HB k hlt
     have c2 : w.cell? ⟨d, off' + k, none⟩ = some (.int .i64 (L.getD k 0)) := unhide HD k hlt
     have hi : (k : Int) < (L.length : Int) := by omega
     generalize L.getD k 0 = x at *
     go_wp2
     go_quiet (fail)
     go_wp2
     go_roundw
     case rel => exact ⟨k + 1, by omega, by go_num, _, rfl⟩
     case measure => simp [intOf]; omega
    ·have hi : ¬ (k : Int) < (L.length : Int) := by omega
     go_wp2
     go_ret
     exact ⟨rfl, m, rfl⟩
theorem eqIntSS (v u : Value) (LL : List (List Int)) (w : World) (hn : LL.length ≤ 1048576) (hin : ∀ i, (LL.getD i []).length ≤ 1048576) (hv : Sls w v LL) (hu : Sls w u LL) :
  Calls Tryz.prog 54 #[v, u] w fun e w' => e = .returned (.bool true) ∧ w.grownBy w' none := by
 obtain ⟨a, cap, rfl, ha⟩ := hv
 obtain ⟨c, cap', rfl, hc⟩ := hu
 have HA := hide ha
 have HC := hide hc
 clear ha hc
 go_enter Tryz.func54, Tryz.ntmps54
 go_wp2
 go_loopw [5] (fun i wr => ∃ k : Nat, k ≤ LL.length ∧ i = .int .i64 k ∧ w.grownBy wr none) (fun i _ => LL.length - (intOf i).toNat)
 case atStart => exact ⟨0, Nat.zero_le _, rfl, grown_refl _⟩
 case round =>
  obtain ⟨k, hk, rfl, hg⟩ := hrel
  by_cases hlt : k < LL.length
  ·rcases unhide HA with h | ⟨b, off, rfl, hb, hcb⟩
   ·rw [h] at hlt
    simp at hlt
   ·rcases unhide HC with h | ⟨d, off', rfl, hd, hcd⟩
    ·rw [h] at hlt
     simp at hlt
    ·obtain ⟨x, hx, sx⟩ := hcb k hlt
     obtain ⟨y, hy, sy⟩ := hcd k hlt
     have c1 : wr.cell? ⟨b, off + k, none⟩ = some x := hg.cell hx (fun e => by cases e)
     have c2 : wr.cell? ⟨d, off' + k, none⟩ = some y := hg.cell hy (fun e => by cases e)
     have hL := hin k
     generalize LL.getD k [] = L at *
     have C := hide (fun n => eqIntSq x y L (wr.drewN n) hL ((sx.kept hg (.inl rfl)).kept (grown_drewN wr n) (.inl rfl)) ((sy.kept hg (.inl rfl)).kept (grown_drewN wr n) (.inl rfl)))
     have hi : (k : Int) < (LL.length : Int) := by omega
     have G := hide hg
     clear hg hcb hcd HA HC hx hy sx sy
     go_wp2
     go_quiet (first | (go_at_call 53; exact Calls.quiet_of (unhide C _)))
     go_wp2
     go_roundw
     case rel => exact ⟨k + 1, by omega, by go_num, grown_trans (unhide G) (grown_drewN _ _)⟩
     case measure => simp [intOf]; omega
  ·have hi : ¬ (k : Int) < (LL.length : Int) := by omega
   have G := hide hg
   clear hg HA HC
   go_wp2
   go_ret
   exact ⟨rfl, unhide G⟩
def marksS (k : Int) : List (List Int) → List (List Int)
 | [] => []
 | L :: l => marks k L.length :: marksS (k + (L.length : Int)) l
def sumLen (LL : List (List Int)) : Nat := (LL.map List.length).sum
theorem marksS_length (k : Int) (LL : List (List Int)) : (marksS k LL).length = LL.length := by
 induction LL generalizing k with
 | nil => rfl
 | cons L l ih => simp [marksS, ih]
theorem marksS_append (k : Int) (A B : List (List Int)) : marksS k (A ++ B) = marksS k A ++ marksS (k + (sumLen A : Int)) B := by
 induction A generalizing k with
 | nil => simp [marksS, sumLen]
 | cons L l ih =>
  rw [List.cons_append, marksS, marksS, ih, List.cons_append]
  congr 3
  simp only [sumLen, List.map_cons, List.sum_cons]
  omega
theorem marksS_one (k : Int) (L : List Int) : marksS k [L] = [marks k L.length] := rfl
theorem sumLen_snoc (A : List (List Int)) (L : List Int) : sumLen (A ++ [L]) = sumLen A + L.length := by simp [sumLen]
theorem sumLen_take (LL : List (List Int)) (k : Nat) : sumLen (LL.take k) ≤ sumLen LL := by
 have e : sumLen LL = sumLen (LL.take k) + sumLen (LL.drop k) := by
  conv => lhs; rw [← List.take_append_drop k LL]
  unfold sumLen
  rw [List.map_append, List.sum_append]
 omega
theorem sumLen_le (LL : List (List Int)) : sumLen LL ≤ tot LL := Nat.le_add_left _ _
def MarkMid (lo hi : Nat) (w wr : World) (v : Value) (k : Int) (LL : List (List Int)) (j : Nat) : Prop :=
 ∃ D E : List (Value × List Int), D.length = j ∧ (D ++ E).map (·.2) = marksS k (LL.take j) ++ LL.drop j ∧ wr.ownsRow lo 34 1 v (D ++ E).length ((D ++ E).map (·.1)) ∧ (∀ p ∈ D ++ E, Own lo hi wr p.1 p.2) ∧ (D ++ E).Pairwise Apart ∧ Outs lo hi w wr
theorem MarkMid.start {lo hi : Nat} {w : World} {v : Value} {LL : List (List Int)} (k : Int) (h : OwnS lo hi w v LL) : MarkMid lo hi w w v k LL 0 := by
 obtain ⟨D, e, ho, hb, hi, hp⟩ := h
 exact ⟨[], D, rfl, by simpa [marksS] using e, by simpa using ho, by simpa using hi, by simpa using hp, outs_refl _ _ _⟩
theorem MarkMid.done {lo hi : Nat} {w wr : World} {v : Value} {LL : List (List Int)} {k : Int} {j : Nat} (h : MarkMid lo hi w wr v k LL j) (hb : ∀ k, v.ownBlock = some k → k < hi) (hj : LL.length ≤ j) : OwnS lo hi wr v (marksS k LL) ∧ Outs lo hi w wr := by
 obtain ⟨D, E, hl, he, ho, hi, hp, g⟩ := h
 rw [List.take_of_length_le hj, List.drop_eq_nil_of_le hj, List.append_nil] at he
 exact ⟨⟨D ++ E, he, ho, hb, hi, hp⟩, g⟩
theorem MarkMid.next {lo hi : Nat} {w wr : World} {v : Value} {LL : List (List Int)} {k : Int} {j : Nat} (h : MarkMid lo hi w wr v k LL j) (hj : j < LL.length) :
  ∃ g cap u, v = .slice (some ⟨g, 0, none⟩) LL.length cap ∧ wr.cell? ⟨g, j, none⟩ = some u ∧ wr.ownsRow lo 3 1 u (LL.getD j []).length (ints (LL.getD j [])) ∧
   ∀ w1, w1.ownsRow lo 3 1 u (LL.getD j []).length (ints (marks (k + (sumLen (LL.take j) : Int)) (LL.getD j []).length)) → wr.grownBy w1 u.ownBlock → MarkMid lo hi w w1 v k LL (j + 1) := by
 obtain ⟨D, E, hl, he, ho, hin, hp, g⟩ := h
 have ln : (D ++ E).length = LL.length := by
  have := congrArg List.length he
  rw [List.length_map, List.length_append, List.length_append, marksS_length, List.length_take, List.length_drop] at this
  rw [List.length_append, this]
  omega
 have eE : E.map (·.2) = LL.drop j := by
  have := congrArg (List.drop j) he
  rw [List.map_append, List.drop_append_of_le_length (by simp [hl]), List.drop_append_of_le_length (by rw [marksS_length, List.length_take]; omega)] at this
  rw [List.drop_eq_nil_of_le (by simp [hl]), List.drop_eq_nil_of_le (by rw [marksS_length, List.length_take]; omega)] at this
  simpa using this
 have eD : D.map (·.2) = marksS k (LL.take j) := by
  have := congrArg (List.take j) he
  rw [List.map_append, List.take_append_of_le_length (by simp [hl]), List.take_append_of_le_length (by rw [marksS_length, List.length_take]; omega)] at this
  rw [List.take_of_length_le (by simp [hl]), List.take_of_length_le (by rw [marksS_length, List.length_take]; omega)] at this
  exact this
 rw [List.drop_eq_getElem_cons hj] at eE
 have gd : LL.getD j [] = LL[j] := by simp [hj]
 rw [gd]
 match E, eE with
 | (u, L) :: E', eE =>
  rw [List.map_cons, List.cons.injEq] at eE
  obtain ⟨eL, eE'⟩ := eE
  simp only at eL
  subst eL
  have hu : Own lo hi wr u LL[j] := hin (u, LL[j]) (by simp)
  rw [ln] at ho
  obtain ⟨hx, hf⟩ := ho
  rcases hf with ⟨rfl, h0⟩ | ⟨g', cap, cur, rfl, r⟩
  ·omega
  ·have ho' : wr.ownsRow lo 34 1 (.slice (some ⟨g', 0, none⟩) LL.length cap) LL.length ((D ++ (u, LL[j]) :: E').map (·.1)) := ⟨hx, .inr ⟨g', cap, cur, rfl, r⟩⟩
   refine ⟨g', cap, u, rfl, ?_, hu.1, fun w1 h1 g1 => ?_⟩
   ·rw [ho'.cellAt j (by omega)]
    simp [hl]
   ·have hu' : Own lo hi w1 u (marks (k + (sumLen (LL.take j) : Int)) LL[j].length) := ⟨by rw [sl.marks_length]; exact h1, hu.2⟩
    rw [List.pairwise_append, List.pairwise_cons] at hp
    obtain ⟨pD, ⟨pu, pE⟩, pc⟩ := hp
    have kp : ∀ p : Value × List Int, (p ∈ D ∨ p ∈ E') → p.1.ownBlock = none ∨ p.1.ownBlock ≠ u.ownBlock := by
     intro p hp
     cases e : p.1.ownBlock with
     | none => exact .inl rfl
     | some q =>
      refine .inr (fun e' => ?_)
      rcases hp with hp | hp
      ·exact pc p hp (u, LL[j]) (by simp) q e e'.symm
      ·exact pu p hp q e'.symm e
    refine ⟨D ++ [(u, marks (k + (sumLen (LL.take j) : Int)) LL[j].length)], E', by simp [hl], ?_, ?_, ?_, ?_, ?_⟩
    ·rw [List.append_assoc, List.map_append, eD, take_snoc LL j hj, gd, marksS_append, marksS_one]
     simp [eE']
    ·have : ((D ++ [(u, marks (k + (sumLen (LL.take j) : Int)) LL[j].length)]) ++ E').length = LL.length := by rw [← ln]; simp
     rw [this]
     have e2 : ((D ++ [(u, marks (k + (sumLen (LL.take j) : Int)) LL[j].length)]) ++ E').map (fun p : Value × List Int => p.1) = (D ++ (u, LL[j]) :: E').map (fun p : Value × List Int => p.1) := by simp
     rw [e2]
     refine ho'.kept g1 (.inr ?_)
     have := own_ne ho' hu.1
     intro e
     exact this g' e.symm rfl
    ·intro p hp'
     rw [List.append_assoc, List.mem_append, List.singleton_append, List.mem_cons] at hp'
     rcases hp' with hp' | rfl | hp'
     ·have := hin p (by simp [hp'])
      exact ⟨this.1.kept g1 (kp p (.inl hp')), this.2⟩
     ·exact hu'
     ·have := hin p (by simp [hp'])
      exact ⟨this.1.kept g1 (kp p (.inr hp')), this.2⟩
    ·rw [List.append_assoc, List.pairwise_append, List.singleton_append, List.pairwise_cons]
     refine ⟨pD, ⟨fun p hp => pu p hp, pE⟩, fun a ha b hb => ?_⟩
     rw [List.mem_cons] at hb
     rcases hb with rfl | hb
     ·exact pc a ha (u, LL[j]) (by simp)
     ·exact pc a ha b (by simp [hb])
    ·exact outs_trans g (outs_by g1 (fun q e => ⟨(hu.1.lt q e).1, hu.2 q e⟩))
theorem OwnS.hi {lo hi : Nat} {w : World} {v : Value} {LL : List (List Int)} (h : OwnS lo hi w v LL) : ∀ k, v.ownBlock = some k → k < hi := by
 obtain ⟨D, e, ho, hb, hi, hp⟩ := h
 exact hb
theorem markIntSS (v : Value) (LL : List (List Int)) (k : Int) (lo hi : Nat) (w : World) (hn : tot LL ≤ 1048576) (k0 : 0 ≤ k) (k1 : k ≤ 1073741824) (ho : OwnS lo hi w v LL) :
  Calls Tryz.prog 56 #[v, .int .i64 k] w fun e w' => e = .returned (.int .i64 (k + (sumLen LL : Int))) ∧ OwnS lo hi w' v (marksS k LL) ∧ Outs lo hi w w' := by
 obtain ⟨a, cap, rfl⟩ := ho.len
 have hnl := Nat.le_trans (tot_len LL) hn
 have st := hide (MarkMid.start k ho)
 have hb := hide ho.hi
 clear ho
 go_enter Tryz.func56, Tryz.ntmps56
 go_wp2
 go_loopw [1, 5] (fun q i wr => ∃ j : Nat, j ≤ LL.length ∧ i = .int .i64 j ∧ q = .int .i64 (k + (sumLen (LL.take j) : Int)) ∧ Hid (MarkMid lo hi w wr (.slice a LL.length cap) k LL j)) (fun _ i _ => LL.length - (intOf i).toNat)
 case atStart => exact ⟨0, Nat.zero_le _, rfl, by simp [sumLen], st⟩
 case round =>
  obtain ⟨j, hj, rfl, rfl, hm⟩ := hrel
  clear st
  by_cases hlt : j < LL.length
  ·obtain ⟨g, cap', u, e, c1, hu, go⟩ := (unhide hm).next hlt
   simp only [Value.slice.injEq] at e
   obtain ⟨rfl, _, rfl⟩ := e
   have hL := Nat.le_trans (tot_in LL j) hn
   have sn := sumLen_snoc (LL.take j) (LL.getD j [])
   rw [← take_snoc LL j hlt] at sn
   have sb := Nat.le_trans (sumLen_take LL j) (Nat.le_trans (sumLen_le LL) hn)
   have hi' : (j : Int) < (LL.length : Int) := by have := hlt; omega
   generalize LL.getD j [] = L at *
   generalize sumLen (LL.take j) = s at *
   have C := hide (sl.markIntS u L (k + (s : Int)) lo wr hL (by omega) (by omega) hu)
   have GO := hide go
   have SL := hide sn
   clear hu go sn hm
   go_wp2_with fail
   refine (unhide C).mono ?_; rintro e w1 ⟨rfl, o1, g1⟩
   have M := hide (unhide GO w1 o1 g1)
   clear o1 g1 GO C
   go_wp2_with fail
   go_roundw
   case rel => exact ⟨j + 1, by omega, by go_num, by rw [unhide SL]; go_num, M⟩
   case measure => simp [intOf]; omega
  ·have hi' : ¬ (j : Int) < (LL.length : Int) := by omega
   have R := hide ((unhide hm).done (unhide hb) (by omega))
   have e : Hid (LL.take j = LL) := by show _ = _; exact List.take_of_length_le (by omega)
   clear hm
   go_wp2
   go_ret
   exact ⟨ret_int (by rw [unhide e]), unhide R⟩
end Go.Proofs.YtnlllcgcaddhmaaGreatDoor.css
namespace Go.Proofs.YtnlllcgcaddhmaaGreatDoor.cf
open Go.ChangeShapes Go.WideShapes Go.ChangeAt Go.RowKit
open sl (Sl Own ints marks hide unhide ret_int ret_bool grown_refl grown_trans grown_drewN below_of of_below)
open css (Sls OwnS Outs tot sumLen marksS)
set_option linter.unusedVariables false
def Box (t : TypeId) (w : World) (c : Nat) (x y : Value) : Prop := w.heap[c]? = some (.cells #[x, y] t (0, 0))
theorem Box.c0 {t : TypeId} {w : World} {c : Nat} {x y : Value} (h : Box t w c x y) : w.cell? ⟨c, 0, none⟩ = some x := by
 unfold Box at h
 simp [World.cell?, h]
theorem Box.c1 {t : TypeId} {w : World} {c : Nat} {x y : Value} (h : Box t w c x y) : w.cell? ⟨c, 1, none⟩ = some y := by
 unfold Box at h
 simp [World.cell?, h]
theorem Box.f {t : TypeId} {w : World} {c : Nat} {x y : Value} (h : Box t w c x y) (i : Nat) : w.frozen? ⟨c, i, none⟩ = false := by
 unfold Box at h
 simp [World.frozen?, h]
theorem Box.lt {t : TypeId} {w : World} {c : Nat} {x y : Value} (h : Box t w c x y) : c < w.heap.size := (Array.getElem?_eq_some_iff.1 h).1
theorem Box.by {t : TypeId} {w w' : World} {c : Nat} {x y : Value} {r : Option Nat} (h : Box t w c x y) (g : w.grownBy w' r) (hr : r ≠ some c) : Box t w' c x y := by
 unfold Box
 rw [g.block c h.lt (fun e => hr e.symm)]
 exact h
theorem Box.kept {t : TypeId} {w w' : World} {c : Nat} {x y : Value} (h : Box t w c x y) (g : w.grownBy w' none) : Box t w' c x y := h.by g (fun e => by cases e)
theorem Box.new (t : TypeId) (w : World) (x y : Value) : Box t (w.alloc (.cells #[x, y] t)) w.heap.size x y := by
 show (w.heap.push _)[w.heap.size]? = _
 simp
theorem Box.set1 {t : TypeId} {w : World} {c : Nat} {x y : Value} (h : Box t w c x y) (u : Value) : Box t (w.setCell ⟨c, 1, none⟩ u) c x u := by
 unfold Box at *
 simp [World.setCell, Array.getElem?_modify, h]
theorem Box.set0 {t : TypeId} {w : World} {c : Nat} {x y : Value} (h : Box t w c x y) (u : Value) : Box t (w.setCell ⟨c, 0, none⟩ u) c u y := by
 unfold Box at *
 simp [World.setCell, Array.getElem?_modify, h]
theorem sizeCnf : (Tryz.prog.info? 26).map (·.size) = some 2 := by kernel_rfl
theorem ret_box {fn : Func} {p : Tmp} {tmps : Array Value} {w : World} {c : Nat} {x y : Value} (h : fn.results = #[.cell p 26]) (hp : tmps.getD p undef = .pointer (some ⟨c, 0, none⟩)) (hb : Box 26 w c x y) :
  (results fn tmps).run Tryz.prog w = .ok (.agg #[x, y]) w :=
 results_cell_row h tmps w c 26 #[x, y] (0, 0) _ hp hb Tryz.underlying26 rfl sizeCnf
theorem ret_box2 {fn : Func} {p u : Tmp} {tmps : Array Value} {w : World} {c : Nat} {x y : Value} (h : fn.results = #[.cell p 26, .tmp u]) (hp : tmps.getD p undef = .pointer (some ⟨c, 0, none⟩)) (hb : Box 26 w c x y) :
  (results fn tmps).run Tryz.prog w = .ok (.tuple #[.agg #[x, y], tmps.getD u undef]) w := by
 rw [results_cell_tmp h, hp]
 simp only [asAddr, Sem.run_pure, Result.andThen_ok]
 rw [run_loadVar_row w c 26 26 #[x, y] (0, 0) _ hb Tryz.underlying26 rfl sizeCnf]
 rfl
theorem size_set (w : World) (a : Addr) (u : Value) : (w.setCell a u).heap.size = w.heap.size := by simp [World.setCell]
theorem grown_set {w w1 : World} {c i : Nat} {u : Value} (g : w.grownBy w1 none) (h : w.heap.size ≤ c) : w.grownBy (w1.setCell ⟨c, i, none⟩ u) none :=
 ⟨g.os, g.tape, g.output, by rw [size_set]; exact g.size, fun k hk _ => (Below.heap_setCell _ _ _ _ (by show k ≠ c; omega)).trans (g.block k hk (fun e => by cases e))⟩
theorem ownS_set {lo hi : Nat} {w : World} {v : Value} {LL : List (List Int)} {c i : Nat} {u : Value} (h : OwnS lo hi w v LL) (hc : c < lo ∨ hi ≤ c) : OwnS lo hi (w.setCell ⟨c, i, none⟩ u) v LL :=
 h.outs (css.outs_by (lo := c) (hi := c + 1) (sl.grown_setCell w c i u) (fun k e => by cases e; omega)) (by omega)
theorem Box.setO {t : TypeId} {w : World} {c d i : Nat} {x y u : Value} (h : Box t w c x y) (hd : d ≠ c) : Box t (w.setCell ⟨d, i, none⟩ u) c x y :=
 h.by (sl.grown_setCell w d i u) (fun e => hd (by cases e; rfl))
theorem grown_drew (w : World) (r : Option Nat) : w.grownBy w.drew r := ⟨rfl, rfl, rfl, Nat.le_refl _, fun _ _ _ => rfl⟩
theorem szCnf (v : Value) (n : Int) (LL : List (List Int)) (left : Int) (w : World) (h0 : 0 ≤ left) (h1 : left ≤ 1048576) (hn : LL.length ≤ 9223372036854775807) (hin : ∀ i, (LL.getD i []).length ≤ 9223372036854775807) (hv : Sls w v LL) :
  Calls Tryz.prog 17 #[.agg #[.int .i64 n, v], .int .i64 left] w fun e w' => ∃ r : Int, e = .returned (.int .i64 r) ∧ w.grownBy w' none ∧ (r = -1 ∨ 0 ≤ r ∧ r + (tot LL : Int) = left) := by
 have G := hide (World.grownBy_alloc w (.cells #[.int .i64 n, v] 48) none)
 have C := hide (css.szIntSS v LL left _ h0 h1 hn hin (hv.kept (World.grownBy_alloc w (.cells #[.int .i64 n, v] 48) none)))
 clear hv
 go_enter Tryz.func17, Tryz.ntmps17
 go_wp2_with fail
 refine (unhide C).mono ?_; rintro e w' ⟨r, rfl, rfl, hr⟩
 rcases hr with rfl | ⟨hr0, hr1⟩
 ·go_wp2_with fail
  go_ret
  exact ⟨_, rfl, unhide G, .inl rfl⟩
 ·have hq : ¬ r < 0 := by omega
  go_wp2_with fail
  go_ret
  exact ⟨_, rfl, unhide G, .inr ⟨hr0, hr1⟩⟩
set_option maxHeartbeats 400000 in
theorem toCnf (v : Value) (n : Int) (LL : List (List Int)) (w : World) (hn : tot LL ≤ 1048576) (hv : Sls w v LL) :
  Calls Tryz.prog 19 #[.agg #[.int .i64 n, v]] w fun e w' => ∃ u, e = .returned (.agg #[.int .i64 n, u]) ∧ OwnS w.heap.size w'.heap.size w' u LL ∧ w.grownBy w' none := by
 have h1 := Nat.le_trans (css.tot_len LL) hn
 have h2 := fun i => Nat.le_trans (css.tot_in LL i) hn
 have C := hide (fun w1 (g : w.grownBy w1 none) => css.toIntSS v LL w1 h1 h2 (hv.kept g))
 clear hv h1 h2
 go_enter Tryz.func19, Tryz.ntmps19
 go_wp2_with fail
 have g0 : w.grownBy (((w.alloc (.cells #[.int .i64 n, v] 48)).alloc (.cells #[.int .i64 0, .slice none 0 0] 26)).alloc (.cells #[.int .i64 n, .slice none 0 0] 26)) none :=
  grown_trans (grown_trans (World.grownBy_alloc _ _ _) (World.grownBy_alloc _ _ _)) (World.grownBy_alloc _ _ _)
 have b2 := (Box.new 26 (w.alloc (.cells #[.int .i64 n, v] 48)) (.int .i64 0) (.slice none 0 0)).kept (World.grownBy_alloc _ (.cells #[.int .i64 n, .slice none 0 0] 26) none)
 have b3 := Box.new 26 ((w.alloc (.cells #[.int .i64 n, v] 48)).alloc (.cells #[.int .i64 0, .slice none 0 0] 26)) (.int .i64 n) (.slice none 0 0)
 refine (unhide C _ g0).mono ?_; rintro e w1 ⟨u, rfl, o1, g1⟩
 obtain ⟨ua, uc, rfl⟩ := o1.len
 have b2' := b2.kept g1
 have b3' := b3.kept g1
 have R := hide (And.intro o1 (grown_trans (r := none) g0 g1))
 have B2 := hide b2'
 have x0 := b2'.c0
 have x1 := b2'.c1
 have x2 := b2'.f 0
 have x3 := b2'.f 1
 have y0 := b3'.c0
 have y1 := b3'.c1
 have y2 := b3'.f 0
 have y3 := b3'.f 1
 clear b2 b3 b2' b3' g0 g1 o1 C
 simp only [World.size_alloc] at x0 x1 x2 x3 y0 y1 y2 y3
 go_wp2_with fail
 obtain ⟨o1, g1⟩ := unhide R
 have b := ((unhide B2).setO (d := w.heap.size + 1 + 1) (i := 1) (u := .slice ua LL.length uc) (by simp)).set0 (.int .i64 n) |>.set1 (.slice ua LL.length uc)
 simp only [World.size_alloc] at b o1
 (try simp only [Exit.inBlock, Exit.then])
 refine bodyPost_ret (ret_box rfl rfl b) rfl ⟨_, rfl, ?_, ?_⟩
 ·rw [size_set, size_set, size_set]
  exact (ownS_set (ownS_set (ownS_set o1 (by omega)) (by omega)) (by omega)).sub (by omega) (Nat.le_refl _)
 ·exact grown_set (grown_set (grown_set g1 (by omega)) (by omega)) (by omega)
theorem eqCnf (v u : Value) (n : Int) (LL : List (List Int)) (w : World) (hn : tot LL ≤ 1048576) (hv : Sls w v LL) (hu : Sls w u LL) :
  Calls Tryz.prog 22 #[.agg #[.int .i64 n, v], .agg #[.int .i64 n, u]] w fun e w' => e = .returned (.bool true) ∧ w.grownBy w' none := by
 have h1 := Nat.le_trans (css.tot_len LL) hn
 have h2 := fun i => Nat.le_trans (css.tot_in LL i) hn
 have g0 : w.grownBy ((w.alloc (.cells #[.int .i64 n, v] 26)).alloc (.cells #[.int .i64 n, u] 26)) none := grown_trans (World.grownBy_alloc _ _ _) (World.grownBy_alloc _ _ _)
 have C := hide (css.eqIntSS v u LL _ h1 h2 (hv.kept g0) (hu.kept g0))
 have G := hide g0
 clear hv hu h1 h2 g0
 go_enter Tryz.func22, Tryz.ntmps22
 go_wp2_with fail
 refine (unhide C).mono ?_; rintro e w1 ⟨rfl, g1⟩
 have R := hide (grown_trans (r := none) (unhide G) g1)
 clear g1 G C
 go_wp2_with fail
 go_ret
 exact ⟨rfl, unhide R⟩
theorem markCnf (v : Value) (n : Int) (LL : List (List Int)) (k : Int) (lo hi : Nat) (w : World) (hn : tot LL ≤ 1048576) (k0 : 0 ≤ k) (k1 : k ≤ 1073741824) (ho : OwnS lo hi w v LL) :
  Calls Tryz.prog 24 #[.agg #[.int .i64 n, v], .int .i64 k] w fun e w' => e = .returned (.int .i64 (k + (sumLen LL : Int))) ∧ OwnS lo hi w' v (marksS k LL) ∧ Outs lo hi w w' := by
 have C := hide (css.markIntSS v LL k lo hi _ hn k0 k1 (ho.kept (World.grownBy_alloc w (.cells #[.int .i64 n, v] 26) none)))
 have G := hide (css.outs_none (lo := lo) (hi := hi) (World.grownBy_alloc w (.cells #[.int .i64 n, v] 26) none))
 clear ho
 go_enter Tryz.func24, Tryz.ntmps24
 go_wp2_with fail
 refine (unhide C).mono ?_; rintro e w1 ⟨rfl, o1, g1⟩
 have R := hide (And.intro o1 (css.outs_trans (unhide G) g1))
 clear o1 g1 G C
 go_wp2_with fail
 go_ret
 exact ⟨rfl, unhide R⟩
end Go.Proofs.YtnlllcgcaddhmaaGreatDoor.cf
namespace Go.Proofs.YtnlllcgcaddhmaaGreatDoor.ok
open Go.ChangeShapes Go.WideShapes Go.ChangeAt Go.RowKit
open lits (okB varI)
open sl (Sl Own ints marks hide unhide ret_int ret_bool grown_refl grown_trans grown_drewN below_of of_below)
open css (Sls OwnS Outs tot sumLen marksS)
open cf (Box)
set_option linter.unusedVariables false
def litIn (n x : Int) : Bool := okB x && decide (varI x ≤ n)
def clB (n : Int) (L : List Int) : Bool := L.all (litIn n) && decide (L.length ≤ 48)
def cnfB (n : Int) (LL : List (List Int)) : Bool := decide (0 ≤ n ∧ n ≤ 24) && decide (LL.length ≤ 120) && LL.all (clB n)
theorem all_hit {α : Type} (f : α → Bool) (L : List α) (k : Nat) (d : α) (h : k < L.length) (hx : f (L.getD k d) = false) : L.all f = false := by
 rw [List.all_eq_false]
 refine ⟨L[k], List.getElem_mem h, ?_⟩
 rw [show L.getD k d = L[k] by simp [h]] at hx
 simp [hx]
theorem all_step {α : Type} (f : α → Bool) (L : List α) (k : Nat) (d : α) (h : k < L.length) (ha : (L.take k).all f = true) (hx : f (L.getD k d) = true) : (L.take (k + 1)).all f = true := by
 rw [List.take_succ_eq_append_getElem h, List.all_append, ha]
 rw [show L.getD k d = L[k] by simp [h]] at hx
 simp [hx]
theorem all_end {α : Type} (f : α → Bool) (L : List α) (k : Nat) (h : ¬ k < L.length) (ha : (L.take k).all f = true) : L.all f = true := by
 rw [List.take_of_length_le (by omega)] at ha
 exact ha
theorem clB_hit {n : Int} {L : List Int} (h : L.all (litIn n) = false) : clB n L = false := by unfold clB; rw [h]; rfl
theorem clB_end {n : Int} {L : List Int} (h : L.all (litIn n) = true) : clB n L = decide (L.length ≤ 48) := by unfold clB; rw [h]; rfl
theorem dec_len (n : Nat) (c : Nat) : decide ((n : Int) ≤ (c : Int)) = decide (n ≤ c) := by simp
theorem l01In (x a b : Int) (w : World) : Calls Tryz.prog 88 #[.int .i64 x, .int .i64 a, .int .i64 b] w fun e w' => e = .returned (.bool (decide (a ≤ x ∧ x ≤ b))) ∧ w' = w := by
 by_cases h1 : a ≤ x
 ·by_cases h2 : x ≤ b
  ·rw [decide_eq_true ⟨h1, h2⟩]
   go_enter Tryz.func88, Tryz.ntmps88
   go_wp2
   go_ret
   exact ⟨rfl, rfl⟩
  ·rw [decide_eq_false (fun h => h2 h.2)]
   go_enter Tryz.func88, Tryz.ntmps88
   go_wp2
   go_ret
   exact ⟨rfl, rfl⟩
 ·rw [decide_eq_false (fun h => h1 h.1)]
  go_enter Tryz.func88, Tryz.ntmps88
  go_wp2
  go_ret
  exact ⟨rfl, rfl⟩
theorem specClause (v : Value) (L : List Int) (n : Int) (w : World) (hL : L.length ≤ 1048576) (hv : Sl w v L) :
  Calls Tryz.prog 133 #[v, .int .i64 n] w fun e w' => e = .returned (.bool (clB n L)) ∧ w' = w := by
 obtain ⟨a, cap, rfl, ha⟩ := hv
 have HA := hide ha
 clear ha
 go_enter Tryz.func133, Tryz.ntmps133
 go_wp2
 go_loop [5] (fun i => ∃ k : Nat, k ≤ L.length ∧ i = .int .i64 k ∧ Hid ((L.take k).all (litIn n) = true)) (fun i => L.length - (intOf i).toNat)
 case atStart => exact ⟨0, Nat.zero_le _, rfl, by show _ = _; simp⟩
 case round =>
  obtain ⟨k, hk, rfl, hall⟩ := hrel
  by_cases hlt : k < L.length
  ·rcases unhide HA with h | ⟨b, off, rfl, hb, hcb⟩
   ·rw [h] at hlt
    simp at hlt
   ·have c1 := hcb k hlt
    have hi' : (k : Int) < (L.length : Int) := by omega
    have h1 := all_hit (litIn n) L k 0 hlt
    have h2 := all_step (litIn n) L k 0 hlt (unhide hall)
    generalize L.getD k 0 = x at *
    have cx := lits.specLitOk x
    have cv := lits.specLitVar x
    cases hx : okB x
    ·rw [hx] at cx
     have CX := hide cx
     have H := hide (clB_hit (h1 (by unfold litIn; rw [hx]; rfl)))
     clear cx cv h1 h2 hx hcb HA hall
     go_wp2_with (go_at_call 175; refine (unhide CX _).mono ?_; rintro e w' ⟨rfl, rfl⟩)
     go_ret
     exact ⟨ret_bool (unhide H).symm, rfl⟩
    ·rw [hx] at cx
     have CX := hide cx
     have CV := hide cv
     by_cases hq : varI x ≤ n
     ·have H := hide (h2 (by unfold litIn; rw [hx, decide_eq_true hq]; rfl))
      clear cx cv h1 h2 hx hcb HA hall
      generalize varI x = y at *
      have hq' : ¬ n < y := by omega
      go_wp2_with (first | (go_at_call 175; refine (unhide CX _).mono ?_; rintro e w' ⟨rfl, rfl⟩) | (go_at_call 176; refine (unhide CV _).mono ?_; rintro e w' ⟨rfl, rfl⟩))
      go_round
      case rel => exact ⟨k + 1, by omega, by go_num, H⟩
      case measure => simp [intOf]; omega
     ·have H := hide (clB_hit (h1 (by unfold litIn; rw [decide_eq_false hq, Bool.and_false])))
      clear cx cv h1 h2 hx hcb HA hall
      generalize varI x = y at *
      have hq' : n < y := by omega
      go_wp2_with (first | (go_at_call 175; refine (unhide CX _).mono ?_; rintro e w' ⟨rfl, rfl⟩) | (go_at_call 176; refine (unhide CV _).mono ?_; rintro e w' ⟨rfl, rfl⟩))
      go_ret
      exact ⟨ret_bool (unhide H).symm, rfl⟩
  ·have hi' : ¬ (k : Int) < (L.length : Int) := by omega
   have HR := hide (clB_end (all_end (litIn n) L k hlt (unhide hall)))
   clear HA hall
   go_wp2
   go_ret
   exact ⟨ret_bool (by rw [unhide HR]; exact dec_len _ 48), rfl⟩
theorem literalOf (x n : Int) (w : World) : Calls Tryz.prog 164 #[.int .i64 x, .int .i64 n] w fun e w' => e = .returned (.bool (litIn n x)) ∧ w' = w := by
 have cx := lits.implLitOk x
 have cv := lits.implLitVar x
 unfold litIn
 cases hx : okB x
 ·rw [hx] at cx
  have CX := hide cx
  clear cx cv hx
  go_enter Tryz.func164, Tryz.ntmps164
  go_wp2_with (go_at_call 188; refine (unhide CX _).mono ?_; rintro e w' ⟨rfl, rfl⟩)
  go_ret
  exact ⟨rfl, rfl⟩
 ·rw [hx] at cx
  have CX := hide cx
  have CV := hide cv
  clear cx cv hx
  generalize varI x = y at *
  go_enter Tryz.func164, Tryz.ntmps164
  go_wp2_with (first | (go_at_call 188; refine (unhide CX _).mono ?_; rintro e w' ⟨rfl, rfl⟩) | (go_at_call 192; refine (unhide CV _).mono ?_; rintro e w' ⟨rfl, rfl⟩))
  go_ret
  exact ⟨rfl, rfl⟩
theorem literalsOf (v : Value) (L : List Int) (n : Int) (w : World) (hL : L.length ≤ 1048576) (hv : Sl w v L) :
  Calls Tryz.prog 124 #[v, .int .i64 n] w fun e w' => e = .returned (.bool (L.all (litIn n))) ∧ w' = w := by
 obtain ⟨a, cap, rfl, ha⟩ := hv
 have HA := hide ha
 clear ha
 go_enter Tryz.func124, Tryz.ntmps124
 go_wp2
 go_loop [9] (fun i => ∃ k : Nat, k ≤ L.length ∧ i = .int .i64 k ∧ Hid ((L.take k).all (litIn n) = true)) (fun i => L.length - (intOf i).toNat)
 case atStart => exact ⟨0, Nat.zero_le _, rfl, by show _ = _; simp⟩
 case round =>
  obtain ⟨k, hk, rfl, hall⟩ := hrel
  by_cases hlt : k < L.length
  ·rcases unhide HA with h | ⟨b, off, rfl, hb, hcb⟩
   ·rw [h] at hlt
    simp at hlt
   ·have c1 := hcb k hlt
    have hi' : (k : Int) < (L.length : Int) := by omega
    have h1 := all_hit (litIn n) L k 0 hlt
    have h2 := all_step (litIn n) L k 0 hlt (unhide hall)
    generalize L.getD k 0 = x at *
    have cx := literalOf x n
    cases hx : litIn n x
    ·rw [hx] at cx
     have CX := hide cx
     have H := hide (h1 hx)
     clear cx h1 h2 hx hcb HA hall
     go_wp2_with (go_at_call 164; refine (unhide CX _).mono ?_; rintro e w' ⟨rfl, rfl⟩)
     go_ret
     exact ⟨ret_bool (unhide H).symm, rfl⟩
    ·rw [hx] at cx
     have CX := hide cx
     have H := hide (h2 hx)
     clear cx h1 h2 hx hcb HA hall
     go_wp2_with (go_at_call 164; refine (unhide CX _).mono ?_; rintro e w' ⟨rfl, rfl⟩)
     go_round
     case rel => exact ⟨k + 1, by omega, by go_num, H⟩
     case measure => simp [intOf]; omega
  ·have hi' : ¬ (k : Int) < (L.length : Int) := by omega
   have HR := hide (all_end (litIn n) L k hlt (unhide hall))
   clear HA hall
   go_wp2
   go_ret
   exact ⟨ret_bool (unhide HR).symm, rfl⟩
theorem clauseOf (v : Value) (L : List Int) (n : Int) (w : World) (hL : L.length ≤ 1048576) (hv : Sl w v L) :
  Calls Tryz.prog 113 #[v, .int .i64 n] w fun e w' => e = .returned (.bool (clB n L)) ∧ w' = w := by
 have C := hide (literalsOf v L n w hL hv)
 obtain ⟨a, cap, rfl, ha⟩ := hv
 unfold clB
 clear ha
 by_cases h : L.length ≤ 48
 ·rw [decide_eq_true h, Bool.and_true]
  have hi : (L.length : Int) ≤ 48 := by omega
  go_enter Tryz.func113, Tryz.ntmps113
  go_wp2_with (go_at_call 124; refine (unhide C).mono ?_; rintro e w' ⟨rfl, rfl⟩)
  go_ret
  exact ⟨rfl, rfl⟩
 ·rw [decide_eq_false h, Bool.and_false]
  have hi : ¬ (L.length : Int) ≤ 48 := by omega
  go_enter Tryz.func113, Tryz.ntmps113
  go_wp2_with fail
  go_ret
  exact ⟨rfl, rfl⟩
theorem specCnfOk (v : Value) (n : Int) (LL : List (List Int)) (w : World) (hn : tot LL ≤ 1048576) (hv : Sls w v LL) :
  Calls Tryz.prog 78 #[.agg #[.int .i64 n, v]] w fun e w' => e = .returned (.bool (cnfB n LL)) ∧ w.grownBy w' none := by
 obtain ⟨a, cap, rfl, ha⟩ := hv
 have hl := Nat.le_trans (css.tot_len LL) hn
 have G0 := hide (World.grownBy_alloc w (.cells #[.int .i64 n, .slice a LL.length cap] 26) none)
 by_cases hN : 0 ≤ n ∧ n ≤ 24
 ·by_cases hc : LL.length ≤ 120
  ·have li := fun w => l01In n 0 24 w
   rw [decide_eq_true hN] at li
   have LI := hide li
   have N0 : ¬ n < 0 := by omega
   have N1 : ¬ 24 < n := by omega
   have hc' : ¬ (120 : Int) < (LL.length : Int) := by omega
   have bx := hide (cf.Box.new 26 w (.int .i64 n) (.slice a LL.length cap))
   have EQ := hide (show cnfB n LL = LL.all (clB n) by unfold cnfB; rw [decide_eq_true hN, decide_eq_true hc]; rfl)
   have HA := hide ha
   clear ha hN hc li
   go_enter Tryz.func78, Tryz.ntmps78
   go_wp2_with (go_at_call 88; refine (unhide LI _).mono ?_; rintro e w' ⟨rfl, rfl⟩)
   go_loopw [3] (fun i wr => ∃ k : Nat, k ≤ LL.length ∧ i = .int .i64 k ∧ Hid ((LL.take k).all (clB n) = true) ∧ Hid ((w.alloc (.cells #[.int .i64 n, .slice a LL.length cap] 26)).grownBy wr none)) (fun i _ => LL.length - (intOf i).toNat)
   case atStart => exact ⟨0, Nat.zero_le _, rfl, (by show _ = _; simp), grown_refl _⟩
   case round =>
    obtain ⟨k, hk, rfl, hall, hg⟩ := hrel
    have bk := (unhide bx).kept (unhide hg)
    have x0 := bk.c0
    have x1 := bk.c1
    have g1 := grown_trans (r := none) (unhide G0) (unhide hg)
    clear bx bk
    by_cases hlt : k < LL.length
    ·rcases unhide HA with h | ⟨b, off, rfl, hb, hcb⟩
     ·rw [h] at hlt
      simp at hlt
     ·obtain ⟨u, hu, hs⟩ := hcb k hlt
      have c1 : wr.cell? ⟨b, off + k, none⟩ = some u := g1.cell hu (fun e => by cases e)
      have hi' : (k : Int) < (LL.length : Int) := by omega
      have h1 := all_hit (clB n) LL k [] hlt
      have h2 := all_step (clB n) LL k [] hlt (unhide hall)
      have hL := Nat.le_trans (css.tot_in LL k) hn
      generalize LL.getD k [] = L at *
      have cx := fun m => specClause u L n (wr.drewN m) hL ((hs.kept g1 (.inl rfl)).kept (grown_drewN wr m) (.inl rfl))
      have G1 := hide g1
      cases hx : clB n L
      ·rw [hx] at cx
       have C := hide cx
       have H := hide (h1 hx)
       clear cx h1 h2 hx hcb HA hall hs hu g1
       go_wp2
       go_quiet (first | (go_at_call 133; exact Calls.quiet_of_same (unhide C _)))
       go_wp2
       go_ret
       exact ⟨ret_bool (by rw [unhide EQ]; exact (unhide H).symm), grown_trans (unhide G1) (grown_drewN _ _)⟩
      ·rw [hx] at cx
       have C := hide cx
       have H := hide (h2 hx)
       clear cx h1 h2 hx hcb HA hall hs hu g1
       go_wp2
       go_quiet (first | (go_at_call 133; exact Calls.quiet_of_same (unhide C _)))
       go_wp2
       go_roundw
       case rel => exact ⟨k + 1, by omega, by go_num, H, grown_trans (unhide hg) (grown_drewN _ _)⟩
       case measure => simp [intOf]; omega
    ·have hi' : ¬ (k : Int) < (LL.length : Int) := by omega
     have HR := hide (all_end (clB n) LL k hlt (unhide hall))
     have G1 := hide g1
     clear HA hall g1
     go_wp2
     go_ret
     exact ⟨ret_bool (by rw [unhide EQ]; exact (unhide HR).symm), unhide G1⟩
  ·have E := hide (show cnfB n LL = false by unfold cnfB; rw [decide_eq_false hc]; simp)
   have li := fun w => l01In n 0 24 w
   rw [decide_eq_true hN] at li
   have LI := hide li
   have N0 : ¬ n < 0 := by omega
   have N1 : ¬ 24 < n := by omega
   have hc' : (120 : Int) < (LL.length : Int) := by omega
   clear ha hN hc li
   go_enter Tryz.func78, Tryz.ntmps78
   go_wp2_with (go_at_call 88; refine (unhide LI _).mono ?_; rintro e w' ⟨rfl, rfl⟩)
   go_ret
   exact ⟨ret_bool (unhide E).symm, unhide G0⟩
 ·have E := hide (show cnfB n LL = false by unfold cnfB; rw [decide_eq_false hN]; simp)
  have li := fun w => l01In n 0 24 w
  rw [decide_eq_false hN] at li
  have LI := hide li
  clear ha li
  clear hN
  all_goals
   skip
   go_enter Tryz.func78, Tryz.ntmps78
   go_wp2_with (go_at_call 88; refine (unhide LI _).mono ?_; rintro e w' ⟨rfl, rfl⟩)
   go_ret
   exact ⟨ret_bool (unhide E).symm, unhide G0⟩
theorem implCnfOk (v : Value) (n : Int) (LL : List (List Int)) (w : World) (hn : tot LL ≤ 1048576) (hv : Sls w v LL) :
  Calls Tryz.prog 68 #[.agg #[.int .i64 n, v]] w fun e w' => e = .returned (.bool (cnfB n LL)) ∧ w.grownBy w' none := by
 obtain ⟨a, cap, rfl, ha⟩ := hv
 have hl := Nat.le_trans (css.tot_len LL) hn
 have G0 := hide (World.grownBy_alloc w (.cells #[.int .i64 n, .slice a LL.length cap] 26) none)
 by_cases hN : 0 ≤ n ∧ n ≤ 24
 ·by_cases hc : LL.length ≤ 120
  ·have li := trivial
   skip
   have LI := hide li
   have N0 : ¬ n < 0 := by omega
   have N1 : ¬ 24 < n := by omega
   have hc' : ¬ (120 : Int) < (LL.length : Int) := by omega
   have bx := hide (cf.Box.new 26 w (.int .i64 n) (.slice a LL.length cap))
   have EQ := hide (show cnfB n LL = LL.all (clB n) by unfold cnfB; rw [decide_eq_true hN, decide_eq_true hc]; rfl)
   have HA := hide ha
   clear ha hN hc li
   go_enter Tryz.func68, Tryz.ntmps68
   go_wp2_with fail
   go_loopw [22] (fun i wr => ∃ k : Nat, k ≤ LL.length ∧ i = .int .i64 k ∧ Hid ((LL.take k).all (clB n) = true) ∧ Hid ((w.alloc (.cells #[.int .i64 n, .slice a LL.length cap] 26)).grownBy wr none)) (fun i _ => LL.length - (intOf i).toNat)
   case atStart => exact ⟨0, Nat.zero_le _, rfl, (by show _ = _; simp), grown_refl _⟩
   case round =>
    obtain ⟨k, hk, rfl, hall, hg⟩ := hrel
    have bk := (unhide bx).kept (unhide hg)
    have x0 := bk.c0
    have x1 := bk.c1
    have g1 := grown_trans (r := none) (unhide G0) (unhide hg)
    clear bx bk
    by_cases hlt : k < LL.length
    ·rcases unhide HA with h | ⟨b, off, rfl, hb, hcb⟩
     ·rw [h] at hlt
      simp at hlt
     ·obtain ⟨u, hu, hs⟩ := hcb k hlt
      have c1 : wr.cell? ⟨b, off + k, none⟩ = some u := g1.cell hu (fun e => by cases e)
      have hi' : (k : Int) < (LL.length : Int) := by omega
      have h1 := all_hit (clB n) LL k [] hlt
      have h2 := all_step (clB n) LL k [] hlt (unhide hall)
      have hL := Nat.le_trans (css.tot_in LL k) hn
      generalize LL.getD k [] = L at *
      have cx := fun m => clauseOf u L n (wr.drewN m) hL ((hs.kept g1 (.inl rfl)).kept (grown_drewN wr m) (.inl rfl))
      have G1 := hide g1
      cases hx : clB n L
      ·rw [hx] at cx
       have C := hide cx
       have H := hide (h1 hx)
       clear cx h1 h2 hx hcb HA hall hs hu g1
       go_wp2_with fail
       refine (unhide C 0).mono ?_; rintro e w' ⟨rfl, hw⟩; have hw' := hw.symm; clear hw; subst hw'
       go_wp2_with fail
       go_ret
       exact ⟨ret_bool (by rw [unhide EQ]; exact (unhide H).symm), unhide G1⟩
      ·rw [hx] at cx
       have C := hide cx
       have H := hide (h2 hx)
       clear cx h1 h2 hx hcb HA hall hs hu g1
       go_wp2_with fail
       refine (unhide C 0).mono ?_; rintro e w' ⟨rfl, hw⟩; have hw' := hw.symm; clear hw; subst hw'
       go_wp2_with fail
       go_roundw
       case rel => exact ⟨k + 1, by omega, by go_num, H, hg⟩
       case measure => simp [intOf]; omega
    ·have hi' : ¬ (k : Int) < (LL.length : Int) := by omega
     have HR := hide (all_end (clB n) LL k hlt (unhide hall))
     have G1 := hide g1
     clear HA hall g1
     go_wp2
     go_ret
     exact ⟨ret_bool (by rw [unhide EQ]; exact (unhide HR).symm), unhide G1⟩
  ·have E := hide (show cnfB n LL = false by unfold cnfB; rw [decide_eq_false hc]; simp)
   have li := trivial
   skip
   have LI := hide li
   have N0 : ¬ n < 0 := by omega
   have N1 : ¬ 24 < n := by omega
   have hc' : (120 : Int) < (LL.length : Int) := by omega
   clear ha hN hc li
   go_enter Tryz.func68, Tryz.ntmps68
   go_wp2_with fail
   go_ret
   exact ⟨ret_bool (unhide E).symm, unhide G0⟩
 ·have E := hide (show cnfB n LL = false by unfold cnfB; rw [decide_eq_false hN]; simp)
  have li := trivial
  skip
  have LI := hide li
  clear ha li
  rcases (show n < 0 ∨ (¬ n < 0 ∧ 24 < n) by omega) with N0 | ⟨N0, N1⟩
  all_goals
   clear hN
   go_enter Tryz.func68, Tryz.ntmps68
   go_wp2_with fail
   go_ret
   exact ⟨ret_bool (unhide E).symm, unhide G0⟩
end Go.Proofs.YtnlllcgcaddhmaaGreatDoor.ok
namespace Go.Proofs.YtnlllcgcaddhmaaGreatDoor.tr
open Go.ChangeShapes Go.WideShapes Go.ChangeAt Go.RowKit
open lits (okB varI)
open sl (Sl Own ints marks hide unhide ret_int ret_bool grown_refl grown_trans grown_drewN below_of of_below)
open css (Sls OwnS Outs tot sumLen marksS)
open cf (Box)
open ok (cnfB all_hit all_step all_end)
set_option linter.unusedVariables false
def litT (A : List Int) (x : Int) : Bool := if varI x = 0 then false else (decide (varI x ≤ (A.length : Int)) && decide (A.getD (varI x - 1).toNat 0 = 1)) == decide (0 < x)
def clT (A L : List Int) : Bool := L.any (litT A)
def cnfT (A : List Int) (LL : List (List Int)) : Bool := LL.all (clT A)
theorem any_hit {α : Type} (f : α → Bool) (L : List α) (k : Nat) (d : α) (h : k < L.length) (hx : f (L.getD k d) = true) : L.any f = true := by
 rw [List.any_eq_true]
 refine ⟨L[k], List.getElem_mem h, ?_⟩
 rw [show L.getD k d = L[k] by simp [h]] at hx
 exact hx
theorem any_step {α : Type} (f : α → Bool) (L : List α) (k : Nat) (d : α) (h : k < L.length) (ha : (L.take k).any f = false) (hx : f (L.getD k d) = false) : (L.take (k + 1)).any f = false := by
 rw [List.take_succ_eq_append_getElem h, List.any_append, ha]
 rw [show L.getD k d = L[k] by simp [h]] at hx
 simp [hx]
theorem any_end {α : Type} (f : α → Bool) (L : List α) (k : Nat) (h : ¬ k < L.length) (ha : (L.take k).any f = false) : L.any f = false := by
 rw [List.take_of_length_le (by omega)] at ha
 exact ha
end Go.Proofs.YtnlllcgcaddhmaaGreatDoor.tr
namespace Go.Proofs.YtnlllcgcaddhmaaGreatDoor.gr
open Go.ChangeShapes Go.WideShapes Go.ChangeAt Go.RowKit
open sl (Sl Own ints marks hide unhide ret_int ret_bool grown_refl grown_trans grown_drewN below_of of_below)
open css (Sls OwnS Outs tot sumLen marksS Apart own_ne own_ne' own_kind own_mono infoSl)
open cf (Box)
set_option linter.unusedVariables false
theorem ty1 : (26 : Nat) ≠ 34 := by decide
theorem ty2 : (26 : Nat) ≠ 3 := by decide
theorem box_ne {w : World} {lo n c : Nat} {t : TypeId} {v x y : Value} {xs : List Value} (h : w.ownsRow lo t 1 v n xs) (ht : (26 : Nat) ≠ t) (hb : Box 26 w c x y) : v.ownBlock ≠ some c := by
 intro e
 obtain ⟨cs, fz, hc⟩ := own_kind h c e
 unfold Box at hb
 rw [hb] at hc
 simp only [Option.some.injEq, Obj.cells.injEq] at hc
 exact ht hc.2.1
theorem own_set {w : World} {lo n c i : Nat} {t : TypeId} {v x y u : Value} {xs : List Value} (h : w.ownsRow lo t 1 v n xs) (ht : (26 : Nat) ≠ t) (hb : Box 26 w c x y) : (w.setCell ⟨c, i, none⟩ u).ownsRow lo t 1 v n xs := by
 refine h.kept (sl.grown_setCell w c i u) ?_
 cases e : v.ownBlock with
 | none => exact .inl rfl
 | some g => exact .inr (fun e' => box_ne h ht hb (e.trans e'))
theorem ownS_set {lo hi : Nat} {w : World} {v : Value} {LL : List (List Int)} {c i : Nat} {u x y : Value} (h : OwnS lo hi w v LL) (hb : Box 26 w c x y) : OwnS lo hi (w.setCell ⟨c, i, none⟩ u) v LL := by
 obtain ⟨D, e, ho, hb', hi', hp⟩ := h
 exact ⟨D, e, own_set ho ty1 hb, hb', fun p hp => ⟨own_set (hi' p hp).1 ty2 hb, (hi' p hp).2⟩, hp⟩
theorem grow {lo mid : Nat} {wr w1 : World} {v v' u : Value} {D : List (Value × List Int)} {L : List Int} {o : Obj} (ho : wr.ownsRow lo 34 1 v D.length (D.map (·.1))) (hin : ∀ p ∈ D, Own lo mid wr p.1 p.2) (hp : D.Pairwise Apart)
  (hu : Own mid wr.heap.size wr u L) (hlo : lo ≤ mid) (hmid : mid ≤ wr.heap.size) (h1 : w1.ownsRow lo 34 1 v' (D.length + 1) (D.map (·.1) ++ [u])) (hg : (wr.alloc o).grownBy w1 v.ownBlock) :
  OwnS lo w1.heap.size w1 v' (D.map (·.2) ++ [L]) := by
 have sz := hg.size
 simp only [World.size_alloc] at sz
 have hoA := ho.alloc o
 have kp : ∀ (p : Value) (n : Nat) (xs : List Value), wr.ownsRow lo 3 1 p n xs → w1.ownsRow lo 3 1 p n xs := fun p n xs h => (h.alloc o).kept hg (own_ne' hoA (h.alloc o))
 refine ⟨D ++ [(u, L)], by simp, ?_, fun k e => (h1.lt k e).2, ?_, ?_⟩
 ·have e1 : (D ++ [(u, L)]).length = D.length + 1 := by simp
  have e2 : (D ++ [(u, L)]).map (fun p : Value × List Int => p.1) = D.map (fun p : Value × List Int => p.1) ++ [u] := by simp
  rw [e1, e2]
  exact h1
 ·intro p hp'
  rw [List.mem_append, List.mem_singleton] at hp'
  rcases hp' with hp' | rfl
  ·exact ⟨kp _ _ _ (hin p hp').1, fun k e => by have := (hin p hp').2 k e; omega⟩
  ·exact ⟨kp _ _ _ (own_mono hu.1 hlo), fun k e => by have := hu.2 k e; omega⟩
 ·rw [List.pairwise_append]
  refine ⟨hp, List.pairwise_singleton _ _, fun a ha b hb => ?_⟩
  rw [List.mem_singleton] at hb
  subst hb
  intro k e e'
  have h1 := (hin a ha).2 k e
  have h2 := (hu.1.lt k e').1
  omega
theorem own_one {lo hi : Nat} {w : World} {u : Value} {L : List Int} (h : Own lo hi w u L) : u.oneCell' = true := by
 obtain ⟨_, h2⟩ := h.1
 rcases h2 with ⟨rfl, _⟩ | ⟨g, cap, cur, rfl, _⟩ <;> rfl
theorem stepR {ops : Array Oper} {o : Oper} {a : Act} {K : Act → World → Prop} {Q : Exit → Act → World → Prop} {E : Prop} {lo mid : Nat} {wr : World} {v u : Value} {M : List (List Int)} {L : List Int}
  (h : OwnS lo mid wr v M) (hu : Own mid wr.heap.size wr u L) (hlo : lo ≤ mid) (hmid : mid ≤ wr.heap.size) (hM : M.length ≤ 1048576) (hgd : o.guard = none) (s x : Operand)
  (ho : o.op = .call { callee := .builtin .append, args := #[s, x], argTypes := #[24, 24] }) (hs : a.eval s = v) (hx : a.eval x = .slice (some ⟨wr.heap.size, 0, none⟩) 1 1)
  (hK : ∀ g cap w1, OwnS lo w1.heap.size w1 (.slice (some ⟨g, 0, none⟩) (M.length + 1) cap) (M ++ [L]) → (wr.alloc (.cells #[u] 34)).grownBy w1 v.ownBlock → K (a.put o.dst (.slice (some ⟨g, 0, none⟩) (M.length + 1) cap)) w1) :
  if Region.wanted o (yielded ops a.tmps) = true then Oper.wp Tryz.prog o a (wr.alloc (.cells #[u] 34)) K Q else E := by
 obtain ⟨i0, hi, hz0, hz1, hz2⟩ := info_parts infoSl
 obtain ⟨D, rfl, hw, hb, hin, hp⟩ := h
 rw [List.length_map] at *
 refine step_append_lies _ hgd s x 24 ho lo 34 i0 (.slice none 0 0) 1 24 Tryz.underlying24 hi hz0 hz1 hz2 rfl (by decide) v D.length (D.map (·.1)) hs (hw.alloc _) ⟨wr.heap.size, 0, none⟩ 1 1 [u] hx rfl ?_ ?_ (by decide) ?_ ?_ ?_ (wr.heap.size + 1) (World.size_alloc ..) ?_
 ·intro j y hj
  match j, hj with
  | 0, hj => simp at hj; subst hj; simp [Addr.add]
 ·intro y hy
  simp at hy
  subst hy
  exact own_one hu
 ·unfold maxLen; omega
 ·omega
 ·simp; omega
 ·intro g cap w1 h1 hg _ _
  exact hK g cap w1 (grow hw hin hp hu hlo hmid h1 hg) hg
theorem appendR {ops : Array Oper} {rest : List Oper} {o : Oper} {a : Act} {Q : Exit → Act → World → Prop} {lo mid : Nat} {wr : World} {v u : Value} {M : List (List Int)} {L : List Int}
  (h : OwnS lo mid wr v M) (hu : Own mid wr.heap.size wr u L) (hlo : lo ≤ mid) (hmid : mid ≤ wr.heap.size) (hM : M.length ≤ 1048576) (hgd : o.guard = none) (s x : Operand)
  (ho : o.op = .call { callee := .builtin .append, args := #[s, x], argTypes := #[24, 24] }) (hs : a.eval s = v) (hx : a.eval x = .slice (some ⟨wr.heap.size, 0, none⟩) 1 1)
  (hK : ∀ g cap w1, OwnS lo w1.heap.size w1 (.slice (some ⟨g, 0, none⟩) (M.length + 1) cap) (M ++ [L]) → (wr.alloc (.cells #[u] 34)).grownBy w1 v.ownBlock → wpList Tryz.prog ops Q rest (a.put o.dst (.slice (some ⟨g, 0, none⟩) (M.length + 1) cap)) w1) :
  wpList Tryz.prog ops Q (o :: rest) a (wr.alloc (.cells #[u] 34)) := by
 obtain ⟨i0, hi, hz0, hz1, hz2⟩ := info_parts infoSl
 obtain ⟨D, rfl, hw, hb, hin, hp⟩ := h
 rw [List.length_map] at *
 refine wpList_append_lies _ hgd s x 24 ho lo 34 i0 (.slice none 0 0) 1 24 Tryz.underlying24 hi hz0 hz1 hz2 rfl (by decide) v D.length (D.map (·.1)) hs (hw.alloc _) ⟨wr.heap.size, 0, none⟩ 1 1 [u] hx rfl ?_ ?_ (by decide) ?_ ?_ ?_ (wr.heap.size + 1) (World.size_alloc ..) ?_
 ·intro j y hj
  match j, hj with
  | 0, hj => simp at hj; subst hj; simp [Addr.add]
 ·intro y hy
  simp at hy
  subst hy
  exact own_one hu
 ·unfold maxLen; omega
 ·omega
 ·simp; omega
 ·intro g cap w1 h1 hg _ _
  exact hK g cap w1 (grow hw hin hp hu hlo hmid h1 hg) hg
def MidF (w wr : World) (c : Nat) (n : Int) (M : List (List Int)) (Bs : List (Nat × Value × Value)) : Prop :=
 w.heap.size ≤ c ∧ w.grownBy wr none ∧ (∀ b ∈ Bs, b.1 ≠ c ∧ Box 26 wr b.1 b.2.1 b.2.2) ∧ ∃ a cap, Box 26 wr c (.int .i64 n) (.slice a M.length cap) ∧ OwnS w.heap.size wr.heap.size wr (.slice a M.length cap) M
theorem MidF.kept {w wr w1 : World} {c : Nat} {n : Int} {M : List (List Int)} {Bs : List (Nat × Value × Value)} (h : MidF w wr c n M Bs) (g : wr.grownBy w1 none) : MidF w w1 c n M Bs := by
 obtain ⟨hc, hg, hB, a, cap, hb, ho⟩ := h
 exact ⟨hc, grown_trans hg g, fun b hb => ⟨(hB b hb).1, (hB b hb).2.kept g⟩, a, cap, hb.kept g, (ho.kept g).sub (Nat.le_refl _) g.size⟩
theorem MidF.grown {w wr : World} {c : Nat} {n : Int} {M : List (List Int)} {Bs : List (Nat × Value × Value)} (h : MidF w wr c n M Bs) : w.grownBy wr none := h.2.1
theorem MidF.box {w wr : World} {c : Nat} {n : Int} {M : List (List Int)} {Bs : List (Nat × Value × Value)} (h : MidF w wr c n M Bs) (b : Nat) (x y : Value) (hb : (b, x, y) ∈ Bs) : Box 26 wr b x y := (h.2.2.1 _ hb).2
theorem MidF.step {w wr w2 w1 : World} {c : Nat} {n : Int} {M : List (List Int)} {Bs : List (Nat × Value × Value)} {L : List Int} {a : Option Addr} {cap g cap' : Nat} {u : Value} (hc : w.heap.size ≤ c) (hg : w.grownBy wr none) (hB : ∀ b ∈ Bs, b.1 ≠ c ∧ Box 26 wr b.1 b.2.1 b.2.2) (hb : Box 26 wr c (.int .i64 n) (.slice a M.length cap)) (ho : OwnS w.heap.size wr.heap.size wr (.slice a M.length cap) M)
  (g2 : wr.grownBy w2 none) (h1 : OwnS w.heap.size w1.heap.size w1 (.slice (some ⟨g, 0, none⟩) (M.length + 1) cap') (M ++ [L])) (g1 : (w2.alloc (.cells #[u] 34)).grownBy w1 (Value.slice a M.length cap).ownBlock) :
  (w1.cell? ⟨c, 1, none⟩ = some (.slice a M.length cap) ∧ w1.frozen? ⟨c, 1, none⟩ = false ∧ w.grownBy w1 none ∧ ∀ b x y, (b, x, y) ∈ Bs → Box 26 w1 b x y) ∧ MidF w (w1.setCell ⟨c, 1, none⟩ (.slice (some ⟨g, 0, none⟩) (M.length + 1) cap')) c n (M ++ [L]) Bs := by
 have gA := grown_trans (r := none) g2 (World.grownBy_alloc w2 (.cells #[u] 34) none)
 have hb2 := hb.kept gA
 obtain ⟨D, e, hw, hbb, hin, hp⟩ := ho.kept gA
 have hb1 := hb2.by g1 (box_ne hw ty1 hb2)
 have hgA : w.grownBy (w2.alloc (.cells #[u] 34)) none := grown_trans hg gA
 have hg1 : w.grownBy w1 none := ⟨g1.os.trans hgA.os, g1.tape.trans hgA.tape, g1.output.trans hgA.output, Nat.le_trans hgA.size g1.size, fun k hk _ => by
  rw [g1.block k (Nat.lt_of_lt_of_le hk hgA.size) (fun e => by have := (hw.lt k e.symm).1; omega)]
  exact hgA.block k hk (fun e => by cases e)⟩
 have hB1 : ∀ b x y, (b, x, y) ∈ Bs → Box 26 w1 b x y := by
  intro b x y hb'
  have hbb := (hB _ hb').2.kept gA
  exact hbb.by g1 (box_ne hw ty1 hbb)
 refine ⟨⟨hb1.c1, hb1.f 1, hg1, hB1⟩, hc, cf.grown_set hg1 hc, fun b hb' => ⟨(hB b hb').1, ?_⟩, some ⟨g, 0, none⟩, cap', ?_, ?_⟩
 ·exact (hB1 b.1 b.2.1 b.2.2 hb').setO (fun e => (hB b hb').1 e.symm)
 ·have := hb1.set1 (.slice (some ⟨g, 0, none⟩) (M.length + 1) cap')
  rw [List.length_append]
  exact this
 ·rw [cf.size_set, List.length_append]
  exact ownS_set h1 hb1
theorem mk0 (n : Nat) (hn : n ≤ 1048576) (w : World) : (Instr.makeSlice 24 (.int .i64 0) (.int .i64 (n : Int))).run Tryz.prog w = .ok (.slice (some ⟨w.heap.size, 0, none⟩) 0 n) (w.alloc (.cells (madeCells #[.slice none 0 0] n) 34)) := by
 obtain ⟨i0, hi, hz0, hz1, hz2⟩ := info_parts infoSl
 have hr := run_make (P := Tryz.prog) w 24 34 i0 (.slice none 0 0) Tryz.underlying24 hi hz0 .i64 .i64 0 n (by decide) (by omega) (by rw [hz2]; omega) (by omega)
 rw [hz1, Nat.mul_one] at hr
 exact hr
theorem ownS_made (w : World) (n : Nat) (lo : Nat) (hlo : lo ≤ w.heap.size) (hn : n ≤ 1048576) : OwnS lo (w.heap.size + 1) (w.alloc (.cells (madeCells #[.slice none 0 0] n) 34)) (.slice (some ⟨w.heap.size, 0, none⟩) 0 n) [] :=
 ⟨[], rfl, World.ownsRow_made w _ n hlo (by unfold maxLen; omega) (by rw [size_madeCells, Nat.mul_one]), (fun k e => by cases e; exact Nat.lt_succ_self _), (fun p hp => by cases hp), .nil⟩
end Go.Proofs.YtnlllcgcaddhmaaGreatDoor.gr
namespace Go.Proofs.YtnlllcgcaddhmaaGreatDoor.app
open Go.ChangeShapes Go.WideShapes Go.ChangeAt Go.RowKit
open sl (Sl Own ints marks hide unhide ret_int ret_bool grown_refl grown_trans grown_drewN below_of of_below)
open css (Sls OwnS Outs tot sumLen marksS Apart own_ne own_ne' own_kind own_mono infoSl)
open cf (Box)
open wo (Made)
set_option linter.unusedVariables false
theorem ints_append (L M : List Int) : ints (L ++ M) = ints L ++ ints M := by simp [ints]
theorem made_nil (w : World) : Made w (w.alloc (.cells #[] 3)) (.slice (some ⟨w.heap.size, 0, none⟩) 0 0) [] :=
 ⟨World.ownsRow_lit w #[] 0 (Nat.le_refl _) (Nat.zero_le _) rfl, World.grownBy_alloc _ _ _⟩
theorem wp_none {w : World} {o : Oper} {a : Act} {K : Act → World → Prop} {Q : Exit → Act → World → Prop} (s x : Operand) (t : TypeId) (ho : o.op = .call { callee := .builtin .append, args := #[s, x], argTypes := #[t, t] })
  (base : Nat) (e : TypeId) (i : TypeInfo) (size : Nat) (ht : Tryz.prog.underlying t = some (.slice e)) (hi : Tryz.prog.info? e = some i)
  (v : Value) (n : Nat) (xs : List Value) (hs : a.eval s = v) (hown : w.ownsRow base e size v n xs) (hx : a.eval x = .slice none 0 0) (h : K (a.put o.dst v) w) : o.wp Tryz.prog a w K Q := by
 have hrun := run_append_owned_none (P := Tryz.prog) (w := w) base t o.type e i size ht hi v n xs hown
 unfold Oper.wp
 simp [execOp, ho, resolve, invoke, builtin, hs, hx, hrun, Result.andThen]
 exact h
theorem wpI {o : Oper} {a : Act} {K : Act → World → Prop} {Q : Exit → Act → World → Prop} {w wr : World} {va vb : Value} {A B : List Int} {lo hi : Nat}
  (hg : w.grownBy wr none) (hA : wr.ownsRow w.heap.size 3 1 va A.length (ints A)) (hB : Own lo hi wr vb B) (hl : A.length + B.length ≤ 4194304) (s x : Operand)
  (ho : o.op = .call { callee := .builtin .append, args := #[s, x], argTypes := #[34, 34] }) (hs : a.eval s = va) (hx : a.eval x = vb)
  (h : ∀ v' w1, Made w w1 v' (A ++ B) → wr.grownBy w1 va.ownBlock → K (a.put o.dst v') w1) : o.wp Tryz.prog a wr K Q := by
 obtain ⟨i0, hi, hz0, hz1, hz2⟩ := info_parts sl.info3
 have hsz := hg.size
 have hB' := hB.1
 obtain ⟨_, h2⟩ := hB'
 rcases h2 with ⟨rfl, h0⟩ | ⟨g, cap, cur, rfl, hgb, hh, hn, hm, hsc, ht⟩
 ·have e : B = [] := List.eq_nil_of_length_eq_zero h0
  subst e
  refine wp_none s x 34 ho w.heap.size 3 i0 1 Tryz.underlying34 hi va A.length (ints A) hs hA hx ?_
  refine h va wr ⟨?_, hg⟩ ⟨rfl, rfl, rfl, Nat.le_refl _, fun _ _ _ => rfl⟩
  rw [List.append_nil]
  exact hA
 ·refine wp_append_own _ s x 34 ho w.heap.size 3 i0 (.int .i64 0) 1 8 Tryz.underlying34 hi hz0 hz1 hz2 rfl (by decide) va A.length (ints A) hs hA ⟨g, 0, none⟩ B.length cap (ints B) hx (by rw [sl.ints_length]; omega) ?_ ?_ ?_ ?_ ?_ ?_
  ·intro j u hj
   rw [Addr.add_lit, Nat.zero_add]
   have hjl : j < B.length := by
    have := (List.getElem?_eq_some_iff.1 hj).1
    rwa [sl.ints_length] at this
   rw [hB.1.cellAt j (by omega)]
   exact hj
  ·exact ints_oneCell .i64 B
  ·unfold maxLen
   omega
  ·omega
  ·exact hsz
  ·intro v' w1 hown' hgrow _
   refine h v' w1 ⟨?_, ⟨hgrow.os.trans hg.os, hgrow.tape.trans hg.tape, hgrow.output.trans hg.output, Nat.le_trans hsz hgrow.size, fun k hk _ => ?_⟩⟩ hgrow
   ·rw [List.length_append, ints_append]
    exact hown'
   ·rw [hgrow.block k (by omega) (fun e => by have := (hA.lt k e.symm).1; omega)]
    exact hg.block k hk (fun e => by cases e)
theorem stepI {ops : Array Oper} {E : Prop} {o : Oper} {a : Act} {K : Act → World → Prop} {Q : Exit → Act → World → Prop} {w wr : World} {va vb : Value} {A B : List Int} {lo hi : Nat}
  (hg : w.grownBy wr none) (hA : wr.ownsRow w.heap.size 3 1 va A.length (ints A)) (hB : Own lo hi wr vb B) (hl : A.length + B.length ≤ 4194304) (hgd : o.guard = none) (s x : Operand)
  (ho : o.op = .call { callee := .builtin .append, args := #[s, x], argTypes := #[34, 34] }) (hs : a.eval s = va) (hx : a.eval x = vb)
  (h : ∀ v' w1, Made w w1 v' (A ++ B) → wr.grownBy w1 va.ownBlock → K (a.put o.dst v') w1) : if Region.wanted o (yielded ops a.tmps) = true then Oper.wp Tryz.prog o a wr K Q else E := by
 rw [if_pos (by simp [Region.wanted, hgd])]
 exact wpI hg hA hB hl s x ho hs hx h
theorem appendI {ops : Array Oper} {rest : List Oper} {o : Oper} {a : Act} {Q : Exit → Act → World → Prop} {w wr : World} {va vb : Value} {A B : List Int} {lo hi : Nat}
  (hg : w.grownBy wr none) (hA : wr.ownsRow w.heap.size 3 1 va A.length (ints A)) (hB : Own lo hi wr vb B) (hl : A.length + B.length ≤ 4194304) (hgd : o.guard = none) (s x : Operand)
  (ho : o.op = .call { callee := .builtin .append, args := #[s, x], argTypes := #[34, 34] }) (hs : a.eval s = va) (hx : a.eval x = vb)
  (h : ∀ v' w1, Made w w1 v' (A ++ B) → wr.grownBy w1 va.ownBlock → wpList Tryz.prog ops Q rest (a.put o.dst v') w1) : wpList Tryz.prog ops Q (o :: rest) a wr :=
 wpList_plain hgd fun K hK => wpI hg hA hB hl s x ho hs hx fun v' w1 m g => hK _ _ (h v' w1 m g)
theorem own_at {lo hi : Nat} {w : World} {v : Value} {LL : List (List Int)} (h : OwnS lo hi w v LL) (k : Nat) (hk : k < LL.length) :
  ∃ g cap u, v = .slice (some ⟨g, 0, none⟩) LL.length cap ∧ g < hi ∧ w.cell? ⟨g, k, none⟩ = some u ∧ Own lo hi w u (LL.getD k []) := by
 obtain ⟨D, rfl, hw, hb, hin, hp⟩ := h
 rw [List.length_map] at *
 have hw' := hw
 obtain ⟨_, h2⟩ := hw
 rcases h2 with ⟨rfl, h0⟩ | ⟨g, cap, cur, rfl, _⟩
 ·omega
 ·refine ⟨g, cap, D[k].1, rfl, hb g rfl, ?_, ?_⟩
  ·rw [hw'.cellAt k (by omega)]
   simp [hk]
  ·rw [css.map2_getD hk]
   exact hin _ (List.getElem_mem hk)
theorem grown_app {w w1 w2 : World} {o : Obj} {v : Value} {n : Nat} {xs : List Value} {t : TypeId} (g : w.grownBy w1 none) (hw : w1.ownsRow w.heap.size t 1 v n xs) (g1 : (w1.alloc o).grownBy w2 v.ownBlock) : w.grownBy w2 none := by
 have hgA : w.grownBy (w1.alloc o) none := grown_trans g (World.grownBy_alloc w1 o none)
 exact ⟨g1.os.trans hgA.os, g1.tape.trans hgA.tape, g1.output.trans hgA.output, Nat.le_trans hgA.size g1.size, fun k hk _ => by
  rw [g1.block k (Nat.lt_of_lt_of_le hk hgA.size) (fun e => by have := (hw.lt k e.symm).1; omega)]
  exact hgA.block k hk (fun e => by cases e)⟩
theorem grown_appS {lo hi : Nat} {w w1 w2 : World} {o : Obj} {v : Value} {LL : List (List Int)} (g : w.grownBy w1 none) (h : OwnS w.heap.size hi w1 v LL) (g1 : (w1.alloc o).grownBy w2 v.ownBlock) : w.grownBy w2 none := by
 obtain ⟨D, rfl, hw, _⟩ := h
 exact grown_app g hw g1
set_option maxHeartbeats 800000 in
theorem copyLists (v : Value) (LL : List (List Int)) (lo hi : Nat) (w : World) (hn : tot LL ≤ 1048576) (hv : OwnS lo hi w v LL) :
  Calls Tryz.prog 156 #[v] w fun e w' => ∃ u, e = .returned u ∧ OwnS w.heap.size w'.heap.size w' u LL ∧ w.grownBy w' none := by
 have hl := Nat.le_trans (css.tot_len LL) hn
 obtain ⟨a, cap, rfl⟩ := hv.len
 have HV := hide hv
 have hmk := gr.mk0 LL.length hl
 have hp : (0 : Int) ≤ (LL.length : Int) := Int.natCast_nonneg _
 have st := hide (And.intro ((gr.ownS_made w LL.length w.heap.size (Nat.le_refl _) hl)) (World.grownBy_alloc w (.cells (madeCells #[.slice none 0 0] LL.length) 34) none))
 clear hv
 go_enter Tryz.func156, Tryz.ntmps156
 go_wp2
 clear hmk
 go_loopw [3, 11] (fun u i wr => ∃ k : Nat, k ≤ LL.length ∧ i = .int .i64 k ∧ Hid (OwnS w.heap.size wr.heap.size wr u (LL.take k) ∧ w.grownBy wr none)) (fun _ i _ => LL.length - (intOf i).toNat)
 case atStart => exact ⟨0, Nat.zero_le _, rfl, by obtain ⟨h1, h2⟩ := unhide st; exact ⟨h1.sub (Nat.le_refl _) (by rw [World.size_alloc]; exact Nat.le_refl _), h2⟩⟩
 case round =>
  obtain ⟨k, hk, rfl, hm⟩ := hrel
  clear st
  by_cases hlt : k < LL.length
  ·obtain ⟨g, cap', u', e, hgl, c0, hu0⟩ := own_at ((unhide HV).kept (unhide hm).2) k hlt
   simp only [Value.slice.injEq] at e
   obtain ⟨rfl, _, rfl⟩ := e
   have hi' : (k : Int) < (LL.length : Int) := by omega
   have hL := Nat.le_trans (css.tot_in LL k) hn
   have hts := css.take_snoc LL k hlt
   have hM : (LL.take k).length ≤ 1048576 := by rw [List.length_take]; omega
   generalize LL.getD k [] = L at *
   generalize LL.take k = M at *
   have HT := hide hts
   obtain ⟨ua, uc, e1, _⟩ := hu0.sl
   subst e1
   have mn := made_nil wr
   have U0 := hide (hu0.kept mn.2)
   have MN := hide mn
   obtain ⟨oa, oc, e2⟩ := (unhide hm).1.len
   subst e2
   clear hu0 hts HV mn
   go_wp2_with (at_builtin; refine appendI (A := []) (unhide MN).2 (unhide MN).1 (unhide U0) (by show 0 + L.length ≤ 4194304; omega) rfl _ _ rfl rfl rfl ?_)
   intro y w1 m1 g1
   have m1' : Made wr w1 y L := m1
   obtain ⟨ya, yc, e3, _⟩ := sl.Sl.of_own m1'.1
   subst e3
   have Y1 := hide (Own.of m1'.1)
   have G1 := hide m1'.2
   have O1 := hide ((unhide hm).1.kept m1'.2)
   have GW := hide (grown_trans (r := none) (unhide hm).2 m1'.2)
   have s1 := hide (unhide hm).2.size
   clear m1 m1' g1 MN U0 hm
   go_wp2_with (at_builtin; refine gr.appendR (unhide O1) (unhide Y1) (unhide s1) (unhide G1).size hM rfl _ _ rfl rfl rfl ?_)
   intro g2 cap2 w2 o2 gr2
   have R := hide (And.intro o2 (grown_appS (lo := 0) (unhide GW) (unhide O1) gr2))
   rw [← unhide HT] at R
   clear o2 gr2 O1 Y1 GW G1 s1
   go_wp2
   go_roundw
   case rel => exact ⟨k + 1, by omega, by go_num, R⟩
   case measure => simp [intOf]; omega
  ·have hi' : ¬ (k : Int) < (LL.length : Int) := by omega
   have e : LL.take k = LL := List.take_of_length_le (by omega)
   rw [e] at hm
   clear HV e
   go_wp2
   go_ret
   exact ⟨_, rfl, unhide hm⟩
end Go.Proofs.YtnlllcgcaddhmaaGreatDoor.app
