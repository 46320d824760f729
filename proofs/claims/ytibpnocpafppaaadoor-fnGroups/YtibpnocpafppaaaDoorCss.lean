/- Slices of slices of integers in memory, as the walks here speak of them, and what the small helpers on them (a size, a copy, an equality, marks) do; no condition but that the lists together have at most 2^20 elements. -/
import Derived.Test.YtibpnocpafppaaaDoorSl
namespace Go.Proofs.YtibpnocpafppaaaDoor.css
open Go.ChangeShapes Go.WideShapes Go.ChangeAt Go.RowKit
open Go.Proofs.YtibpnocpafppaaaDoor.sl (Sl Own ints marks hide unhide ret_int ret_bool grown_refl grown_trans grown_drewN below_of of_below)
set_option linter.unusedVariables false

/-- the slice value v reads as the list of lists LL -/
def Sls (w : World) (v : Value) (LL : List (List Int)) : Prop :=
  ∃ a cap, v = .slice a LL.length cap ∧ (LL = [] ∨ ∃ b off, a = some ⟨b, off, none⟩ ∧ b < w.heap.size ∧ ∀ i, i < LL.length → ∃ u, w.cell? ⟨b, off + i, none⟩ = some u ∧ Sl w u (LL.getD i []))
theorem Sls.kept {w w' : World} {v : Value} {LL : List (List Int)} (h : Sls w v LL) (g : w.grownBy w' none) : Sls w' v LL := by
  obtain ⟨a, cap, rfl, h⟩ := h
  refine ⟨a, cap, rfl, ?_⟩
  rcases h with h | ⟨b, off, rfl, hb, hc⟩
  · exact .inl h
  · refine .inr ⟨b, off, rfl, Nat.lt_of_lt_of_le hb g.size, fun i hi => ?_⟩
    obtain ⟨u, hu, hs⟩ := hc i hi
    exact ⟨u, g.cell hu (fun e => by cases e), hs.kept g (.inl rfl)⟩
theorem Sls.below {w w' : World} {v : Value} {LL : List (List Int)} (h : Sls w v LL) (b : Below w.heap.size w w') : Sls w' v LL := h.kept (of_below b)

/-- two slices that lie in different blocks -/
def Apart (a b : Value × List Int) : Prop := ∀ g, a.1.ownBlock = some g → b.1.ownBlock ≠ some g
/-- v is a slice of slices of the call's own that reads as LL; all its blocks lie from lo on, below hi, each slice in one of its own -/
def OwnS (lo hi : Nat) (w : World) (v : Value) (LL : List (List Int)) : Prop :=
  ∃ D : List (Value × List Int), D.map (·.2) = LL ∧ w.ownsRow lo 31 1 v D.length (D.map (·.1)) ∧ (∀ k, v.ownBlock = some k → k < hi) ∧ (∀ p ∈ D, Own lo hi w p.1 p.2) ∧ D.Pairwise Apart
/-- outside of the blocks from lo to hi the world is as it was -/
structure Outs (lo hi : Nat) (w w' : World) : Prop where
  os : w'.os = w.os
  tape : w'.tape = w.tape
  output : w'.output = w.output
  size : w.heap.size ≤ w'.heap.size
  block : ∀ k, k < w.heap.size → (k < lo ∨ hi ≤ k) → w'.heap[k]? = w.heap[k]?

theorem own_mono {w : World} {base base' : Nat} {e : TypeId} {size : Nat} {v : Value} {n : Nat} {xs : List Value} (h : w.ownsRow base e size v n xs) (hb : base' ≤ base) : w.ownsRow base' e size v n xs := by
  obtain ⟨h1, h2⟩ := h
  refine ⟨h1, ?_⟩
  rcases h2 with h2 | ⟨g, cap, cur, hv, hg, r⟩
  · exact .inl h2
  · exact .inr ⟨g, cap, cur, hv, Nat.le_trans hb hg, r⟩
theorem own_kind {w : World} {B : Nat} {e : TypeId} {size : Nat} {v : Value} {n : Nat} {xs : List Value} (h : w.ownsRow B e size v n xs) : ∀ g, v.ownBlock = some g → ∃ c fz, w.heap[g]? = some (.cells c e fz) := by
  intro g e'
  obtain ⟨_, h2⟩ := h
  rcases h2 with ⟨rfl, _⟩ | ⟨g', cap, cur, rfl, hg, hh, _⟩
  · cases e'
  · cases e'
    exact ⟨_, _, hh⟩
theorem types_ne : (31 : Nat) ≠ 3 := by decide
/-- a slice of slices and a slice of numbers lie in different blocks -/
theorem own_ne {w : World} {lo lo' n n' : Nat} {v v' : Value} {xs xs' : List Value} (h : w.ownsRow lo 31 1 v n xs) (h' : w.ownsRow lo' 3 1 v' n' xs') : ∀ g, v'.ownBlock = some g → v.ownBlock ≠ some g := by
  intro g e e'
  obtain ⟨c, fz, hc⟩ := own_kind h g e'
  obtain ⟨c', fz', hc'⟩ := own_kind h' g e
  rw [hc] at hc'
  simp only [Option.some.injEq, Obj.cells.injEq] at hc'
  exact types_ne hc'.2.1
theorem own_ne' {w : World} {lo lo' n n' : Nat} {v v' : Value} {xs xs' : List Value} (h : w.ownsRow lo 31 1 v n xs) (h' : w.ownsRow lo' 3 1 v' n' xs') : v'.ownBlock = none ∨ v'.ownBlock ≠ v.ownBlock := by
  cases e : v'.ownBlock with
  | none => exact .inl rfl
  | some g => exact .inr (fun e' => own_ne h h' g e e'.symm)

theorem own_sub {lo lo' hi hi' : Nat} {w : World} {v : Value} {L : List Int} (h : Own lo hi w v L) (a : lo' ≤ lo) (b : hi ≤ hi') : Own lo' hi' w v L :=
  ⟨own_mono h.1 a, fun k e => Nat.lt_of_lt_of_le (h.2 k e) b⟩
theorem OwnS.sub {lo lo' hi hi' : Nat} {w : World} {v : Value} {LL : List (List Int)} (h : OwnS lo hi w v LL) (a : lo' ≤ lo) (b : hi ≤ hi') : OwnS lo' hi' w v LL := by
  obtain ⟨D, e, ho, hb, hi, hp⟩ := h
  exact ⟨D, e, own_mono ho a, fun k e => Nat.lt_of_lt_of_le (hb k e) b, fun p hp => own_sub (hi p hp) a b, hp⟩
theorem OwnS.kept {lo hi : Nat} {w w' : World} {v : Value} {LL : List (List Int)} (h : OwnS lo hi w v LL) (g : w.grownBy w' none) : OwnS lo hi w' v LL := by
  obtain ⟨D, e, ho, hb, hi, hp⟩ := h
  refine ⟨D, e, ho.kept g ?_, hb, fun p hp => (hi p hp).kept g, hp⟩
  cases v.ownBlock with
  | none => exact .inl rfl
  | some k => exact .inr (fun e => by cases e)
/-- what lies in other blocks stays -/
theorem row_outs {lo hi lo' hi' n : Nat} {t : TypeId} {w w' : World} {v : Value} {xs : List Value} (h : w.ownsRow lo t 1 v n xs) (hb : ∀ k, v.ownBlock = some k → k < hi) (g : Outs lo' hi' w w') (d : hi ≤ lo' ∨ hi' ≤ lo) : w'.ownsRow lo t 1 v n xs := by
  have h' := h
  obtain ⟨h1, h2⟩ := h
  refine ⟨h1, ?_⟩
  rcases h2 with h2 | ⟨b, cap, cur, rfl, hg, hh, r⟩
  · exact .inl h2
  · refine .inr ⟨b, cap, cur, rfl, hg, ?_, r⟩
    have l1 := h'.lt b rfl
    have l2 := hb b rfl
    rw [g.block b l1.2 (by omega)]
    exact hh
theorem own_outs {lo hi lo' hi' : Nat} {w w' : World} {v : Value} {L : List Int} (h : Own lo hi w v L) (g : Outs lo' hi' w w') (d : hi ≤ lo' ∨ hi' ≤ lo) : Own lo hi w' v L :=
  ⟨row_outs h.1 h.2 g d, h.2⟩
theorem OwnS.outs {lo hi lo' hi' : Nat} {w w' : World} {v : Value} {LL : List (List Int)} (h : OwnS lo hi w v LL) (g : Outs lo' hi' w w') (d : hi ≤ lo' ∨ hi' ≤ lo) : OwnS lo hi w' v LL := by
  obtain ⟨D, e, ho, hb, hi, hp⟩ := h
  exact ⟨D, e, row_outs ho hb g d, hb, fun p hp => own_outs (hi p hp) g d, hp⟩
theorem below_outs {a w w' : World} {lo hi : Nat} (b : Below a.heap.size a w) (hlo : a.heap.size ≤ lo) (g : Outs lo hi w w') : Below a.heap.size a w' :=
  ⟨g.os.trans b.os, g.tape.trans b.tape, g.output.trans b.output, Nat.le_trans b.size g.size, fun k hk => (g.block k (Nat.lt_of_lt_of_le hk b.size) (.inl (by omega))).trans (b.block k hk)⟩
theorem outs_none {lo hi : Nat} {w w' : World} (g : w.grownBy w' none) : Outs lo hi w w' := ⟨g.os, g.tape, g.output, g.size, fun k hk _ => g.block k hk (fun e => by cases e)⟩
theorem outs_by {lo hi : Nat} {w w' : World} {r : Option Nat} (g : w.grownBy w' r) (h : ∀ k, r = some k → lo ≤ k ∧ k < hi) : Outs lo hi w w' :=
  ⟨g.os, g.tape, g.output, g.size, fun k hk d => g.block k hk (fun e => by have := h k e.symm; omega)⟩
theorem outs_trans {lo hi : Nat} {a b c : World} (h : Outs lo hi a b) (k : Outs lo hi b c) : Outs lo hi a c :=
  ⟨k.os.trans h.os, k.tape.trans h.tape, k.output.trans h.output, Nat.le_trans h.size k.size, fun i hi d => (k.block i (Nat.lt_of_lt_of_le hi h.size) d).trans (h.block i hi d)⟩
theorem outs_refl (lo hi : Nat) (w : World) : Outs lo hi w w := ⟨rfl, rfl, rfl, Nat.le_refl _, fun _ _ _ => rfl⟩
theorem outs_sub {lo hi lo' hi' : Nat} {w w' : World} (h : Outs lo hi w w') (a : lo' ≤ lo) (b : hi ≤ hi') : Outs lo' hi' w w' :=
  ⟨h.os, h.tape, h.output, h.size, fun k hk d => h.block k hk (by omega)⟩

theorem map2_getD {D : List (Value × List Int)} {i : Nat} (h : i < D.length) : (D.map (·.2)).getD i [] = D[i].2 := by simp [h]
theorem OwnS.sls {lo hi : Nat} {w : World} {v : Value} {LL : List (List Int)} (h : OwnS lo hi w v LL) : Sls w v LL := by
  obtain ⟨D, rfl, ho, hb, hi, hp⟩ := h
  have ho' := ho
  obtain ⟨_, h2⟩ := ho
  rcases h2 with ⟨rfl, h0⟩ | ⟨g, cap, cur, rfl, hg, hh, hn, hm, hs, ht⟩
  · have : D = [] := List.eq_nil_of_length_eq_zero h0
    subst this
    exact ⟨none, 0, rfl, .inl rfl⟩
  · refine ⟨some ⟨g, 0, none⟩, cap, by rw [List.length_map], .inr ⟨g, 0, rfl, (Array.getElem?_eq_some_iff.1 hh).1, fun i hi' => ?_⟩⟩
    rw [List.length_map] at hi'
    refine ⟨D[i].1, ?_, ?_⟩
    · rw [Nat.zero_add, ho'.cellAt i (by omega)]
      simp [hi']
    · rw [map2_getD hi']
      exact (hi _ (List.getElem_mem hi')).sl
theorem OwnS.len {lo hi : Nat} {w : World} {v : Value} {LL : List (List Int)} (h : OwnS lo hi w v LL) : ∃ a cap, v = .slice a LL.length cap := by
  obtain ⟨a, cap, e, _⟩ := h.sls
  exact ⟨a, cap, e⟩

theorem infoSl : (Tryd.prog.info? 31).map (fun i => (i.zero, i.size, i.bytes)) = some (some (.slice none 0 0), 1, 24) := by kernel_rfl

/-- a copy of a list of lists in the making: k slices are laid -/
def Mid (w wr : World) (n : Nat) (LL : List (List Int)) : Prop :=
  ∃ D : List (Value × List Int), D.map (·.2) = LL ∧ wr.ownsRow w.heap.size 31 1 (.slice (some ⟨w.heap.size, 0, none⟩) n n) n (D.map (·.1) ++ List.replicate (n - D.length) (.slice none 0 0)) ∧ (∀ p ∈ D, Own w.heap.size wr.heap.size wr p.1 p.2) ∧ D.Pairwise Apart ∧ w.grownBy wr none
theorem Mid.start {w w1 : World} {n : Nat} (ho : w1.ownsRow w.heap.size 31 1 (.slice (some ⟨w.heap.size, 0, none⟩) n n) n (madeCells #[Value.slice none 0 0] n).toList) (g : w.grownBy w1 none) : Mid w w1 n [] := by
  refine ⟨[], rfl, ?_, (fun p hp => by cases hp), .nil, g⟩
  have e : (madeCells #[Value.slice none 0 0] n).toList = List.replicate n (.slice none 0 0) := by rw [toList_madeCells_one]
  rw [e] at ho
  simpa using ho
theorem Mid.grown {w wr : World} {n : Nat} {LL : List (List Int)} (h : Mid w wr n LL) : w.grownBy wr none := by
  obtain ⟨D, _, _, _, _, g⟩ := h
  exact g
theorem Mid.cell {w wr w1 : World} {n : Nat} {LL : List (List Int)} (h : Mid w wr n LL) (hk : LL.length < n) (g : wr.grownBy w1 none) :
    (∃ x, w1.cell? ⟨w.heap.size, LL.length, none⟩ = some x) ∧ w1.frozen? ⟨w.heap.size, LL.length, none⟩ = false := by
  obtain ⟨D, rfl, ho, hi, hp, hg⟩ := h
  have ho1 := ho.kept g (.inr (fun e => by cases e))
  refine ⟨?_, ho1.frozenAt _⟩
  rw [List.length_map] at *
  rw [ho1.cellAt _ (by omega)]
  exact ⟨_, List.getElem?_eq_getElem (by simp; omega)⟩
theorem Mid.step {w wr w1 : World} {n : Nat} {LL : List (List Int)} {u : Value} {L : List Int} (h : Mid w wr n LL) (hk : LL.length < n) (g : wr.grownBy w1 none) (hu : w1.ownsRow wr.heap.size 3 1 u L.length (ints L)) :
    Mid w (w1.setCell ⟨w.heap.size, LL.length, none⟩ u) n (LL ++ [L]) := by
  obtain ⟨D, rfl, ho, hi, hp, hg⟩ := h
  rw [List.length_map] at *
  have ho1 := ho.kept g (.inr (fun e => by cases e))
  have st := sl.grown_setCell w1 w.heap.size D.length u
  have hsz := g.size
  have hlt := (ho.lt w.heap.size rfl).2
  refine ⟨D ++ [(u, L)], by simp, ?_, ?_, ?_, ?_⟩
  · have e : (D ++ [(u, L)]).map (fun p : Value × List Int => p.1) ++ List.replicate (n - (D ++ [(u, L)]).length) (Value.slice none 0 0) = (D.map (fun p : Value × List Int => p.1) ++ List.replicate (n - D.length) (Value.slice none 0 0)).set D.length u := by
      have e1 : n - D.length = (n - (D.length + 1)) + 1 := by omega
      rw [e1, List.replicate_succ, List.set_append_right _ _ (by rw [List.length_map]; exact Nat.le_refl _)]
      simp
    rw [e]
    exact (ho1.stored D.length u).1
  · intro p hp'
    rw [List.mem_append, List.mem_singleton] at hp'
    have sz : (w1.setCell ⟨w.heap.size, D.length, none⟩ u).heap.size = w1.heap.size := by simp [World.setCell]
    rw [sz]
    rcases hp' with hp' | rfl
    · have k := (hi p hp').kept g
      refine ⟨k.1.kept st ?_, fun k' e => Nat.lt_of_lt_of_le ((hi p hp').2 k' e) hsz⟩
      have := own_ne' ho1 k.1
      exact this
    · refine ⟨(own_mono hu (by omega)).kept st ?_, fun k e => (hu.lt k e).2⟩
      cases e : u.ownBlock with
      | none => exact .inl rfl
      | some k => exact .inr (fun e' => by cases e'; have := (hu.lt _ e).1; omega)
  · rw [List.pairwise_append]
    refine ⟨hp, List.pairwise_singleton _ _, fun a ha b hb => ?_⟩
    rw [List.mem_singleton] at hb
    subst hb
    intro k e e'
    have h1 := (hi a ha).2 k e
    have h2 := (hu.lt k e').1
    omega
  · exact ⟨st.os.trans (g.os.trans hg.os), st.tape.trans (g.tape.trans hg.tape), st.output.trans (g.output.trans hg.output), Nat.le_trans hg.size (Nat.le_trans hsz st.size), fun k hk _ => by
      rw [st.block k (by have := hg.size; omega) (by intro e; cases e; omega), g.block k (by have := hg.size; omega) (fun e => by cases e), hg.block k hk (fun e => by cases e)]⟩
theorem Mid.done {w wr : World} {n : Nat} {LL : List (List Int)} (h : Mid w wr n LL) (hn : LL.length = n) : OwnS w.heap.size wr.heap.size wr (.slice (some ⟨w.heap.size, 0, none⟩) n n) LL ∧ w.grownBy wr none := by
  obtain ⟨D, rfl, ho, hi, hp, hg⟩ := h
  rw [List.length_map] at hn
  subst hn
  refine ⟨⟨D, rfl, by simpa using ho, fun k e => ?_, hi, hp⟩, hg⟩
  exact (ho.lt k e).2

theorem take_snoc (LL : List (List Int)) (k : Nat) (h : k < LL.length) : LL.take (k + 1) = LL.take k ++ [LL.getD k []] := by
  rw [List.take_succ_eq_append_getElem h]
  simp [h]

set_option maxHeartbeats 400000 in
/-- a copy of a list of lists, in blocks of its own -/
theorem toIntSS (v : Value) (LL : List (List Int)) (w : World) (hn : LL.length ≤ 1048576) (hin : ∀ i, (LL.getD i []).length ≤ 1048576) (hv : Sls w v LL) :
    Calls Tryd.prog 103 #[v] w fun e w' => ∃ u, e = .returned u ∧ OwnS w.heap.size w'.heap.size w' u LL ∧ w.grownBy w' none := by
  obtain ⟨a, cap, rfl, ha⟩ := hv
  obtain ⟨i0, hi, hz0, hz1, hz2⟩ := info_parts infoSl
  have HA := hide ha
  clear ha
  go_enter Tryd.func103, Tryd.ntmps103
  go_wp2_with (first | (at_make; refine wpList_make_full _ rfl _ _ 24 rfl w.heap.size 31 i0 (.slice none 0 0) 1 Tryd.underlying24 hi hz0 hz1 _ _ _ _ LL.length rfl rfl (by rfl) (by rfl) ?b1 ?b2 ?b3 ?_) | go_in)
  case b1 => rw [hz2]; omega
  case b2 => unfold maxLen; omega
  case b3 => exact Nat.le_refl _
  intro w1 hown hgrow
  have O := hide (Mid.start hown hgrow)
  clear hown hgrow
  go_wp2
  go_loopw [4] (fun i wr => ∃ k : Nat, k ≤ LL.length ∧ i = .int .i64 k ∧ Hid (Mid w wr LL.length (LL.take k))) (fun i _ => LL.length - (intOf i).toNat)
  case atStart => exact ⟨0, Nat.zero_le _, rfl, O⟩
  case round =>
    obtain ⟨k, hk, rfl, hmid⟩ := hrel
    by_cases hlt : k < LL.length
    · rcases unhide HA with h | ⟨b, off, rfl, hb, hcb⟩
      · rw [h] at hlt
        simp at hlt
      · obtain ⟨u, hu, hs⟩ := hcb k hlt
        have hg := (unhide hmid).grown
        have c1 : wr.cell? ⟨b, off + k, none⟩ = some u := hg.cell hu (fun e => by cases e)
        have hs' := hs.kept hg (.inl rfl)
        have hL := hin k
        have hts := take_snoc LL k hlt
        have htl : (LL.take k).length = k := by rw [List.length_take]; omega
        generalize LL.getD k [] = L at *
        have CT := hide (sl.toIntS u L wr hL hs')
        have HT := hide hts
        have HL := hide htl
        have hi' : (k : Int) < (LL.length : Int) := by omega
        clear hs hs' hcb hu hg O hts htl HA
        go_wp2_with fail
        refine (unhide CT).mono ?_; rintro e w2 ⟨rfl, o2, g2⟩
        have c2 := (unhide hmid).cell (by rw [unhide HL]; exact hlt) g2
        rw [unhide HL] at c2
        obtain ⟨⟨x, hx⟩, hf⟩ := c2
        have M2 := hide ((unhide hmid).step (by rw [unhide HL]; exact hlt) g2 o2)
        rw [unhide HL, ← unhide HT] at M2
        clear o2 g2 hmid CT
        go_wp2
        go_roundw
        case rel => exact ⟨k + 1, by omega, by go_num, M2⟩
        case measure => simp [intOf]; omega
    · have hi' : ¬ (k : Int) < (LL.length : Int) := by omega
      have e : LL.take k = LL := List.take_of_length_le (by omega)
      rw [e] at hmid
      have R := hide ((unhide hmid).done rfl)
      clear HA hmid O e
      go_wp2
      go_ret
      exact ⟨_, rfl, unhide R⟩

/-- how many values a list of lists holds, each list counted too -/
def tot (LL : List (List Int)) : Nat := LL.length + (LL.map List.length).sum
def used (LL : List (List Int)) (k : Nat) : Nat := LL.length + ((LL.take k).map List.length).sum
theorem used_step (LL : List (List Int)) (k : Nat) (h : k < LL.length) : used LL (k + 1) = used LL k + (LL.getD k []).length := by
  unfold used
  rw [take_snoc LL k h]
  simp [Nat.add_assoc]
theorem used_all (LL : List (List Int)) (k : Nat) (h : ¬ k < LL.length) : used LL k = tot LL := by
  unfold used tot
  rw [List.take_of_length_le (by omega)]
theorem tot_len (LL : List (List Int)) : LL.length ≤ tot LL := Nat.le_add_right _ _
theorem sum_in (l : List (List Int)) (i : Nat) : (l.getD i []).length ≤ (l.map List.length).sum := by
  induction l generalizing i with
  | nil => simp
  | cons x l ih =>
    cases i with
    | zero => simp
    | succ i =>
      have := ih i
      simp at *
      omega
theorem tot_in (LL : List (List Int)) (i : Nat) : (LL.getD i []).length ≤ tot LL := Nat.le_trans (sum_in LL i) (Nat.le_add_left _ _)

theorem szIntS (a : Option Addr) (n cap : Nat) (left : Int) (w : World) (h0 : 0 ≤ left) (h1 : left ≤ 1048576) (hn : n ≤ 9223372036854775807) :
    Calls Tryd.prog 149 #[.slice a n cap, .int .i64 left] w fun e w' => e = .returned (.int .i64 (if left < (n : Int) then -1 else left - n)) ∧ w' = w := by
  by_cases h : left < (n : Int)
  · rw [if_pos h]
    have h2 : left - (n : Int) < 0 := by omega
    go_enter Tryd.func149, Tryd.ntmps149
    go_wp2
    go_ret
    exact ⟨rfl, rfl⟩
  · rw [if_neg h]
    have h2 : ¬ left - (n : Int) < 0 := by omega
    go_enter Tryd.func149, Tryd.ntmps149
    go_wp2
    go_ret
    exact ⟨rfl, rfl⟩

theorem szIntSS (v : Value) (LL : List (List Int)) (left : Int) (w : World) (h0 : 0 ≤ left) (h1 : left ≤ 1048576) (hn : LL.length ≤ 9223372036854775807) (hin : ∀ i, (LL.getD i []).length ≤ 9223372036854775807) (hv : Sls w v LL) :
    Calls Tryd.prog 102 #[v, .int .i64 left] w fun e w' => ∃ r : Int, e = .returned (.int .i64 r) ∧ w' = w ∧ (r = -1 ∨ 0 ≤ r ∧ r + (tot LL : Int) = left) := by
  obtain ⟨a, cap, rfl, ha⟩ := hv
  by_cases hl : left < (LL.length : Int)
  · have h2 : left - (LL.length : Int) < 0 := by omega
    clear ha
    go_enter Tryd.func102, Tryd.ntmps102
    go_wp2
    go_ret
    exact ⟨_, rfl, rfl, .inl rfl⟩
  · have h2 : ¬ left - (LL.length : Int) < 0 := by omega
    have HA := hide ha
    clear ha
    go_enter Tryd.func102, Tryd.ntmps102
    go_wp2
    go_loop [1, 5] (fun q i => ∃ k : Nat, k ≤ LL.length ∧ i = .int .i64 k ∧ ∃ r : Int, q = .int .i64 r ∧ 0 ≤ r ∧ Hid (r + (used LL k : Int) = left)) (fun _ i => LL.length - (intOf i).toNat)
    case atStart => exact ⟨0, Nat.zero_le _, rfl, _, rfl, by omega, by show _ = _; simp [used]⟩
    case round =>
      obtain ⟨k, hk, rfl, r, rfl, hr, hu⟩ := hrel
      by_cases hlt : k < LL.length
      · rcases unhide HA with h | ⟨b, off, rfl, hb, hcb⟩
        · rw [h] at hlt
          simp at hlt
        · obtain ⟨u, c1, hs⟩ := hcb k hlt
          have us := used_step LL k hlt
          have hl' := hin k
          generalize LL.getD k [] = L at *
          obtain ⟨a', cap', rfl, _⟩ := hs
          have hi' : (k : Int) < (LL.length : Int) := by omega
          have hr1 : r ≤ 1048576 := by have := unhide hu; omega
          have C := szIntS a' L.length cap' r w hr hr1 hl'
          by_cases hq : r < (L.length : Int)
          · rw [if_pos hq] at C
            have C' := hide C
            clear C hq hcb HA us hu
            go_wp2_with fail
            refine (unhide C').mono ?_; rintro e w' ⟨rfl, rfl⟩
            go_wp2_with fail
            go_ret
            exact ⟨_, rfl, rfl, .inl rfl⟩
          · rw [if_neg hq] at C
            have C' := hide C
            have hu' : Hid (r - (L.length : Int) + (used LL (k + 1) : Int) = left) := by show _ = _; have := unhide hu; omega
            have hq' : ¬ r - (L.length : Int) < 0 := by omega
            have hq2 : 0 ≤ r - (L.length : Int) := by omega
            clear C hq hcb HA us hu
            go_wp2_with fail
            refine (unhide C').mono ?_; rintro e w' ⟨rfl, rfl⟩
            go_wp2_with fail
            go_round
            case rel => exact ⟨k + 1, by omega, by go_num, _, rfl, hq2, hu'⟩
            case measure => simp [intOf]; omega
      · have hi' : ¬ (k : Int) < (LL.length : Int) := by omega
        have hu' : Hid (r + (tot LL : Int) = left) := by show _ = _; rw [← used_all LL k hlt]; exact unhide hu
        clear HA hu
        go_wp2
        go_ret
        exact ⟨_, rfl, rfl, .inr ⟨hr, unhide hu'⟩⟩

theorem eqIntSq (v u : Value) (L : List Int) (w : World) (hL : L.length ≤ 1048576) (hv : Sl w v L) (hu : Sl w u L) :
    Calls Tryd.prog 104 #[v, u] w fun e w' => e = .returned (.bool true) ∧ ∃ m, w' = w.drewN m := by
  obtain ⟨a, cap, rfl, ha⟩ := hv
  obtain ⟨c, cap', rfl, hc⟩ := hu
  rcases ha with rfl | ⟨b, off, rfl, hb, hcb⟩
  · go_enter Tryd.func104, Tryd.ntmps104
    go_wp2
    refine wp_loop_rounds 1 ?_
    rw [rounds_succ]
    go_wp2
    go_ret
    exact ⟨rfl, 0, rfl⟩
  · rcases hc with rfl | ⟨d, off', rfl, hd, hcd⟩
    · go_enter Tryd.func104, Tryd.ntmps104
      go_wp2
      refine wp_loop_rounds 1 ?_
      rw [rounds_succ]
      go_wp2
      go_ret
      exact ⟨rfl, 0, rfl⟩
    · have HB := hide hcb
      have HD := hide hcd
      clear hcb hcd
      go_enter Tryd.func104, Tryd.ntmps104
      go_wp2
      go_loopw [5] (fun i wr => ∃ k : Nat, k ≤ L.length ∧ i = .int .i64 k ∧ ∃ m, Hid (wr = w.drewN m)) (fun i _ => L.length - (intOf i).toNat)
      case atStart => exact ⟨0, Nat.zero_le _, rfl, 0, rfl⟩
      case round =>
        obtain ⟨k, hk, rfl, m, hg⟩ := hrel
        have hg' := unhide hg
        clear hg
        subst hg'
        by_cases hlt : k < L.length
        · have c1 : w.cell? ⟨b, off + k, none⟩ = some (.int .i64 (L.getD k 0)) := unhide HB k hlt
          have c2 : w.cell? ⟨d, off' + k, none⟩ = some (.int .i64 (L.getD k 0)) := unhide HD k hlt
          have hi : (k : Int) < (L.length : Int) := by omega
          generalize L.getD k 0 = x at *
          go_wp2
          go_quiet (fail)
          go_wp2
          go_roundw
          case rel => exact ⟨k + 1, by omega, by go_num, _, rfl⟩
          case measure => simp [intOf]; omega
        · have hi : ¬ (k : Int) < (L.length : Int) := by omega
          go_wp2
          go_ret
          exact ⟨rfl, m, rfl⟩
theorem Sl.drewN {w : World} {v : Value} {L : List Int} (h : Sl w v L) (n : Nat) : Sl (w.drewN n) v L := h.kept (grown_drewN w n) (.inl rfl)

/-- equal lists of lists: eqIntSS says yes -/
theorem eqIntSS (v u : Value) (LL : List (List Int)) (w : World) (hn : LL.length ≤ 1048576) (hin : ∀ i, (LL.getD i []).length ≤ 1048576) (hv : Sls w v LL) (hu : Sls w u LL) :
    Calls Tryd.prog 46 #[v, u] w fun e w' => e = .returned (.bool true) ∧ w.grownBy w' none := by
  obtain ⟨a, cap, rfl, ha⟩ := hv
  obtain ⟨c, cap', rfl, hc⟩ := hu
  have HA := hide ha
  have HC := hide hc
  clear ha hc
  go_enter Tryd.func46, Tryd.ntmps46
  go_wp2
  go_loopw [5] (fun i wr => ∃ k : Nat, k ≤ LL.length ∧ i = .int .i64 k ∧ w.grownBy wr none) (fun i _ => LL.length - (intOf i).toNat)
  case atStart => exact ⟨0, Nat.zero_le _, rfl, grown_refl _⟩
  case round =>
    obtain ⟨k, hk, rfl, hg⟩ := hrel
    by_cases hlt : k < LL.length
    · rcases unhide HA with h | ⟨b, off, rfl, hb, hcb⟩
      · rw [h] at hlt
        simp at hlt
      · rcases unhide HC with h | ⟨d, off', rfl, hd, hcd⟩
        · rw [h] at hlt
          simp at hlt
        · obtain ⟨x, hx, sx⟩ := hcb k hlt
          obtain ⟨y, hy, sy⟩ := hcd k hlt
          have c1 : wr.cell? ⟨b, off + k, none⟩ = some x := hg.cell hx (fun e => by cases e)
          have c2 : wr.cell? ⟨d, off' + k, none⟩ = some y := hg.cell hy (fun e => by cases e)
          have hL := hin k
          generalize LL.getD k [] = L at *
          have C := hide (fun n => eqIntSq x y L (wr.drewN n) hL ((sx.kept hg (.inl rfl)).kept (grown_drewN wr n) (.inl rfl)) ((sy.kept hg (.inl rfl)).kept (grown_drewN wr n) (.inl rfl)))
          have hi : (k : Int) < (LL.length : Int) := by omega
          have G := hide hg
          clear hg hcb hcd HA HC hx hy sx sy
          go_wp2
          go_quiet (first | (go_at_call 104; exact Calls.quiet_of (unhide C _)))
          go_wp2
          go_roundw
          case rel => exact ⟨k + 1, by omega, by go_num, grown_trans (unhide G) (grown_drewN _ _)⟩
          case measure => simp [intOf]; omega
    · have hi : ¬ (k : Int) < (LL.length : Int) := by omega
      have G := hide hg
      clear hg HA HC
      go_wp2
      go_ret
      exact ⟨rfl, unhide G⟩

/-- the marks of a list of lists, one behind the other -/
def marksS (k : Int) : List (List Int) → List (List Int)
  | [] => []
  | L :: l => marks k L.length :: marksS (k + (L.length : Int)) l
def sumLen (LL : List (List Int)) : Nat := (LL.map List.length).sum
theorem marksS_length (k : Int) (LL : List (List Int)) : (marksS k LL).length = LL.length := by
  induction LL generalizing k with
  | nil => rfl
  | cons L l ih => simp [marksS, ih]
theorem marksS_append (k : Int) (A B : List (List Int)) : marksS k (A ++ B) = marksS k A ++ marksS (k + (sumLen A : Int)) B := by
  induction A generalizing k with
  | nil => simp [marksS, sumLen]
  | cons L l ih =>
    rw [List.cons_append, marksS, marksS, ih, List.cons_append]
    congr 3
    simp only [sumLen, List.map_cons, List.sum_cons]
    omega
theorem marksS_one (k : Int) (L : List Int) : marksS k [L] = [marks k L.length] := rfl
theorem sumLen_snoc (A : List (List Int)) (L : List Int) : sumLen (A ++ [L]) = sumLen A + L.length := by simp [sumLen]
theorem sumLen_take (LL : List (List Int)) (k : Nat) : sumLen (LL.take k) ≤ sumLen LL := by
  have e : sumLen LL = sumLen (LL.take k) + sumLen (LL.drop k) := by
    conv => lhs; rw [← List.take_append_drop k LL]
    unfold sumLen
    rw [List.map_append, List.sum_append]
  omega
theorem marksS_getD (k : Int) (LL : List (List Int)) (i : Nat) (h : i < LL.length) : (marksS k LL).getD i [] = marks (k + (sumLen (LL.take i) : Int)) (LL.getD i []).length := by
  induction LL generalizing k i with
  | nil => simp at h
  | cons L l ih =>
    cases i with
    | zero => simp [marksS, sumLen]
    | succ i =>
      have := ih (k + (L.length : Int)) i (by simpa using h)
      rw [marksS, List.getD_cons_succ, this, List.getD_cons_succ, List.take_succ_cons]
      congr 1
      simp only [sumLen, List.map_cons, List.sum_cons]
      omega
theorem marksS_sum (k : Int) (LL : List (List Int)) : sumLen (marksS k LL) = sumLen LL := by
  induction LL generalizing k with
  | nil => rfl
  | cons L l ih =>
    have := ih (k + (L.length : Int))
    simp [sumLen, marksS, sl.marks_length] at *
    exact this
theorem sumLen_le (LL : List (List Int)) : sumLen LL ≤ tot LL := Nat.le_add_left _ _

/-- a list of lists of which the first j are marked -/
def MarkMid (lo hi : Nat) (w wr : World) (v : Value) (k : Int) (LL : List (List Int)) (j : Nat) : Prop :=
  ∃ D E : List (Value × List Int), D.length = j ∧ (D ++ E).map (·.2) = marksS k (LL.take j) ++ LL.drop j ∧ wr.ownsRow lo 31 1 v (D ++ E).length ((D ++ E).map (·.1)) ∧ (∀ p ∈ D ++ E, Own lo hi wr p.1 p.2) ∧ (D ++ E).Pairwise Apart ∧ Outs lo hi w wr
theorem MarkMid.start {lo hi : Nat} {w : World} {v : Value} {LL : List (List Int)} (k : Int) (h : OwnS lo hi w v LL) : MarkMid lo hi w w v k LL 0 := by
  obtain ⟨D, e, ho, hb, hi, hp⟩ := h
  exact ⟨[], D, rfl, by simpa [marksS] using e, by simpa using ho, by simpa using hi, by simpa using hp, outs_refl _ _ _⟩
theorem MarkMid.done {lo hi : Nat} {w wr : World} {v : Value} {LL : List (List Int)} {k : Int} {j : Nat} (h : MarkMid lo hi w wr v k LL j) (hb : ∀ k, v.ownBlock = some k → k < hi) (hj : LL.length ≤ j) : OwnS lo hi wr v (marksS k LL) ∧ Outs lo hi w wr := by
  obtain ⟨D, E, hl, he, ho, hi, hp, g⟩ := h
  rw [List.take_of_length_le hj, List.drop_eq_nil_of_le hj, List.append_nil] at he
  exact ⟨⟨D ++ E, he, ho, hb, hi, hp⟩, g⟩
/-- the next one: where it lies, and what its marks do -/
theorem MarkMid.next {lo hi : Nat} {w wr : World} {v : Value} {LL : List (List Int)} {k : Int} {j : Nat} (h : MarkMid lo hi w wr v k LL j) (hj : j < LL.length) :
    ∃ g cap u, v = .slice (some ⟨g, 0, none⟩) LL.length cap ∧ wr.cell? ⟨g, j, none⟩ = some u ∧ wr.ownsRow lo 3 1 u (LL.getD j []).length (ints (LL.getD j [])) ∧
      ∀ w1, w1.ownsRow lo 3 1 u (LL.getD j []).length (ints (marks (k + (sumLen (LL.take j) : Int)) (LL.getD j []).length)) → wr.grownBy w1 u.ownBlock → MarkMid lo hi w w1 v k LL (j + 1) := by
  obtain ⟨D, E, hl, he, ho, hin, hp, g⟩ := h
  have ln : (D ++ E).length = LL.length := by
    have := congrArg List.length he
    rw [List.length_map, List.length_append, List.length_append, marksS_length, List.length_take, List.length_drop] at this
    rw [List.length_append, this]
    omega
  have eE : E.map (·.2) = LL.drop j := by
    have := congrArg (List.drop j) he
    rw [List.map_append, List.drop_append_of_le_length (by simp [hl]), List.drop_append_of_le_length (by rw [marksS_length, List.length_take]; omega)] at this
    rw [List.drop_eq_nil_of_le (by simp [hl]), List.drop_eq_nil_of_le (by rw [marksS_length, List.length_take]; omega)] at this
    simpa using this
  have eD : D.map (·.2) = marksS k (LL.take j) := by
    have := congrArg (List.take j) he
    rw [List.map_append, List.take_append_of_le_length (by simp [hl]), List.take_append_of_le_length (by rw [marksS_length, List.length_take]; omega)] at this
    rw [List.take_of_length_le (by simp [hl]), List.take_of_length_le (by rw [marksS_length, List.length_take]; omega)] at this
    exact this
  rw [List.drop_eq_getElem_cons hj] at eE
  have gd : LL.getD j [] = LL[j] := by simp [hj]
  rw [gd]
  match E, eE with
  | (u, L) :: E', eE =>
    rw [List.map_cons, List.cons.injEq] at eE
    obtain ⟨eL, eE'⟩ := eE
    simp only at eL
    subst eL
    have hu : Own lo hi wr u LL[j] := hin (u, LL[j]) (by simp)
    rw [ln] at ho
    obtain ⟨hx, hf⟩ := ho
    rcases hf with ⟨rfl, h0⟩ | ⟨g', cap, cur, rfl, r⟩
    · omega
    · have ho' : wr.ownsRow lo 31 1 (.slice (some ⟨g', 0, none⟩) LL.length cap) LL.length ((D ++ (u, LL[j]) :: E').map (·.1)) := ⟨hx, .inr ⟨g', cap, cur, rfl, r⟩⟩
      refine ⟨g', cap, u, rfl, ?_, hu.1, fun w1 h1 g1 => ?_⟩
      · rw [ho'.cellAt j (by omega)]
        simp [hl]
      · have hu' : Own lo hi w1 u (marks (k + (sumLen (LL.take j) : Int)) LL[j].length) := ⟨by rw [sl.marks_length]; exact h1, hu.2⟩
        rw [List.pairwise_append, List.pairwise_cons] at hp
        obtain ⟨pD, ⟨pu, pE⟩, pc⟩ := hp
        have kp : ∀ p : Value × List Int, (p ∈ D ∨ p ∈ E') → p.1.ownBlock = none ∨ p.1.ownBlock ≠ u.ownBlock := by
          intro p hp
          cases e : p.1.ownBlock with
          | none => exact .inl rfl
          | some q =>
            refine .inr (fun e' => ?_)
            rcases hp with hp | hp
            · exact pc p hp (u, LL[j]) (by simp) q e e'.symm
            · exact pu p hp q e'.symm e
        refine ⟨D ++ [(u, marks (k + (sumLen (LL.take j) : Int)) LL[j].length)], E', by simp [hl], ?_, ?_, ?_, ?_, ?_⟩
        · rw [List.append_assoc, List.map_append, eD, take_snoc LL j hj, gd, marksS_append, marksS_one]
          simp [eE']
        · have : ((D ++ [(u, marks (k + (sumLen (LL.take j) : Int)) LL[j].length)]) ++ E').length = LL.length := by rw [← ln]; simp
          rw [this]
          have e2 : ((D ++ [(u, marks (k + (sumLen (LL.take j) : Int)) LL[j].length)]) ++ E').map (fun p : Value × List Int => p.1) = (D ++ (u, LL[j]) :: E').map (fun p : Value × List Int => p.1) := by simp
          rw [e2]
          refine ho'.kept g1 (.inr ?_)
          have := own_ne ho' hu.1
          intro e
          exact this g' e.symm rfl
        · intro p hp'
          rw [List.append_assoc, List.mem_append, List.singleton_append, List.mem_cons] at hp'
          rcases hp' with hp' | rfl | hp'
          · have := hin p (by simp [hp'])
            exact ⟨this.1.kept g1 (kp p (.inl hp')), this.2⟩
          · exact hu'
          · have := hin p (by simp [hp'])
            exact ⟨this.1.kept g1 (kp p (.inr hp')), this.2⟩
        · rw [List.append_assoc, List.pairwise_append, List.singleton_append, List.pairwise_cons]
          refine ⟨pD, ⟨fun p hp => pu p hp, pE⟩, fun a ha b hb => ?_⟩
          rw [List.mem_cons] at hb
          rcases hb with rfl | hb
          · exact pc a ha (u, LL[j]) (by simp)
          · exact pc a ha b (by simp [hb])
        · exact outs_trans g (outs_by g1 (fun q e => ⟨(hu.1.lt q e).1, hu.2 q e⟩))

theorem OwnS.hi {lo hi : Nat} {w : World} {v : Value} {LL : List (List Int)} (h : OwnS lo hi w v LL) : ∀ k, v.ownBlock = some k → k < hi := by
  obtain ⟨D, e, ho, hb, hi, hp⟩ := h
  exact hb

/-- marks are written into a list of lists of the call's own -/
theorem markIntSS (v : Value) (LL : List (List Int)) (k : Int) (lo hi : Nat) (w : World) (hn : tot LL ≤ 1048576) (k0 : 0 ≤ k) (k1 : k ≤ 1073741824) (ho : OwnS lo hi w v LL) :
    Calls Tryd.prog 47 #[v, .int .i64 k] w fun e w' => e = .returned (.int .i64 (k + (sumLen LL : Int))) ∧ OwnS lo hi w' v (marksS k LL) ∧ Outs lo hi w w' := by
  obtain ⟨a, cap, rfl⟩ := ho.len
  have hnl := Nat.le_trans (tot_len LL) hn
  have st := hide (MarkMid.start k ho)
  have hb := hide ho.hi
  clear ho
  go_enter Tryd.func47, Tryd.ntmps47
  go_wp2
  go_loopw [1, 5] (fun q i wr => ∃ j : Nat, j ≤ LL.length ∧ i = .int .i64 j ∧ q = .int .i64 (k + (sumLen (LL.take j) : Int)) ∧ Hid (MarkMid lo hi w wr (.slice a LL.length cap) k LL j)) (fun _ i _ => LL.length - (intOf i).toNat)
  case atStart => exact ⟨0, Nat.zero_le _, rfl, by simp [sumLen], st⟩
  case round =>
    obtain ⟨j, hj, rfl, rfl, hm⟩ := hrel
    clear st
    by_cases hlt : j < LL.length
    · obtain ⟨g, cap', u, e, c1, hu, go⟩ := (unhide hm).next hlt
      simp only [Value.slice.injEq] at e
      obtain ⟨rfl, _, rfl⟩ := e
      have hL := Nat.le_trans (tot_in LL j) hn
      have sn := sumLen_snoc (LL.take j) (LL.getD j [])
      rw [← take_snoc LL j hlt] at sn
      have sb := Nat.le_trans (sumLen_take LL j) (Nat.le_trans (sumLen_le LL) hn)
      have hi' : (j : Int) < (LL.length : Int) := by have := hlt; omega
      generalize LL.getD j [] = L at *
      generalize sumLen (LL.take j) = s at *
      have C := hide (sl.markIntS u L (k + (s : Int)) lo wr hL (by omega) (by omega) hu)
      have GO := hide go
      have SL := hide sn
      clear hu go sn hm
      go_wp2_with fail
      refine (unhide C).mono ?_; rintro e w1 ⟨rfl, o1, g1⟩
      have M := hide (unhide GO w1 o1 g1)
      clear o1 g1 GO C
      go_wp2_with fail
      go_roundw
      case rel => exact ⟨j + 1, by omega, by go_num, by rw [unhide SL]; go_num, M⟩
      case measure => simp [intOf]; omega
    · have hi' : ¬ (j : Int) < (LL.length : Int) := by omega
      have R := hide ((unhide hm).done (unhide hb) (by omega))
      have e : Hid (LL.take j = LL) := by show _ = _; exact List.take_of_length_le (by omega)
      clear hm
      go_wp2
      go_ret
      exact ⟨ret_int (by rw [unhide e]), unhide R⟩

/-- the marks are there still -/
theorem heldIntSS (v : Value) (LL : List (List Int)) (k : Int) (w : World) (hn : tot LL ≤ 1048576) (k0 : 0 ≤ k) (k1 : k ≤ 1073741824) (hv : Sls w v (marksS k LL)) :
    Calls Tryd.prog 48 #[v, .int .i64 k] w fun e w' => e = .returned (.int .i64 (k + (sumLen LL : Int))) ∧ w' = w := by
  obtain ⟨a, cap, rfl, ha⟩ := hv
  rw [marksS_length]
  have hnl := Nat.le_trans (tot_len LL) hn
  have HA := hide ha
  clear ha
  go_enter Tryd.func48, Tryd.ntmps48
  go_wp2
  go_loop [1, 5] (fun q i => ∃ j : Nat, j ≤ LL.length ∧ i = .int .i64 j ∧ q = .int .i64 (k + (sumLen (LL.take j) : Int))) (fun _ i => LL.length - (intOf i).toNat)
  case atStart => exact ⟨0, Nat.zero_le _, rfl, by simp [sumLen]⟩
  case round =>
    obtain ⟨j, hj, rfl, rfl⟩ := hrel
    by_cases hlt : j < LL.length
    · rcases unhide HA with h | ⟨b, off, rfl, hb, hcb⟩
      · have := marksS_length k LL
        rw [h] at this
        simp at this
        omega
      · obtain ⟨u, c1, hs⟩ := hcb j (by rw [marksS_length]; exact hlt)
        rw [marksS_getD k LL j hlt] at hs
        have hL := Nat.le_trans (tot_in LL j) hn
        have sn := sumLen_snoc (LL.take j) (LL.getD j [])
        rw [← take_snoc LL j hlt] at sn
        have sb := Nat.le_trans (sumLen_take LL j) (Nat.le_trans (sumLen_le LL) hn)
        have hi' : (j : Int) < (LL.length : Int) := by omega
        generalize LL.getD j [] = L at *
        generalize sumLen (LL.take j) = s at *
        have C := hide (sl.heldIntS u L.length (k + (s : Int)) w hL (by omega) (by omega) hs)
        have SL := hide sn
        have hq : ¬ k + (s : Int) + (L.length : Int) < 0 := by omega
        clear hs sn hcb HA
        go_wp2_with fail
        refine (unhide C).mono ?_; rintro e w' ⟨rfl, rfl⟩
        go_wp2_with fail
        go_round
        case rel => exact ⟨j + 1, by omega, by go_num, by rw [unhide SL]; go_num⟩
        case measure => simp [intOf]; omega
    · have hi' : ¬ (j : Int) < (LL.length : Int) := by omega
      have e : Hid (LL.take j = LL) := by show _ = _; exact List.take_of_length_le (by omega)
      clear HA
      go_wp2
      go_ret
      exact ⟨ret_int (by rw [unhide e]), rfl⟩
end Go.Proofs.YtibpnocpafppaaaDoor.css
