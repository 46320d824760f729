/- Lists of pairs of numbers in memory, as the walks here speak of them, and what the small helpers on them (a size, a copy, an equality, marks) do; no condition but on sizes. -/
import Derived.Test.YtmmmldcnadidkaaCf
import Derived.OpenShut
import Derived.Deep.DeepCutAuto
import Derived.Deep.Slices
import Derived.ChangeSlices
import Derived.Deep.RegionHeld3
import Derived.BigQuiet
namespace Go.Proofs.Ytmmmldcnadidkaa.ed
open Go.ChangeShapes Go.WideShapes Go.ChangeAt Go.RowKit
open Go.Proofs.Ytmmmldcnadidkaa.sl (hide unhide ret_int ret_bool grown_refl grown_trans grown_drewN below_of of_below)
open Go.Proofs.Ytmmmldcnadidkaa.css (Outs outs_trans outs_none outs_by outs_refl own_mono own_kind)
open Go.Proofs.Ytmmmldcnadidkaa.cf (Box)
set_option linter.unusedVariables false
/-- the cells of n pairs, as f tells them -/
def cellsE (f : Nat → Int) (n : Nat) : List Value := (List.range (n * 2)).map fun m => .int .i64 (f m)
theorem cellsE_len (f : Nat → Int) (n : Nat) : (cellsE f n).length = n * 2 := by simp [cellsE]
theorem cellsE_at {f : Nat → Int} {n m : Nat} (h : m < n * 2) : (cellsE f n)[m]? = some (.int .i64 (f m)) := by simp [cellsE, h]
theorem cellsE_same {f g : Nat → Int} {n : Nat} (h : ∀ m, m < n * 2 → f m = g m) : cellsE f n = cellsE g n := by
  unfold cellsE
  apply List.map_congr_left
  intro m hm
  rw [List.mem_range] at hm
  rw [h m hm]
theorem cellsE_set (f : Nat → Int) (n m : Nat) (x : Int) : (cellsE f n).set m (.int .i64 x) = cellsE (fun i => if i = m then x else f i) n := by
  apply List.ext_getElem?
  intro j
  rw [List.getElem?_set, cellsE_len]
  by_cases hj : j < n * 2
  · have a : (cellsE f n)[j]? = some (.int .i64 (f j)) := cellsE_at hj
    have b : (cellsE (fun i => if i = m then x else f i) n)[j]? = some (.int .i64 (if j = m then x else f j)) := cellsE_at hj
    rw [a, b]
    by_cases e : m = j
    · subst e
      rw [if_pos rfl, if_pos hj, if_pos rfl]
    · rw [if_neg e, if_neg (fun h => e h.symm)]
  · have a : (cellsE (fun i => if i = m then x else f i) n)[j]? = none := List.getElem?_eq_none (by rw [cellsE_len]; omega)
    have b : (cellsE f n)[j]? = none := List.getElem?_eq_none (by rw [cellsE_len]; omega)
    rw [a, b]
    by_cases e : m = j
    · rw [if_pos e, if_neg (by omega)]
    · rw [if_neg e]
/-- the slice value v reads as n pairs -/
def Eds (w : World) (v : Value) (n : Nat) (f : Nat → Int) : Prop :=
  ∃ a cap, v = .slice a n cap ∧ (n = 0 ∨ ∃ b off, a = some ⟨b, off, none⟩ ∧ b < w.heap.size ∧ ∀ m, m < n * 2 → w.cell? ⟨b, off + m, none⟩ = some (.int .i64 (f m)))
theorem Eds.kept {w w' : World} {v : Value} {n : Nat} {f : Nat → Int} (h : Eds w v n f) (g : w.grownBy w' none) : Eds w' v n f := by
  obtain ⟨a, cap, rfl, h⟩ := h
  refine ⟨a, cap, rfl, ?_⟩
  rcases h with h | ⟨b, off, rfl, hb, hc⟩
  · exact .inl h
  · exact .inr ⟨b, off, rfl, Nat.lt_of_lt_of_le hb g.size, fun i hi => g.cell (hc i hi) (fun e => by cases e)⟩
theorem Eds.below {w w' : World} {v : Value} {n : Nat} {f : Nat → Int} (h : Eds w v n f) (b : Below w.heap.size w w') : Eds w' v n f := h.kept (of_below b)
theorem Eds.len {w : World} {v : Value} {n : Nat} {f : Nat → Int} (h : Eds w v n f) : ∃ a cap, v = .slice a n cap := by
  obtain ⟨a, cap, e, _⟩ := h
  exact ⟨a, cap, e⟩
/-- v is a list of the call's own that reads as n pairs; its block lies from lo on, below hi -/
def OwnE (lo hi : Nat) (w : World) (v : Value) (n : Nat) (f : Nat → Int) : Prop := w.ownsRow lo 38 2 v n (cellsE f n) ∧ ∀ k, v.ownBlock = some k → k < hi
theorem OwnE.sub {lo lo' hi hi' : Nat} {w : World} {v : Value} {n : Nat} {f : Nat → Int} (h : OwnE lo hi w v n f) (a : lo' ≤ lo) (b : hi ≤ hi') : OwnE lo' hi' w v n f := ⟨own_mono h.1 a, fun k e => Nat.lt_of_lt_of_le (h.2 k e) b⟩
theorem row_kept {w w' : World} {lo n z : Nat} {t : TypeId} {v : Value} {xs : List Value} (h : w.ownsRow lo t z v n xs) (g : w.grownBy w' none) : w'.ownsRow lo t z v n xs := h.kept g (by
  cases hv : v.ownBlock
  · exact .inl rfl
  · exact .inr (fun e => by cases e))
theorem row_outs {lo hi lo' hi' n z : Nat} {t : TypeId} {w w' : World} {v : Value} {xs : List Value} (h : w.ownsRow lo t z v n xs) (hb : ∀ k, v.ownBlock = some k → k < hi) (g : Outs lo' hi' w w') (d : hi ≤ lo' ∨ hi' ≤ lo) : w'.ownsRow lo t z v n xs := by
  have h' := h
  obtain ⟨h1, h2⟩ := h
  refine ⟨h1, ?_⟩
  rcases h2 with h2 | ⟨b, cap, cur, rfl, hg, hh, r⟩
  · exact .inl h2
  · refine .inr ⟨b, cap, cur, rfl, hg, ?_, r⟩
    have l1 := h'.lt b rfl
    have l2 := hb b rfl
    rw [g.block b l1.2 (by omega)]
    exact hh
theorem OwnE.kept {lo hi : Nat} {w w' : World} {v : Value} {n : Nat} {f : Nat → Int} (h : OwnE lo hi w v n f) (g : w.grownBy w' none) : OwnE lo hi w' v n f := ⟨row_kept h.1 g, h.2⟩
theorem OwnE.outs {lo hi lo' hi' : Nat} {w w' : World} {v : Value} {n : Nat} {f : Nat → Int} (h : OwnE lo hi w v n f) (g : Outs lo' hi' w w') (d : hi ≤ lo' ∨ hi' ≤ lo) : OwnE lo hi w' v n f := ⟨row_outs h.1 h.2 g d, h.2⟩
theorem OwnE.eds {lo hi : Nat} {w : World} {v : Value} {n : Nat} {f : Nat → Int} (h : OwnE lo hi w v n f) : Eds w v n f := by
  obtain ⟨ho, _⟩ := h
  have ho' := ho
  obtain ⟨_, h2⟩ := ho
  rcases h2 with ⟨rfl, h0⟩ | ⟨g, cap, cur, rfl, hg, hh, _⟩
  · subst h0
    exact ⟨none, 0, rfl, .inl rfl⟩
  · refine ⟨some ⟨g, 0, none⟩, cap, rfl, .inr ⟨g, 0, rfl, (Array.getElem?_eq_some_iff.1 hh).1, fun m hm => ?_⟩⟩
    rw [Nat.zero_add, ho'.cellAt _ (by omega)]
    exact cellsE_at hm
theorem OwnE.len {lo hi : Nat} {w : World} {v : Value} {n : Nat} {f : Nat → Int} (h : OwnE lo hi w v n f) : ∃ a cap, v = .slice a n cap := h.eds.len
theorem OwnE.same {lo hi : Nat} {w : World} {v : Value} {n : Nat} {f g : Nat → Int} (h : OwnE lo hi w v n f) (e : ∀ m, m < n * 2 → f m = g m) : OwnE lo hi w v n g := ⟨by rw [← cellsE_same e]; exact h.1, h.2⟩
theorem infoE : (Try.prog.info? 38).map (fun i => (i.zero, i.size, i.bytes)) = some (some (.agg #[.int .i64 0, .int .i64 0]), 2, 16) := by kernel_rfl
theorem sizeE : (Try.prog.info? 38).map (·.size) = some 2 := by kernel_rfl
/-- a list of pairs that is written where f tells -/
theorem OwnE.put {lo hi n m cap b : Nat} {w : World} {f : Nat → Int} (h : OwnE lo hi w (.slice (some ⟨b, 0, none⟩) n cap) n f) (x : Int) : OwnE lo hi (w.setCell ⟨b, m, none⟩ (.int .i64 x)) (.slice (some ⟨b, 0, none⟩) n cap) n (fun i => if i = m then x else f i) := by
  refine ⟨?_, h.2⟩
  rw [← cellsE_set]
  exact (h.1.stored m (.int .i64 x)).1
theorem OwnE.cell {lo hi n m cap b : Nat} {w : World} {f : Nat → Int} (h : OwnE lo hi w (.slice (some ⟨b, 0, none⟩) n cap) n f) (hm : m < n * 2) (hn : n ≤ cap) : w.cell? ⟨b, m, none⟩ = some (.int .i64 (f m)) ∧ w.frozen? ⟨b, m, none⟩ = false := by
  refine ⟨?_, h.1.frozenAt _⟩
  rw [h.1.cellAt _ (by omega)]
  exact cellsE_at hm
theorem OwnE.form {lo hi n : Nat} {w : World} {v : Value} {f : Nat → Int} (h : OwnE lo hi w v n f) (hn : 0 < n) : ∃ b cap, v = .slice (some ⟨b, 0, none⟩) n cap ∧ n ≤ cap ∧ lo ≤ b ∧ b < hi := by
  have l := h.1.lt
  have hb := h.2
  obtain ⟨ho, _⟩ := h
  have ho' := ho
  obtain ⟨_, h2⟩ := ho
  rcases h2 with ⟨rfl, h0⟩ | ⟨g, cap, cur, rfl, hg, hh, hc, r⟩
  · omega
  · exact ⟨g, cap, rfl, hc, (l g rfl).1, hb g rfl⟩
theorem new2 (w : World) (x y : Value) : Box 38 (w.alloc (.cells #[x, y] 38)) w.heap.size x y := Box.new 38 w x y
theorem Box.setK {w : World} {c k : Nat} {x y u : Value} (h : Box 38 w c x y) (hk : k < 2) : Box 38 (w.setCell ⟨c, k, none⟩ u) c (if k = 0 then u else x) (if k = 1 then u else y) := by
  rcases (show k = 0 ∨ k = 1 by omega) with rfl | rfl
  · exact h.set0 u
  · exact h.set1 u
theorem Box.cK {w : World} {c k : Nat} {x y : Int} (h : Box 38 w c (.int .i64 x) (.int .i64 y)) (hk : k < 2) : w.cell? ⟨c, k, none⟩ = some (.int .i64 (if k = 0 then x else y)) := by
  rcases (show k = 0 ∨ k = 1 by omega) with rfl | rfl
  · exact h.c0
  · exact h.c1
set_option maxHeartbeats 800000 in
/-- a copy of one -/
theorem toA2 (x y : Int) (w : World) : Calls Try.prog 15 #[.agg #[.int .i64 x, .int .i64 y]] w fun e w' => e = .returned (.agg #[.int .i64 x, .int .i64 y]) ∧ w.grownBy w' none := by
  have b0 := ((new2 w (.int .i64 x) (.int .i64 y)).kept (World.grownBy_alloc _ (.cells #[.int .i64 0, .int .i64 0] 38) none)).kept (World.grownBy_alloc _ (.cells #[.int .i64 0, .int .i64 0] 38) none)
  have b1 := (new2 (w.alloc (.cells #[.int .i64 x, .int .i64 y] 38)) (.int .i64 0) (.int .i64 0)).kept (World.grownBy_alloc _ (.cells #[.int .i64 0, .int .i64 0] 38) none)
  have b2 := new2 ((w.alloc (.cells #[.int .i64 x, .int .i64 y] 38)).alloc (.cells #[.int .i64 0, .int .i64 0] 38)) (.int .i64 0) (.int .i64 0)
  have g := grown_trans (r := none) (grown_trans (r := none) (World.grownBy_alloc w (.cells #[.int .i64 x, .int .i64 y] 38) none) (World.grownBy_alloc _ (.cells #[.int .i64 0, .int .i64 0] 38) none)) (World.grownBy_alloc _ (.cells #[.int .i64 0, .int .i64 0] 38) none)
  rw [World.size_alloc] at b1
  rw [World.size_alloc, World.size_alloc] at b2
  have I0 := hide (And.intro b0 (And.intro b1 (And.intro b2 g)))
  clear b0 b1 b2 g
  go_enter Try.func15, Try.ntmps15
  go_wp2
  go_loopw [4] (fun t wr => ∃ k : Nat, k ≤ 2 ∧ t = .int .i64 k ∧ Hid (Box 38 wr w.heap.size (.int .i64 x) (.int .i64 y) ∧ Box 38 wr (w.heap.size + 1) (.int .i64 0) (.int .i64 0) ∧ Box 38 wr (w.heap.size + 1 + 1) (.int .i64 (if 0 < k then x else 0)) (.int .i64 (if 1 < k then y else 0)) ∧ w.grownBy wr none)) (fun t _ => 2 - (intOf t).toNat)
  case atStart => exact ⟨0, by omega, rfl, I0⟩
  case round =>
    obtain ⟨k, hk, rfl, hm⟩ := hrel
    clear I0
    by_cases hlt : k < 2
    · have i0 : (k : Int) < 2 := by omega
      have h := unhide hm
      have c0 := Box.cK h.1 hlt
      have c1 := Box.cK h.2.2.1 hlt
      have c2 := h.2.2.1.f k
      have R : Hid (∀ z, z = .int .i64 (if k = 0 then x else y) → Box 38 (wr.setCell ⟨w.heap.size + 1 + 1, k, none⟩ z) w.heap.size (.int .i64 x) (.int .i64 y) ∧ Box 38 (wr.setCell ⟨w.heap.size + 1 + 1, k, none⟩ z) (w.heap.size + 1) (.int .i64 0) (.int .i64 0) ∧ Box 38 (wr.setCell ⟨w.heap.size + 1 + 1, k, none⟩ z) (w.heap.size + 1 + 1) (.int .i64 (if 0 < k + 1 then x else 0)) (.int .i64 (if 1 < k + 1 then y else 0)) ∧ w.grownBy (wr.setCell ⟨w.heap.size + 1 + 1, k, none⟩ z) none) := by
        rintro z rfl
        refine ⟨h.1.setO (by omega), h.2.1.setO (by omega), ?_, cf.grown_set h.2.2.2 (by omega)⟩
        have q := Box.setK (u := .int .i64 (if k = 0 then x else y)) h.2.2.1 hlt
        rcases (show k = 0 ∨ k = 1 by omega) with rfl | rfl
        · exact q
        · exact q
      generalize (if k = 0 then x else y) = z at *
      generalize (if k = 0 then (if 0 < k then x else 0) else (if 1 < k then y else 0)) = z2 at *
      have R2 := hide (unhide R _ rfl)
      clear h R hm
      go_wp2
      go_roundw
      case rel => exact ⟨k + 1, by omega, by go_num, R2⟩
      case measure => simp [intOf]; omega
    · have i0 : ¬ (k : Int) < 2 := by omega
      have hk' : k = 2 := by omega
      subst hk'
      have h := unhide hm
      have d2 : Box 38 wr (w.heap.size + 1 + 1) (.int .i64 x) (.int .i64 y) := h.2.2.1
      have d1 := h.2.1
      have q0 := d2.c0
      have q1 := d2.c1
      have r0 := d1.c0
      have r1 := d1.c1
      have r2 := d1.f 0
      have r3 := d1.f 1
      have G := hide h.2.2.2
      clear h d1 d2 hm hlt hk
      go_wp2
      refine bodyPost_ret (v := .agg #[.int .i64 x, .int .i64 y]) (by simp [results, Try.results15, go_sem, r0, r1]) rfl ⟨rfl, ?_⟩
      exact cf.grown_set (cf.grown_set (unhide G) (by omega)) (by omega)
set_option maxHeartbeats 800000 in
theorem eqA2 (x y : Int) (w : World) : Calls Try.prog 23 #[.agg #[.int .i64 x, .int .i64 y], .agg #[.int .i64 x, .int .i64 y]] w fun e w' => e = .returned (.bool true) ∧ w.grownBy w' none := by
  have b0 := (new2 w (.int .i64 x) (.int .i64 y)).kept (World.grownBy_alloc _ (.cells #[.int .i64 x, .int .i64 y] 38) none)
  have b1 := new2 (w.alloc (.cells #[.int .i64 x, .int .i64 y] 38)) (.int .i64 x) (.int .i64 y)
  have g := grown_trans (r := none) (World.grownBy_alloc w (.cells #[.int .i64 x, .int .i64 y] 38) none) (World.grownBy_alloc _ (.cells #[.int .i64 x, .int .i64 y] 38) none)
  rw [World.size_alloc] at b1
  have I0 := hide (And.intro b0 (And.intro b1 g))
  clear b0 b1 g
  go_enter Try.func23, Try.ntmps23
  go_wp2
  go_loopw [5] (fun t wr => ∃ k : Nat, k ≤ 2 ∧ t = .int .i64 k ∧ Hid (Box 38 wr w.heap.size (.int .i64 x) (.int .i64 y) ∧ Box 38 wr (w.heap.size + 1) (.int .i64 x) (.int .i64 y) ∧ w.grownBy wr none)) (fun t _ => 2 - (intOf t).toNat)
  case atStart => exact ⟨0, by omega, rfl, I0⟩
  case round =>
    obtain ⟨k, hk, rfl, hm⟩ := hrel
    clear I0
    by_cases hlt : k < 2
    · have i0 : (k : Int) < 2 := by omega
      have h := unhide hm
      have c0 := Box.cK h.1 hlt
      have c1 := Box.cK h.2.1 hlt
      have R := hide (fun n => And.intro (h.1.kept (grown_drewN wr n)) (And.intro (h.2.1.kept (grown_drewN wr n)) (grown_trans (r := none) h.2.2 (grown_drewN wr n))))
      generalize (if k = 0 then x else y) = z at *
      clear h hm
      go_wp2
      go_quiet (fail)
      go_wp2
      go_roundw
      case rel => exact ⟨k + 1, by omega, by go_num, unhide R _⟩
      case measure => simp [intOf]; omega
    · have i0 : ¬ (k : Int) < 2 := by omega
      have G := hide (unhide hm).2.2
      clear hm
      go_wp2
      go_ret
      exact ⟨rfl, unhide G⟩
theorem szA2S (v : Value) (n : Nat) (f : Nat → Int) (left : Int) (w : World) (h0 : 0 ≤ left) (h1 : left ≤ 1048576) (hn : n ≤ 9223372036854775807) (hv : Eds w v n f) :
    Calls Try.prog 4 #[v, .int .i64 left] w fun e w' => ∃ r : Int, e = .returned (.int .i64 r) ∧ w' = w ∧ (r = -1 ∨ 0 ≤ r ∧ r + (n : Int) = left) := by
  obtain ⟨a, cap, rfl, _⟩ := hv
  by_cases hl : left < (n : Int)
  · have h2 : left - (n : Int) < 0 := by omega
    go_enter Try.func4, Try.ntmps4
    go_wp2
    go_ret
    exact ⟨_, rfl, rfl, .inl rfl⟩
  · have h2 : ¬ left - (n : Int) < 0 := by omega
    go_enter Try.func4, Try.ntmps4
    go_wp2
    go_ret
    exact ⟨_, rfl, rfl, .inr ⟨by omega, by omega⟩⟩
theorem made2 (n : Nat) : (madeCells #[.int .i64 0, .int .i64 0] (n * 2)).toList = cellsE (fun _ => 0) n := by
  apply List.ext_getElem?
  intro j
  by_cases hj : j < n * 2
  · rw [cellsE_at hj]
    have e1 : (madeCells #[.int .i64 0, .int .i64 0] (n * 2)).toList[j]? = some ((#[.int .i64 0, .int .i64 0] : Array Value)[j % 2]!) := by
      simp [madeCells, hj]
    rw [e1]
    rcases (show j % 2 = 0 ∨ j % 2 = 1 by omega) with h | h <;> rw [h] <;> rfl
  · rw [List.getElem?_eq_none (by simp [madeCells]; omega), List.getElem?_eq_none (by rw [cellsE_len]; omega)]
/-- a copy of a list in the making: c cells of it are there -/
def cutE (f : Nat → Int) (c : Nat) (m : Nat) : Int := if m < c then f m else 0
def MidE (w wr : World) (n : Nat) (f : Nat → Int) (k : Nat) : Prop :=
  OwnE w.heap.size wr.heap.size wr (.slice (some ⟨w.heap.size, 0, none⟩) n n) n (cutE f (k * 2)) ∧ w.grownBy wr none
set_option maxHeartbeats 800000 in
/-- a copy of a list, in a block of its own -/
theorem toA2S (v : Value) (n : Nat) (f : Nat → Int) (w : World) (hn : n ≤ 1048576) (hv : Eds w v n f) :
    Calls Try.prog 6 #[v] w fun e w' => ∃ u, e = .returned u ∧ OwnE w.heap.size w'.heap.size w' u n f ∧ w.grownBy w' none := by
  obtain ⟨a, cap, rfl, ha⟩ := hv
  obtain ⟨i0, hi, hz0, hz1, hz2⟩ := info_parts infoE
  have HA := hide ha
  clear ha
  go_enter Try.func6, Try.ntmps6
  go_wp2_with (first | (at_make; refine wpList_make_full _ rfl _ _ 22 rfl w.heap.size 38 i0 (.agg #[.int .i64 0, .int .i64 0]) 2 Try.underlying22 hi hz0 hz1 _ _ _ _ n rfl rfl (by rfl) (by rfl) ?b1 ?b2 ?b3 ?_) | go_in)
  case b1 => rw [hz2]; omega
  case b2 => unfold maxLen; omega
  case b3 => exact Nat.le_refl _
  intro w1 hown hgrow
  have O : Hid (MidE w w1 n f 0) := by
    refine ⟨⟨?_, fun k e => (hown.lt k e).2⟩, hgrow⟩
    rw [cellsE_same (f := cutE f (0 * 2)) (g := fun _ => 0) (fun m _ => by simp [cutE]), ← made2]
    exact hown
  clear hown hgrow
  go_wp2
  go_loopw [4] (fun i wr => ∃ k : Nat, k ≤ n ∧ i = .int .i64 k ∧ Hid (MidE w wr n f k)) (fun i _ => n - (intOf i).toNat)
  case atStart => exact ⟨0, Nat.zero_le _, rfl, O⟩
  case round =>
    obtain ⟨k, hk, rfl, hmid⟩ := hrel
    by_cases hlt : k < n
    · rcases unhide HA with h | ⟨b, off, rfl, hb, hcb⟩
      · omega
      · have hg := (unhide hmid).2
        have c0 := hg.cell (hcb (k * 2) (by omega)) (fun e => by cases e)
        have c1 : wr.cell? ⟨b, off + k * 2 + 1, none⟩ = some (.int .i64 (f (k * 2 + 1))) := hg.cell (hcb (k * 2 + 1) (by omega)) (fun e => by cases e)
        have CT := hide (toA2 (f (k * 2)) (f (k * 2 + 1)) wr)
        have hi' : (k : Int) < (n : Int) := by omega
        obtain ⟨fx, hfx⟩ : ∃ z, z = f (k * 2) := ⟨_, rfl⟩
        obtain ⟨fy, hfy⟩ : ∃ z, z = f (k * 2 + 1) := ⟨_, rfl⟩
        rw [← hfx] at c0 CT
        rw [← hfy] at c1 CT
        have HX := hide hfx
        have HY := hide hfy
        clear hfx hfy
        clear hcb hg O HA
        go_wp2_with fail
        refine (unhide CT).mono ?_; rintro e w2 ⟨rfl, g2⟩
        have m2 := (unhide hmid).1.kept g2
        have s2 : wr.heap.size ≤ w2.heap.size := g2.size
        have x0 := m2.cell (m := k * 2) (by omega) (Nat.le_refl _)
        have x1 := m2.cell (m := k * 2 + 1) (by omega) (Nat.le_refl _)
        obtain ⟨x0, x0f⟩ := x0
        obtain ⟨x1, x1f⟩ := x1
        have M2 : Hid (MidE w ((w2.setCell ⟨w.heap.size, k * 2, none⟩ (.int .i64 fx)).setCell ⟨w.heap.size, k * 2 + 1, none⟩ (.int .i64 fy)) n f (k + 1)) := by
          refine ⟨((m2.put (m := k * 2) fx).put (m := k * 2 + 1) fy).same (fun m hm => ?_) |>.sub (Nat.le_refl _) (by rw [cf.size_set, cf.size_set]; exact s2), cf.grown_set (cf.grown_set (grown_trans (unhide hmid).2 g2) (Nat.le_refl _)) (Nat.le_refl _)⟩
          simp only [cutE, unhide HX, unhide HY]
          by_cases e1 : m = k * 2 + 1
          · subst e1
            rw [if_pos rfl, if_pos (by omega)]
          · rw [if_neg e1]
            by_cases e0 : m = k * 2
            · subst e0
              rw [if_pos rfl, if_pos (by omega)]
            · rw [if_neg e0]
              by_cases h : m < k * 2
              · rw [if_pos h, if_pos (by omega)]
              · rw [if_neg h, if_neg (by omega)]
        generalize cutE f (k * 2) (k * 2) = y0 at *
        generalize cutE f (k * 2) (k * 2 + 1) = y1 at *
        clear g2 hmid CT m2 s2 HX HY
        go_wp2
        go_roundw
        case rel => exact ⟨k + 1, by omega, by go_num, M2⟩
        case measure => simp [intOf]; omega
    · have hi' : ¬ (k : Int) < (n : Int) := by omega
      have e : k = n := by omega
      subst e
      have R := hide (And.intro ((unhide hmid).1.same (g := f) (fun m hm => if_pos hm)) (unhide hmid).2)
      clear HA hmid O
      go_wp2
      go_ret
      exact ⟨_, rfl, unhide R⟩
set_option maxHeartbeats 1600000 in
/-- equal lists: eqIntA2S says yes -/
theorem eqA2S (v u : Value) (n : Nat) (f : Nat → Int) (w : World) (hn : n ≤ 1048576) (hv : Eds w v n f) (hu : Eds w u n f) :
    Calls Try.prog 9 #[v, u] w fun e w' => e = .returned (.bool true) ∧ w.grownBy w' none := by
  obtain ⟨a, cap, rfl, ha⟩ := hv
  obtain ⟨c, cap', rfl, hc⟩ := hu
  have HA := hide ha
  have HC := hide hc
  clear ha hc
  go_enter Try.func9, Try.ntmps9
  go_wp2
  go_loopw [5] (fun i wr => ∃ k : Nat, k ≤ n ∧ i = .int .i64 k ∧ w.grownBy wr none) (fun i _ => n - (intOf i).toNat)
  case atStart => exact ⟨0, Nat.zero_le _, rfl, grown_refl _⟩
  case round =>
    obtain ⟨k, hk, rfl, hg⟩ := hrel
    by_cases hlt : k < n
    · rcases unhide HA with h | ⟨b, off, rfl, hb, hcb⟩
      · omega
      · rcases unhide HC with h | ⟨d, off', rfl, hd, hcd⟩
        · omega
        · have x0 := hg.cell (hcb (k * 2) (by omega)) (fun e => by cases e)
          have x1 : wr.cell? ⟨b, off + k * 2 + 1, none⟩ = some (.int .i64 (f (k * 2 + 1))) := hg.cell (hcb (k * 2 + 1) (by omega)) (fun e => by cases e)
          have y0 := hg.cell (hcd (k * 2) (by omega)) (fun e => by cases e)
          have y1 : wr.cell? ⟨d, off' + k * 2 + 1, none⟩ = some (.int .i64 (f (k * 2 + 1))) := hg.cell (hcd (k * 2 + 1) (by omega)) (fun e => by cases e)
          have C := hide (fun w1 => eqA2 (f (k * 2)) (f (k * 2 + 1)) w1)
          generalize f (k * 2) = fx at *
          generalize f (k * 2 + 1) = fy at *
          have hi : (k : Int) < (n : Int) := by omega
          have G := hide hg
          have CK : Hid (∀ w', wr.grownBy w' none → w'.cell? ⟨b, off + k * 2, none⟩ = some (.int .i64 fx) ∧ w'.cell? ⟨b, off + k * 2 + 1, none⟩ = some (.int .i64 fy) ∧ w'.cell? ⟨d, off' + k * 2, none⟩ = some (.int .i64 fx) ∧ w'.cell? ⟨d, off' + k * 2 + 1, none⟩ = some (.int .i64 fy)) := fun w' g => ⟨g.cell x0 (fun e => by cases e), g.cell x1 (fun e => by cases e), g.cell y0 (fun e => by cases e), g.cell y1 (fun e => by cases e)⟩
          clear hg hcb hcd HA HC
          go_wp2_with fail
          have GX := hide (cf.grown_drew wr none)
          go_region_held3 (fun w' => w'.cell? ⟨b, off + k * 2, none⟩ = some (.int .i64 fx) ∧ w'.cell? ⟨b, off + k * 2 + 1, none⟩ = some (.int .i64 fy) ∧ w'.cell? ⟨d, off' + k * 2, none⟩ = some (.int .i64 fx) ∧ w'.cell? ⟨d, off' + k * 2 + 1, none⟩ = some (.int .i64 fy)) (go_keep) (first
            | (go_at_call 23; refine (unhide C _).mono ?_; rintro e w9 ⟨rfl, g9⟩; replace GX := hide (grown_trans (r := none) (unhide GX) g9); obtain ⟨k1, k2, k3, k4⟩ := unhide CK _ (unhide GX); clear g9))
          all_goals
            go_wp2_with fail
            go_roundw
            case rel => exact ⟨k + 1, by omega, by go_num, grown_trans (unhide G) (unhide GX)⟩
            case measure => simp [intOf]; omega
    · have hi : ¬ (k : Int) < (n : Int) := by omega
      have G := hide hg
      clear hg HA HC
      go_wp2
      go_ret
      exact ⟨rfl, unhide G⟩
/-- the marks of c cells, the others as f tells -/
def mkE (k : Int) (f : Nat → Int) (c : Nat) (m : Nat) : Int := if m < c then k + (m : Int) else f m
set_option maxHeartbeats 1600000 in
/-- marks are written into a list of the call's own -/
theorem markA2S (v : Value) (n : Nat) (f : Nat → Int) (k : Int) (lo hi : Nat) (w : World) (hn : n ≤ 1048576) (k0 : 0 ≤ k) (k1 : k ≤ 1073741824) (ho : OwnE lo hi w v n f) :
    Calls Try.prog 10 #[v, .int .i64 k] w fun e w' => e = .returned (.int .i64 (k + 2 * (n : Int))) ∧ Outs lo hi w w' := by
  obtain ⟨a, cap, rfl⟩ := ho.len
  have st : Hid (OwnE lo hi w (.slice a n cap) n (mkE k f 0) ∧ Outs lo hi w w) := ⟨ho.same (fun m _ => by simp [mkE]), outs_refl _ _ _⟩
  have fo := hide (fun (h : 0 < n) => ho.form h)
  clear ho
  go_enter Try.func10, Try.ntmps10
  go_wp2
  go_loopw [1, 5] (fun q i wr => ∃ j : Nat, j ≤ n ∧ i = .int .i64 j ∧ q = .int .i64 (k + 2 * (j : Int)) ∧ Hid (OwnE lo hi wr (.slice a n cap) n (mkE k f (j * 2)) ∧ Outs lo hi w wr)) (fun _ i _ => n - (intOf i).toNat)
  case atStart => exact ⟨0, Nat.zero_le _, rfl, by simp, st⟩
  case round =>
    obtain ⟨j, hj, rfl, rfl, hm⟩ := hrel
    clear st
    by_cases hlt : j < n
    · obtain ⟨b, cap', e, hc, hb0, hb1⟩ := unhide fo (by omega)
      simp only [Value.slice.injEq] at e
      obtain ⟨rfl, _, rfl⟩ := e
      have hi' : (j : Int) < (n : Int) := by omega
      have S2 : Hid (k + 2 * (j : Int) + 2 = k + 2 * ((j + 1 : Nat) : Int)) := by show _ = _; omega
      obtain ⟨ks, hks⟩ : ∃ ks, ks = k + 2 * (j : Int) := ⟨_, rfl⟩
      rw [← hks] at S2 ⊢
      have b0 : 0 ≤ ks := by omega
      have b1 : ks ≤ 1099511000000 := by omega
      have st2 : Hid (OwnE lo hi wr (.slice (some ⟨b, 0, none⟩) n cap) n (mkE k f (j * 2 + 0)) ∧ Outs lo hi w wr) := hm
      have HK := hide hks
      clear hks hm
      go_wp2_with fail
      go_loopw [1, 6] (fun q i wx => ∃ t : Nat, t ≤ 2 ∧ i = .int .i64 t ∧ q = .int .i64 (ks + (t : Int)) ∧ Hid (OwnE lo hi wx (.slice (some ⟨b, 0, none⟩) n cap) n (mkE k f (j * 2 + t)) ∧ Outs lo hi w wx)) (fun _ i _ => 2 - (intOf i).toNat)
      case atStart => exact ⟨0, Nat.zero_le _, rfl, by simp, st2⟩
      case round =>
        obtain ⟨t, ht, rfl, rfl, hm⟩ := hrel
        clear st2
        by_cases hlt2 : t < 2
        · have hi2 : (t : Int) < 2 := by omega
          obtain ⟨x0, x0f⟩ := (unhide hm).1.cell (m := j * 2 + t) (by omega) hc
          have M2 : Hid (OwnE lo hi (wr.setCell ⟨b, j * 2 + t, none⟩ (.int .i64 (ks + (t : Int)))) (.slice (some ⟨b, 0, none⟩) n cap) n (mkE k f (j * 2 + (t + 1))) ∧ Outs lo hi w (wr.setCell ⟨b, j * 2 + t, none⟩ (.int .i64 (ks + (t : Int))))) := by
            refine ⟨((unhide hm).1.put (ks + (t : Int))).same (fun m hm => ?_), outs_trans (unhide hm).2 (outs_by (sl.grown_setCell _ _ _ _) (fun q e => by cases e; exact ⟨hb0, hb1⟩))⟩
            have hk := unhide HK
            simp only [mkE]
            by_cases e1 : m = j * 2 + t
            · subst e1
              rw [if_pos rfl, if_pos (by omega)]
              omega
            · rw [if_neg e1]
              by_cases h : m < j * 2 + t
              · rw [if_pos h, if_pos (by omega)]
              · rw [if_neg h, if_neg (by omega)]
          generalize mkE k f (j * 2 + t) (j * 2 + t) = y0 at *
          have SL : Hid (ks + (t : Int) + 1 = ks + ((t + 1 : Nat) : Int)) := by show _ = _; omega
          clear hm HK S2
          go_wp2_with fail
          go_roundw
          case rel => exact ⟨t + 1, by omega, by go_num, by rw [← unhide SL], M2⟩
          case measure => simp [intOf]; omega
        · have hi2 : ¬ (t : Int) < 2 := by omega
          have e : t = 2 := by omega
          subst e
          have M2 : Hid (OwnE lo hi wr (.slice (some ⟨b, 0, none⟩) n cap) n (mkE k f ((j + 1) * 2)) ∧ Outs lo hi w wr) := by
            rw [show (j + 1) * 2 = j * 2 + 2 by omega]
            exact unhide hm
          clear hm HK
          go_wp2_with fail
          go_roundw
          case rel => exact ⟨j + 1, by omega, by go_num, by rw [← unhide S2]; rfl, M2⟩
          case measure => simp [intOf]; omega
    · have hi' : ¬ (j : Int) < (n : Int) := by omega
      have e : j = n := by omega
      subst e
      have R := hide (unhide hm).2
      clear hm fo
      go_wp2
      go_ret
      exact ⟨rfl, unhide R⟩
end Go.Proofs.Ytmmmldcnadidkaa.ed
