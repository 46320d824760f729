/- Lists of texts in memory, as the walks here speak of them, and what the small helpers on them do; no condition but on sizes. -/
import Derived.Test.YtofbngeeiompcaaCss
import Derived.Test.YtofbngeeiompcaaMt
import Derived.Deep.AppendLies
namespace Go.Proofs.Ytofbngeeiompcaa.vs
open Go.ChangeShapes Go.WideShapes Go.ChangeAt Go.RowKit
open Go.Proofs.Ytofbngeeiompcaa.sl (hide unhide ret_int ret_bool grown_refl grown_trans grown_drewN below_of of_below)
open Go.Proofs.Ytofbngeeiompcaa.css (Outs outs_trans outs_none outs_by outs_refl own_mono own_kind)
set_option linter.unusedVariables false
theorem grown_drew (w : World) (r : Option Nat) : w.grownBy w.drew r := ⟨rfl, rfl, rfl, Nat.le_refl _, fun _ _ _ => rfl⟩
theorem size_set (w : World) (a : Addr) (u : Value) : (w.setCell a u).heap.size = w.heap.size := by simp [World.setCell]
theorem grown_set {w w1 : World} {c i : Nat} {u : Value} (g : w.grownBy w1 none) (h : w.heap.size ≤ c) : w.grownBy (w1.setCell ⟨c, i, none⟩ u) none :=
  ⟨g.os, g.tape, g.output, by rw [size_set]; exact g.size, fun k hk _ => (Below.heap_setCell _ _ _ _ (by show k ≠ c; omega)).trans (g.block k hk (fun e => by cases e))⟩
def strs (D : List ByteArray) : List Value := D.map Value.string
def bz : ByteArray := ⟨#[]⟩
theorem strs_len (D : List ByteArray) : (strs D).length = D.length := by simp [strs]
theorem strs_append (A B : List ByteArray) : strs (A ++ B) = strs A ++ strs B := by simp [strs]
theorem strs_at {D : List ByteArray} {i : Nat} (h : i < D.length) : (strs D)[i]? = some (.string (D.getD i bz)) := by simp [strs, h]
theorem strs_set (A B : List ByteArray) (q p : ByteArray) (n : Nat) (hn : A.length = n) : (strs (A ++ q :: B)).set n (.string p) = strs (A ++ p :: B) := by
  rw [strs_append, strs_append, List.set_append_right _ _ (by rw [strs_len]; omega), strs_len, hn, Nat.sub_self]
  rfl
/-- the slice value v reads as the list SS -/
def Strs (w : World) (v : Value) (SS : List ByteArray) : Prop :=
  ∃ a cap, v = .slice a SS.length cap ∧ (SS = [] ∨ ∃ b off, a = some ⟨b, off, none⟩ ∧ b < w.heap.size ∧ ∀ i, i < SS.length → w.cell? ⟨b, off + i, none⟩ = some (.string (SS.getD i bz)))
theorem Strs.kept {w w' : World} {v : Value} {SS : List ByteArray} (h : Strs w v SS) (g : w.grownBy w' none) : Strs w' v SS := by
  obtain ⟨a, cap, rfl, h⟩ := h
  refine ⟨a, cap, rfl, ?_⟩
  rcases h with h | ⟨b, off, rfl, hb, hc⟩
  · exact .inl h
  · exact .inr ⟨b, off, rfl, Nat.lt_of_lt_of_le hb g.size, fun i hi => g.cell (hc i hi) (fun e => by cases e)⟩
theorem Strs.below {w w' : World} {v : Value} {SS : List ByteArray} (h : Strs w v SS) (b : Below w.heap.size w w') : Strs w' v SS := h.kept (of_below b)
theorem Strs.len {w : World} {v : Value} {SS : List ByteArray} (h : Strs w v SS) : ∃ a cap, v = .slice a SS.length cap := by
  obtain ⟨a, cap, e, _⟩ := h
  exact ⟨a, cap, e⟩
theorem Strs.nil (w : World) (a : Option Addr) (cap : Nat) : Strs w (.slice a 0 cap) [] := ⟨a, cap, rfl, .inl rfl⟩
/-- v is a list of the call's own that reads as SS; its block lies from lo on, below hi -/
def OwnT (lo hi : Nat) (w : World) (v : Value) (SS : List ByteArray) : Prop := w.ownsRow lo 9 1 v SS.length (strs SS) ∧ ∀ k, v.ownBlock = some k → k < hi
theorem OwnT.sub {lo lo' hi hi' : Nat} {w : World} {v : Value} {SS : List ByteArray} (h : OwnT lo hi w v SS) (a : lo' ≤ lo) (b : hi ≤ hi') : OwnT lo' hi' w v SS := ⟨own_mono h.1 a, fun k e => Nat.lt_of_lt_of_le (h.2 k e) b⟩
theorem row_kept {w w' : World} {lo n z : Nat} {t : TypeId} {v : Value} {xs : List Value} (h : w.ownsRow lo t z v n xs) (g : w.grownBy w' none) : w'.ownsRow lo t z v n xs := h.kept g (by
  cases hv : v.ownBlock
  · exact .inl rfl
  · exact .inr (fun e => by cases e))
theorem OwnT.kept {lo hi : Nat} {w w' : World} {v : Value} {SS : List ByteArray} (h : OwnT lo hi w v SS) (g : w.grownBy w' none) : OwnT lo hi w' v SS := ⟨row_kept h.1 g, h.2⟩
theorem OwnT.outs {lo hi lo' hi' : Nat} {w w' : World} {v : Value} {SS : List ByteArray} (h : OwnT lo hi w v SS) (g : Outs lo' hi' w w') (d : hi ≤ lo' ∨ hi' ≤ lo) : OwnT lo hi w' v SS := ⟨css.row_outs h.1 h.2 g d, h.2⟩
theorem OwnT.strs {lo hi : Nat} {w : World} {v : Value} {SS : List ByteArray} (h : OwnT lo hi w v SS) : Strs w v SS := by
  obtain ⟨ho, _⟩ := h
  have ho' := ho
  obtain ⟨_, h2⟩ := ho
  rcases h2 with ⟨rfl, h0⟩ | ⟨g, cap, cur, rfl, hg, hh, _⟩
  · have : SS = [] := List.eq_nil_of_length_eq_zero h0
    subst this
    exact ⟨none, 0, rfl, .inl rfl⟩
  · refine ⟨some ⟨g, 0, none⟩, cap, rfl, .inr ⟨g, 0, rfl, (Array.getElem?_eq_some_iff.1 hh).1, fun i hi' => ?_⟩⟩
    rw [Nat.zero_add, ho'.cellAt _ (by omega)]
    exact strs_at hi'
theorem OwnT.len {lo hi : Nat} {w : World} {v : Value} {SS : List ByteArray} (h : OwnT lo hi w v SS) : ∃ a cap, v = .slice a SS.length cap := h.strs.len
theorem OwnT.of {lo : Nat} {w : World} {v : Value} {SS : List ByteArray} (h : w.ownsRow lo 9 1 v SS.length (vs.strs SS)) : OwnT lo w.heap.size w v SS := ⟨h, fun k e => (h.lt k e).2⟩
theorem infoT : (Try.prog.info? 9).map (fun i => (i.zero, i.size, i.bytes)) = some (some (.string ⟨#[]⟩), 1, 16) := by kernel_rfl
/-- as many zero values -/
def zs (n : Nat) : List ByteArray := List.replicate n bz
theorem made1 (n : Nat) : (madeCells #[.string ⟨#[]⟩] n).toList = vs.strs (zs n) := by
  apply List.ext_getElem?
  intro j
  by_cases hj : j < n
  · rw [strs_at (by simp [zs]; exact hj)]
    simp [madeCells, hj, zs, bz, Nat.mod_one]
  · rw [List.getElem?_eq_none (by simp [madeCells]; omega), List.getElem?_eq_none (by rw [strs_len]; simp [zs]; omega)]
/-- a copy of a list in the making -/
def MidT (w wr : World) (n : Nat) (SS : List ByteArray) : Prop :=
  SS.length ≤ n ∧ wr.ownsRow w.heap.size 9 1 (.slice (some ⟨w.heap.size, 0, none⟩) n n) n (vs.strs (SS ++ zs (n - SS.length))) ∧ w.grownBy wr none
theorem MidT.start {w w1 : World} {n : Nat} (ho : w1.ownsRow w.heap.size 9 1 (.slice (some ⟨w.heap.size, 0, none⟩) n n) n (madeCells #[.string ⟨#[]⟩] n).toList) (g : w.grownBy w1 none) : MidT w w1 n [] := by
  rw [made1] at ho
  exact ⟨Nat.zero_le _, ho, g⟩
theorem MidT.cell {w wr : World} {n : Nat} {SS : List ByteArray} (h : MidT w wr n SS) (hk : SS.length < n) :
    (∃ x, wr.cell? ⟨w.heap.size, SS.length, none⟩ = some x) ∧ wr.frozen? ⟨w.heap.size, SS.length, none⟩ = false := by
  obtain ⟨hD, ho, hg⟩ := h
  refine ⟨?_, ho.frozenAt _⟩
  rw [ho.cellAt _ (by omega)]
  refine ⟨_, List.getElem?_eq_getElem ?_⟩
  rw [strs_len, List.length_append]
  simp only [zs, List.length_replicate]
  omega
theorem MidT.step {w wr : World} {n : Nat} {SS : List ByteArray} {k : ByteArray} (h : MidT w wr n SS) (hk : SS.length < n) : MidT w (wr.setCell ⟨w.heap.size, SS.length, none⟩ (.string k)) n (SS ++ [k]) := by
  obtain ⟨hD, ho, hg⟩ := h
  refine ⟨by simp; omega, ?_, grown_set hg (Nat.le_refl _)⟩
  have e1 : n - SS.length = (n - (SS ++ [k]).length) + 1 := by simp; omega
  have e2 : zs (n - SS.length) = bz :: zs (n - (SS ++ [k]).length) := by rw [e1]; rfl
  rw [e2] at ho
  have e3 := strs_set SS (zs (n - (SS ++ [k]).length)) bz k SS.length rfl
  rw [List.append_assoc, List.singleton_append, ← e3]
  exact (ho.stored _ _).1
theorem MidT.done {w wr : World} {n : Nat} {SS : List ByteArray} (h : MidT w wr n SS) (hn : SS.length = n) : OwnT w.heap.size wr.heap.size wr (.slice (some ⟨w.heap.size, 0, none⟩) n n) SS ∧ w.grownBy wr none := by
  obtain ⟨hD, ho, hg⟩ := h
  subst hn
  refine ⟨⟨?_, fun k e => (ho.lt k e).2⟩, hg⟩
  simpa [zs] using ho
theorem take_snoc (SS : List ByteArray) (k : Nat) (h : k < SS.length) : SS.take (k + 1) = SS.take k ++ [SS.getD k bz] := by
  rw [List.take_succ_eq_append_getElem h]
  simp [h]
set_option maxHeartbeats 800000 in
/-- a copy of a list, in a block of its own -/
theorem toStringS (v : Value) (SS : List ByteArray) (w : World) (hn : SS.length ≤ 1048576) (hv : Strs w v SS) :
    Calls Try.prog 14 #[v] w fun e w' => ∃ u, e = .returned u ∧ OwnT w.heap.size w'.heap.size w' u SS ∧ w.grownBy w' none := by
  obtain ⟨a, cap, rfl, ha⟩ := hv
  obtain ⟨i0, hi, hz0, hz1, hz2⟩ := info_parts infoT
  have HA := hide ha
  clear ha
  go_enter Try.func14, Try.ntmps14
  go_wp2_with (first | (at_make; refine wpList_make_full _ rfl _ _ 30 rfl w.heap.size 9 i0 (.string ⟨#[]⟩) 1 Try.underlying30 hi hz0 hz1 _ _ _ _ SS.length rfl rfl (by rfl) (by rfl) ?b1 ?b2 ?b3 ?_) | go_in)
  case b1 => rw [hz2]; omega
  case b2 => unfold maxLen; omega
  case b3 => exact Nat.le_refl _
  intro w1 hown hgrow
  have O := hide (MidT.start hown hgrow)
  clear hown hgrow
  go_wp2
  go_loopw [4] (fun i wr => ∃ k : Nat, k ≤ SS.length ∧ i = .int .i64 k ∧ Hid (MidT w wr SS.length (SS.take k))) (fun i _ => SS.length - (intOf i).toNat)
  case atStart => exact ⟨0, Nat.zero_le _, rfl, O⟩
  case round =>
    obtain ⟨k, hk, rfl, hmid⟩ := hrel
    by_cases hlt : k < SS.length
    · rcases unhide HA with h | ⟨b, off, rfl, hb, hcb⟩
      · rw [h] at hlt
        simp at hlt
      · have c0 := (unhide hmid).2.2.cell (hcb k hlt) (fun e => by cases e)
        have hts := take_snoc SS k hlt
        have htl : (SS.take k).length = k := by rw [List.length_take]; omega
        generalize SS.getD k bz = x at *
        have hi' : (k : Int) < (SS.length : Int) := by omega
        have cc := (unhide hmid).cell (by rw [htl]; exact hlt)
        rw [htl] at cc
        obtain ⟨⟨x0, hx0⟩, hf0⟩ := cc
        have M2 := hide ((unhide hmid).step (k := x) (by rw [htl]; exact hlt))
        rw [htl, ← hts] at M2
        clear hcb hmid O hts htl HA
        go_wp2
        go_roundw
        case rel => exact ⟨k + 1, by omega, by go_num, M2⟩
        case measure => simp [intOf]; omega
    · have hi' : ¬ (k : Int) < (SS.length : Int) := by omega
      have e : SS.take k = SS := List.take_of_length_le (by omega)
      rw [e] at hmid
      have R := hide ((unhide hmid).done rfl)
      clear HA hmid O e
      go_wp2
      go_ret
      exact ⟨_, rfl, unhide R⟩
/-- how much a list holds -/
def tot (SS : List ByteArray) : Nat := SS.length + (SS.map (·.size)).sum
def used (SS : List ByteArray) (k : Nat) : Nat := SS.length + ((SS.take k).map (·.size)).sum
theorem used_step (SS : List ByteArray) (k : Nat) (h : k < SS.length) : used SS (k + 1) = used SS k + (SS.getD k bz).size := by
  unfold used
  rw [take_snoc SS k h]
  simp [Nat.add_assoc]
theorem used_all (SS : List ByteArray) (k : Nat) (h : ¬ k < SS.length) : used SS k = tot SS := by
  unfold used tot
  rw [List.take_of_length_le (by omega)]
theorem tot_len (SS : List ByteArray) : SS.length ≤ tot SS := Nat.le_add_right _ _
set_option maxHeartbeats 800000 in
theorem szStringS (v : Value) (SS : List ByteArray) (left : Int) (w : World) (h0 : 0 ≤ left) (h1 : left ≤ 1048576) (hn : SS.length ≤ 9223372036854775807) (hin : ∀ i, (SS.getD i bz).size ≤ 9223372036854775807) (hv : Strs w v SS) :
    Calls Try.prog 12 #[v, .int .i64 left] w fun e w' => ∃ r : Int, e = .returned (.int .i64 r) ∧ w' = w ∧ (r = -1 ∨ 0 ≤ r ∧ r + (tot SS : Int) = left) := by
  obtain ⟨a, cap, rfl, ha⟩ := hv
  by_cases hl : left < (SS.length : Int)
  · have h2 : left - (SS.length : Int) < 0 := by omega
    clear ha
    go_enter Try.func12, Try.ntmps12
    go_wp2
    go_ret
    exact ⟨_, rfl, rfl, .inl rfl⟩
  · have h2 : ¬ left - (SS.length : Int) < 0 := by omega
    have HA := hide ha
    clear ha
    go_enter Try.func12, Try.ntmps12
    go_wp2
    go_loopw [1, 5] (fun q i wr => ∃ k : Nat, k ≤ SS.length ∧ i = .int .i64 k ∧ wr = w ∧ ∃ r : Int, q = .int .i64 r ∧ 0 ≤ r ∧ Hid (r + (used SS k : Int) = left)) (fun _ i _ => SS.length - (intOf i).toNat)
    case atStart => exact ⟨0, Nat.zero_le _, rfl, rfl, _, rfl, by omega, by show _ = _; simp [used]⟩
    case round =>
      obtain ⟨k, hk, rfl, rfl, r, rfl, hr, hu⟩ := hrel
      by_cases hlt : k < SS.length
      · rcases unhide HA with h | ⟨b, off, rfl, hb, hcb⟩
        · rw [h] at hlt
          simp at hlt
        · have c0 := hcb k hlt
          have us := used_step SS k hlt
          have hl' := hin k
          generalize SS.getD k bz = d at *
          have hi' : (k : Int) < (SS.length : Int) := by omega
          have hr1 : r ≤ 1048576 := by have := unhide hu; omega
          by_cases hq : r - (d.size : Int) < 0
          · clear hcb HA us hu
            go_wp2
            go_ret
            exact ⟨_, rfl, rfl, .inl rfl⟩
          · have hu' : Hid (r - (d.size : Int) + (used SS (k + 1) : Int) = left) := by show _ = _; have := unhide hu; omega
            clear hcb HA us hu
            go_wp2
            go_roundw
            case rel => exact ⟨k + 1, by omega, by go_num, trivial, _, rfl, by omega, hu'⟩
            case measure => simp [intOf]; omega
      · have hi' : ¬ (k : Int) < (SS.length : Int) := by omega
        have hu' : Hid (r + (tot SS : Int) = left) := by show _ = _; rw [← used_all SS k hlt]; exact unhide hu
        clear HA hu
        go_wp2
        go_ret
        exact ⟨_, rfl, rfl, .inr ⟨hr, unhide hu'⟩⟩
set_option maxHeartbeats 1600000 in
/-- equal lists: eqStringS says yes -/
theorem eqStringS (v u : Value) (SS : List ByteArray) (w : World) (hn : SS.length ≤ 1048576) (hv : Strs w v SS) (hu : Strs w u SS) :
    Calls Try.prog 16 #[v, u] w fun e w' => e = .returned (.bool true) ∧ w.grownBy w' none := by
  obtain ⟨a, cap, rfl, ha⟩ := hv
  obtain ⟨c, cap', rfl, hc⟩ := hu
  have HA := hide ha
  have HC := hide hc
  clear ha hc
  go_enter Try.func16, Try.ntmps16
  go_wp2
  go_loopw [5] (fun i wr => ∃ k : Nat, k ≤ SS.length ∧ i = .int .i64 k ∧ Hid (w.grownBy wr none)) (fun i _ => SS.length - (intOf i).toNat)
  case atStart => exact ⟨0, Nat.zero_le _, rfl, grown_refl _⟩
  case round =>
    obtain ⟨k, hk, rfl, hg⟩ := hrel
    by_cases hlt : k < SS.length
    · rcases unhide HA with h | ⟨b, off, rfl, hb, hcb⟩
      · rw [h] at hlt
        simp at hlt
      · rcases unhide HC with h | ⟨d, off', rfl, hd, hcd⟩
        · rw [h] at hlt
          simp at hlt
        · have x0 := (unhide hg).cell (hcb k hlt) (fun e => by cases e)
          have y0 := (unhide hg).cell (hcd k hlt) (fun e => by cases e)
          generalize SS.getD k bz = z at *
          have hbb : (z.toList == z.toList) = true := beq_self_eq_true _
          have hi : (k : Int) < (SS.length : Int) := by omega
          clear hcb hcd HA HC
          go_wp2_with fail
          go_quiet (fail)
          go_wp2_with fail
          go_roundw
          case rel => exact ⟨k + 1, by omega, by go_num, grown_trans (r := none) (unhide hg) (grown_drewN _ _)⟩
          case measure => simp [intOf]; omega
    · have hi : ¬ (k : Int) < (SS.length : Int) := by omega
      clear HA HC
      go_wp2
      go_ret
      exact ⟨rfl, unhide hg⟩
end Go.Proofs.Ytofbngeeiompcaa.vs
