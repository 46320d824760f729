/- What the marks on lists of texts do, how such a list that came in is opened, and Seen of both sides; no condition but on sizes. -/
import Derived.Test.YtofbngeeiompcaaVs
import Derived.Test.YtofbngeeiompcaaVb
import Derived.Test.YtofbngeeiompcaaVo
namespace Go.Proofs.Ytofbngeeiompcaa.vs
open Go.ChangeShapes Go.WideShapes Go.ChangeAt Go.RowKit
open Go.Proofs.Ytofbngeeiompcaa.sl (hide unhide ret_int ret_bool grown_refl grown_trans grown_drewN below_of of_below)
open Go.Proofs.Ytofbngeeiompcaa.css (Outs outs_trans outs_none outs_by outs_refl own_mono own_kind)
open Go.Proofs.Ytofbngeeiompcaa.yb (Box4)
open Go.Proofs.Ytofbngeeiompcaa.va (oz Ops)
set_option linter.unusedVariables false
/-- the marks of a list -/
def marksT (k : Int) (n : Nat) : List ByteArray := (List.range n).map fun (i : Nat) => ua.mtB (k + (i : Int))
theorem marksT_length (k : Int) (n : Nat) : (marksT k n).length = n := by simp [marksT]
theorem marksT_getD (k : Int) (n i : Nat) (h : i < n) : (marksT k n).getD i bz = ua.mtB (k + (i : Int)) := by simp [marksT, h]
theorem marksT_succ (k : Int) (n : Nat) : marksT k (n + 1) = marksT k n ++ [ua.mtB (k + (n : Int))] := by
  unfold marksT
  rw [List.range_succ, List.map_append]
  rfl
/-- a list of which the first j are marked -/
def MarkT (lo hi : Nat) (w wr : World) (v : Value) (k : Int) (SS : List ByteArray) (j : Nat) : Prop :=
  wr.ownsRow lo 9 1 v SS.length (vs.strs (marksT k j ++ SS.drop j)) ∧ (∀ k, v.ownBlock = some k → k < hi) ∧ Outs lo hi w wr
theorem MarkT.start {lo hi : Nat} {w : World} {v : Value} {SS : List ByteArray} (k : Int) (h : OwnT lo hi w v SS) : MarkT lo hi w w v k SS 0 := ⟨by simpa [marksT] using h.1, h.2, outs_refl _ _ _⟩
theorem MarkT.done {lo hi : Nat} {w wr : World} {v : Value} {SS : List ByteArray} {k : Int} {j : Nat} (h : MarkT lo hi w wr v k SS j) (hj : j = SS.length) : OwnT lo hi wr v (marksT k SS.length) ∧ Outs lo hi w wr := by
  obtain ⟨ho, hb, g⟩ := h
  subst hj
  rw [List.drop_eq_nil_of_le (Nat.le_refl _), List.append_nil] at ho
  refine ⟨⟨?_, hb⟩, g⟩
  rw [marksT_length]
  exact ho
/-- the next one -/
theorem MarkT.next {lo hi : Nat} {w wr : World} {v : Value} {SS : List ByteArray} {k : Int} {j : Nat} (h : MarkT lo hi w wr v k SS j) (hj : j < SS.length) :
    ∃ g cap, v = .slice (some ⟨g, 0, none⟩) SS.length cap ∧ ∀ w1, wr.grownBy w1 none →
        (∃ x, w1.cell? ⟨g, j, none⟩ = some x) ∧ w1.frozen? ⟨g, j, none⟩ = false ∧ MarkT lo hi w (w1.setCell ⟨g, j, none⟩ (.string (ua.mtB (k + (j : Int))))) v k SS (j + 1) := by
  obtain ⟨ho, hb, gO⟩ := h
  have ho' := ho
  obtain ⟨hx, hf⟩ := ho
  rcases hf with ⟨rfl, h0⟩ | ⟨g', cap, cur, rfl, r⟩
  · omega
  · have ln : (vs.strs (marksT k j ++ SS.drop j)).length = SS.length := by
      rw [strs_len, List.length_append, marksT_length, List.length_drop]
      omega
    refine ⟨g', cap, rfl, fun w1 g1 => ?_⟩
    have s4 := row_kept ho' g1
    refine ⟨?_, s4.frozenAt _, ?_, hb, ?_⟩
    · rw [s4.cellAt _ (by omega)]
      exact ⟨_, List.getElem?_eq_getElem (by omega)⟩
    · have s5 := (s4.stored j (.string (ua.mtB (k + (j : Int))))).1
      have e := strs_set (marksT k j) (SS.drop (j + 1)) SS[j] (ua.mtB (k + (j : Int))) j (marksT_length k j)
      rw [← List.drop_eq_getElem_cons hj] at e
      rw [marksT_succ, List.append_assoc, List.singleton_append, ← e]
      exact s5
    · have r1 := (ho'.lt g' rfl).1
      have r2 := hb g' rfl
      exact outs_trans gO (outs_trans (outs_none g1) (outs_by (sl.grown_setCell w1 g' j _) (fun q e => by cases e; exact ⟨r1, r2⟩)))
set_option maxHeartbeats 800000 in
/-- marks are written into a list of the call's own -/
theorem markStringS (v : Value) (SS : List ByteArray) (k : Int) (lo hi : Nat) (w : World) (hn : SS.length ≤ 1048576) (k0 : 0 ≤ k) (k1 : k ≤ 1073741824) (ho : OwnT lo hi w v SS) :
    Calls Try.prog 17 #[v, .int .i64 k] w fun e w' => e = .returned (.int .i64 (k + (SS.length : Int))) ∧ OwnT lo hi w' v (marksT k SS.length) ∧ Outs lo hi w w' := by
  obtain ⟨a, cap, rfl⟩ := ho.len
  have st := hide (MarkT.start k ho)
  clear ho
  go_enter Try.func17, Try.ntmps17
  go_wp2
  go_loopw [1, 5] (fun q i wr => ∃ j : Nat, j ≤ SS.length ∧ i = .int .i64 j ∧ q = .int .i64 (k + (j : Int)) ∧ Hid (MarkT lo hi w wr (.slice a SS.length cap) k SS j)) (fun _ i _ => SS.length - (intOf i).toNat)
  case atStart => exact ⟨0, Nat.zero_le _, rfl, by simp, st⟩
  case round =>
    obtain ⟨j, hj, rfl, rfl, hm⟩ := hrel
    clear st
    by_cases hlt : j < SS.length
    · have hi' : (j : Int) < (SS.length : Int) := by omega
      obtain ⟨g, cap', e, hW⟩ := (unhide hm).next hlt
      simp only [Value.slice.injEq] at e
      obtain ⟨rfl, _, rfl⟩ := e
      have SL : Hid (k + (j : Int) + 1 = k + ((j + 1 : Nat) : Int)) := by show _ = _; omega
      obtain ⟨ks, hks⟩ : ∃ ks, ks = k + (j : Int) := ⟨_, rfl⟩
      rw [← hks] at hW SL ⊢
      have b0 : 0 ≤ ks := by omega
      have b1 : ks ≤ 1099511000000 := by omega
      have HW := hide hW
      have CT := hide (fun w => ua.markText ks w (by omega) (by omega))
      clear hks hm hW
      go_wp2_with fail
      refine (unhide CT _).mono ?_; rintro e w1 ⟨rfl, g1⟩
      obtain ⟨⟨x3, hx3⟩, hf3, M4⟩ := unhide HW w1 g1
      have M := hide M4
      clear CT HW M4 g1
      go_wp2_with fail
      go_roundw
      case rel => exact ⟨j + 1, by omega, by go_num, by rw [← unhide SL], M⟩
      case measure => simp [intOf]; omega
    · have hi' : ¬ (j : Int) < (SS.length : Int) := by omega
      have hjj : j = SS.length := by omega
      have R := hide ((unhide hm).done hjj)
      have e : Hid (k + (j : Int) = k + (SS.length : Int)) := by show _ = _; rw [hjj]
      clear hm hjj
      go_wp2
      go_ret
      exact ⟨ret_int (unhide e), unhide R⟩
set_option maxHeartbeats 1600000 in
/-- the marks are there still -/
theorem heldStringS (v : Value) (n : Nat) (k : Int) (w : World) (hn : n ≤ 1048576) (k0 : 0 ≤ k) (k1 : k ≤ 1073741824) (hv : Strs w v (marksT k n)) :
    Calls Try.prog 18 #[v, .int .i64 k] w fun e w' => e = .returned (.int .i64 (k + (n : Int))) ∧ w.grownBy w' none := by
  obtain ⟨a, cap, rfl, ha⟩ := hv
  rw [marksT_length] at *
  have HA := hide ha
  clear ha
  go_enter Try.func18, Try.ntmps18
  go_wp2
  go_loopw [1, 5] (fun q i wr => ∃ j : Nat, j ≤ n ∧ i = .int .i64 j ∧ q = .int .i64 (k + (j : Int)) ∧ Hid (w.grownBy wr none)) (fun _ i _ => n - (intOf i).toNat)
  case atStart => exact ⟨0, Nat.zero_le _, rfl, by simp, grown_refl _⟩
  case round =>
    obtain ⟨j, hj, rfl, rfl, hg⟩ := hrel
    by_cases hlt : j < n
    · rcases unhide HA with h | ⟨b, off, rfl, hb, hcb⟩
      · have := congrArg List.length h
        rw [marksT_length] at this
        simp at this
        omega
      · have hi' : (j : Int) < (n : Int) := by omega
        have c3 := (unhide hg).cell (hcb j hlt) (fun e => by cases e)
        rw [marksT_getD k n j hlt] at c3
        have SL : Hid (k + (j : Int) + 1 = k + ((j + 1 : Nat) : Int)) := by show _ = _; omega
        obtain ⟨ks, hks⟩ : ∃ ks, ks = k + (j : Int) := ⟨_, rfl⟩
        rw [← hks] at c3 SL ⊢
        have b0 : 0 ≤ ks := by omega
        have b1 : ks ≤ 1099511000000 := by omega
        have CT := hide (fun w => ua.markText ks w (by omega) (by omega))
        have CK : Hid (∀ w', wr.grownBy w' none → w'.cell? ⟨b, off + j, none⟩ = some (.string (ua.mtB ks))) := fun w' g => g.cell c3 (fun e => by cases e)
        generalize ua.mtB ks = mt at *
        clear hks hcb HA
        go_wp2_with fail
        have GX := hide (grown_drew wr none)
        go_region_held3 (fun w' => w'.cell? ⟨b, off + j, none⟩ = some (.string mt)) (go_keep) (first
          | (go_at_call 22; refine (unhide CT _).mono ?_; rintro e w9 ⟨rfl, g9⟩; replace GX := hide (grown_trans (r := none) (unhide GX) g9); have k1 := unhide CK _ (unhide GX); clear g9))
        all_goals
          have G2 := hide (grown_trans (r := none) (unhide hg) (unhide GX))
          clear CK CT hg GX c3
          go_wp2_with fail
          go_roundw
          case rel => exact ⟨j + 1, by omega, by go_num, by rw [← unhide SL], G2⟩
          case measure => simp [intOf]; omega
    · have hi' : ¬ (j : Int) < (n : Int) := by omega
      have hjj : j = n := by omega
      have e : Hid (k + (j : Int) = k + (n : Int)) := by show _ = _; rw [hjj]
      clear HA hjj
      go_wp2
      go_ret
      exact ⟨ret_int (unhide e), unhide hg⟩
/-- what the walk is told of a list that came in -/
def IsStrs (w : World) (v : Value) (SS : List ByteArray) : Prop := Strs w v SS ∧ SS.length ≤ 9223372036854775807 ∧ ∀ i, (SS.getD i bz).size ≤ 9223372036854775807
set_option maxRecDepth 100000 in
theorem open_strs {H : Type} {enc : TypeId × Value → H} {w : World} {fuel : Nat} {cs : List Value} {x : DataW H × List MemPlace} (h : DataW.trod enc Try.prog w 0 (fun _ => true) true fuel 30 cs = some x) :
    ∃ v SS, cs = [v] ∧ IsStrs w v SS := by
  rcases Go.Deep.open_slice Try.underlying30 h with ⟨rfl, _⟩ | ⟨a, len, cap, m, n, D, Pl, rfl, _, hl, hm, hmm, _, hr⟩
  · exact ⟨_, [], rfl, Strs.nil w none 0, by simp, fun i => Nat.zero_le _⟩
  · have hml : len ≤ m := by rw [hmm]; split <;> omega
    by_cases h0 : len = 0
    · subst h0
      exact ⟨_, [], rfl, ⟨some a, cap, rfl, .inl rfl⟩, by simp, fun i => Nat.zero_le _⟩
    have hsp : a.spot = none := by
      obtain ⟨cs', h1, h2⟩ := hr 0 (by omega)
      obtain ⟨s, rfl, _⟩ := DataW.trod_string Try.underlying9 h2
      rw [va.cS] at h1
      obtain ⟨_, _, hc⟩ := World.cells?_some h1
      have c0 : w.cell? ((a.add (0 * 1)).add 0) = some (.string s) := hc 0 (by decide)
      simpa [Addr.add] using World.cell?_spot c0
    obtain ⟨b, off, spot⟩ := a
    obtain rfl : spot = none := hsp
    have each : ∀ r, r < len → ∃ s : ByteArray, w.cell? ⟨b, off + r, none⟩ = some (.string s) ∧ b < w.heap.size ∧ s.size ≤ 9223372036854775807 := by
      intro r hrl
      obtain ⟨cs', h1, h2⟩ := hr r (by omega)
      obtain ⟨s, rfl, _, hs⟩ := DataW.trod_string Try.underlying9 h2
      rw [va.cS] at h1
      obtain ⟨_, _, hc⟩ := World.cells?_some h1
      have c0 := hc 0 (by decide)
      rw [Addr.add_lit, Addr.add_lit, Nat.mul_one] at c0
      have c0' : w.cell? ⟨b, off + r, none⟩ = some (.string s) := c0
      exact ⟨s, c0', World.block_lt_of_cell? w _ c0', hs⟩
    haveI : Inhabited ByteArray := ⟨bz⟩
    obtain ⟨f, hf⟩ := Go.Deep.choose_lt (α := ByteArray) each
    have hg : ∀ i, i < len → ((List.range len).map f).getD i bz = f i := fun i hi => by simp [hi]
    unfold maxLen at hm
    refine ⟨_, (List.range len).map f, rfl, ⟨some ⟨b, off, none⟩, cap, by simp, ?_⟩, by simp; omega, fun i => ?_⟩
    · refine .inr ⟨b, off, rfl, (hf 0 (by omega)).2.1, fun i hi => ?_⟩
      have hi' : i < len := by simpa using hi
      rw [hg i hi']
      exact (hf i hi').1
    · by_cases hi : i < len
      · rw [hg i hi]
        exact (hf i hi).2.2
      · have e : ((List.range len).map f).getD i bz = bz := by simp [hi]
        rw [e]
        exact Nat.zero_le _
theorem made_nil (W : World) : (W.alloc (.cells #[] 9)).ownsRow W.heap.size 9 1 (.slice (some ⟨W.heap.size, 0, none⟩) 0 0) 0 [] ∧ W.grownBy (W.alloc (.cells #[] 9)) none := by
  refine ⟨?_, World.grownBy_alloc _ _ _⟩
  refine ⟨rfl, .inr ⟨W.heap.size, 0, #[], rfl, Nat.le_refl _, Go.heap_alloc_new W _, ?_⟩⟩
  simp
theorem one_at (wr : World) (k : ByteArray) : ∀ j y, ([.string k] : List Value)[j]? = some y → (wr.alloc (.cells #[.string k] 9)).cell? ((⟨wr.heap.size, 0, none⟩ : Addr).add j) = some y := by
  intro j y hj
  have hb := Go.heap_alloc_new wr (.cells #[.string k] 9)
  rw [Addr.add_lit, Nat.zero_add]
  unfold World.cell?
  rw [hb, ← hj]
  simp
/-- 'out = append(out, s)' -/
theorem appT {ops : Array Oper} {rest : List Oper} {o : Oper} {a : Act} {Q : Exit → Act → World → Prop} {lo hi : Nat} {wr : World} {v : Value} {M : List ByteArray} {k : ByteArray}
    (h : OwnT lo hi wr v M) (hlo : lo ≤ wr.heap.size) (hM : M.length ≤ 1048576) (hgd : o.guard = none) (s x : Operand)
    (ho : o.op = .call { callee := .builtin .append, args := #[s, x], argTypes := #[30, 30] }) (hs : a.eval s = v) (hx : a.eval x = .slice (some ⟨wr.heap.size, 0, none⟩) 1 1)
    (hK : ∀ g cap w1, OwnT lo w1.heap.size w1 (.slice (some ⟨g, 0, none⟩) (M.length + 1) cap) (M ++ [k]) → (wr.alloc (.cells #[.string k] 9)).grownBy w1 v.ownBlock → wpList Try.prog ops Q rest (a.put o.dst (.slice (some ⟨g, 0, none⟩) (M.length + 1) cap)) w1) :
    wpList Try.prog ops Q (o :: rest) a (wr.alloc (.cells #[.string k] 9)) := by
  obtain ⟨i0, hi, hz0, hz1, hz2⟩ := info_parts infoT
  refine wpList_append_lies _ hgd s x 30 ho lo 9 i0 (.string ⟨#[]⟩) 1 16 Try.underlying30 hi hz0 hz1 hz2 rfl (by decide) v M.length (vs.strs M) hs (h.1.alloc _) ⟨wr.heap.size, 0, none⟩ 1 1 [.string k] hx rfl (one_at wr k) (by intro y hy; rw [List.mem_singleton] at hy; subst hy; rfl) (by decide) ?_ ?_ ?_ (wr.heap.size + 1) (World.size_alloc ..) ?_
  · unfold maxLen; omega
  · omega
  · simp; omega
  · intro g cap w1 h1 hg _ _
    refine hK g cap w1 ⟨?_, fun q e => ?_⟩ hg
    · rw [List.length_append, strs_append]
      exact h1
    · exact (h1.lt q e).2
theorem grown_app {hi : Nat} {w w1 w2 : World} {o : Obj} {v : Value} {M : List ByteArray} (g : w.grownBy w1 none) (h : OwnT w.heap.size hi w1 v M) (g1 : (w1.alloc o).grownBy w2 v.ownBlock) : w.grownBy w2 none := by
  have hgA : w.grownBy (w1.alloc o) none := grown_trans g (World.grownBy_alloc w1 o none)
  exact ⟨g1.os.trans hgA.os, g1.tape.trans hgA.tape, g1.output.trans hgA.output, Nat.le_trans hgA.size g1.size, fun k hk _ => by
    rw [g1.block k (Nat.lt_of_lt_of_le hk hgA.size) (fun e => by have := (h.1.lt k e.symm).1; omega)]
    exact hgA.block k hk (fun e => by cases e)⟩
/-- what is said to the ops of a tenant -/
def isSeen (who : Int) (k : va.Op) : Bool := (k.who == who) && !(k.kind == 1)
def seenTo (OO : List va.Op) (SS : List ByteArray) (who : Int) : Nat → List ByteArray
  | 0 => []
  | n + 1 => seenTo OO SS who n ++ (if isSeen who (OO.getD n oz) then [SS.getD n bz] else [])
def seenL (OO : List va.Op) (SS : List ByteArray) (who : Int) : List ByteArray := if OO.length = SS.length then seenTo OO SS who OO.length else []
theorem seenTo_le (OO : List va.Op) (SS : List ByteArray) (who : Int) : ∀ n, (seenTo OO SS who n).length ≤ n
  | 0 => Nat.le_refl _
  | n + 1 => by
    have := seenTo_le OO SS who n
    unfold seenTo
    rw [List.length_append]
    split <;> simp <;> omega
theorem seenL_le (OO : List va.Op) (SS : List ByteArray) (who : Int) : (seenL OO SS who).length ≤ OO.length := by
  unfold seenL
  split
  · exact seenTo_le OO SS who _
  · exact Nat.zero_le _
def SeenE (w : World) (SS : List ByteArray) (e : Ending) (w' : World) : Prop := ∃ u, e = .returned u ∧ OwnT w.heap.size w'.heap.size w' u SS ∧ w.grownBy w' none
set_option maxHeartbeats 1600000 in
theorem implSeen (v u0 : Value) (OO : List va.Op) (SS : List ByteArray) (who : Int) (w : World) (hn : OO.length ≤ 1048576) (hn2 : SS.length ≤ 1048576) (hv : Ops w v OO) (hu : Strs w u0 SS) :
    Calls Try.prog 15 #[v, u0, .int .i64 who] w fun e w' => SeenE w (seenL OO SS who) e w' := by
  obtain ⟨a, cap, rfl, ha⟩ := hv
  obtain ⟨a2, cap2, rfl, ha2⟩ := hu
  have M0 := made_nil w
  have ST : Hid (OwnT w.heap.size (w.alloc (.cells #[] 9)).heap.size (w.alloc (.cells #[] 9)) (.slice (some ⟨w.heap.size, 0, none⟩) 0 0) (seenTo OO SS who 0)) := OwnT.of M0.1
  have GS := hide M0.2
  have HA := hide ha
  have HA2 := hide ha2
  clear ha ha2 M0
  by_cases hll : OO.length = SS.length
  · have HSL : Hid (seenL OO SS who = seenTo OO SS who OO.length) := if_pos hll
    have hll2 : ((OO.length : Int) != (SS.length : Int)) = false := by rw [hll]; exact bne_self_eq_false _
    have HLL := hide hll
    clear hll
    go_enter Try.func15, Try.ntmps15
    go_wp2
    clear hll2
    go_loopw [7, 19] (fun u i wr => ∃ j : Nat, j ≤ OO.length ∧ i = .int .i64 j ∧ Hid (OwnT w.heap.size wr.heap.size wr u (seenTo OO SS who j)) ∧ Hid (w.grownBy wr none)) (fun _ i _ => OO.length - (intOf i).toNat)
    case atStart => exact ⟨0, Nat.zero_le _, rfl, ST, GS⟩
    case round =>
      obtain ⟨j, hj, rfl, ho, hg⟩ := hrel
      clear ST GS
      obtain ⟨xa, xc, hxv⟩ := (unhide ho).len
      have hfl := seenTo_le OO SS who j
      generalize hfn : (seenTo OO SS who j).length = fn at hxv hfl
      have HFN := hide hfn
      clear hfn
      subst hxv
      by_cases hlt : j < OO.length
      · rcases unhide HA with h | ⟨b, off, rfl, hb, hcb⟩
        · rw [h] at hlt
          simp at hlt
        · rcases unhide HA2 with h | ⟨b2, off2, rfl, hb2, hcb2⟩
          · have hll := unhide HLL
            rw [h] at hll
            rw [hll] at hlt
            simp at hlt
          · have hi' : (j : Int) < (OO.length : Int) := by omega
            have hi2 : (j : Int) < (SS.length : Int) := by have := unhide HLL; omega
            obtain ⟨c0, c1, c2, c3⟩ := (hcb j hlt).kept (unhide hg)
            have d0 := (unhide hg).cell (hcb2 j (by have := unhide HLL; omega)) (fun e => by cases e)
            have HST : Hid (seenTo OO SS who (j + 1) = seenTo OO SS who j ++ (if isSeen who (OO.getD j oz) then [SS.getD j bz] else [])) := rfl
            generalize OO.getD j oz = x at *
            generalize SS.getD j bz = y at *
            obtain ⟨kind, who', num, text⟩ := x
            dsimp only at *
            obtain ⟨W4, hW4⟩ : ∃ W4, W4 = wr.alloc (.cells #[.int .i64 kind, .int .i64 who', .int .i64 num, .string text] 39) := ⟨_, rfl⟩
            have g4 : wr.grownBy W4 none := by rw [hW4]; exact World.grownBy_alloc _ _ _
            have B4 : Box4 39 W4 wr.heap.size (.int .i64 kind) (.int .i64 who') (.int .i64 num) (.string text) := by rw [hW4]; exact Box4.new _ _ _ _ _ _
            have O4 := hide (((unhide ho).kept g4).sub (Nat.le_refl _) g4.size)
            have G4 := hide (grown_trans (r := none) (unhide hg) g4)
            have hs4 : w.heap.size ≤ W4.heap.size := (unhide G4).size
            have y0 := B4.c0
            have y1 := B4.c1
            have y2 := B4.c2
            have y3 := B4.c3
            have d4 := g4.cell d0 (fun e => by cases e)
            clear hcb hcb2 g4 ho hg B4 d0
            go_upto_region 7 with fail
            rw [← hW4]
            clear hW4 c0 c1 c2 c3
            generalize wr.heap.size = kb at *
            by_cases hk : kind = 1
            · subst hk
              have HQ : Hid (seenTo OO SS who (j + 1) = seenTo OO SS who j) := by show _ = _; rw [unhide HST]; simp [isSeen]
              clear HST HA HA2
              go_wp2_with fail
              go_roundw
              case rel => exact ⟨j + 1, by omega, by go_num, by rw [unhide HQ]; exact unhide O4, G4⟩
              case measure => simp [intOf]; omega
            have e1 : (kind != 1) = true := bne_iff_ne.2 hk
            by_cases hw : who' = who
            · subst hw
              have HQ : Hid (seenTo OO SS who' (j + 1) = seenTo OO SS who' j ++ [y]) := by show _ = _; rw [unhide HST]; simp [isSeen, hk]
              clear HST HA HA2
              go_wp2_with (at_builtin; refine appT (k := y) (unhide O4) hs4 (by rw [unhide HFN]; omega) rfl _ _ rfl rfl rfl ?_)
              intro g6 cap6 w6 o6 gg6
              rw [← unhide HQ] at o6
              have O6 := hide o6
              have G6 := hide (grown_app (unhide G4) (unhide O4) gg6)
              clear o6 gg6 O4 G4
              go_wp2_with fail
              go_roundw
              case rel => exact ⟨j + 1, by omega, by go_num, O6, G6⟩
              case measure => simp [intOf]; omega
            · have HQ : Hid (seenTo OO SS who (j + 1) = seenTo OO SS who j) := by show _ = _; rw [unhide HST]; simp [isSeen, hw]
              have e2 : (who' == who) = false := beq_eq_false_iff_ne.2 hw
              clear HST HA HA2
              go_wp2_with fail
              go_roundw
              case rel => exact ⟨j + 1, by omega, by go_num, by rw [unhide HQ]; exact unhide O4, G4⟩
              case measure => simp [intOf]; omega
      · have hi' : ¬ (j : Int) < (OO.length : Int) := by omega
        have hjj : j = OO.length := by omega
        have R : Hid (OwnT w.heap.size wr.heap.size wr (.slice xa fn xc) (seenL OO SS who)) := by
          have q := unhide ho
          rw [hjj] at q
          show OwnT _ _ _ _ _
          rw [unhide HSL]
          exact q
        clear hjj HFN HA HA2 ho
        go_wp2
        go_ret
        exact ⟨_, rfl, unhide R, unhide hg⟩
  · have HSL : Hid (seenL OO SS who = []) := if_neg hll
    have hll2 : ((OO.length : Int) != (SS.length : Int)) = true := bne_iff_ne.2 (by omega)
    clear HA HA2
    go_enter Try.func15, Try.ntmps15
    go_wp2
    go_ret
    exact ⟨_, rfl, by rw [unhide HSL]; exact unhide ST, unhide GS⟩
set_option maxHeartbeats 1600000 in
theorem specSeen (v u0 : Value) (OO : List va.Op) (SS : List ByteArray) (who : Int) (w : World) (hn : OO.length ≤ 1048576) (hn2 : SS.length ≤ 1048576) (hv : Ops w v OO) (hu : Strs w u0 SS) :
    Calls Try.prog 13 #[v, u0, .int .i64 who] w fun e w' => SeenE w (seenL OO SS who) e w' := by
  obtain ⟨a, cap, rfl, ha⟩ := hv
  obtain ⟨a2, cap2, rfl, ha2⟩ := hu
  have M0 := made_nil w
  have ST : Hid (OwnT w.heap.size (w.alloc (.cells #[] 9)).heap.size (w.alloc (.cells #[] 9)) (.slice (some ⟨w.heap.size, 0, none⟩) 0 0) (seenTo OO SS who 0)) := OwnT.of M0.1
  have GS := hide M0.2
  have HA := hide ha
  have HA2 := hide ha2
  clear ha ha2 M0
  by_cases hll : OO.length = SS.length
  · have HSL : Hid (seenL OO SS who = seenTo OO SS who OO.length) := if_pos hll
    have hll2 : ((OO.length : Int) == (SS.length : Int)) = true := by rw [hll]; exact beq_self_eq_true _
    have HLL := hide hll
    clear hll
    go_enter Try.func13, Try.ntmps13
    go_wp2
    have HL2 := hide hll2
    clear hll2
    go_loopw [7, 8] (fun u i wr => ∃ j : Nat, j ≤ OO.length ∧ i = .int .i64 j ∧ Hid (OwnT w.heap.size wr.heap.size wr u (seenTo OO SS who j)) ∧ Hid (w.grownBy wr none)) (fun _ i _ => OO.length - (intOf i).toNat)
    case atStart => exact ⟨0, Nat.zero_le _, rfl, ST, GS⟩
    case round =>
      obtain ⟨j, hj, rfl, ho, hg⟩ := hrel
      clear ST GS
      obtain ⟨xa, xc, hxv⟩ := (unhide ho).len
      have hfl := seenTo_le OO SS who j
      generalize hfn : (seenTo OO SS who j).length = fn at hxv hfl
      have HFN := hide hfn
      clear hfn
      subst hxv
      by_cases hlt : j < OO.length
      · rcases unhide HA with h | ⟨b, off, rfl, hb, hcb⟩
        · rw [h] at hlt
          simp at hlt
        · rcases unhide HA2 with h | ⟨b2, off2, rfl, hb2, hcb2⟩
          · have hll := unhide HLL
            rw [h] at hll
            rw [hll] at hlt
            simp at hlt
          · have hi' : (j : Int) < (OO.length : Int) := by omega
            have hi2 : (j : Int) < (SS.length : Int) := by have := unhide HLL; omega
            obtain ⟨c0, c1, c2, c3⟩ := (hcb j hlt).kept (unhide hg)
            have d0 := (unhide hg).cell (hcb2 j (by have := unhide HLL; omega)) (fun e => by cases e)
            have HST : Hid (seenTo OO SS who (j + 1) = seenTo OO SS who j ++ (if isSeen who (OO.getD j oz) then [SS.getD j bz] else [])) := rfl
            generalize OO.getD j oz = x at *
            generalize SS.getD j bz = y at *
            obtain ⟨kind, who', num, text⟩ := x
            dsimp only at *
            have hs4 : w.heap.size ≤ wr.heap.size := (unhide hg).size
            have hll2 := unhide HL2
            clear hcb hcb2
            by_cases hw : who' = who
            · subst hw
              by_cases hk : kind = 1
              · subst hk
                have HQ : Hid (seenTo OO SS who' (j + 1) = seenTo OO SS who' j) := by show _ = _; rw [unhide HST]; simp [isSeen]
                clear HST HA HA2
                go_upto_region 5 with fail
                clear hll2
                go_wp2_with fail
                go_roundw
                case rel => exact ⟨j + 1, by omega, by go_num, by rw [unhide HQ]; exact unhide ho, hg⟩
                case measure => simp [intOf]; omega
              · have e1 : (kind != 1) = true := bne_iff_ne.2 hk
                have HQ : Hid (seenTo OO SS who' (j + 1) = seenTo OO SS who' j ++ [y]) := by show _ = _; rw [unhide HST]; simp [isSeen, hk]
                clear HST HA HA2
                go_upto_region 5 with fail
                clear hll2
                go_wp2_with (at_builtin; refine appT (k := y) (unhide ho) hs4 (by rw [unhide HFN]; omega) rfl _ _ rfl rfl rfl ?_)
                intro g6 cap6 w6 o6 gg6
                rw [← unhide HQ] at o6
                have O6 := hide o6
                have G6 := hide (grown_app (unhide hg) (unhide ho) gg6)
                clear o6 gg6 ho hg
                go_wp2_with fail
                go_roundw
                case rel => exact ⟨j + 1, by omega, by go_num, O6, G6⟩
                case measure => simp [intOf]; omega
            · have HQ : Hid (seenTo OO SS who (j + 1) = seenTo OO SS who j) := by show _ = _; rw [unhide HST]; simp [isSeen, hw]
              have e2 : (who' == who) = false := beq_eq_false_iff_ne.2 hw
              clear HST HA HA2
              go_upto_region 5 with fail
              clear hll2
              go_wp2_with fail
              go_roundw
              case rel => exact ⟨j + 1, by omega, by go_num, by rw [unhide HQ]; exact unhide ho, hg⟩
              case measure => simp [intOf]; omega
      · have hi' : ¬ (j : Int) < (OO.length : Int) := by omega
        have hjj : j = OO.length := by omega
        have R : Hid (OwnT w.heap.size wr.heap.size wr (.slice xa fn xc) (seenL OO SS who)) := by
          have q := unhide ho
          rw [hjj] at q
          show OwnT _ _ _ _ _
          rw [unhide HSL]
          exact q
        clear hjj HFN HA HA2 ho
        go_wp2
        go_ret
        exact ⟨_, rfl, unhide R, unhide hg⟩
  · have HSL : Hid (seenL OO SS who = []) := if_neg hll
    have hll2 : ((OO.length : Int) == (SS.length : Int)) = false := beq_eq_false_iff_ne.2 (by omega)
    clear HA HA2
    go_enter Try.func13, Try.ntmps13
    go_wp2
    refine wp_loop_rounds 1 ?_
    rw [rounds_succ]
    by_cases h0 : 0 < OO.length
    · have h0' : (0 : Int) < (OO.length : Int) := by omega
      go_wp2
      go_ret
      exact ⟨_, rfl, by rw [unhide HSL]; exact unhide ST, unhide GS⟩
    · have h0' : ¬ (0 : Int) < (OO.length : Int) := by omega
      go_wp2
      go_ret
      exact ⟨_, rfl, by rw [unhide HSL]; exact unhide ST, unhide GS⟩
end Go.Proofs.Ytofbngeeiompcaa.vs
