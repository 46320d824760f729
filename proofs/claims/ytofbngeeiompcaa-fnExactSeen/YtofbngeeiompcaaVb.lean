/- What the marks on lists of ops do, and Mine of both sides; no condition but on sizes. -/
import Derived.Test.YtofbngeeiompcaaVa
namespace Go.Proofs.Ytofbngeeiompcaa.va
open Go.ChangeShapes Go.WideShapes Go.ChangeAt Go.RowKit
open Go.Proofs.Ytofbngeeiompcaa.sl (hide unhide ret_int ret_bool grown_refl grown_trans grown_drewN below_of of_below)
open Go.Proofs.Ytofbngeeiompcaa.css (Outs outs_trans outs_none outs_by outs_refl own_mono own_kind)
open Go.Proofs.Ytofbngeeiompcaa.yb (Box4)
set_option linter.unusedVariables false
/-- a marked one -/
def mk1 (k : Int) : Op := ⟨k, k + 1, k + 1 + 1, ua.mtB (k + 1 + 1 + 1)⟩
/-- the marks of a list, one behind the other -/
def marksO (k : Int) (n : Nat) : List Op := (List.range n).map fun (i : Nat) => mk1 (k + 4 * (i : Int))
theorem marksO_length (k : Int) (n : Nat) : (marksO k n).length = n := by simp [marksO]
theorem marksO_getD (k : Int) (n i : Nat) (h : i < n) : (marksO k n).getD i oz = mk1 (k + 4 * (i : Int)) := by simp [marksO, h]
theorem marksO_succ (k : Int) (n : Nat) : marksO k (n + 1) = marksO k n ++ [mk1 (k + 4 * (n : Int))] := by
  unfold marksO
  rw [List.range_succ, List.map_append]
  rfl
/-- a list of which the first j are marked -/
def MarkO (lo hi : Nat) (w wr : World) (v : Value) (k : Int) (OO : List Op) (j : Nat) : Prop :=
  wr.ownsRow lo 39 4 v OO.length (cellsO (marksO k j ++ OO.drop j)) ∧ (∀ k, v.ownBlock = some k → k < hi) ∧ Outs lo hi w wr
theorem MarkO.start {lo hi : Nat} {w : World} {v : Value} {OO : List Op} (k : Int) (h : OwnO lo hi w v OO) : MarkO lo hi w w v k OO 0 := ⟨by simpa [marksO] using h.1, h.2, outs_refl _ _ _⟩
theorem MarkO.done {lo hi : Nat} {w wr : World} {v : Value} {OO : List Op} {k : Int} {j : Nat} (h : MarkO lo hi w wr v k OO j) (hj : j = OO.length) : OwnO lo hi wr v (marksO k OO.length) ∧ Outs lo hi w wr := by
  obtain ⟨ho, hb, g⟩ := h
  subst hj
  rw [List.drop_eq_nil_of_le (Nat.le_refl _), List.append_nil] at ho
  refine ⟨⟨?_, hb⟩, g⟩
  rw [marksO_length]
  exact ho
/-- the next one -/
theorem MarkO.next {lo hi : Nat} {w wr : World} {v : Value} {OO : List Op} {k : Int} {j : Nat} (h : MarkO lo hi w wr v k OO j) (hj : j < OO.length) :
    ∃ g cap, v = .slice (some ⟨g, 0, none⟩) OO.length cap ∧ (∀ i, i < 4 → (∃ x, wr.cell? ⟨g, j * 4 + i, none⟩ = some x) ∧ wr.frozen? ⟨g, j * 4 + i, none⟩ = false) ∧
      ∀ W, W = ((wr.setCell ⟨g, j * 4, none⟩ (.int .i64 (k + 4 * (j : Int)))).setCell ⟨g, j * 4 + 1, none⟩ (.int .i64 (k + 4 * (j : Int) + 1))).setCell ⟨g, j * 4 + 2, none⟩ (.int .i64 (k + 4 * (j : Int) + 1 + 1)) → ∀ w1, W.grownBy w1 none →
        (∃ x, w1.cell? ⟨g, j * 4 + 3, none⟩ = some x) ∧ w1.frozen? ⟨g, j * 4 + 3, none⟩ = false ∧ MarkO lo hi w (w1.setCell ⟨g, j * 4 + 3, none⟩ (.string (ua.mtB (k + 4 * (j : Int) + 1 + 1 + 1)))) v k OO (j + 1) := by
  obtain ⟨ho, hb, gO⟩ := h
  have ho' := ho
  obtain ⟨hx, hf⟩ := ho
  rcases hf with ⟨rfl, h0⟩ | ⟨g', cap, cur, rfl, r⟩
  · omega
  · have ln : (cellsO (marksO k j ++ OO.drop j)).length = OO.length * 4 := by
      rw [cellsO_len, List.length_append, marksO_length, List.length_drop]
      omega
    refine ⟨g', cap, rfl, fun i hi4 => ⟨?_, ho'.frozenAt _⟩, ?_⟩
    · rw [ho'.cellAt _ (by omega)]
      exact ⟨_, List.getElem?_eq_getElem (by omega)⟩
    · rintro W rfl w1 g1
      have s1 := (ho'.stored (j * 4) (.int .i64 (k + 4 * (j : Int)))).1
      have s2 := (s1.stored (j * 4 + 1) (.int .i64 (k + 4 * (j : Int) + 1))).1
      have s3 := (s2.stored (j * 4 + 2) (.int .i64 (k + 4 * (j : Int) + 1 + 1))).1
      have s4 := row_kept s3 g1
      refine ⟨?_, s4.frozenAt _, ?_, hb, ?_⟩
      · rw [s4.cellAt _ (by omega)]
        exact ⟨_, List.getElem?_eq_getElem (by rw [List.length_set, List.length_set, List.length_set, ln]; omega)⟩
      · have s5 := (s4.stored (j * 4 + 3) (.string (ua.mtB (k + 4 * (j : Int) + 1 + 1 + 1)))).1
        have e := cellsO_set (marksO k j) (OO.drop (j + 1)) OO[j] (mk1 (k + 4 * (j : Int))) j (marksO_length k j)
        rw [← List.drop_eq_getElem_cons hj] at e
        rw [marksO_succ, List.append_assoc, List.singleton_append, ← e]
        exact s5
      · have r1 := (ho'.lt g' rfl).1
        have r2 := hb g' rfl
        have st : ∀ (a : World) i u, Outs lo hi a (a.setCell ⟨g', i, none⟩ u) := fun a i u => outs_by (sl.grown_setCell a g' i u) (fun q e => by cases e; exact ⟨r1, r2⟩)
        exact outs_trans gO (outs_trans (outs_trans (outs_trans (outs_trans (st _ _ _) (st _ _ _)) (st _ _ _)) (outs_none g1)) (st _ _ _))
set_option maxHeartbeats 800000 in
/-- marks are written into a list of the call's own -/
theorem markHallOpS (v : Value) (OO : List Op) (k : Int) (lo hi : Nat) (w : World) (hn : OO.length ≤ 1048576) (k0 : 0 ≤ k) (k1 : k ≤ 1073741824) (ho : OwnO lo hi w v OO) :
    Calls Try.prog 10 #[v, .int .i64 k] w fun e w' => e = .returned (.int .i64 (k + 4 * (OO.length : Int))) ∧ OwnO lo hi w' v (marksO k OO.length) ∧ Outs lo hi w w' := by
  obtain ⟨a, cap, rfl⟩ := ho.len
  have st := hide (MarkO.start k ho)
  clear ho
  go_enter Try.func10, Try.ntmps10
  go_wp2
  go_loopw [1, 5] (fun q i wr => ∃ j : Nat, j ≤ OO.length ∧ i = .int .i64 j ∧ q = .int .i64 (k + 4 * (j : Int)) ∧ Hid (MarkO lo hi w wr (.slice a OO.length cap) k OO j)) (fun _ i _ => OO.length - (intOf i).toNat)
  case atStart => exact ⟨0, Nat.zero_le _, rfl, by simp, st⟩
  case round =>
    obtain ⟨j, hj, rfl, rfl, hm⟩ := hrel
    clear st
    by_cases hlt : j < OO.length
    · have hi' : (j : Int) < (OO.length : Int) := by omega
      obtain ⟨g, cap', e, hcc, hW⟩ := (unhide hm).next hlt
      simp only [Value.slice.injEq] at e
      obtain ⟨rfl, _, rfl⟩ := e
      obtain ⟨⟨x0, hx0⟩, hf0⟩ := hcc 0 (by decide)
      obtain ⟨⟨x1, hx1⟩, hf1⟩ := hcc 1 (by decide)
      obtain ⟨⟨x2, hx2⟩, hf2⟩ := hcc 2 (by decide)
      rw [Nat.add_zero] at hx0 hf0
      have SL : Hid (k + 4 * (j : Int) + 1 + 1 + 1 + 1 = k + 4 * ((j + 1 : Nat) : Int)) := by show _ = _; omega
      obtain ⟨ks, hks⟩ : ∃ ks, ks = k + 4 * (j : Int) := ⟨_, rfl⟩
      rw [← hks] at hW SL ⊢
      have b0 : 0 ≤ ks := by omega
      have b1 : ks ≤ 1099511000000 := by omega
      have HW := hide (hW _ rfl)
      have CT := hide (fun w => ua.markText (ks + 1 + 1 + 1) w (by omega) (by omega))
      clear hks hm hcc hW
      go_wp2_with fail
      refine (unhide CT _).mono ?_; rintro e w1 ⟨rfl, g1⟩
      obtain ⟨⟨x3, hx3⟩, hf3, M4⟩ := unhide HW w1 g1
      have M := hide M4
      clear CT HW M4 g1
      go_wp2_with fail
      go_roundw
      case rel => exact ⟨j + 1, by omega, by go_num, by rw [← unhide SL], M⟩
      case measure => simp [intOf]; omega
    · have hi' : ¬ (j : Int) < (OO.length : Int) := by omega
      have hjj : j = OO.length := by omega
      have R := hide ((unhide hm).done hjj)
      have e : Hid (k + 4 * (j : Int) = k + 4 * (OO.length : Int)) := by show _ = _; rw [hjj]
      clear hm hjj
      go_wp2
      go_ret
      exact ⟨ret_int (unhide e), unhide R⟩
set_option maxHeartbeats 1600000 in
/-- the marks are there still -/
theorem heldHallOpS (v : Value) (n : Nat) (k : Int) (w : World) (hn : n ≤ 1048576) (k0 : 0 ≤ k) (k1 : k ≤ 1073741824) (hv : Ops w v (marksO k n)) :
    Calls Try.prog 11 #[v, .int .i64 k] w fun e w' => e = .returned (.int .i64 (k + 4 * (n : Int))) ∧ w.grownBy w' none := by
  obtain ⟨a, cap, rfl, ha⟩ := hv
  rw [marksO_length] at *
  have HA := hide ha
  clear ha
  go_enter Try.func11, Try.ntmps11
  go_wp2
  go_loopw [1, 5] (fun q i wr => ∃ j : Nat, j ≤ n ∧ i = .int .i64 j ∧ q = .int .i64 (k + 4 * (j : Int)) ∧ Hid (w.grownBy wr none)) (fun _ i _ => n - (intOf i).toNat)
  case atStart => exact ⟨0, Nat.zero_le _, rfl, by simp, grown_refl _⟩
  case round =>
    obtain ⟨j, hj, rfl, rfl, hg⟩ := hrel
    by_cases hlt : j < n
    · rcases unhide HA with h | ⟨b, off, rfl, hb, hcb⟩
      · have := congrArg List.length h
        rw [marksO_length] at this
        simp at this
        omega
      · have hi' : (j : Int) < (n : Int) := by omega
        have hu := (hcb j hlt).kept (unhide hg)
        rw [marksO_getD k n j hlt] at hu
        have SL : Hid (k + 4 * (j : Int) + 1 + 1 + 1 + 1 = k + 4 * ((j + 1 : Nat) : Int)) := by show _ = _; omega
        obtain ⟨ks, hks⟩ : ∃ ks, ks = k + 4 * (j : Int) := ⟨_, rfl⟩
        rw [← hks] at hu SL ⊢
        obtain ⟨c0, c1, c2, c3⟩ := hu
        simp only [mk1] at c0 c1 c2 c3
        have b0 : 0 ≤ ks := by omega
        have b1 : ks ≤ 1099511000000 := by omega
        have hks' : ks + 1 + 1 + 1 ≤ 9223372036854775807 := by omega
        have CT := hide (fun w => ua.markText (ks + 1 + 1 + 1) w (by omega) (by omega))
        have CK : Hid (∀ w', wr.grownBy w' none → w'.cell? ⟨b, off + j * 4 + 3, none⟩ = some (.string (ua.mtB (ks + 1 + 1 + 1)))) := fun w' g => g.cell c3 (fun e => by cases e)
        generalize ua.mtB (ks + 1 + 1 + 1) = mt at *
        clear hks hcb HA
        go_wp2_with fail
        have GX := hide (grown_drew wr none)
        go_region_held3 (fun w' => w'.cell? ⟨b, off + j * 4 + 3, none⟩ = some (.string mt)) (go_keep) (first
          | (go_at_call 22; refine (unhide CT _).mono ?_; rintro e w9 ⟨rfl, g9⟩; replace GX := hide (grown_trans (r := none) (unhide GX) g9); have k1 := unhide CK _ (unhide GX); clear g9))
        all_goals
          have G2 := hide (grown_trans (r := none) (unhide hg) (unhide GX))
          clear CK CT hg GX c0 c1 c2 c3
          go_wp2_with fail
          go_roundw
          case rel => exact ⟨j + 1, by omega, by go_num, by rw [← unhide SL], G2⟩
          case measure => simp [intOf]; omega
    · have hi' : ¬ (j : Int) < (n : Int) := by omega
      have hjj : j = n := by omega
      have e : Hid (k + 4 * (j : Int) = k + 4 * (n : Int)) := by show _ = _; rw [hjj]
      clear HA hjj
      go_wp2
      go_ret
      exact ⟨ret_int (unhide e), unhide hg⟩
theorem four_at (wr : World) (k : Op) : ∀ j y, (four k)[j]? = some y → (wr.alloc (.cells #[.int .i64 k.kind, .int .i64 k.who, .int .i64 k.num, .string k.text] 39)).cell? ((⟨wr.heap.size, 0, none⟩ : Addr).add j) = some y := by
  intro j y hj
  have hb := Go.heap_alloc_new wr (.cells #[.int .i64 k.kind, .int .i64 k.who, .int .i64 k.num, .string k.text] 39)
  rw [Addr.add_lit, Nat.zero_add]
  unfold World.cell?
  rw [hb, ← hj]
  unfold four
  simp
theorem four_one (k : Op) : ∀ y ∈ four k, y.oneCell' = true := by
  intro y hy
  simp only [four, List.mem_cons, List.not_mem_nil, or_false] at hy
  rcases hy with rfl | rfl | rfl | rfl <;> rfl
theorem made_nil (W : World) : (W.alloc (.cells #[] 39)).ownsRow W.heap.size 39 4 (.slice (some ⟨W.heap.size, 0, none⟩) 0 0) 0 [] ∧ W.grownBy (W.alloc (.cells #[] 39)) none := by
  refine ⟨?_, World.grownBy_alloc _ _ _⟩
  refine ⟨rfl, .inr ⟨W.heap.size, 0, #[], rfl, Nat.le_refl _, Go.heap_alloc_new W _, ?_⟩⟩
  simp
/-- 'out = append(out, op)' -/
theorem appO {ops : Array Oper} {rest : List Oper} {o : Oper} {a : Act} {Q : Exit → Act → World → Prop} {lo hi : Nat} {wr : World} {v : Value} {M : List Op} {k : Op}
    (h : OwnO lo hi wr v M) (hlo : lo ≤ wr.heap.size) (hM : M.length ≤ 1048576) (hgd : o.guard = none) (s x : Operand)
    (ho : o.op = .call { callee := .builtin .append, args := #[s, x], argTypes := #[24, 24] }) (hs : a.eval s = v) (hx : a.eval x = .slice (some ⟨wr.heap.size, 0, none⟩) 1 1)
    (hK : ∀ g cap w1, OwnO lo w1.heap.size w1 (.slice (some ⟨g, 0, none⟩) (M.length + 1) cap) (M ++ [k]) → (wr.alloc (.cells #[.int .i64 k.kind, .int .i64 k.who, .int .i64 k.num, .string k.text] 39)).grownBy w1 v.ownBlock → wpList Try.prog ops Q rest (a.put o.dst (.slice (some ⟨g, 0, none⟩) (M.length + 1) cap)) w1) :
    wpList Try.prog ops Q (o :: rest) a (wr.alloc (.cells #[.int .i64 k.kind, .int .i64 k.who, .int .i64 k.num, .string k.text] 39)) := by
  obtain ⟨i0, hi, hz0, hz1, hz2⟩ := info_parts infoO
  refine wpList_append_lies _ hgd s x 24 ho lo 39 i0 (.agg #[.int .i64 0, .int .i64 0, .int .i64 0, .string ⟨#[]⟩]) 4 40 Try.underlying24 hi hz0 hz1 hz2 rfl (by decide) v M.length (cellsO M) hs (h.1.alloc _) ⟨wr.heap.size, 0, none⟩ 1 1 (four k) hx rfl (four_at wr k) (four_one k) (by decide) ?_ ?_ ?_ (wr.heap.size + 1) (World.size_alloc ..) ?_
  · unfold maxLen; omega
  · omega
  · simp; omega
  · intro g cap w1 h1 hg _ _
    refine hK g cap w1 ⟨?_, fun q e => ?_⟩ hg
    · rw [List.length_append, cellsO_append]
      exact h1
    · exact (h1.lt q e).2
theorem grown_app {hi : Nat} {w w1 w2 : World} {o : Obj} {v : Value} {M : List Op} (g : w.grownBy w1 none) (h : OwnO w.heap.size hi w1 v M) (g1 : (w1.alloc o).grownBy w2 v.ownBlock) : w.grownBy w2 none := by
  have hgA : w.grownBy (w1.alloc o) none := grown_trans g (World.grownBy_alloc w1 o none)
  exact ⟨g1.os.trans hgA.os, g1.tape.trans hgA.tape, g1.output.trans hgA.output, Nat.le_trans hgA.size g1.size, fun k hk _ => by
    rw [g1.block k (Nat.lt_of_lt_of_le hk hgA.size) (fun e => by have := (h.1.lt k e.symm).1; omega)]
    exact hgA.block k hk (fun e => by cases e)⟩
/-- those of a tenant, and the ticks -/
def isMine (who : Int) (k : Op) : Bool := (k.who == who) || (k.kind == 1)
def mineL (OO : List Op) (who : Int) : List Op := OO.filter (isMine who)
theorem mine_le (OO : List Op) (who : Int) : (mineL OO who).length ≤ OO.length := List.length_filter_le _ _
theorem mine_step (OO : List Op) (who : Int) (j : Nat) (h : j < OO.length) : mineL (OO.take (j + 1)) who = mineL (OO.take j) who ++ (if isMine who (OO.getD j oz) then [OO.getD j oz] else []) := by
  rw [take_snoc OO j h]
  unfold mineL
  rw [List.filter_append, List.filter_cons, List.filter_nil]
/-- what Mine answers -/
def MineE (w : World) (OO : List Op) (e : Ending) (w' : World) : Prop := ∃ u, e = .returned u ∧ OwnO w.heap.size w'.heap.size w' u OO ∧ w.grownBy w' none
set_option maxHeartbeats 1600000 in
theorem implMine (v : Value) (OO : List Op) (who : Int) (w : World) (hn : OO.length ≤ 1048576) (hv : Ops w v OO) :
    Calls Try.prog 8 #[v, .int .i64 who] w fun e w' => MineE w (mineL OO who) e w' := by
  obtain ⟨a, cap, rfl, ha⟩ := hv
  have M0 := made_nil w
  have ST : Hid (OwnO w.heap.size (w.alloc (.cells #[] 39)).heap.size (w.alloc (.cells #[] 39)) (.slice (some ⟨w.heap.size, 0, none⟩) 0 0) (mineL (OO.take 0) who)) := OwnO.of M0.1
  have GS := hide M0.2
  have HA := hide ha
  clear ha M0
  go_enter Try.func8, Try.ntmps8
  go_wp2
  go_loopw [5, 11] (fun u i wr => ∃ j : Nat, j ≤ OO.length ∧ i = .int .i64 j ∧ Hid (OwnO w.heap.size wr.heap.size wr u (mineL (OO.take j) who)) ∧ Hid (w.grownBy wr none)) (fun _ i _ => OO.length - (intOf i).toNat)
  case atStart => exact ⟨0, Nat.zero_le _, rfl, ST, GS⟩
  case round =>
    obtain ⟨j, hj, rfl, ho, hg⟩ := hrel
    clear ST GS
    obtain ⟨xa, xc, hxv⟩ := (unhide ho).len
    have hfl := Nat.le_trans (mine_le (OO.take j) who) (List.length_take_le _ _)
    generalize hfn : (mineL (OO.take j) who).length = fn at hxv hfl
    have HFN := hide hfn
    clear hfn
    subst hxv
    by_cases hlt : j < OO.length
    · rcases unhide HA with h | ⟨b, off, rfl, hb, hcb⟩
      · rw [h] at hlt
        simp at hlt
      · have hi' : (j : Int) < (OO.length : Int) := by omega
        obtain ⟨c0, c1, c2, c3⟩ := (hcb j hlt).kept (unhide hg)
        have HST := hide (mine_step OO who j hlt)
        generalize OO.getD j oz = x at *
        obtain ⟨kind, who', num, text⟩ := x
        dsimp only at *
        obtain ⟨W4, hW4⟩ : ∃ W4, W4 = wr.alloc (.cells #[.int .i64 kind, .int .i64 who', .int .i64 num, .string text] 39) := ⟨_, rfl⟩
        have g4 : wr.grownBy W4 none := by rw [hW4]; exact World.grownBy_alloc _ _ _
        have B4 : Box4 39 W4 wr.heap.size (.int .i64 kind) (.int .i64 who') (.int .i64 num) (.string text) := by rw [hW4]; exact Box4.new _ _ _ _ _ _
        have O4 := hide (((unhide ho).kept g4).sub (Nat.le_refl _) g4.size)
        have G4 := hide (grown_trans (r := none) (unhide hg) g4)
        have hs4 : w.heap.size ≤ W4.heap.size := (unhide G4).size
        have y0 := B4.c0
        have y1 := B4.c1
        have y2 := B4.c2
        have y3 := B4.c3
        clear hcb g4 ho hg B4
        go_upto_region 5 with fail
        rw [← hW4]
        clear hW4 c0 c1 c2 c3
        generalize wr.heap.size = kb at *
        by_cases hk : kind = 1
        · subst hk
          have HQ : Hid (mineL (OO.take (j + 1)) who = mineL (OO.take j) who ++ [⟨1, who', num, text⟩]) := by show _ = _; rw [unhide HST]; simp [isMine]
          clear HST HA
          go_wp2_with (at_builtin; refine appO (k := ⟨1, who', num, text⟩) (unhide O4) hs4 (by rw [unhide HFN]; omega) rfl _ _ rfl rfl rfl ?_)
          intro g6 cap6 w6 o6 gg6
          rw [← unhide HQ] at o6
          have O6 := hide o6
          have G6 := hide (grown_app (unhide G4) (unhide O4) gg6)
          clear o6 gg6 O4 G4
          go_wp2_with fail
          go_roundw
          case rel => exact ⟨j + 1, by omega, by go_num, O6, G6⟩
          case measure => simp [intOf]; omega
        by_cases hw : who' = who
        · subst hw
          have HQ : Hid (mineL (OO.take (j + 1)) who' = mineL (OO.take j) who' ++ [⟨kind, who', num, text⟩]) := by show _ = _; rw [unhide HST]; simp [isMine]
          clear HST HA
          go_wp2_with (at_builtin; refine appO (k := ⟨kind, who', num, text⟩) (unhide O4) hs4 (by rw [unhide HFN]; omega) rfl _ _ rfl rfl rfl ?_)
          intro g6 cap6 w6 o6 gg6
          rw [← unhide HQ] at o6
          have O6 := hide o6
          have G6 := hide (grown_app (unhide G4) (unhide O4) gg6)
          clear o6 gg6 O4 G4
          go_wp2_with fail
          go_roundw
          case rel => exact ⟨j + 1, by omega, by go_num, O6, G6⟩
          case measure => simp [intOf]; omega
        · have HQ : Hid (mineL (OO.take (j + 1)) who = mineL (OO.take j) who) := by show _ = _; rw [unhide HST]; simp [isMine, hk, hw]
          have e1 : (kind == 1) = false := beq_eq_false_iff_ne.2 hk
          have e2 : (who' == who) = false := beq_eq_false_iff_ne.2 hw
          clear HST HA
          go_wp2_with fail
          go_roundw
          case rel => exact ⟨j + 1, by omega, by go_num, by rw [unhide HQ]; exact unhide O4, G4⟩
          case measure => simp [intOf]; omega
    · have hi' : ¬ (j : Int) < (OO.length : Int) := by omega
      have hjj : OO.take j = OO := List.take_of_length_le (by omega)
      rw [hjj] at ho
      clear hjj HFN HA
      go_wp2
      go_ret
      exact ⟨_, rfl, unhide ho, unhide hg⟩
set_option maxHeartbeats 1600000 in
theorem specMine (v : Value) (OO : List Op) (who : Int) (w : World) (hn : OO.length ≤ 1048576) (hv : Ops w v OO) :
    Calls Try.prog 6 #[v, .int .i64 who] w fun e w' => MineE w (mineL OO who) e w' := by
  obtain ⟨a, cap, rfl, ha⟩ := hv
  have M0 := made_nil w
  have ST : Hid (OwnO w.heap.size (w.alloc (.cells #[] 39)).heap.size (w.alloc (.cells #[] 39)) (.slice (some ⟨w.heap.size, 0, none⟩) 0 0) (mineL (OO.take 0) who)) := OwnO.of M0.1
  have GS := hide M0.2
  have HA := hide ha
  clear ha M0
  go_enter Try.func6, Try.ntmps6
  go_wp2
  go_loopw [5, 6] (fun u i wr => ∃ j : Nat, j ≤ OO.length ∧ i = .int .i64 j ∧ Hid (OwnO w.heap.size wr.heap.size wr u (mineL (OO.take j) who)) ∧ Hid (w.grownBy wr none)) (fun _ i _ => OO.length - (intOf i).toNat)
  case atStart => exact ⟨0, Nat.zero_le _, rfl, ST, GS⟩
  case round =>
    obtain ⟨j, hj, rfl, ho, hg⟩ := hrel
    clear ST GS
    obtain ⟨xa, xc, hxv⟩ := (unhide ho).len
    have hfl := Nat.le_trans (mine_le (OO.take j) who) (List.length_take_le _ _)
    generalize hfn : (mineL (OO.take j) who).length = fn at hxv hfl
    have HFN := hide hfn
    clear hfn
    subst hxv
    by_cases hlt : j < OO.length
    · rcases unhide HA with h | ⟨b, off, rfl, hb, hcb⟩
      · rw [h] at hlt
        simp at hlt
      · have hi' : (j : Int) < (OO.length : Int) := by omega
        obtain ⟨c0, c1, c2, c3⟩ := (hcb j hlt).kept (unhide hg)
        have HST := hide (mine_step OO who j hlt)
        generalize OO.getD j oz = x at *
        obtain ⟨kind, who', num, text⟩ := x
        dsimp only at *
        have hs4 : w.heap.size ≤ wr.heap.size := (unhide hg).size
        clear hcb
        by_cases hw : who' = who
        · subst hw
          have HQ : Hid (mineL (OO.take (j + 1)) who' = mineL (OO.take j) who' ++ [⟨kind, who', num, text⟩]) := by show _ = _; rw [unhide HST]; simp [isMine]
          clear HST HA
          go_wp2_with (at_builtin; refine appO (k := ⟨kind, who', num, text⟩) (unhide ho) hs4 (by rw [unhide HFN]; omega) rfl _ _ rfl rfl rfl ?_)
          intro g6 cap6 w6 o6 gg6
          rw [← unhide HQ] at o6
          have O6 := hide o6
          have G6 := hide (grown_app (unhide hg) (unhide ho) gg6)
          clear o6 gg6 ho hg
          go_wp2_with fail
          go_roundw
          case rel => exact ⟨j + 1, by omega, by go_num, O6, G6⟩
          case measure => simp [intOf]; omega
        have e2 : (who' == who) = false := beq_eq_false_iff_ne.2 hw
        by_cases hk : kind = 1
        · subst hk
          have HQ : Hid (mineL (OO.take (j + 1)) who = mineL (OO.take j) who ++ [⟨1, who', num, text⟩]) := by show _ = _; rw [unhide HST]; simp [isMine]
          clear HST HA
          go_wp2_with (at_builtin; refine appO (k := ⟨1, who', num, text⟩) (unhide ho) hs4 (by rw [unhide HFN]; omega) rfl _ _ rfl rfl rfl ?_)
          intro g6 cap6 w6 o6 gg6
          rw [← unhide HQ] at o6
          have O6 := hide o6
          have G6 := hide (grown_app (unhide hg) (unhide ho) gg6)
          clear o6 gg6 ho hg
          go_wp2_with fail
          go_roundw
          case rel => exact ⟨j + 1, by omega, by go_num, O6, G6⟩
          case measure => simp [intOf]; omega
        · have HQ : Hid (mineL (OO.take (j + 1)) who = mineL (OO.take j) who) := by show _ = _; rw [unhide HST]; simp [isMine, hk, hw]
          have e1 : (kind == 1) = false := beq_eq_false_iff_ne.2 hk
          clear HST HA
          go_wp2_with fail
          go_roundw
          case rel => exact ⟨j + 1, by omega, by go_num, by rw [unhide HQ]; exact unhide ho, hg⟩
          case measure => simp [intOf]; omega
    · have hi' : ¬ (j : Int) < (OO.length : Int) := by omega
      have hjj : OO.take j = OO := List.take_of_length_le (by omega)
      rw [hjj] at ho
      clear hjj HFN HA
      go_wp2
      go_ret
      exact ⟨_, rfl, unhide ho, unhide hg⟩
end Go.Proofs.Ytofbngeeiompcaa.va
