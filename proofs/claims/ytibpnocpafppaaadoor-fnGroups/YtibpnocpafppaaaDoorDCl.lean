/- What the laws draw of clauses: a list of at most 49 numbers in memory of the call's own, whatever the bytes; nothing old but the cursor is written. -/
import Derived.Test.YtibpnocpafppaaaDoorDraw
import Derived.Test.YtibpnocpafppaaaDoorCss
import Derived.Test.YtibpnocpafppaaaDoorApp
namespace Go.Proofs.YtibpnocpafppaaaDoor.dcls
open Go.ChangeShapes Go.WideShapes Go.ChangeAt Go.RowKit
open Go.Proofs.YtibpnocpafppaaaDoor.sl (Sl ints hide unhide grown_refl grown_trans grown_trans' of_below below_of grown_drewN)
open Go.Proofs.YtibpnocpafppaaaDoor.draw (Cur Bs I64 newCur grown_new)
open Go.Proofs.YtibpnocpafppaaaDoor.wo (Made)
set_option linter.unusedVariables false

/-- v is a slice made since w, while the cursor in block c turned -/
def MadeC (c : Nat) (w w1 : World) (v : Value) (M : List Int) : Prop := w1.ownsRow w.heap.size 3 1 v M.length (ints M) ∧ w.grownBy w1 (some c) ∧ Cur w1 c
theorem MadeC.form {c : Nat} {w w1 : World} {v : Value} {M : List Int} (h : MadeC c w w1 v M) : ∃ a cap, v = .slice a M.length cap := by
  obtain ⟨a, cap, e, _⟩ := Sl.of_own h.1
  exact ⟨a, cap, e⟩
theorem MadeC.turn {c : Nat} {w wr w1 : World} {v : Value} {M : List Int} (h : MadeC c w wr v M) (hc : c < w.heap.size) (g : wr.grownBy w1 (some c)) (hcur : Cur w1 c) : MadeC c w w1 v M := by
  refine ⟨h.1.kept g (.inr (fun e => ?_)), grown_trans' h.2.1 g, hcur⟩
  have := (h.1.lt c e).1
  omega
theorem MadeC.start (c : Nat) (w : World) (h : Cur w c) : MadeC c w (w.alloc (.cells #[] 3)) (.slice (some ⟨w.heap.size, 0, none⟩) 0 0) [] :=
  ⟨(app.made_nil w).1, World.grownBy_alloc _ _ _, h.kept (World.grownBy_alloc w _ none) (fun r e => by cases e)⟩
theorem MadeC.grow {c : Nat} {w wr w1 : World} {v v' : Value} {M : List Int} {y : Int} {o : Obj} (h : MadeC c w wr v M) (hc : c < w.heap.size)
    (hown' : w1.ownsRow w.heap.size 3 1 v' (M.length + 1) (ints M ++ [.int .i64 y])) (hgrow : (wr.alloc o).grownBy w1 v.ownBlock) : MadeC c w w1 v' (M ++ [y]) := by
  obtain ⟨hown, hg, hcur⟩ := h
  refine ⟨?_, ⟨hgrow.os.trans hg.os, hgrow.tape.trans hg.tape, hgrow.output.trans hg.output, ?_, fun k hk hne => ?_⟩, ?_⟩
  · have e1 : (M ++ [y]).length = M.length + 1 := by simp
    have e2 : ints (M ++ [y]) = ints M ++ [.int .i64 y] := by simp [ints]
    rw [e1, e2]
    exact hown'
  · have h1 := hgrow.size
    have h2 := hg.size
    simp at h1
    omega
  · have h2 := hg.size
    rw [hgrow.block k (by simp; omega) ?_, Below.heap_alloc _ _ _ (by omega)]
    · exact hg.block k hk hne
    · intro e
      have := (hown.lt k e.symm).1
      omega
  · refine (hcur.kept (World.grownBy_alloc wr o none) (fun r e => by cases e)).kept hgrow (fun r e => ?_)
    have := (hown.lt r e).1
    omega
/-- 'out = append(out, y)' while the cursor turns -/
theorem appendC {ops : Array Oper} {rest : List Oper} {o : Oper} {a : Act} {Q : Exit → Act → World → Prop} {c : Nat} {w wr : World} {v : Value} {M : List Int} {y : Int}
    (hm : MadeC c w wr v M) (hc : c < w.heap.size) (hM : M.length ≤ 4194304) (hgd : o.guard = none) (s x : Operand)
    (ho : o.op = .call { callee := .builtin .append, args := #[s, x], argTypes := #[31, 31] }) (hs : a.eval s = v) (hx : a.eval x = .slice (some ⟨wr.heap.size, 0, none⟩) 1 1)
    (h : ∀ v' w1, MadeC c w w1 v' (M ++ [y]) → wpList Tryd.prog ops Q rest (a.put o.dst v') w1) :
    wpList Tryd.prog ops Q (o :: rest) a (wr.alloc (.cells #[.int .i64 y] 3)) := by
  obtain ⟨i0, hi, hz0, hz1, hz2⟩ := info_parts sl.info3
  have hown := hm.1
  have hsz := hm.2.1.size
  refine wpList_append_own _ hgd s x 31 ho w.heap.size 3 i0 (.int .i64 0) 1 8 Tryd.underlying31 hi hz0 hz1 hz2 rfl (by decide) v M.length (ints M) hs (hown.alloc _) ⟨wr.heap.size, 0, none⟩ 1 1 [.int .i64 y] hx rfl ?_ ?_ ?_ ?_ ?_ ?_
  · intro j u hj
    match j, hj with
    | 0, hj => simp at hj; subst hj; simp [Addr.add]
  · intro u hu
    simp at hu
    subst hu
    rfl
  · unfold maxLen
    omega
  · omega
  · simp
    omega
  · intro v' w1 hown' hgrow _
    exact h v' w1 (hm.grow hc hown' hgrow)
def slLen : Value → Nat
  | .slice _ n _ => n
  | _ => 0

set_option maxHeartbeats 800000 in
theorem clause (c : Nat) (n most : Int) (w : World) (hc : Cur w c) (n0 : 0 < n) (n1 : n ≤ 1073741824) (m0 : 0 ≤ most) (m1 : most ≤ 6) :
    Calls Tryd.prog 110 #[.pointer (some ⟨c, 0, none⟩), .int .i64 n, .int .i64 most] w fun e w' => ∃ v L, e = .returned v ∧ L.length ≤ 49 ∧ MadeC c w w' v L := by
  have hlt := hc.lt
  have START := hide (MadeC.start c w hc)
  clear hc
  go_enter Tryd.func110, Tryd.ntmps110
  go_wp2_with fail
  refine (draw.below c _ _ (unhide START).2.2 (by omega) (by omega)).mono ?_; rintro e w1 ⟨x, rfl, x0, x1, hc1, g1⟩
  obtain ⟨K, rfl⟩ := Int.eq_ofNat_of_zero_le x0
  have M1 := hide ((unhide START).turn hlt g1 hc1)
  have hK : K ≤ 6 := by omega
  clear hc1 g1 START x0 x1
  go_wp2_with fail
  go_loopw [7, 9] (fun u i wr => ∃ (k : Nat) (M : List Int), k ≤ K ∧ M.length = k ∧ i = .int .i64 k ∧ MadeC c w wr u M) (fun _ i _ => K - (intOf i).toNat)
  case atStart => exact ⟨0, [], Nat.zero_le _, rfl, rfl, unhide M1⟩
  case round =>
    obtain ⟨k, M, hk, hM, rfl, hm⟩ := hrel
    clear M1
    have HM := hide hm
    clear hm
    by_cases hlt' : k < K
    · have hi : (k : Int) < (K : Int) := by omega
      go_wp2_with fail
      refine (draw.lit c n _ (unhide HM).2.2 n0 n1).mono ?_; rintro e w2 ⟨y, rfl, hy, hc2, g2⟩
      have HM2 := hide ((unhide HM).turn hlt g2 hc2)
      clear hy hc2 g2 HM
      go_wp2_with (at_builtin; refine appendC (unhide HM2) hlt (by omega) rfl _ _ rfl rfl rfl ?_)
      intro v' w3 R
      clear HM2
      go_wp2
      go_roundw
      case rel => exact ⟨k + 1, M ++ [y], by omega, by rw [List.length_append, hM]; rfl, by go_num, R⟩
      case measure => simp [intOf]; omega
    · have hi : ¬ (k : Int) < (K : Int) := by omega
      go_wp2_with fail
      refine (draw.once c _ _ (unhide HM).2.2 (by decide) (by decide)).mono ?_; rintro e w2 ⟨b, rfl, hc2, g2⟩
      have HM2 := hide ((unhide HM).turn hlt g2 hc2)
      clear hc2 g2 HM
      cases b
      · go_wp2_with fail
        go_ret
        exact ⟨_, M, rfl, by omega, unhide HM2⟩
      · have hM9 : M.length ≤ 49 := by omega
        clear hM hk hi hlt'
        go_wp2_with fail
        go_loopw [7] (fun u wr => ∃ (N : List Int), N.length ≤ 49 ∧ MadeC c w wr u N) (fun u _ => 49 - slLen u)
        case atStart => exact ⟨M, hM9, unhide HM2⟩
        case round =>
          obtain ⟨N, hN, hm⟩ := hrel
          clear HM2 hM9
          obtain ⟨a, cap, rfl⟩ := hm.form
          have HM3 := hide hm
          clear hm
          go_wp2_with fail
          refine (draw.below c _ _ (unhide HM3).2.2 (by decide) (by decide)).mono ?_; rintro e w3 ⟨x, rfl, x0, x1, hc3, g3⟩
          have HM4 := hide ((unhide HM3).turn hlt g3 hc3)
          clear hc3 g3 HM3
          by_cases h48 : (N.length : Int) < 48 + x
          · go_wp2_with (at_builtin; refine appendC (unhide HM4) hlt (by omega) rfl _ _ rfl rfl rfl ?_)
            intro v' w4 R
            clear HM4
            obtain ⟨a', cap', rfl⟩ := R.form
            have HR := hide R
            have hl : (N ++ [1]).length = N.length + 1 := by simp
            clear R
            go_wp2
            go_roundw
            case rel => exact ⟨N ++ [1], by omega, unhide HR⟩
            case measure => simp [slLen]; omega
          · go_wp2_with fail
            go_ret
            exact ⟨_, N, rfl, hN, unhide HM4⟩

theorem sameC (v u : Value) (L : List Int) (w : World) (hL : L.length ≤ 1048576) (hv : Sl w v L) (hu : Sl w u L) :
    Calls Tryd.prog 62 #[v, u] w fun e w' => e = .returned (.bool true) ∧ w.grownBy w' none := by
  obtain ⟨a, cap, rfl, ha⟩ := hv
  obtain ⟨c, cap', rfl, hc⟩ := hu
  rcases ha with rfl | ⟨b, off, rfl, hb, hcb⟩
  · go_enter Tryd.func62, Tryd.ntmps62
    go_wp2
    refine wp_loop_rounds 1 ?_
    rw [rounds_succ]
    go_wp2
    go_ret
    exact ⟨rfl, grown_refl _⟩
  · rcases hc with rfl | ⟨d, off', rfl, hd, hcd⟩
    · go_enter Tryd.func62, Tryd.ntmps62
      go_wp2
      refine wp_loop_rounds 1 ?_
      rw [rounds_succ]
      go_wp2
      go_ret
      exact ⟨rfl, grown_refl _⟩
    · have HB := hide hcb
      have HD := hide hcd
      clear hcb hcd
      go_enter Tryd.func62, Tryd.ntmps62
      go_wp2
      go_loopw [5] (fun i wr => ∃ k : Nat, k ≤ L.length ∧ i = .int .i64 k ∧ w.grownBy wr none) (fun i _ => L.length - (intOf i).toNat)
      case atStart => exact ⟨0, Nat.zero_le _, rfl, grown_refl _⟩
      case round =>
        obtain ⟨k, hk, rfl, hg⟩ := hrel
        by_cases hlt : k < L.length
        · have c1 : wr.cell? ⟨b, off + k, none⟩ = some (.int .i64 (L.getD k 0)) := hg.cell (unhide HB k hlt) (fun e => by cases e)
          have c2 : wr.cell? ⟨d, off' + k, none⟩ = some (.int .i64 (L.getD k 0)) := hg.cell (unhide HD k hlt) (fun e => by cases e)
          have hi : (k : Int) < (L.length : Int) := by omega
          have G := hide hg
          clear hg
          go_wp2
          go_quiet (fail)
          go_wp2
          go_roundw
          case rel => exact ⟨k + 1, by omega, by go_num, grown_trans (unhide G) (grown_drewN _ _)⟩
          case measure => simp [intOf]; omega
        · have hi : ¬ (k : Int) < (L.length : Int) := by omega
          have G := hide hg
          clear hg
          go_wp2
          go_ret
          exact ⟨rfl, unhide G⟩
end Go.Proofs.YtibpnocpafppaaaDoor.dcls
