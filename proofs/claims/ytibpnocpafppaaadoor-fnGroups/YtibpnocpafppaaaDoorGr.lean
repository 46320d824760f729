/- Lists of lists that a call makes: one slice more behind the others, in a struct variable of the call's own; no condition but on sizes. -/
import Derived.Test.YtibpnocpafppaaaDoorCf
import Derived.Deep.AppendLies
import Derived.Deep.RegionLaw
import Derived.Deep.DrawnRows
import Derived.Deep.DeepCutAuto
import Derived.Laws.MakeOwn
namespace Go.Proofs.YtibpnocpafppaaaDoor.gr
open Go.ChangeShapes Go.WideShapes Go.ChangeAt Go.RowKit
open Go.Proofs.YtibpnocpafppaaaDoor.sl (Sl Own ints marks hide unhide ret_int ret_bool grown_refl grown_trans grown_drewN below_of of_below)
open Go.Proofs.YtibpnocpafppaaaDoor.css (Sls OwnS Outs tot sumLen marksS Apart own_ne own_ne' own_kind own_mono infoSl)
open Go.Proofs.YtibpnocpafppaaaDoor.cf (Box)
set_option linter.unusedVariables false

theorem ty1 : (26 : Nat) ≠ 31 := by decide
theorem ty2 : (26 : Nat) ≠ 3 := by decide
theorem box_ne {w : World} {lo n c : Nat} {t : TypeId} {v x y : Value} {xs : List Value} (h : w.ownsRow lo t 1 v n xs) (ht : (26 : Nat) ≠ t) (hb : Box 26 w c x y) : v.ownBlock ≠ some c := by
  intro e
  obtain ⟨cs, fz, hc⟩ := own_kind h c e
  unfold Box at hb
  rw [hb] at hc
  simp only [Option.some.injEq, Obj.cells.injEq] at hc
  exact ht hc.2.1
theorem own_set {w : World} {lo n c i : Nat} {t : TypeId} {v x y u : Value} {xs : List Value} (h : w.ownsRow lo t 1 v n xs) (ht : (26 : Nat) ≠ t) (hb : Box 26 w c x y) : (w.setCell ⟨c, i, none⟩ u).ownsRow lo t 1 v n xs := by
  refine h.kept (sl.grown_setCell w c i u) ?_
  cases e : v.ownBlock with
  | none => exact .inl rfl
  | some g => exact .inr (fun e' => box_ne h ht hb (e.trans e'))
/-- a store into a struct variable leaves the lists as they are -/
theorem ownS_set {lo hi : Nat} {w : World} {v : Value} {LL : List (List Int)} {c i : Nat} {u x y : Value} (h : OwnS lo hi w v LL) (hb : Box 26 w c x y) : OwnS lo hi (w.setCell ⟨c, i, none⟩ u) v LL := by
  obtain ⟨D, e, ho, hb', hi', hp⟩ := h
  exact ⟨D, e, own_set ho ty1 hb, hb', fun p hp => ⟨own_set (hi' p hp).1 ty2 hb, (hi' p hp).2⟩, hp⟩

/-- one slice more -/
theorem grow {lo mid : Nat} {wr w1 : World} {v v' u : Value} {D : List (Value × List Int)} {L : List Int} {o : Obj} (ho : wr.ownsRow lo 31 1 v D.length (D.map (·.1))) (hin : ∀ p ∈ D, Own lo mid wr p.1 p.2) (hp : D.Pairwise Apart)
    (hu : Own mid wr.heap.size wr u L) (hlo : lo ≤ mid) (hmid : mid ≤ wr.heap.size) (h1 : w1.ownsRow lo 31 1 v' (D.length + 1) (D.map (·.1) ++ [u])) (hg : (wr.alloc o).grownBy w1 v.ownBlock) :
    OwnS lo w1.heap.size w1 v' (D.map (·.2) ++ [L]) := by
  have sz := hg.size
  simp only [World.size_alloc] at sz
  have hoA := ho.alloc o
  have kp : ∀ (p : Value) (n : Nat) (xs : List Value), wr.ownsRow lo 3 1 p n xs → w1.ownsRow lo 3 1 p n xs := fun p n xs h => (h.alloc o).kept hg (own_ne' hoA (h.alloc o))
  refine ⟨D ++ [(u, L)], by simp, ?_, fun k e => (h1.lt k e).2, ?_, ?_⟩
  · have e1 : (D ++ [(u, L)]).length = D.length + 1 := by simp
    have e2 : (D ++ [(u, L)]).map (fun p : Value × List Int => p.1) = D.map (fun p : Value × List Int => p.1) ++ [u] := by simp
    rw [e1, e2]
    exact h1
  · intro p hp'
    rw [List.mem_append, List.mem_singleton] at hp'
    rcases hp' with hp' | rfl
    · exact ⟨kp _ _ _ (hin p hp').1, fun k e => by have := (hin p hp').2 k e; omega⟩
    · exact ⟨kp _ _ _ (own_mono hu.1 hlo), fun k e => by have := hu.2 k e; omega⟩
  · rw [List.pairwise_append]
    refine ⟨hp, List.pairwise_singleton _ _, fun a ha b hb => ?_⟩
    rw [List.mem_singleton] at hb
    subst hb
    intro k e e'
    have h1 := (hin a ha).2 k e
    have h2 := (hu.1.lt k e').1
    omega
theorem own_one {lo hi : Nat} {w : World} {u : Value} {L : List Int} (h : Own lo hi w u L) : u.oneCell' = true := by
  obtain ⟨_, h2⟩ := h.1
  rcases h2 with ⟨rfl, _⟩ | ⟨g, cap, cur, rfl, _⟩ <;> rfl

/-- 'out = append(out, y)', a step of a region that draws its order -/
theorem stepR {ops : Array Oper} {o : Oper} {a : Act} {K : Act → World → Prop} {Q : Exit → Act → World → Prop} {E : Prop} {lo mid : Nat} {wr : World} {v u : Value} {M : List (List Int)} {L : List Int}
    (h : OwnS lo mid wr v M) (hu : Own mid wr.heap.size wr u L) (hlo : lo ≤ mid) (hmid : mid ≤ wr.heap.size) (hM : M.length ≤ 1048576) (hgd : o.guard = none) (s x : Operand)
    (ho : o.op = .call { callee := .builtin .append, args := #[s, x], argTypes := #[24, 24] }) (hs : a.eval s = v) (hx : a.eval x = .slice (some ⟨wr.heap.size, 0, none⟩) 1 1)
    (hK : ∀ g cap w1, OwnS lo w1.heap.size w1 (.slice (some ⟨g, 0, none⟩) (M.length + 1) cap) (M ++ [L]) → (wr.alloc (.cells #[u] 31)).grownBy w1 v.ownBlock → K (a.put o.dst (.slice (some ⟨g, 0, none⟩) (M.length + 1) cap)) w1) :
    if Region.wanted o (yielded ops a.tmps) = true then Oper.wp Tryd.prog o a (wr.alloc (.cells #[u] 31)) K Q else E := by
  obtain ⟨i0, hi, hz0, hz1, hz2⟩ := info_parts infoSl
  obtain ⟨D, rfl, hw, hb, hin, hp⟩ := h
  rw [List.length_map] at *
  refine step_append_lies _ hgd s x 24 ho lo 31 i0 (.slice none 0 0) 1 24 Tryd.underlying24 hi hz0 hz1 hz2 rfl (by decide) v D.length (D.map (·.1)) hs (hw.alloc _) ⟨wr.heap.size, 0, none⟩ 1 1 [u] hx rfl ?_ ?_ (by decide) ?_ ?_ ?_ (wr.heap.size + 1) (World.size_alloc ..) ?_
  · intro j y hj
    match j, hj with
    | 0, hj => simp at hj; subst hj; simp [Addr.add]
  · intro y hy
    simp at hy
    subst hy
    exact own_one hu
  · unfold maxLen; omega
  · omega
  · simp; omega
  · intro g cap w1 h1 hg _ _
    exact hK g cap w1 (grow hw hin hp hu hlo hmid h1 hg) hg
/-- .. of a region that does not -/
theorem appendR {ops : Array Oper} {rest : List Oper} {o : Oper} {a : Act} {Q : Exit → Act → World → Prop} {lo mid : Nat} {wr : World} {v u : Value} {M : List (List Int)} {L : List Int}
    (h : OwnS lo mid wr v M) (hu : Own mid wr.heap.size wr u L) (hlo : lo ≤ mid) (hmid : mid ≤ wr.heap.size) (hM : M.length ≤ 1048576) (hgd : o.guard = none) (s x : Operand)
    (ho : o.op = .call { callee := .builtin .append, args := #[s, x], argTypes := #[24, 24] }) (hs : a.eval s = v) (hx : a.eval x = .slice (some ⟨wr.heap.size, 0, none⟩) 1 1)
    (hK : ∀ g cap w1, OwnS lo w1.heap.size w1 (.slice (some ⟨g, 0, none⟩) (M.length + 1) cap) (M ++ [L]) → (wr.alloc (.cells #[u] 31)).grownBy w1 v.ownBlock → wpList Tryd.prog ops Q rest (a.put o.dst (.slice (some ⟨g, 0, none⟩) (M.length + 1) cap)) w1) :
    wpList Tryd.prog ops Q (o :: rest) a (wr.alloc (.cells #[u] 31)) := by
  obtain ⟨i0, hi, hz0, hz1, hz2⟩ := info_parts infoSl
  obtain ⟨D, rfl, hw, hb, hin, hp⟩ := h
  rw [List.length_map] at *
  refine wpList_append_lies _ hgd s x 24 ho lo 31 i0 (.slice none 0 0) 1 24 Tryd.underlying24 hi hz0 hz1 hz2 rfl (by decide) v D.length (D.map (·.1)) hs (hw.alloc _) ⟨wr.heap.size, 0, none⟩ 1 1 [u] hx rfl ?_ ?_ (by decide) ?_ ?_ ?_ (wr.heap.size + 1) (World.size_alloc ..) ?_
  · intro j y hj
    match j, hj with
    | 0, hj => simp at hj; subst hj; simp [Addr.add]
  · intro y hy
    simp at hy
    subst hy
    exact own_one hu
  · unfold maxLen; omega
  · omega
  · simp; omega
  · intro g cap w1 h1 hg _ _
    exact hK g cap w1 (grow hw hin hp hu hlo hmid h1 hg) hg

/-- a struct variable of the call's own that holds n and the lists M; beside it others, that stay -/
def MidF (w wr : World) (c : Nat) (n : Int) (M : List (List Int)) (Bs : List (Nat × Value × Value)) : Prop :=
  w.heap.size ≤ c ∧ w.grownBy wr none ∧ (∀ b ∈ Bs, b.1 ≠ c ∧ Box 26 wr b.1 b.2.1 b.2.2) ∧ ∃ a cap, Box 26 wr c (.int .i64 n) (.slice a M.length cap) ∧ OwnS w.heap.size wr.heap.size wr (.slice a M.length cap) M
theorem MidF.kept {w wr w1 : World} {c : Nat} {n : Int} {M : List (List Int)} {Bs : List (Nat × Value × Value)} (h : MidF w wr c n M Bs) (g : wr.grownBy w1 none) : MidF w w1 c n M Bs := by
  obtain ⟨hc, hg, hB, a, cap, hb, ho⟩ := h
  exact ⟨hc, grown_trans hg g, fun b hb => ⟨(hB b hb).1, (hB b hb).2.kept g⟩, a, cap, hb.kept g, (ho.kept g).sub (Nat.le_refl _) g.size⟩
theorem MidF.grown {w wr : World} {c : Nat} {n : Int} {M : List (List Int)} {Bs : List (Nat × Value × Value)} (h : MidF w wr c n M Bs) : w.grownBy wr none := h.2.1
theorem MidF.box {w wr : World} {c : Nat} {n : Int} {M : List (List Int)} {Bs : List (Nat × Value × Value)} (h : MidF w wr c n M Bs) (b : Nat) (x y : Value) (hb : (b, x, y) ∈ Bs) : Box 26 wr b x y := (h.2.2.1 _ hb).2
/-- what one slice more does -/
theorem MidF.step {w wr w2 w1 : World} {c : Nat} {n : Int} {M : List (List Int)} {Bs : List (Nat × Value × Value)} {L : List Int} {a : Option Addr} {cap g cap' : Nat} {u : Value} (hc : w.heap.size ≤ c) (hg : w.grownBy wr none) (hB : ∀ b ∈ Bs, b.1 ≠ c ∧ Box 26 wr b.1 b.2.1 b.2.2) (hb : Box 26 wr c (.int .i64 n) (.slice a M.length cap)) (ho : OwnS w.heap.size wr.heap.size wr (.slice a M.length cap) M)
    (g2 : wr.grownBy w2 none) (h1 : OwnS w.heap.size w1.heap.size w1 (.slice (some ⟨g, 0, none⟩) (M.length + 1) cap') (M ++ [L])) (g1 : (w2.alloc (.cells #[u] 31)).grownBy w1 (Value.slice a M.length cap).ownBlock) :
    (w1.cell? ⟨c, 1, none⟩ = some (.slice a M.length cap) ∧ w1.frozen? ⟨c, 1, none⟩ = false ∧ w.grownBy w1 none ∧ ∀ b x y, (b, x, y) ∈ Bs → Box 26 w1 b x y) ∧ MidF w (w1.setCell ⟨c, 1, none⟩ (.slice (some ⟨g, 0, none⟩) (M.length + 1) cap')) c n (M ++ [L]) Bs := by
  have gA := grown_trans (r := none) g2 (World.grownBy_alloc w2 (.cells #[u] 31) none)
  have hb2 := hb.kept gA
  obtain ⟨D, e, hw, hbb, hin, hp⟩ := ho.kept gA
  have hb1 := hb2.by g1 (box_ne hw ty1 hb2)
  have hgA : w.grownBy (w2.alloc (.cells #[u] 31)) none := grown_trans hg gA
  have hg1 : w.grownBy w1 none := ⟨g1.os.trans hgA.os, g1.tape.trans hgA.tape, g1.output.trans hgA.output, Nat.le_trans hgA.size g1.size, fun k hk _ => by
    rw [g1.block k (Nat.lt_of_lt_of_le hk hgA.size) (fun e => by have := (hw.lt k e.symm).1; omega)]
    exact hgA.block k hk (fun e => by cases e)⟩
  have hB1 : ∀ b x y, (b, x, y) ∈ Bs → Box 26 w1 b x y := by
    intro b x y hb'
    have hbb := (hB _ hb').2.kept gA
    exact hbb.by g1 (box_ne hw ty1 hbb)
  refine ⟨⟨hb1.c1, hb1.f 1, hg1, hB1⟩, hc, cf.grown_set hg1 hc, fun b hb' => ⟨(hB b hb').1, ?_⟩, some ⟨g, 0, none⟩, cap', ?_, ?_⟩
  · exact (hB1 b.1 b.2.1 b.2.2 hb').setO (fun e => (hB b hb').1 e.symm)
  · have := hb1.set1 (.slice (some ⟨g, 0, none⟩) (M.length + 1) cap')
    rw [List.length_append]
    exact this
  · rw [cf.size_set, List.length_append]
    exact ownS_set h1 hb1

theorem mk0 (n : Nat) (hn : n ≤ 1048576) (w : World) : (Instr.makeSlice 24 (.int .i64 0) (.int .i64 (n : Int))).run Tryd.prog w = .ok (.slice (some ⟨w.heap.size, 0, none⟩) 0 n) (w.alloc (.cells (madeCells #[.slice none 0 0] n) 31)) := by
  obtain ⟨i0, hi, hz0, hz1, hz2⟩ := info_parts infoSl
  have hr := run_make (P := Tryd.prog) w 24 31 i0 (.slice none 0 0) Tryd.underlying24 hi hz0 .i64 .i64 0 n (by decide) (by omega) (by rw [hz2]; omega) (by omega)
  rw [hz1, Nat.mul_one] at hr
  exact hr
theorem ownS_made (w : World) (n : Nat) (lo : Nat) (hlo : lo ≤ w.heap.size) (hn : n ≤ 1048576) : OwnS lo (w.heap.size + 1) (w.alloc (.cells (madeCells #[.slice none 0 0] n) 31)) (.slice (some ⟨w.heap.size, 0, none⟩) 0 n) [] :=
  ⟨[], rfl, World.ownsRow_made w _ n hlo (by unfold maxLen; omega) (by rw [size_madeCells, Nat.mul_one]), (fun k e => by cases e; exact Nat.lt_succ_self _), (fun p hp => by cases hp), .nil⟩
end Go.Proofs.YtibpnocpafppaaaDoor.gr
