/- The closure of eachSubset: what it does to the builder; no condition but on sizes. -/
import Derived.Test.YtmmmldcnadidkaaTa
import Derived.Test.YtmmmldcnadidkaaNs
import Derived.Deep.RegionLaw
namespace Go.Proofs.Ytmmmldcnadidkaa.t2
open Go.ChangeShapes Go.WideShapes Go.ChangeAt Go.RowKit
open Go.Proofs.Ytmmmldcnadidkaa.sl (Sl Own ints hide unhide ret_int ret_bool grown_refl grown_trans grown_drewN)
open Go.Proofs.Ytmmmldcnadidkaa.css (Sls OwnS tot Apart own_ne own_ne' own_kind own_mono)
open Go.Proofs.Ytmmmldcnadidkaa.cf (Box)
set_option linter.unusedVariables false
variable {W0 Wb w : World} {p b1 b2 b3 b4 b5 m : Nat} {t3 t5 : TypeId} {x3 x5 lv vb : Value} {L P : List Int} {pv v : Value} {r : Bool} {D : List (Value × List Int)}

theorem Pk.kept {w' : World} (h : Pk W0 Wb w p b1 b2 b3 b4 b5 m t3 t5 x3 x5 lv vb L P pv v r D) (g : w.grownBy w' none) : Pk W0 Wb w' p b1 b2 b3 b4 b5 m t3 t5 x3 x5 lv vb L P pv v r D := by
  have s : ∀ {t : TypeId} {c : Nat} {x : Value}, Var t w c x → Var t w' c x := fun k => k.same (g.block _ k.lt (fun e => by cases e))
  exact ⟨h.bld.kept g, h.len, h.le, h.fr.more g, s h.c1, s h.c2, s h.c3, s h.c4, s h.c5, h.l2, rowk h.row g, rowk h.list g, h.d1, h.d2, h.d4, h.d24, h.dl, h.dd, h.t3i, h.t5i⟩
theorem ints_snoc (M : List Int) (x : Int) : ints (M ++ [x]) = ints M ++ [.int .i64 x] := by simp [ints]
/-- 'append(picked, x)', a step of a region that draws its order; where the row lies then -/
theorem stepP {ops : Array Oper} {o : Oper} {a : Act} {K : Act → World → Prop} {Q : Exit → Act → World → Prop} {E : Prop} {lo : Nat} {wr : World} {v : Value} {M : List Int} {y : Int}
    (hw : wr.ownsRow lo 3 1 v M.length (ints M)) (hlo : lo ≤ wr.heap.size) (hM : M.length ≤ 1048576) (hgd : o.guard = none) (s x : Operand)
    (ho : o.op = .call { callee := .builtin .append, args := #[s, x], argTypes := #[35, 35] }) (hs : a.eval s = v) (hx : a.eval x = .slice (some ⟨wr.heap.size, 0, none⟩) 1 1)
    (hK : ∀ g cap w1, w1.ownsRow lo 3 1 (.slice (some ⟨g, 0, none⟩) (M.length + 1) cap) (M.length + 1) (ints (M ++ [y])) → (wr.alloc (.cells #[.int .i64 y] 3)).grownBy w1 v.ownBlock → (v.ownBlock = some g ∨ wr.heap.size ≤ g) → K (a.put o.dst (.slice (some ⟨g, 0, none⟩) (M.length + 1) cap)) w1) :
    if Region.wanted o (yielded ops a.tmps) = true then Oper.wp Try.prog o a (wr.alloc (.cells #[.int .i64 y] 3)) K Q else E := by
  obtain ⟨i0, hi, hz0, hz1, hz2⟩ := info_parts sl.info3
  refine step_append_lies _ hgd s x 35 ho lo 3 i0 (.int .i64 0) 1 8 Try.underlying35 hi hz0 hz1 hz2 rfl (by decide) v M.length (ints M) hs (hw.alloc _) ⟨wr.heap.size, 0, none⟩ 1 1 [.int .i64 y] hx rfl ?_ ?_ (by decide) ?_ ?_ ?_ (wr.heap.size + 1) (World.size_alloc ..) ?_
  · intro j u hj
    match j, hj with
    | 0, hj => simp at hj; subst hj; simp [Addr.add]
  · intro u hu
    simp at hu
    subst hu
    rfl
  · unfold maxLen; omega
  · omega
  · simp; omega
  · intro g cap w1 h1 hg hn _
    refine hK g cap w1 ?_ hg (by rcases hn with e | e; exact .inl e; exact .inr (by omega))
    rw [ints_snoc]
    exact h1
theorem stepPd {ops : Array Oper} {o : Oper} {a : Act} {K : Act → World → Prop} {Q : Exit → Act → World → Prop} {E : Prop} {lo : Nat} {wr : World} {v : Value} {M : List Int} {y : Int}
    (hw : wr.ownsRow lo 3 1 v M.length (ints M)) (hlo : lo ≤ wr.heap.size) (hM : M.length ≤ 1048576) (hgd : o.guard = none) (s x : Operand)
    (ho : o.op = .call { callee := .builtin .append, args := #[s, x], argTypes := #[35, 35] }) (hs : a.eval s = v) (hx : a.eval x = .slice (some ⟨wr.heap.size, 0, none⟩) 1 1)
    (hK : ∀ g cap w1, w1.ownsRow lo 3 1 (.slice (some ⟨g, 0, none⟩) (M.length + 1) cap) (M.length + 1) (ints (M ++ [y])) → (wr.alloc (.cells #[.int .i64 y] 3)).grownBy w1 v.ownBlock → (v.ownBlock = some g ∨ wr.heap.size ≤ g) → K (a.put o.dst (.slice (some ⟨g, 0, none⟩) (M.length + 1) cap)) w1) :
    if Region.wanted o (yielded ops a.tmps) = true then Oper.wp Try.prog o a (wr.alloc (.cells #[.int .i64 y] 3)).drew K Q else E := by
  have gd := cf.grown_drew wr none
  have r := stepP (ops := ops) (o := o) (a := a) (K := K) (Q := Q) (E := E) (wr := wr.drew) (rowk hw gd) hlo hM hgd s x ho hs hx (fun g cap w1 h1 g1 hn => hK g cap w1 h1 (sl.grown_trans' (cf.grown_drew (wr.alloc (.cells #[.int .i64 y] 3)) v.ownBlock) g1) hn)
  exact r
/-- one number more is picked -/
theorem Pk.push {w1 : World} {g cap : Nat} {y : Int} (h : Pk W0 Wb w p b1 b2 b3 b4 b5 m t3 t5 x3 x5 lv vb L P pv v r D) (ho : w1.ownsRow Wb.heap.size 3 1 (.slice (some ⟨g, 0, none⟩) (P.length + 1) cap) (P.length + 1) (ints (P ++ [y]))) (g1 : (w.alloc (.cells #[.int .i64 y] 3)).grownBy w1 pv.ownBlock) (hn : pv.ownBlock = some g ∨ w.heap.size ≤ g) :
    Var 35 w1 b2 pv ∧ Pk W0 Wb (w1.setCell ⟨b2, 0, none⟩ (.slice (some ⟨g, 0, none⟩) (P.length + 1) cap)) p b1 b2 b3 b4 b5 m t3 t5 x3 x5 lv vb L (P ++ [y]) (.slice (some ⟨g, 0, none⟩) (P.length + 1) cap) v r D :=
  h.put (sl.grown_trans' (World.grownBy_alloc w (.cells #[.int .i64 y] 3) pv.ownBlock) g1) (by rw [List.length_append]; exact ho) (by
    rcases hn with e | e
    · exact .inl e.symm
    · exact .inr ⟨g, rfl, e⟩)
/-- the last one is given back -/
theorem Pk.pop {g cap : Nat} {P : List Int} {y : Int} (h : Pk W0 Wb w p b1 b2 b3 b4 b5 m t3 t5 x3 x5 lv vb L (P ++ [y]) (.slice (some ⟨g, 0, none⟩) (P.length + 1) cap) v r D) :
    Pk W0 Wb (w.setCell ⟨b2, 0, none⟩ (.slice (some ⟨g, 0, none⟩) P.length cap)) p b1 b2 b3 b4 b5 m t3 t5 x3 x5 lv vb L P (.slice (some ⟨g, 0, none⟩) P.length cap) v r D := by
  have hr := h.row
  rw [List.length_append] at hr
  have ht := qw.own_take (k := P.length) hr (by simp)
  have e : (ints (P ++ [y])).take P.length = ints P := by
    rw [ints_snoc]
    simp [ints]
  rw [e] at ht
  exact (h.put ⟨rfl, rfl, rfl, Nat.le_refl _, fun _ _ _ => rfl⟩ ht (.inl rfl)).2
end Go.Proofs.Ytmmmldcnadidkaa.t2
