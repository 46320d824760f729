/- Two lists of numbers, each in memory of the call's own: one number more behind the first leaves the second; no condition but on sizes. -/
import Derived.Test.YtheigbmkldlicaaDoorApp
import Derived.Deep.AppendLies
namespace Go.Proofs.YtheigbmkldlicaaDoor.tw
open Go.ChangeShapes Go.WideShapes Go.ChangeAt Go.RowKit
open Go.Proofs.YtheigbmkldlicaaDoor.sl (Sl Own ints hide unhide grown_refl grown_trans)
open Go.Proofs.YtheigbmkldlicaaDoor.wo (Made)
set_option linter.unusedVariables false

def Two (w wr : World) (va : Value) (A : List Int) (vb : Value) (B : List Int) : Prop :=
  Made w wr va A ∧ wr.ownsRow w.heap.size 3 1 vb B.length (ints B) ∧ (va.ownBlock = none ∨ va.ownBlock ≠ vb.ownBlock)
theorem Two.mk_low {w w1 wr : World} {va vb : Value} {A B : List Int} (ha : Made w w1 va A) (hb : Made w1 wr vb B) : Two w wr va A vb B := by
  refine ⟨⟨ha.1.kept hb.2 ?_, grown_trans ha.2 hb.2⟩, css.own_mono hb.1 ha.2.size, ?_⟩
  · cases va.ownBlock with
    | none => exact .inl rfl
    | some k => exact .inr (by simp)
  · cases e : va.ownBlock with
    | none => exact .inl rfl
    | some k =>
      right
      intro e'
      have h1 := (ha.1.lt k e).2
      have h2 := (hb.1.lt k e'.symm).1
      omega
theorem Two.sl {w wr : World} {va vb : Value} {A B : List Int} (h : Two w wr va A vb B) : Sl wr vb B := Sl.of_own h.2.1
theorem Two.kept {w wr w1 : World} {va vb : Value} {A B : List Int} (h : Two w wr va A vb B) (g : wr.grownBy w1 none) : Two w w1 va A vb B := by
  have n : ∀ v : Value, v.ownBlock = none ∨ v.ownBlock ≠ none := fun v => by cases v.ownBlock with
    | none => exact .inl rfl
    | some k => exact .inr (by simp)
  exact ⟨⟨h.1.1.kept g (n _), grown_trans h.1.2 g⟩, h.2.1.kept g (n _), h.2.2⟩
theorem append1 {ops : Array Oper} {rest : List Oper} {o : Oper} {a : Act} {Q : Exit → Act → World → Prop} {w wr : World} {v vb : Value} {M B : List Int} {y : Int}
    (ht : Two w wr v M vb B) (hM : M.length ≤ 4194304) (hgd : o.guard = none) (s x : Operand)
    (ho : o.op = .call { callee := .builtin .append, args := #[s, x], argTypes := #[31, 31] }) (hs : a.eval s = v) (hx : a.eval x = .slice (some ⟨wr.heap.size, 0, none⟩) 1 1)
    (h : ∀ g cap w1, Two w w1 (.slice (some ⟨g, 0, none⟩) (M.length + 1) cap) (M ++ [y]) vb B → wpList Tryd.prog ops Q rest (a.put o.dst (.slice (some ⟨g, 0, none⟩) (M.length + 1) cap)) w1) :
    wpList Tryd.prog ops Q (o :: rest) a (wr.alloc (.cells #[.int .i64 y] 3)) := by
  obtain ⟨i0, hi, hz0, hz1, hz2⟩ := info_parts sl.info3
  obtain ⟨⟨hown, hg⟩, hB, hne⟩ := ht
  have hsz := hg.size
  refine wpList_append_lies _ hgd s x 31 ho w.heap.size 3 i0 (.int .i64 0) 1 8 Tryd.underlying31 hi hz0 hz1 hz2 rfl (by decide) v M.length (ints M) hs (hown.alloc _) ⟨wr.heap.size, 0, none⟩ 1 1 [.int .i64 y] hx rfl ?_ ?_ (by decide) ?_ ?_ ?_ (wr.heap.size + 1) (World.size_alloc ..) ?_
  · intro j u hj
    match j, hj with
    | 0, hj => simp at hj; subst hj; simp [Addr.add]
  · intro u hu
    simp at hu
    subst hu
    rfl
  · unfold maxLen
    omega
  · omega
  · simp
    omega
  · intro g cap w1 hown' hgrow hl hlt
    refine h g cap w1 ⟨wo.own_grow hg hown hown' hgrow, (hB.alloc _).kept hgrow ?_, .inr ?_⟩
    · cases e : vb.ownBlock with
      | none => exact .inl rfl
      | some k =>
        right
        intro e'
        rcases hne with q | q
        · rw [q] at e'
          cases e'
        · exact q (by rw [e, e'])
    · intro e'
      have e2 : vb.ownBlock = some g := e'.symm
      have h1 := (hB.lt g e2).2
      rcases hl with q | q
      · rcases hne with q' | q'
        · rw [q] at q'
          cases q'
        · exact q' (by rw [q, e2])
      · omega
end Go.Proofs.YtheigbmkldlicaaDoor.tw
