/- Rows of bytes that the call has made out of texts (the run-time's mark lies behind their cells): a text's bytes become such a row, more bytes may be appended, and the text be read back. -/
import Derived.Test.YtfokbkaommfnoaaGreatDoorDec
import Derived.Laws.IdiomStrings
import Derived.Laws.CopyRow
import Derived.Lib.UnsafeStr
import Derived.Lib.BufferWrite
namespace Go.Proofs.YtfokbkaommfnoaaGreatDoor.byt
open Go.ChangeShapes Go.WideShapes Go.ChangeAt Go.RowKit
open Go.Proofs.YtfokbkaommfnoaaGreatDoor.sl (hide unhide grown_refl grown_trans of_below below_of)
open Go.Proofs.YtfokbkaommfnoaaGreatDoor.dec (str)
set_option linter.unusedVariables false

/-- a row of bytes, none of which is frozen, in a block from lo on -/
def Byt (lo : Nat) (w : World) (v : Value) (l : List UInt8) : Prop :=
  ∃ g cap cur fz, v = .slice (some ⟨g, 0, none⟩) l.length cap ∧ lo ≤ g ∧ w.heap[g]? = some (.cells cur 5 fz) ∧ (fz.2 = 0 ∨ cap ≤ fz.1) ∧ l.length ≤ cap ∧ cap ≤ maxLen ∧ cur.size = cap ∧ cur.toList.take l.length = Lib.byteCells l
theorem Byt.form {lo : Nat} {w : World} {v : Value} {l : List UInt8} (h : Byt lo w v l) : ∃ g cap, v = .slice (some ⟨g, 0, none⟩) l.length cap := by
  obtain ⟨g, cap, _, _, rfl, _⟩ := h
  exact ⟨g, cap, rfl⟩
theorem Byt.kept {lo : Nat} {w w' : World} {v : Value} {l : List UInt8} (h : Byt lo w v l) (k : w.grownBy w' none) : Byt lo w' v l := by
  obtain ⟨g, cap, cur, fz, rfl, h1, h2, r⟩ := h
  exact ⟨g, cap, cur, fz, rfl, h1, (k.block g (Array.getElem?_eq_some_iff.1 h2).1 (fun e => by cases e)).trans h2, r⟩
theorem Byt.cells {lo : Nat} {w : World} {a : Addr} {n cap : Nat} {l : List UInt8} (h : Byt lo w (.slice (some a) n cap) l) : ∀ j u, (Lib.byteCells l)[j]? = some u → w.cell? (a.add j) = some u := by
  obtain ⟨g, c, cur, fz, e, h1, h2, _, _, _, _, ht⟩ := h
  cases e
  intro j u hu
  rw [← ht, List.getElem?_take] at hu
  split at hu
  · have e2 : (⟨g, 0, none⟩ : Addr).add j = ⟨g, j, none⟩ := by unfold Addr.add; split <;> simp_all
    rw [e2]
    simpa [World.cell?, h2] using hu
  · cases hu

/-- cells are stored where nothing is frozen -/
theorem put (P : Program) (g o : Nat) (t : TypeId) (fz : Nat × Nat) (vs : List Value) : ∀ (i : Nat) (cur : Array Value) (w : World), w.heap[g]? = some (.cells cur t fz) → (fz.2 = 0 ∨ o + i + vs.length ≤ fz.1) → o + i + vs.length ≤ cur.size → (∀ v ∈ vs, v.oneCell' = true) →
    (storeCells ⟨g, o, none⟩ vs i).run P w = .ok () (w.setRow g (cur.toList.take (o + i) ++ vs ++ cur.toList.drop (o + i + vs.length)).toArray) := by
  induction vs with
  | nil =>
    intro i cur w hg _ _ _
    simp only [storeCells, List.append_nil, List.length_nil, Nat.add_zero, List.take_append_drop, Array.toArray_toList]
    rw [setRow_self w g cur t fz hg]
    rfl
  | cons v rest ih =>
    intro i cur w hg hz hl h1
    rw [List.length_cons] at hz hl
    have hi : o + i < cur.size := by omega
    have ea : (⟨g, o, none⟩ : Addr).add i = ⟨g, o + i, none⟩ := by unfold Addr.add; split <;> simp_all
    have hc : w.cell? ⟨g, o + i, none⟩ = some cur[o + i] := by simp [World.cell?, hg, hi]
    have hf : w.frozen? ⟨g, o + i, none⟩ = false := by
      obtain ⟨x, y⟩ := fz
      simp only at hz
      simp only [World.frozen?, hg, Bool.and_eq_false_iff, decide_eq_false_iff_not]
      omega
    have hs : (store ((⟨g, o, none⟩ : Addr).add i) v).run P w = .ok () (w.setRow g (cur.setIfInBounds (o + i) v)) := by
      rw [ea, run_store P w _ v _ (h1 v (by simp)), hc]
      simp [hf, setCell_eq_setRow w g (o + i) cur t fz v hg]
    have h := ih (i + 1) (cur.setIfInBounds (o + i) v) (w.setRow g (cur.setIfInBounds (o + i) v)) (setRow_heap w g cur _ t _ hg) (by omega) (by simp; omega) (fun x hx => h1 x (by simp [hx]))
    simp only [storeCells, Sem.run_bind, hs, Result.andThen_ok, h, setRow_setRow]
    congr 3
    have e := list_seg_step cur.toList (o + i) v rest (by simp; omega)
    simpa [Array.toList_setIfInBounds, Nat.add_assoc] using e

theorem infoU : (Tryz.prog.info? 5).map (fun i => (i.zero, i.size, i.bytes)) = some (some (.int .u8 0), 1, 1) := by kernel_rfl

/-- a row and what has come since -/
def MadeB (w w1 : World) (v : Value) (l : List UInt8) : Prop := Byt w.heap.size w1 v l ∧ w.grownBy w1 none

theorem run_app (w wr : World) (v : Value) (l t : List UInt8) (ty : TypeId) (a : Addr) (c : Nat) (hm : MadeB w wr v l) (hc : ∀ j u, (Lib.byteCells t)[j]? = some u → wr.cell? (a.add j) = some u) (hl : l.length + t.length ≤ 4194304) :
    ∃ v' w1, (Builtin.append_ #[22, 22] ty #[v, .slice (some a) t.length c]).run Tryz.prog wr = .ok v' w1 ∧ MadeB w w1 v' (l ++ t) := by
  obtain ⟨i0, hi, hz0, hz1, hz2⟩ := info_parts infoU
  obtain ⟨hb, gw⟩ := hm
  have hb' := hb
  obtain ⟨g, cap, cur, fz, rfl, h1, h2, h3, h4, h5, h6, h7⟩ := hb
  have hlt : (Lib.byteCells t).length = t.length * i0.size := by rw [Lib.byteCells_length, hz1, Nat.mul_one]
  have hll : (Lib.byteCells l).length = l.length * i0.size := by rw [Lib.byteCells_length, hz1, Nat.mul_one]
  by_cases hr : l.length + t.length ≤ cap
  · have hf := run_firstCells_some (P := Tryz.prog) wr i0.size t.length a t.length c (Lib.byteCells t) hlt hc
    have hst := put Tryz.prog g l.length 5 fz (Lib.byteCells t) 0 cur wr h2 (by rw [Lib.byteCells_length]; omega) (by rw [Lib.byteCells_length]; omega) (Lib.byteCells_one t)
    simp only [Nat.add_zero] at hst
    refine ⟨.slice (some ⟨g, 0, none⟩) (l.length + t.length) cap, wr.setRow g (cur.toList.take l.length ++ Lib.byteCells t ++ cur.toList.drop (l.length + (Lib.byteCells t).length)).toArray, ?_, ?_, ?_⟩
    · simp [Builtin.append_, run_underlying Tryz.underlying22, sizeOf, typeInfo, hi, hz1, Builtin.lenOf, hr, Addr.add_lit]
      rw [hz1] at hf
      simp [hf, hst]
    · refine ⟨g, cap, _, fz, by rw [List.length_append], h1, setRow_heap wr g cur _ 5 _ h2, h3, by rw [List.length_append]; exact hr, h5, ?_, ?_⟩
      · simp only [List.size_toArray, List.length_append, List.length_take, List.length_drop, Array.length_toList, Lib.byteCells_length]
        omega
      · rw [h7, ← Lib.byteCells_append, show (l ++ t).length = (Lib.byteCells (l ++ t)).length from (Lib.byteCells_length _).symm]
        exact List.take_left
    · exact ⟨gw.os, gw.tape, gw.output, by simpa using gw.size, fun k hk _ => (setRow_other wr g k _ (by omega)).trans (gw.block k hk (fun e => by cases e))⟩
  · have hgr := run_append_grow (P := Tryz.prog) wr 22 ty 5 i0 (.int .u8 0) Tryz.underlying22 hi hz0 ⟨g, 0, none⟩ l.length cap (Lib.byteCells l) hll hb'.cells a t.length c (Lib.byteCells t) hlt hc (by omega) (by omega) (growslice_fits (by omega) (by rw [hz2]; omega))
    have hge := grownCap_ge wr (l.length + t.length) cap 5
    have hle := grownCap_le_maxLen wr (l.length + t.length) cap 5 (by unfold maxLen; omega)
    refine ⟨_, _, hgr, ⟨wr.heap.size, _, _, (0, 0), by rw [List.length_append], gw.size, heap_alloc_new wr.drew _, .inl rfl, by rw [List.length_append]; exact hge, hle, ?_, ?_⟩, grown_trans gw ⟨rfl, rfl, rfl, by simp, fun k hk _ => Go.heap_alloc_old wr.drew _ hk⟩⟩
    · have z1 : (Value.int IntKind.u8 0).cells.size = 1 := rfl
      simp only [Array.size_append, List.size_toArray, size_zeroCells, z1, Lib.byteCells_length]
      omega
    · simp only [Array.toList_append, List.append_assoc]
      rw [← List.append_assoc, ← Lib.byteCells_append, show (l ++ t).length = (Lib.byteCells (l ++ t)).length from (Lib.byteCells_length _).symm]
      exact List.take_left

/-- 'out = append(out, bytes...)' -/
theorem app {ops : Array Oper} {rest : List Oper} {o : Oper} {a : Act} {Q : Exit → Act → World → Prop} {w wr : World} {v u : Value} {l t : List UInt8} {lo : Nat}
    (hm : MadeB w wr v l) (hu : Byt lo wr u t) (hl : l.length + t.length ≤ 4194304) (hgd : o.guard = none) (s x : Operand)
    (ho : o.op = .call { callee := .builtin .append, args := #[s, x], argTypes := #[22, 22] }) (hs : a.eval s = v) (hx : a.eval x = u)
    (h : ∀ v' w1, MadeB w w1 v' (l ++ t) → wpList Tryz.prog ops Q rest (a.put o.dst v') w1) :
    wpList Tryz.prog ops Q (o :: rest) a wr := by
  refine wpList_plain hgd fun K hK => ?_
  obtain ⟨g, cap, rfl⟩ := hu.form
  obtain ⟨v', w1, hr, h2⟩ := run_app w wr v l t o.type ⟨g, 0, none⟩ cap hm hu.cells hl
  unfold Oper.wp execOp
  simp only [ho, resolve, invoke, builtin, Sem.run_bind, Sem.run_pure, Result.andThen_ok, List.map_toArray, List.map_cons, List.map_nil, hs, hx, hr]
  exact hK _ _ (h v' w1 h2)

/-- '[]byte(s)' -/
theorem run_of (w : World) (l : List UInt8) (hl : l.length ≤ 4194304) :
    ∃ v w1, (convert 9 22 (.string ⟨l.toArray⟩)).run Tryz.prog w = .ok v w1 ∧ MadeB w w1 v l := by
  have h := run_bytes_of_string (P := Tryz.prog) w 9 22 5 ⟨l.toArray⟩ Tryz.underlying9 Tryz.underlying22 Tryz.underlying5
  have e : (⟨l.toArray⟩ : ByteArray).size = l.length := by simp [ByteArray.size]
  rw [e] at h
  have hge := grownCap_ge w l.length 0 5
  have hle := grownCap_le_maxLen w l.length 0 5 (by unfold maxLen; omega)
  have hsz : (bytesRow ⟨l.toArray⟩ (grownCap w l.length 0 5)).size = grownCap w l.length 0 5 := by
    simp [bytesRow, e]
    omega
  refine ⟨_, _, h, ⟨w.heap.size, _, _, _, rfl, Nat.le_refl _, Go.heap_alloc_new w.drew _, .inr (by rw [hsz]; exact Nat.le_refl _), hge, hle, hsz, ?_⟩, ⟨rfl, rfl, rfl, by simp, fun k hk _ => Go.heap_alloc_old w.drew _ hk⟩⟩
  simp [bytesRow, Lib.byteCells]

/-- 'string(b)' -/
theorem run_back (w : World) (v : Value) (l : List UInt8) (lo : Nat) (h : Byt lo w v l) : (convert 22 9 v).run Tryz.prog w = .ok (str l) w := by
  obtain ⟨g, cap, rfl⟩ := h.form
  refine run_convert_bytes_back (P := Tryz.prog) w 22 9 5 ⟨g, 0, none⟩ cap l Tryz.underlying22 Tryz.underlying5 Tryz.underlying9 fun j hj => h.cells j _ ?_
  simp [Lib.byteCells, hj]
end Go.Proofs.YtfokbkaommfnoaaGreatDoor.byt
