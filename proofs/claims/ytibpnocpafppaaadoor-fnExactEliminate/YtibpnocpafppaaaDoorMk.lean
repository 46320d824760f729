/- A map whose keys are rows: what it tells of a row, and what one more of a row makes of it. -/
import Derived.Test.YtibpnocpafppaaaDoorCm
import Derived.WideKeyEntry
import Derived.DeepKeys4
import Derived.Deep.RegionLaw
namespace Go.Proofs.YtibpnocpafppaaaDoor.mk
open Go.ChangeShapes Go.WideShapes Go.ChangeAt Go.RowKit Go.MapKept
open Go.Proofs.YtibpnocpafppaaaDoor.sl (hide unhide)
open Go.Proofs.YtibpnocpafppaaaDoor.ro (cells8 size8 at8 pad pad_len lits8 lits8_pad)
open Go.Proofs.YtibpnocpafppaaaDoor.lits (okB okB_iff)
set_option linter.unusedVariables false

theorem laidOut : laidOutB Tryd.prog = true := by kernel_rfl
theorem rowT : (69 : TypeId) < Tryd.prog.types.size := of_decide_eq_true (by kernel_rfl)
theorem wide : (match Tryd.prog.underlying 69 with | some (.array _ _) | some (.struct _) => true | _ => false) = true := by rw [Tryd.underlying69]
set_option maxRecDepth 100000 in
theorem law : WideMaps.KeyLaw Tryd.prog 69 := deep_law_laid laidOut (m := 2) (by omega) rowT (by kernel_rfl) wide
theorem cells24 : Tryd.prog.cellsOf 69 = 24 := by kernel_rfl
theorem cells1 : Tryd.prog.cellsOf 67 = 1 := by kernel_rfl
theorem ktype : Tryd.prog.keyType 69 = true := by kernel_rfl
theorem zeroE (w : World) : (zeroValue 3).run Tryd.prog w = .ok (.int .i64 0) w := by kernel_rfl

theorem mapM_some {α β : Type} (f : α → Option β) (l : List α) (h : ∀ x ∈ l, ∃ y, f x = some y) : ∃ ys, l.mapM f = some ys := by
  induction l with
  | nil => exact ⟨[], rfl⟩
  | cons x l ih =>
    obtain ⟨y, hy⟩ := h x (by simp)
    obtain ⟨ys, hys⟩ := ih (fun z hz => h z (by simp [hz]))
    exact ⟨y :: ys, by simp [List.mapM_cons, hy, hys]⟩
theorem lit_key (d : Nat) (x : Int) (h : -24 ≤ x ∧ x ≤ 24) : Tryd.prog.keyLits (d + 1) 67 [.int .i8 x] = some [.int .i8 x] := by
  unfold Program.keyLits
  rw [Tryd.underlying67]
  have a : IntKind.i8.min = -128 := rfl
  have b : IntKind.i8.max = 127 := rfl
  simp [Lit.wf, a, b]
  omega
theorem key_row (R : List Int) (hR : R.length = 24) (hb : ∀ k, k < 24 → -24 ≤ R.getD k 0 ∧ R.getD k 0 ≤ 24) : ∃ l, keyOf Tryd.prog 69 (.agg (cells8 R)) = some l := by
  have hf : (Value.agg (cells8 R)).formed Tryd.prog 69 = true := by simp [Value.formed, Tryd.underlying69, cells24, size8, hR]
  have hk : ∃ L, Tryd.prog.keyLits (Tryd.prog.types.size + 1) 69 (cells8 R).toList = some L := by
    obtain ⟨d, hd⟩ : ∃ d, Tryd.prog.types.size = d + 1 := ⟨Tryd.prog.types.size - 1, by have h : (69 : Nat) < Tryd.prog.types.size := rowT; omega⟩
    rw [hd]
    unfold Program.keyLits
    rw [Tryd.underlying69]
    have hl : (cells8 R).toList.length = Tryd.prog.cellsOf 69 := by rw [cells24, Array.length_toList, size8, hR]
    simp only [hl, if_true, cells1, Nat.mul_one]
    obtain ⟨ys, hys⟩ := mapM_some (fun i => Tryd.prog.keyLits (d + 1) 67 (((cells8 R).toList.drop i).take 1)) (List.range 24) (fun i hi => by
      rw [List.mem_range] at hi
      have e : (((cells8 R).toList.drop i).take 1) = [.int .i8 (R.getD i 0)] := by
        have h1 : i < R.length := by omega
        have h2 : (cells8 R).toList = R.map fun x => Value.int .i8 x := by simp [ro.cells8]
        rw [h2, ← List.map_drop, ← List.map_take, List.drop_eq_getElem_cons h1, List.take_succ_cons, List.take_zero, show R.getD i 0 = R[i] by simp [h1]]
        rfl
      exact ⟨_, by rw [e]; exact lit_key d _ (hb i hi)⟩)
    rw [hys]
    exact ⟨_, rfl⟩
  obtain ⟨L, hL⟩ := hk
  refine ⟨.string (keyBytes L), ?_⟩
  unfold keyOf
  rw [Tryd.underlying69]
  simp only [ktype, hf, Bool.and_self, if_true]
  show Option.map _ (Tryd.prog.keyLits _ _ (cells8 R).toList) = _
  rw [hL]
  rfl
/-- a clause's key -/
def key (L : List Int) : Value := .agg (cells8 (pad L))
/-- clauses whose rows are keys -/
def Fine (L : List Int) : Prop := L.length ≤ 24 ∧ ∀ x ∈ L, okB x = true
theorem pad_bd {L : List Int} (h : Fine L) : ∀ k, k < 24 → -24 ≤ (pad L).getD k 0 ∧ (pad L).getD k 0 ≤ 24 := by
  intro k hk
  have hl := pad_len h.1
  have hm : (pad L).getD k 0 ∈ pad L := by
    rw [show (pad L).getD k 0 = (pad L)[k]'(by omega) by simp [show k < (pad L).length by omega]]
    exact List.getElem_mem _
  generalize (pad L).getD k 0 = x at *
  unfold ro.pad at hm
  rcases List.mem_append.1 hm with q | q
  · have := okB_iff.1 (h.2 x q)
    omega
  · have := (List.mem_replicate.1 q).2
    omega
theorem key_of {L : List Int} (h : Fine L) : ∃ l, keyOf Tryd.prog 69 (key L) = some l := key_row (pad L) (pad_len h.1) (pad_bd h)
theorem cells8_inj {R S : List Int} (h : cells8 R = cells8 S) : R = S := by
  have e : R.map (fun x => Value.int .i8 x) = S.map (fun x => Value.int .i8 x) := by
    have := congrArg Array.toList h
    simpa [ro.cells8] using this
  exact (List.map_inj_right (fun a b hab => by injection hab)).1 e
theorem key_inj {L M : List Int} (hL : Fine L) (hM : Fine M) (h : key L = key M) : L = M := by
  have e : pad L = pad M := cells8_inj (by injection h)
  have a := lits8_pad L (fun x hx => (okB_iff.1 (hL.2 x hx)).1)
  have b := lits8_pad M (fun x hx => (okB_iff.1 (hM.2 x hx)).1)
  rw [← a, ← b, e]

/-- the map's entries tell how often each clause of G was met -/
structure Tells (es : Array MapEntry) (clock : Nat) (G : List (List Int)) : Prop where
  stamped : Stamped es clock
  entry : ∀ e ∈ es.toList, ∃ L ∈ G, e.key = key L ∧ e.val = .int .i64 (G.count L : Nat)
  all : ∀ L ∈ G, ∃ e ∈ es.toList, e.key = key L
  fine : ∀ L ∈ G, Fine L
theorem Tells.start : Tells #[] 0 [] := ⟨stamped_empty 0, by simp, by simp, by simp⟩
theorem Tells.keys {es : Array MapEntry} {clock : Nat} {G : List (List Int)} (h : Tells es clock G) : ∀ e ∈ es.toList, ∃ l, keyOf Tryd.prog 69 e.key = some l := by
  intro e he
  obtain ⟨L, hL, e1, _⟩ := h.entry e he
  rw [e1]
  exact key_of (h.fine L hL)
/-- a look -/
theorem Tells.look {es : Array MapEntry} {clock : Nat} {G : List (List Int)} (h : Tells es clock G) {c : List Int} (hc : Fine c) {w : World} {b : Nat} (hb : w.heap[b]? = some (.map es clock)) :
    (Instr.lookup 111 (.map (some b)) (key c) false).run Tryd.prog w = .ok (.int .i64 (G.count c : Nat)) w := by
  obtain ⟨l, hl⟩ := key_of hc
  rcases law.find w hl es.toList h.keys with ⟨h1, h2⟩ | ⟨j, e0, h1, h2, h3⟩
  · have : G.count c = 0 := by
      rw [List.count_eq_zero]
      intro hm
      obtain ⟨e, he, ek⟩ := h.all c hm
      exact h2 e he ek
    rw [this]
    simp [Instr.lookup, run_underlying Tryd.underlying111, MapKept.run_getObj_map hb, law.check w _ hl, h1, Result.andThen]
  · obtain ⟨L, hL, k1, k2⟩ := h.entry e0 (List.mem_of_getElem? h2)
    have : L = c := key_inj (h.fine L hL) hc (by rw [← k1, h3])
    subst this
    simp [Instr.lookup, run_underlying Tryd.underlying111, MapKept.run_getObj_map hb, law.check w _ hl, h1, k2, Result.andThen]
/-- the world with another map there -/
def put (w : World) (b : Nat) (o : Obj) : World := { w with heap := w.heap.setIfInBounds b o }
theorem put_heap {w : World} {b : Nat} {o o' : Obj} (h : w.heap[b]? = some o') : (put w b o).heap[b]? = some o := (MapKept.heap_set h).1
theorem count_snoc (G : List (List Int)) (c L : List Int) : (G ++ [c]).count L = G.count L + if c = L then 1 else 0 := by
  rw [List.count_append, List.count_singleton]
  by_cases e : c = L
  · subst e
    simp
  · simp [e]
/-- one more -/
theorem Tells.more {es : Array MapEntry} {clock : Nat} {G : List (List Int)} (h : Tells es clock G) {c : List Int} (hc : Fine c) :
    ∃ (st : Nat) (es1 : Array MapEntry) (clock1 : Nat) (es2 : Array MapEntry) (v0 : Value), Tells es2 clock1 (G ++ [c]) ∧
      (∀ (w : World) (b : Nat), w.heap[b]? = some (.map es clock) → (Instr.mapEntry 111 (.map (some b)) (key c)).run Tryd.prog w = .ok (.tuple #[v0, goInt st]) (put w b (.map es1 clock1))) ∧
      (∀ (w : World) (b : Nat), w.heap[b]? = some (.map es1 clock1) → (Instr.entryStore 111 (.map (some b)) (goInt st) (.int .i64 ((G.count c : Nat) + 1))).run Tryd.prog w = .ok () (put w b (.map es2 clock1))) ∧
      (∀ (w : World) (b : Nat), w.heap[b]? = some (.map es1 clock1) → (Instr.lookup 111 (.map (some b)) (key c) false).run Tryd.prog w = .ok (.int .i64 (G.count c : Nat)) w) := by
  obtain ⟨l, hl⟩ := key_of hc
  obtain ⟨s1, s2, s3⟩ := h.stamped
  by_cases hm : c ∈ G
  · -- there already
    obtain ⟨e0, he0, ek⟩ := h.all c hm
    obtain ⟨j, hj⟩ := List.mem_iff_getElem?.1 he0
    have hcount : e0.val = .int .i64 (G.count c : Nat) := by
      obtain ⟨L, hL, k1, k2⟩ := h.entry e0 he0
      have : L = c := key_inj (h.fine L hL) hc (by rw [← k1, ek])
      rw [k2, this]
    have hfind : ∀ w, (Instr.findKey 69 (key c) es.toList).run Tryd.prog w = .ok (some (j, e0.val)) w := by
      intro w
      rcases law.find w hl es.toList h.keys with ⟨h1, h2⟩ | ⟨j', e', h1, h2, h3⟩
      · exact absurd ek (h2 e0 he0)
      · have hjj : j' = j := by
          have n3 := s3
          apply Classical.byContradiction
          intro hne
          have a1 : (es.toList.map (·.key))[j']? = some (key c) := by rw [List.getElem?_map, h2]; simp [h3]
          have a2 : (es.toList.map (·.key))[j]? = some (key c) := by rw [List.getElem?_map, hj]; simp [ek]
          have l1 : j' < (es.toList.map (·.key)).length := (List.getElem?_eq_some_iff.1 a1).1
          exact hne ((List.getElem?_inj l1 n3).1 (a1.trans a2.symm))
        subst hjj
        have : e' = e0 := Option.some.inj (h2.symm.trans hj)
        rw [← this]
        exact h1
    have hjA : es[j]? = some e0 := by simpa using hj
    have hsame : es.modify j (fun e => { e with key := key c }) = es := by
      apply Array.ext'
      rw [Array.toList_modify, ChangeMaps.modify_eq_set _ _ _ _ hj]
      have : ({ e0 with key := key c } : MapEntry) = e0 := by rw [← ek]
      rw [this]
      exact WideElems.set_self _ _ _ hj
    refine ⟨e0.born, es, clock, es.modify j (fun e => { e with val := .int .i64 ((G.count c : Nat) + 1) }), e0.val, ⟨?_, ?_, ?_, ?_⟩, ?_, ?_, ?_⟩
    · exact stamped_modify h.stamped j _ (fun _ _ => rfl) (fun _ _ _ => rfl)
    · intro e he
      rw [Array.toList_modify, ChangeMaps.modify_eq_set _ _ _ _ hj] at he
      rcases List.mem_or_eq_of_mem_set he with q | q
      · obtain ⟨i, hi⟩ := List.mem_iff_getElem?.1 he
        by_cases hij : j = i
        · subst hij
          rw [List.getElem?_set_self (List.getElem?_eq_some_iff.1 hj).1] at hi
          have := Option.some.inj hi
          subst this
          exact ⟨c, by simp, ek, by simp⟩
        · rw [List.getElem?_set_ne hij] at hi
          obtain ⟨L, hL, k1, k2⟩ := h.entry e (List.mem_of_getElem? hi)
          refine ⟨L, by simp [hL], k1, ?_⟩
          have hne : c ≠ L := by
            intro e1
            subst e1
            have a1 : (es.toList.map (·.key))[i]? = some (key c) := by rw [List.getElem?_map, hi]; simp [k1]
            have a2 : (es.toList.map (·.key))[j]? = some (key c) := by rw [List.getElem?_map, hj]; simp [ek]
            have l1 : i < (es.toList.map (·.key)).length := (List.getElem?_eq_some_iff.1 a1).1
            exact hij ((List.getElem?_inj l1 s3).1 (a1.trans a2.symm)).symm
          rw [k2, count_snoc, if_neg hne, Nat.add_zero]
      · subst q
        exact ⟨c, by simp, ek, by simp⟩
    · intro L hL
      have hL' : L ∈ G := by
        rcases List.mem_append.1 hL with q | q
        · exact q
        · rw [List.mem_singleton] at q
          rw [q]
          exact hm
      obtain ⟨e, he, ke⟩ := h.all L hL'
      obtain ⟨i, hi⟩ := List.mem_iff_getElem?.1 he
      rw [Array.toList_modify, ChangeMaps.modify_eq_set _ _ _ _ hj]
      by_cases hij : j = i
      · subst hij
        have : e = e0 := Option.some.inj (hi.symm.trans hj)
        subst this
        exact ⟨_, List.mem_of_getElem? (i := j) (List.getElem?_set_self (List.getElem?_eq_some_iff.1 hj).1), ke⟩
      · exact ⟨e, List.mem_of_getElem? (i := i) (by rw [List.getElem?_set_ne hij]; exact hi), ke⟩
    · intro L hL
      rcases List.mem_append.1 hL with q | q
      · exact h.fine L q
      · rw [List.mem_singleton] at q
        rw [q]
        exact hc
    · intro w b hb
      simp [Instr.mapEntry, run_underlying Tryd.underlying111, MapKept.run_getObj_map hb, law.check w false hl, hfind, hjA, ek, law.stays w hl, hsame, MapKept.run_setObj_map _ hb, Result.andThen, put]
    · intro w b hb
      have hidx : es.findIdx? (fun e => ((e.born : Nat) : Int) == ((e0.born : Nat) : Int)) = some j := by
        rw [WideElems.findIdx_arr]
        exact WideElems.findIdx_born s2 hj
      simp [Instr.entryStore, MapKept.run_getObj_map hb, asInt, asIntOf, goInt, hidx, MapKept.run_setObj_map _ hb, Result.andThen, put]
    · intro w b hb
      exact h.look hc hb
  · -- new
    have h0 : G.count c = 0 := List.count_eq_zero.2 hm
    have hnew : ∀ x ∈ es.toList, x.key ≠ key c := by
      intro x hx e
      obtain ⟨L, hL, k1, k2⟩ := h.entry x hx
      exact hm (key_inj (h.fine L hL) hc (by rw [← k1, e]) ▸ hL)
    have hfind : ∀ w, (Instr.findKey 69 (key c) es.toList).run Tryd.prog w = .ok none w := by
      intro w
      rcases law.find w hl es.toList h.keys with ⟨h1, h2⟩ | ⟨j', e', h1, h2, h3⟩
      · exact h1
      · exact absurd h3 (hnew e' (List.mem_of_getElem? h2))
    have st1 := stamped_push h.stamped (val := .int .i64 0) hnew
    have keys1 : ∀ e ∈ (es.push ⟨key c, .int .i64 0, clock⟩).toList, ∃ l, keyOf Tryd.prog 69 e.key = some l := by
      intro e he
      simp only [Array.toList_push, List.mem_append, List.mem_singleton] at he
      rcases he with he | rfl
      · exact h.keys e he
      · exact ⟨l, hl⟩
    refine ⟨clock, es.push ⟨key c, .int .i64 0, clock⟩, clock + 1, es.push ⟨key c, .int .i64 ((G.count c : Nat) + 1), clock⟩, .int .i64 0, ⟨?_, ?_, ?_, ?_⟩, ?_, ?_, ?_⟩
    · exact stamped_push h.stamped hnew
    · intro e he
      simp only [Array.toList_push, List.mem_append, List.mem_singleton] at he
      rcases he with he | rfl
      · obtain ⟨L, hL, k1, k2⟩ := h.entry e he
        have hne : c ≠ L := fun e1 => hm (e1 ▸ hL)
        exact ⟨L, by simp [hL], k1, by rw [k2, count_snoc, if_neg hne, Nat.add_zero]⟩
      · exact ⟨c, by simp, rfl, by simp⟩
    · intro L hL
      rcases List.mem_append.1 hL with q | q
      · obtain ⟨e, he, ke⟩ := h.all L q
        exact ⟨e, by simp only [Array.toList_push, List.mem_append]; exact .inl he, ke⟩
      · rw [List.mem_singleton] at q
        subst q
        exact ⟨_, by simp only [Array.toList_push, List.mem_append, List.mem_singleton]; exact .inr rfl, rfl⟩
    · intro L hL
      rcases List.mem_append.1 hL with q | q
      · exact h.fine L q
      · rw [List.mem_singleton] at q
        rw [q]
        exact hc
    · intro w b hb
      simp [Instr.mapEntry, run_underlying Tryd.underlying111, MapKept.run_getObj_map hb, law.check w false hl, hfind, MapKept.run_setObj_map _ hb, Result.andThen, put]
    · intro w b hb
      have hidx : (es.push ⟨key c, .int .i64 0, clock⟩).findIdx? (fun e => ((e.born : Nat) : Int) == ((clock : Nat) : Int)) = some es.size := by
        rw [WideElems.findIdx_arr]
        exact WideElems.findIdx_born (l := (es.push ⟨key c, .int .i64 0, clock⟩).toList) (j := es.size) (e0 := ⟨key c, .int .i64 0, clock⟩) st1.2.1 (by simp)
      have hmod : (es.push ⟨key c, .int .i64 0, clock⟩).modify es.size (fun e => { e with val := .int .i64 ((G.count c : Nat) + 1) }) = es.push ⟨key c, .int .i64 ((G.count c : Nat) + 1), clock⟩ := by
        apply Array.ext'
        rw [Array.toList_modify, Array.toList_push, Array.toList_push, ← Array.length_toList, WideElems.modify_last]
      simp [Instr.entryStore, MapKept.run_getObj_map hb, asInt, asIntOf, goInt, hidx, hmod, MapKept.run_setObj_map _ hb, Result.andThen, put]
    · intro w b hb
      rcases law.find w hl (es.push ⟨key c, .int .i64 0, clock⟩).toList keys1 with ⟨h1, h2⟩ | ⟨j', e', h1, h2, h3⟩
      · exact absurd rfl (h2 ⟨key c, .int .i64 0, clock⟩ (by simp))
      · have hv : e'.val = .int .i64 0 := by
          have he := List.mem_of_getElem? h2
          simp only [Array.toList_push, List.mem_append, List.mem_singleton] at he
          rcases he with he | rfl
          · exact absurd h3 (hnew e' he)
          · rfl
        rw [h0]
        rw [Array.toList_push] at h1
        simp [Instr.lookup, run_underlying Tryd.underlying111, MapKept.run_getObj_map hb, law.check w _ hl, h1, hv, Result.andThen]
end Go.Proofs.YtibpnocpafppaaaDoor.mk
