/- What add of the program's watcher and watcherOf do; no condition but on the words and the sizes. -/
import Derived.Test.YtheigbmkldlicaaDoorWf
namespace Go.Proofs.YtheigbmkldlicaaDoor.wm
open Go.ChangeShapes Go.WideShapes Go.ChangeAt Go.RowKit
open Go.Proofs.YtheigbmkldlicaaDoor.wm0 (end0 ret0 stepW listW listB)
open Go.Proofs.YtheigbmkldlicaaDoor.lits (okB okB_iff)
open Go.Proofs.YtheigbmkldlicaaDoor.bset (placeN placeN_le placeC)
open Go.Proofs.YtheigbmkldlicaaDoor.srt (Tab woN woN_lt fstI)
open Go.Proofs.YtheigbmkldlicaaDoor.sl (Sl Own ints hide unhide ret_int ret_bool grown_refl grown_trans grown_drewN)
set_option linter.unusedVariables false

theorem infoK : (Tryd.prog.info? 164).map (fun i => (i.zero, i.size, i.bytes)) = some (some (.agg #[.int .u64 0, .int .i8 0, .int .i8 0]), 3, 16) := by kernel_rfl
theorem rowsK_snoc (K : List (Nat × Int × Int)) (S : Nat) (a b : Int) : rowsK (K ++ [(S, a, b)]) = rowsK K ++ [.int .u64 (S : Int), .int .i8 a, .int .i8 b] := by
  unfold rowsK
  rw [List.flatMap_append]
  rfl
/-- one clause more behind the clauses -/
theorem listK {ops : Array Oper} {rest : List Oper} {o : Oper} {a : Act} {Q : Exit → Act → World → Prop} {wr : World} {v : Value} {K : List (Nat × Int × Int)} {S : Nat} {x y : Int} {b : Nat}
    (hw : wr.ownsRow 0 164 3 v K.length (rowsK K)) (hb : wr.heap[b]? = some (.cells #[.int .u64 (S : Int), .int .i8 x, .int .i8 y] 164 (0, 0))) (hM : K.length ≤ 1048576) (hgd : o.guard = none) (s t : Operand)
    (ho : o.op = .call { callee := .builtin .append, args := #[s, t], argTypes := #[103, 103] }) (hs : a.eval s = v) (hx : a.eval t = .slice (some ⟨b, 0, none⟩) 1 1)
    (hK : ∀ g cap w1, w1.ownsRow 0 164 3 (.slice (some ⟨g, 0, none⟩) (K.length + 1) cap) (K.length + 1) (rowsK (K ++ [(S, x, y)])) → wr.grownBy w1 v.ownBlock → (v.ownBlock = some g ∨ wr.heap.size ≤ g) → wpList Tryd.prog ops Q rest (a.put o.dst (.slice (some ⟨g, 0, none⟩) (K.length + 1) cap)) w1) :
    wpList Tryd.prog ops Q (o :: rest) a wr := by
  obtain ⟨i0, hi, hz0, hz1, hz2⟩ := info_parts infoK
  refine wpList_append_lies _ hgd s t 103 ho 0 164 i0 _ 3 16 Tryd.underlying103 hi hz0 hz1 hz2 rfl (by decide) v K.length (rowsK K) hs hw ⟨b, 0, none⟩ 1 1 [.int .u64 (S : Int), .int .i8 x, .int .i8 y] hx rfl ?_ ?_ (by decide) ?_ ?_ (Nat.zero_le _) wr.heap.size rfl ?_
  · intro j u hj
    rw [Addr.add_lit, Nat.zero_add]
    simp only [World.cell?, hb]
    simpa using hj
  · intro u hu
    simp at hu
    rcases hu with rfl | rfl | rfl <;> rfl
  · unfold maxLen; omega
  · omega
  · intro g cap w1 h1 hg hl _
    refine hK g cap w1 ?_ hg (by rcases hl with q | q; exact .inl q; exact .inr (by omega))
    rw [rowsK_snoc]
    exact h1
/-- the clauses are put anew -/
theorem Wat.addK {w w0 w1 : World} {c g cap : Nat} {s : WS} {K' : List (Nat × Int × Int)} (h : Wat w c s) (g0 : w.grownBy w0 none)
    (hown : w1.ownsRow 0 164 3 (.slice (some ⟨g, 0, none⟩) K'.length cap) K'.length (rowsK K')) (hg : w0.grownBy w1 s.V.ownBlock) (hl : s.V.ownBlock = some g ∨ w.heap.size ≤ g) :
    Wat (w1.setCell ⟨c, 0, none⟩ (.slice (some ⟨g, 0, none⟩) K'.length cap)) c { s with V := .slice (some ⟨g, 0, none⟩) K'.length cap, K := K' } ∧ Stp c s { s with V := .slice (some ⟨g, 0, none⟩) K'.length cap, K := K' } w (w1.setCell ⟨c, 0, none⟩ (.slice (some ⟨g, 0, none⟩) K'.length cap)) := by
  have h0 := h.kept g0
  have hnc := row_nec h0.cl h0.blk h0.ty.1
  have hb1 : w1.heap[c]? = some (.cells s.cells.toArray s.ty (0, 0)) := by
    rw [hg.block c h0.lt (fun e => by
      rcases hnc with q | q
      · rw [q] at e; cases e
      · exact q e.symm)]
    exact h0.blk
  have g2 := sl.grown_setCell w1 c 0 (.slice (some ⟨g, 0, none⟩) K'.length cap)
  refine ⟨⟨put hb1 ⟨rfl, rfl⟩ (by decide) (fun k hk => ?_), h.len, hown.kept g2 (row_nec hown hb1 h.ty.1), fun p hp => ?_, h.ap, h.ty⟩, ⟨g2.os.trans (hg.os.trans g0.os), g2.tape.trans (hg.tape.trans g0.tape), g2.output.trans (hg.output.trans g0.output), Nat.le_trans g0.size (Nat.le_trans hg.size g2.size), fun k hk hn => ?_, fun k f => ?_, rfl, rfl⟩⟩
  · by_cases e : k = 0
    · subst e
      rfl
    · rw [if_neg e]
      unfold WS.at
      rw [if_neg e, if_neg e]
  · have := (h0.ls p hp).kept hg (row_ne (h0.ls p hp) h0.cl (fun e => types3 e.symm))
    exact this.kept g2 (row_nec this hb1 h.ty.2)
  · rw [g2.block k (Nat.lt_of_lt_of_le hk (Nat.le_trans g0.size hg.size)) (fun e => hn (.inl (by cases e; rfl)))]
    rw [hg.block k (Nat.lt_of_lt_of_le hk g0.size) (fun e => hn (.inr (.inl e.symm)))]
    exact g0.block k hk (fun e => by cases e)
  · rcases f with f | f | f
    · exact .inl (.inl f)
    · have e : g = k := by
        have : (Value.slice (some ⟨g, 0, none⟩) K'.length cap).ownBlock = some k := f
        simpa [Value.ownBlock] using this
      subst e
      rcases hl with q | q
      · exact .inl (.inr (.inl q))
      · exact .inr q
    · exact .inl (.inr (.inr f))
/-- what add makes of a watcher -/
def PS.add (P : PS) (S : Nat) : PS :=
  if S = 0 then { P with K := P.K ++ [(0, 0, 0)], em := true, ho := true }
  else if woN S (fstI S) = 0 then { (((P.more 0 (P.K.length : Int)).more 49 (P.K.length : Int)).more (1 + placeN (fstI S)) (P.K.length : Int)) with K := P.K ++ [(S, fstI S, fstI S)] }
  else { ((P.more (1 + placeN (fstI (woN S (fstI S)))) (P.K.length : Int)).more (1 + placeN (fstI S)) (P.K.length : Int)) with K := P.K ++ [(S, fstI S, fstI (woN S (fstI S)))] }

theorem new_block (w : World) (o : Obj) : (w.alloc o).heap[w.heap.size]? = some o := by
  show (w.heap.push o)[w.heap.size]? = _
  simp
theorem Wat.keep {w w1 : World} {c k : Nat} {s : WS} {o : Obj} {r : Option Nat} (h : Wat w c s) (hr : r = none ∨ r ≠ some c) (g : (w.alloc o).grownBy w1 r) (hk : k < 54) : w1.cell? ⟨c, k, none⟩ = some (s.at k) ∧ w1.frozen? ⟨c, k, none⟩ = false := by
  have h0 := h.kept (World.grownBy_alloc w o none)
  have e : w1.heap[c]? = (w.alloc o).heap[c]? := g.block c h0.lt (fun e => by
    rcases hr with q | q
    · rw [q] at e; cases e
    · exact q e.symm)
  exact ⟨(World.cell?_of_block (a := ⟨c, k, none⟩) e).trans (h0.cell hk), (World.frozen?_of_block (a := ⟨c, k, none⟩) e).trans (h0.fz _)⟩
/-- all that the walk asks at the append of a clause -/
structure AddK (c : Nat) (s : WS) (w : World) (v : Value) (k : Nat × Int × Int) : Prop where
  own : (w.alloc (.cells #[.int .u64 (k.1 : Int), .int .i8 k.2.1, .int .i8 k.2.2] 164)).ownsRow 0 164 3 v s.K.length (rowsK s.K)
  cell : ∀ w1, (w.alloc (.cells #[.int .u64 (k.1 : Int), .int .i8 k.2.1, .int .i8 k.2.2] 164)).grownBy w1 v.ownBlock → w1.cell? ⟨c, 0, none⟩ = some v ∧ w1.frozen? ⟨c, 0, none⟩ = false
  fin : ∀ g cap w1, w1.ownsRow 0 164 3 (.slice (some ⟨g, 0, none⟩) (s.K.length + 1) cap) (s.K.length + 1) (rowsK (s.K ++ [k])) → (w.alloc (.cells #[.int .u64 (k.1 : Int), .int .i8 k.2.1, .int .i8 k.2.2] 164)).grownBy w1 v.ownBlock → (v.ownBlock = some g ∨ w.heap.size + 1 ≤ g) →
    ∃ s', Wat (w1.setCell ⟨c, 0, none⟩ (.slice (some ⟨g, 0, none⟩) (s.K.length + 1) cap)) c s' ∧ Stp c s s' w (w1.setCell ⟨c, 0, none⟩ (.slice (some ⟨g, 0, none⟩) (s.K.length + 1) cap)) ∧ s'.ps = { s.ps with K := s.K ++ [k] } ∧ s'.em = s.em
theorem addK_of {c : Nat} {s : WS} {w : World} {v : Value} (h : Wat w c s) (e : s.V = v) (k : Nat × Int × Int) : AddK c s w v k := by
  subst e
  have ga := World.grownBy_alloc w (.cells #[.int .u64 (k.1 : Int), .int .i8 k.2.1, .int .i8 k.2.2] 164) none
  refine ⟨h.cl.kept ga (ne_none _), fun w1 g1 => ?_, fun g cap w1 o1 g1 l1 => ?_⟩
  · exact h.keep (k := 0) (row_nec h.cl h.blk h.ty.1) g1 (by decide)
  · have el : (s.K ++ [k]).length = s.K.length + 1 := by simp
    have := h.addK (K' := s.K ++ [k]) (g := g) (cap := cap) ga (by rw [el]; exact o1) g1 (by rcases l1 with q | q; exact .inl q; exact .inr (by omega))
    rw [el] at this
    exact ⟨_, this.1, this.2, rfl, rfl⟩

/-- all that the walk asks at the append to a list -/
structure AddL (c : Nat) (s : WS) (w : World) (j q : Nat) (y : Int) (v : Value) (L : List Int) : Prop where
  own : (w.alloc (.cells #[.int .i64 y] 3)).ownsRow 0 3 1 v L.length (ints L)
  cell : ∀ w1, (w.alloc (.cells #[.int .i64 y] 3)).grownBy w1 v.ownBlock → w1.cell? ⟨c, q, none⟩ = some v ∧ w1.frozen? ⟨c, q, none⟩ = false
  fin : ∀ g cap w1, w1.ownsRow 0 3 1 (.slice (some ⟨g, 0, none⟩) (L.length + 1) cap) (L.length + 1) (ints L ++ [.int .i64 y]) → (w.alloc (.cells #[.int .i64 y] 3)).grownBy w1 v.ownBlock → (v.ownBlock = some g ∨ w.heap.size ≤ g) →
    ∃ s', Upd c s s' j y w (w1.setCell ⟨c, q, none⟩ (.slice (some ⟨g, 0, none⟩) (L.length + 1) cap))
theorem addL_of {c j q : Nat} {s : WS} {w : World} (h : Wat w c s) (hj : j < 50) (hq : pos j = q) (y : Int) : ∃ a cp L, (s.A.getD j nil_) = (.slice a L.length cp, L) ∧ s.at q = .slice a L.length cp ∧ AddL c s w j q y (.slice a L.length cp) L := by
  subst hq
  have hjl : j < s.A.length := by rw [h.len]; exact hj
  have own0 := h.ls _ (mem_getD hjl)
  have ea := atPos s hj
  obtain ⟨v, L, eA⟩ : ∃ v L, s.A.getD j nil_ = (v, L) := ⟨_, _, rfl⟩
  rw [eA] at own0 ea
  obtain ⟨a, cp, ev, _⟩ := Sl.of_own own0
  have ev' : v = .slice a L.length cp := ev
  subst ev'
  refine ⟨a, cp, L, eA, ea, own0.kept (World.grownBy_alloc w _ none) (ne_none _), fun w1 g1 => ?_, fun g cap w1 o1 g1 l1 => ?_⟩
  · have := h.keep (k := pos j) (row_nec own0 h.blk h.ty.2) g1 (pos_lt hj)
    rw [ea] at this
    exact this
  · have := h.one (y := y) (w1 := w1) (g := g) (cap := cap) hj (World.grownBy_alloc w (.cells #[.int .i64 y] 3) none) (by rw [eA]; exact o1) (by rw [eA]; exact g1) (by rw [eA]; exact l1)
    rw [eA] at this
    exact this

set_option maxRecDepth 100000 in
set_option maxHeartbeats 8000000 in
theorem add {w : World} {c S : Nat} {s : WS} (h : Wat w c s) (hTab : TabF c s w) (hS : S < 2 ^ 48) (hl : s.K.length ≤ 1048576) (hb : ∀ j, (s.A.getD j nil_).2.length ≤ 4194000) :
    Calls Tryd.prog 89 #[.pointer (some ⟨c, 0, none⟩), .int .u64 (S : Int)] w fun e w' => ∃ s', e = .returned (.tuple #[]) ∧ Wat w' c s' ∧ Stp c s s' w w' ∧ s'.ps = s.ps.add S := by
  obtain ⟨a0, cap0, eV⟩ := h.vform
  have x0 := h.cell (k := 0) (by decide)
  rw [at0, eV] at x0
  have f0 := h.fz 0
  by_cases h0 : S = 0
  · subst h0
    have EP : Hid (s.ps.add 0 = { s.ps with K := s.K ++ [(0, 0, 0)], em := true, ho := true }) := rfl
    have AK := hide (addK_of h eV (0, 0, 0))
    have ne0 := World.new_ne w _ x0
    have NB := hide (new_block w (.cells #[.int .u64 0, .int .i8 0, .int .i8 0] 164))
    clear h
    go_enter Tryd.func89, Tryd.ntmps89
    go_wp2_with (at_builtin; refine listK (S := 0) (x := 0) (y := 0) (b := w.heap.size) (unhide AK).own (unhide NB) hl rfl _ _ rfl rfl rfl ?_)
    intro g cap w1 o1 g1 l1
    have y0 := ((unhide AK).cell w1 g1).1
    have y1 := ((unhide AK).cell w1 g1).2
    obtain ⟨s', q1, q2, q3, q4⟩ := (unhide AK).fin g cap w1 o1 g1 (by rcases l1 with q | q; exact .inl q; exact .inr q)
    have k5 := q1.setEm true
    have f51 := q1.fz 51
    have x51 := q1.cell (k := 51) (by decide)
    rw [at51] at x51
    have k6 := k5.1.setHo true
    have f53 := k5.1.fz 53
    have x53 := k5.1.cell (k := 53) (by decide)
    rw [at53] at x53
    have R : Hid (Wat _ c { s' with em := true, ho := true } ∧ Stp c s { s' with em := true, ho := true } w _ ∧ ({ s' with em := true, ho := true } : WS).ps = s.ps.add 0) := ⟨k6.1, (q2.trans k5.2).trans k6.2, by
      rw [unhide EP]
      show ({ s'.ps with em := true, ho := true } : PS) = _
      rw [q3]⟩
    clear o1 g1 l1 q1 q2 q3 q4 k5 k6 AK NB
    go_wp2_with fail
    exact ret0 rfl rfl ⟨rfl, _, unhide R⟩
  · have hSp : 0 < S := by omega
    have hS0 : ((S : Int) == 0) = false := by simp [h0]
    have fs := fst_spec hSp hS
    have CF := hide (srt.first S w hTab.1 hSp hS)
    have CW := hide (srt.without S (fstI S) w hS fs.1)
    have hrl : woN S (fstI S) < 2 ^ 48 := woN_lt hS
    have hi' : (0 : Int) ≤ (s.K.length : Int) := by omega
    by_cases hr : woN S (fstI S) = 0
    · have EP : Hid (s.ps.add S = { (((s.ps.more 0 (s.K.length : Int)).more 49 (s.K.length : Int)).more (1 + placeN (fstI S)) (s.K.length : Int)) with K := s.K ++ [(S, fstI S, fstI S)] }) := by
        show _ = _
        unfold PS.add
        rw [if_neg h0, if_pos hr]
        rfl
      have hr0 : ((woN S (fstI S) : Int) != 0) = false := by rw [hr]; rfl
      have x50 := h.cell (k := 50) (by decide)
      have f50 := h.fz 50
      obtain ⟨a1, c1, L1, eA1, eat1, AL1⟩ := addL_of h (j := 0) (q := 50) (by decide) rfl (s.K.length : Int)
      rw [eat1] at x50
      have hb0 := hb 0
      rw [eA1] at hb0
      have NB := hide (new_cell w (s.K.length : Int))
      have EV := hide eV
      have HB := hide hb
      have ALH := hide AL1
      clear AL1 eA1 eat1 h hTab hb
      generalize hy : fstI S = y at *
      have HFS := hide fs.1
      rw [hr] at CW
      go_enter Tryd.func89, Tryd.ntmps89
      go_wp2_with fail
      refine (unhide CF).mono ?_; rintro e w2 ⟨rfl, hw⟩; have hw' := hw.symm; clear hw; subst hw'
      go_wp2_with fail
      refine (unhide CW).mono ?_; rintro e w2 ⟨rfl, hw⟩; have hw' := hw.symm; clear hw; subst hw'
      clear CF CW
      go_wp2_with (at_builtin; refine listW (unhide ALH).own (unhide NB) (by omega) rfl _ _ rfl rfl rfl ?_)
      intro g cap w1 o1 g1 l1
      have y0 := ((unhide ALH).cell w1 g1).1
      have y1 := ((unhide ALH).cell w1 g1).2
      obtain ⟨s0, u0⟩ := (unhide ALH).fin g cap w1 o1 g1 (by rcases l1 with q | q; exact .inl q; exact .inr (Nat.le_of_succ_le q))
      have x52 := u0.1.cell (k := 52) (by decide)
      have f52 := u0.1.fz 52
      obtain ⟨a2, c2, L2, eA2, eat2, AL2⟩ := addL_of u0.1 (j := 49) (q := 52) (by decide) rfl (s.K.length : Int)
      rw [eat2] at x52
      have hb49 : L2.length ≤ 4194000 := by
        have e := u0.2.2.2.2.2.2.2 49 (by decide)
        rw [eA2] at e
        have := unhide HB 49
        rw [← e] at this
        exact this
      have NB2 := hide (new_cell (w1.setCell ⟨c, 50, none⟩ (.slice (some ⟨g, 0, none⟩) (L1.length + 1) cap)) (s.K.length : Int))
      have es : (w1.setCell ⟨c, 50, none⟩ (.slice (some ⟨g, 0, none⟩) (L1.length + 1) cap)).heap.size = w1.heap.size := by simp
      rw [es] at NB2
      have ES := hide es
      clear es
      have ALH2 := hide AL2
      have U0 := hide u0
      clear o1 g1 l1 ALH NB u0 AL2 eA2 eat2
      go_wp2_with (at_builtin; refine listW (unhide ALH2).own (unhide NB2) (by omega) rfl _ _ rfl rfl rfl ?_)
      intro g' cap' w1' o1 g1 l1
      have y0' := ((unhide ALH2).cell w1' g1).1
      have y1' := ((unhide ALH2).cell w1' g1).2
      obtain ⟨s1, u1⟩ := (unhide ALH2).fin g' cap' w1' o1 g1 (by rcases l1 with q | q; exact .inl q; exact .inr (by rw [unhide ES]; exact Nat.le_of_succ_le q))
      have hb1 : (s1.A.getD (1 + placeN y) nil_).2.length ≤ 4194304 := by
        have hp := placeN_le (unhide HFS)
        rw [u1.2.2.2.2.2.2.2 _ (by omega), (unhide U0).2.2.2.2.2.2.2 _ (by omega)]
        have := unhide HB (1 + placeN y)
        omega
      have CWa := hide (watch (i := (s.K.length : Int)) (x := y) u1.1 (unhide HFS) hb1)
      have U1 := hide u1
      clear o1 g1 l1 ALH2 NB2 u1
      go_wp2_with fail
      refine (unhide CWa).mono ?_; rintro e w3 ⟨s3, rfl, u3⟩
      have eV3 : s3.V = .slice a0 s.K.length cap0 := by rw [u3.2.2.1, (unhide U1).2.2.1, (unhide U0).2.2.1]; exact unhide EV
      have eK3 : s3.K = s.K := by rw [u3.2.2.2.1, (unhide U1).2.2.2.1, (unhide U0).2.2.2.1]
      have AK := addK_of u3.1 eV3 (S, y, y)
      have EE : Hid (∀ s4 : WS, s4.ps = { s3.ps with K := s3.K ++ [(S, y, y)] } → s4.ps = s.ps.add S) := by
        intro s4 q
        rw [q, unhide EP, u3.ps, (unhide U1).ps, (unhide U0).ps, eK3]
      have ST := hide (((unhide U0).2.1.trans (unhide U1).2.1).trans u3.2.1)
      have z0 := u3.1.cell (k := 0) (by decide)
      rw [at0, eV3] at z0
      have ne3 := World.new_ne w3 _ z0
      have NB := hide (new_block w3 (.cells #[.int .u64 (S : Int), .int .i8 y, .int .i8 y] 164))
      have HAK := hide AK
      have hl3 : s3.K.length ≤ 1048576 := by rw [eK3]; exact hl
      have EK3 := hide eK3
      clear CWa U1 U0 u3 AK EP eV3 eK3
      go_wp2_with (at_builtin; refine listK (K := s3.K) (S := S) (x := y) (y := y) (b := w3.heap.size) (unhide HAK).own (unhide NB) hl3 rfl _ _ rfl rfl rfl ?_)
      intro g5 cap5 w5 o5 g5' l5
      have v0 := ((unhide HAK).cell w5 g5').1
      have v1 := ((unhide HAK).cell w5 g5').2
      obtain ⟨s5, q1, q2, q3, q4⟩ := (unhide HAK).fin g5 cap5 w5 o5 g5' (by rcases l5 with q | q; exact .inl q; exact .inr q)
      have R : Hid (Wat _ c s5 ∧ Stp c s s5 w _ ∧ s5.ps = s.ps.add S) := ⟨q1, (unhide ST).trans q2, unhide EE s5 q3⟩
      clear o5 g5' l5 q1 q2 q3 q4 HAK NB EE ST
      go_wp2_with fail
      first
        | exact end0 rfl rfl ⟨_, rfl, unhide R⟩
        | exact ret0 rfl rfl ⟨_, rfl, unhide R⟩
    · have hrp : 0 < woN S (fstI S) := by omega
      have fz := fst_spec hrp hrl
      have CF2 := hide (srt.first (woN S (fstI S)) w hTab.1 hrp hrl)
      have hne : placeN (fstI (woN S (fstI S))) ≠ placeN (fstI S) := by
        have := fz.2
        rw [srt.woN_bit _ _ _ hS fs.1, Bool.and_eq_true, Bool.not_eq_true', decide_eq_false_iff_not] at this
        exact fun e => this.2 e.symm
      have EP : Hid (s.ps.add S = { ((s.ps.more (1 + placeN (fstI (woN S (fstI S)))) (s.K.length : Int)).more (1 + placeN (fstI S)) (s.K.length : Int)) with K := s.K ++ [(S, fstI S, fstI (woN S (fstI S)))] }) := by
        show _ = _
        unfold PS.add
        rw [if_neg h0, if_neg hr]
        rfl
      have hr0 : ((woN S (fstI S) : Int) != 0) = true := by simp; omega
      have hb1 := hb (1 + placeN (fstI (woN S (fstI S))))
      have CW1 := hide (watch (i := (s.K.length : Int)) (x := fstI (woN S (fstI S))) h fz.1 (by omega))
      have EV := hide eV
      have HB := hide hb
      have HNE := hide hne
      have HFS := hide fs.1
      clear h hTab hb hb1 hne fz hr hrp hrl
      generalize hz : fstI (woN S (fstI S)) = z at *
      generalize woN S (fstI S) = r at *
      generalize hy : fstI S = y at *
      go_enter Tryd.func89, Tryd.ntmps89
      go_wp2_with fail
      refine (unhide CF).mono ?_; rintro e w2 ⟨rfl, hw⟩; have hw' := hw.symm; clear hw; subst hw'
      go_wp2_with fail
      refine (unhide CW).mono ?_; rintro e w2 ⟨rfl, hw⟩; have hw' := hw.symm; clear hw; subst hw'
      go_wp2_with fail
      refine (unhide CF2).mono ?_; rintro e w2 ⟨rfl, hw⟩; have hw' := hw.symm; clear hw; subst hw'
      clear CF CW CF2
      go_wp2_with fail
      refine (unhide CW1).mono ?_; rintro e w1 ⟨s1, rfl, u1⟩
      have hb1 : (s1.A.getD (1 + placeN y) nil_).2.length ≤ 4194304 := by
        rw [u1.2.2.2.2.2.2.2 _ (fun e => unhide HNE (by omega))]
        have := unhide HB (1 + placeN y)
        omega
      have CWa := hide (watch (i := (s.K.length : Int)) (x := y) u1.1 (unhide HFS) hb1)
      have U1 := hide u1
      clear CW1 u1
      go_wp2_with fail
      refine (unhide CWa).mono ?_; rintro e w3 ⟨s3, rfl, u3⟩
      have eV3 : s3.V = .slice a0 s.K.length cap0 := by rw [u3.2.2.1, (unhide U1).2.2.1]; exact unhide EV
      have eK3 : s3.K = s.K := by rw [u3.2.2.2.1, (unhide U1).2.2.2.1]
      have AK := addK_of u3.1 eV3 (S, y, z)
      have EE : Hid (∀ s4 : WS, s4.ps = { s3.ps with K := s3.K ++ [(S, y, z)] } → s4.ps = s.ps.add S) := by
        intro s4 q
        rw [q, unhide EP, u3.ps, (unhide U1).ps, eK3]
      have ST := hide ((unhide U1).2.1.trans u3.2.1)
      have z0 := u3.1.cell (k := 0) (by decide)
      rw [at0, eV3] at z0
      have ne3 := World.new_ne w3 _ z0
      have NB := hide (new_block w3 (.cells #[.int .u64 (S : Int), .int .i8 y, .int .i8 z] 164))
      have HAK := hide AK
      have hl3 : s3.K.length ≤ 1048576 := by rw [eK3]; exact hl
      clear CWa U1 u3 AK EP eV3 eK3
      go_wp2_with (at_builtin; refine listK (K := s3.K) (S := S) (x := y) (y := z) (b := w3.heap.size) (unhide HAK).own (unhide NB) hl3 rfl _ _ rfl rfl rfl ?_)
      intro g5 cap5 w5 o5 g5' l5
      have v0 := ((unhide HAK).cell w5 g5').1
      have v1 := ((unhide HAK).cell w5 g5').2
      obtain ⟨s5, q1, q2, q3, q4⟩ := (unhide HAK).fin g5 cap5 w5 o5 g5' (by rcases l5 with q | q; exact .inl q; exact .inr q)
      have R : Hid (Wat _ c s5 ∧ Stp c s s5 w _ ∧ s5.ps = s.ps.add S) := ⟨q1, (unhide ST).trans q2, unhide EE s5 q3⟩
      clear o5 g5' l5 q1 q2 q3 q4 HAK NB EE ST
      go_wp2_with fail
      first
        | exact end0 rfl rfl ⟨_, rfl, unhide R⟩
        | exact ret0 rfl rfl ⟨_, rfl, unhide R⟩
end Go.Proofs.YtheigbmkldlicaaDoor.wm
