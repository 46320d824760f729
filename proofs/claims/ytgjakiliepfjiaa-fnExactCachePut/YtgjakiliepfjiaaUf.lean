/- What the shelf's small methods do: use, stands; no condition but on sizes. -/
import Derived.Test.YtgjakiliepfjiaaUe
import Derived.Deep.RegionLaw
namespace Go.Proofs.Ytgjakiliepfjiaa.ua
open Go.ChangeShapes Go.WideShapes Go.ChangeAt Go.RowKit Go.Maps Go.MuLone
open Go.Proofs.Ytgjakiliepfjiaa.sl (Sl Own ints marks hide unhide ret_int ret_bool grown_refl grown_trans grown_drewN below_of of_below)
open Go.Proofs.Ytgjakiliepfjiaa.css (Outs outs_trans outs_none outs_by outs_refl own_mono own_sub own_outs own_kind)
open Go.Proofs.Ytgjakiliepfjiaa.yb (Box4)
open Go.Proofs.Ytgjakiliepfjiaa.cf (Box)
set_option linter.unusedVariables false
/-- one more behind the entries: a step of a region that draws its order -/
theorem stepH {ops : Array Oper} {o : Oper} {a : Act} {K : Act → World → Prop} {Q : Exit → Act → World → Prop} {X : Prop} {w0 wr : World} {v u : Value} {E : List Kn} {k : Kn}
    (h : OwnH w0 wr v E) (hu : Vl w0 u k.vals) (h1 : Value.oneCell' u = true) (hlo : w0.heap.size ≤ wr.heap.size) (hM : E.length ≤ 1048576) (hgd : o.guard = none) (s x : Operand)
    (ho : o.op = .call { callee := .builtin .append, args := #[s, x], argTypes := #[24, 24] }) (hs : a.eval s = v) (hx : a.eval x = .slice (some ⟨wr.heap.size, 0, none⟩) 1 1)
    (hK : ∀ g cap w1, OwnH w0 w1 (.slice (some ⟨g, 0, none⟩) (E.length + 1) cap) (E ++ [k]) → (wr.alloc (.cells #[.string k.dg, .bool k.sat, u, .int .i64 k.cost] 29)).grownBy w1 v.ownBlock → (v.ownBlock = some g ∨ g = wr.heap.size + 1) → K (a.put o.dst (.slice (some ⟨g, 0, none⟩) (E.length + 1) cap)) w1) :
    if Region.wanted o (yielded ops a.tmps) = true then Oper.wp Try.prog o a (wr.alloc (.cells #[.string k.dg, .bool k.sat, u, .int .i64 k.cost] 29)) K Q else X := by
  obtain ⟨i0, hi, hz0, hz1, hz2⟩ := info_parts infoK
  obtain ⟨D, rfl, hw, hin⟩ := h
  rw [List.length_map] at *
  refine step_append_lies _ hgd s x 24 ho w0.heap.size 29 i0 (.agg #[.string ⟨#[]⟩, .bool false, .slice none 0 0, .int .i64 0]) 4 56 Try.underlying24 hi hz0 hz1 hz2 rfl (by decide) v D.length (cells4 D) hs (hw.alloc _) ⟨wr.heap.size, 0, none⟩ 1 1 (four u k) hx rfl ?_ ?_ (by decide) ?_ ?_ ?_ (wr.heap.size + 1) (World.size_alloc ..) ?_
  · intro j y hj
    have hb := Go.heap_alloc_new wr (.cells #[.string k.dg, .bool k.sat, u, .int .i64 k.cost] 29)
    rw [Addr.add_lit, Nat.zero_add]
    unfold World.cell?
    rw [hb]
    rw [← hj]
    unfold four
    simp
  · intro y hy
    simp only [four, List.mem_cons, List.not_mem_nil, or_false] at hy
    rcases hy with rfl | rfl | rfl | rfl
    · rfl
    · rfl
    · exact h1
    · rfl
  · unfold maxLen; omega
  · omega
  · simp; omega
  · intro g cap w1 h1 hg hloc _
    refine hK g cap w1 ⟨D ++ [(u, k)], by simp, ?_, fun p hp => ?_⟩ hg hloc
    · rw [List.length_append, cells4_append]
      exact h1
    · rw [List.mem_append, List.mem_singleton] at hp
      rcases hp with hp | rfl
      · exact hin p hp
      · exact hu
theorem end0 {P : Program} {fn : Func} {R : Ending → World → Prop} {a : Act} {w : World} (h : fn.results = #[]) (hd : a.defers = []) (hr : R (.returned (.tuple #[])) w) : bodyPost P fn R .normal a w :=
  ⟨hd, _, by simp [results, h], hr⟩
theorem wf_nat {n : Nat} (h : n ≤ 1048577) : (Lit.int .i64 (n : Int)).wf = true := by
  exact WalkArith.wf_i64 (by omega)
/-- a locked shelf whose map is ahead of its entries -/
structure Shf2 (w0 wr : World) (s bm : Nat) (room : Int) (v : Value) (E : List Kn) (n : Nat) (D : DataW Unit) : Prop where
  g : w0.grownBy wr none
  blk : wr.heap[s]? = some (.cells #[.int .i32 1, .int .u32 0, .int .i64 room, v, .map (some bm)] 97 (0, 0))
  own : OwnH w0 wr v E
  map : wr.ownsMap Try.prog 9 (plainElem Try.prog 3) bm n D
  hs : w0.heap.size ≤ s
  hb : w0.heap.size ≤ bm
theorem Shf2.lt {w0 wr : World} {s bm n : Nat} {room : Int} {v : Value} {E : List Kn} {D : DataW Unit} (h : Shf2 w0 wr s bm room v E n D) : s < wr.heap.size := (Array.getElem?_eq_some_iff.1 h.blk).1
/-- the entries' row grew -/
theorem Shf2.grow {w0 wr w1 : World} {s bm n : Nat} {room : Int} {v v' : Value} {E E' : List Kn} {D : DataW Unit} {o : Obj} (h : Shf2 w0 wr s bm room v E n D) (g : (wr.drew.alloc o).grownBy w1 v.ownBlock) (ho : OwnH w0 w1 v' E') (hl : n ≤ E'.length) :
    w1.cell? ⟨s, 3, none⟩ = some v ∧ w1.frozen? ⟨s, 3, none⟩ = false ∧ Shf w0 (w1.setCell ⟨s, 3, none⟩ v') s bm 1 room v' E' D := by
  have gd : wr.grownBy (wr.drew.alloc o) none := grown_trans (cf.grown_drew wr none) (World.grownBy_alloc _ _ none)
  obtain ⟨D', _, hw, _⟩ := h.own
  have r1 : v.ownBlock ≠ some s := by
    intro e
    obtain ⟨c, fz, hc⟩ := own_kind hw s e
    rw [h.blk] at hc
    simp only [Option.some.injEq, Obj.cells.injEq] at hc
    exact shelf_ty hc.2.1.symm
  have r2 : v.ownBlock ≠ some bm := by
    intro e
    obtain ⟨c, fz, hc⟩ := own_kind hw bm e
    obtain ⟨es, cl, hm, _⟩ := h.map
    rw [hm] at hc
    cases hc
  have g0 : w0.grownBy w1 none := ⟨g.os.trans (gd.os.trans h.g.os), g.tape.trans (gd.tape.trans h.g.tape), g.output.trans (gd.output.trans h.g.output), Nat.le_trans h.g.size (Nat.le_trans gd.size g.size), fun k hk _ => by
    rw [g.block k (Nat.lt_of_lt_of_le hk (Nat.le_trans h.g.size gd.size)) (fun e => by have := (hw.lt k e.symm).1; omega), gd.block k (Nat.lt_of_lt_of_le hk h.g.size) (fun e => by cases e)]
    exact h.g.block k hk (fun e => by cases e)⟩
  have hb : w1.heap[s]? = some (.cells #[.int .i32 1, .int .u32 0, .int .i64 room, v, .map (some bm)] 97 (0, 0)) := ((g.block s (Nat.lt_of_lt_of_le h.lt gd.size) (fun e => r1 e.symm)).trans (gd.block s h.lt (fun e => by cases e))).trans h.blk
  have hmm := (h.map.kept gd (by simp)).kept g (fun e => r2 e.symm)
  have ne : bm ≠ s := by
    obtain ⟨es, cl, hm, _⟩ := hmm
    rintro rfl
    rw [hb] at hm
    cases hm
  have gs := sl.grown_setCell w1 s 3 v'
  have nv : v'.ownBlock ≠ some s := by
    intro e
    obtain ⟨D2, _, hw2, _⟩ := ho
    obtain ⟨c, fz, hc⟩ := own_kind hw2 s e
    rw [hb] at hc
    simp only [Option.some.injEq, Obj.cells.injEq] at hc
    exact shelf_ty hc.2.1.symm
  refine ⟨by simp [World.cell?, hb], by simp [World.frozen?, hb], grown_in g0 gs h.hs, ?_, ho.kept gs (fun k e => by cases e; exact nv), (hmm.kept gs (by intro e; cases e; exact ne rfl)).mono hl, h.hs, h.hb⟩
  simp [World.setCell, Array.getElem?_modify, hb]
theorem frame3 {wr W1 w2 w3 : World} {bm : Nat} {v : Value} {o : Obj} (g1 : wr.grownBy W1 none) (g2 : W1.drew.grownBy w2 (some bm)) (g3 : (w2.drew.alloc o).grownBy w3 v.ownBlock) : ∀ q, q < wr.heap.size → q ≠ bm → v.ownBlock ≠ some q → w3.heap[q]? = wr.heap[q]? := by
  intro q hq h2 h3
  have l1 : q < W1.drew.heap.size := Nat.lt_of_lt_of_le hq g1.size
  have l2 : q < w2.heap.size := Nat.lt_of_lt_of_le l1 g2.size
  have ga := World.grownBy_alloc w2.drew o none
  rw [g3.block q (Nat.lt_of_lt_of_le l2 ga.size) (fun e => h3 e.symm), ga.block q l2 (fun e => by cases e)]
  exact (g2.block q l1 (fun e => h2 (by injection e))).trans (g1.block q hq (fun e => by cases e))
set_option maxHeartbeats 1600000 in
theorem use_ (u : Value) (k : Kn) (s bm : Nat) (room : Int) (v : Value) (E : List Kn) (D : DataW Unit) (w0 wr : World) (h : Shf w0 wr s bm 1 room v E D) (hE : E.length ≤ 1048576) (hd : k.dg.size ≤ maxLen) (hu : Vl w0 u k.vals) :
    Calls Try.prog 59 #[.pointer (some ⟨s, 0, none⟩), .agg #[.string k.dg, .bool k.sat, u, .int .i64 k.cost]] wr fun e w' => e = .returned (.tuple #[]) ∧ ∃ v', Shf w0 w' s bm 1 room v' (E ++ [k]) (D.put (key k.dg) (num E.length)) ∧ (∀ q, q < wr.heap.size → q ≠ s → q ≠ bm → v.ownBlock ≠ some q → w'.heap[q]? = wr.heap[q]?) ∧ ∀ q, v'.ownBlock = some q → v.ownBlock = some q ∨ wr.heap.size ≤ q := by
  obtain ⟨va, vc, rfl⟩ := h.own.len
  obtain ⟨ua, uc, rfl, _⟩ := hu.sl
  obtain ⟨dg, sat, vals, cost⟩ := k
  dsimp only at *
  obtain ⟨W1, hW1⟩ : ∃ W1, W1 = wr.alloc (.cells #[.string dg, .bool sat, .slice ua vals.length uc, .int .i64 cost] 29) := ⟨_, rfl⟩
  have g1 : wr.grownBy W1 none := by rw [hW1]; exact World.grownBy_alloc _ _ _
  have B1 : Box4 29 W1 wr.heap.size (.string dg) (.bool sat) (.slice ua vals.length uc) (.int .i64 cost) := by rw [hW1]; exact Box4.new _ _ _ _ _ _
  have S1 := h.kept g1
  have S1d := S1.kept (cf.grown_drew W1 none)
  have B1d := B1.kept (cf.grown_drew W1 none)
  obtain ⟨w2, hst, hm2, ht2⟩ := S1d.map.store law Try.underlying88 (by unfold maxLen; omega) (keyOf_dg hd) (plainElem_int (H := Unit) Try.underlying3 (wf_nat (n := E.length) (by omega)))
  have S2 := S1d.map
  have hn2 : E.length + 1 = (E ++ [(⟨dg, sat, vals, cost⟩ : Kn)]).length := by rw [List.length_append]; rfl
  have T2 : Shf2 w0 w2 s bm room (.slice va E.length vc) E (E.length + 1) (D.put (key dg) (num E.length)) := ⟨grown_in S1d.g ht2.grown S1d.hb, (ht2.grown.block s S1d.lt (fun e => by injection e with e; exact S1d.ne e.symm)).trans S1d.blk, S1d.own.kept ht2.grown (fun k e => by cases e; exact S1d.row_ne.2), hm2, S1d.hs, S1d.hb⟩
  have B2 := B1d.by ht2.grown (fun e => by cases e; obtain ⟨es, cl, hm, _⟩ := S1d.map; have := B1d; unfold yb.Box4 at this; rw [hm] at this; cases this)
  obtain ⟨c0, c2, c3, c4, fz⟩ := S1.cells
  have x0 := B1.c0
  have HT := hide T2
  have HB := hide B2
  have HU := hide hu
  have HG := hide g1
  have HT2 := hide ht2.grown
  clear hm2 ht2 S1 S1d B1 B1d S2 T2 B2 hu g1 h
  go_enter Try.func59, Try.ntmps59
  go_wp2_with fail
  rw [← hW1]
  clear hW1
  go_region
  have y0 := (unhide HB).c0
  have y1 := (unhide HB).c1
  have y2 := (unhide HB).c2
  have y3 := (unhide HB).c3
  have c3' : w2.cell? ⟨s, 3, none⟩ = some (.slice va E.length vc) := by have := (unhide HT).blk; simp [World.cell?, this]
  have f3' : w2.frozen? ⟨s, 3, none⟩ = false := by have := (unhide HT).blk; simp [World.frozen?, this]
  have k9 : (w2.alloc (.cells #[.string dg, .bool sat, .slice ua vals.length uc, .int .i64 cost] 29)).cell? ⟨s, 3, none⟩ = some (.slice va E.length vc) := (World.grownBy_alloc w2 _ none).cell c3' (fun e => by cases e)
  have HO : Hid (OwnH w0 w2.drew (.slice va E.length vc) E) := (unhide HT).own.kept (cf.grown_drew w2 none) (fun k e => by cases e)
  have hlo : w0.heap.size ≤ w2.drew.heap.size := (unhide HT).g.size
  have HN := hide hn2
  clear c0 c2 c3 c4 fz x0 hst hn2
  go_wp2_with fail
  go_region_law (first
    | (refine stepH (k := ⟨dg, sat, vals, cost⟩) (unhide HO) (unhide HU) rfl hlo hE (by rfl) _ _ (by rfl) (by rfl) (by rfl) ?_; intro g3 cap3 w3 h3 g3' hl3; have L3 := hide hl3; clear hl3; have R3 := hide ((unhide HT).grow g3' h3 (by rw [← unhide HN]; exact Nat.le_refl _)); have k3 := (unhide R3).1; have k4 := (unhide R3).2.1; have F3 := hide (frame3 (unhide HG) (unhide HT2) g3'); clear h3 g3'))
  all_goals exact end0 rfl rfl ⟨rfl, _, (unhide R3).2.2, fun q hq h1 h2 h3 => (Below.heap_setCell _ _ _ _ h1).trans (unhide F3 q hq h2 h3), fun q hq => by
    have e : g3 = q := by simpa [Value.ownBlock] using hq
    rcases unhide L3 with h | h
    · exact .inl (by rw [← e]; exact h)
    · refine .inr ?_
      have a1 := (unhide HG).size
      have a2 : W1.heap.size ≤ w2.heap.size := (unhide HT2).size
      have a3 : w2.drew.heap.size = w2.heap.size := rfl
      omega⟩
/-- what a digest's place is told to be -/
def Told (D : DataW Unit) (d : ByteArray) (c : Int) (b : Bool) : Prop := D.atKey (key d) (num 0) = .lit (.int .i64 c) ∧ Maps.has D (key d) = b
theorem look {w : World} {bm n : Nat} {D : DataW Unit} {d : ByteArray} (h : w.ownsMap Try.prog 9 (plainElem Try.prog 3) bm n D) (hd : d.size ≤ maxLen) :
    ∃ c b, (Instr.lookup 88 (.map (some bm)) (.string d) true).run Try.prog w = .ok (.tuple #[.int .i64 c, .bool b]) w ∧ Told D d c b := by
  obtain ⟨v, ps, hrun, hv⟩ := h.look_ok law Try.underlying88 (zeroE w) (plainElem_int (H := Unit) Try.underlying3 (wf_nat (n := 0) (by decide))) (keyOf_dg hd)
  obtain ⟨c, rfl, hc, hwc⟩ := plainElem_int_inv Try.underlying3 hv
  exact ⟨c, _, hrun, congrArg Prod.fst hc, rfl⟩
theorem Told.one {D : DataW Unit} {d : ByteArray} {c c' : Int} {b b' : Bool} (h : Told D d c b) (k : Told D d c' b') : c = c' ∧ b = b' := by
  obtain ⟨h1, h2⟩ := h
  obtain ⟨k1, k2⟩ := k
  rw [h1] at k1
  injection k1 with k1
  injection k1 with _ k1
  exact ⟨k1, h2.symm.trans k2⟩
set_option maxHeartbeats 1600000 in
theorem stands (s bm i : Nat) (lk room : Int) (v : Value) (E : List Kn) (D : DataW Unit) (w0 wr : World) (c : Int) (b : Bool) (h : Shf w0 wr s bm lk room v E D) (hi : i < E.length) (hE : E.length ≤ 1048577) (hd : (E.getD i kz).dg.size ≤ maxLen) (ht : Told D (E.getD i kz).dg c b) :
    Calls Try.prog 60 #[.pointer (some ⟨s, 0, none⟩), .int .i64 (i : Int)] wr fun e w' => e = .returned (.bool (b && (c == (i : Int)))) ∧ wr.grownBy w' none := by
  obtain ⟨g, cap, u, rfl, e0, _⟩ := h.own.at hi
  obtain ⟨c', b', hl, ht'⟩ := look (h.kept (cf.grown_drew wr none)).map hd
  obtain ⟨rfl, rfl⟩ := ht.one ht'
  obtain ⟨_, _, c3, c4, fz⟩ := h.cells
  have hi' : (i : Int) < (E.length : Int) := by omega
  generalize (E.getD i kz).dg = d at *
  clear ht ht' h hd
  have HG := hide (cf.grown_drew wr none)
  go_enter Try.func60, Try.ntmps60
  go_wp2_with fail
  go_region
  all_goals
    cases b
    · go_wp2_with fail
      go_ret
      exact ⟨rfl, unhide HG⟩
    · go_wp2_with fail
      go_ret
      exact ⟨rfl, unhide HG⟩
end Go.Proofs.Ytgjakiliepfjiaa.ua
