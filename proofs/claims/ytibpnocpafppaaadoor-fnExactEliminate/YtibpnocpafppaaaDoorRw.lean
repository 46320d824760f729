/- What rowsOf answers: the rows of the clauses that may be false, each where it is first met; at every formula that holds at most 2^20 values. -/
import Derived.Test.YtibpnocpafppaaaDoorMk
import Derived.Test.YtibpnocpafppaaaDoorCss
import Derived.Test.YtibpnocpafppaaaDoorApp
import Derived.Test.YtibpnocpafppaaaDoorCf
import Derived.Deep.RegionHeld3
import Derived.Great.BuildSlice
namespace Go.Proofs.YtibpnocpafppaaaDoor.rws
open Go.ChangeShapes Go.WideShapes Go.ChangeAt Go.RowKit
open Go.Proofs.YtibpnocpafppaaaDoor.sl (Sl Own ints hide unhide grown_refl grown_trans grown_drewN below_of of_below)
open Go.Proofs.YtibpnocpafppaaaDoor.css (Sls tot)
open Go.Proofs.YtibpnocpafppaaaDoor.ro (cells8 size8 pad pad_len one8 infoRow)
open Go.Proofs.YtibpnocpafppaaaDoor.mk (Fine Tells key put)
open Go.Proofs.YtibpnocpafppaaaDoor.cs (good one oneAll oneAll_snoc oneAll_mem)
open Go.Proofs.YtibpnocpafppaaaDoor.bset (setOf setOf_lt)
open Go.Proofs.YtibpnocpafppaaaDoor.srt (srt okTo Tab)
set_option linter.unusedVariables false

/-- the cells of rows -/
def cellsR (X : List (List Int)) : List Value := X.flatMap fun L => (cells8 (pad L)).toList
theorem cellsR_len (X : List (List Int)) (h : ∀ L ∈ X, L.length ≤ 24) : (cellsR X).length = X.length * 24 := by
  unfold cellsR
  induction X with
  | nil => rfl
  | cons L X ih =>
    rw [List.flatMap_cons, List.length_append, Array.length_toList, size8, pad_len (h L (by simp)), ih (fun M hM => h M (by simp [hM])), List.length_cons]
    omega
theorem cs_len (G : List (List Int)) : (oneAll G).length ≤ G.length := cs.oneAll_len G
theorem cellsR_snoc (X : List (List Int)) (c : List Int) : cellsR (X ++ [c]) = cellsR X ++ (cells8 (pad c)).toList := by
  unfold cellsR
  rw [List.flatMap_append]
  simp
theorem infoR : (Tryd.prog.info? 69).map (fun i => (i.zero, i.size, i.bytes)) = some (some (.agg (cells8 (pad []))), 24, 24) := by kernel_rfl
theorem grown_past {a b c : World} {B : Nat} (g : a.grownBy b none) (k : b.grownBy c (some B)) (hB : a.heap.size ≤ B) : a.grownBy c none :=
  ⟨k.os.trans g.os, k.tape.trans g.tape, k.output.trans g.output, Nat.le_trans g.size k.size, fun j hj _ => (k.block j (Nat.lt_of_lt_of_le hj g.size) (fun e => by injection e; omega)).trans (g.block j hj (fun e => by cases e))⟩
theorem put_grown (w : World) (b : Nat) (o : Obj) : w.grownBy (put w b o) (some b) :=
  ⟨rfl, rfl, rfl, by simp [mk.put], fun j hj hne => by
    have : j ≠ b := fun e => hne (by rw [e])
    simp [mk.put, Ne.symm this]⟩
theorem put_other {w : World} {b c : Nat} {o : Obj} (h : c ≠ b) : (put w b o).heap[c]? = w.heap[c]? := by
  simp [mk.put, Ne.symm h]
theorem row_kept {w w' : World} {lo n z : Nat} {t : TypeId} {v : Value} {xs : List Value} (h : w.ownsRow lo t z v n xs) (g : w.grownBy w' none) : w'.ownsRow lo t z v n xs := h.kept g (by
  cases hv : v.ownBlock
  · exact .inl rfl
  · exact .inr (fun e => by cases e))
theorem row_new (w : World) (Z C : Array Value) : w.grownBy ((w.alloc (.cells Z 69)).setRow w.heap.size C) none := by
  have g := World.grownBy_alloc w (.cells Z 69) none
  refine ⟨g.os, g.tape, g.output, by simp, fun j hj _ => ?_⟩
  rw [setRow_other _ _ _ _ (show j ≠ w.heap.size by omega)]
  exact g.block j hj (fun e => by cases e)
theorem grown_appR {w w1 w2 : World} {o : Obj} {v : Value} {n z : Nat} {xs : List Value} {t : TypeId} (g : w.grownBy w1 none) (hw : w1.ownsRow w.heap.size t z v n xs) (g1 : (w1.alloc o).grownBy w2 v.ownBlock) : w.grownBy w2 none := by
  have hgA : w.grownBy (w1.alloc o) none := grown_trans g (World.grownBy_alloc w1 o none)
  exact ⟨g1.os.trans hgA.os, g1.tape.trans hgA.tape, g1.output.trans hgA.output, Nat.le_trans hgA.size g1.size, fun k hk _ => by
    rw [g1.block k (Nat.lt_of_lt_of_le hk hgA.size) (fun e => by have := (hw.lt k e.symm).1; omega)]
    exact hgA.block k hk (fun e => by cases e)⟩
/-- in the middle: the rows X lie there, and the map tells G -/
structure Mid (w wr : World) (B : Nat) (u : Value) (X G : List (List Int)) : Prop where
  g : w.grownBy wr none
  own : wr.ownsRow w.heap.size 69 24 u X.length (cellsR X)
  map : ∃ es clock, wr.heap[B]? = some (.map es clock) ∧ Tells es clock G
  bB : w.heap.size ≤ B
theorem Mid.kept {w wr w1 : World} {B : Nat} {u : Value} {X G : List (List Int)} (h : Mid w wr B u X G) (g : wr.grownBy w1 none) : Mid w w1 B u X G := by
  refine ⟨grown_trans (r := none) h.g g, row_kept h.own g, ?_, h.bB⟩
  obtain ⟨es, clock, hb, ht⟩ := h.map
  exact ⟨es, clock, (g.block B (Array.getElem?_eq_some_iff.1 hb).1 (fun e => by cases e)).trans hb, ht⟩
theorem Mid.row {w wr : World} {B : Nat} {u : Value} {X G : List (List Int)} {Z C : Array Value} (h : Mid w wr B u X G) : Mid w ((wr.alloc (.cells Z 69)).setRow wr.heap.size C) B u X G :=
  h.kept (row_new wr Z C)
theorem range_put {w : World} {b B o : Nat} {ob : Obj} {cs : List Value} (h : w.rangeAt b o cs) (hne : b ≠ B) : (put w B ob).rangeAt b o cs := by
  intro j v hv
  have := h j v hv
  unfold World.cell? at this ⊢
  rw [put_other hne]
  exact this
theorem own_put {w : World} {lo n z B : Nat} {t : TypeId} {v : Value} {xs : List Value} {es : Array MapEntry} {clock : Nat} (h : w.ownsRow lo t z v n xs) (hb : w.heap[B]? = some (.map es clock)) (ob : Obj) : (put w B ob).ownsRow lo t z v n xs := by
  refine h.kept (put_grown w B ob) ?_
  obtain ⟨_, h2⟩ := h
  rcases h2 with ⟨rfl, _⟩ | ⟨g, cap, cur, rfl, _, hg, _⟩
  · exact .inl rfl
  · refine .inr (fun e => ?_)
    injection e with e
    dsimp only at e
    rw [e, hb] at hg
    cases hg
theorem Mid.more {w wr : World} {B : Nat} {u : Value} {X G : List (List Int)} {c : List Int} {es es1 es2 : Array MapEntry} {clock clock1 : Nat} (h : Mid w wr B u X G) (hb : wr.drew.heap[B]? = some (.map es clock)) (ht : Tells es2 clock1 (G ++ [c])) :
    Mid w (put (put wr.drew B (.map es1 clock1)) B (.map es2 clock1)) B u X (G ++ [c]) := by
  have k := h.kept (cf.grown_drew wr none)
  have h1 := mk.put_heap (o := .map es1 clock1) hb
  refine ⟨grown_past (grown_past k.g (put_grown _ B _) h.bB) (put_grown _ B _) h.bB, own_put (own_put k.own hb _) h1 _, ⟨es2, clock1, mk.put_heap h1, ht⟩, h.bB⟩
theorem B_row {ops : Array Oper} {rest : List Oper} {o : Oper} {a : Act} {w : World} {Q : Exit → Act → World → Prop} {C : Array Value} (hC : C.size = 24) (hg : o.guard = none) (x : Operand) (ho : o.op = .buildSlice 63 1 #[(0, x)]) (hx : a.eval x = .agg C)
    (h : wpList Tryd.prog ops Q rest (a.put o.dst (.slice (some ⟨w.heap.size, 0, none⟩) 1 1)) (w.alloc (.cells C 69))) : wpList Tryd.prog ops Q (o :: rest) a w := by
  obtain ⟨i0, hi, hz0, hz1, hz2⟩ := info_parts infoR
  have hf : Instr.fill (fun i => some (i * i0.size, i0.size)) ((Array.range (1 * i0.size)).map ((Value.agg (cells8 (pad []))).cells[· % (Value.agg (cells8 (pad []))).cells.size]!)) (#[(0, x)].map fun (p : Nat × Operand) => (p.1, a.eval p.2)).toList = some C := by
    rw [hz1]
    have := Go.Great.fill_whole (s := 24) (by decide) [.agg C] ((Array.range (1 * 24)).map ((Value.agg (cells8 (pad []))).cells[· % (Value.agg (cells8 (pad []))).cells.size]!)) (by intro v hv; rw [List.mem_singleton] at hv; rw [hv]; exact hC) (by simp)
    simpa [hx, Value.cells] using this
  exact wpList_buildSlice hg 63 69 1 #[(0, x)] ho C i0 (.agg (cells8 (pad []))) Tryd.underlying63 hi hz0 (by rw [hz1]; decide) (by rw [hz1]; decide) hf h
/-- one row more -/
theorem appendW {ops : Array Oper} {rest : List Oper} {o : Oper} {a : Act} {Q : Exit → Act → World → Prop} {w wr : World} {B : Nat} {u : Value} {X G : List (List Int)} {c : List Int} {C : Array Value} (hC : cells8 (pad c) = C) (hc : Fine c)
    (h : Mid w wr B u X G) (hX : X.length ≤ 1048576) (hgd : o.guard = none) (p x : Operand)
    (ho : o.op = .call { callee := .builtin .append, args := #[p, x], argTypes := #[63, 63] }) (hs : a.eval p = u) (hx : a.eval x = .slice (some ⟨wr.heap.size, 0, none⟩) 1 1)
    (hK : ∀ v' w1, Mid w w1 B v' (X ++ [c]) G → wpList Tryd.prog ops Q rest (a.put o.dst v') w1) :
    wpList Tryd.prog ops Q (o :: rest) a (wr.alloc (.cells C 69)) := by
  subst hC
  obtain ⟨i0, hi, hz0, hz1, hz2⟩ := info_parts infoR
  have hz := h.g.size
  refine wpList_append_own _ hgd p x 63 ho w.heap.size 69 i0 (.agg (cells8 (pad []))) 24 24 Tryd.underlying63 hi hz0 hz1 hz2 (by rw [Value.cells, size8]; rfl) (by decide) u X.length (cellsR X) hs (h.own.alloc _) ⟨wr.heap.size, 0, none⟩ 1 1 (cells8 (pad c)).toList hx (by rw [Array.length_toList, size8, pad_len hc.1]) ?_ ?_ ?_ ?_ ?_ ?_
  · intro j v hj
    rw [Addr.add_lit, Nat.zero_add, cell_of_row _ _ j (cells8 (pad c)) _ _ (Go.heap_alloc_new wr _)]
    simpa using hj
  · intro v hv
    have := one8 (pad c)
    rw [Array.all_eq_true_iff_forall_mem] at this
    exact this v (by simpa using hv)
  · unfold maxLen
    omega
  · omega
  · simp
    omega
  · intro v' w1 hown' hgrow _
    refine hK v' w1 ⟨grown_appR h.g h.own hgrow, ?_, ?_, h.bB⟩
    · rw [List.length_append, cellsR_snoc]
      exact hown'
    · obtain ⟨es, clock, hb, ht⟩ := h.map
      refine ⟨es, clock, ?_, ht⟩
      have hlt := (Array.getElem?_eq_some_iff.1 hb).1
      rw [hgrow.block B (by simp; omega) (fun e => ?_), Go.heap_alloc_old _ _ hlt, hb]
      obtain ⟨cu, fz, hk⟩ := css.own_kind h.own B e.symm
      rw [hb] at hk
      cases hk
theorem Mid.start {w w1 : World} {u : Value} {LL : List (List Int)} (ho : w1.ownsRow w.heap.size 69 24 u 0 []) (g : w.grownBy w1 none) : Mid w (w1.alloc (.map #[] 0)) w1.heap.size u (oneAll (good (LL.take 0))) (good (LL.take 0)) :=
  ⟨grown_trans (r := none) g (World.grownBy_alloc _ _ _), ho.alloc _, ⟨#[], 0, Go.heap_alloc_new _ _, Tells.start⟩, g.size⟩

set_option maxRecDepth 10000 in
set_option maxHeartbeats 1600000 in
theorem rowsOf (v : Value) (LL : List (List Int)) (w : World) (hT : Tab w) (hn : tot LL ≤ 1048576) (hv : Sls w v LL) :
    Calls Tryd.prog 64 #[v] w fun e w' => ∃ u, e = .returned u ∧ w'.ownsRow w.heap.size 69 24 u (oneAll (good LL)).length (cellsR (oneAll (good LL))) ∧ w.grownBy w' none := by
  have hl := Nat.le_trans (css.tot_len LL) hn
  obtain ⟨a, cap, rfl, ha⟩ := hv
  obtain ⟨i0, hi, hz0, hz1, hz2⟩ := info_parts infoR
  have HA := hide ha
  have HT := hide hT
  have hmm : ∀ (x : Int) (w : World), (Instr.makeMap 111 (some (.int .i64 x))).run Tryd.prog w = .ok (.map (some w.heap.size)) (w.alloc (.map #[] 0)) := fun x w => by
    simp [Instr.makeMap, run_underlying Tryd.underlying111, asInt, asIntOf, Result.andThen, go_sem]
  clear ha hT
  go_enter Tryd.func64, Tryd.ntmps64
  go_wp2_with (first | (at_make; refine wpList_make_own _ rfl _ _ 63 rfl w.heap.size 69 i0 (.agg (cells8 (pad []))) 24 Tryd.underlying63 hi hz0 hz1 _ _ _ LL.length rfl rfl (by rfl) ?b1 ?b2 ?b3 ?_) | go_in)
  case b1 => rw [hz2]; omega
  case b2 => unfold maxLen; omega
  case b3 => exact Nat.le_refl _
  intro w1 hown hgrow
  have ST : Hid (Mid w (w1.alloc (.map #[] 0)) w1.heap.size _ (oneAll (good (LL.take 0))) (good (LL.take 0))) := Mid.start hown hgrow
  have hB : w.heap.size ≤ w1.heap.size := hgrow.size
  clear hown hgrow
  go_wp2_with fail
  generalize w1.heap.size = B at *
  go_loopw [3, 17] (fun u i wr => ∃ k : Nat, k ≤ LL.length ∧ i = .int .i64 k ∧ Hid (Mid w wr B u (oneAll (good (LL.take k))) (good (LL.take k)))) (fun _ i _ => LL.length - (intOf i).toNat)
  case atStart => exact ⟨0, Nat.zero_le _, rfl, ST⟩
  case round =>
    obtain ⟨k, hk, rfl, hm⟩ := hrel
    clear ST hmm
    by_cases hlt : k < LL.length
    · rcases unhide HA with h | ⟨b, off, rfl, hb, hcb⟩
      · rw [h] at hlt
        simp at hlt
      · obtain ⟨u, hu, hs⟩ := hcb k hlt
        have hg := (unhide hm).g
        have c1 : wr.cell? ⟨b, off + k, none⟩ = some u := hg.cell hu (fun e => by cases e)
        have hi' : (k : Int) < (LL.length : Int) := by omega
        have hL := Nat.le_trans (css.tot_in LL k) hn
        have gy := cs.good_yes (LL := LL) hlt
        have gn := cs.good_no (LL := LL) hlt
        have gl := Nat.le_trans (cs.good_len (LL.take k)) (by rw [List.length_take]; exact Nat.min_le_left _ _)
        have TK := hide ((unhide HT).kept hg)
        generalize LL.getD k [] = L at *
        have C := hide (bset.litsOf u L wr hL (hs.kept hg (.inl rfl)))
        have CC := hide (srt.clashes (setOf L) wr (setOf_lt L))
        clear hcb HA hs hu hg
        cases ho : okTo (setOf L) 24
        · have HG := hide (gn ho)
          rw [ho] at CC
          clear gy gn
          go_wp2_with fail
          refine (unhide C).mono ?_; rintro e w2 ⟨rfl, hw⟩; have hw' := hw.symm; clear hw C; subst hw'
          go_wp2_with fail
          refine (unhide CC).mono ?_; rintro e w2 ⟨rfl, hw⟩; have hw' := hw.symm; clear hw CC; subst hw'
          go_wp2_with fail
          go_roundw
          case rel => exact ⟨k + 1, by omega, by go_num, by rw [unhide HG]; exact unhide hm⟩
          case measure => simp [intOf]; omega
        · have HG := hide (gy ho)
          have CR := hide (ro.rowOf (setOf L) wr (unhide TK) (setOf_lt L) ho)
          have hF : Fine (srt (setOf L) 48) := ⟨ro.srt_half _ 24 ho, cs.srt_ok _ 48 (Nat.le_refl _)⟩
          have HF := hide hF
          rw [ho] at CC
          clear gy gn hF
          generalize srt (setOf L) 48 = c at *
          generalize good (LL.take k) = G at *
          go_wp2_with fail
          refine (unhide C).mono ?_; rintro e w2 ⟨rfl, hw⟩; have hw' := hw.symm; clear hw C; subst hw'
          go_wp2_with fail
          refine (unhide CC).mono ?_; rintro e w2 ⟨rfl, hw⟩; have hw' := hw.symm; clear hw CC; subst hw'
          go_wp2_with fail
          refine (unhide CR).mono ?_; rintro e w2 ⟨rfl, g2⟩
          have M2 := hide ((unhide hm).kept g2)
          clear hm g2 CR TK
          have hr := Go.heap_alloc_new w2 (.cells #[.int .i8 0, .int .i8 0, .int .i8 0, .int .i8 0, .int .i8 0, .int .i8 0, .int .i8 0, .int .i8 0, .int .i8 0, .int .i8 0, .int .i8 0, .int .i8 0, .int .i8 0, .int .i8 0, .int .i8 0, .int .i8 0, .int .i8 0, .int .i8 0, .int .i8 0, .int .i8 0, .int .i8 0, .int .i8 0, .int .i8 0, .int .i8 0] 69)
          have h24 : (cells8 (pad c)).size = 24 := by rw [size8, pad_len (unhide HF).1]
          have hsz := infoRow
          rw [← h24] at hsz
          have hone : (cells8 (pad c)).all (·.oneCell') = true := one8 (pad c)
          have M3 := hide (Mid.row (Z := #[.int .i8 0, .int .i8 0, .int .i8 0, .int .i8 0, .int .i8 0, .int .i8 0, .int .i8 0, .int .i8 0, .int .i8 0, .int .i8 0, .int .i8 0, .int .i8 0, .int .i8 0, .int .i8 0, .int .i8 0, .int .i8 0, .int .i8 0, .int .i8 0, .int .i8 0, .int .i8 0, .int .i8 0, .int .i8 0, .int .i8 0, .int .i8 0]) (C := cells8 (pad c)) (unhide M2))
          have hg3 := setRow_heap (w2.alloc (.cells #[.int .i8 0, .int .i8 0, .int .i8 0, .int .i8 0, .int .i8 0, .int .i8 0, .int .i8 0, .int .i8 0, .int .i8 0, .int .i8 0, .int .i8 0, .int .i8 0, .int .i8 0, .int .i8 0, .int .i8 0, .int .i8 0, .int .i8 0, .int .i8 0, .int .i8 0, .int .i8 0, .int .i8 0, .int .i8 0, .int .i8 0, .int .i8 0] 69)) w2.heap.size _ (cells8 (pad c)) _ _ hr
          have HC := hide (show key c = .agg (cells8 (pad c)) from rfl)
          have hlt2 : w2.heap.size < ((w2.alloc (.cells #[.int .i8 0, .int .i8 0, .int .i8 0, .int .i8 0, .int .i8 0, .int .i8 0, .int .i8 0, .int .i8 0, .int .i8 0, .int .i8 0, .int .i8 0, .int .i8 0, .int .i8 0, .int .i8 0, .int .i8 0, .int .i8 0, .int .i8 0, .int .i8 0, .int .i8 0, .int .i8 0, .int .i8 0, .int .i8 0, .int .i8 0, .int .i8 0] 69)).setRow w2.heap.size (cells8 (pad c))).heap.size := by simp
          have HG3 := hide hg3
          have HLT := hide hlt2
          clear hg3 hlt2
          generalize hCC : cells8 (pad c) = C at *
          go_wp2_with (refine wpList_store_row rfl 69 _ _ rfl w2.heap.size C rfl rfl 69 _ hr hsz ?_ ?_ ?_)
          · rw [h24]
            rfl
          · exact hone
          generalize hW3 : (w2.alloc (.cells #[.int .i8 0, .int .i8 0, .int .i8 0, .int .i8 0, .int .i8 0, .int .i8 0, .int .i8 0, .int .i8 0, .int .i8 0, .int .i8 0, .int .i8 0, .int .i8 0, .int .i8 0, .int .i8 0, .int .i8 0, .int .i8 0, .int .i8 0, .int .i8 0, .int .i8 0, .int .i8 0, .int .i8 0, .int .i8 0, .int .i8 0, .int .i8 0] 69)).setRow w2.heap.size C = w3 at *
          clear hr M2
          obtain ⟨es, clock, hmb, ht⟩ := (unhide M3).map
          obtain ⟨st, es1, clock1, es2, v0, ht2, hE, hS, hK⟩ := ht.more (unhide HF)
          have hmd : w3.drew.heap[B]? = some (.map es clock) := hmb
          have l1 := ht.look (unhide HF) hmd
          have e1 := hE w3.drew B hmd
          have l2 := hK (put w3.drew B (.map es1 clock1)) B (mk.put_heap hmd)
          have s1 := hS (put w3.drew B (.map es1 clock1)) B (mk.put_heap hmd)
          rw [unhide HC] at l1 e1 l2
          have hcn : (G.count c : Nat) ≤ 1048576 := Nat.le_trans (List.count_le_length) (Nat.le_trans gl (by omega))
          obtain ⟨cs, hcs⟩ : ∃ cs, cs = C.toList := ⟨_, rfl⟩
          have hrg : w3.rangeAt w2.heap.size 0 cs := by
            rw [hcs]
            intro j v hv
            rw [Nat.zero_add, cell_of_row _ _ j C _ _ (unhide HG3)]
            simpa using hv
          have hC : cs.toArray = C := by rw [hcs]
          have hu := Tryd.underlying69
          have hi2 : (Tryd.prog.info? 69).map (·.size) = some cs.length := by rw [hcs, Array.length_toList]; exact hsz
          have h24' : cs.length = 24 := by rw [hcs, Array.length_toList]; exact h24
          have hone' : ∀ v ∈ cs, v.oneCell' = true := by
            rw [hcs]
            intro v hv
            rw [Array.all_eq_true_iff_forall_mem] at hone
            exact hone v (by simpa using hv)
          have hX1 : (oneAll G).length ≤ 1048576 := Nat.le_trans (cs_len G) (Nat.le_trans gl (by omega))
          clear hcs hsz hone
          subst hC
          have hne : w2.heap.size ≠ B := fun e => by
            have h1 := unhide HG3
            rw [e, hmb] at h1
            cases h1
          have r1 : (put w3.drew B (.map es1 clock1)).rangeAt w2.heap.size 0 cs := range_put hrg hne
          have r2 : (put (put w3.drew B (.map es1 clock1)) B (.map es2 clock1)).rangeAt w2.heap.size 0 cs := range_put r1 hne
          have M4 := hide (Mid.more (es1 := es1) (unhide M3) hmd ht2)
          have l3 := ht2.look (unhide HF) (mk.put_heap (o := .map es2 clock1) (mk.put_heap (o := .map es1 clock1) hmd))
          rw [unhide HC, mk.count_snoc, if_pos rfl] at l3
          have HN : Hid (G.count c = 0 → c ∉ G) := fun h => List.count_eq_zero.1 h
          have HY : Hid (¬ G.count c = 0 → c ∈ G) := fun h => Classical.byContradiction fun h' => h (List.count_eq_zero.2 h')
          have hgi : goInt st = .int .i64 (st : Int) := rfl
          rw [hgi] at e1 s1
          generalize G.count c = n at *
          have hwr : IntKind.i64.wrap ((n : Int) + 1) = (n : Int) + 1 := IntWalk.i64_in _ ⟨by omega, by omega⟩
          generalize w2.heap.size = b3 at *
          clear hE hS hK HG3 HLT ht ht2 M3
          go_wp2_with fail
          go_region_held3 (fun w' => w'.rangeAt b3 0 cs) (first | go_keep_ranges | assumption) (fail)
          all_goals
            generalize put (put w3.drew B (.map es1 clock1)) B (.map es2 clock1) = w5 at *
            clear l1 e1 l2 s1 r1 hrg
            by_cases hn0 : n = 0
            · have hq : (((n + 1 : Nat) : Int) == 1) = true := by simp [hn0]
              have HX := hide (show oneAll (G ++ [c]) = oneAll G ++ [c] by rw [oneAll_snoc]; exact if_neg (fun h => unhide HN hn0 ((oneAll_mem G).1 h)))
              clear HN hn0
              go_wp2_with (first | (refine wpList_load_mid rfl 69 _ rfl b3 0 rfl cs _ r2 hu rfl hi2 ?_) | (refine B_row h24 rfl _ rfl rfl ?_) | (at_builtin; refine appendW hCC (unhide HF) (unhide M4) hX1 rfl _ _ rfl rfl rfl ?_))
              intro v6 w6 m6
              have M6 := hide m6
              clear m6 M4 l3 r2
              go_wp2_with fail
              go_roundw
              case rel => exact ⟨k + 1, by omega, by go_num, by rw [unhide HG, unhide HX]; exact unhide M6⟩
              case measure => simp [intOf]; omega
            · have hq : (((n + 1 : Nat) : Int) == 1) = false := by simp; omega
              have HX := hide (show oneAll (G ++ [c]) = oneAll G by rw [oneAll_snoc]; exact if_pos ((oneAll_mem G).2 (unhide HY hn0)))
              clear HN HY hn0
              go_wp2_with (refine wpList_load_mid rfl 69 _ rfl b3 0 rfl cs _ r2 hu rfl hi2 ?_)
              go_roundw
              case rel => exact ⟨k + 1, by omega, by go_num, by rw [unhide HG, unhide HX]; exact unhide M4⟩
              case measure => simp [intOf]; omega
    · have hi' : ¬ (k : Int) < (LL.length : Int) := by omega
      have e : LL.take k = LL := List.take_of_length_le (by omega)
      rw [e] at hm
      clear HA e
      go_wp2
      go_ret
      exact ⟨_, rfl, (unhide hm).own, (unhide hm).g⟩
end Go.Proofs.YtibpnocpafppaaaDoor.rws
