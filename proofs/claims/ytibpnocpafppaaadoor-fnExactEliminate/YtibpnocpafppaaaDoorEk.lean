/- Eliminate: what it makes of a formula in order; lists whose row is written while others are read; conditions: sizes. -/
import Derived.Test.YtibpnocpafppaaaDoorGm
import Derived.Test.YtibpnocpafppaaaDoorGh
import Derived.Test.YtibpnocpafppaaaDoorRes
import Derived.Test.YtibpnocpafppaaaDoorNi
import Derived.Test.YtibpnocpafppaaaDoorMs
namespace Go.Proofs.YtibpnocpafppaaaDoor.el
open Go.ChangeShapes Go.WideShapes Go.ChangeAt Go.RowKit
open Go.Proofs.YtibpnocpafppaaaDoor.sl (Sl Own ints marks hide unhide ret_int ret_bool grown_refl grown_trans grown_drewN below_of of_below)
open Go.Proofs.YtibpnocpafppaaaDoor.css (Sls OwnS Outs tot sumLen marksS own_mono infoSl own_ne own_ne')
open Go.Proofs.YtibpnocpafppaaaDoor.cf (Box)
open Go.Proofs.YtibpnocpafppaaaDoor.ok (cnfB)
open Go.Proofs.YtibpnocpafppaaaDoor.cls (hasB)
open Go.Proofs.YtibpnocpafppaaaDoor.wo (Made)
open Go.Proofs.YtibpnocpafppaaaDoor.res (canB resB resL)
open Go.Proofs.YtibpnocpafppaaaDoor.ge (hvB OwnD)
open Go.Proofs.YtibpnocpafppaaaDoor.cs (cnfS)
open Go.Proofs.YtibpnocpafppaaaDoor.cso (srtN srtR srtB)
open Go.Proofs.YtibpnocpafppaaaDoor.gb (Rd Kpt flt KeptE)
open Go.Proofs.YtibpnocpafppaaaDoor.ni (Lst)
set_option linter.unusedVariables false

def nthB (v : Int) (C : List Int) : Bool := !hasB C v && !hasB C (-v)
def rowE (v : Int) (a : List Int) (Bs : List (List Int)) : List (List Int) := (Bs.filter fun b => resB a b v).map fun b => resL a b v
def pairsE (v : Int) (As Bs : List (List Int)) : List (List Int) := As.flatMap fun a => rowE v a Bs
def elimL (v : Int) (R : List (List Int)) : List (List Int) := R.filter (nthB v) ++ pairsE v R R
theorem res_has {a b : List Int} {v : Int} (h : resB a b v = true) : hasB a v = true ∧ hasB b (-v) = true := by
  unfold res.resB at h
  rw [Bool.and_eq_true] at h
  have := res.can_of h.1
  exact ⟨this.2.2.2.2.1, this.2.2.2.2.2⟩
theorem row_cut (v : Int) (a : List Int) (Bs : List (List Int)) : rowE v a (Bs.filter (hasB · (-v))) = rowE v a Bs := by
  unfold rowE
  rw [List.filter_filter]
  congr 1
  apply List.filter_congr
  intro b _
  cases h : resB a b v
  · simp
  · simp [(res_has h).2]
theorem row_nil {v : Int} {a : List Int} {Bs : List (List Int)} (h : hasB a v = false) : rowE v a Bs = [] := by
  unfold rowE
  rw [List.map_eq_nil_iff, List.filter_eq_nil_iff]
  intro b _ hb
  rw [(res_has hb).1] at h
  cases h
theorem pairs_cut (v : Int) (R : List (List Int)) : ∀ As : List (List Int), pairsE v (As.filter (hasB · v)) (R.filter (hasB · (-v))) = pairsE v As R
  | [] => rfl
  | a :: As => by
    have ih := pairs_cut v R As
    unfold pairsE at ih ⊢
    cases h : hasB a v
    · rw [List.filter_cons_of_neg (by simp [h]), ih, List.flatMap_cons, row_nil h, List.nil_append]
    · rw [List.filter_cons_of_pos (by simp [h]), List.flatMap_cons, List.flatMap_cons, ih, row_cut]
theorem row_step (v : Int) (a : List Int) (Bs : List (List Int)) (j : Nat) (h : j < Bs.length) : rowE v a (Bs.take (j + 1)) = rowE v a (Bs.take j) ++ (if resB a (Bs.getD j []) v then [resL a (Bs.getD j []) v] else []) := by
  unfold rowE
  rw [List.take_succ_eq_append_getElem h, List.filter_append, List.map_append, show Bs.getD j [] = Bs[j] by simp [h]]
  cases e : resB a Bs[j] v <;> simp [e]
theorem pairs_step (v : Int) (As Bs : List (List Int)) (i : Nat) (h : i < As.length) : pairsE v (As.take (i + 1)) Bs = pairsE v (As.take i) Bs ++ rowE v (As.getD i []) Bs := by
  unfold pairsE
  rw [List.take_succ_eq_append_getElem h, List.flatMap_append, show As.getD i [] = As[i] by simp [h]]
  simp
theorem row_len (v : Int) (a : List Int) (Bs : List (List Int)) : (rowE v a Bs).length ≤ Bs.length := by
  unfold rowE
  rw [List.length_map]
  exact List.length_filter_le _ _
theorem pairs_len (v : Int) (Bs : List (List Int)) : ∀ As : List (List Int), (pairsE v As Bs).length ≤ As.length * Bs.length
  | [] => by simp [pairsE]
  | a :: As => by
    have ih := pairs_len v Bs As
    have := row_len v a Bs
    unfold pairsE at ih ⊢
    rw [List.flatMap_cons, List.length_append, List.length_cons, Nat.add_mul, Nat.one_mul]
    omega
theorem row_in {v : Int} {a : List Int} {Bs : List (List Int)} {C : List Int} (h : C ∈ rowE v a Bs) : C.length ≤ 48 := by
  unfold rowE at h
  rw [List.mem_map] at h
  obtain ⟨b, _, rfl⟩ := h
  exact res.resL_len a b v
theorem pairs_in {v : Int} {As Bs : List (List Int)} {C : List Int} (h : C ∈ pairsE v As Bs) : C.length ≤ 48 := by
  unfold pairsE at h
  rw [List.mem_flatMap] at h
  obtain ⟨a, _, h⟩ := h
  exact row_in h
theorem tot_le {K : Nat} : ∀ {LL : List (List Int)}, (∀ C ∈ LL, C.length ≤ K) → tot LL ≤ LL.length * (K + 1)
  | [], _ => by simp [tot]
  | C :: LL, h => by
    have h1 := h C (by simp)
    have h2 := tot_le (LL := LL) fun C hC => h C (by simp [hC])
    simp only [css.tot, List.map_cons, List.sum_cons, List.length_cons] at h2 ⊢
    rw [Nat.add_mul, Nat.one_mul]
    omega
/-- all that is made in the middle holds little -/
theorem mid_tot {v : Int} {R As Bs : List (List Int)} {a : List Int} {Cs : List (List Int)} (hR : R.length ≤ 120) (hin : ∀ C ∈ R, C.length ≤ 48) (hA : As.length ≤ 120) (hB : Bs.length ≤ 120) (hC : Cs.length ≤ 120) :
    tot (R.filter (nthB v) ++ pairsE v As Bs ++ rowE v a Cs) ≤ 1048576 := by
  have h0 := List.length_filter_le (nthB v) R
  have h1 := pairs_len v Bs As
  have h2 := row_len v a Cs
  have h3 := Nat.mul_le_mul hA hB
  refine Nat.le_trans (tot_le (K := 48) fun C hC => ?_) ?_
  · rw [List.mem_append, List.mem_append] at hC
    rcases hC with (hC | hC) | hC
    · exact hin C (List.mem_filter.1 hC).1
    · exact pairs_in hC
    · exact row_in hC
  · rw [List.length_append, List.length_append]
    omega
theorem sorted_bd {n : Int} {LL : List (List Int)} (h : cnfB n LL = true) : (cnfS LL).length ≤ 120 ∧ ∀ C ∈ cnfS LL, C.length ≤ 48 := by
  refine ⟨Nat.le_trans (cs.cnfS_len LL) (fm.cnf_facts h).2.2.1, fun C hC => ?_⟩
  obtain ⟨c, _, _, rfl⟩ := ms.good_mem.1 (cs.cnfS_mem.1 hC)
  exact srt.srt_len _ _
/-- what is answered -/
def elB (n v : Int) (LL : List (List Int)) : Bool := hvB n v LL && srtB n (elimL v (cnfS LL))
def elN (n v : Int) (LL : List (List Int)) : Int := if hvB n v LL then srtN n (elimL v (cnfS LL)) else 0
def elR (n v : Int) (LL : List (List Int)) : List (List Int) := if hvB n v LL then srtR n (elimL v (cnfS LL)) else []
theorem el_tot (n v : Int) (LL : List (List Int)) : tot (elR n v LL) ≤ 1048576 := by
  unfold elR
  split
  · exact Nat.le_trans (cso.srt_tot _ _) (by decide)
  · simp [tot]
def ElE (n v : Int) (LL : List (List Int)) (w : World) (e : Ending) (w' : World) : Prop := ∃ u, e = .returned (.tuple #[.agg #[.int .i64 (elN n v LL), u], .bool (elB n v LL)]) ∧ OwnS w.heap.size w'.heap.size w' u (elR n v LL) ∧ w.grownBy w' none

/-- a variable of one number -/
def One (w : World) (c : Nat) (x : Int) : Prop := w.heap[c]? = some (.cells #[.int .i64 x] 3 (0, 0))
theorem One.c0 {w : World} {c : Nat} {x : Int} (h : One w c x) : w.cell? ⟨c, 0, none⟩ = some (.int .i64 x) := by
  unfold One at h
  simp [World.cell?, h]
theorem One.lt {w : World} {c : Nat} {x : Int} (h : One w c x) : c < w.heap.size := (Array.getElem?_eq_some_iff.1 h).1
theorem One.by {w w' : World} {c : Nat} {x : Int} {r : Option Nat} (h : One w c x) (g : w.grownBy w' r) (hr : r ≠ some c) : One w' c x := by
  unfold One
  rw [g.block c h.lt (fun e => hr e.symm)]
  exact h
theorem One.kept {w w' : World} {c : Nat} {x : Int} (h : One w c x) (g : w.grownBy w' none) : One w' c x := h.by g (fun e => by cases e)
theorem One.new (w : World) (x : Int) : One (w.alloc (.cells #[.int .i64 x] 3)) w.heap.size x := by
  show (w.heap.push _)[w.heap.size]? = _
  simp
/-- a row of one's own whose lists are numbers of somebody's own, with its values -/
def LstD (lo : Nat) (w : World) (v : Value) (D : List (Value × List Int)) : Prop := w.ownsRow lo 31 1 v D.length (D.map (·.1)) ∧ ∀ p ∈ D, w.ownsRow 0 3 1 p.1 p.2.length (ints p.2)
theorem LstD.lst {lo : Nat} {w : World} {v : Value} {D : List (Value × List Int)} (h : LstD lo w v D) : Lst lo w v (D.map (·.2)) := ⟨D, rfl, h.1, h.2⟩
/-- .. while another such row is written -/
theorem LstD.by {lo lo' n : Nat} {w w' : World} {v u : Value} {xs : List Value} {D : List (Value × List Int)} (h : LstD lo w v D) (hu : w.ownsRow lo' 31 1 u n xs) (hne : v.ownBlock = none ∨ v.ownBlock ≠ u.ownBlock) (g : w.grownBy w' u.ownBlock) : LstD lo w' v D :=
  ⟨h.1.kept g hne, fun p hp => (h.2 p hp).kept g (own_ne' hu (h.2 p hp))⟩
theorem LstD.kept {lo : Nat} {w w' : World} {v : Value} {D : List (Value × List Int)} (h : LstD lo w v D) (g : w.grownBy w' none) : LstD lo w' v D :=
  ⟨ni.row_kept h.1 g, fun p hp => ni.row_kept (h.2 p hp) g⟩
theorem LstD.at {lo : Nat} {w : World} {v : Value} {D : List (Value × List Int)} (h : LstD lo w v D) (i : Nat) (hi : i < D.length) : ∃ b cap x k, v = .slice (some ⟨b, 0, none⟩) D.length cap ∧ D[i].1 = .slice x D[i].2.length k ∧ w.cell? ⟨b, i, none⟩ = some (.slice x D[i].2.length k) ∧ Sl w (.slice x D[i].2.length k) D[i].2 ∧ w.ownsRow 0 3 1 (.slice x D[i].2.length k) D[i].2.length (ints D[i].2) := by
  obtain ⟨ho, hin⟩ := h
  have ho' := ho
  obtain ⟨_, h2⟩ := ho
  rcases h2 with ⟨rfl, h0⟩ | ⟨g, cap, cur, rfl, hg, hh, hn, hm, hs, ht⟩
  · omega
  · have hp := hin _ (List.getElem_mem hi)
    have hsl := Sl.of_own hp
    obtain ⟨x, k, e, _⟩ := hsl
    refine ⟨g, cap, x, k, rfl, e, ?_, ?_, ?_⟩
    · rw [ho'.cellAt i (by omega)]
      simp [hi, e]
    · rw [← e]; exact Sl.of_own hp
    · rw [← e]; exact hp
/-- 'append(all, c)' in a region that keeps its order -/
theorem appendLp {ops : Array Oper} {rest : List Oper} {o : Oper} {a : Act} {Q : Exit → Act → World → Prop} {lo : Nat} {wr : World} {v u : Value} {M : List (List Int)} {L : List Int}
    (h : Lst lo wr v M) (hu : wr.ownsRow 0 3 1 u L.length (ints L)) (hlo : lo ≤ wr.heap.size) (hM : M.length ≤ 1048576) (hgd : o.guard = none) (s x : Operand)
    (ho : o.op = .call { callee := .builtin .append, args := #[s, x], argTypes := #[24, 24] }) (hs : a.eval s = v) (hx : a.eval x = .slice (some ⟨wr.heap.size, 0, none⟩) 1 1)
    (hK : ∀ g cap w1, Lst lo w1 (.slice (some ⟨g, 0, none⟩) (M.length + 1) cap) (M ++ [L]) → (wr.alloc (.cells #[u] 31)).grownBy w1 v.ownBlock → (v.ownBlock = some g ∨ wr.heap.size ≤ g) → wpList Tryd.prog ops Q rest (a.put o.dst (.slice (some ⟨g, 0, none⟩) (M.length + 1) cap)) w1) :
    wpList Tryd.prog ops Q (o :: rest) a (wr.alloc (.cells #[u] 31)) := by
  obtain ⟨i0, hi, hz0, hz1, hz2⟩ := info_parts infoSl
  obtain ⟨D, rfl, hw, hin⟩ := h
  rw [List.length_map] at *
  refine wpList_append_lies _ hgd s x 24 ho lo 31 i0 (.slice none 0 0) 1 24 Tryd.underlying24 hi hz0 hz1 hz2 rfl (by decide) v D.length (D.map (·.1)) hs (hw.alloc _) ⟨wr.heap.size, 0, none⟩ 1 1 [u] hx rfl ?_ ?_ (by decide) ?_ ?_ ?_ (wr.heap.size + 1) (World.size_alloc ..) ?_
  · intro j y hj
    match j, hj with
    | 0, hj => simp at hj; subst hj; simp [Addr.add]
  · intro y hy
    simp at hy
    subst hy
    exact gr.own_one (sl.Own.of hu)
  · unfold maxLen; omega
  · omega
  · simp; omega
  · intro g cap w1 h1 hg hn _
    refine hK g cap w1 ⟨D ++ [(u, L)], by simp, ?_, fun p hp => ?_⟩ hg (by rcases hn with e | e; exact .inl e; exact .inr (by omega))
    · have e1 : (D ++ [(u, L)]).length = D.length + 1 := by simp
      have e2 : (D ++ [(u, L)]).map (fun p : Value × List Int => p.1) = D.map (fun p : Value × List Int => p.1) ++ [u] := by simp
      rw [e1, e2]
      exact h1
    · rw [List.mem_append, List.mem_singleton] at hp
      rcases hp with hp | rfl
      · exact ((hin p hp).alloc _).kept hg (own_ne' hw (hin p hp))
      · exact (hu.alloc _).kept hg (own_ne' hw hu)
theorem grown_refl' (w : World) (r : Option Nat) : w.grownBy w r := ⟨rfl, rfl, rfl, Nat.le_refl _, fun _ _ _ => rfl⟩
/-- the row that is written while the others are read -/
structure Wr (W wr : World) (lo : Nat) (z v : Value) (M : List (List Int)) : Prop where
  g : W.grownBy wr z.ownBlock
  l : Lst lo wr v M
  o : v.ownBlock = z.ownBlock ∨ ∀ k, v.ownBlock = some k → W.heap.size ≤ k
theorem Wr.kept {W wr w1 : World} {lo : Nat} {z v : Value} {M : List (List Int)} (h : Wr W wr lo z v M) (g : wr.grownBy w1 none) : Wr W w1 lo z v M :=
  ⟨⟨g.os.trans h.g.os, g.tape.trans h.g.tape, g.output.trans h.g.output, Nat.le_trans h.g.size g.size, fun k hk hn => (g.block k (Nat.lt_of_lt_of_le hk h.g.size) (fun e => by cases e)).trans (h.g.block k hk hn)⟩, h.l.kept g, h.o⟩
theorem Wr.more {W wr w1 w2 : World} {lo g cap : Nat} {z v u : Value} {M M' : List (List Int)} (h : Wr W wr lo z v M) (g1 : wr.grownBy w1 none) (h2 : Lst lo w2 (.slice (some ⟨g, 0, none⟩) (M.length + 1) cap) M') (g2 : (w1.alloc (.cells #[u] 31)).grownBy w2 v.ownBlock) (hn : v.ownBlock = some g ∨ w1.heap.size ≤ g) : Wr W w2 lo z (.slice (some ⟨g, 0, none⟩) (M.length + 1) cap) M' := by
  have hA := (h.kept g1).kept (World.grownBy_alloc w1 (.cells #[u] 31) none)
  have hs := (h.kept g1).g.size
  refine ⟨⟨g2.os.trans hA.g.os, g2.tape.trans hA.g.tape, g2.output.trans hA.g.output, Nat.le_trans hA.g.size g2.size, fun k hk hne => ?_⟩, h2, ?_⟩
  · rw [g2.block k (Nat.lt_of_lt_of_le hk hA.g.size) ?_]
    · exact hA.g.block k hk hne
    · rcases h.o with e | e
      · rw [e]; exact hne
      · intro e'
        have := e k e'.symm
        omega
  · rcases hn with e | e
    · rcases h.o with e2 | e2
      · exact .inl (by rw [← e2, e]; rfl)
      · exact .inr (fun k hk => by
          have : some k = some g := hk.symm
          cases this
          exact e2 _ e)
    · exact .inr (fun k hk => by
        have : some k = some g := hk.symm
        cases this
        omega)
theorem Wr.up {w W wr : World} {lo : Nat} {z v : Value} {M : List (List Int)} (h : Wr W wr lo z v M) (g : w.grownBy W none) (hz : ∀ k, z.ownBlock = some k → w.heap.size ≤ k) : w.grownBy wr none :=
  ⟨h.g.os.trans g.os, h.g.tape.trans g.tape, h.g.output.trans g.output, Nat.le_trans g.size h.g.size, fun k hk _ => (h.g.block k (Nat.lt_of_lt_of_le hk g.size) (fun e => by have := hz k e.symm; omega)).trans (g.block k hk (fun e => by cases e))⟩
end Go.Proofs.YtibpnocpafppaaaDoor.el
