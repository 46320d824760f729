/- Eliminate: what it makes of a formula in order; lists whose row is written while others are read; conditions: sizes. -/
import Derived.Test.YtibpnocpafppaaaDoorJXGk
import Derived.Test.YtibpnocpafppaaaDoorJLq
import Derived.Test.YtibpnocpafppaaaDoorJLc
import Derived.Test.YtibpnocpafppaaaDoorJXGh
import Derived.Test.YtibpnocpafppaaaDoorJXRes
import Derived.Test.YtibpnocpafppaaaDoorJXNi
import Derived.Test.YtibpnocpafppaaaDoorJXMs
import Derived.Test.YtibpnocpafppaaaDoorJXGc
import Derived.Deep.RegionHeld3
import Derived.Deep.RegionLaw
namespace Go.Proofs.YtibpnocpafppaaaDoor.el
open Go.ChangeShapes Go.WideShapes Go.ChangeAt Go.RowKit
open sl (Sl Own ints hide unhide ret_int ret_bool grown_refl grown_trans grown_drewN below_of of_below)
open css (Sls OwnS Outs tot own_mono infoSl own_ne own_ne')
open cf (Box)
open ok (cnfB)
open cls (hasB)
open wo (Made)
open res (canB resB resL)
open ge (hvB OwnD)
open cs (cnfS)
open cso (srtN srtR srtB)
open gb (Rd Kpt flt KeptE)
open ni (Lst)
set_option linter.unusedVariables false
def nthB (v : Int) (C : List Int) : Bool := !hasB C v && !hasB C (-v)
def rowE (v : Int) (a : List Int) (Bs : List (List Int)) : List (List Int) := (Bs.filter fun b => resB a b v).map fun b => resL a b v
def pairsE (v : Int) (As Bs : List (List Int)) : List (List Int) := As.flatMap fun a => rowE v a Bs
def elimL (v : Int) (R : List (List Int)) : List (List Int) := R.filter (nthB v) ++ pairsE v R R
theorem res_has {a b : List Int} {v : Int} (h : resB a b v = true) : hasB a v = true ∧ hasB b (-v) = true := by
 unfold res.resB at h
 rw [Bool.and_eq_true] at h
 have := res.can_of h.1
 exact ⟨this.2.2.2.2.1, this.2.2.2.2.2⟩
theorem row_cut (v : Int) (a : List Int) (Bs : List (List Int)) : rowE v a (Bs.filter (hasB · (-v))) = rowE v a Bs := by
 unfold rowE
 rw [List.filter_filter]
 congr 1
 apply List.filter_congr
 intro b _
 cases h : resB a b v
 ·simp
 ·simp [(res_has h).2]
theorem row_nil {v : Int} {a : List Int} {Bs : List (List Int)} (h : hasB a v = false) : rowE v a Bs = [] := by
 unfold rowE
 rw [List.map_eq_nil_iff, List.filter_eq_nil_iff]
 intro b _ hb
 rw [(res_has hb).1] at h
 cases h
theorem pairs_cut (v : Int) (R : List (List Int)) : ∀ As : List (List Int), pairsE v (As.filter (hasB · v)) (R.filter (hasB · (-v))) = pairsE v As R
 | [] => rfl
 | a :: As => by
  have ih := pairs_cut v R As
  unfold pairsE at ih ⊢
  cases h : hasB a v
  ·rw [List.filter_cons_of_neg (by simp [h]), ih, List.flatMap_cons, row_nil h, List.nil_append]
  ·rw [List.filter_cons_of_pos (by simp [h]), List.flatMap_cons, List.flatMap_cons, ih, row_cut]
theorem row_step (v : Int) (a : List Int) (Bs : List (List Int)) (j : Nat) (h : j < Bs.length) : rowE v a (Bs.take (j + 1)) = rowE v a (Bs.take j) ++ (if resB a (Bs.getD j []) v then [resL a (Bs.getD j []) v] else []) := by
 unfold rowE
 rw [List.take_succ_eq_append_getElem h, List.filter_append, List.map_append, show Bs.getD j [] = Bs[j] by simp [h]]
 cases e : resB a Bs[j] v <;> simp [e]
theorem pairs_step (v : Int) (As Bs : List (List Int)) (i : Nat) (h : i < As.length) : pairsE v (As.take (i + 1)) Bs = pairsE v (As.take i) Bs ++ rowE v (As.getD i []) Bs := by
 unfold pairsE
 rw [List.take_succ_eq_append_getElem h, List.flatMap_append, show As.getD i [] = As[i] by simp [h]]
 simp
theorem row_len (v : Int) (a : List Int) (Bs : List (List Int)) : (rowE v a Bs).length ≤ Bs.length := by
 unfold rowE
 rw [List.length_map]
 exact List.length_filter_le _ _
theorem pairs_len (v : Int) (Bs : List (List Int)) : ∀ As : List (List Int), (pairsE v As Bs).length ≤ As.length * Bs.length
 | [] => by simp [pairsE]
 | a :: As => by
  have ih := pairs_len v Bs As
  have := row_len v a Bs
  unfold pairsE at ih ⊢
  rw [List.flatMap_cons, List.length_append, List.length_cons, Nat.add_mul, Nat.one_mul]
  omega
theorem row_in {v : Int} {a : List Int} {Bs : List (List Int)} {C : List Int} (h : C ∈ rowE v a Bs) : C.length ≤ 48 := by
 unfold rowE at h
 rw [List.mem_map] at h
 obtain ⟨b, _, rfl⟩ := h
 exact res.resL_len a b v
theorem pairs_in {v : Int} {As Bs : List (List Int)} {C : List Int} (h : C ∈ pairsE v As Bs) : C.length ≤ 48 := by
 unfold pairsE at h
 rw [List.mem_flatMap] at h
 obtain ⟨a, _, h⟩ := h
 exact row_in h
theorem tot_le {K : Nat} : ∀ {LL : List (List Int)}, (∀ C ∈ LL, C.length ≤ K) → tot LL ≤ LL.length * (K + 1)
 | [], _ => by simp [tot]
 | C :: LL, h => by
  have h1 := h C (by simp)
  have h2 := tot_le (LL := LL) fun C hC => h C (by simp [hC])
  simp only [css.tot, List.map_cons, List.sum_cons, List.length_cons] at h2 ⊢
  rw [Nat.add_mul, Nat.one_mul]
  omega
theorem mid_tot {v : Int} {R As Bs : List (List Int)} {a : List Int} {Cs : List (List Int)} (hR : R.length ≤ 120) (hin : ∀ C ∈ R, C.length ≤ 48) (hA : As.length ≤ 120) (hB : Bs.length ≤ 120) (hC : Cs.length ≤ 120) :
  tot (R.filter (nthB v) ++ pairsE v As Bs ++ rowE v a Cs) ≤ 1048576 := by
 have h0 := List.length_filter_le (nthB v) R
 have h1 := pairs_len v Bs As
 have h2 := row_len v a Cs
 have h3 := Nat.mul_le_mul hA hB
 refine Nat.le_trans (tot_le (K := 48) fun C hC => ?_) ?_
 ·rw [List.mem_append, List.mem_append] at hC
  rcases hC with (hC | hC) | hC
  ·exact hin C (List.mem_filter.1 hC).1
  ·exact pairs_in hC
  ·exact row_in hC
 ·rw [List.length_append, List.length_append]
  omega
theorem sorted_bd {n : Int} {LL : List (List Int)} (h : cnfB n LL = true) : (cnfS LL).length ≤ 120 ∧ ∀ C ∈ cnfS LL, C.length ≤ 48 := by
 refine ⟨Nat.le_trans (cs.cnfS_len LL) (fm.cnf_facts h).2.2.1, fun C hC => ?_⟩
 obtain ⟨c, _, _, rfl⟩ := ms.good_mem.1 (cs.cnfS_mem.1 hC)
 exact srt.srt_len _ _
def elB (n v : Int) (LL : List (List Int)) : Bool := hvB n v LL && srtB n (elimL v (cnfS LL))
def elN (n v : Int) (LL : List (List Int)) : Int := if hvB n v LL then srtN n (elimL v (cnfS LL)) else 0
def elR (n v : Int) (LL : List (List Int)) : List (List Int) := if hvB n v LL then srtR n (elimL v (cnfS LL)) else []
theorem el_tot (n v : Int) (LL : List (List Int)) : tot (elR n v LL) ≤ 1048576 := by
 unfold elR
 split
 ·exact Nat.le_trans (cso.srt_tot _ _) (by decide)
 ·simp [tot]
def ElE (n v : Int) (LL : List (List Int)) (w : World) (e : Ending) (w' : World) : Prop := ∃ u, e = .returned (.tuple #[.agg #[.int .i64 (elN n v LL), u], .bool (elB n v LL)]) ∧ OwnS w.heap.size w'.heap.size w' u (elR n v LL) ∧ w.grownBy w' none
def One (w : World) (c : Nat) (x : Int) : Prop := w.heap[c]? = some (.cells #[.int .i64 x] 3 (0, 0))
theorem One.c0 {w : World} {c : Nat} {x : Int} (h : One w c x) : w.cell? ⟨c, 0, none⟩ = some (.int .i64 x) := by
 unfold One at h
 simp [World.cell?, h]
theorem One.lt {w : World} {c : Nat} {x : Int} (h : One w c x) : c < w.heap.size := (Array.getElem?_eq_some_iff.1 h).1
theorem One.by {w w' : World} {c : Nat} {x : Int} {r : Option Nat} (h : One w c x) (g : w.grownBy w' r) (hr : r ≠ some c) : One w' c x := by
 unfold One
 rw [g.block c h.lt (fun e => hr e.symm)]
 exact h
theorem One.kept {w w' : World} {c : Nat} {x : Int} (h : One w c x) (g : w.grownBy w' none) : One w' c x := h.by g (fun e => by cases e)
theorem One.new (w : World) (x : Int) : One (w.alloc (.cells #[.int .i64 x] 3)) w.heap.size x := by
 show (w.heap.push _)[w.heap.size]? = _
 simp
def LstD (lo : Nat) (w : World) (v : Value) (D : List (Value × List Int)) : Prop := w.ownsRow lo 31 1 v D.length (D.map (·.1)) ∧ ∀ p ∈ D, w.ownsRow 0 3 1 p.1 p.2.length (ints p.2)
theorem LstD.lst {lo : Nat} {w : World} {v : Value} {D : List (Value × List Int)} (h : LstD lo w v D) : Lst lo w v (D.map (·.2)) := ⟨D, rfl, h.1, h.2⟩
theorem LstD.by {lo lo' n : Nat} {w w' : World} {v u : Value} {xs : List Value} {D : List (Value × List Int)} (h : LstD lo w v D) (hu : w.ownsRow lo' 31 1 u n xs) (hne : v.ownBlock = none ∨ v.ownBlock ≠ u.ownBlock) (g : w.grownBy w' u.ownBlock) : LstD lo w' v D :=
 ⟨h.1.kept g hne, fun p hp => (h.2 p hp).kept g (own_ne' hu (h.2 p hp))⟩
theorem LstD.kept {lo : Nat} {w w' : World} {v : Value} {D : List (Value × List Int)} (h : LstD lo w v D) (g : w.grownBy w' none) : LstD lo w' v D :=
 ⟨ni.row_kept h.1 g, fun p hp => ni.row_kept (h.2 p hp) g⟩
theorem LstD.at {lo : Nat} {w : World} {v : Value} {D : List (Value × List Int)} (h : LstD lo w v D) (i : Nat) (hi : i < D.length) : ∃ b cap x k, v = .slice (some ⟨b, 0, none⟩) D.length cap ∧ D[i].1 = .slice x D[i].2.length k ∧ w.cell? ⟨b, i, none⟩ = some (.slice x D[i].2.length k) ∧ Sl w (.slice x D[i].2.length k) D[i].2 ∧ w.ownsRow 0 3 1 (.slice x D[i].2.length k) D[i].2.length (ints D[i].2) := by
 obtain ⟨ho, hin⟩ := h
 have ho' := ho
 obtain ⟨_, h2⟩ := ho
 rcases h2 with ⟨rfl, h0⟩ | ⟨g, cap, cur, rfl, hg, hh, hn, hm, hs, ht⟩
 ·omega
 ·have hp := hin _ (List.getElem_mem hi)
  have hsl := Sl.of_own hp
  obtain ⟨x, k, e, _⟩ := hsl
  refine ⟨g, cap, x, k, rfl, e, ?_, ?_, ?_⟩
  ·rw [ho'.cellAt i (by omega)]
   simp [hi, e]
  ·rw [← e]; exact Sl.of_own hp
  ·rw [← e]; exact hp
theorem appendLp {ops : Array Oper} {rest : List Oper} {o : Oper} {a : Act} {Q : Exit → Act → World → Prop} {lo : Nat} {wr : World} {v u : Value} {M : List (List Int)} {L : List Int}
  (h : Lst lo wr v M) (hu : wr.ownsRow 0 3 1 u L.length (ints L)) (hlo : lo ≤ wr.heap.size) (hM : M.length ≤ 1048576) (hgd : o.guard = none) (s x : Operand)
  (ho : o.op = .call { callee := .builtin .append, args := #[s, x], argTypes := #[24, 24] }) (hs : a.eval s = v) (hx : a.eval x = .slice (some ⟨wr.heap.size, 0, none⟩) 1 1)
  (hK : ∀ g cap w1, Lst lo w1 (.slice (some ⟨g, 0, none⟩) (M.length + 1) cap) (M ++ [L]) → (wr.alloc (.cells #[u] 31)).grownBy w1 v.ownBlock → (v.ownBlock = some g ∨ wr.heap.size ≤ g) → wpList Tryd.prog ops Q rest (a.put o.dst (.slice (some ⟨g, 0, none⟩) (M.length + 1) cap)) w1) :
  wpList Tryd.prog ops Q (o :: rest) a (wr.alloc (.cells #[u] 31)) := by
 obtain ⟨i0, hi, hz0, hz1, hz2⟩ := info_parts infoSl
 obtain ⟨D, rfl, hw, hin⟩ := h
 rw [List.length_map] at *
 refine wpList_append_lies _ hgd s x 24 ho lo 31 i0 (.slice none 0 0) 1 24 Tryd.underlying24 hi hz0 hz1 hz2 rfl (by decide) v D.length (D.map (·.1)) hs (hw.alloc _) ⟨wr.heap.size, 0, none⟩ 1 1 [u] hx rfl ?_ ?_ (by decide) ?_ ?_ ?_ (wr.heap.size + 1) (World.size_alloc ..) ?_
 ·intro j y hj
  match j, hj with
  | 0, hj => simp at hj; subst hj; simp [Addr.add]
 ·intro y hy
  simp at hy
  subst hy
  exact gr.own_one (sl.Own.of hu)
 ·unfold maxLen; omega
 ·omega
 ·simp; omega
 ·intro g cap w1 h1 hg hn _
  refine hK g cap w1 ⟨D ++ [(u, L)], by simp, ?_, fun p hp => ?_⟩ hg (by rcases hn with e | e; exact .inl e; exact .inr (by omega))
  ·have e1 : (D ++ [(u, L)]).length = D.length + 1 := by simp
   have e2 : (D ++ [(u, L)]).map (fun p : Value × List Int => p.1) = D.map (fun p : Value × List Int => p.1) ++ [u] := by simp
   rw [e1, e2]
   exact h1
  ·rw [List.mem_append, List.mem_singleton] at hp
   rcases hp with hp | rfl
   ·exact ((hin p hp).alloc _).kept hg (own_ne' hw (hin p hp))
   ·exact (hu.alloc _).kept hg (own_ne' hw hu)
theorem grown_refl' (w : World) (r : Option Nat) : w.grownBy w r := ⟨rfl, rfl, rfl, Nat.le_refl _, fun _ _ _ => rfl⟩
structure Wr (W wr : World) (lo : Nat) (z v : Value) (M : List (List Int)) : Prop where
 g : W.grownBy wr z.ownBlock
 l : Lst lo wr v M
 o : v.ownBlock = z.ownBlock ∨ ∀ k, v.ownBlock = some k → W.heap.size ≤ k
theorem Wr.kept {W wr w1 : World} {lo : Nat} {z v : Value} {M : List (List Int)} (h : Wr W wr lo z v M) (g : wr.grownBy w1 none) : Wr W w1 lo z v M :=
 ⟨⟨g.os.trans h.g.os, g.tape.trans h.g.tape, g.output.trans h.g.output, Nat.le_trans h.g.size g.size, fun k hk hn => (g.block k (Nat.lt_of_lt_of_le hk h.g.size) (fun e => by cases e)).trans (h.g.block k hk hn)⟩, h.l.kept g, h.o⟩
theorem Wr.more {W wr w1 w2 : World} {lo g cap : Nat} {z v u : Value} {M M' : List (List Int)} (h : Wr W wr lo z v M) (g1 : wr.grownBy w1 none) (h2 : Lst lo w2 (.slice (some ⟨g, 0, none⟩) (M.length + 1) cap) M') (g2 : (w1.alloc (.cells #[u] 31)).grownBy w2 v.ownBlock) (hn : v.ownBlock = some g ∨ w1.heap.size ≤ g) : Wr W w2 lo z (.slice (some ⟨g, 0, none⟩) (M.length + 1) cap) M' := by
 have hA := (h.kept g1).kept (World.grownBy_alloc w1 (.cells #[u] 31) none)
 have hs := (h.kept g1).g.size
 refine ⟨⟨g2.os.trans hA.g.os, g2.tape.trans hA.g.tape, g2.output.trans hA.g.output, Nat.le_trans hA.g.size g2.size, fun k hk hne => ?_⟩, h2, ?_⟩
 ·rw [g2.block k (Nat.lt_of_lt_of_le hk hA.g.size) ?_]
  ·exact hA.g.block k hk hne
  ·rcases h.o with e | e
   ·rw [e]; exact hne
   ·intro e'
    have := e k e'.symm
    omega
 ·rcases hn with e | e
  ·rcases h.o with e2 | e2
   ·exact .inl (by rw [← e2, e]; rfl)
   ·exact .inr (fun k hk => by
     have : some k = some g := hk.symm
     cases this
     exact e2 _ e)
  ·exact .inr (fun k hk => by
    have : some k = some g := hk.symm
    cases this
    omega)
theorem Wr.up {w W wr : World} {lo : Nat} {z v : Value} {M : List (List Int)} (h : Wr W wr lo z v M) (g : w.grownBy W none) (hz : ∀ k, z.ownBlock = some k → w.heap.size ≤ k) : w.grownBy wr none :=
 ⟨h.g.os.trans g.os, h.g.tape.trans g.tape, h.g.output.trans g.output, Nat.le_trans g.size h.g.size, fun k hk _ => (h.g.block k (Nat.lt_of_lt_of_le hk g.size) (fun e => by have := hz k e.symm; omega)).trans (g.block k hk (fun e => by cases e))⟩
end Go.Proofs.YtibpnocpafppaaaDoor.el
namespace Go.Proofs.YtibpnocpafppaaaDoor.el
open Go.ChangeShapes Go.WideShapes Go.ChangeAt Go.RowKit
open sl (Sl Own ints hide unhide ret_int ret_bool grown_refl grown_trans grown_drewN below_of of_below)
open css (Sls OwnS Outs tot own_mono infoSl own_ne own_ne')
open cf (Box)
open ok (cnfB)
open cls (hasB)
open wo (Made)
open res (canB resB resL)
open ge (hvB OwnD)
open cs (cnfS)
open srt (Tab)
open cso (srtN srtR srtB)
open gb (Rd Kpt flt KeptE)
open ni (Lst)
set_option linter.unusedVariables false
theorem neither1 (v : Value) (L : List Int) (x : Int) (c : Nat) (w : World) (h0 : 1 ≤ x) (h1 : x ≤ 24) (hL : L.length ≤ 1048576) (hv : Sl w v L) (hc : w.cell? ⟨c, 0, none⟩ = some (.int .i64 x)) :
  Calls Tryd.prog 72 #[v, .pointer (some ⟨c, 0, none⟩)] w fun e w' => e = .returned (.bool (nthB x L)) ∧ w' = w := by
 have C := hide (cls.implClauseHas v L x w hL hv)
 have C2 := hide (cls.implClauseHas v L (-x) w hL hv)
 obtain ⟨a, cap, rfl, _⟩ := hv
 cases hx : hasB L x
 ·have E := hide (show nthB x L = !hasB L (-x) by unfold nthB; rw [hx]; rfl)
  rw [hx] at C
  clear hx
  go_enter Tryd.func72, Tryd.ntmps72
  go_wp2_with fail
  refine (unhide C).mono ?_; rintro e w2 ⟨rfl, hw⟩; have hw' := hw.symm; clear hw; subst hw'
  go_wp2_with fail
  refine (unhide C2).mono ?_; rintro e w2 ⟨rfl, hw⟩; have hw' := hw.symm; clear hw; subst hw'
  go_wp2_with fail
  go_ret
  exact ⟨ret_bool (unhide E).symm, rfl⟩
 ·have E := hide (show nthB x L = false by unfold nthB; rw [hx]; rfl)
  rw [hx] at C
  clear hx
  go_enter Tryd.func72, Tryd.ntmps72
  go_wp2_with fail
  refine (unhide C).mono ?_; rintro e w2 ⟨rfl, hw⟩; have hw' := hw.symm; clear hw; subst hw'
  go_wp2_with fail
  go_ret
  exact ⟨ret_bool (unhide E).symm, rfl⟩
theorem flt_el {lo hi : Nat} {w w' : World} {v u : Value} {D : List (Value × List Int)} {B : List Int → Bool} (ho : OwnD lo hi w v D) (h : Kpt w w' u (flt B D)) : LstD w.heap.size w' u (flt B D) := by
 refine ⟨h.1, fun p hp => ?_⟩
 unfold gb.flt at hp
 exact ni.row_kept (own_mono (ho.2.2.1 p (List.mem_filter.1 hp).1).1 (Nat.zero_le _)) h.2
theorem keptN (v : Value) (D : List (Value × List Int)) (lo hi c : Nat) (x : Int) (w : World) (h0 : 1 ≤ x) (h1 : x ≤ 24) (hn : tot (D.map (·.2)) ≤ 1048576) (ho : OwnD lo hi w v D) (hc : w.cell? ⟨c, 0, none⟩ = some (.int .i64 x)) :
  Calls Tryd.prog 51 #[v, .func (.func 72) #[] #[.pointer (some ⟨c, 0, none⟩)]] w fun e w' => ∃ u, e = .returned u ∧ LstD w.heap.size w' u (flt (nthB x) D) ∧ w.grownBy w' none := by
 have hl := Nat.le_trans (css.tot_len _) hn
 rw [List.length_map] at hl
 refine (gb.kept_neither v _ D (nthB x) w hl (gj.rd_own ho) ?_).mono ?_
 ·intro p hp w1 g1
  exact (neither1 p.1 p.2 x c w1 h0 h1 (gj.len_in hn hp) ((ho.2.2.1 p hp).sl.kept g1 (.inl rfl)) (g1.cell hc (fun e => by cases e))).mono (fun e w' h => ⟨h.1, by rw [h.2]; exact grown_refl _⟩)
 ·rintro e w' ⟨u, rfl, hk⟩
  exact ⟨u, rfl, flt_el ho hk, hk.2⟩
theorem keptH (v : Value) (D : List (Value × List Int)) (lo hi c : Nat) (x : Int) (w : World) (hn : tot (D.map (·.2)) ≤ 1048576) (ho : OwnD lo hi w v D) (hc : w.cell? ⟨c, 0, none⟩ = some (.int .i64 x)) :
  Calls Tryd.prog 51 #[v, .func (.func 125) #[] #[.pointer (some ⟨c, 0, none⟩)]] w fun e w' => ∃ u, e = .returned u ∧ LstD w.heap.size w' u (flt (hasB · x) D) ∧ w.grownBy w' none := by
 have hl := Nat.le_trans (css.tot_len _) hn
 rw [List.length_map] at hl
 refine (gb.kept_having v _ D (hasB · x) w hl (gj.rd_own ho) ?_).mono ?_
 ·intro p hp w1 g1
  exact (gc.having1 p.1 p.2 x c w1 (gj.len_in hn hp) ((ho.2.2.1 p hp).sl.kept g1 (.inl rfl)) (g1.cell hc (fun e => by cases e))).mono (fun e w' h => ⟨h.1, by rw [h.2]; exact grown_refl _⟩)
 ·rintro e w' ⟨u, rfl, hk⟩
  exact ⟨u, rfl, flt_el ho hk, hk.2⟩
theorem ownD_kept {lo hi : Nat} {w w1 : World} {v : Value} {D : List (Value × List Int)} (h : OwnD lo hi w v D) (g : w.grownBy w1 none) : OwnD lo hi w1 v D := by
 obtain ⟨h1, h2, h3, h4⟩ := h
 exact ⟨ni.row_kept h1 g, h2, fun p hp => ⟨ni.row_kept (h3 p hp).1 g, (h3 p hp).2⟩, h4⟩
theorem LstD.len {lo : Nat} {w : World} {v : Value} {D : List (Value × List Int)} (h : LstD lo w v D) : ∃ a cap, v = .slice a D.length cap := by
 obtain ⟨a, cap, e⟩ := h.lst.len
 rw [List.length_map] at e
 exact ⟨a, cap, e⟩
theorem flt_map2 (B : List Int → Bool) {D : List (Value × List Int)} {R : List (List Int)} (h : D.map (·.2) = R) : (flt B D).map (·.2) = R.filter B := by rw [gb.flt_map, h]
theorem ini3 (w : World) (n x : Int) (y : Value) : w.grownBy (((w.alloc (.cells #[.int .i64 n, y] 26)).alloc (.cells #[.int .i64 x] 3)).alloc (.cells #[.int .i64 0, .slice none 0 0] 26)) none
  ∧ Box 26 (((w.alloc (.cells #[.int .i64 n, y] 26)).alloc (.cells #[.int .i64 x] 3)).alloc (.cells #[.int .i64 0, .slice none 0 0] 26)) w.heap.size (.int .i64 n) y
  ∧ One (((w.alloc (.cells #[.int .i64 n, y] 26)).alloc (.cells #[.int .i64 x] 3)).alloc (.cells #[.int .i64 0, .slice none 0 0] 26)) (w.heap.size + 1) x
  ∧ Box 26 (((w.alloc (.cells #[.int .i64 n, y] 26)).alloc (.cells #[.int .i64 x] 3)).alloc (.cells #[.int .i64 0, .slice none 0 0] 26)) (w.heap.size + 1 + 1) (.int .i64 0) (.slice none 0 0) := by
 have g1 := World.grownBy_alloc w (.cells #[.int .i64 n, y] 26) none
 have g2 := World.grownBy_alloc (w.alloc (.cells #[.int .i64 n, y] 26)) (.cells #[.int .i64 x] 3) none
 have g3 := World.grownBy_alloc ((w.alloc (.cells #[.int .i64 n, y] 26)).alloc (.cells #[.int .i64 x] 3)) (.cells #[.int .i64 0, .slice none 0 0] 26) none
 have o := One.new (w.alloc (.cells #[.int .i64 n, y] 26)) x
 have b := Box.new 26 ((w.alloc (.cells #[.int .i64 n, y] 26)).alloc (.cells #[.int .i64 x] 3)) (.int .i64 0) (.slice none 0 0)
 rw [World.size_alloc] at o
 rw [World.size_alloc, World.size_alloc] at b
 exact ⟨grown_trans (grown_trans g1 g2) g3, ((Box.new _ _ _ _).kept g2).kept g3, o.kept g3, b⟩
set_option maxRecDepth 10000 in
set_option maxHeartbeats 16000000 in
theorem implEliminate (v : Value) (n x : Int) (LL : List (List Int)) (w : World) (hT : Tab w) (hn : tot LL ≤ 1048576) (hv : Sls w v LL) :
  Calls Tryd.prog 22 #[.agg #[.int .i64 n, v], .int .i64 x] w fun e w' => ElE n x LL w e w' := by
 have hv0 := hv
 obtain ⟨a, cap, rfl, _⟩ := hv
 obtain ⟨g0, b0, o0, r0⟩ := ini3 w n x (.slice a LL.length cap)
 obtain ⟨W3, hW3⟩ : ∃ W3, W3 = ((w.alloc (.cells #[.int .i64 n, .slice a LL.length cap] 26)).alloc (.cells #[.int .i64 x] 3)).alloc (.cells #[.int .i64 0, .slice none 0 0] 26) := ⟨_, rfl⟩
 rw [← hW3] at g0 b0 o0 r0
 have HV := hide (ge.hasVariable _ n x LL W3 hn (hv0.kept g0))
 have CN := hide (fun (w4 : World) (g : W3.grownBy w4 none) => cso.implCnfSort _ n LL w4 ((hT.kept g0).kept g) hn ((hv0.kept g0).kept g))
 have G0 := hide g0
 have B0 := hide b0
 have O0 := hide o0
 have R0 := hide r0
 have HT := hide hT
 have x0 := b0.c0
 have x1 := b0.c1
 have x2 := o0.c0
 have HW3 := hide hW3
 clear hv0 g0 b0 o0 r0 hT hW3
 go_enter Tryd.func22, Tryd.ntmps22
 go_wp2_with fail
 rw [← unhide HW3]
 go_wp2_with fail
 refine (unhide HV).mono ?_; rintro e w4 ⟨rfl, g4⟩
 clear x0 x1 x2
 have b4 := (unhide B0).kept g4
 have x0 := b4.c0
 have x1 := b4.c1
 have r4 := (unhide R0).kept g4
 have y0 := r4.c0
 have y1 := r4.c1
 have y2 := r4.f 0
 have y3 := r4.f 1
 have o4 := (unhide O0).kept g4
 have G4 := hide (grown_trans (r := none) (unhide G0) g4)
 have CS := hide (unhide CN w4 g4)
 have R4 := hide r4
 have O4 := hide o4
 clear HV CN b4 r4 o4 g4
 cases hb : hvB n x LL
 ·have E := hide hb
  clear CS hb
  go_wp2_with fail
  (try simp only [Exit.inBlock, Exit.then])
  refine bodyPost_ret (cf.ret_box2 rfl rfl (((unhide R4).set0 _).set1 _)) rfl ?_
  refine ⟨.slice none 0 0, ?_, ?_, cf.grown_set (cf.grown_set (unhide G4) (by omega)) (by omega)⟩
  ·unfold elN elB
   rw [unhide E]
   rfl
  ·unfold elR
   rw [unhide E]
   exact fx.ownS_nil _ _ _
 ·obtain ⟨hcb, h1, hxn, hn24⟩ := ge.hv_yes hb
  have h24 : x ≤ 24 := by omega
  obtain ⟨s1, s2, s3⟩ := cso.srt_yes hcb
  rw [s1, s2, s3] at CS
  obtain ⟨hR120, hin48⟩ := sorted_bd hcb
  have ht : tot (cnfS LL) ≤ 1048576 := by
   have := cso.srt_tot n LL
   rw [s2] at this
   exact Nat.le_trans this (by decide)
  have E := hide hb
  have HIN := hide hin48
  clear s1 s2 s3 hcb hb hin48
  go_wp2_with fail
  refine (unhide CS).mono ?_; rintro e w5 ⟨q, rfl, o5, g5⟩
  obtain ⟨qa, qc, rfl⟩ := o5.len
  have EL := hide (show ElE n x LL w = fun e w' => ∃ u, e = .returned (.tuple #[.agg #[.int .i64 (srtN n (elimL x (cnfS LL))), u], .bool (srtB n (elimL x (cnfS LL)))]) ∧ OwnS w.heap.size w'.heap.size w' u (srtR n (elimL x (cnfS LL))) ∧ w.grownBy w' none by
   unfold ElE elN elB elR
   rw [unhide E]
   simp)
  generalize hR : cnfS LL = R at *
  clear hR E
  have gA := World.grownBy_alloc w5 (.cells #[.int .i64 n, .slice qa R.length qc] 26) none
  have bg := Box.new 26 w5 (.int .i64 n) (.slice qa R.length qc)
  obtain ⟨D, hD, oD⟩ := OwnD.of (o5.kept gA)
  obtain ⟨W6, hW6⟩ : ∃ W6, W6 = w5.alloc (.cells #[.int .i64 n, .slice qa R.length qc] 26) := ⟨_, rfl⟩
  obtain ⟨gb6, hgb⟩ : ∃ c, c = w5.heap.size := ⟨_, rfl⟩
  rw [← hW6] at gA bg oD
  rw [← hgb] at bg
  have g45 := grown_trans (r := none) g5 gA
  have G6 := hide (grown_trans (r := none) (unhide G4) g45)
  have O6 := hide ((unhide O4).kept g45)
  have R6 := hide ((unhide R4).kept g45)
  have BG := hide bg
  have OD := hide oD
  have HDR := hide hD
  have HW6 := hide hW6
  have HGB := hide hgb
  clear x0 x1 y0 y1 y2 y3 o5 g5 gA g45 bg oD CS B0 O0 R0 O4 R4
  go_wp2_with fail
  rw [← unhide HW6, ← unhide HGB]
  clear hW6 hgb
  have x1 := (unhide BG).c1
  have x2 := (unhide O6).c0
  have KN := hide (keptN (.slice qa R.length qc) D _ _ (w.heap.size + 1) x W6 h1 h24 (by rw [hD]; exact ht) (unhide OD) x2)
  clear hD
  go_wp2_with fail
  refine (unhide KN).mono ?_; rintro e w7 ⟨u8, rfl, l7, g7⟩
  obtain ⟨ua8, uc8, rfl⟩ := l7.len
  have bg7 := (unhide BG).kept g7
  have o7 := (unhide O6).kept g7
  have OD7 := hide (ownD_kept (unhide OD) g7)
  have L7 := hide l7
  have G7 := hide (grown_trans (r := none) (unhide G6) g7)
  have R7 := hide ((unhide R6).kept g7)
  have O7 := hide o7
  have BG7 := hide bg7
  have S7 := hide g7.size
  clear x1 x2
  have x1 := bg7.c1
  have x2 := o7.c0
  have WR : Hid (IntKind.i64.wrap (-x) = -x) := by
   show _ = _
   simp [IntKind.wrap, IntKind.signed, IntKind.bits]
   omega
  have HK := hide (fun (w2 : World) (c : Nat) (y : Int) (g : w7.grownBy w2 none) (hc : w2.cell? ⟨c, 0, none⟩ = some (.int .i64 y)) => keptH (.slice qa R.length qc) D _ _ c y w2 (by rw [unhide HDR]; exact ht) (ownD_kept (unhide OD7) g) hc)
  clear KN BG OD R6 bg7 o7 g7 l7
  go_wp2_with fail
  go_region_held3 (fun w' => w'.cell? ⟨gb6, 1, none⟩ = some (.slice qa R.length qc) ∧ w'.cell? ⟨w.heap.size + 1, 0, none⟩ = some (.int .i64 x)) (go_keep) (first
   | (go_at_call 51; refine (unhide HK w8 _ _ (unhide GW) (unhide HC)).mono ?_; rintro e w9 ⟨u9, rfl, l9, g9⟩; have G9 := hide (grown_trans (r := none) (unhide GW) g9); have L9 := hide l9; have S8 := hide (unhide GW).size; have S9 := hide g9.size; have z1 := ((unhide BG7).kept (unhide G9)).c1; have z2 := ((unhide O7).kept (unhide G9)).c0; clear g9 l9)
   | (go_at_call 73; refine (gc.having _ _).mono ?_; rintro e w8 ⟨rfl, hw⟩; have GW : Hid (w7.grownBy w8 none) := (by rw [hw]; exact grown_trans (r := none) (cf.grown_drew w7 none) (World.grownBy_alloc _ _ _)); have HC : Hid (w8.cell? ⟨w7.heap.size, 0, none⟩ = some (.int .i64 (-x))) := (by have c := gc.cell_new w7.drew (.int .i64 (IntKind.i64.wrap (-x))) 3; rw [hw]; rw [unhide WR] at c ⊢; exact c); have y1 := ((unhide BG7).kept (unhide GW)).c1; have y2 := ((unhide O7).kept (unhide GW)).c0; clear hw))
  obtain ⟨ua9, uc9, rfl⟩ := (unhide L9).len
  have BG9 := hide ((unhide BG7).kept (unhide G9))
  have O9 := hide ((unhide O7).kept (unhide G9))
  have OD9 := hide (ownD_kept (unhide OD7) (unhide G9))
  have HK2 := hide (fun (w2 : World) (c : Nat) (y : Int) (g : w9.grownBy w2 none) (hc : w2.cell? ⟨c, 0, none⟩ = some (.int .i64 y)) => keptH (.slice qa R.length qc) D _ _ c y w2 (by rw [unhide HDR]; exact ht) (ownD_kept (unhide OD9) g) hc)
  clear HK BG7 O7 OD7 WR GW HC x1 x2 y1 y2 z1 z2
  have x1 := (unhide BG9).c1
  have x2 := (unhide O9).c0
  go_wp2_with fail
  go_region_held3 (fun w' => w'.cell? ⟨gb6, 1, none⟩ = some (.slice qa R.length qc) ∧ w'.cell? ⟨w.heap.size + 1, 0, none⟩ = some (.int .i64 x)) (go_keep) (first
   | (go_at_call 73; refine (gc.having _ _).mono ?_; rintro e w10 ⟨rfl, hw⟩; have GW : Hid (w9.grownBy w10 none) := (by rw [hw]; exact grown_trans (r := none) (cf.grown_drew w9 none) (World.grownBy_alloc _ _ _)); have HC : Hid (w10.cell? ⟨w9.heap.size, 0, none⟩ = some (.int .i64 x)) := (by have c := gc.cell_new w9.drew (.int .i64 x) 3; rw [hw]; exact c); have y1 := ((unhide BG9).kept (unhide GW)).c1; have y2 := ((unhide O9).kept (unhide GW)).c0; clear hw)
   | (go_at_call 51; refine (unhide HK2 w10 _ _ (unhide GW) (unhide HC)).mono ?_; rintro e w11 ⟨u10, rfl, l11, g11⟩; obtain ⟨ua10, uc10, rfl⟩ := l11.len; have G11 := hide (grown_trans (r := none) (unhide GW) g11); have L11 := hide l11; have S10 := hide (unhide GW).size; have z1 := ((unhide BG9).kept (unhide G11)).c1; have z2 := ((unhide O9).kept (unhide G11)).c0; clear g11 l11))
  have g79 := grown_trans (r := none) (unhide G9) (unhide G11)
  have LA := hide ((unhide L7).kept g79)
  have LB := hide ((unhide L9).kept (unhide G11))
  have BGW := hide ((unhide BG9).kept (unhide G11))
  have OW := hide ((unhide O9).kept (unhide G11))
  have LC := hide (unhide L11)
  have RW := hide ((unhide R7).kept g79)
  have GWW := hide (grown_trans (r := none) (unhide G7) g79)
  have TW := hide ((unhide HT).kept (unhide GWW))
  have lz := (unhide L7).1.lt
  have NZ : Hid (∀ k, (Value.slice ua8 (flt (nthB x) D).length uc8).ownBlock = some k → w.heap.size + 1 < k ∧ k < w7.heap.size) := fun k hk => by
   have h1 := lz k hk
   have h2 := (unhide O6).lt
   omega
  have lB := (unhide L9).1.lt
  have lC := (unhide L11).1.lt
  have NB : Hid ((Value.slice ua9 (flt (hasB · (-x)) D).length uc9).ownBlock = none ∨ (Value.slice ua9 (flt (hasB · (-x)) D).length uc9).ownBlock ≠ (Value.slice ua8 (flt (nthB x) D).length uc8).ownBlock) := by
   cases e : (Value.slice ua9 (flt (hasB · (-x)) D).length uc9).ownBlock with
   | none => exact .inl rfl
   | some k =>
    refine .inr fun e2 => ?_
    have h1 := lB k e
    have h2 := lz k e2.symm
    have h3 := unhide S8
    omega
  have NC : Hid ((Value.slice ua10 (flt (hasB · x) D).length uc10).ownBlock = none ∨ (Value.slice ua10 (flt (hasB · x) D).length uc10).ownBlock ≠ (Value.slice ua8 (flt (nthB x) D).length uc8).ownBlock) := by
   cases e : (Value.slice ua10 (flt (hasB · x) D).length uc10).ownBlock with
   | none => exact .inl rfl
   | some k =>
    refine .inr fun e2 => ?_
    have h1 := lC k e
    have h2 := lz k e2.symm
    have h3 := unhide S8
    have h4 := unhide S9
    have h5 := unhide S10
    omega
  have mA := flt_map2 (nthB x) (unhide HDR)
  have mB := flt_map2 (hasB · (-x)) (unhide HDR)
  have mC := flt_map2 (hasB · x) (unhide HDR)
  have pc := pairs_cut x R R
  have MT := hide (fun (As Bs Cs : List (List Int)) (aa : List Int) h1 h2 h3 => mid_tot (v := x) (a := aa) (As := As) (Bs := Bs) (Cs := Cs) hR120 (unhide HIN) h1 h2 h3)
  have eL : elimL x R = R.filter (nthB x) ++ pairsE x (R.filter (hasB · x)) (R.filter (hasB · (-x))) := by rw [pc]; rfl
  have cB : (R.filter (hasB · (-x))).length ≤ 120 := Nat.le_trans (List.length_filter_le _ _) hR120
  have cC : (R.filter (hasB · x)).length ≤ 120 := Nat.le_trans (List.length_filter_le _ _) hR120
  have iB : ∀ C ∈ R.filter (hasB · (-x)), C.length ≤ 48 := fun C hC => unhide HIN C (List.mem_filter.1 hC).1
  have iC : ∀ C ∈ R.filter (hasB · x), C.length ≤ 48 := fun C hC => unhide HIN C (List.mem_filter.1 hC).1
  have LAL := (unhide LA).lst
  rw [mA] at LAL
  generalize hAA : R.filter (nthB x) = AA at *
  generalize hBB : R.filter (hasB · (-x)) = BB at *
  generalize hCC : R.filter (hasB · x) = CC at *
  generalize flt (nthB x) D = DA at *
  generalize flt (hasB · (-x)) D = DB at *
  generalize flt (hasB · x) D = DC at *
  have lDB : DB.length = BB.length := by rw [← mB, List.length_map]
  have lDC : DC.length = CC.length := by rw [← mC, List.length_map]
  have atB : Hid (∀ i (h : i < DB.length), BB.getD i [] = DB[i].2) := fun i h => by rw [← mB]; exact css.map2_getD h
  have atC : Hid (∀ i (h : i < DC.length), CC.getD i [] = DC[i].2) := fun i h => by rw [← mC]; exact css.map2_getD h
  have ST : Hid (Wr w11 w11 W6.heap.size (.slice ua8 DA.length uc8) (.slice ua8 DA.length uc8) (AA ++ pairsE x (CC.take 0) BB)) := by
   refine ⟨grown_refl' _ _, ?_, .inl rfl⟩
   rw [List.take_zero]
   show Lst _ _ _ (AA ++ [])
   rw [List.append_nil]
   exact LAL
  have HEL := hide eL
  have LBD := hide lDB
  have LCD := hide lDC
  have IB := hide iB
  have IC := hide iC
  have SW6 := hide (show w.heap.size ≤ W6.heap.size from (unhide G6).size)
  have SW11 := hide (show W6.heap.size ≤ w11.heap.size from Nat.le_trans (unhide S7) g79.size)
  clear eL lDB lDC iB iC LAL mA mB mC pc lz lB lC g79 hAA hBB hCC L7 L9 L11 G7 G9 G11 G6 O6 O9 BG9 R7 OD9 HK2 GW HC x1 x2 y1 y2 z1 z2 HIN HDR
  have dB : DB.length ≤ 120 := by rw [unhide LBD]; exact cB
  have dC : DC.length ≤ 120 := by rw [unhide LCD]; exact cC
  go_wp2_with fail
  go_loopw [8, 42] (fun v i wr => ∃ k : Nat, k ≤ DC.length ∧ i = .int .i64 k ∧ Hid (Wr w11 wr W6.heap.size (.slice ua8 DA.length uc8) v (AA ++ pairsE x (CC.take k) BB))) (fun _ i _ => DC.length - (intOf i).toNat)
  case atStart => exact ⟨0, Nat.zero_le _, rfl, ST⟩
  case round =>
   obtain ⟨k, hk, rfl, hm⟩ := hrel
   clear ST
   obtain ⟨va, vc, rfl⟩ := (unhide hm).l.len
   by_cases hlt : k < DC.length
   ·have hi' : (k : Int) < (DC.length : Int) := by omega
    obtain ⟨b, cap', xa, xc, e, e2, c1, hs, ho⟩ := ((unhide LC).by (unhide LA).1 (unhide NC) (unhide hm).g).at k hlt
    simp only [Value.slice.injEq] at e
    obtain ⟨rfl, _, rfl⟩ := e
    have ca := unhide atC k hlt
    have HCA := hide ca
    have La := unhide IC
    have hLa : DC[k].2.length ≤ 1048576 := by
     have h1 := La DC[k].2 (by rw [← ca, show CC.getD k [] = CC[k]'(by rw [← unhide LCD]; exact hlt) by simp [show k < CC.length by rw [← unhide LCD]; exact hlt]]; exact List.getElem_mem _)
     omega
    have ps := pairs_step x CC BB k (by rw [← unhide LCD]; exact hlt)
    rw [ca] at ps
    generalize hLk : DC[k].2 = Lk at *
    have PS := hide ps
    have HLK := hide hLk
    have ST2 : Hid (Wr w11 wr W6.heap.size (.slice ua8 DA.length uc8) (.slice va (AA ++ pairsE x (CC.take k) BB).length vc) ((AA ++ pairsE x (CC.take k) BB) ++ rowE x Lk (BB.take 0))) := by
     rw [List.take_zero]
     show Wr _ _ _ _ _ ((AA ++ pairsE x (CC.take k) BB) ++ [])
     rw [List.append_nil]
     exact unhide hm
    have RA := hide (fun (wx : World) (v : Value) (M : List (List Int)) (h : Wr w11 wx W6.heap.size (.slice ua8 DA.length uc8) v M) => ((unhide LC).by (unhide LA).1 (unhide NC) h.g).2 DC[k] (List.getElem_mem hlt))
    rw [e2, hLk] at RA
    clear hs ho hm ca La ps hLk
    obtain ⟨MM, hMM⟩ : ∃ MM, MM = AA ++ pairsE x (CC.take k) BB := ⟨_, rfl⟩
    rw [← hMM] at ST2
    have HMM := hide hMM
    have MT2 := hide (fun (m : Nat) => unhide MT (CC.take k) BB (BB.take m) Lk (by rw [List.length_take]; omega) cB (by rw [List.length_take]; omega))
    go_wp2_with fail
    rw [← hMM]
    clear hMM
    generalize hml : MM.length = ml at *
    have HML := hide hml
    clear hml
    go_loopw [8, 48] (fun v i wx => ∃ m : Nat, m ≤ DB.length ∧ i = .int .i64 m ∧ Hid (Wr w11 wx W6.heap.size (.slice ua8 DA.length uc8) v (MM ++ rowE x Lk (BB.take m)))) (fun _ i _ => DB.length - (intOf i).toNat)
    case atStart => exact ⟨0, Nat.zero_le _, rfl, ST2⟩
    case round =>
     obtain ⟨m, hm', rfl, hm⟩ := hrel
     clear ST2
     obtain ⟨va2, vc2, rfl⟩ := (unhide hm).l.len
     by_cases hlt2 : m < DB.length
     ·have hi2 : (m : Int) < (DB.length : Int) := by omega
      obtain ⟨b2, cap2, xb, xbc, e, e3, c2, hsb, hob⟩ := ((unhide LB).by (unhide LA).1 (unhide NB) (unhide hm).g).at m hlt2
      simp only [Value.slice.injEq] at e
      obtain ⟨rfl, _, rfl⟩ := e
      have cb := unhide atB m hlt2
      have hLb : DB[m].2.length ≤ 1048576 := by
       have h1 := unhide IB DB[m].2 (by rw [← cb, show BB.getD m [] = BB[m]'(by rw [← unhide LBD]; exact hlt2) by simp [show m < BB.length by rw [← unhide LBD]; exact hlt2]]; exact List.getElem_mem _)
       omega
      have rs := row_step x Lk BB m (by rw [← unhide LBD]; exact hlt2)
      rw [cb] at rs
      have ra := unhide RA _ _ _ (unhide hm)
      have tb : Tab wr := fun j hj => (unhide hm).g.cell (unhide TW j hj) (fun e => by
       have h1 := World.block_lt_of_cell? w _ (unhide HT j hj)
       have h2 := unhide NZ _ e.symm
       have h3 : w.heap.size + 1 < 0 := h2.1
       have h4 : 0 < w.heap.size := h1
       omega)
      have ox := ((unhide OW).by (unhide hm).g (fun e => by have := unhide NZ _ e; omega)).c0
      have RC := hide (res.implResolve _ _ Lk DB[m].2 x wr tb hLa hLb (Sl.of_own ra) hsb)
      have hl : (MM ++ rowE x Lk (BB.take m)).length ≤ 1048576 := by
       rw [unhide HMM]
       exact Nat.le_trans (css.tot_len _) (unhide MT2 m)
      generalize hLm : DB[m].2 = Lm at *
      have HLM := hide hLm
      have WX := hide (unhide hm)
      have RS := hide rs
      obtain ⟨P2, hP2⟩ : ∃ P2, P2 = MM ++ rowE x Lk (BB.take (m + 1)) := ⟨_, rfl⟩
      have HP2 := hide hP2
      cases hrb : resB Lk Lm x
      ·rw [hrb] at rs RC
       have en : P2 = MM ++ rowE x Lk (BB.take m) := by
        rw [hP2, rs]
        simp
       have EN := hide en
       generalize MM ++ rowE x Lk (BB.take m) = P1 at *
       clear hob hm cb rs tb ra hLm hP2 en hrb hsb RS
       go_wp2_with fail
       refine (unhide RC).mono ?_; rintro e w12 ⟨uc, rfl, mc⟩
       obtain ⟨ca, cc, rfl, _⟩ := (Own.of mc.1).sl
       have R : Hid (Wr w11 w12 W6.heap.size (.slice ua8 DA.length uc8) (.slice va2 P1.length vc2) P2) := by
        rw [unhide EN]
        exact (unhide WX).kept mc.2
       clear mc RC
       go_wp2_with fail
       go_roundw
       case rel => exact ⟨m + 1, by omega, by go_num, by rw [← unhide HP2]; exact R⟩
       case measure => simp [intOf]; omega
      ·rw [hrb] at rs RC
       have en : P2 = (MM ++ rowE x Lk (BB.take m)) ++ [resL Lk Lm x] := by
        rw [hP2, rs, List.append_assoc]
        simp
       have EN := hide en
       generalize MM ++ rowE x Lk (BB.take m) = P1 at *
       clear hob hm cb rs tb ra hLm hP2 en hrb hsb RS
       go_wp2_with fail
       refine (unhide RC).mono ?_; rintro e w12 ⟨uc, rfl, mc⟩
       obtain ⟨ca, cc, rfl, _⟩ := (Own.of mc.1).sl
       have MC := hide mc
       have LK := hide ((unhide WX).kept mc.2).l
       have sz : W6.heap.size ≤ w12.heap.size := Nat.le_trans (unhide SW11) ((unhide WX).kept mc.2).g.size
       have SZ := hide sz
       clear mc sz RC
       go_wp2_with (at_builtin; refine appendLp (unhide LK) (own_mono (unhide MC).1 (Nat.zero_le _)) (unhide SZ) hl rfl _ _ rfl rfl rfl ?_)
       intro g3 cap3 w13 l3 g3' n3
       have R : Hid (Wr w11 w13 W6.heap.size (.slice ua8 DA.length uc8) (.slice (some ⟨g3, 0, none⟩) (P1.length + 1) cap3) P2) := by
        rw [unhide EN]
        exact (unhide WX).more (unhide MC).2 l3 g3' n3
       clear l3 g3' n3 LK SZ MC
       go_wp2_with fail
       go_roundw
       case rel => exact ⟨m + 1, by omega, by go_num, by rw [← unhide HP2]; exact R⟩
       case measure => simp [intOf]; omega
     ·have hi2 : ¬ (m : Int) < (DB.length : Int) := by omega
      have e : BB.take m = BB := List.take_of_length_le (by rw [← unhide LBD]; omega)
      have eq : AA ++ pairsE x (CC.take (k + 1)) BB = MM ++ rowE x Lk (BB.take m) := by
       rw [unhide PS, ← List.append_assoc, ← unhide HMM, e]
      have R : Hid (Wr w11 wr W6.heap.size (.slice ua8 DA.length uc8) (.slice va2 (MM ++ rowE x Lk (BB.take m)).length vc2) (AA ++ pairsE x (CC.take (k + 1)) BB)) := by
       rw [eq]
       exact unhide hm
      clear hm e eq
      generalize (MM ++ rowE x Lk (BB.take m)).length = l2 at *
      go_wp2_with fail
      go_roundw
      case rel => exact ⟨k + 1, by omega, by go_num, R⟩
      case measure => simp [intOf]; omega
   ·have hi' : ¬ (k : Int) < (DC.length : Int) := by omega
    have e : CC.take k = CC := List.take_of_length_le (by rw [← unhide LCD]; omega)
    have MTE := unhide MT CC BB [] [] cC cB (by simp)
    have e9 : AA ++ pairsE x CC BB ++ rowE x [] [] = elimL x R := by
     rw [unhide HEL]
     show _ ++ [] = _
     rw [List.append_nil]
    rw [e9] at MTE
    have e8 : AA ++ pairsE x (CC.take k) BB = elimL x R := by rw [e, unhide HEL]
    clear e e9
    generalize AA ++ pairsE x (CC.take k) BB = PP at *
    rw [← e8] at MTE EL
    have h := unhide hm
    have tb : Tab wr := fun j hj => h.g.cell (unhide TW j hj) (fun e => by
     have h1 := World.block_lt_of_cell? w _ (unhide HT j hj)
     have h2 := unhide NZ _ e.symm
     have h3 : w.heap.size + 1 < 0 := h2.1
     have h4 : 0 < w.heap.size := h1
     omega)
    have CS2 := hide (cso.implCnfSort _ n PP wr tb MTE h.l.sls)
    have bg := (unhide BGW).by h.g (gr.box_ne (unhide LA).1 gr.ty1 (unhide BGW))
    have rr := (unhide RW).by h.g (gr.box_ne (unhide LA).1 gr.ty1 (unhide RW))
    have GG := hide (h.up (unhide GWW) (fun k hk => by have := unhide NZ k hk; omega))
    have x0 := bg.c0
    have RR := hide rr
    clear h tb bg rr e8
    go_wp2_with fail
    refine (unhide CS2).mono ?_; rintro e w14 ⟨u, rfl, o14, g14⟩
    obtain ⟨ra, rc, rfl⟩ := o14.len
    have r14 := (unhide RR).kept g14
    have z0 := r14.c0
    have z1 := r14.c1
    have zf0 := r14.f 0
    have zf1 := r14.f 1
    have R14 := hide r14
    have O14 := hide (o14.sub (unhide GG).size (Nat.le_refl _))
    have G14 := hide (grown_trans (r := none) (unhide GG) g14)
    clear r14 o14 g14 CS2 x0
    go_wp2_with fail
    (try simp only [Exit.inBlock, Exit.then])
    refine bodyPost_ret (cf.ret_box2 rfl rfl (((unhide R14).set0 _).set1 _)) rfl ?_
    rw [unhide EL]
    refine ⟨_, rfl, ?_, cf.grown_set (cf.grown_set (unhide G14) (by omega)) (by omega)⟩
    rw [cf.size_set, cf.size_set]
    exact gr.ownS_set (gr.ownS_set (unhide O14) (unhide R14)) ((unhide R14).set0 _)
end Go.Proofs.YtibpnocpafppaaaDoor.el
namespace Go.Proofs.YtibpnocpafppaaaDoor.el
open Go.ChangeShapes Go.WideShapes Go.ChangeAt Go.RowKit
open sl (Sl Own ints hide unhide ret_int ret_bool grown_refl grown_trans grown_drewN below_of of_below)
open css (Sls OwnS Outs tot own_mono infoSl own_ne own_ne')
open cf (Box)
open ok (cnfB)
open cls (hasB)
open wo (Made)
open res (canB resB resL)
open ge (hvB OwnD ini_all)
open cs (cnfS)
open srt (Tab)
open cso (srtN srtR srtB)
open ni (Lst MidL)
set_option linter.unusedVariables false
theorem lst_nil (lo : Nat) (w : World) : Lst lo w (.slice none 0 0) [] := ⟨[], rfl, World.ownsRow_nil .., fun p hp => by cases hp⟩
theorem midL_new (w : World) (n : Int) : MidL w (w.alloc (.cells #[.int .i64 n, .slice none 0 0] 26)) w.heap.size n [] :=
 ⟨Nat.le_refl _, World.grownBy_alloc _ _ _, none, 0, Box.new _ _ _ _, lst_nil _ _⟩
theorem flt_step (B : List Int → Bool) (R : List (List Int)) (k : Nat) (h : k < R.length) : (R.take (k + 1)).filter B = (R.take k).filter B ++ (if B (R.getD k []) then [R.getD k []] else []) := by
 rw [List.take_succ_eq_append_getElem h, List.filter_append, show R.getD k [] = R[k] by simp [h]]
 cases e : B R[k] <;> simp [e]
theorem in_b {x a b : Int} {r : Bool} (h : decide (a ≤ x ∧ x ≤ b) = r) (w : World) : Calls Tryd.prog 75 #[.int .i64 x, .int .i64 a, .int .i64 b] w fun e w' => e = .returned (.bool r) ∧ w' = w := by
 subst h
 exact ok.l01In x a b w
set_option maxRecDepth 10000 in
set_option maxHeartbeats 16000000 in
theorem specEliminate (v : Value) (n x : Int) (LL : List (List Int)) (w : World) (hn : tot LL ≤ 1048576) (hv : Sls w v LL) :
  Calls Tryd.prog 23 #[.agg #[.int .i64 n, v], .int .i64 x] w fun e w' => ElE n x LL w e w' := by
 have hv0 := hv
 obtain ⟨a, cap, rfl, _⟩ := hv
 obtain ⟨g0, b0, b1⟩ := ini_all w (.int .i64 n) (.slice a LL.length cap)
 have C := hide (cso.specCnfSort _ n LL _ hn (hv0.kept g0))
 have G0 := hide g0
 have B1 := hide b1
 clear hv0 g0 b0 b1
 go_enter Tryd.func23, Tryd.ntmps23
 go_wp2_with fail
 refine (unhide C).mono ?_; rintro e w1 ⟨q, rfl, o1, g1⟩
 obtain ⟨qa, qc, rfl⟩ := o1.len
 have G1 := hide (grown_trans (r := none) (unhide G0) g1)
 have bx1 := (unhide B1).kept g1
 have gs := (unhide G0).size
 cases hb : hvB n x LL
 ·have E := hide hb
  generalize hN : srtN n LL = N at *
  generalize hR : srtR n LL = R at *
  have gA := World.grownBy_alloc w1 (.cells #[.int .i64 N, .slice qa R.length qc] 26) none
  have X1 := hide (bx1.kept gA)
  have GA := hide (grown_trans (r := none) (unhide G1) gA)
  have bg := Box.new 26 w1 (.int .i64 N) (.slice qa R.length qc)
  have z0 := bg.c0
  have y0 := (bx1.kept gA).c0
  have y1 := (bx1.kept gA).c1
  have y2 := (bx1.kept gA).f 0
  have y3 := (bx1.kept gA).f 1
  have FIN : Hid (ElE n x LL w (.returned (.tuple #[.agg #[.int .i64 0, .slice none 0 0], .bool false])) (((w1.alloc (.cells #[.int .i64 N, .slice qa R.length qc] 26)).setCell ⟨w.heap.size + 1, 0, none⟩ (.int .i64 0)).setCell ⟨w.heap.size + 1, 1, none⟩ (.slice none 0 0))) := by
   refine ⟨.slice none 0 0, ?_, ?_, cf.grown_set (cf.grown_set (unhide GA) (by omega)) (by omega)⟩
   ·unfold elN elB
    rw [unhide E]
    rfl
   ·unfold elR
    rw [unhide E]
    exact fx.ownS_nil _ _ _
  have BF := hide (((unhide X1).set0 (.int .i64 0)).set1 (.slice none 0 0))
  cases hc : cnfB n LL
  ·obtain ⟨s1, s2, s3⟩ := cso.srt_no hc
   rw [s3]
   clear hb C g1 bx1 B1 G0 o1 s1 s2 s3 hN hR gA G1 gs hc bg E
   go_wp2_with fail
   (try simp only [Exit.inBlock, Exit.then])
   exact bodyPost_ret (cf.ret_box2 rfl rfl (unhide BF)) rfl (unhide FIN)
  ·obtain ⟨s1, s2, s3⟩ := cso.srt_yes hc
   rw [s3]
   have hx : decide (1 ≤ x ∧ x ≤ N) = false := by
    unfold ge.hvB at hb
    rw [hc, Bool.true_and] at hb
    rw [← hN, s1]
    exact hb
   have IN := hide (in_b hx)
   clear hb C g1 bx1 B1 G0 o1 s1 s2 s3 hN hR gA G1 gs hc bg E hx
   go_wp2_with fail
   refine (unhide IN _).mono ?_; rintro e w' ⟨rfl, hw⟩; have hw' := hw.symm; clear hw; subst hw'
   go_wp2_with fail
   (try simp only [Exit.inBlock, Exit.then])
   exact bodyPost_ret (cf.ret_box2 rfl rfl (unhide BF)) rfl (unhide FIN)
 ·obtain ⟨hcb, h1, hxn, hn24⟩ := ge.hv_yes hb
  have h24 : x ≤ 24 := by omega
  obtain ⟨s1, s2, s3⟩ := cso.srt_yes hcb
  rw [s1, s2, s3]
  rw [s2] at o1
  obtain ⟨hR120, hin48⟩ := sorted_bd hcb
  have E := hide hb
  have HIN := hide hin48
  have EL := hide (show ElE n x LL w = fun e w' => ∃ u, e = .returned (.tuple #[.agg #[.int .i64 (srtN n (elimL x (cnfS LL))), u], .bool (srtB n (elimL x (cnfS LL)))]) ∧ OwnS w.heap.size w'.heap.size w' u (srtR n (elimL x (cnfS LL))) ∧ w.grownBy w' none by
   unfold ElE elN elB elR
   rw [unhide E]
   simp)
  generalize hR : cnfS LL = R at *
  have IN := hide (in_b (decide_eq_true (And.intro h1 hxn)))
  have gA := World.grownBy_alloc w1 (.cells #[.int .i64 n, .slice qa R.length qc] 26) none
  have bg := Box.new 26 w1 (.int .i64 n) (.slice qa R.length qc)
  obtain ⟨D, hD, oD⟩ := OwnD.of (o1.kept gA)
  obtain ⟨W, hW⟩ : ∃ W, W = w1.alloc (.cells #[.int .i64 n, .slice qa R.length qc] 26) := ⟨_, rfl⟩
  obtain ⟨gb6, hgb⟩ : ∃ c, c = w1.heap.size := ⟨_, rfl⟩
  rw [← hW] at gA bg oD
  rw [← hgb] at bg
  have GW := hide (grown_trans (r := none) (unhide G1) gA)
  have RW := hide (bx1.kept gA)
  have BG := hide bg
  have LD : Hid (LstD 0 W (.slice qa R.length qc) D) := ⟨own_mono oD.1 (Nat.zero_le _), fun p hp => own_mono (oD.2.2.1 p hp).1 (Nat.zero_le _)⟩
  have DR : Hid (∀ i (h : i < D.length), R.getD i [] = D[i].2) := fun i h => by rw [← hD]; exact css.map2_getD h
  have LDR := hide (show D.length = R.length by rw [← hD, List.length_map])
  have dR : D.length ≤ 120 := by rw [unhide LDR]; exact hR120
  have MT := hide (fun (As Bs Cs : List (List Int)) (aa : List Int) h1 h2 h3 => mid_tot (v := x) (a := aa) (As := As) (Bs := Bs) (Cs := Cs) hR120 (unhide HIN) h1 h2 h3)
  have SW := hide (unhide GW).size
  have x0 := bg.c0
  have x1 := bg.c1
  have HW := hide hW
  have HGB := hide hgb
  have ST : Hid (MidL W (W.alloc (.cells #[.int .i64 n, .slice none 0 0] 26)) W.heap.size n ((R.take 0).filter (nthB x))) := by
   rw [List.take_zero]
   exact midL_new W n
  clear s1 s2 s3 hcb hb hin48 hR E C g1 bx1 B1 G0 o1 gA bg oD gs hD
  go_wp2_with fail
  rw [← hW, ← hgb]
  clear hW hgb
  refine (unhide IN _).mono ?_; rintro e w' ⟨rfl, hw⟩; have hw' := hw.symm; clear hw; subst hw'
  clear IN
  go_wp2_with fail
  clear x0 x1
  go_loopw [9] (fun i wr => ∃ k : Nat, k ≤ R.length ∧ i = .int .i64 k ∧ Hid (MidL W wr W.heap.size n ((R.take k).filter (nthB x)))) (fun i _ => R.length - (intOf i).toNat)
  case atStart => exact ⟨0, Nat.zero_le _, rfl, ST⟩
  case round =>
   obtain ⟨k, hk, rfl, hm⟩ := hrel
   clear ST
   have hg := (unhide hm).2.1
   have bgk := (unhide BG).kept hg
   have x0 := bgk.c0
   have x1 := bgk.c1
   by_cases hlt : k < R.length
   ·have hi' : (k : Int) < (R.length : Int) := by omega
    have hltD : k < D.length := by rw [unhide LDR]; exact hlt
    obtain ⟨b, cap', xa, xc, e, e2, c1, hs, ho⟩ := ((unhide LD).kept hg).at k hltD
    rw [unhide LDR] at e
    simp only [Value.slice.injEq] at e
    obtain ⟨rfl, _, rfl⟩ := e
    have ca := unhide DR k hltD
    have hLa : D[k].2.length ≤ 1048576 := by
     have h1 := unhide HIN (R.getD k []) (by rw [show R.getD k [] = R[k] by simp [hlt]]; exact List.getElem_mem _)
     rw [ca] at h1
     omega
    have fs := flt_step (nthB x) R k hlt
    rw [ca] at fs
    have hM : ((R.take k).filter (nthB x)).length ≤ 1048576 := by
     have := List.length_filter_le (nthB x) (R.take k)
     rw [List.length_take] at this
     omega
    generalize hLk : D[k].2 = Lk at *
    obtain ⟨P2, hP2⟩ : ∃ P2, P2 = (R.take (k + 1)).filter (nthB x) := ⟨_, rfl⟩
    rw [← hP2] at fs
    have HP2 := hide hP2
    generalize (R.take k).filter (nthB x) = P1 at *
    have CH := hide (cls.specClauseHas _ Lk x wr hLa hs)
    have CH2 := hide (cls.specClauseHas _ Lk (-x) wr hLa hs)
    have HO := hide ho
    cases hx : hasB Lk x
    ·cases hy : hasB Lk (-x)
     ·have en : P2 = P1 ++ [Lk] := by
       rw [fs]
       unfold nthB
       rw [hx, hy]
       rfl
      have EN := hide en
      rw [hx] at CH
      rw [hy] at CH2
      obtain ⟨q0, q1, oa, oc, q2, q3⟩ := unhide hm
      have o1 := q2.c1
      have of1 := q2.f 1
      have gB := World.grownBy_alloc wr (.cells #[.slice xa Lk.length xc] 31) none
      have o2 := (q2.kept gB).c1
      have x2 := (bgk.kept gB).c1
      have Q1 := hide q1
      have Q2 := hide q2
      have Q3 := hide q3
      clear q0 q1 q2 q3 hm hP2 fs en hx hy hs ho hg bgk hLk e2 ca gB
      go_wp2_with fail
      refine (unhide CH).mono ?_; rintro e w' ⟨rfl, hw⟩; have hw' := hw.symm; clear hw; subst hw'
      go_wp2_with fail
      refine (unhide CH2).mono ?_; rintro e w' ⟨rfl, hw⟩; have hw' := hw.symm; clear hw; subst hw'
      clear CH CH2
      go_wp2_with fail
      go_region_law
       (first
        | (refine ni.stepLd (L := Lk) (unhide Q3) (unhide HO) (unhide Q1).size hM (by rfl) _ _ (by rfl) (by rfl) (by rfl) ?_; intro g3 cap3 w3 h3 g3'; have R3 := hide (ni.MidL.step (Nat.le_refl _) (unhide Q1) (unhide Q2) (unhide Q3) (grown_refl wr) h3 g3'); have k3 := (unhide R3).1.1; have k4 := (unhide R3).1.2; clear h3 g3'))
      all_goals
       go_wp2_with fail
       go_roundw
       case rel => exact ⟨k + 1, by omega, by go_num, by rw [← unhide HP2, unhide EN]; exact (unhide R3).2⟩
       case measure => simp [intOf]; omega
     ·have en : P2 = P1 := by
       rw [fs]
       unfold nthB
       rw [hx, hy]
       simp
      have EN := hide en
      rw [hx] at CH
      rw [hy] at CH2
      clear hP2 fs en hx hy hs ho hg bgk hLk e2 ca
      go_wp2_with fail
      refine (unhide CH).mono ?_; rintro e w' ⟨rfl, hw⟩; have hw' := hw.symm; clear hw; subst hw'
      go_wp2_with fail
      refine (unhide CH2).mono ?_; rintro e w' ⟨rfl, hw⟩; have hw' := hw.symm; clear hw; subst hw'
      go_wp2_with fail
      go_roundw
      case rel => exact ⟨k + 1, by omega, by go_num, by rw [← unhide HP2, unhide EN]; exact hm⟩
      case measure => simp [intOf]; omega
    ·have en : P2 = P1 := by
      rw [fs]
      unfold nthB
      rw [hx]
      simp
     have EN := hide en
     rw [hx] at CH
     clear hP2 fs en hx hs ho hg bgk hLk e2 ca CH2
     go_wp2_with fail
     refine (unhide CH).mono ?_; rintro e w' ⟨rfl, hw⟩; have hw' := hw.symm; clear hw; subst hw'
     go_wp2_with fail
     go_roundw
     case rel => exact ⟨k + 1, by omega, by go_num, by rw [← unhide HP2, unhide EN]; exact hm⟩
     case measure => simp [intOf]; omega
   ·have hi' : ¬ (k : Int) < (R.length : Int) := by omega
    have e : R.take k = R := List.take_of_length_le (by omega)
    rw [e] at hm
    have ST2 : Hid (MidL W wr W.heap.size n (R.filter (nthB x) ++ pairsE x (R.take 0) R)) := by
     rw [List.take_zero]
     show MidL _ _ _ _ (_ ++ [])
     rw [List.append_nil]
     exact unhide hm
    clear hm e hg bgk
    go_wp2_with fail
    clear x0 x1
    go_loopw [10] (fun i wr => ∃ k : Nat, k ≤ R.length ∧ i = .int .i64 k ∧ Hid (MidL W wr W.heap.size n (R.filter (nthB x) ++ pairsE x (R.take k) R))) (fun i _ => R.length - (intOf i).toNat)
    case atStart => exact ⟨0, Nat.zero_le _, rfl, ST2⟩
    case round =>
     obtain ⟨k, hk, rfl, hm⟩ := hrel
     clear ST2
     have hg := (unhide hm).2.1
     have bgk := (unhide BG).kept hg
     have x0 := bgk.c0
     have x1 := bgk.c1
     by_cases hlt : k < R.length
     ·have hi' : (k : Int) < (R.length : Int) := by omega
      have hltD : k < D.length := by rw [unhide LDR]; exact hlt
      have ca := unhide DR k hltD
      have ps := pairs_step x R R k hlt
      rw [ca] at ps
      have hLa : D[k].2.length ≤ 1048576 := by
       have h1 := unhide HIN (R.getD k []) (by rw [show R.getD k [] = R[k] by simp [hlt]]; exact List.getElem_mem _)
       rw [ca] at h1
       omega
      have RA := hide (fun (wx : World) (g : W.grownBy wx none) => ((unhide LD).kept g).at k hltD)
      generalize hLk : D[k].2 = Lk at *
      have PS := hide ps
      have ST3 : Hid (MidL W wr W.heap.size n ((R.filter (nthB x) ++ pairsE x (R.take k) R) ++ rowE x Lk (R.take 0))) := by
       rw [List.take_zero]
       show MidL _ _ _ _ (_ ++ [])
       rw [List.append_nil]
       exact unhide hm
      obtain ⟨MM, hMM⟩ : ∃ MM, MM = R.filter (nthB x) ++ pairsE x (R.take k) R := ⟨_, rfl⟩
      rw [← hMM] at ST3
      have HMM := hide hMM
      have MT2 := hide (fun (m : Nat) => unhide MT (R.take k) R (R.take m) Lk (by rw [List.length_take]; omega) hR120 (by rw [List.length_take]; omega))
      clear hMM hm hg bgk ps ca hLk
      go_wp2_with fail
      clear x0 x1
      go_loopw [11] (fun i wx => ∃ m : Nat, m ≤ R.length ∧ i = .int .i64 m ∧ Hid (MidL W wx W.heap.size n (MM ++ rowE x Lk (R.take m)))) (fun i _ => R.length - (intOf i).toNat)
      case atStart => exact ⟨0, Nat.zero_le _, rfl, ST3⟩
      case round =>
       obtain ⟨m, hm', rfl, hm⟩ := hrel
       clear ST3
       have hg := (unhide hm).2.1
       have bgk := (unhide BG).kept hg
       have x0 := bgk.c0
       have x1 := bgk.c1
       by_cases hlt2 : m < R.length
       ·have hi2 : (m : Int) < (R.length : Int) := by omega
        have hltD2 : m < D.length := by rw [unhide LDR]; exact hlt2
        obtain ⟨b, cap', xa, xc, e, e2, c1, hs, ho⟩ := unhide RA wr hg
        obtain ⟨b', cap2, ya, yc, e', e3, c2, hs2, ho2⟩ := ((unhide LD).kept hg).at m hltD2
        rw [unhide LDR] at e e'
        simp only [Value.slice.injEq] at e
        obtain ⟨rfl, _, rfl⟩ := e
        simp only [Value.slice.injEq, Option.some.injEq, Addr.mk.injEq] at e'
        obtain ⟨⟨rfl, _⟩, _, rfl⟩ := e'
        have cb := unhide DR m hltD2
        have hLb : D[m].2.length ≤ 1048576 := by
         have h1 := unhide HIN (R.getD m []) (by rw [show R.getD m [] = R[m] by simp [hlt2]]; exact List.getElem_mem _)
         rw [cb] at h1
         omega
        have rs := row_step x Lk R m hlt2
        rw [cb] at rs
        have gd := cf.grown_drew wr none
        have RC := hide (res.specResolve _ _ Lk D[m].2 x wr.drew hLa hLb (hs.kept gd (.inl rfl)) (hs2.kept gd (.inl rfl)))
        have hl : (MM ++ rowE x Lk (R.take m)).length ≤ 1048576 := by
         rw [unhide HMM]
         exact Nat.le_trans (css.tot_len _) (unhide MT2 m)
        generalize hLm : D[m].2 = Lm at *
        obtain ⟨P2, hP2⟩ : ∃ P2, P2 = MM ++ rowE x Lk (R.take (m + 1)) := ⟨_, rfl⟩
        have HP2 := hide hP2
        have CK : Hid (∀ w', wr.grownBy w' none → w'.cell? ⟨gb6, 1, none⟩ = some (.slice (some ⟨b, 0, none⟩) R.length qc) ∧ w'.cell? ⟨b, k, none⟩ = some (.slice xa Lk.length xc) ∧ w'.cell? ⟨b, m, none⟩ = some (.slice ya Lm.length yc)) := fun w' g => ⟨g.cell x1 (fun e => by cases e), g.cell c1 (fun e => by cases e), g.cell c2 (fun e => by cases e)⟩
        cases hrb : resB Lk Lm x
        ·rw [hrb] at rs RC
         have en : P2 = MM ++ rowE x Lk (R.take m) := by
          rw [hP2, rs]
          simp
         have EN := hide en
         generalize MM ++ rowE x Lk (R.take m) = P1 at *
         clear ho ho2 hs hs2 e2 e3 cb rs hLm hP2 en hrb hg bgk gd
         go_wp2_with fail
         go_region_held3 (fun w' => w'.cell? ⟨gb6, 1, none⟩ = some (.slice (some ⟨b, 0, none⟩) R.length qc) ∧ w'.cell? ⟨b, k, none⟩ = some (.slice xa Lk.length xc) ∧ w'.cell? ⟨b, m, none⟩ = some (.slice ya Lm.length yc)) (go_keep) (first
          | (go_at_call 77; refine (unhide RC).mono ?_; rintro e w12 ⟨uc, rfl, mc⟩; obtain ⟨ca, cc, rfl, _⟩ := (Own.of mc.1).sl; have GC := hide (grown_trans (r := none) (cf.grown_drew wr none) mc.2); have k1 := (unhide CK w12 (unhide GC)).1; have k2 := (unhide CK w12 (unhide GC)).2.1; have k3 := (unhide CK w12 (unhide GC)).2.2; clear mc))
         have R9 : Hid (MidL W w12 W.heap.size n P2) := by
          rw [unhide EN]
          exact (unhide hm).kept (unhide GC)
         clear RC CK GC hm
         go_wp2_with fail
         go_roundw
         case rel => exact ⟨m + 1, by omega, by go_num, by rw [← unhide HP2]; exact R9⟩
         case measure => simp [intOf]; omega
        ·rw [hrb] at rs RC
         have en : P2 = (MM ++ rowE x Lk (R.take m)) ++ [resL Lk Lm x] := by
          rw [hP2, rs, List.append_assoc]
          simp
         have EN := hide en
         generalize MM ++ rowE x Lk (R.take m) = P1 at *
         clear ho ho2 hs hs2 e2 e3 cb rs hLm hP2 en hrb hg bgk gd
         go_wp2_with fail
         go_region_held3 (fun w' => w'.cell? ⟨gb6, 1, none⟩ = some (.slice (some ⟨b, 0, none⟩) R.length qc) ∧ w'.cell? ⟨b, k, none⟩ = some (.slice xa Lk.length xc) ∧ w'.cell? ⟨b, m, none⟩ = some (.slice ya Lm.length yc)) (go_keep) (first
          | (go_at_call 77; refine (unhide RC).mono ?_; rintro e w12 ⟨uc, rfl, mc⟩; obtain ⟨ca, cc, rfl, _⟩ := (Own.of mc.1).sl; have GC := hide (grown_trans (r := none) (cf.grown_drew wr none) mc.2); have MC := hide mc.1; have k1 := (unhide CK w12 (unhide GC)).1; have k2 := (unhide CK w12 (unhide GC)).2.1; have k3 := (unhide CK w12 (unhide GC)).2.2; clear mc))
         obtain ⟨q0, q1, oa, oc, q2, q3⟩ := (unhide hm).kept (unhide GC)
         have o1 := q2.c1
         have of1 := q2.f 1
         have o2 := (q2.kept (World.grownBy_alloc w12 (.cells #[.slice ca (resL Lk Lm x).length cc] 31) none)).c1
         have Q1 := hide q1
         have Q2 := hide q2
         have Q3 := hide q3
         clear q0 q1 q2 q3 hm RC CK GC k1 k2 k3
         go_wp2_with (at_builtin; refine appendLp (unhide Q3) (own_mono (unhide MC) (Nat.zero_le _)) (unhide Q1).size hl rfl _ _ rfl rfl rfl ?_)
         intro g3 cap3 w13 l3 g3' n3
         have R3 := hide (ni.MidL.step (Nat.le_refl _) (unhide Q1) (unhide Q2) (unhide Q3) (grown_refl w12) l3 g3')
         have k3 := (unhide R3).1.1
         have k4 := (unhide R3).1.2
         clear l3 g3' n3 MC o1 of1 o2
         go_wp2_with fail
         go_roundw
         case rel => exact ⟨m + 1, by omega, by go_num, by rw [← unhide HP2, unhide EN]; exact (unhide R3).2⟩
         case measure => simp [intOf]; omega
       ·have hi2 : ¬ (m : Int) < (R.length : Int) := by omega
        have e : R.take m = R := List.take_of_length_le (by omega)
        rw [e] at hm
        have R9 : Hid (MidL W wr W.heap.size n (R.filter (nthB x) ++ pairsE x (R.take (k + 1)) R)) := by
         rw [unhide PS, ← List.append_assoc, ← unhide HMM]
         exact unhide hm
        clear hm e hg bgk
        go_wp2_with fail
        go_roundw
        case rel => exact ⟨k + 1, by omega, by go_num, R9⟩
        case measure => simp [intOf]; omega
     ·have hi' : ¬ (k : Int) < (R.length : Int) := by omega
      have e : R.take k = R := List.take_of_length_le (by omega)
      have MTE := unhide MT R R [] [] hR120 hR120 (by simp)
      have e9 : R.filter (nthB x) ++ pairsE x R R ++ rowE x [] [] = elimL x R := List.append_nil _
      rw [e9] at MTE
      have e8 : R.filter (nthB x) ++ pairsE x (R.take k) R = elimL x R := by rw [e]; rfl
      clear e e9
      generalize R.filter (nthB x) ++ pairsE x (R.take k) R = PP at *
      rw [← e8] at MTE EL
      obtain ⟨q0, q1, oa, oc, q2, q3⟩ := unhide hm
      have CS2 := hide (cso.specCnfSort _ n PP wr MTE q3.sls)
      have rr := (unhide RW).kept q1
      have GG := hide (grown_trans (r := none) (unhide GW) q1)
      have o0 := q2.c0
      have o1 := q2.c1
      have RR := hide rr
      clear rr e8 q0 q1 q2 q3 hm hg bgk
      go_wp2_with fail
      refine (unhide CS2).mono ?_; rintro e w14 ⟨u, rfl, o14, g14⟩
      obtain ⟨ra, rc, rfl⟩ := o14.len
      have r14 := (unhide RR).kept g14
      have z0 := r14.c0
      have z1 := r14.c1
      have zf0 := r14.f 0
      have zf1 := r14.f 1
      have R14 := hide r14
      have O14 := hide (o14.sub (unhide GG).size (Nat.le_refl _))
      have G14 := hide (grown_trans (r := none) (unhide GG) g14)
      clear r14 o14 g14 CS2 x0 x1 o0 o1
      go_wp2_with fail
      (try simp only [Exit.inBlock, Exit.then])
      refine bodyPost_ret (cf.ret_box2 rfl rfl (((unhide R14).set0 _).set1 _)) rfl ?_
      rw [unhide EL]
      refine ⟨_, rfl, ?_, cf.grown_set (cf.grown_set (unhide G14) (by omega)) (by omega)⟩
      rw [cf.size_set, cf.size_set]
      exact gr.ownS_set (gr.ownS_set (unhide O14) (unhide R14)) ((unhide R14).set0 _)
end Go.Proofs.YtibpnocpafppaaaDoor.el
