/- What closed and open of the program's watcher answer; no condition but that the clause is there and the words are below 2^48. -/
import Derived.Test.YtfhmdpbnnieohaaDoorJXWm
import Derived.Deep.QuietTactic
import Derived.BigQuiet
import Derived.Test.YtfhmdpbnnieohaaDoorJXWw0
import Derived.Deep.RegionHeld3
import Derived.Deep.RegionLaw
import Derived.ArgAppend
namespace Go.Proofs.YtfhmdpbnnieohaaDoor.wm
open Go.ChangeShapes Go.WideShapes Go.ChangeAt Go.RowKit
open sl (Sl Own ints hide unhide ret_int ret_bool grown_refl grown_trans grown_drewN)
open srt (oppN oppN_lt andN andN_eq and_eq)
set_option linter.unusedVariables false
set_option maxRecDepth 100000 in
set_option maxHeartbeats 2000000 in
theorem closed {w : World} {c i : Nat} {s : WS} (h : Wat w c s) (hi : i < s.K.length) (hl : s.K.length ≤ 1048576) (hS : (s.K.getD i zk).1 < 2 ^ 48) (hT : s.tk < 2 ^ 48) :
  Calls Tryd.prog 89 #[.pointer (some ⟨c, 0, none⟩), .int .i64 (i : Int)] w fun e w' => e = .returned (.bool (clsd (s.K.getD i zk).1 s.tk)) ∧ ∃ m, w' = w.drewN m := by
 obtain ⟨g, cap, eV, hg, hc, c0, c1, c2, fz⟩ := h.row hi
 have x0 := h.cell (k := 0) (by decide)
 have x49 := h.cell (k := 49) (by decide)
 rw [at0, eV] at x0
 rw [at49] at x49
 have E := hide (and_eq _ _ hS hT)
 unfold clsd
 generalize (s.K.getD i zk).1 = S at *
 generalize s.tk = T at *
 have hi' : (i : Int) < (s.K.length : Int) := by omega
 generalize s.K.length = n at *
 clear h eV c1 c2 fz hS hT
 go_enter Tryd.func89, Tryd.ntmps89
 go_wp2
 go_quiet (fail)
 go_wp2
 go_ret
 exact ⟨ret_bool (by rw [unhide E]; rw [Bool.eq_iff_iff, bne_iff_ne, bne_iff_ne]; omega), _, rfl⟩
set_option maxRecDepth 100000 in
set_option maxHeartbeats 2000000 in
theorem open_ {w : World} {c i : Nat} {s : WS} (h : Wat w c s) (hi : i < s.K.length) (hl : s.K.length ≤ 1048576) (hS : (s.K.getD i zk).1 < 2 ^ 48) (hT : s.tk < 2 ^ 48) :
  Calls Tryd.prog 90 #[.pointer (some ⟨c, 0, none⟩), .int .i64 (i : Int)] w fun e w' => e = .returned (.int .u64 (opn (s.K.getD i zk).1 s.tk : Nat)) ∧ ∃ m, w' = w.drewN m := by
 obtain ⟨g, cap, eV, hg, hc, c0, c1, c2, fz⟩ := h.row hi
 have x0 := h.cell (k := 0) (by decide)
 have x49 := h.cell (k := 49) (by decide)
 rw [at0, eV] at x0
 rw [at49] at x49
 have E := hide (andN_eq _ _ hS (oppN_lt s.tk))
 have CO := hide (fun w => srt.opposites s.tk w hT)
 unfold opn
 generalize (s.K.getD i zk).1 = S at *
 generalize s.tk = T at *
 generalize oppN T = O at *
 have hi' : (i : Int) < (s.K.length : Int) := by omega
 generalize s.K.length = n at *
 clear h eV c1 c2 fz hS hT
 go_enter Tryd.func90, Tryd.ntmps90
 go_wp2
 go_quiet (first | (go_at_call 72; refine Calls.quiet_of_same (unhide CO _)))
 go_wp2
 go_ret
 exact ⟨ret_int (by rw [unhide E]), _, rfl⟩
end Go.Proofs.YtfhmdpbnnieohaaDoor.wm
namespace Go.Proofs.YtfhmdpbnnieohaaDoor.wm
open Go.ChangeShapes Go.WideShapes Go.ChangeAt Go.RowKit
open wm0 (end0 ret0 stepW listW)
open lits (okB)
open bset (placeN placeN_le placeC)
open sl (Sl Own ints hide unhide ret_int ret_bool grown_refl grown_trans grown_drewN)
set_option linter.unusedVariables false
def Upd (c : Nat) (s s' : WS) (j : Nat) (y : Int) (w w' : World) : Prop :=
 Wat w' c s' ∧ Stp c s s' w w' ∧ s'.V = s.V ∧ s'.K = s.K ∧ s'.tk = s.tk ∧ (s'.em = s.em ∧ s'.ho = s.ho) ∧ s'.A.map (·.2) = (s.A.map (·.2)).set j ((s.A.map (·.2)).getD j [] ++ [y]) ∧ ∀ k, k ≠ j → s'.A.getD k nil_ = s.A.getD k nil_
theorem map_getD (A : List (Value × List Int)) (j : Nat) : (A.map (·.2)).getD j [] = (A.getD j nil_).2 := by
 rw [List.getD, List.getD, List.getElem?_map]
 cases A[j]? <;> rfl
theorem Wat.one {w w0 w1 : World} {c j g cap : Nat} {s : WS} {y : Int} (h : Wat w c s) (hj : j < 50) (g0 : w.grownBy w0 none)
  (hown : w1.ownsRow 0 3 1 (.slice (some ⟨g, 0, none⟩) ((s.A.getD j nil_).2.length + 1) cap) ((s.A.getD j nil_).2.length + 1) (ints (s.A.getD j nil_).2 ++ [.int .i64 y])) (hg : w0.grownBy w1 (s.A.getD j nil_).1.ownBlock)
  (hl : (s.A.getD j nil_).1.ownBlock = some g ∨ w.heap.size ≤ g) :
  ∃ s', Upd c s s' j y w (w1.setCell ⟨c, pos j, none⟩ (.slice (some ⟨g, 0, none⟩) ((s.A.getD j nil_).2.length + 1) cap)) := by
 have k := h.list (M := (s.A.getD j nil_).2 ++ [y]) hj g0 (by
  rw [List.length_append, app.ints_append]
  exact hown) hg hl
 refine ⟨_, k.1, k.2, rfl, rfl, rfl, ⟨rfl, rfl⟩, ?_, fun q hq => ?_⟩
 ·show (s.A.set j _).map _ = _
  rw [List.map_set, map_getD]
 ·show (s.A.set j _).getD q nil_ = _
  rw [List.getD, List.getElem?_set_ne (fun e => hq e.symm)]
  rfl
set_option maxRecDepth 100000 in
set_option maxHeartbeats 8000000 in
theorem watch {w : World} {c : Nat} {s : WS} {i x : Int} (h : Wat w c s) (hx : okB x = true) (hM : (s.A.getD (1 + placeN x) nil_).2.length ≤ 4194304) :
  Calls Tryd.prog 68 #[.pointer (some ⟨c, 0, none⟩), .int .i64 i, .int .i8 x] w fun e w' => ∃ s', e = .returned (.tuple #[]) ∧ Upd c s s' (1 + placeN x) i w w' := by
 have hp := placeN_le hx
 have CP := hide (fun w => placeC x w hx)
 have hj49 : 1 + placeN x < 49 := by omega
 have hj : 1 + placeN x < 50 := by omega
 have hjl : 1 + placeN x < s.A.length := by rw [h.len]; exact hj
 have hown := h.ls _ (mem_getD hjl)
 have x1 := h.cell (pos_lt hj)
 rw [atPos s hj] at x1
 have f1 := h.fz (1 + placeN x)
 have ep : pos (1 + placeN x) = 1 + placeN x := by unfold pos; rw [if_neg (by omega), if_neg (by omega)]
 have FIN := hide (fun (w0 w1 : World) (g cap : Nat) (g0 : w.grownBy w0 none) => h.one (y := i) (w0 := w0) (w1 := w1) (g := g) (cap := cap) hj g0)
 have CK : Hid (∀ w0 w1, w.grownBy w0 none → w0.grownBy w1 (s.A.getD (1 + placeN x) nil_).1.ownBlock → w1.cell? ⟨c, 1 + placeN x, none⟩ = some (s.A.getD (1 + placeN x) nil_).1 ∧ w1.frozen? ⟨c, 1 + placeN x, none⟩ = false) := by
  intro w0 w1 g0 g1
  have h0 := h.kept g0
  have e : w1.heap[c]? = w0.heap[c]? := g1.block c h0.lt (fun e => by
   rcases row_nec (h0.ls _ (mem_getD hjl)) h0.blk h0.ty.2 with q | q
   ·rw [q] at e; cases e
   ·exact q e.symm)
  have k := h0.cell (pos_lt hj)
  rw [atPos s hj, ep] at k
  exact ⟨(World.cell?_of_block (a := ⟨c, 1 + placeN x, none⟩) e).trans k, (World.frozen?_of_block (a := ⟨c, 1 + placeN x, none⟩) e).trans (h0.fz _)⟩
 rw [ep] at x1 FIN
 obtain ⟨va, vc, ev⟩ : ∃ a cap, (s.A.getD (1 + placeN x) nil_).1 = .slice a (s.A.getD (1 + placeN x) nil_).2.length cap := by
  obtain ⟨a, cap, e, _⟩ := Sl.of_own hown
  exact ⟨a, cap, e⟩
 rw [ev] at hown x1 FIN CK
 have GA := hide (grown_trans (r := none) (World.grownBy_alloc w (.cells #[.int .i64 i] 3) none) (cf.grown_drew (w.alloc (.cells #[.int .i64 i] 3)) none))
 have OWN := hide (hown.kept (unhide GA) (ne_none _))
 have NB : Hid (((w.alloc (.cells #[.int .i64 i] 3)).drew).cell? ⟨w.heap.size, 0, none⟩ = some (.int .i64 i)) := by
  show ((w.alloc (.cells #[.int .i64 i] 3))).cell? _ = _
  simp
 have hlt := h.lt
 clear hown h hjl hx ev ep
 generalize (s.A.getD (1 + placeN x) nil_).2 = L at *
 generalize placeN x = p at *
 have hp' : (p : Int) < 48 := by omega
 go_enter Tryd.func68, Tryd.ntmps68
 have ne1 := World.new_ne w _ x1
 go_region_law (first
  | (go_simp; go_at_call 60; refine (unhide CP _).mono ?_; rintro e w2 ⟨rfl, hw⟩; have hw' := hw.symm; clear hw; subst hw')
  | (refine stepW (unhide OWN) (unhide NB) hM rfl _ _ rfl rfl rfl ?_; intro g cap w1 o1 g1 l1; have k1 := (unhide CK _ _ (unhide GA) g1).1; have k2 := (unhide CK _ _ (unhide GA) g1).2; have R1 := hide (unhide FIN _ w1 g cap (unhide GA) o1 g1 (by rcases l1 with q | q; exact .inl q; exact .inr (Nat.le_trans (unhide GA).size q))); clear o1 g1 l1))
 all_goals
  go_wp2_with fail
  exact end0 rfl rfl ⟨rfl, unhide R1⟩
end Go.Proofs.YtfhmdpbnnieohaaDoor.wm
namespace Go.Proofs.YtfhmdpbnnieohaaDoor.wm
open Go.ChangeShapes Go.WideShapes Go.ChangeAt Go.RowKit
open wm0 (end0 ret0 stepW listW listB)
open lits (okB okB_iff)
open bset (placeN placeN_le placeC)
open srt (Tab woN woN_lt fstI oppN oppN_lt andN andN_lt)
open sl (Sl Own ints hide unhide ret_int ret_bool grown_refl grown_trans grown_drewN)
set_option linter.unusedVariables false
theorem rowsK_set1 (K : List (Nat × Int × Int)) (i : Nat) (a : Int) (h : i < K.length) : (rowsK K).set (i * 3 + 1) (.int .i8 a) = rowsK (K.set i ((K.getD i zk).1, a, (K.getD i zk).2.2)) := by
 induction K generalizing i with
 | nil => simp at h
 | cons k l ih =>
  have e : ∀ k l, rowsK (k :: l) = .int .u64 (k.1 : Int) :: .int .i8 k.2.1 :: .int .i8 k.2.2 :: rowsK l := fun _ _ => rfl
  cases i with
  | zero => rfl
  | succ i =>
   rw [List.set_cons_succ, e, e, show (i + 1) * 3 + 1 = i * 3 + 1 + 1 + 1 + 1 by omega, List.set_cons_succ, List.set_cons_succ, List.set_cons_succ, ih i (by simpa using h)]
   rfl
theorem rowsK_set2 (K : List (Nat × Int × Int)) (i : Nat) (a : Int) (h : i < K.length) : (rowsK K).set (i * 3 + 2) (.int .i8 a) = rowsK (K.set i ((K.getD i zk).1, (K.getD i zk).2.1, a)) := by
 induction K generalizing i with
 | nil => simp at h
 | cons k l ih =>
  have e : ∀ k l, rowsK (k :: l) = .int .u64 (k.1 : Int) :: .int .i8 k.2.1 :: .int .i8 k.2.2 :: rowsK l := fun _ _ => rfl
  cases i with
  | zero => rfl
  | succ i =>
   rw [List.set_cons_succ, e, e, show (i + 1) * 3 + 2 = i * 3 + 2 + 1 + 1 + 1 by omega, List.set_cons_succ, List.set_cons_succ, List.set_cons_succ, ih i (by simpa using h)]
   rfl
theorem Wat.setK {w : World} {c g cap j : Nat} {s : WS} {u : Value} {K' : List (Nat × Int × Int)} (h : Wat w c s) (hV : s.V = .slice (some ⟨g, 0, none⟩) s.K.length cap) (hK : (rowsK s.K).set j u = rowsK K') (hl : K'.length = s.K.length) :
  Wat (w.setCell ⟨g, j, none⟩ u) c { s with K := K' } ∧ Stp c s { s with K := K' } w (w.setCell ⟨g, j, none⟩ u) := by
 have gg := sl.grown_setCell w g j u
 have hcl := h.cl
 rw [hV] at hcl
 have hb : (Value.slice (some ⟨g, 0, none⟩) s.K.length cap).ownBlock = some g := rfl
 have ho : s.V.ownBlock = some g := by rw [hV]; rfl
 have hgc : g ≠ c := by
  rcases row_nec h.cl h.blk h.ty.1 with q | q
  ·rw [ho] at q; cases q
  ·intro e; exact q (by rw [ho, e])
 refine ⟨⟨?_, h.len, ?_, fun p hp => (h.ls p hp).kept gg ?_, h.ap, h.ty⟩, ⟨gg.os, gg.tape, gg.output, gg.size, fun k hk hn => gg.block k hk (fun e => hn (.inr (.inl (by rw [ho]; exact e.symm)))), fun k f => .inl f, rfl, rfl⟩⟩
 ·show (w.setCell ⟨g, j, none⟩ u).heap[c]? = some (Obj.cells s.cells.toArray _ _)
  rw [gg.block c h.lt (fun e => hgc (by cases e; rfl))]
  exact h.blk
 ·show (w.setCell ⟨g, j, none⟩ u).ownsRow 0 _ 3 s.V K'.length (rowsK K')
  rw [hV, hl, ← hK]
  exact (hcl.stored j u).1
 ·rcases row_ne (h.ls p hp) h.cl (fun e => types3 e.symm) with q | q
  ·exact .inl q
  ·rw [ho] at q
   exact .inr q
theorem set_getD {K : List (Nat × Int × Int)} {i : Nat} (h : i < K.length) (k : Nat × Int × Int) : (K.set i k).getD i zk = k := by simp [h]
def sw0 (k : Nat × Int × Int) (lost : Int) : Int := if k.2.1 = lost then k.2.2 else k.2.1
def sw1 (k : Nat × Int × Int) (lost : Int) : Int := if k.2.1 = lost then k.2.1 else k.2.2
def swK (K : List (Nat × Int × Int)) (i : Nat) (lost : Int) : List (Nat × Int × Int) := K.set i ((K.getD i zk).1, sw0 (K.getD i zk) lost, sw1 (K.getD i zk) lost)
theorem self_set {K : List (Nat × Int × Int)} {i : Nat} (h : i < K.length) : K.set i (K.getD i zk) = K := by
 rw [show K.getD i zk = K[i] by simp [h]]
 exact List.set_getElem_self h
theorem swK_no {K : List (Nat × Int × Int)} {i : Nat} {lost : Int} (h : i < K.length) (hn : (K.getD i zk).2.1 ≠ lost) : swK K i lost = K := by
 unfold swK sw0 sw1
 rw [if_neg hn, if_neg hn]
 exact self_set h
theorem Wat.swap {w : World} {c g cap i : Nat} {s : WS} {lost : Int} (h : Wat w c s) (hi : i < s.K.length) (hV : s.V = .slice (some ⟨g, 0, none⟩) s.K.length cap) (hp : (s.K.getD i zk).2.1 = lost) :
  (Wat ((w.setCell ⟨g, i * 3 + 1, none⟩ (.int .i8 (s.K.getD i zk).2.2)).setCell ⟨g, i * 3 + 2, none⟩ (.int .i8 (s.K.getD i zk).2.1)) c { s with K := swK s.K i lost } ∧ Stp c s { s with K := swK s.K i lost } w ((w.setCell ⟨g, i * 3 + 1, none⟩ (.int .i8 (s.K.getD i zk).2.2)).setCell ⟨g, i * 3 + 2, none⟩ (.int .i8 (s.K.getD i zk).2.1))) ∧
  (Wat ((w.setCell ⟨g, i * 3 + 2, none⟩ (.int .i8 (s.K.getD i zk).2.1)).setCell ⟨g, i * 3 + 1, none⟩ (.int .i8 (s.K.getD i zk).2.2)) c { s with K := swK s.K i lost } ∧ Stp c s { s with K := swK s.K i lost } w ((w.setCell ⟨g, i * 3 + 2, none⟩ (.int .i8 (s.K.getD i zk).2.1)).setCell ⟨g, i * 3 + 1, none⟩ (.int .i8 (s.K.getD i zk).2.2))) := by
 have e : swK s.K i lost = s.K.set i ((s.K.getD i zk).1, (s.K.getD i zk).2.2, (s.K.getD i zk).2.1) := by
  unfold swK sw0 sw1
  rw [if_pos hp, if_pos hp]
 constructor
 ·have a := h.setK (K' := s.K.set i ((s.K.getD i zk).1, (s.K.getD i zk).2.2, (s.K.getD i zk).2.2)) hV (rowsK_set1 s.K i _ hi) (by simp)
  have b := a.1.setK (cap := cap) (g := g) (j := i * 3 + 2) (u := .int .i8 (s.K.getD i zk).2.1) (K' := swK s.K i lost) (by show s.V = _; rw [hV]; simp) (by
   show (rowsK (s.K.set i _)).set _ _ = _
   rw [rowsK_set2 _ i _ (by simpa using hi), set_getD hi, e]
   simp) (by rw [e]; simp)
  exact ⟨b.1, a.2.trans b.2⟩
 ·have a := h.setK (K' := s.K.set i ((s.K.getD i zk).1, (s.K.getD i zk).2.1, (s.K.getD i zk).2.1)) hV (rowsK_set2 s.K i _ hi) (by simp)
  have b := a.1.setK (cap := cap) (g := g) (j := i * 3 + 1) (u := .int .i8 (s.K.getD i zk).2.2) (K' := swK s.K i lost) (by show s.V = _; rw [hV]; simp) (by
   show (rowsK (s.K.set i _)).set _ _ = _
   rw [rowsK_set1 _ i _ (by simpa using hi), set_getD hi, e]
   simp) (by rw [e]; simp)
  exact ⟨b.1, a.2.trans b.2⟩
structure PS where
 K : List (Nat × Int × Int)
 A : List (List Int)
 tk : Nat
 em : Bool
 ho : Bool
def WS.ps (s : WS) : PS := ⟨s.K, s.A.map (·.2), s.tk, s.em, s.ho⟩
def PS.more (P : PS) (j : Nat) (y : Int) : PS := { P with A := P.A.set j (P.A.getD j [] ++ [y]) }
theorem Upd.ps {c j : Nat} {s s' : WS} {y : Int} {w w' : World} (h : Upd c s s' j y w w') : s'.ps = s.ps.more j y := by
 obtain ⟨_, _, _, hK, ht, ⟨he, hh⟩, hA, _⟩ := h
 unfold WS.ps PS.more
 rw [hK, ht, he, hh, hA]
def PS.rew (P : PS) (i : Nat) (lost : Int) : PS :=
 if clsd (P.K.getD i zk).1 P.tk then P
 else if opn (P.K.getD i zk).1 P.tk = 0 then { P with K := swK P.K i lost, em := true }
 else if woN (opn (P.K.getD i zk).1 P.tk) (sw0 (P.K.getD i zk) lost) = 0 then PS.more { P with K := swK P.K i lost } 0 (i : Int)
 else PS.more { P with K := P.K.set i ((P.K.getD i zk).1, sw0 (P.K.getD i zk) lost, fstI (woN (opn (P.K.getD i zk).1 P.tk) (sw0 (P.K.getD i zk) lost))) } (1 + placeN (fstI (woN (opn (P.K.getD i zk).1 P.tk) (sw0 (P.K.getD i zk) lost)))) (i : Int)
def PS.mvd (P : PS) (i : Nat) (lost : Int) : Bool := !(clsd (P.K.getD i zk).1 P.tk) && decide (opn (P.K.getD i zk).1 P.tk ≠ 0 ∧ woN (opn (P.K.getD i zk).1 P.tk) (sw0 (P.K.getD i zk) lost) ≠ 0)
theorem mvd_closed {P : PS} {i : Nat} {lost : Int} (h : clsd (P.K.getD i zk).1 P.tk = true) : P.mvd i lost = false := by
 unfold PS.mvd
 rw [h]
 rfl
theorem mvd_no {P : PS} {i : Nat} {lost : Int} (h : opn (P.K.getD i zk).1 P.tk = 0 ∨ woN (opn (P.K.getD i zk).1 P.tk) (sw0 (P.K.getD i zk) lost) = 0) : P.mvd i lost = false := by
 unfold PS.mvd
 rw [decide_eq_false (fun k => by rcases h with h | h; exact k.1 h; exact k.2 h), Bool.and_false]
theorem mvd_yes {P : PS} {i : Nat} {lost : Int} (h : clsd (P.K.getD i zk).1 P.tk = false) (ho : opn (P.K.getD i zk).1 P.tk ≠ 0) (hr : woN (opn (P.K.getD i zk).1 P.tk) (sw0 (P.K.getD i zk) lost) ≠ 0) : P.mvd i lost = true := by
 unfold PS.mvd
 rw [h, decide_eq_true ⟨ho, hr⟩]
 rfl
theorem swK_at {K : List (Nat × Int × Int)} {i : Nat} {lost : Int} (h : i < K.length) : (swK K i lost).getD i zk = ((K.getD i zk).1, sw0 (K.getD i zk) lost, sw1 (K.getD i zk) lost) := set_getD h _
theorem swK_len (K : List (Nat × Int × Int)) (i : Nat) (lost : Int) : (swK K i lost).length = K.length := by unfold swK; simp
theorem rew_closed {P : PS} {i : Nat} {lost : Int} (h : clsd (P.K.getD i zk).1 P.tk = true) : P.rew i lost = P := by
 unfold PS.rew
 rw [if_pos h]
theorem rew_empty {P : PS} {i : Nat} {lost : Int} (h : clsd (P.K.getD i zk).1 P.tk = false) (ho : opn (P.K.getD i zk).1 P.tk = 0) : P.rew i lost = { P with K := swK P.K i lost, em := true } := by
 unfold PS.rew
 rw [if_neg (by rw [h]; simp), if_pos ho]
theorem rew_wait {P : PS} {i : Nat} {lost : Int} (h : clsd (P.K.getD i zk).1 P.tk = false) (ho : opn (P.K.getD i zk).1 P.tk ≠ 0) (hr : woN (opn (P.K.getD i zk).1 P.tk) (sw0 (P.K.getD i zk) lost) = 0) : P.rew i lost = PS.more { P with K := swK P.K i lost } 0 (i : Int) := by
 unfold PS.rew
 rw [if_neg (by rw [h]; simp), if_neg ho, if_pos hr]
theorem rew_move {P : PS} {i : Nat} {lost : Int} (h : clsd (P.K.getD i zk).1 P.tk = false) (ho : opn (P.K.getD i zk).1 P.tk ≠ 0) (hr : woN (opn (P.K.getD i zk).1 P.tk) (sw0 (P.K.getD i zk) lost) ≠ 0) :
  P.rew i lost = PS.more { P with K := P.K.set i ((P.K.getD i zk).1, sw0 (P.K.getD i zk) lost, fstI (woN (opn (P.K.getD i zk).1 P.tk) (sw0 (P.K.getD i zk) lost))) } (1 + placeN (fstI (woN (opn (P.K.getD i zk).1 P.tk) (sw0 (P.K.getD i zk) lost)))) (i : Int) := by
 unfold PS.rew
 rw [if_neg (by rw [h]; simp), if_neg ho, if_neg hr]
theorem swap_at {w : World} {c g cap i S : Nat} {s : WS} {lost p0 p1 : Int} (h : Wat w c s) (hi : i < s.K.length) (hV : s.V = .slice (some ⟨g, 0, none⟩) s.K.length cap) (ek : s.K.getD i zk = (S, p0, p1)) (hp : p0 = lost) :
  (Wat ((w.setCell ⟨g, i * 3 + 1, none⟩ (.int .i8 p1)).setCell ⟨g, i * 3 + 2, none⟩ (.int .i8 p0)) c { s with K := swK s.K i lost } ∧ Stp c s { s with K := swK s.K i lost } w ((w.setCell ⟨g, i * 3 + 1, none⟩ (.int .i8 p1)).setCell ⟨g, i * 3 + 2, none⟩ (.int .i8 p0))) ∧
  (Wat ((w.setCell ⟨g, i * 3 + 2, none⟩ (.int .i8 p0)).setCell ⟨g, i * 3 + 1, none⟩ (.int .i8 p1)) c { s with K := swK s.K i lost } ∧ Stp c s { s with K := swK s.K i lost } w ((w.setCell ⟨g, i * 3 + 2, none⟩ (.int .i8 p0)).setCell ⟨g, i * 3 + 1, none⟩ (.int .i8 p1))) := by
 have := h.swap hi hV (lost := lost) (by rw [ek]; exact hp)
 rw [ek] at this
 exact this
def TabF (c : Nat) (s : WS) (w : World) : Prop := Tab w ∧ ¬ Foot c s 0
theorem tab_lt {w : World} (h : Tab w) : (0 : Nat) < w.heap.size := World.block_lt_of_cell? w _ (h 0 (by decide))
theorem TabF.stp {c : Nat} {s s' : WS} {w w' : World} (h : TabF c s w) (k : Stp c s s' w w') : TabF c s' w' := by
 have hl := tab_lt h.1
 refine ⟨fun j hj => ?_, fun f => ?_⟩
 ·rw [← h.1 j hj]
  exact World.cell?_of_block (a := ⟨0, j, none⟩) (k.block _ hl h.2)
 ·rcases k.foot _ f with q | q
  ·exact h.2 q
  ·omega
def Same (O : Nat) (s s' : WS) : Prop := ∀ l, okB l = true → O.testBit (placeN l) = false → s'.A.getD (1 + placeN l) nil_ = s.A.getD (1 + placeN l) nil_
def Swp (c : Nat) (s : WS) (i : Nat) (lost : Int) (w wx : World) : Prop := Wat wx c { s with K := swK s.K i lost } ∧ Stp c s { s with K := swK s.K i lost } w wx
set_option maxRecDepth 100000 in
set_option maxHeartbeats 8000000 in
theorem rewatch {w : World} {c i S : Nat} {s : WS} {lost p0 p1 : Int} (h : Wat w c s) (hTab : TabF c s w) (hi : i < s.K.length) (hl : s.K.length ≤ 1048576) (ek : s.K.getD i zk = (S, p0, p1)) (hS : S < 2 ^ 48) (hT : s.tk < 2 ^ 48)
  (ho : okB lost = true) (h0 : okB p0 = true) (h1 : okB p1 = true)
  (hw0 : (s.A.getD 0 nil_).2.length ≤ 4194304) (hw1 : ∀ q, okB q = true → (opn S s.tk).testBit (placeN q) = true → (s.A.getD (1 + placeN q) nil_).2.length ≤ 4194304) :
  Calls Tryd.prog 88 #[.pointer (some ⟨c, 0, none⟩), .int .i64 (i : Int), .int .i8 lost] w fun e w' => ∃ s', e = .returned (.bool (s.ps.mvd i lost)) ∧ Wat w' c s' ∧ Stp c s s' w w' ∧ s'.ps = s.ps.rew i lost ∧ Same (opn S s.tk) s s' := by
 have cc := closed h hi hl (by rw [ek]; exact hS) hT
 rw [ek] at cc
 have EK := hide ek
 cases hcl : clsd S s.tk
 ·have cc' : Calls Tryd.prog 89 #[.pointer (some ⟨c, 0, none⟩), .int .i64 (i : Int)] w fun e w' => e = .returned (.bool false) ∧ ∃ m, w' = w.drewN m := by
   have := cc
   simp only [hcl] at this
   exact this
  have CC := hide cc'
  have HCL := hide hcl
  have HWW := hide h
  have HI := hide hi
  have HW1 := hide hw1
  clear cc cc' hcl h hw1 ek
  go_enter Tryd.func88, Tryd.ntmps88
  have hi' : (i : Int) < (s.K.length : Int) := by omega
  clear hi
  go_wp2_with fail
  refine (unhide CC).mono ?_; rintro e w2 ⟨rfl, m2, rfl⟩
  have W2 := (unhide HWW).kept (grown_drewN w m2)
  obtain ⟨g, cap, eV, hg, hc, c0, c1, c2, fz⟩ := W2.row (unhide HI)
  rw [unhide EK] at c0 c1 c2
  have x0 := W2.cell (k := 0) (by decide)
  rw [at0, eV] at x0
  have HW := hide W2
  have ST := hide (Stp.of_grown (c := c) (s := s) (grown_drewN w m2))
  have TB := hide (hTab.stp (Stp.of_grown (grown_drewN w m2)))
  have EV := hide eV
  clear CC W2 HWW eV hTab
  generalize w.drewN m2 = w2 at *
  go_upto_if 25 with fail
  clear x0 c0
  have WY := hide (fun (e : p0 = lost) => swap_at (unhide HW) (unhide HI) (unhide EV) (unhide EK) e)
  have f1 := fz (i * 3 + 1)
  have f2 := fz (i * 3 + 2)
  have WN : Hid (p0 ≠ lost → Swp c s i lost w2 w2) := by
   intro hne
   unfold Swp
   rw [swK_no (unhide HI) (by rw [unhide EK]; exact hne)]
   exact ⟨unhide HW, Stp.refl _ _ _⟩
  clear fz
  go_cut [] (fun wx => Hid (Swp c s i lost w2 wx))
  case first =>
   by_cases hp : p0 = lost
   ·have hp' : (p0 == lost) = true := by simpa using hp
    have wz := (unhide WY hp).1
    have WZ : Hid (Swp c s i lost w2 ((w2.setCell ⟨g, i * 3 + 1, none⟩ (.int .i8 p1)).setCell ⟨g, i * 3 + 2, none⟩ (.int .i8 p0)).drew) :=
     ⟨wz.1.kept (cf.grown_drew _ none), wz.2.trans (Stp.of_grown (cf.grown_drew _ none))⟩
    clear WN WY hp wz
    go_wp2_with fail
    go_region
    go_wp2_with fail
    go_meet
    exact WZ
   ·have hp' : (p0 == lost) = false := by simpa using hp
    have WZ := hide (unhide WN hp)
    clear WN WY hp
    go_wp2_with fail
    go_meet
    exact WZ
  case rest =>
   clear WY WN c1 c2 f1 f2 HW
   have hcut' := unhide hcut
   clear hcut
   obtain ⟨W3, S3⟩ := hcut'
   have T3 := hide ((unhide TB).stp S3)
   have SS := hide ((unhide ST).trans S3)
   have e3 : (swK s.K i lost).getD i zk = (S, sw0 (S, p0, p1) lost, sw1 (S, p0, p1) lost) := by rw [swK_at (unhide HI), unhide EK]
   have l3 := swK_len s.K i lost
   have k0 : okB (sw0 (S, p0, p1) lost) = true := by
    unfold sw0
    split
    ·exact h1
    ·exact h0
   have k1 : okB (sw1 (S, p0, p1) lost) = true := by
    unfold sw1
    split
    ·exact h0
    ·exact h1
   have hi3 : i < ({ s with K := swK s.K i lost } : WS).K.length := by show i < (swK s.K i lost).length; rw [l3]; exact unhide HI
   have co := open_ W3 hi3 (by show (swK s.K i lost).length ≤ _; rw [l3]; exact hl) (by show ((swK s.K i lost).getD i zk).1 < _; rw [e3]; exact hS) hT
   have e3' : ({ s with K := swK s.K i lost } : WS).K.getD i zk = (S, sw0 (S, p0, p1) lost, sw1 (S, p0, p1) lost) := e3
   rw [e3'] at co
   have CO : Hid (Calls Tryd.prog 90 #[.pointer (some ⟨c, 0, none⟩), .int .i64 (i : Int)] wc fun e w' => e = .returned (.int .u64 (opn S s.tk : Nat)) ∧ ∃ m, w' = wc.drewN m) := co
   have HW3 := hide W3
   have OL : Hid (opn S s.tk < 2 ^ 48) := andN_lt _ _ hS
   have E3 := hide e3'
   have HI3 := hide hi3
   have L3 := hide l3
   clear W3 S3 co e3 e3' hi3 l3
   generalize hq0 : sw0 (S, p0, p1) lost = q0 at *
   generalize hq1 : sw1 (S, p0, p1) lost = q1 at *
   have HQ0 := hide hq0
   clear hq0 hq1
   generalize hO : opn S s.tk = O at *
   have HO := hide hO
   clear hO
   go_wp2_with fail
   refine (unhide CO).mono ?_; rintro e w4 ⟨rfl, m4, rfl⟩
   have W4 := (unhide HW3).kept (grown_drewN wc m4)
   obtain ⟨g4, cap4, eV4, hg4, hc4, c0, c1, c2, fz⟩ := W4.row (unhide HI3)
   have eg : g4 = g ∧ cap4 = cap := by
    have : s.V = .slice (some ⟨g4, 0, none⟩) _ cap4 := eV4
    rw [unhide EV] at this
    simp only [Value.slice.injEq, Option.some.injEq, Addr.mk.injEq, and_true] at this
    exact ⟨this.1.symm, this.2.2.symm⟩
   obtain ⟨rfl, rfl⟩ := eg
   rw [unhide E3] at c1 c2
   have HW4 := hide W4
   have S4 := hide ((unhide SS).trans (Stp.of_grown (grown_drewN wc m4)))
   have T4 := hide ((unhide T3).stp (Stp.of_grown (grown_drewN wc m4)))
   have EV4 := hide eV4
   clear CO W4 HW3 SS T3 c0 eV4
   generalize wc.drewN m4 = w4 at *
   have CW := hide (fun w => srt.without O q0 w (unhide OL) k0)
   have RL : Hid (woN O q0 < 2 ^ 48) := woN_lt (unhide OL)
   generalize hR : woN O q0 = R at *
   have HR := hide hR
   clear hR
   go_wp2_with fail
   refine (unhide CW _).mono ?_; rintro e w5 ⟨rfl, hw⟩; have hw' := hw.symm; clear hw; subst hw'
   clear CW
   by_cases hO0 : O = 0
   ·have b0 : ((O : Int) == 0) = true := by simp [hO0]
    have fe := (unhide HW4).fz 51
    have k5 := (unhide HW4).setEm true
    have E5 : Hid (({ ({ s with K := swK s.K i lost } : WS) with em := true } : WS).ps = s.ps.rew i lost) := by
     show _ = _
     rw [rew_empty (P := s.ps) (by show clsd (s.K.getD i zk).1 s.tk = false; rw [unhide EK]; exact unhide HCL) (by show opn (s.K.getD i zk).1 s.tk = 0; rw [unhide EK]; exact (unhide HO).trans hO0)]
     rfl
    have R5 := hide (And.intro k5.1 ((unhide S4).trans k5.2))
    have x51 := (unhide HW4).cell (k := 51) (by decide)
    clear k5
    have MV : Hid (s.ps.mvd i lost = false) := mvd_no (.inl (by show opn (s.K.getD i zk).1 s.tk = 0; rw [unhide EK]; exact (unhide HO).trans hO0))
    go_wp2_with fail
    go_ret
    rw [unhide MV]
    exact ⟨_, rfl, (unhide R5).1, (unhide R5).2, unhide E5, fun _ _ _ => rfl⟩
   ·have b0 : ((O : Int) == 0) = false := by simp [hO0]
    by_cases hR0 : R = 0
    ·have r0 : ((R : Int) == 0) = true := by simp [hR0]
     have x50 := (unhide HW4).cell (k := 50) (by decide)
     have f50 := (unhide HW4).fz 50
     have hA0 : 0 < s.A.length := by rw [show s.A.length = 50 from (unhide HW4).len]; decide
     have own0 : w4.ownsRow 0 3 1 (s.A.getD 0 nil_).1 (s.A.getD 0 nil_).2.length (ints (s.A.getD 0 nil_).2) := (unhide HW4).ls _ (mem_getD (A := s.A) hA0)
     have hne := row_nec own0 (unhide HW4).blk (unhide HW4).ty.2
     have FIN := hide (fun (w0 w1 : World) (g cap : Nat) (g0 : w4.grownBy w0 none) => (unhide HW4).one (y := (i : Int)) (w0 := w0) (w1 := w1) (g := g) (cap := cap) (show 0 < 50 by decide) g0)
     have E5 : Hid (({ s with K := swK s.K i lost } : WS).ps.more 0 (i : Int) = s.ps.rew i lost) := by
      show _ = _
      rw [rew_wait (P := s.ps) (by show clsd (s.K.getD i zk).1 s.tk = false; rw [unhide EK]; exact unhide HCL) (by show opn (s.K.getD i zk).1 s.tk ≠ 0; rw [unhide EK]; rw [← unhide HO] at hO0; exact hO0) (by show woN (opn (s.K.getD i zk).1 s.tk) (sw0 (s.K.getD i zk) lost) = 0; rw [unhide EK, show opn (S, p0, p1).1 s.tk = O from unhide HO, unhide HQ0]; exact (unhide HR).trans hR0)]
      rfl
     have CK : Hid (∀ w1, (w4.alloc (.cells #[.int .i64 (i : Int)] 3)).grownBy w1 (s.A.getD 0 nil_).1.ownBlock → w1.cell? ⟨c, 50, none⟩ = some (s.A.getD 0 nil_).1 ∧ w1.frozen? ⟨c, 50, none⟩ = false) := by
      intro w1 g1
      have h0 := (unhide HW4).kept (World.grownBy_alloc w4 (.cells #[.int .i64 (i : Int)] 3) none)
      have e : w1.heap[c]? = (w4.alloc (.cells #[.int .i64 (i : Int)] 3)).heap[c]? := g1.block c h0.lt (fun e => by
       rcases hne with q | q
       ·rw [q] at e; cases e
       ·exact q e.symm)
      exact ⟨(World.cell?_of_block (a := ⟨c, 50, none⟩) e).trans (h0.cell (k := 50) (by decide)), (World.frozen?_of_block (a := ⟨c, 50, none⟩) e).trans (h0.fz _)⟩
     obtain ⟨va, vc, ev, _⟩ := Sl.of_own own0
     have x50' : w4.cell? ⟨c, 50, none⟩ = some (s.A.getD 0 nil_).1 := x50
     have FIN' : Hid (∀ (w0 w1 : World) (g cap : Nat), w4.grownBy w0 none → w1.ownsRow 0 3 1 (.slice (some ⟨g, 0, none⟩) ((s.A.getD 0 nil_).2.length + 1) cap) ((s.A.getD 0 nil_).2.length + 1) (ints (s.A.getD 0 nil_).2 ++ [.int .i64 (i : Int)]) → w0.grownBy w1 (s.A.getD 0 nil_).1.ownBlock → ((s.A.getD 0 nil_).1.ownBlock = some g ∨ w4.heap.size ≤ g) →
       ∃ s', Upd c { s with K := swK s.K i lost } s' 0 (i : Int) w4 (w1.setCell ⟨c, 50, none⟩ (.slice (some ⟨g, 0, none⟩) ((s.A.getD 0 nil_).2.length + 1) cap))) := unhide FIN
     rw [ev] at own0 x50' FIN' CK
     have GA := hide (World.grownBy_alloc w4 (.cells #[.int .i64 (i : Int)] 3) none)
     have OWN := hide (own0.kept (unhide GA) (ne_none _))
     have NB : Hid ((w4.alloc (.cells #[.int .i64 (i : Int)] 3)).cell? ⟨w4.heap.size, 0, none⟩ = some (.int .i64 (i : Int))) := by
      show _ = _
      simp
     clear FIN x50 own0 hne ev hA0 HW4
     generalize (s.A.getD 0 nil_).2 = L0 at *
     go_wp2_with (at_builtin; refine listW (unhide OWN) (unhide NB) hw0 rfl (.tmp 74) (.tmp 76) rfl rfl rfl ?_)
     intro g5 cap5 w5 o5 g5' l5
     have k5 := (unhide CK w5 g5').1
     have k6 := (unhide CK w5 g5').2
     have R5 := hide (unhide FIN' _ w5 g5 cap5 (unhide GA) o5 g5' (by
      rcases l5 with q | q
      ·exact .inl q
      ·exact .inr (Nat.le_of_succ_le q)))
     clear o5 g5' l5 CK FIN' OWN NB
     have MV : Hid (s.ps.mvd i lost = false) := mvd_no (.inr (by show woN (opn (s.K.getD i zk).1 s.tk) (sw0 (s.K.getD i zk) lost) = 0; rw [unhide EK, show opn (S, p0, p1).1 s.tk = O from unhide HO, unhide HQ0]; exact (unhide HR).trans hR0))
     go_wp2_with fail
     obtain ⟨s', u5⟩ := unhide R5
     have F5 : Wat _ c s' ∧ Stp c s s' w _ ∧ s'.ps = s.ps.rew i lost ∧ Same (opn S s.tk) s s' := ⟨u5.1, (unhide S4).trans u5.2.1, u5.ps.trans (unhide E5), fun l _ _ => u5.2.2.2.2.2.2.2 _ (by omega)⟩
     go_ret
     rw [unhide MV]
     exact ⟨s', rfl, F5⟩
    ·have r0 : ((R : Int) == 0) = false := by simp [hR0]
     have hRp : 0 < R := by omega
     have fs := fst_spec hRp (unhide RL)
     have CF := hide (fun w t => srt.first R w t hRp (unhide RL))
     have hOq : O.testBit (placeN (fstI R)) = true := by
      have := fs.2
      rw [← unhide HR, srt.woN_bit O q0 _ (unhide OL) k0, unhide HR, Bool.and_eq_true] at this
      exact this.1
     have hbq := unhide HW1 (fstI R) fs.1 hOq
     have E5 : Hid (PS.more { s.ps with K := s.K.set i (S, q0, fstI R) } (1 + placeN (fstI R)) (i : Int) = s.ps.rew i lost) := by
      show _ = _
      rw [rew_move (P := s.ps) (by show clsd (s.K.getD i zk).1 s.tk = false; rw [unhide EK]; exact unhide HCL) (by show opn (s.K.getD i zk).1 s.tk ≠ 0; rw [unhide EK]; rw [← unhide HO] at hO0; exact hO0) (by show woN (opn (s.K.getD i zk).1 s.tk) (sw0 (s.K.getD i zk) lost) ≠ 0; rw [unhide EK, show opn (S, p0, p1).1 s.tk = O from unhide HO, unhide HQ0, unhide HR]; exact hR0)]
      show _ = PS.more { s.ps with K := s.K.set i ((s.K.getD i zk).1, sw0 (s.K.getD i zk) lost, fstI (woN (opn (s.K.getD i zk).1 s.tk) (sw0 (s.K.getD i zk) lost))) } (1 + placeN (fstI (woN (opn (s.K.getD i zk).1 s.tk) (sw0 (s.K.getD i zk) lost)))) (i : Int)
      rw [unhide EK, show opn (S, p0, p1).1 s.tk = O from unhide HO, unhide HQ0, unhide HR]
     have MV : Hid (s.ps.mvd i lost = true) := mvd_yes (P := s.ps) (by show clsd (s.K.getD i zk).1 s.tk = false; rw [unhide EK]; exact unhide HCL) (by show opn (s.K.getD i zk).1 s.tk ≠ 0; rw [unhide EK]; rw [← unhide HO] at hO0; exact hO0) (by show woN (opn (s.K.getD i zk).1 s.tk) (sw0 (s.K.getD i zk) lost) ≠ 0; rw [unhide EK, show opn (S, p0, p1).1 s.tk = O from unhide HO, unhide HQ0, unhide HR]; exact hR0)
     have f2 := fz (i * 3 + 2)
     have K5 : Hid (Wat (w4.setCell ⟨g4, i * 3 + 2, none⟩ (.int .i8 (fstI R))) c { s with K := s.K.set i (S, q0, fstI R) } ∧ Stp c { s with K := swK s.K i lost } { s with K := s.K.set i (S, q0, fstI R) } w4 (w4.setCell ⟨g4, i * 3 + 2, none⟩ (.int .i8 (fstI R)))) := by
      refine (unhide HW4).setK (K' := s.K.set i (S, q0, fstI R)) (unhide EV4) ?_ (by show (s.K.set i _).length = (swK s.K i lost).length; rw [List.length_set]; exact (unhide L3).symm)
      show (rowsK (swK s.K i lost)).set (i * 3 + 2) _ = _
      rw [rowsK_set2 _ i _ (unhide HI3), show (swK s.K i lost).getD i zk = (S, q0, q1) from unhide E3]
      unfold swK
      rw [List.set_set]
     have TD := hide ((unhide T4).1.kept (cf.grown_drew w4 none))
     clear HW4 fz HW1 E3 HQ0 HR
     generalize hy : fstI R = y at *
     go_wp2_with fail
     go_region_law (first
      | (go_simp; go_at_call 48; refine (unhide CF _ (unhide TD)).mono ?_; rintro e w5 ⟨rfl, hw⟩; have hw' := hw.symm; clear hw; subst hw'))
     all_goals
      have K6 : Hid (Wat (w4.setCell ⟨g4, i * 3 + 2, none⟩ (.int .i8 y)).drew c { s with K := s.K.set i (S, q0, y) } ∧ Stp c s { s with K := s.K.set i (S, q0, y) } w (w4.setCell ⟨g4, i * 3 + 2, none⟩ (.int .i8 y)).drew) :=
       ⟨(unhide K5).1.kept (cf.grown_drew _ none), (unhide S4).trans ((unhide K5).2.trans (Stp.of_grown (cf.grown_drew _ none)))⟩
      have CWa := hide (watch (i := (i : Int)) (x := y) (unhide K6).1 fs.1 hbq)
      have r2 := ((unhide K6).1.row (i := i) (by show i < (s.K.set i _).length; rw [List.length_set]; exact unhide HI))
      obtain ⟨g7, cap7, eV7, _, _, d0, d1, d2, _⟩ := r2
      have eg : g7 = g4 := by
       have : s.V = .slice (some ⟨g7, 0, none⟩) _ cap7 := eV7
       rw [unhide EV] at this
       simp only [Value.slice.injEq, Option.some.injEq, Addr.mk.injEq, and_true] at this
       exact this.1.symm
      subst eg
      have ed : ({ s with K := s.K.set i (S, q0, y) } : WS).K.getD i zk = (S, q0, y) := set_getD (unhide HI) _
      rw [ed] at d2
      clear eV7 d0 d1 ed K5 c1 c2
      go_wp2_with fail
      refine (unhide CWa).mono ?_; rintro e w8 ⟨s8, rfl, u8⟩
      have F8 : Hid (Wat w8 c s8 ∧ Stp c s s8 w w8 ∧ s8.ps = s.ps.rew i lost ∧ Same (opn S s.tk) s s8) := ⟨u8.1, (unhide K6).2.trans u8.2.1, u8.ps.trans (unhide E5), fun l hl' hb => u8.2.2.2.2.2.2.2 _ (fun e => by
       have e' : placeN l = placeN y := by omega
       rw [unhide HO, e', hOq] at hb
       cases hb)⟩
      clear u8 CWa
      go_wp2_with fail
      go_ret
      rw [unhide MV]
      exact ⟨s8, rfl, unhide F8⟩
 ·have CC := hide cc
  have E := hide (rew_closed (P := s.ps) (i := i) (lost := lost) (by show clsd (s.K.getD i zk).1 s.tk = true; rw [ek]; exact hcl))
  have MV : Hid (s.ps.mvd i lost = false) := mvd_closed (P := s.ps) (by show clsd (s.K.getD i zk).1 s.tk = true; rw [ek]; exact hcl)
  have HW := hide h
  rw [hcl] at CC
  clear cc hw1 hS hT h hcl ek
  go_enter Tryd.func88, Tryd.ntmps88
  go_wp2_with fail
  refine (unhide CC).mono ?_; rintro e w2 ⟨rfl, m2, rfl⟩
  go_wp2_with fail
  go_ret
  rw [unhide MV]
  exact ⟨s, rfl, (unhide HW).kept (grown_drewN w m2), Stp.of_grown (grown_drewN w m2), (unhide E).symm, fun _ _ _ => rfl⟩
end Go.Proofs.YtfhmdpbnnieohaaDoor.wm
namespace Go.Proofs.YtfhmdpbnnieohaaDoor.wm
open Go.ChangeShapes Go.WideShapes Go.ChangeAt Go.RowKit
open wm0 (end0 ret0 stepW listW listB)
open lits (okB okB_iff)
open bset (placeN placeN_le placeC)
open srt (Tab woN woN_lt fstI oppN oppN_lt andN andN_lt orN_eq or_lt)
open sl (Sl Own ints hide unhide ret_int ret_bool grown_refl grown_trans grown_drewN)
set_option linter.unusedVariables false
theorem roomW {ops : Array Oper} {rest : List Oper} {o : Oper} {a : Act} {Q : Exit → Act → World → Prop} {wr : World} {g m cap b : Nat} {y : Int}
  (hb : wr.cell? ⟨b, 0, none⟩ = some (.int .i64 y)) (hroom : m + 1 ≤ cap) (hso : (wr.cell? ⟨g, m, none⟩).isSome = true) (hf : wr.frozen? ⟨g, m, none⟩ = false) (hgd : o.guard = none) (s x : Operand)
  (ho : o.op = .call { callee := .builtin .append, args := #[s, x], argTypes := #[30, 30] }) (hs : a.eval s = .slice (some ⟨g, 0, none⟩) m cap) (hx : a.eval x = .slice (some ⟨b, 0, none⟩) 1 1)
  (hK : wpList Tryd.prog ops Q rest (a.put o.dst (.slice (some ⟨g, 0, none⟩) (m + 1) cap)) (wr.setCell ⟨g, m, none⟩ (.int .i64 y))) :
  wpList Tryd.prog ops Q (o :: rest) a wr := by
 obtain ⟨i0, hi, hz0, hz1, hz2⟩ := info_parts sl.info3
 refine wpList_plain hgd fun K hK' => ?_
 have hrun := run_append_room_cells (P := Tryd.prog) wr 30 o.type 3 i0 Tryd.underlying30 hi g 0 m cap ⟨b, 0, none⟩ 1 1 [.int .i64 y] (by rw [hz1]; rfl) (by
  intro j u hj
  match j, hj with
  | 0, hj => simp at hj; subst hj; simpa [Addr.add] using hb) (by
  intro u hu
  simp at hu
  subst hu
  rfl) hroom (by
  intro j hj
  have : j = 0 := by simpa using hj
  subst this
  rw [hz1]
  simpa using hso) (by
  intro j hj
  have : j = 0 := by simpa using hj
  subst this
  rw [hz1]
  simpa using hf)
 unfold Oper.wp
 simp [execOp, ho, resolve, invoke, builtin, hs, hx, hrun, Result.andThen]
 refine hK' _ _ ?_
 rw [hz1, Nat.mul_one]
 exact hK
theorem Wat.rowj {w w0 : World} {c g n cap k j : Nat} {s : WS} {C C' : List Int} {u : Value} (h : Wat w c s) (hj : j < 50) (e : s.A.getD j nil_ = (.slice (some ⟨g, 0, none⟩) n cap, C)) (g0 : w.grownBy w0 none) (hn : C.length = n) (hC : C'.length = n) (hset : (ints C).set k u = ints C') :
  Wat (w0.setCell ⟨g, k, none⟩ u) c { s with A := s.A.set j (.slice (some ⟨g, 0, none⟩) n cap, C') } ∧ Stp c s { s with A := s.A.set j (.slice (some ⟨g, 0, none⟩) n cap, C') } w (w0.setCell ⟨g, k, none⟩ u) := by
 have hjl : j < s.A.length := by rw [h.len]; exact hj
 have h0 := h.kept g0
 have hown := h0.ls _ (mem_getD hjl)
 have hnc := row_nec hown h0.blk h0.ty.2
 rw [e] at hown hnc
 have gg := sl.grown_setCell w0 g k u
 have hgc : g ≠ c := by
  rcases hnc with q | q
  ·cases q
  ·intro e'; subst e'; exact q rfl
 have hown' : w0.ownsRow 0 3 1 (.slice (some ⟨g, 0, none⟩) n cap) n (ints C) := by rw [← hn] at hown ⊢; exact hown
 have hst := (hown'.stored k u).1
 rw [hset] at hst
 have hob : (s.A.getD j nil_).1.ownBlock = some g := by rw [e]; rfl
 have ea : ∀ q, ((s.A.set j (Value.slice (some ⟨g, 0, none⟩) n cap, C')).getD q nil_).1 = (s.A.getD q nil_).1 := by
  intro q
  by_cases hq : q = j
  ·subst hq
   rw [e]
   simp [hjl]
  ·rw [List.getD, List.getElem?_set_ne (fun e => hq e.symm)]
   rfl
 have eg : ∀ q (hq : q < (s.A.set j (Value.slice (some ⟨g, 0, none⟩) n cap, C')).length) (hq' : q < s.A.length), ((s.A.set j (Value.slice (some ⟨g, 0, none⟩) n cap, C'))[q]).1 = (s.A[q]).1 := by
  intro q hq hq'
  have := ea q
  rw [List.getD, List.getD, List.getElem?_eq_getElem hq, List.getElem?_eq_getElem hq'] at this
  exact this
 refine ⟨⟨?_, by rw [List.length_set]; exact h.len, ?_, ?_, ?_, h.ty⟩, ⟨gg.os.trans g0.os, gg.tape.trans g0.tape, gg.output.trans g0.output, Nat.le_trans g0.size gg.size, ?_, ?_, rfl, rfl⟩⟩
 ·have ec : ({ s with A := s.A.set j (.slice (some ⟨g, 0, none⟩) n cap, C') } : WS).cells = s.cells := by
   unfold WS.cells
   refine congrArg (· ++ s.ex) ?_
   apply List.map_congr_left
   intro q _
   unfold WS.at
   simp only [ea]
  rw [ec, gg.block c h0.lt (fun e => hgc (by cases e; rfl))]
  exact h0.blk
 ·exact h0.cl.kept gg (by
   rcases row_ne h0.cl (h0.ls _ (mem_getD hjl)) types3 with q | q
   ·exact .inl q
   ·rw [hob] at q
    exact .inr q)
 ·intro p hp
  obtain ⟨i, hi, rfl⟩ := List.mem_iff_getElem.1 hp
  rw [List.length_set] at hi
  rw [List.getElem_set]
  by_cases e0 : j = i
  ·rw [if_pos e0]
   show (w0.setCell ⟨g, k, none⟩ u).ownsRow 0 3 1 (.slice (some ⟨g, 0, none⟩) n cap) C'.length (ints C')
   rw [hC]
   exact hst
  ·rw [if_neg e0]
   have hr := h0.ls _ (mem_getD hi)
   have ha := apart_of h.ap hi hjl (fun q => e0 q.symm)
   rw [show s.A.getD i nil_ = s.A[i] by simp [hi]] at hr ha
   exact hr.kept gg (by
    cases q : (s.A[i]).1.ownBlock with
    | none => exact .inl rfl
    | some g' => exact .inr (fun e => ha g' q (by rw [hob]; exact e.symm)))
 ·rw [List.pairwise_iff_getElem]
  intro a b ha hb hab
  have ha' := ha
  have hb' := hb
  rw [List.length_set] at ha' hb'
  have key := List.pairwise_iff_getElem.1 h.ap a b ha' hb' hab
  intro g' q1 q2
  rw [eg a ha ha'] at q1
  rw [eg b hb hb'] at q2
  exact key g' q1 q2
 ·intro k' hk' hn'
  rw [gg.block k' (Nat.lt_of_lt_of_le hk' g0.size) (fun e => hn' (.inr (.inr ⟨_, mem_getD hjl, by rw [hob]; exact e.symm⟩)))]
  exact g0.block k' hk' (fun e => by cases e)
 ·intro k' f
  refine .inl ?_
  rcases f with f | f | ⟨p, hp, f⟩
  ·exact .inl f
  ·exact .inr (.inl f)
  ·obtain ⟨i, hi, rfl⟩ := List.mem_iff_getElem.1 hp
   have hi' := hi
   rw [List.length_set] at hi'
   rw [eg i hi hi'] at f
   exact .inr (.inr ⟨_, List.getElem_mem hi', f⟩)
theorem own_cut {w : World} {b g n m cap : Nat} {xs : List Value} (h : w.ownsRow b 3 1 (.slice (some ⟨g, 0, none⟩) n cap) n xs) (hm : m ≤ n) : w.ownsRow b 3 1 (.slice (some ⟨g, 0, none⟩) m cap) m (xs.take m) := by
 obtain ⟨h1, h2⟩ := h
 rcases h2 with ⟨e, _⟩ | ⟨g', cap', cur, e, hg, hh, hn, hm', hs, ht⟩
 ·cases e
 ·simp only [Value.slice.injEq, Option.some.injEq, Addr.mk.injEq, and_true, true_and] at e
  obtain ⟨rfl, rfl⟩ := e
  refine ⟨by rw [List.length_take]; omega, .inr ⟨g, cap, cur, rfl, hg, hh, by omega, hm', hs, ?_⟩⟩
  rw [← ht, List.take_take]
  congr 1
  omega
end Go.Proofs.YtfhmdpbnnieohaaDoor.wm
namespace Go.Proofs.YtfhmdpbnnieohaaDoor.wm
open Go.ChangeShapes Go.WideShapes Go.ChangeAt Go.RowKit
open wm0 (end0 ret0 stepW listW listB)
open lits (okB okB_iff)
open bset (placeN placeN_le placeC)
open srt (Tab woN woN_lt fstI oppN oppN_lt andN andN_lt orN_eq or_lt)
open sl (Sl Own ints hide unhide ret_int ret_bool grown_refl grown_trans grown_drewN)
set_option linter.unusedVariables false
def PS.setL (P : PS) (j : Nat) (M : List Int) : PS := { P with A := P.A.set j M }
structure Fit (I : PS → Nat → Int → List Int → List Int → Prop) (N : Nat) : Prop where
 size : ∀ P R l F C, I P R l F C → P.K.length = N
 word : ∀ P R l F C, I P R l F C → P.tk < 2 ^ 48
 all : ∀ P R l F C, I P R l F C → ∀ i, i < N → (P.K.getD i zk).1 < 2 ^ 48
 lit0 : ∀ P R l F C, I P R l F C → ∀ i, i ∈ C → ∃ k : Nat, i = (k : Int) ∧ k < N ∧ okB (P.K.getD k zk).2.1 = true ∧ okB (P.K.getD k zk).2.2 = true ∧ (P.A.getD 0 []).length ≤ 4194304 ∧
  (∀ q, okB q = true → (opn (P.K.getD k zk).1 P.tk).testBit (placeN q) = true → (P.A.getD (1 + placeN q) []).length ≤ 4194304)
 lost : ∀ P R l F C, I P R l F C → C ≠ [] → okB l = true ∧ ∀ S, (opn S P.tk).testBit (placeN l) = false
 lens : ∀ P R l F C, I P R l F C → (F ++ C).length ≤ 4194304
 next : ∀ P R l F, I P R l F [] → 0 < R → R < 2 ^ 48 → I P (R &&& (R - 1)) (-fstI R) [] (P.A.getD (1 + placeN (-fstI R)) [])
 stay : ∀ P R l F (i : Nat) C, I P R l F ((i : Int) :: C) → P.mvd i l = false → I (P.rew i l) R l (F ++ [(i : Int)]) C
 move : ∀ P R l F (i : Nat) C, I P R l F ((i : Int) :: C) → P.mvd i l = true → I ((P.rew i l).setL (1 + placeN l) (F ++ C)) R l F C
theorem ps_getD (s : WS) (j : Nat) : s.ps.A.getD j [] = (s.A.getD j nil_).2 := map_getD s.A j
theorem drop_cons {C : List Int} {t : Nat} (h : t < C.length) : C.drop t = C.getD t 0 :: C.drop (t + 1) := by
 rw [List.drop_eq_getElem_cons h]
 simp [h]
theorem setL_setL (P : PS) (j : Nat) (M M' : List Int) : (P.setL j M).setL j M' = P.setL j M' := by
 unfold PS.setL
 simp only [List.set_set]
theorem more_setL (P : PS) {j i : Nat} (M : List Int) (y : Int) (h : i ≠ j) : (P.setL j M).more i y = (P.more i y).setL j M := by
 unfold PS.setL PS.more
 simp only [PS.mk.injEq, true_and, and_true]
 rw [show (P.A.set j M).getD i [] = P.A.getD i [] by rw [List.getD, List.getD, List.getElem?_set_ne (fun e => h e.symm)], List.set_comm _ _ (fun e => h e)]
theorem rew_setL (P : PS) {i : Nat} {l : Int} (M : List Int) (hl : okB l = true) (hlo : ∀ S, (opn S P.tk).testBit (placeN l) = false) (hS : (P.K.getD i zk).1 < 2 ^ 48) (h0 : okB (P.K.getD i zk).2.1 = true) (h1 : okB (P.K.getD i zk).2.2 = true) :
  (P.setL (1 + placeN l) M).rew i l = (P.rew i l).setL (1 + placeN l) M := by
 have eK : (P.setL (1 + placeN l) M).K = P.K := rfl
 have et : (P.setL (1 + placeN l) M).tk = P.tk := rfl
 have k0 : okB (sw0 (P.K.getD i zk) l) = true := by
  unfold sw0
  split
  ·exact h1
  ·exact h0
 unfold PS.rew
 rw [eK, et]
 split
 ·rfl
 ·split
  ·rfl
  ·rename_i hO
   split
   ·exact more_setL { P with K := swK P.K i l } (j := 1 + placeN l) (i := 0) M (i : Int) (by omega)
   ·rename_i hR
    have fs := fst_spec (show 0 < woN (opn (P.K.getD i zk).1 P.tk) (sw0 (P.K.getD i zk) l) by omega) (woN_lt (andN_lt _ _ hS))
    refine more_setL { P with K := P.K.set i _ } (j := 1 + placeN l) (i := 1 + placeN _) M (i : Int) (fun e => ?_)
    have e' : placeN (fstI (woN (opn (P.K.getD i zk).1 P.tk) (sw0 (P.K.getD i zk) l))) = placeN l := by omega
    have hb := fs.2
    have hol : opn (P.K.getD i zk).1 P.tk < 2 ^ 48 := andN_lt _ _ hS
    rw [srt.woN_bit (opn (P.K.getD i zk).1 P.tk) _ _ hol k0, Bool.and_eq_true, e', hlo] at hb
    exact absurd hb.1 (by simp)
theorem ps_set (s : WS) (j : Nat) (v : Value) (M : List Int) : ({ s with A := s.A.set j (v, M) } : WS).ps = s.ps.setL j M := by
 unfold WS.ps PS.setL
 simp only [List.map_set]
def Lse (I : PS → Nat → Int → List Int → List Int → Prop) (c : Nat) (s s' : WS) (w w' : World) (R : Nat) (l : Int) (F : List Int) : Prop := Wat w' c s' ∧ Stp c s s' w w' ∧ I s'.ps R l F []
def Mid (I : PS → Nat → Int → List Int → List Int → Prop) (c : Nat) (s s2 : WS) (w wr : World) (R : Nat) (l : Int) (g cap t : Nat) (F C : List Int) : Prop :=
 Wat wr c s2 ∧ Stp c s s2 w wr ∧ s2.A.getD (1 + placeN l) nil_ = (.slice (some ⟨g, 0, none⟩) C.length cap, F ++ C.drop F.length) ∧ I (s2.ps.setL (1 + placeN l) (F ++ C.drop t)) R l F (C.drop t)
set_option maxRecDepth 100000 in
set_option maxHeartbeats 8000000 in
theorem lose {I : PS → Nat → Int → List Int → List Int → Prop} {N R c : Nat} {w : World} {s : WS} {l : Int} (FT : Fit I N) (hN : N ≤ 1048576) (h : Wat w c s) (hTab : TabF c s w) (hl : okB l = true) (hI : I s.ps R l [] (s.A.getD (1 + placeN l) nil_).2) :
  Calls Tryd.prog 81 #[.pointer (some ⟨c, 0, none⟩), .int .i8 l] w fun e w' => ∃ s' F, e = .returned (.tuple #[]) ∧ Lse I c s s' w w' R l F := by
 have CP := hide (fun w => placeC l w hl)
 have hp := placeN_le hl
 have hj49 : 1 + placeN l < 49 := by omega
 have hj : 1 + placeN l < 50 := by omega
 have hjl : 1 + placeN l < s.A.length := by rw [h.len]; exact hj
 have own1 := h.ls _ (mem_getD hjl)
 have ep : pos (1 + placeN l) = 1 + placeN l := by unfold pos; rw [if_neg (by omega), if_neg (by omega)]
 have x1 := h.cell (pos_lt hj)
 rw [atPos s hj, ep] at x1
 have f1 := h.fz (1 + placeN l)
 have hlen := FT.lens _ _ _ _ _ hI
 have HT := hide hTab
 have HF := hide FT
 have HL := hide hl
 obtain ⟨v, C, eA⟩ : ∃ v C, s.A.getD (1 + placeN l) nil_ = (v, C) := ⟨_, _, rfl⟩
 rw [eA] at own1 x1 hI hlen
 have own1' : w.ownsRow 0 3 1 v C.length (ints C) := own1
 have x1' : w.cell? ⟨c, 1 + placeN l, none⟩ = some v := x1
 have hI' : I s.ps R l [] C := hI
 have hCl : C.length ≤ 4194304 := hlen
 have hp' : (placeN l : Int) < 48 := by omega
 have own2 := own1'
 obtain ⟨_, ho⟩ := own2
 rcases ho with ⟨rfl, hn0⟩ | ⟨g, cap, cur, rfl, _, _, hnc, hmc, _, _⟩
 ·have hC : C = [] := List.eq_nil_of_length_eq_zero hn0
  subst hC
  have k := h.set (s' := s) (q := 1 + placeN l) (v := .slice none 0 0) (by omega) (fun q hq => by
   by_cases e : q = 1 + placeN l
   ·subst e
    rw [if_pos rfl]
    have a := atPos s hj
    rw [ep, eA] at a
    exact a
   ·rw [if_neg e]) rfl rfl rfl ⟨rfl, rfl⟩
  have gk := fun (w1 : World) (g1 : w.grownBy w1 none) => ((h.kept g1).set (s' := s) (q := 1 + placeN l) (v := .slice none 0 0) (by omega) (fun q hq => by
   by_cases e : q = 1 + placeN l
   ·subst e
    rw [if_pos rfl]
    have a := atPos s hj
    rw [ep, eA] at a
    exact a
   ·rw [if_neg e]) rfl rfl rfl ⟨rfl, rfl⟩)
  have FD : Hid (∀ nq, Lse I c s s w ((w.drewN nq).setCell ⟨c, 1 + placeN l, none⟩ (.slice none 0 0)).drew R l []) := fun nq =>
   ⟨(gk _ (grown_drewN w nq)).1.kept (grown_drewN _ 1), (Stp.of_grown (grown_drewN w nq)).trans ((gk _ (grown_drewN w nq)).2.trans (Stp.of_grown (grown_drewN _ 1))), hI'⟩
  have f1' : Hid (∀ nq, (w.drewN nq).cell? ⟨c, 1 + placeN l, none⟩ = some (.slice none 0 0) ∧ (w.drewN nq).frozen? ⟨c, 1 + placeN l, none⟩ = false) := fun nq => ⟨x1', f1⟩
  clear h hTab FT hl own1 own1' x1 hI hI' hlen hjl eA k gk hn0
  generalize hpp : placeN l = p at *
  go_enter Tryd.func81, Tryd.ntmps81
  go_wp2_with fail
  go_quiet ((go_at_call 60; exact Calls.quiet_of_same (unhide CP _)))
  have FE := hide (unhide FD nq)
  obtain ⟨y1, y2⟩ := unhide f1' nq
  clear FD f1' x1' f1
  generalize w.drewN nq = w2 at *
  go_wp2_with fail
  refine wp_loop_rounds 1 ?_
  rw [rounds_succ]
  go_wp2_with fail
  go_region_with (go_at_call 60; refine (unhide CP _).mono ?_; rintro e w3 ⟨rfl, hw⟩; have hw' := hw.symm; clear hw; subst hw')
  all_goals
   go_wp2_with fail
   first
    | exact end0 rfl rfl ⟨s, [], rfl, unhide FE⟩
    | exact ret0 rfl rfl ⟨s, [], rfl, unhide FE⟩
 ·have K0 : Hid (Mid I c s s w w R l g cap 0 [] C) := by
   refine ⟨h, Stp.refl _ _ _, by rw [eA]; rfl, ?_⟩
   have : s.ps.setL (1 + placeN l) ([] ++ C.drop 0) = s.ps := by
    unfold PS.setL WS.ps
    have e : (s.A.map (·.2)).set (1 + placeN l) ([] ++ C.drop 0) = s.A.map (·.2) := by
     rw [List.nil_append, List.drop_zero]
     have e2 : C = (s.A.map (·.2))[1 + placeN l]'(by rw [List.length_map]; exact hjl) := by
      rw [List.getElem_map, show s.A[1 + placeN l] = s.A.getD (1 + placeN l) nil_ by simp [hjl], eA]
     rw [e2]
     exact List.set_getElem_self _
    simp only [e]
   rw [this]
   exact hI'
  have hcap : C.length ≤ cap := hnc
  clear h hTab FT hl own1 own1' x1 hI hI' hlen hjl eA hnc hmc
  generalize hpp : placeN l = p at *
  go_enter Tryd.func81, Tryd.ntmps81
  go_wp2_with fail
  go_quiet ((go_at_call 60; exact Calls.quiet_of_same (unhide CP _)))
  have K1 : Hid (Mid I c s s w (w.drewN nq) R l g cap 0 [] C) := by
   have k := unhide K0
   exact ⟨k.1.kept (grown_drewN w nq), k.2.1.trans (Stp.of_grown (grown_drewN w nq)), k.2.2.1, k.2.2.2⟩
  clear K0 x1' f1
  go_wp2_with fail
  go_loopw [5, 7, 19] (fun u _ iv wr => ∃ (t : Nat) (F : List Int) (s2 : WS), t ≤ C.length ∧ F.length ≤ t ∧ iv = .int .i64 (t : Int) ∧ u = .slice (some ⟨g, 0, none⟩) F.length cap ∧ Hid (Mid I c s s2 w wr R l g cap t F C)) (fun _ _ iv _ => C.length - (intOf iv).toNat)
  case atStart => exact ⟨0, [], s, Nat.zero_le _, Nat.le_refl _, rfl, rfl, K1⟩
  case round =>
   obtain ⟨t, F, s2, ht, hFt, rfl, rfl, hk⟩ := hrel
   clear K1
   have hpj : 1 + placeN l = 1 + p := by rw [hpp]
   by_cases hlt : t < C.length
   ·have hi' : (t : Int) < (C.length : Int) := by omega
    obtain ⟨W2, S2, eA, I2⟩ := unhide hk
    have hjl : 1 + placeN l < s2.A.length := by rw [W2.len]; omega
    have own2 := W2.ls _ (mem_getD hjl)
    rw [eA] at own2
    have hfl : (F ++ C.drop F.length).length = C.length := by rw [List.length_append, List.length_drop]; omega
    have c1 : wr.cell? ⟨g, t, none⟩ = some (.int .i64 (C.getD t 0)) := by
     have o2 : wr.ownsRow 0 3 1 (.slice (some ⟨g, 0, none⟩) C.length cap) C.length (ints (F ++ C.drop F.length)) := by
      have := own2
      rw [hfl] at this
      exact this
     rw [o2.cellAt t (by omega)]
     have e : (F ++ C.drop F.length)[t]? = some (C.getD t 0) := by
      rw [List.getElem?_append_right hFt, List.getElem?_drop, show F.length + (t - F.length) = t by omega, List.getElem?_eq_getElem hlt]
      simp [hlt]
     rw [sl.ints, List.getElem?_map, e]
     rfl
    have ed := drop_cons hlt
    rw [ed] at I2
    generalize C.getD t 0 = x at *
    obtain ⟨k, rfl, hkN, o0, o1, z0, z1⟩ := (unhide HF).lit0 _ _ _ _ _ I2 x (by simp)
    have hsz : s2.K.length = N := (unhide HF).size _ _ _ _ _ I2
    have hlo := (unhide HF).lost _ _ _ _ _ I2 (by simp)
    have hka : k < s2.K.length := by rw [hsz]; exact hkN
    have T2 := (unhide HT).stp S2
    have hS := (unhide HF).all _ _ _ _ _ I2 k hkN
    have hTk := (unhide HF).word _ _ _ _ _ I2
    have oth : ∀ q, q ≠ 1 + placeN l → (s2.ps.setL (1 + placeN l) (F ++ (k : Int) :: C.drop (t + 1))).A.getD q [] = (s2.A.getD q nil_).2 := fun q hq => by
     rw [← ps_getD]
     show (s2.ps.A.set (1 + placeN l) _).getD q [] = _
     rw [List.getD, List.getElem?_set_ne (fun e => hq e.symm)]
     rfl
    rw [oth 0 (by omega)] at z0
    have CR := rewatch (lost := l) W2 T2 hka (by rw [hsz]; exact hN) rfl hS hTk (unhide HL) o0 o1 z0 (fun q hq hb => by
     have := z1 q hq hb
     rw [oth (1 + placeN q) (fun e => by
      have e' : placeN q = placeN l := by omega
      have hb2 : (opn (s2.K.getD k zk).1 s2.tk).testBit (placeN q) = true := hb
      rw [e'] at hb2
      have hb3 := hlo.2 (s2.K.getD k zk).1
      rw [show (s2.ps.setL (1 + placeN l) (F ++ (k : Int) :: C.drop (t + 1))).tk = s2.tk from rfl, hb2] at hb3
      cases hb3)] at this
     exact this)
    have RS := fun M => rew_setL s2.ps (i := k) (l := l) M (unhide HL) hlo.2 hS o0 o1
    have MV : ∀ M, (s2.ps.setL (1 + placeN l) M).mvd k l = s2.ps.mvd k l := fun _ => rfl
    cases hmv : s2.ps.mvd k l
    ·have I3 := (unhide HF).stay _ _ _ _ _ _ I2 (by rw [MV]; exact hmv)
     rw [RS] at I3
     rw [hmv] at CR
     have NX : Hid (∀ s3 w3, Wat w3 c s3 → Stp c s2 s3 wr w3 → s3.ps = s2.ps.rew k l → Same (opn (s2.K.getD k zk).1 s2.tk) s2 s3 →
       (w3.cell? ⟨g, F.length, none⟩).isSome = true ∧ w3.frozen? ⟨g, F.length, none⟩ = false ∧ (∃ s4, Mid I c s s4 w ((w3.alloc (.cells #[.int .i64 (k : Int)] 3)).setCell ⟨g, F.length, none⟩ (.int .i64 (k : Int))) R l g cap (t + 1) (F ++ [(k : Int)]) C)) := by
      intro s3 w3 q1 q2 q3 q4
      have e3 : s3.A.getD (1 + placeN l) nil_ = (.slice (some ⟨g, 0, none⟩) C.length cap, F ++ C.drop F.length) := by rw [q4 l (unhide HL) (hlo.2 _)]; exact eA
      have hjl3 : 1 + placeN l < s3.A.length := by rw [q1.len]; omega
      have own3 := q1.ls _ (mem_getD hjl3)
      rw [e3] at own3
      have o3 : w3.ownsRow 0 3 1 (.slice (some ⟨g, 0, none⟩) C.length cap) C.length (ints (F ++ C.drop F.length)) := by
       have := own3
       rw [hfl] at this
       exact this
      refine ⟨?_, o3.frozenAt _, ?_⟩
      ·rw [o3.cellAt F.length (by omega), List.getElem?_eq_getElem (by rw [sl.ints_length, hfl]; omega)]
       rfl
      ·have hset : (ints (F ++ C.drop F.length)).set F.length (.int .i64 (k : Int)) = ints ((F ++ [(k : Int)]) ++ C.drop (F ++ [(k : Int)]).length) := by
        have hd : C.drop F.length = C.getD F.length 0 :: C.drop (F.length + 1) := drop_cons (by omega)
        rw [hd]
        unfold sl.ints
        rw [List.map_append, List.set_append_right _ _ (by simp)]
        simp
       have k4 := q1.rowj (k := F.length) (C' := (F ++ [(k : Int)]) ++ C.drop (F ++ [(k : Int)]).length) hj (by rw [← hpj] at *; exact e3) (World.grownBy_alloc w3 (.cells #[.int .i64 (k : Int)] 3) none) hfl (by rw [List.length_append, List.length_append, List.length_drop]; simp; omega) hset
       rw [← hpj] at k4
       refine ⟨_, k4.1, S2.trans (q2.trans k4.2), ?_, ?_⟩
       ·show (s3.A.set _ _).getD _ nil_ = _
        simp [hjl3]
       ·rw [ps_set, setL_setL, q3]
        have e5 : F ++ (k : Int) :: C.drop (t + 1) = (F ++ [(k : Int)]) ++ C.drop (t + 1) := by simp
        rw [← e5]
        exact I3
     have HCR := hide CR
     have hroom : F.length + 1 ≤ cap := by omega
     clear CR W2 S2 I2 eA own2 hlo hsz o0 o1 z0 z1 T2 ed hk RS MV I3 oth hS hTk hfl hmv
     go_wp2_with fail
     refine (unhide HCR).mono ?_; rintro e w3 ⟨s3, rfl, q1, q2, q3, q4⟩
     obtain ⟨r1, r2, s4, r3⟩ := unhide NX s3 w3 q1 q2 q3 q4
     have lg : g < w3.heap.size := by
      cases hh : w3.cell? ⟨g, F.length, none⟩ with
      | none => rw [hh] at r1; cases r1
      | some u => exact World.block_lt_of_cell? w3 _ hh
     have hne : ¬ g = w3.heap.size := by omega
     have ew : (w3.alloc (.cells #[.int .i64 (k : Int)] 3)).setCell ⟨g, F.length, none⟩ (.int .i64 (k : Int)) = (w3.setCell ⟨g, F.length, none⟩ (.int .i64 (k : Int))).alloc (.cells #[.int .i64 (k : Int)] 3) := World.setCell_alloc_past _ _ _ _ lg
     rw [ew] at r3
     have R3 := hide r3
     clear ew
     have A1 : Hid (((w3.alloc (.cells #[.int .i64 (k : Int)] 3)).cell? ⟨g, F.length, none⟩).isSome = true ∧ (w3.alloc (.cells #[.int .i64 (k : Int)] 3)).frozen? ⟨g, F.length, none⟩ = false ∧ (w3.alloc (.cells #[.int .i64 (k : Int)] 3)).cell? ⟨w3.heap.size, 0, none⟩ = some (.int .i64 (k : Int))) := by
      have e : (w3.alloc (.cells #[.int .i64 (k : Int)] 3)).heap[g]? = w3.heap[g]? := Go.heap_alloc_old w3 _ lg
      exact ⟨by rw [World.cell?_of_block (a := ⟨g, F.length, none⟩) e]; exact r1, by rw [World.frozen?_of_block (a := ⟨g, F.length, none⟩) e]; exact r2, by simp⟩
     clear q1 q2 q3 q4 NX HCR r1 r2 r3
     go_wp2_with (at_builtin; refine roomW (unhide A1).2.2 hroom (unhide A1).1 (unhide A1).2.1 rfl (.tmp 28) (.tmp 30) rfl rfl rfl ?_)
     have fl : (F ++ [(k : Int)]).length = F.length + 1 := by simp
     go_roundw
     case rel => exact ⟨t + 1, F ++ [(k : Int)], s4, by omega, by omega, by go_num, by rw [fl], R3⟩
     case measure => simp [intOf]; omega
    ·have I3 := (unhide HF).move _ _ _ _ _ _ I2 (by rw [MV]; exact hmv)
     rw [RS, setL_setL] at I3
     rw [hmv] at CR
     have NX : Hid (∀ s3 w3, Wat w3 c s3 → Stp c s2 s3 wr w3 → s3.ps = s2.ps.rew k l → Same (opn (s2.K.getD k zk).1 s2.tk) s2 s3 → Mid I c s s3 w w3 R l g cap (t + 1) F C) := by
      intro s3 w3 q1 q2 q3 q4
      refine ⟨q1, S2.trans q2, by rw [q4 l (unhide HL) (hlo.2 _)]; exact eA, ?_⟩
      rw [q3]
      exact I3
     have HCR := hide CR
     clear CR W2 S2 I2 eA own2 hlo hsz o0 o1 z0 z1 T2 ed hk RS MV I3 oth hS hTk hfl hmv
     go_wp2_with fail
     refine (unhide HCR).mono ?_; rintro e w3 ⟨s3, rfl, q1, q2, q3, q4⟩
     have R3 := hide (unhide NX s3 w3 q1 q2 q3 q4)
     clear q1 q2 q3 q4 NX HCR
     go_wp2_with fail
     go_roundw
     case rel => exact ⟨t + 1, F, s3, by omega, by omega, by go_num, rfl, R3⟩
     case measure => simp [intOf]; omega
   ·have hi' : ¬ (t : Int) < (C.length : Int) := by omega
    obtain ⟨W2, S2, eA, I2⟩ := unhide hk
    have hjl : 1 + placeN l < s2.A.length := by rw [W2.len]; omega
    have own2 := W2.ls _ (mem_getD hjl)
    rw [eA] at own2
    have hfl : (F ++ C.drop F.length).length = C.length := by rw [List.length_append, List.length_drop]; omega
    have o2 : wr.ownsRow 0 3 1 (.slice (some ⟨g, 0, none⟩) C.length cap) C.length (ints (F ++ C.drop F.length)) := by
     have := own2
     rw [hfl] at this
     exact this
    have o3 := own_cut o2 (show F.length ≤ C.length by omega)
    have et : (ints (F ++ C.drop F.length)).take F.length = ints F := by
     unfold sl.ints
     rw [← List.map_take, List.take_left]
    rw [et] at o3
    have hdt : C.drop t = [] := List.drop_eq_nil_of_le (by omega)
    rw [hdt, List.append_nil] at I2
    have FIN : Hid (∀ w1, wr.grownBy w1 none → Lse I c s { s2 with A := s2.A.set (1 + placeN l) (.slice (some ⟨g, 0, none⟩) F.length cap, F) } w (w1.setCell ⟨c, pos (1 + placeN l), none⟩ (.slice (some ⟨g, 0, none⟩) F.length cap)) R l F) := by
     intro w1 g1
     have k := W2.list (w0 := w1) (w1 := w1) (j := 1 + placeN l) (M := F) (g := g) (n := F.length) (cap := cap) (by omega) g1 (o3.kept g1 (ne_none _)) ⟨rfl, rfl, rfl, Nat.le_refl _, fun _ _ _ => rfl⟩ (.inl (by rw [eA]; rfl))
     exact ⟨k.1, S2.trans k.2, by rw [ps_set]; exact I2⟩
    have x1 := W2.cell (pos_lt hj)
    have eA' := eA
    rw [hpj] at eA'
    rw [atPos s2 hj, ep, eA'] at x1
    have f1 := W2.fz (1 + p)
    rw [hpj, ep] at FIN
    have FD : Hid (Lse I c s { s2 with A := s2.A.set (1 + p) (.slice (some ⟨g, 0, none⟩) F.length cap, F) } w (wr.setCell ⟨c, 1 + p, none⟩ (.slice (some ⟨g, 0, none⟩) F.length cap)).drew R l F) := by
     have k := unhide FIN wr (grown_refl _)
     exact ⟨k.1.kept (grown_drewN _ 1), k.2.1.trans (Stp.of_grown (grown_drewN _ 1)), k.2.2⟩
    clear W2 S2 eA eA' own2 o2 o3 et hdt I2 hk hfl FIN hjl
    go_wp2_with fail
    go_region_with (go_at_call 60; refine (unhide CP _).mono ?_; rintro e w3 ⟨rfl, hw⟩; have hw' := hw.symm; clear hw; subst hw')
    all_goals
     go_wp2_with fail
     first
      | exact end0 rfl rfl ⟨_, F, rfl, unhide FD⟩
      | exact ret0 rfl rfl ⟨_, F, rfl, unhide FD⟩
end Go.Proofs.YtfhmdpbnnieohaaDoor.wm
namespace Go.Proofs.YtfhmdpbnnieohaaDoor.wm
open Go.ChangeShapes Go.WideShapes Go.ChangeAt Go.RowKit
open wm0 (end0 ret0 stepW listW listB)
open lits (okB okB_iff)
open bset (placeN placeN_le placeC)
open srt (Tab woN woN_lt fstI oppN oppN_lt andN andN_lt orN_eq or_lt)
open sl (Sl Own ints hide unhide ret_int ret_bool grown_refl grown_trans grown_drewN)
set_option linter.unusedVariables false
def Tk (I : PS → Nat → Int → List Int → List Int → Prop) (c : Nat) (s s' : WS) (w w' : World) (R : Nat) (l : Int) (F : List Int) : Prop := Wat w' c s' ∧ Stp c s s' w w' ∧ I s'.ps R l F []
set_option maxRecDepth 100000 in
set_option maxHeartbeats 8000000 in
theorem take {I : PS → Nat → Int → List Int → List Int → Prop} {N L c : Nat} {w : World} {s : WS} {l0 : Int} {F0 : List Int} (F : Fit I N) (hN : N ≤ 1048576) (h : Wat w c s) (hTab : TabF c s w) (hL : L < 2 ^ 48) (ht : s.tk < 2 ^ 48) (hI : I { s.ps with tk := s.tk ||| L } L l0 F0 []) :
  Calls Tryd.prog 70 #[.pointer (some ⟨c, 0, none⟩), .int .u64 (L : Int)] w fun e w' => ∃ s' l F', e = .returned (.tuple #[]) ∧ Tk I c s s' w w' 0 l F' := by
 have x49 := h.cell (k := 49) (by decide)
 have f49 := h.fz 49
 rw [at49] at x49
 have e1 := orN_eq s.tk L ht hL
 have k1 := h.setTk (s.tk ||| L)
 have st : Hid (Tk I c s { s with tk := s.tk ||| L } w (w.setCell ⟨c, 49, none⟩ (.int .u64 ((s.tk ||| L : Nat) : Int))) L l0 F0) := ⟨k1.1, k1.2, hI⟩
 rw [← e1] at st
 have HT := hide hTab
 have HF := hide F
 generalize s.tk = T at *
 clear k1 e1 hI h hTab ht F
 go_enter Tryd.func70, Tryd.ntmps70
 go_wp2
 clear x49 f49
 go_loopw [1] (fun sv wr => ∃ (R : Nat) (s' : WS) (l : Int) (F : List Int), sv = .int .u64 (R : Int) ∧ R < 2 ^ 48 ∧ Hid (Tk I c s s' w wr R l F)) (fun sv _ => (intOf sv).toNat)
 case atStart => exact ⟨L, _, l0, F0, rfl, hL, st⟩
 case round =>
  obtain ⟨R, s1, l1, F1, rfl, hR, hk⟩ := hrel
  clear st
  by_cases h0 : R = 0
  ·subst h0
   go_wp2
   first
    | exact end0 rfl rfl ⟨s1, l1, F1, rfl, unhide hk⟩
    | exact ret0 rfl rfl ⟨s1, l1, F1, rfl, unhide hk⟩
  ·have hne : ((R : Int) != 0) = true := by simp; omega
   have hRp : 0 < R := by omega
   have fs := fst_spec hRp hR
   have T1 := (unhide HT).stp (unhide hk).2.1
   have CF := hide (srt.first R _ T1.1 hRp hR)
   have bd := okB_iff.1 fs.1
   have oo := opp_ok fs.1
   have hI2 := (unhide HF).next _ _ _ _ (unhide hk).2.2 hRp hR
   rw [ps_getD] at hI2
   have hand := srt.and_pred R hRp hR
   have hns : R &&& (R - 1) < R := srt.next_lt hRp
   have hs1 : 1 ≤ R := by omega
   have CL := hide (lose (unhide HF) hN (unhide hk).1 T1 oo hI2)
   have K1 := hide (unhide hk).2.1
   have HA := hide hand
   have NS := hide hns
   clear hI2 fs hand hns T1 hk oo
   generalize hy : fstI R = y at *
   obtain ⟨b0, b1, b2⟩ := bd
   go_wp2_with fail
   refine (unhide CF).mono ?_; rintro e w2 ⟨rfl, hw⟩; have hw' := hw.symm; clear hw; subst hw'
   go_wp2_with fail
   refine (unhide CL).mono ?_; rintro e w3 ⟨s3, F3, rfl, q1, q2, q3⟩
   have R3 : Hid (Tk I c s s3 w w3 (R &&& (R - 1)) (-y) F3) := ⟨q1, (unhide K1).trans q2, q3⟩
   clear q1 q2 q3 CL CF
   go_wp2_with fail
   go_roundw
   case rel => exact ⟨R &&& (R - 1), s3, -y, F3, by rw [← unhide HA], Nat.lt_trans (unhide NS) hR, R3⟩
   case measure => rw [unhide HA]; simp [intOf]; have := unhide NS; omega
end Go.Proofs.YtfhmdpbnnieohaaDoor.wm
namespace Go.Proofs.YtfhmdpbnnieohaaDoor.wm
open Go.ChangeShapes Go.WideShapes Go.ChangeAt Go.RowKit
open wm0 (end0 ret0 stepW listW listB)
open lits (okB okB_iff)
open bset (placeN placeN_le placeC)
open srt (Tab woN woN_lt fstI oppN oppN_lt andN andN_lt orN_eq or_lt)
open sl (Sl Own ints hide unhide ret_int ret_bool grown_refl grown_trans grown_drewN)
set_option linter.unusedVariables false
theorem Wat.row0 {w w0 : World} {c g n cap k : Nat} {s : WS} {C C' : List Int} {u : Value} (h : Wat w c s) (e : s.A.getD 0 nil_ = (.slice (some ⟨g, 0, none⟩) n cap, C)) (g0 : w.grownBy w0 none) (hn : C.length = n) (hC : C'.length = n) (hset : (ints C).set k u = ints C') :
  Wat (w0.setCell ⟨g, k, none⟩ u) c { s with A := s.A.set 0 (.slice (some ⟨g, 0, none⟩) n cap, C') } ∧ Stp c s { s with A := s.A.set 0 (.slice (some ⟨g, 0, none⟩) n cap, C') } w (w0.setCell ⟨g, k, none⟩ u) :=
 h.rowj (by decide) e g0 hn hC hset
def live (P : PS) (x : Int) : Bool := !clsd (P.K.getD x.toNat zk).1 P.tk
def still (P : PS) : List Int := (P.A.getD 0 []).filter (live P)
def least (P : PS) (F : List Int) : Nat := F.foldl (fun a x => min a x.toNat) P.K.length
def PS.uni (P : PS) : PS := if P.em then P else { P with A := P.A.set 0 (still P) }
def PS.uniX (P : PS) : Int := if P.em then 0 else if least P (still P) = P.K.length then 0 else fstI (opn (P.K.getD (least P (still P)) zk).1 P.tk)
theorem least_snoc (P : PS) (F : List Int) (x : Int) : least P (F ++ [x]) = min (least P F) x.toNat := by unfold least; rw [List.foldl_append]; rfl
theorem least_le (P : PS) (F : List Int) : least P F ≤ P.K.length := by
 unfold least
 suffices H : ∀ (F : List Int) (a : Nat), F.foldl (fun a x => min a x.toNat) a ≤ a from H F _
 intro F
 induction F with
 | nil => intro a; exact Nat.le_refl _
 | cons x l ih => intro a; exact Nat.le_trans (ih _) (Nat.min_le_left _ _)
theorem least_mem (P : PS) (F : List Int) : least P F = P.K.length ∨ ∃ x ∈ F, x.toNat = least P F := by
 unfold least
 suffices H : ∀ (F : List Int) (a : Nat), F.foldl (fun a x => min a x.toNat) a = a ∨ ∃ x ∈ F, x.toNat = F.foldl (fun a x => min a x.toNat) a from H F _
 intro F
 induction F with
 | nil => intro a; exact .inl rfl
 | cons x l ih =>
  intro a
  rw [List.foldl_cons]
  rcases ih (min a x.toNat) with q | ⟨y, hy, q⟩
  ·rcases Nat.le_total a x.toNat with hle | hle
   ·rw [q, Nat.min_eq_left hle]
    exact .inl rfl
   ·exact .inr ⟨x, by simp, by rw [q, Nat.min_eq_right hle]⟩
  ·exact .inr ⟨y, by simp [hy], q⟩
theorem least_all (P : PS) (F : List Int) : ∀ x ∈ F, least P F ≤ x.toNat := by
 unfold least
 suffices H : ∀ (F : List Int) (a : Nat), F.foldl (fun a x => min a x.toNat) a ≤ a ∧ ∀ x ∈ F, F.foldl (fun a x => min a x.toNat) a ≤ x.toNat from (H F _).2
 intro F
 induction F with
 | nil => intro a; exact ⟨Nat.le_refl _, fun x hx => by cases hx⟩
 | cons y l ih =>
  intro a
  rw [List.foldl_cons]
  have k := ih (min a y.toNat)
  refine ⟨Nat.le_trans k.1 (Nat.min_le_left _ _), fun x hx => ?_⟩
  rcases List.mem_cons.1 hx with rfl | hx
  ·exact Nat.le_trans k.1 (Nat.min_le_right _ _)
  ·exact k.2 x hx
end Go.Proofs.YtfhmdpbnnieohaaDoor.wm
namespace Go.Proofs.YtfhmdpbnnieohaaDoor.wm
open Go.ChangeShapes Go.WideShapes Go.ChangeAt Go.RowKit
open wm0 (end0 ret0 stepW listW listB)
open lits (okB okB_iff)
open bset (placeN placeN_le placeC)
open srt (Tab woN woN_lt fstI oppN oppN_lt andN andN_lt orN_eq or_lt)
open sl (Sl Own ints hide unhide ret_int ret_bool grown_refl grown_trans grown_drewN)
set_option linter.unusedVariables false
def WS.w0 (s : WS) (v : Value) (X : List Int) : WS := { s with A := s.A.set 0 (v, X) }
theorem w0_get {s : WS} {v : Value} {X : List Int} (h : s.A.length = 50) : (s.w0 v X).A.getD 0 nil_ = (v, X) := by
 show (s.A.set 0 (v, X)).getD 0 nil_ = _
 have : 0 < s.A.length := by omega
 simp [this]
theorem w0_w0 {s : WS} {v v' : Value} {X X' : List Int} : ({ s.w0 v X with A := (s.w0 v X).A.set 0 (v', X') } : WS) = s.w0 v' X' := by
 unfold WS.w0
 rw [List.set_set]
theorem w0_self {s : WS} {v : Value} {X : List Int} (h : s.A.length = 50) (e : s.A.getD 0 nil_ = (v, X)) : s.w0 v X = s := by
 unfold WS.w0
 have h0 : 0 < s.A.length := by omega
 have : s.A.set 0 (v, X) = s.A := by
  rw [← e, show s.A.getD 0 nil_ = s.A[0] by simp [h0]]
  exact List.set_getElem_self h0
 rw [this]
theorem w0_ps {s : WS} {v : Value} {X : List Int} : (s.w0 v X).ps = { s.ps with A := s.ps.A.set 0 X } := by
 unfold WS.ps WS.w0
 rw [List.map_set]
theorem Wat.vform {w : World} {c : Nat} {s : WS} (h : Wat w c s) : ∃ a cap, s.V = .slice a s.K.length cap := by
 obtain ⟨_, h2⟩ := h.cl
 rcases h2 with ⟨e, h0⟩ | ⟨g, cap, cur, e, _⟩
 ·exact ⟨none, 0, by rw [e, h0]⟩
 ·exact ⟨_, cap, e⟩
theorem Wat.at0 {w : World} {c g n cap : Nat} {s : WS} {X : List Int} (h : Wat w c s) (e : s.A.getD 0 nil_ = (.slice (some ⟨g, 0, none⟩) n cap, X)) (hn : X.length = n) (t : Nat) (ht : t < n) : w.cell? ⟨g, t, none⟩ = some (.int .i64 (X.getD t 0)) ∧ w.frozen? ⟨g, t, none⟩ = false ∧ n ≤ cap := by
 have hjl : 0 < s.A.length := by rw [h.len]; decide
 have own := h.ls _ (mem_getD hjl)
 rw [e] at own
 have own' : w.ownsRow 0 3 1 (.slice (some ⟨g, 0, none⟩) n cap) n (ints X) := by rw [← hn] at own ⊢; exact own
 refine ⟨?_, own'.frozenAt t, ?_⟩
 ·rw [own'.cellAt t (by omega)]
  rw [← hn] at ht
  simp [sl.ints, ht]
 ·obtain ⟨_, h2⟩ := own'
  rcases h2 with ⟨e, _⟩ | ⟨g', cap', cur, e, _, _, hn', _⟩
  ·cases e
  ·simp only [Value.slice.injEq] at e
   obtain ⟨_, _, rfl⟩ := e
   exact hn'
def mix (P : PS) (C : List Int) (t : Nat) : List Int := (C.take t).filter (live P) ++ C.drop ((C.take t).filter (live P)).length
theorem flen (P : PS) (C : List Int) (t : Nat) (h : t ≤ C.length) : ((C.take t).filter (live P)).length ≤ t := Nat.le_trans (List.length_filter_le _ _) (by rw [List.length_take]; omega)
theorem mix_len (P : PS) (C : List Int) (t : Nat) (h : t ≤ C.length) : (mix P C t).length = C.length := by
 have := flen P C t h
 unfold mix
 rw [List.length_append, List.length_drop]
 omega
theorem mix_at (P : PS) (C : List Int) (t : Nat) (h : t < C.length) : (mix P C t).getD t 0 = C.getD t 0 := by
 have hl := flen P C t (by omega)
 unfold mix
 rw [List.getD, List.getD, List.getElem?_append_right hl, List.getElem?_drop, show ((C.take t).filter (live P)).length + (t - ((C.take t).filter (live P)).length) = t by omega]
theorem filt_yes (P : PS) (C : List Int) (t : Nat) (h : t < C.length) (hl : live P (C.getD t 0) = true) : (C.take (t + 1)).filter (live P) = (C.take t).filter (live P) ++ [C.getD t 0] := by
 rw [take_snoc C t h, List.filter_append, List.filter_cons_of_pos hl]
 rfl
theorem filt_no (P : PS) (C : List Int) (t : Nat) (h : t < C.length) (hl : live P (C.getD t 0) = false) : (C.take (t + 1)).filter (live P) = (C.take t).filter (live P) := by
 rw [take_snoc C t h, List.filter_append, List.filter_cons_of_neg (by rw [hl]; simp)]
 simp
theorem mix_set (P : PS) (C : List Int) (t : Nat) (h : t < C.length) (hl : live P (C.getD t 0) = true) : (ints (mix P C t)).set ((C.take t).filter (live P)).length (.int .i64 (C.getD t 0)) = ints (mix P C (t + 1)) := by
 have hl' := flen P C t (by omega)
 unfold mix
 rw [filt_yes P C t h hl]
 generalize (C.take t).filter (live P) = F at *
 have e : C.drop F.length = C[F.length]'(by omega) :: C.drop (F.length + 1) := List.drop_eq_getElem_cons (by omega)
 rw [e, app.ints_append, app.ints_append, app.ints_append]
 rw [List.set_append_right _ _ (by rw [sl.ints_length]; exact Nat.le_refl _), sl.ints_length, Nat.sub_self]
 rw [show ints (C[F.length]'(by omega) :: C.drop (F.length + 1)) = Value.int .i64 (C[F.length]'(by omega)) :: ints (C.drop (F.length + 1)) from rfl, List.set_cons_zero, List.length_append]
 simp only [sl.ints, List.map_cons, List.map_nil, List.append_assoc, List.cons_append, List.nil_append, List.length_cons, List.length_nil]
theorem mix_no (P : PS) (C : List Int) (t : Nat) (h : t < C.length) (hl : live P (C.getD t 0) = false) : mix P C (t + 1) = mix P C t := by
 unfold mix
 rw [filt_no P C t h hl]
theorem new_cell (w : World) (y : Int) : (w.alloc (.cells #[.int .i64 y] 3)).cell? ⟨w.heap.size, 0, none⟩ = some (.int .i64 y) := by simp
theorem min_eq (k q : Nat) : (if k < q then (k : Int) else (q : Int)) = ((min q ((k : Int).toNat) : Nat) : Int) := by
 rw [Int.toNat_natCast]
 split <;> omega
def Unt (c : Nat) (s : WS) (g cap : Nat) (C : List Int) (t : Nat) (w wx : World) : Prop := Wat wx c (s.w0 (.slice (some ⟨g, 0, none⟩) C.length cap) (mix s.ps C t)) ∧ Stp c s (s.w0 (.slice (some ⟨g, 0, none⟩) C.length cap) (mix s.ps C t)) w wx
set_option maxRecDepth 100000 in
set_option maxHeartbeats 8000000 in
theorem unit {w : World} {c : Nat} {s : WS} {v : Value} {C : List Int} (h : Wat w c s) (hTab : TabF c s w) (hl : s.K.length ≤ 1048576) (hT : s.tk < 2 ^ 48) (hS : ∀ i, i < s.K.length → (s.K.getD i zk).1 < 2 ^ 48)
  (hC : s.A.getD 0 nil_ = (v, C)) (hCi : ∀ x ∈ C, ∃ k : Nat, x = (k : Int) ∧ k < s.K.length) (hCl : C.length ≤ 4194304)
  (hop : s.em = false → ∀ k : Nat, (k : Int) ∈ C → clsd (s.K.getD k zk).1 s.tk = false → opn (s.K.getD k zk).1 s.tk ≠ 0) :
  Calls Tryd.prog 82 #[.pointer (some ⟨c, 0, none⟩)] w fun e w' => ∃ s', e = .returned (.tuple #[.int .i8 s.ps.uniX, .bool (!s.em)]) ∧ Wat w' c s' ∧ Stp c s s' w w' ∧ s'.ps = s.ps.uni := by
 have x51 := h.cell (k := 51) (by decide)
 rw [at51] at x51
 cases hem : s.em
 ·rw [hem] at x51
  have eX : s.ps.uniX = if least s.ps (still s.ps) = s.K.length then 0 else fstI (opn (s.K.getD (least s.ps (still s.ps)) zk).1 s.tk) := by
   unfold PS.uniX
   rw [if_neg (show ¬ s.ps.em = true by show ¬ s.em = true; rw [hem]; simp)]
   rfl
  have eP : s.ps.uni = { s.ps with A := s.ps.A.set 0 (still s.ps) } := by
   unfold PS.uni
   rw [if_neg (show ¬ s.ps.em = true by show ¬ s.em = true; rw [hem]; simp)]
  have eS : still s.ps = C.filter (live s.ps) := by
   unfold still
   rw [ps_getD, hC]
  have hop' := hop hem
  obtain ⟨a0, cap0, eV⟩ := h.vform
  have x0 := h.cell (k := 0) (by decide)
  rw [wm.at0, eV] at x0
  have x50 := h.cell (k := 50) (by decide)
  rw [at50, hC] at x50
  have f50 := h.fz 50
  have hjl : 0 < s.A.length := by rw [h.len]; decide
  have own := h.ls _ (mem_getD hjl)
  rw [hC] at own
  have EX := hide eX
  have EP := hide eP
  have ES := hide eS
  have HOP := hide hop'
  have HS := hide hS
  have HCI := hide hCi
  have HT := hide hTab
  have HW := hide h
  have HC := hide hC
  clear eX eP eS hop hop' hS hCi hTab hem hjl
  obtain ⟨_, h2⟩ := own
  rcases h2 with ⟨e, h0⟩ | ⟨g, cap, cur, e, _, _, hcap, _⟩
  ·have e' : v = .slice none 0 0 := e
   subst e'
   have hnil : C = [] := List.eq_nil_of_length_eq_zero h0
   subst hnil
   have W2 := h.set (q := 50) (s' := s) (v := .slice none 0 0) (by decide) (fun k hk => by
    by_cases q : k = 50
    ·subst q
     rw [if_pos rfl, at50, unhide HC]
    ·rw [if_neg q]) rfl rfl rfl ⟨rfl, rfl⟩
   have R2 := hide W2
   have E1 : Hid (s.ps.uniX = 0) := by
    show _ = _
    rw [unhide EX, unhide ES]
    exact if_pos rfl
   have E2 : Hid (s.ps.uni = s.ps) := by
    show _ = _
    rw [unhide EP, unhide ES]
    have := w0_ps (s := s) (v := .slice none 0 0) (X := [])
    rw [w0_self h.len (unhide HC)] at this
    exact this.symm
   clear W2 h
   go_enter Tryd.func82, Tryd.ntmps82
   go_wp2
   go_loop [4, 5, 27] (fun lv sv iv => lv = .int .i64 (s.K.length : Int) ∧ sv = .slice none 0 0 ∧ iv = .int .i64 0) (fun _ _ _ => 0)
   case atStart => exact ⟨rfl, rfl, rfl⟩
   case round =>
    obtain ⟨rfl, rfl, rfl⟩ := hrel
    have y0 : (w.setCell ⟨c, 50, none⟩ (.slice none 0 0)).cell? ⟨c, 0, none⟩ = some (.slice a0 s.K.length cap0) := by
     have := (unhide R2).1.cell (k := 0) (by decide)
     rw [wm.at0, eV] at this
     exact this
    go_wp2
    go_ret2
    first
     | exact ⟨by rw [unhide E1]; rfl, s, (unhide R2).1, (unhide R2).2, (unhide E2).symm⟩
     | exact ⟨s, by rw [unhide E1]; rfl, (unhide R2).1, (unhide R2).2, (unhide E2).symm⟩
  ·have e' : v = .slice (some ⟨g, 0, none⟩) C.length cap := e
   subst e'
   have st : Hid (Unt c s g cap C 0 w w) := by
    have e0 : mix s.ps C 0 = C := by unfold mix; simp
    unfold Unt
    rw [e0, w0_self h.len (unhide HC)]
    exact ⟨h, Stp.refl _ _ _⟩
   have hA49 := hide h.len
   clear h
   go_enter Tryd.func82, Tryd.ntmps82
   go_wp2
   clear x51 x50 f50 x0
   go_loopw [4, 5, 27] (fun lv sv iv wx => ∃ t : Nat, t ≤ C.length ∧ iv = .int .i64 (t : Int) ∧ lv = .int .i64 (least s.ps ((C.take t).filter (live s.ps)) : Nat) ∧ sv = .slice (some ⟨g, 0, none⟩) ((C.take t).filter (live s.ps)).length cap ∧ Hid (Unt c s g cap C t w wx)) (fun _ _ iv _ => C.length - (intOf iv).toNat)
   case atStart => exact ⟨0, Nat.zero_le _, rfl, rfl, rfl, st⟩
   case round =>
    obtain ⟨t, ht, rfl, rfl, rfl, hu⟩ := hrel
    clear st
    by_cases hlt : t < C.length
    ·have hi' : (t : Int) < (C.length : Int) := by omega
     have c1 := (unhide hu).1.at0 (w0_get (unhide hA49)) (mix_len s.ps C t ht) t hlt
     rw [mix_at s.ps C t hlt] at c1
     have hfl := flen s.ps C t ht
     have c2 := (unhide hu).1.at0 (w0_get (unhide hA49)) (mix_len s.ps C t ht) ((C.take t).filter (live s.ps)).length (by omega)
     obtain ⟨k, hk, hkK⟩ := unhide HCI (C.getD t 0) (by rw [show C.getD t 0 = C[t] by simp [hlt]]; exact List.getElem_mem hlt)
     have cc := closed (s := s.w0 (.slice (some ⟨g, 0, none⟩) C.length cap) (mix s.ps C t)) (i := k) (unhide hu).1 hkK hl (unhide HS k hkK) hT
     have hlive : live s.ps (C.getD t 0) = !clsd (s.K.getD k zk).1 s.tk := by
      unfold live
      rw [hk]
      rfl
     have fy := filt_yes s.ps C t hlt
     have fn := filt_no s.ps C t hlt
     have my := mix_set s.ps C t hlt
     have mn := mix_no s.ps C t hlt
     have ls := least_snoc s.ps ((C.take t).filter (live s.ps)) (C.getD t 0)
     have ll := least_le s.ps ((C.take t).filter (live s.ps))
     have hml := mix_len s.ps C (t + 1) (by omega)
     rw [hk] at c1 hlive fy fn my mn ls
     have e1 : (s.w0 (.slice (some ⟨g, 0, none⟩) C.length cap) (mix s.ps C t)).K = s.K := rfl
     have e2 : (s.w0 (.slice (some ⟨g, 0, none⟩) C.length cap) (mix s.ps C t)).tk = s.tk := rfl
     rw [e1, e2] at cc
     have cw := c1.1
     clear e1 e2
     cases hcl : clsd (s.K.getD k zk).1 s.tk
     ·rw [hcl] at cc hlive
      have CC := hide cc
      have FY := hide (fy hlive)
      have NX : Hid (∀ w0, wr.grownBy w0 none → Unt c s g cap C (t + 1) w (w0.setCell ⟨g, ((C.take t).filter (live s.ps)).length, none⟩ (.int .i64 (k : Int)))) := by
       intro w0 g0
       have k1 := (unhide hu).1.row0 (w0_get (unhide hA49)) g0 (mix_len s.ps C t ht) hml (my hlive)
       rw [w0_w0] at k1
       exact ⟨k1.1, (unhide hu).2.trans k1.2⟩
      have LS := hide ls
      have HU := hide (unhide hu).1
      clear cc hlive fy fn my mn ls hcl hu hk
      have hcell := c2.1
      have hfz := c2.2.1
      have hcap' := c2.2.2
      generalize (C.take t).filter (live s.ps) = F at *
      generalize hq : least s.ps F = q at *
      have CS : Hid (∀ w0, wr.grownBy w0 none → (w0.cell? ⟨g, F.length, none⟩).isSome = true ∧ w0.frozen? ⟨g, F.length, none⟩ = false) := by
       intro w0 g0
       have := ((unhide HU).kept g0).at0 (w0_get (unhide hA49)) (mix_len s.ps C t ht) F.length (by omega)
       exact ⟨by rw [this.1]; rfl, this.2.1⟩
      clear c1 c2 hcell hfz HU
      go_wp2_with fail
      refine (unhide CC).mono ?_; rintro e w3 ⟨rfl, m3, rfl⟩
      have GD := hide (grown_trans (r := none) (grown_drewN wr m3) (World.grownBy_alloc (wr.drewN m3) (.cells #[.int .i64 (k : Int)] 3) none))
      have NB : Hid (((wr.drewN m3).alloc (.cells #[.int .i64 (k : Int)] 3)).cell? ⟨(wr.drewN m3).heap.size, 0, none⟩ = some (.int .i64 (k : Int))) := by
       exact new_cell _ _
      have R3 := hide (unhide NX _ (unhide GD))
      clear CC NX
      go_wp2_with (at_builtin; refine roomW (unhide NB) (by omega) (unhide CS _ (unhide GD)).1 (unhide CS _ (unhide GD)).2 rfl _ _ rfl rfl rfl ?_)
      clear CS NB GD
      go_wp2
      go_roundw
      case rel => exact ⟨t + 1, by omega, by go_num, by rw [unhide FY, unhide LS, min_eq], by rw [unhide FY, List.length_append]; rfl, unhide R3⟩
      case measure => simp [intOf]; omega
     ·rw [hcl] at cc hlive
      have CC := hide cc
      have FN := hide (fn hlive)
      have R3 : Hid (Unt c s g cap C (t + 1) w wr) := by
       unfold Unt
       rw [mn hlive]
       exact unhide hu
      clear cc hlive fy fn my mn ls hcl hu hk c1 c2
      generalize (C.take t).filter (live s.ps) = F at *
      go_wp2_with fail
      refine (unhide CC).mono ?_; rintro e w3 ⟨rfl, m3, rfl⟩
      have R4 : Hid (Unt c s g cap C (t + 1) w (wr.drewN m3)) := ⟨(unhide R3).1.kept (grown_drewN wr m3), (unhide R3).2.trans (Stp.of_grown (grown_drewN wr m3))⟩
      clear CC R3
      go_wp2
      go_roundw
      case rel => exact ⟨t + 1, by omega, by go_num, by rw [unhide FN], by rw [unhide FN], R4⟩
      case measure => simp [intOf]; omega
    ·have hi' : ¬ (t : Int) < (C.length : Int) := by omega
     have et : C.take t = C := List.take_of_length_le (by omega)
     have hfl := flen s.ps C t ht
     have ew := (unhide hu).1
     have hgc := w0_get (s := s) (v := .slice (some ⟨g, 0, none⟩) C.length cap) (X := mix s.ps C t) (unhide hA49)
     have hjl : 0 < (s.w0 (.slice (some ⟨g, 0, none⟩) C.length cap) (mix s.ps C t)).A.length := by rw [ew.len]; decide
     have own := ew.ls _ (mem_getD hjl)
     rw [hgc] at own
     have own' : wr.ownsRow 0 3 1 (.slice (some ⟨g, 0, none⟩) C.length cap) C.length (ints (mix s.ps C t)) := by
      have e := mix_len s.ps C t ht
      have o : wr.ownsRow 0 3 1 (.slice (some ⟨g, 0, none⟩) C.length cap) (mix s.ps C t).length (ints (mix s.ps C t)) := own
      rw [e] at o
      exact o
     have cut := own_cut (m := ((C.take t).filter (live s.ps)).length) own' (by omega)
     have ecut : (ints (mix s.ps C t)).take ((C.take t).filter (live s.ps)).length = ints ((C.take t).filter (live s.ps)) := by
      unfold mix
      rw [app.ints_append, ← sl.ints_length ((C.take t).filter (live s.ps)), List.take_left']
      rfl
     rw [ecut] at cut
     have k5 := ew.list (j := 0) (M := (C.take t).filter (live s.ps)) (by decide) (grown_refl wr) cut ⟨rfl, rfl, rfl, Nat.le_refl _, fun _ _ _ => rfl⟩ (.inl (by rw [hgc]; rfl))
     rw [w0_w0] at k5
     have x50 := ew.cell (k := 50) (by decide)
     rw [at50, hgc] at x50
     have f50 := ew.fz 50
     have S5 := hide (And.intro k5.1 ((unhide hu).2.trans k5.2))
     have EP' : Hid (s.ps.uni = (s.w0 (.slice (some ⟨g, 0, none⟩) ((C.take t).filter (live s.ps)).length cap) ((C.take t).filter (live s.ps))).ps) := by
      show _ = _
      rw [w0_ps, unhide EP, unhide ES, et]
     have EX' : Hid (s.ps.uniX = if least s.ps ((C.take t).filter (live s.ps)) = s.K.length then 0 else fstI (opn (s.K.getD (least s.ps ((C.take t).filter (live s.ps))) zk).1 s.tk)) := by
      show _ = _
      rw [unhide EX, unhide ES, et]
     have lm := least_mem s.ps ((C.take t).filter (live s.ps))
     have ll := least_le s.ps ((C.take t).filter (live s.ps))
     have HM : Hid (∀ x ∈ (C.take t).filter (live s.ps), x ∈ C ∧ live s.ps x = true) := by
      intro x hx
      rw [et] at hx
      exact List.mem_filter.1 hx
     have y0 : (wr.setCell ⟨c, 50, none⟩ (.slice (some ⟨g, 0, none⟩) ((C.take t).filter (live s.ps)).length cap)).cell? ⟨c, 0, none⟩ = some (.slice a0 s.K.length cap0) := by
      have := (unhide S5).1.cell (k := 0) (by decide)
      rw [wm.at0] at this
      have e3 : (s.w0 (.slice (some ⟨g, 0, none⟩) ((C.take t).filter (live s.ps)).length cap) ((C.take t).filter (live s.ps))).V = s.V := rfl
      rw [e3, eV] at this
      exact this
     clear ew hgc hjl own own' cut ecut k5 et hu EX EP ES
     generalize (C.take t).filter (live s.ps) = F at *
     have LM := hide lm
     clear lm
     generalize hq : least s.ps F = q at *
     have hqK : q ≤ s.K.length := ll
     by_cases hql : q = s.K.length
     ·have b1 : ((q : Int) == (s.K.length : Int)) = true := by simp [hql]
      go_wp2
      go_ret2
      first
       | exact ⟨by rw [unhide EX', if_pos hql]; rfl, _, (unhide S5).1, (unhide S5).2, (unhide EP').symm⟩
       | exact ⟨_, by rw [unhide EX', if_pos hql]; rfl, (unhide S5).1, (unhide S5).2, (unhide EP').symm⟩
     ·have b1 : ((q : Int) == (s.K.length : Int)) = false := by
       rw [beq_eq_false_iff_ne]
       omega
      have hqi : q < s.K.length := by omega
      have co := open_ (s := s.w0 (.slice (some ⟨g, 0, none⟩) F.length cap) F) (i := q) (unhide S5).1 hqi hl (unhide HS q hqi) hT
      have e1 : (s.w0 (.slice (some ⟨g, 0, none⟩) F.length cap) F).K = s.K := rfl
      have e2 : (s.w0 (.slice (some ⟨g, 0, none⟩) F.length cap) F).tk = s.tk := rfl
      rw [e1, e2] at co
      have CO := hide co
      have hne : opn (s.K.getD q zk).1 s.tk ≠ 0 := by
       rcases unhide LM with z | ⟨x, hx, z⟩
       ·exact absurd z (by show ¬ q = s.K.length; exact hql)
       ·have hm := unhide HM x hx
        obtain ⟨k, rfl, hk⟩ := unhide HCI x hm.1
        have hk' : k = q := by
         have : ((k : Int)).toNat = q := z
         rw [Int.toNat_natCast] at this
         exact this
        subst hk'
        refine unhide HOP k hm.1 ?_
        have hl2 := hm.2
        unfold live at hl2
        rw [Int.toNat_natCast, Bool.not_eq_true'] at hl2
        exact hl2
      have hol : opn (s.K.getD q zk).1 s.tk < 2 ^ 48 := andN_lt _ _ (unhide HS q hqi)
      have T5 := (unhide HT).stp (unhide S5).2
      have CF := hide (fun w t => srt.first (opn (s.K.getD q zk).1 s.tk) w t (by omega) hol)
      have T6 := hide T5.1
      clear co e1 e2 hne hol T5
      generalize opn (s.K.getD q zk).1 s.tk = O at *
      go_wp2_with fail
      refine (unhide CO).mono ?_; rintro e w6 ⟨rfl, m6, rfl⟩
      go_wp2_with fail
      refine (unhide CF _ ((unhide T6).kept (grown_drewN _ m6))).mono ?_; rintro e w7 ⟨rfl, hw⟩; have hw' := hw.symm; clear hw; subst hw'
      go_wp2_with fail
      go_ret2
      first
       | exact ⟨by rw [unhide EX', if_neg hql]; rfl, _, (unhide S5).1.kept (grown_drewN _ m6), (unhide S5).2.trans (Stp.of_grown (grown_drewN _ m6)), (unhide EP').symm⟩
       | exact ⟨_, by rw [unhide EX', if_neg hql]; rfl, (unhide S5).1.kept (grown_drewN _ m6), (unhide S5).2.trans (Stp.of_grown (grown_drewN _ m6)), (unhide EP').symm⟩
 ·rw [hem] at x51
  have E1 : Hid (s.ps.uniX = 0) := by
   show _ = _
   unfold PS.uniX
   rw [if_pos (show s.ps.em = true from hem)]
  have E2 : Hid (s.ps.uni = s.ps) := by
   show _ = _
   unfold PS.uni
   rw [if_pos (show s.ps.em = true from hem)]
  have HW := hide h
  clear h hop hem
  go_enter Tryd.func82, Tryd.ntmps82
  go_wp2
  go_ret2
  first
   | exact ⟨by rw [unhide E1]; rfl, s, unhide HW, Stp.refl _ _ _, (unhide E2).symm⟩
   | exact ⟨s, by rw [unhide E1]; rfl, unhide HW, Stp.refl _ _ _, (unhide E2).symm⟩
end Go.Proofs.YtfhmdpbnnieohaaDoor.wm
namespace Go.Proofs.YtfhmdpbnnieohaaDoor.wm
open Go.RowKit
open lits (okB okB_iff)
open bset (placeN placeN_le placeN_inj)
open srt (woN woN_lt woN_bit fstI oppN oppN_bit oppN_lt swp andN andN_bit andN_lt or_lt hi_bit)
set_option linter.unusedVariables false
theorem ne_bit {O : Nat} (h : O ≠ 0) : ∃ b, O.testBit b = true := Nat.exists_testBit_of_ne_zero h
def wf (P : PS) (R p : Nat) : Nat := if P.tk.testBit (swp p) && !R.testBit (swp p) then 0 else (P.A.getD (1 + p) []).length
def wgt (P : PS) (R : Nat) : Nat := sumR 48 (wf P R) + (P.A.getD 0 []).length
theorem wf_yes {P : PS} {R p : Nat} (h : (P.tk.testBit (swp p) && !R.testBit (swp p)) = false) : wf P R p = (P.A.getD (1 + p) []).length := by
 unfold wf
 rw [h]
 rfl
theorem wf_no {P : PS} {R p : Nat} (h : (P.tk.testBit (swp p) && !R.testBit (swp p)) = true) : wf P R p = 0 := by
 unfold wf
 rw [h]
 rfl
def pend (P : PS) (R : Nat) (l : Int) (C : List Int) (i : Nat) (p : Int) : Prop := R.testBit (placeN (-p)) = true ∨ (p = l ∧ (i : Int) ∈ C)
def lost (P : PS) (p : Int) : Prop := P.tk.testBit (placeN (-p)) = true
def Stn (P : PS) (R : Nat) (l : Int) (C : List Int) (i S : Nat) (p q : Int) : Prop :=
 ((i : Int) ∈ P.A.getD 0 [] ∧ ∃ y, (y = p ∨ y = q) ∧ (opn S P.tk).testBit (placeN y) = true ∧ ∀ b, (opn S P.tk).testBit b = true → b = placeN y) ∨
 (P.em = true ∧ opn S P.tk = 0) ∨
 (p ≠ q ∧ (lost P p → pend P R l C i p) ∧ (lost P q → pend P R l C i q)) ∨
 ((i : Int) ∈ P.A.getD 0 [] ∧ opn S P.tk = 0 ∧ ((lost P p ∧ pend P R l C i p) ∨ (lost P q ∧ pend P R l C i q)))
def tot (P : PS) : Nat := sumR 48 (fun p => (P.A.getD (1 + p) []).length)
structure Jn (Ss : List Nat) (P : PS) (R : Nat) (l : Int) (F C : List Int) : Prop where
 len : P.K.length = Ss.length
 sets : ∀ i, i < Ss.length → (P.K.getD i zk).1 = Ss.getD i 0
 wd : ∀ i, i < Ss.length → Ss.getD i 0 < 2 ^ 48
 tk : P.tk < 2 ^ 48
 rk : R < 2 ^ 48
 al : P.A.length = 50
 rin : ∀ b, R.testBit b = true → P.tk.testBit b = true
 wat : ∀ i, i < Ss.length → Ss.getD i 0 ≠ 0 → okB (P.K.getD i zk).2.1 = true ∧ okB (P.K.getD i zk).2.2 = true ∧ (Ss.getD i 0).testBit (placeN (P.K.getD i zk).2.1) = true ∧ (Ss.getD i 0).testBit (placeN (P.K.getD i zk).2.2) = true ∧
  (i : Int) ∈ P.A.getD (1 + placeN (P.K.getD i zk).2.1) [] ∧ (i : Int) ∈ P.A.getD (1 + placeN (P.K.getD i zk).2.2) []
 idx : ∀ j, ∀ x ∈ P.A.getD j [], ∃ k : Nat, x = (k : Int) ∧ k < Ss.length ∧ Ss.getD k 0 ≠ 0
 cin : ∀ x ∈ C, ∃ k : Nat, x = (k : Int) ∧ k < Ss.length ∧ Ss.getD k 0 ≠ 0
 lo : C ≠ [] → okB l = true ∧ P.tk.testBit (placeN (-l)) = true
 hand : C ≠ [] → P.A.getD (1 + placeN l) [] = F ++ C
 bd : wgt P R + C.length ≤ 4194304
 nl : Ss.length ≤ 1048576
 tt : tot P ≤ 2 * Ss.length
 fl : F.length + C.length ≤ 2 * Ss.length
 sg : ∀ i, i < Ss.length → Ss.getD i 0 ≠ 0 → (P.K.getD i zk).2.1 = (P.K.getD i zk).2.2 → (i : Int) ∈ P.A.getD 49 []
 so : ∀ k : Nat, (k : Int) ∈ P.A.getD 49 [] → ∀ a b, (Ss.getD k 0).testBit a = true → (Ss.getD k 0).testBit b = true → a = b
 sn : (P.A.getD 49 []).length ≤ Ss.length
 hz : P.ho = true ↔ ∃ i, i < Ss.length ∧ Ss.getD i 0 = 0
 wt : ∀ k : Nat, (k : Int) ∈ P.A.getD 0 [] → clsd (Ss.getD k 0) P.tk = false → ∀ a b, (opn (Ss.getD k 0) P.tk).testBit a = true → (opn (Ss.getD k 0) P.tk).testBit b = true → a = b
 es : P.em = true → ∃ i, i < Ss.length ∧ clsd (Ss.getD i 0) P.tk = false ∧ opn (Ss.getD i 0) P.tk = 0
 ez : ∀ i, i < Ss.length → Ss.getD i 0 = 0 → P.em = true
 st : ∀ i, i < Ss.length → Ss.getD i 0 ≠ 0 → clsd (Ss.getD i 0) P.tk = false → Stn P R l C i (Ss.getD i 0) (P.K.getD i zk).2.1 (P.K.getD i zk).2.2
theorem wgt_at {P : PS} {R q : Nat} (hq : q < 48) (h : (P.tk.testBit (swp q) && !R.testBit (swp q)) = false) : (P.A.getD (1 + q) []).length ≤ wgt P R := by
 unfold wgt
 have := sumR_get (n := 48) (f := wf P R) hq
 rw [wf_yes h] at this
 omega
theorem getD_set {A : List (List Int)} {j : Nat} {X : List Int} (k : Nat) : (A.set j X).getD k [] = if k = j ∧ j < A.length then X else A.getD k [] := by
 rw [List.getD, List.getD, List.getElem?_set]
 by_cases e : j = k
 ·subst e
  by_cases h : j < A.length
  ·rw [if_pos rfl, if_pos h, if_pos ⟨rfl, h⟩]
   rfl
  ·rw [if_pos rfl, if_neg h, if_neg (fun q => h q.2), List.getElem?_eq_none (by omega)]
 ·rw [if_neg e, if_neg (fun q => e q.1.symm)]
theorem more_get (P : PS) (j : Nat) (y : Int) (k : Nat) : (P.more j y).A.getD k [] = if k = j ∧ j < P.A.length then P.A.getD k [] ++ [y] else P.A.getD k [] := by
 show (P.A.set j _).getD k [] = _
 rw [getD_set]
 by_cases h : k = j ∧ j < P.A.length
 ·rw [if_pos h, if_pos h, h.1]
 ·rw [if_neg h, if_neg h]
theorem more_mem {P : PS} {j k : Nat} {y x : Int} (h : x ∈ P.A.getD k []) : x ∈ (P.more j y).A.getD k [] := by
 rw [more_get]
 split
 ·exact List.mem_append_left _ h
 ·exact h
theorem more_new {P : PS} {j : Nat} {y : Int} (h : j < P.A.length) : y ∈ (P.more j y).A.getD j [] := by
 rw [more_get, if_pos ⟨rfl, h⟩]
 simp
theorem more_of {P : PS} {j k : Nat} {y x : Int} (h : x ∈ (P.more j y).A.getD k []) : x ∈ P.A.getD k [] ∨ (k = j ∧ x = y) := by
 rw [more_get] at h
 split at h
 ·rename_i q
  rcases List.mem_append.1 h with h | h
  ·exact .inl h
  ·exact .inr ⟨q.1, by simpa using h⟩
 ·exact .inl h
theorem wgt_more {P : PS} {R j : Nat} {y : Int} : wgt (P.more j y) R ≤ wgt P R + 1 := by
 unfold wgt
 have e0 : ((P.more j y).A.getD 0 []).length ≤ (P.A.getD 0 []).length + (if j = 0 then 1 else 0) := by
  rw [more_get]
  split
  ·rename_i q
   rw [if_pos q.1.symm, List.length_append]
   exact Nat.le_refl _
  ·omega
 have eq : ∀ p, 1 + p ≠ j → wf (P.more j y) R p = wf P R p := by
  intro p hp
  have e : (P.more j y).A.getD (1 + p) [] = P.A.getD (1 + p) [] := by rw [more_get P j y (1 + p), if_neg (fun q => hp q.1)]
  unfold wf
  rw [e]
  rfl
 by_cases hj : 1 ≤ j ∧ j - 1 < 48
 ·have := sumR_one (n := 48) (q := j - 1) (d := 1) (f := wf (P.more j y) R) (g := wf P R) hj.2 (fun p hp hne => by rw [eq p (by omega)]; exact Nat.le_refl _) (by
   unfold wf
   show (if P.tk.testBit (swp (j - 1)) && !R.testBit (swp (j - 1)) then 0 else _) ≤ _
   cases P.tk.testBit (swp (j - 1)) && !R.testBit (swp (j - 1))
   ·show ((P.more j y).A.getD (1 + (j - 1)) []).length ≤ (P.A.getD (1 + (j - 1)) []).length + 1
    rw [more_get]
    split
    ·rw [List.length_append]
     exact Nat.le_refl _
    ·omega
   ·exact Nat.zero_le _)
  rw [if_neg (by omega)] at e0
  omega
 ·have := sumR_le (n := 48) (f := wf (P.more j y) R) (g := wf P R) (fun p hp => by rw [eq p (by omega)]; exact Nat.le_refl _)
  split at e0 <;> omega
theorem tot_more {P : PS} {q : Nat} {y : Int} (hq : q < 48) : tot (P.more (1 + q) y) ≤ tot P + 1 := by
 refine sumR_one hq (fun p hp hne => ?_) ?_
 ·rw [more_get, if_neg (fun e => hne (by omega))]
  exact Nat.le_refl _
 ·rw [more_get]
  split
  ·rw [List.length_append]
   exact Nat.le_refl _
  ·exact Nat.le_succ _
theorem tot_more0 {P : PS} {y : Int} : tot (P.more 0 y) ≤ tot P := by
 refine sumR_le (fun p hp => ?_)
 rw [more_get, if_neg (fun e => by omega)]
 exact Nat.le_refl _
theorem setL_get (P : PS) (j : Nat) (M : List Int) (k : Nat) : (P.setL j M).A.getD k [] = if k = j ∧ j < P.A.length then M else P.A.getD k [] := getD_set k
theorem tot_cut {P : PS} {q : Nat} {M : List Int} (hq : q < 48) (hl : 1 + q < P.A.length) (h : M.length + 1 ≤ (P.A.getD (1 + q) []).length) : tot (P.setL (1 + q) M) + 1 ≤ tot P := by
 refine sumR_cut (q := q) hq (fun p hp hne => ?_) ?_
 ·rw [setL_get, if_neg (fun e => hne (by omega))]
  exact Nat.le_refl _
 ·rw [setL_get, if_pos ⟨rfl, hl⟩]
  exact h
theorem wgt_cut {P : PS} {R q : Nat} {M : List Int} (h : M.length ≤ (P.A.getD (1 + q) []).length) : wgt (P.setL (1 + q) M) R ≤ wgt P R := by
 unfold wgt
 have e0 : (P.setL (1 + q) M).A.getD 0 [] = P.A.getD 0 [] := by rw [setL_get, if_neg (fun e => by omega)]
 rw [e0]
 have := sumR_le (n := 48) (f := wf (P.setL (1 + q) M) R) (g := wf P R) (fun p hp => by
  unfold wf
  show (if P.tk.testBit (swp p) && !R.testBit (swp p) then 0 else _) ≤ _
  split
  ·exact Nat.le_refl _
  ·rw [setL_get]
   split
   ·rename_i e
    rw [e.1]
    exact h
   ·exact Nat.le_refl _)
 omega
end Go.Proofs.YtfhmdpbnnieohaaDoor.wm
namespace Go.Proofs.YtfhmdpbnnieohaaDoor.wm
open Go.RowKit
open lits (okB okB_iff)
open bset (placeN placeN_le placeN_inj)
open srt (woN woN_lt woN_bit fstI oppN oppN_bit oppN_lt swp andN andN_bit andN_lt or_lt hi_bit)
set_option linter.unusedVariables false
theorem Jn.build {Ss : List Nat} {P P' : PS} {R i : Nat} {l : Int} {F F' C : List Int} (h : Jn Ss P R l F ((i : Int) :: C)) (hi : i < Ss.length) (hS : Ss.getD i 0 ≠ 0) (htk : P'.tk = P.tk) (hho : P'.ho = P.ho) (hlen : P'.K.length = P.K.length)
  (hKo : ∀ j, j ≠ i → P'.K.getD j zk = P.K.getD j zk) (hKi : (P'.K.getD i zk).1 = (P.K.getD i zk).1) (hal : P'.A.length = 50)
  (hA : ∀ k x, x ≠ (i : Int) → x ∈ P.A.getD k [] → x ∈ P'.A.getD k []) (hidx : ∀ k x, x ∈ P'.A.getD k [] → x ∈ P.A.getD k [] ∨ x = (i : Int)) (h49 : P'.A.getD 49 [] = P.A.getD 49 []) (hbd : wgt P' R ≤ wgt P R + 1) (htt : tot P' ≤ tot P)
  (hfl : F'.length ≤ F.length + 1) (hhand : C ≠ [] → P'.A.getD (1 + placeN l) [] = F' ++ C) (hem : P.em = true → P'.em = true)
  (hwat : okB (P'.K.getD i zk).2.1 = true ∧ okB (P'.K.getD i zk).2.2 = true ∧ (Ss.getD i 0).testBit (placeN (P'.K.getD i zk).2.1) = true ∧ (Ss.getD i 0).testBit (placeN (P'.K.getD i zk).2.2) = true ∧
   (i : Int) ∈ P'.A.getD (1 + placeN (P'.K.getD i zk).2.1) [] ∧ (i : Int) ∈ P'.A.getD (1 + placeN (P'.K.getD i zk).2.2) [])
  (hsg : (P'.K.getD i zk).2.1 = (P'.K.getD i zk).2.2 → (i : Int) ∈ P.A.getD 49 [])
  (hwt : (i : Int) ∈ P'.A.getD 0 [] → clsd (Ss.getD i 0) P.tk = false → ∀ a b, (opn (Ss.getD i 0) P.tk).testBit a = true → (opn (Ss.getD i 0) P.tk).testBit b = true → a = b)
  (hes : P'.em = true → ∃ i, i < Ss.length ∧ clsd (Ss.getD i 0) P.tk = false ∧ opn (Ss.getD i 0) P.tk = 0)
  (hst : clsd (Ss.getD i 0) P.tk = false → Stn P' R l C i (Ss.getD i 0) (P'.K.getD i zk).2.1 (P'.K.getD i zk).2.2) : Jn Ss P' R l F' C where
 len := by rw [hlen]; exact h.len
 sets := fun j hj => by
  by_cases e : j = i
  ·subst e
   rw [hKi]
   exact h.sets j hj
  ·rw [hKo j e]
   exact h.sets j hj
 wd := h.wd
 tk := by rw [htk]; exact h.tk
 rk := h.rk
 al := hal
 rin := by rw [htk]; exact h.rin
 wat := fun j hj hSj => by
  by_cases e : j = i
  ·subst e
   exact hwat
  ·rw [hKo j e]
   have := h.wat j hj hSj
   exact ⟨this.1, this.2.1, this.2.2.1, this.2.2.2.1, hA _ _ (by omega) this.2.2.2.2.1, hA _ _ (by omega) this.2.2.2.2.2⟩
 idx := fun k x hx => by
  rcases hidx k x hx with q | q
  ·exact h.idx k x q
  ·exact ⟨i, q, hi, hS⟩
 cin := fun x hx => h.cin x (List.mem_cons_of_mem _ hx)
 lo := fun _ => by rw [htk]; exact h.lo (by simp)
 hand := hhand
 bd := by
  have := h.bd
  rw [List.length_cons] at this
  omega
 nl := h.nl
 tt := Nat.le_trans htt h.tt
 fl := by
  have := h.fl
  rw [List.length_cons] at this
  omega
 sg := fun j hj hSj => by
  rw [h49]
  by_cases e : j = i
  ·subst e
   exact hsg
  ·rw [hKo j e]
   exact h.sg j hj hSj
 so := by rw [h49]; exact h.so
 sn := by rw [h49]; exact h.sn
 hz := by rw [hho]; exact h.hz
 wt := fun k hk => by
  rw [htk]
  rcases hidx 0 _ hk with q | q
  ·exact h.wt k q
  ·have : k = i := by omega
   subst this
   exact hwt hk
 es := by rw [htk]; exact hes
 ez := fun j hj hz => hem (h.ez j hj hz)
 st := fun j hj hSj => by
  rw [htk]
  intro hc
  by_cases e : j = i
  ·subst e
   exact hst hc
  ·rw [hKo j e]
   have hji : (j : Int) ≠ (i : Int) := by omega
   have pe : ∀ p, pend P R l ((i : Int) :: C) j p → pend P' R l C j p := by
    intro p hp
    rcases hp with q | ⟨q1, q2⟩
    ·exact .inl q
    ·rcases List.mem_cons.1 q2 with q | q
     ·omega
     ·exact .inr ⟨q1, q⟩
   have lo : ∀ p, lost P' p ↔ lost P p := fun p => by unfold lost; rw [htk]
   rcases h.st j hj hSj hc with ⟨a1, y, a2, a3, a4⟩ | ⟨b1, b2⟩ | ⟨c1, c2, c3⟩ | ⟨d1, d2, d3⟩
   ·exact .inl ⟨hA _ _ hji a1, y, a2, by rw [htk]; exact a3, by rw [htk]; exact a4⟩
   ·exact .inr (.inl ⟨hem b1, by rw [htk]; exact b2⟩)
   ·exact .inr (.inr (.inl ⟨c1, fun q => pe _ (c2 ((lo _).1 q)), fun q => pe _ (c3 ((lo _).1 q))⟩))
   ·refine .inr (.inr (.inr ⟨hA _ _ hji d1, by rw [htk]; exact d2, ?_⟩))
    rcases d3 with ⟨q1, q2⟩ | ⟨q1, q2⟩
    ·exact .inl ⟨(lo _).2 q1, pe _ q2⟩
    ·exact .inr ⟨(lo _).2 q1, pe _ q2⟩
theorem wgt_K {P : PS} {K : List (Nat × Int × Int)} {b : Bool} {R : Nat} : wgt { P with K := K, em := b } R = wgt P R := rfl
theorem K_other {K : List (Nat × Int × Int)} {i j : Nat} {k : Nat × Int × Int} (h : j ≠ i) : (K.set i k).getD j zk = K.getD j zk := by
 rw [List.getD, List.getD, List.getElem?_set_ne (fun e => h e.symm)]
theorem swK_other {K : List (Nat × Int × Int)} {i j : Nat} {l : Int} (h : j ≠ i) : (swK K i l).getD j zk = K.getD j zk := K_other h
theorem sw_pair {Ss : List Nat} {P : PS} {k : Nat} {l : Int}
  (hw : okB (P.K.getD k zk).2.1 = true ∧ okB (P.K.getD k zk).2.2 = true ∧ (Ss.getD k 0).testBit (placeN (P.K.getD k zk).2.1) = true ∧ (Ss.getD k 0).testBit (placeN (P.K.getD k zk).2.2) = true ∧
   (k : Int) ∈ P.A.getD (1 + placeN (P.K.getD k zk).2.1) [] ∧ (k : Int) ∈ P.A.getD (1 + placeN (P.K.getD k zk).2.2) []) :
  okB (sw0 (P.K.getD k zk) l) = true ∧ okB (sw1 (P.K.getD k zk) l) = true ∧ (Ss.getD k 0).testBit (placeN (sw0 (P.K.getD k zk) l)) = true ∧ (Ss.getD k 0).testBit (placeN (sw1 (P.K.getD k zk) l)) = true ∧
   (k : Int) ∈ P.A.getD (1 + placeN (sw0 (P.K.getD k zk) l)) [] ∧ (k : Int) ∈ P.A.getD (1 + placeN (sw1 (P.K.getD k zk) l)) [] := by
 unfold sw0 sw1
 split
 ·exact ⟨hw.2.1, hw.1, hw.2.2.2.1, hw.2.2.1, hw.2.2.2.2.2, hw.2.2.2.2.1⟩
 ·exact hw
theorem sw_eq {k : Nat × Int × Int} {l : Int} (h : sw0 k l = sw1 k l) : k.2.1 = k.2.2 := by
 unfold sw0 sw1 at h
 split at h
 ·exact h.symm
 ·exact h
theorem Jn.stay {Ss : List Nat} {P : PS} {R i : Nat} {l : Int} {F C : List Int} (h : Jn Ss P R l F ((i : Int) :: C)) (hm : P.mvd i l = false) : Jn Ss (P.rew i l) R l (F ++ [(i : Int)]) C := by
 obtain ⟨k, hk, hi, hS⟩ := h.cin (i : Int) (by simp)
 have hk' : k = i := by omega
 subst hk'
 clear hk
 have hiK : k < P.K.length := by rw [h.len]; exact hi
 have hw := h.wat k hi hS
 have hs := h.sets k hi
 have hwd := h.wd k hi
 have hfl : (F ++ [(k : Int)]).length ≤ F.length + 1 := by simp
 have hhand : P.A.getD (1 + placeN l) [] = (F ++ [(k : Int)]) ++ C := by
  rw [h.hand (by simp), List.append_assoc]
  rfl
 have hsg := h.sg k hi hS
 cases hc : clsd (Ss.getD k 0) P.tk
 ·have hc' : clsd (P.K.getD k zk).1 P.tk = false := by rw [hs]; exact hc
  have hw' := sw_pair (l := l) hw
  have q0ok := hw'.1
  have hol : opn (Ss.getD k 0) P.tk < 2 ^ 48 := andN_lt _ _ hwd
  by_cases hO : opn (P.K.getD k zk).1 P.tk = 0
  ·rw [rew_empty hc' hO]
   rw [hs] at hO
   have hsw : (({ P with K := swK P.K k l, em := true } : PS).K.getD k zk) = ((P.K.getD k zk).1, sw0 (P.K.getD k zk) l, sw1 (P.K.getD k zk) l) := swK_at hiK
   refine h.build hi hS rfl rfl (swK_len _ _ _) (fun j hj => swK_other hj) (by rw [hsw]) h.al (fun _ _ _ q => q) (fun _ _ q => .inl q) rfl (by rw [wgt_K]; omega) (Nat.le_refl _) hfl (fun _ => hhand) (fun _ => rfl) (by rw [hsw]; exact hw') (by rw [hsw]; exact fun e => hsg (sw_eq e)) (fun q => h.wt k q) (fun _ => ⟨k, hi, hc, hO⟩) (fun _ => .inr (.inl ⟨rfl, hO⟩))
  ·by_cases hr : woN (opn (P.K.getD k zk).1 P.tk) (sw0 (P.K.getD k zk) l) = 0
   ·rw [rew_wait hc' hO hr]
    rw [hs] at hO hr
    have hsw : ((PS.more { P with K := swK P.K k l } 0 (k : Int)).K.getD k zk) = ((P.K.getD k zk).1, sw0 (P.K.getD k zk) l, sw1 (P.K.getD k zk) l) := swK_at hiK
    have one : ∀ b, (opn (Ss.getD k 0) P.tk).testBit b = true → b = placeN (sw0 (P.K.getD k zk) l) := by
     intro b hb
     have := congrArg (fun q => q.testBit b) hr
     simp only [woN_bit _ _ _ hol q0ok, Nat.zero_testBit, hb, Bool.true_and] at this
     have t : decide (placeN (sw0 (P.K.getD k zk) l) = b) = true := by
      cases hd : decide (placeN (sw0 (P.K.getD k zk) l) = b)
      ·rw [hd] at this
       cases this
      ·rfl
     exact (of_decide_eq_true t).symm
    obtain ⟨b, hb⟩ := ne_bit hO
    have hb' := one b hb
    subst hb'
    have ne0 : ∀ j, j ≠ 0 → (PS.more { P with K := swK P.K k l } 0 (k : Int)).A.getD j [] = P.A.getD j [] := fun j hj => by rw [more_get, if_neg (fun e => hj e.1)]
    refine h.build hi hS rfl rfl (swK_len _ _ _) (fun j hj => swK_other hj) (by rw [hsw]) (by show (P.A.set 0 _).length = 50; rw [List.length_set]; exact h.al) (fun k x _ q => more_mem (P := { P with K := swK P.K _ l }) q) (fun k' x q => by
     rcases more_of (P := { P with K := swK P.K k l }) q with z | z
     ·exact .inl z
     ·exact .inr z.2) (ne0 49 (by decide)) (wgt_more (P := { P with K := swK P.K k l })) (tot_more0 (P := { P with K := swK P.K k l })) hfl (fun _ => by rw [ne0 _ (by omega)]; exact hhand) (fun q => q) (by
     rw [hsw]
     exact ⟨hw'.1, hw'.2.1, hw'.2.2.1, hw'.2.2.2.1, more_mem (P := { P with K := swK P.K k l }) hw'.2.2.2.2.1, more_mem (P := { P with K := swK P.K k l }) hw'.2.2.2.2.2⟩) (by rw [hsw]; exact fun e => hsg (sw_eq e)) (fun _ _ a b ha hb => (one a ha).trans (one b hb).symm) h.es (fun _ => .inl ⟨more_new (P := { P with K := swK P.K k l }) (by show 0 < P.A.length; rw [h.al]; decide), _, .inl (by rw [hsw]), hb, fun a ha => one a ha⟩)
   ·rw [mvd_yes hc' hO hr] at hm
    cases hm
 ·have hc' : clsd (P.K.getD k zk).1 P.tk = true := by rw [hs]; exact hc
  rw [rew_closed hc']
  exact h.build hi hS rfl rfl rfl (fun _ _ => rfl) rfl h.al (fun _ _ _ q => q) (fun _ _ q => .inl q) rfl (by omega) (Nat.le_refl _) hfl (fun _ => hhand) (fun q => q) hw hsg (fun q => h.wt k q) h.es (fun q => by rw [hc] at q; cases q)
theorem Jn.move {Ss : List Nat} {P : PS} {R i : Nat} {l : Int} {F C : List Int} (h : Jn Ss P R l F ((i : Int) :: C)) (hm : P.mvd i l = true) : Jn Ss ((P.rew i l).setL (1 + placeN l) (F ++ C)) R l F C := by
 obtain ⟨k, hk, hi, hS⟩ := h.cin (i : Int) (by simp)
 have hk' : k = i := by omega
 subst hk'
 clear hk
 have hiK : k < P.K.length := by rw [h.len]; exact hi
 have hlo := h.lo (by simp)
 have hw := h.wat k hi hS
 have hs := h.sets k hi
 have hwd := h.wd k hi
 have hhand := h.hand (by simp)
 have hpl := placeN_le hlo.1
 cases hc : clsd (Ss.getD k 0) P.tk
 ·have hc' : clsd (P.K.getD k zk).1 P.tk = false := by rw [hs]; exact hc
  have hsi := h.st k hi hS hc
  have hw' := sw_pair (l := l) hw
  have q0ok := hw'.1
  have hol : opn (Ss.getD k 0) P.tk < 2 ^ 48 := andN_lt _ _ hwd
  by_cases hO : opn (P.K.getD k zk).1 P.tk = 0
  ·rw [mvd_no (.inl hO)] at hm
   cases hm
  ·by_cases hr : woN (opn (P.K.getD k zk).1 P.tk) (sw0 (P.K.getD k zk) l) = 0
   ·rw [mvd_no (.inr hr)] at hm
    cases hm
   ·clear hm
    rw [rew_move hc' hO hr]
    rw [hs] at hO hr ⊢
    have hrl : woN (opn (Ss.getD k 0) P.tk) (sw0 (P.K.getD k zk) l) < 2 ^ 48 := woN_lt hol
    have fs := fst_spec (Nat.pos_of_ne_zero hr) hrl
    generalize hf : fstI (woN (opn (Ss.getD k 0) P.tk) (sw0 (P.K.getD k zk) l)) = f at *
    have fb := fs.2
    rw [woN_bit _ _ _ hol q0ok, Bool.and_eq_true, Bool.not_eq_true', decide_eq_false_iff_not] at fb
    have fb1 := fb.1
    rw [opn_bit _ _ _ hwd, Bool.and_eq_true, Bool.not_eq_true', swp_place fs.1] at fb1
    have hfl := placeN_le fs.1
    have hnl : placeN f ≠ placeN l := fun e => by
     have := placeN_inj fs.1 hlo.1 e
     rw [this, hlo.2] at fb1
     cases fb1.2
    have hp2 : (P.K.getD k zk).2.1 ≠ (P.K.getD k zk).2.2 := fun e => by
     have one := h.so k (h.sg k hi hS e)
     exact fb.2 (one _ _ hw'.2.2.1 fb1.1)
    have h0l : sw0 (P.K.getD k zk) l ≠ l := by
     unfold sw0
     split
     ·rename_i z
      exact fun e => hp2 (z.trans e.symm)
     ·assumption
    have h0l' : placeN (sw0 (P.K.getD k zk) l) ≠ placeN l := fun e => h0l (placeN_inj q0ok hlo.1 e)
    obtain ⟨Q, hQ⟩ : ∃ Q, Q = PS.more { P with K := P.K.set k (Ss.getD k 0, sw0 (P.K.getD k zk) l, f) } (1 + placeN f) (k : Int) := ⟨_, rfl⟩
    have mm : ∀ {j x}, x ∈ P.A.getD j [] → x ∈ Q.A.getD j [] := fun q => by rw [hQ]; exact more_mem (P := { P with K := P.K.set k (Ss.getD k 0, sw0 (P.K.getD k zk) l, f) }) q
    have mo : ∀ {j x}, x ∈ Q.A.getD j [] → x ∈ P.A.getD j [] ∨ (j = 1 + placeN f ∧ x = (k : Int)) := fun q => by rw [hQ] at q; exact more_of (P := { P with K := P.K.set k (Ss.getD k 0, sw0 (P.K.getD k zk) l, f) }) q
    have mn : (k : Int) ∈ Q.A.getD (1 + placeN f) [] := by rw [hQ]; exact more_new (P := { P with K := P.K.set k (Ss.getD k 0, sw0 (P.K.getD k zk) l, f) }) (by show 1 + placeN f < P.A.length; rw [h.al]; omega)
    have ms : ∀ j, j ≠ 1 + placeN f → Q.A.getD j [] = P.A.getD j [] := fun j hj => by rw [hQ, more_get, if_neg (fun e => hj e.1)]
    have ql : Q.A.length = 50 := by rw [hQ]; show (P.A.set _ _).length = 50; rw [List.length_set]; exact h.al
    have qw : wgt Q R ≤ wgt P R + 1 := by rw [hQ]; exact wgt_more (P := { P with K := P.K.set k (Ss.getD k 0, sw0 (P.K.getD k zk) l, f) })
    have qt : tot Q ≤ tot P + 1 := by rw [hQ]; exact tot_more (P := { P with K := P.K.set k (Ss.getD k 0, sw0 (P.K.getD k zk) l, f) }) (by omega)
    have hsw : ((Q.setL (1 + placeN l) (F ++ C)).K.getD k zk) = (Ss.getD k 0, sw0 (P.K.getD k zk) l, f) := by rw [hQ]; exact set_getD hiK _
    have sl : ∀ j, (Q.setL (1 + placeN l) (F ++ C)).A.getD j [] = if j = 1 + placeN l then F ++ C else Q.A.getD j [] := fun j => by
     rw [setL_get]
     by_cases e : j = 1 + placeN l
     ·rw [if_pos ⟨e, by rw [ql]; omega⟩, if_pos e]
     ·rw [if_neg (fun z => e z.1), if_neg e]
    have hQl : Q.A.getD (1 + placeN l) [] = F ++ (k : Int) :: C := by rw [ms _ (by omega)]; exact hhand
    have et : Q.tk = P.tk := by rw [hQ]; rfl
    have eho : Q.ho = P.ho := by rw [hQ]; rfl
    have eem : Q.em = P.em := by rw [hQ]; rfl
    have eK : Q.K = P.K.set k (Ss.getD k 0, sw0 (P.K.getD k zk) l, f) := by rw [hQ]; rfl
    rw [← hQ]
    refine h.build hi hS et eho (by show Q.K.length = _; rw [eK, List.length_set]) (fun j hj => by show Q.K.getD j zk = _; rw [eK]; exact K_other hj) (by rw [hsw, hs]) (by show (Q.A.set _ _).length = 50; rw [List.length_set]; exact ql) (fun j x hx q => ?_) (fun j x q => ?_) ?_ (Nat.le_trans (wgt_cut (by rw [hQl]; simp)) qw) ?_ (Nat.le_succ _) (fun _ => by rw [sl, if_pos rfl]) (fun q => by show Q.em = true; rw [eem]; exact q) ?_ ?_ (fun q => ?_) (by show Q.em = true → _; rw [eem]; exact h.es) (fun _ => ?_)
    ·rw [sl]
     split
     ·rename_i e
      rw [e, hhand, List.mem_append, List.mem_cons] at q
      rw [List.mem_append]
      rcases q with z | z | z
      ·exact .inl z
      ·exact absurd z hx
      ·exact .inr z
     ·exact mm q
    ·rw [sl] at q
     split at q
     ·rename_i e
      rw [e, hhand, List.mem_append, List.mem_cons]
      rw [List.mem_append] at q
      rcases q with z | z
      ·exact .inl (.inl z)
      ·exact .inl (.inr (.inr z))
     ·rcases mo q with z | z
      ·exact .inl z
      ·exact .inr z.2
    ·rw [sl, if_neg (by omega), ms _ (by omega)]
    ·have := tot_cut (P := Q) (q := placeN l) (M := F ++ C) (by omega) (by rw [ql]; omega) (by rw [hQl]; simp only [List.length_append, List.length_cons]; omega)
     omega
    ·rw [hsw]
     refine ⟨hw'.1, fs.1, hw'.2.2.1, fb1.1, ?_, ?_⟩
     ·show (k : Int) ∈ (Q.setL (1 + placeN l) (F ++ C)).A.getD (1 + placeN (sw0 (P.K.getD k zk) l)) []
      rw [sl, if_neg (by omega)]
      exact mm hw'.2.2.2.2.1
     ·show (k : Int) ∈ (Q.setL (1 + placeN l) (F ++ C)).A.getD (1 + placeN f) []
      rw [sl, if_neg (by omega)]
      exact mn
    ·rw [hsw]
     exact fun e => absurd (congrArg placeN e) fb.2
    ·rw [sl, if_neg (by omega)] at q
     rcases mo q with z | z
     ·exact h.wt k z
     ·omega
    rw [hsw]
    have hne : sw0 (P.K.getD k zk) l ≠ f := fun e => fb.2 (by rw [e])
    have z0 : (Q.setL (1 + placeN l) (F ++ C)).A.getD 0 [] = P.A.getD 0 [] := by rw [sl, if_neg (by omega), ms _ (by omega)]
    have et' : (Q.setL (1 + placeN l) (F ++ C)).tk = P.tk := et
    unfold Stn
    rw [z0, et']
    rcases hsi with ⟨a1, y, a2, a3, a4⟩ | ⟨b1, b2⟩ | ⟨c1, c2, c3⟩ | ⟨d1, d2, d3⟩
    ·have e := a4 _ fb.1
     refine .inl ⟨a1, f, .inr rfl, fb.1, fun b hb => ?_⟩
     rw [a4 b hb, e]
    ·exact absurd b2 hO
    ·have hl : (lost P (sw0 (P.K.getD k zk) l) → pend P R l ((k : Int) :: C) k (sw0 (P.K.getD k zk) l)) := by
      unfold sw0
      split
      ·exact c3
      ·exact c2
     refine .inr (.inr (.inl ⟨hne, fun q => ?_, fun q => ?_⟩))
     ·have q' : lost P (sw0 (P.K.getD k zk) l) := by
       unfold lost at q ⊢
       rw [← et']
       exact q
      rcases hl q' with z | z
      ·exact .inl z
      ·exact absurd z.1 h0l
     ·have q' : P.tk.testBit (placeN (-f)) = true := by
       unfold lost at q
       rw [← et']
       exact q
      rw [fb1.2] at q'
      cases q'
    ·exact absurd d2 hO
 ·have hc' : clsd (P.K.getD k zk).1 P.tk = true := by rw [hs]; exact hc
  rw [mvd_closed hc'] at hm
  cases hm
theorem opn_lost (S : Nat) {T : Nat} {l : Int} (hl : okB l = true) (h : T.testBit (placeN (-l)) = true) : (opn S T).testBit (placeN l) = false := by
 unfold opn srt.andN
 have hp := placeN_le hl
 have e : 18446744073709551615 - oppN T = 2 ^ 64 - (oppN T + 1) := by have := oppN_lt T; omega
 have ob : (oppN T).testBit (placeN l) = true := by
  rw [oppN_bit, decide_eq_true (by omega), Bool.true_and, swp_place hl]
  exact h
 rw [Nat.testBit_and, e, Nat.testBit_two_pow_sub_succ (by have := oppN_lt T; omega), ob]
 simp
theorem low_bits {R : Nat} (h0 : 0 < R) (h : R < 2 ^ 48) (b : Nat) : (R &&& (R - 1)).testBit b = (R.testBit b && !decide (b = placeN (fstI R))) := by
 obtain ⟨t, m, et, ht, es⟩ := srt.low h0 h
 have ef : placeN (fstI R) = t := by
  unfold srt.fstI
  rw [← et]
  exact (litI_spec ht).2
 rw [srt.next_bit es, ef]
 by_cases h1 : t + 1 ≤ b
 ·rw [decide_eq_true h1, decide_eq_false (show ¬ b = t by omega)]
  rfl
 ·rw [decide_eq_false h1, Bool.and_false]
  by_cases h2 : b = t
  ·rw [decide_eq_true h2]
   simp
  ·rw [es, srt.low_bit, if_pos (by omega), decide_eq_false (by omega)]
   rfl
theorem neg_inj {x y : Int} (hx : okB x = true) (hy : okB y = true) (h : placeN (-x) = placeN y) : x = -y := by
 have := placeN_inj (opp_ok hx) hy h
 omega
theorem Jn.next {Ss : List Nat} {P : PS} {R : Nat} {l : Int} {F : List Int} (h : Jn Ss P R l F []) (h0 : 0 < R) : Jn Ss P (R &&& (R - 1)) (-fstI R) [] (P.A.getD (1 + placeN (-fstI R)) []) := by
 have fs := fst_spec h0 h.rk
 have lb := low_bits h0 h.rk
 generalize fstI R = y at *
 have oy := opp_ok fs.1
 have py := placeN_le oy
 have sq : swp (placeN (-y)) = placeN y := by rw [swp_place oy, Int.neg_neg]
 have pe : ∀ i p, (p = (P.K.getD i zk).2.1 ∨ p = (P.K.getD i zk).2.2) → okB p = true → (i : Int) ∈ P.A.getD (1 + placeN p) [] → pend P R l [] i p → pend P (R &&& (R - 1)) (-y) (P.A.getD (1 + placeN (-y)) []) i p := by
  intro i p _ hp hm hq
  rcases hq with q | q
  ·by_cases e : placeN (-p) = placeN y
   ·have := neg_inj hp fs.1 e
    subst this
    exact .inr ⟨rfl, hm⟩
   ·left
    rw [lb, q, decide_eq_false e]
    rfl
  ·cases q.2
 refine ⟨h.len, h.sets, h.wd, h.tk, Nat.lt_of_le_of_lt Nat.and_le_left h.rk, h.al, fun b hb => ?_, h.wat, h.idx, h.idx _, fun _ => ⟨oy, ?_⟩, fun _ => rfl, ?_, h.nl, h.tt, ?_, h.sg, h.so, h.sn, h.hz, h.wt, h.es, h.ez, fun i hi hS hc => ?_⟩
 ·rw [lb, Bool.and_eq_true] at hb
  exact h.rin b hb.1
 ·rw [Int.neg_neg]
  exact h.rin _ fs.2
 ·have hb := h.bd
  have := sumR_cut (n := 48) (q := placeN (-y)) (d := (P.A.getD (1 + placeN (-y)) []).length) (f := wf P (R &&& (R - 1))) (g := wf P R) (by omega) (fun p hp hne => by
   by_cases e : swp p = placeN y
   ·have : p = placeN (-y) := by rw [← srt.swp_swp p, e, swp_place fs.1]
    exact absurd this hne
   ·unfold wf
    rw [lb, decide_eq_false e]
    simp) (by
   rw [wf_no (by rw [sq, h.rin _ fs.2, lb, fs.2]; simp), wf_yes (by rw [sq, fs.2]; simp)]
   omega)
  unfold wgt at hb ⊢
  simp only [List.length_nil] at hb
  omega
 ·have := h.tt
  have := sumR_get (n := 48) (q := placeN (-y)) (f := fun p => (P.A.getD (1 + p) []).length) (by omega)
  unfold tot at *
  simp only [List.length_nil] at *
  omega
 ·have hw := h.wat i hi hS
  rcases h.st i hi hS hc with a | b | ⟨c1, c2, c3⟩ | ⟨d1, d2, d3⟩
  ·exact .inl a
  ·exact .inr (.inl b)
  ·exact .inr (.inr (.inl ⟨c1, fun q => pe i _ (.inl rfl) hw.1 hw.2.2.2.2.1 (c2 q), fun q => pe i _ (.inr rfl) hw.2.1 hw.2.2.2.2.2 (c3 q)⟩))
  ·refine .inr (.inr (.inr ⟨d1, d2, ?_⟩))
   rcases d3 with ⟨q1, q2⟩ | ⟨q1, q2⟩
   ·exact .inl ⟨q1, pe i _ (.inl rfl) hw.1 hw.2.2.2.2.1 q2⟩
   ·exact .inr ⟨q1, pe i _ (.inr rfl) hw.2.1 hw.2.2.2.2.2 q2⟩
theorem fit (Ss : List Nat) : Fit (Jn Ss) Ss.length where
 size := fun P R l F C h => h.len
 word := fun P R l F C h => h.tk
 all := fun P R l F C h i hi => by rw [h.sets i hi]; exact h.wd i hi
 lit0 := fun P R l F C h i hi => by
  obtain ⟨k, hk, hkN, hS⟩ := h.cin i hi
  have hw := h.wat k hkN hS
  have hb := h.bd
  refine ⟨k, hk, hkN, hw.1, hw.2.1, ?_, fun q hq hbq => ?_⟩
  ·unfold wgt at hb
   omega
  ·have hp := placeN_le hq
   rw [h.sets k hkN, opn_bit _ _ _ (h.wd k hkN), Bool.and_eq_true, Bool.not_eq_true'] at hbq
   have := wgt_at (P := P) (R := R) (q := placeN q) (by omega) (by rw [hbq.2]; rfl)
   omega
 lost := fun P R l F C h hC => ⟨(h.lo hC).1, fun S => opn_lost S (h.lo hC).1 (h.lo hC).2⟩
 lens := fun P R l F C h => by
  have := h.fl
  have := h.nl
  rw [List.length_append]
  omega
 next := fun P R l F h h0 _ => h.next h0
 stay := fun P R l F i C h hm => h.stay hm
 move := fun P R l F i C h hm => h.move hm
theorem Jn.start {Ss : List Nat} {P : PS} {l l' : Int} {L : Nat} {F : List Int} (h : Jn Ss P 0 l F []) (hL : L < 2 ^ 48) (hd : ∀ b, L.testBit b = true → P.tk.testBit b = false) (he : P.em = true → ∃ i, i < Ss.length ∧ Ss.getD i 0 = 0) : Jn Ss { P with tk := P.tk ||| L } L l' [] [] := by
 have tb : ∀ b, (P.tk ||| L).testBit b = (P.tk.testBit b || L.testBit b) := fun b => Nat.testBit_or ..
 have cl : ∀ S, clsd S (P.tk ||| L) = false → clsd S P.tk = false := by
  intro S hc
  rw [clsd_no] at hc ⊢
  intro b hb
  exact hc b ⟨hb.1, by rw [tb, hb.2]; rfl⟩
 have op : ∀ S, S < 2 ^ 48 → ∀ b, (opn S (P.tk ||| L)).testBit b = true → (opn S P.tk).testBit b = true := by
  intro S hS b hb
  rw [opn_bit _ _ _ hS, tb, Bool.and_eq_true, Bool.not_eq_true', Bool.or_eq_false_iff] at hb
  rw [opn_bit _ _ _ hS, hb.1, hb.2.1]
  rfl
 refine ⟨h.len, h.sets, h.wd, or_lt h.tk hL, hL, h.al, fun b hb => (by show (P.tk ||| L).testBit b = true; rw [tb, hb, Bool.or_true]), h.wat, h.idx, fun x hx => (by cases hx), fun q => absurd rfl q, fun q => absurd rfl q, ?_, h.nl, h.tt, Nat.zero_le _, h.sg, h.so, h.sn, h.hz, fun k hk hc a b ha hb => ?_, fun q => ?_, h.ez, fun i hi hS hc => ?_⟩
 ·have hb := h.bd
  have := sumR_le (n := 48) (f := wf { P with tk := P.tk ||| L } L) (g := wf P 0) (fun p hp => by
   unfold wf
   show (if (P.tk ||| L).testBit (swp p) && !L.testBit (swp p) then 0 else (P.A.getD (1 + p) []).length) ≤ if P.tk.testBit (swp p) && !(0 : Nat).testBit (swp p) then 0 else (P.A.getD (1 + p) []).length
   rw [tb, Nat.zero_testBit]
   cases h1 : L.testBit (swp p)
   ·simp
   ·rw [hd _ h1]
    simp)
  unfold wgt at hb ⊢
  show sumR 48 (wf { P with tk := P.tk ||| L } L) + (P.A.getD 0 []).length + 0 ≤ _
  simp only [List.length_nil] at hb
  omega
 ·obtain ⟨k', e, hkN, _⟩ := h.idx 0 _ hk
  have : k' = k := by omega
  subst this
  exact h.wt k' hk (cl _ hc) a b (op _ (h.wd k' hkN) a ha) (op _ (h.wd k' hkN) b hb)
 ·obtain ⟨i, hi, hz⟩ := he q
  refine ⟨i, hi, ?_, ?_⟩
  ·rw [hz]
   exact clsd_no.2 (fun b hb => by rw [Nat.zero_testBit] at hb; cases hb.1)
  ·rw [hz]
   exact Nat.zero_and _
 ·have hw := h.wat i hi hS
  have hwd := h.wd i hi
  have ls : ∀ p, okB p = true → lost { P with tk := P.tk ||| L } p → ¬ lost P p → pend { P with tk := P.tk ||| L } L l' [] i p := by
   intro p hp h1 h2
   left
   have h1' : (P.tk ||| L).testBit (placeN (-p)) = true := h1
   rw [tb] at h1'
   cases hq : P.tk.testBit (placeN (-p))
   ·rw [hq] at h1'
    exact h1'
   ·exact absurd hq h2
  rcases h.st i hi hS (cl _ hc) with ⟨a1, y, a2, a3, a4⟩ | ⟨b1, b2⟩ | ⟨c1, c2, c3⟩ | ⟨d1, d2, d3⟩
  ·have oy : okB y = true := by rcases a2 with e | e <;> rw [e]; exact hw.1; exact hw.2.1
   have a3' := a3
   rw [opn_bit _ _ _ hwd, Bool.and_eq_true, Bool.not_eq_true', swp_place oy] at a3'
   cases hq : L.testBit (placeN (-y))
   ·refine .inl ⟨a1, y, a2, ?_, fun b hb => a4 b (op _ hwd b hb)⟩
    show (opn _ (P.tk ||| L)).testBit _ = true
    rw [opn_bit _ _ _ hwd, tb, swp_place oy, hq, a3'.1, a3'.2]
    rfl
   ·refine .inr (.inr (.inr ⟨a1, zero_of fun b => ?_, ?_⟩))
    ·cases hb : (opn (Ss.getD i 0) (P.tk ||| L)).testBit b
     ·rfl
     ·have e := a4 b (op _ hwd b hb)
      rw [e, opn_bit _ _ _ hwd, tb, swp_place oy, hq, Bool.or_true] at hb
      simp at hb
    ·have lo : lost { P with tk := P.tk ||| L } y := by
      show (P.tk ||| L).testBit _ = true
      rw [tb, hq, Bool.or_true]
     rcases a2 with e | e
     ·rw [← e]
      exact .inl ⟨lo, .inl hq⟩
     ·rw [← e]
      exact .inr ⟨lo, .inl hq⟩
  ·refine .inr (.inl ⟨b1, zero_of fun b => ?_⟩)
   cases hb : (opn (Ss.getD i 0) (P.tk ||| L)).testBit b
   ·rfl
   ·have := op _ hwd b hb
    rw [b2, Nat.zero_testBit] at this
    cases this
  ·have no : ∀ p, ¬ pend P 0 l [] i p := by
    intro p hp
    rcases hp with q | q
    ·rw [Nat.zero_testBit] at q
     cases q
    ·cases q.2
   exact .inr (.inr (.inl ⟨c1, fun q => ls _ hw.1 q (fun z => no _ (c2 z)), fun q => ls _ hw.2.1 q (fun z => no _ (c3 z))⟩))
  ·have no : ∀ p, ¬ pend P 0 l [] i p := by
    intro p hp
    rcases hp with q | q
    ·rw [Nat.zero_testBit] at q
     cases q
    ·cases q.2
   rcases d3 with z | z
   ·exact absurd z.2 (no _)
   ·exact absurd z.2 (no _)
end Go.Proofs.YtfhmdpbnnieohaaDoor.wm
namespace Go.Proofs.YtfhmdpbnnieohaaDoor.wm
open Go.RowKit
open lits (okB okB_iff)
open bset (placeN placeN_le placeN_inj setOf setOf_lt withN withN_lt withN_bit)
open srt (woN woN_lt woN_bit fstI oppN oppN_bit oppN_lt swp andN andN_bit andN_lt or_lt hi_bit)
set_option linter.unusedVariables false
theorem Jn.open_ {Ss : List Nat} {P : PS} {l : Int} {F : List Int} (h : Jn Ss P 0 l F []) (he : P.em = false) {i : Nat} (hi : i < Ss.length) (hc : clsd (Ss.getD i 0) P.tk = false) : opn (Ss.getD i 0) P.tk ≠ 0 ∧
  (((i : Int) ∈ P.A.getD 0 []) ∨ ∃ a b, (opn (Ss.getD i 0) P.tk).testBit a = true ∧ (opn (Ss.getD i 0) P.tk).testBit b = true ∧ a ≠ b) := by
 have hS : Ss.getD i 0 ≠ 0 := fun e => by
  have := h.ez i hi e
  rw [he] at this
  cases this
 have hw := h.wat i hi hS
 have hwd := h.wd i hi
 have no : ∀ p, ¬ pend P 0 l [] i p := by
  intro p hp
  rcases hp with q | q
  ·rw [Nat.zero_testBit] at q
   cases q
  ·cases q.2
 rcases h.st i hi hS hc with ⟨a1, y, a2, a3, a4⟩ | ⟨b1, b2⟩ | ⟨c1, c2, c3⟩ | ⟨d1, d2, d3⟩
 ·exact ⟨fun e => (by rw [e, Nat.zero_testBit] at a3; cases a3), .inl a1⟩
 ·rw [he] at b1
  cases b1
 ·have ob : ∀ p, okB p = true → (Ss.getD i 0).testBit (placeN p) = true → (lost P p → pend P 0 l [] i p) → (opn (Ss.getD i 0) P.tk).testBit (placeN p) = true := by
   intro p hp hs hl
   rw [opn_bit _ _ _ hwd, hs, swp_place hp]
   cases hq : P.tk.testBit (placeN (-p))
   ·rfl
   ·exact absurd (hl hq) (no p)
  have o1 := ob _ hw.1 hw.2.2.1 c2
  have o2 := ob _ hw.2.1 hw.2.2.2.1 c3
  exact ⟨fun e => (by rw [e, Nat.zero_testBit] at o1; cases o1), .inr ⟨_, _, o1, o2, fun e => c1 (placeN_inj hw.1 hw.2.1 e)⟩⟩
 ·rcases d3 with z | z
  ·exact absurd z.2 (no _)
  ·exact absurd z.2 (no _)
theorem Jn.unit {Ss : List Nat} {P : PS} {l : Int} {F : List Int} (h : Jn Ss P 0 l F []) : (P.uniX, !P.em) = unitN Ss P.tk := by
 unfold unitN
 cases he : P.em
 ·have na : (Ss.map (clauseN · P.tk)).any (· == -100) = false := by
   rw [List.any_eq_false]
   intro x hx e
   rw [List.mem_map] at hx
   obtain ⟨S, hS, rfl⟩ := hx
   obtain ⟨i, hi, rfl⟩ := List.mem_iff_getElem.1 hS
   have ei : Ss.getD i 0 = Ss[i] := by simp [hi]
   have e' : clauseN (Ss.getD i 0) P.tk = -100 := by rw [ei]; simpa using e
   cases hc : clsd (Ss.getD i 0) P.tk
   ·have ho := (h.open_ he hi hc).1
    by_cases hr : woN (opn (Ss.getD i 0) P.tk) (fstI (opn (Ss.getD i 0) P.tk)) = 0
    ·rw [clauseN_one hc ho hr] at e'
     exact (ok_ne (fst_spec (Nat.pos_of_ne_zero ho) (andN_lt _ _ (h.wd i hi))).1).2 e'
    ·rw [clauseN_two hc ho hr] at e'
     omega
   ·rw [clauseN_closed hc] at e'
    omega
  rw [if_neg (by rw [na]; simp)]
  have eX : P.uniX = if least P (still P) = P.K.length then 0 else fstI (opn (P.K.getD (least P (still P)) zk).1 P.tk) := by
   unfold PS.uniX
   rw [if_neg (by rw [he]; simp)]
  have inst : ∀ i, i < Ss.length → clauseN (Ss.getD i 0) P.tk ≠ 0 → (i : Int) ∈ still P := by
   intro i hi hn
   cases hc : clsd (Ss.getD i 0) P.tk
   ·have ho := h.open_ he hi hc
    have hr : woN (opn (Ss.getD i 0) P.tk) (fstI (opn (Ss.getD i 0) P.tk)) = 0 := by
     apply Classical.byContradiction
     intro hr
     exact hn (clauseN_two hc ho.1 hr)
    have one := (one_iff (andN_lt _ _ (h.wd i hi)) ho.1).1 hr
    rcases ho.2 with q | ⟨a, b, ha, hb, hab⟩
    ·unfold still
     rw [List.mem_filter]
     refine ⟨q, ?_⟩
     unfold live
     rw [Int.toNat_natCast, h.sets i hi, hc]
     rfl
    ·exact absurd (one a b ha hb) hab
   ·exact absurd (clauseN_closed hc) hn
  rw [eX]
  congr 1
  by_cases hl : least P (still P) = P.K.length
  ·rw [if_pos hl, firstN_none]
   intro x hx
   rw [List.mem_map] at hx
   obtain ⟨S, hS, rfl⟩ := hx
   obtain ⟨i, hi, rfl⟩ := List.mem_iff_getElem.1 hS
   have ei : Ss.getD i 0 = Ss[i] := by simp [hi]
   apply Classical.byContradiction
   intro hn
   rw [← ei] at hn
   have := least_all P (still P) _ (inst i hi hn)
   rw [Int.toNat_natCast, hl, h.len] at this
   omega
  ·rw [if_neg hl]
   have hlt : least P (still P) < Ss.length := by
    have := least_le P (still P)
    rw [h.len] at this hl
    omega
   have hm : ((least P (still P) : Nat) : Int) ∈ still P := by
    rcases least_mem P (still P) with q | ⟨x, hx, q⟩
    ·exact absurd q hl
    ·have hx0 := (List.mem_filter.1 hx).1
     obtain ⟨k, rfl, _⟩ := h.idx 0 x hx0
     rw [Int.toNat_natCast] at q
     rw [← q]
     exact hx
   have hm' := List.mem_filter.1 hm
   have hcl : clsd (Ss.getD (least P (still P)) 0) P.tk = false := by
    have := hm'.2
    unfold live at this
    rw [Int.toNat_natCast, h.sets _ hlt, Bool.not_eq_true'] at this
    exact this
   have ho := (h.open_ he hlt hcl).1
   have hr := (one_iff (andN_lt _ _ (h.wd _ hlt)) ho).2 (h.wt _ hm'.1 hcl)
   have e1 := clauseN_one hcl ho hr
   rw [h.sets _ hlt, ← e1]
   have hne : clauseN (Ss.getD (least P (still P)) 0) P.tk ≠ 0 := by
    rw [e1]
    exact (ok_ne (fst_spec (Nat.pos_of_ne_zero ho) (andN_lt _ _ (h.wd _ hlt))).1).1
   rw [firstN_at (i := least P (still P)) (by rw [List.length_map]; exact hlt) (by rw [map_at hlt]; exact hne) (fun j hj => ?_), map_at hlt]
   rw [map_at (by omega)]
   apply Classical.byContradiction
   intro hn
   have := least_all P (still P) _ (inst j (by omega) hn)
   rw [Int.toNat_natCast] at this
   omega
 ·obtain ⟨i, hi, hc, ho⟩ := h.es he
  have : (Ss.map (clauseN · P.tk)).any (· == -100) = true := by
   rw [List.any_eq_true]
   refine ⟨clauseN (Ss.getD i 0) P.tk, ?_, by rw [clauseN_empty hc ho]; rfl⟩
   rw [List.mem_map]
   exact ⟨Ss.getD i 0, by rw [show Ss.getD i 0 = Ss[i] by simp [hi]]; exact List.getElem_mem hi, rfl⟩
  rw [if_pos this]
  unfold PS.uniX
  rw [if_pos he]
  rfl
theorem filter_len (P : PS) : (still P).length ≤ (P.A.getD 0 []).length := List.length_filter_le _ _
theorem Jn.uni {Ss : List Nat} {P : PS} {l : Int} {F : List Int} (h : Jn Ss P 0 l F []) : Jn Ss P.uni 0 l F [] := by
 unfold PS.uni
 split
 ·exact h
 ·rename_i he
  have g0 : ∀ k, (({ P with A := P.A.set 0 (still P) } : PS).A.getD k []) = if k = 0 then still P else P.A.getD k [] := by
   intro k
   show (P.A.set 0 (still P)).getD k [] = _
   rw [getD_set]
   by_cases e : k = 0
   ·rw [if_pos ⟨e, by rw [h.al]; decide⟩, if_pos e]
   ·rw [if_neg (fun q => e q.1), if_neg e]
  have sub : ∀ k x, x ∈ (({ P with A := P.A.set 0 (still P) } : PS).A.getD k []) → x ∈ P.A.getD k [] := by
   intro k x hx
   rw [g0] at hx
   split at hx
   ·rename_i e
    subst e
    exact (List.mem_filter.1 hx).1
   ·exact hx
  have keep : ∀ i : Nat, i < Ss.length → clsd (Ss.getD i 0) P.tk = false → (i : Int) ∈ P.A.getD 0 [] → (i : Int) ∈ (({ P with A := P.A.set 0 (still P) } : PS).A.getD 0 []) := by
   intro i hi hc hm
   rw [g0, if_pos rfl]
   unfold still
   rw [List.mem_filter]
   refine ⟨hm, ?_⟩
   unfold live
   rw [Int.toNat_natCast, h.sets i hi, hc]
   rfl
  refine ⟨h.len, h.sets, h.wd, h.tk, h.rk, by show (P.A.set 0 _).length = 50; rw [List.length_set]; exact h.al, h.rin, fun i hi hS => ?_, fun k x hx => h.idx k x (sub k x hx), h.cin, h.lo, fun q => absurd rfl q, ?_, h.nl, ?_, h.fl, fun i hi hS e => ?_, fun k hk => h.so k (sub 49 _ hk), ?_, h.hz, fun k hk => h.wt k (sub 0 _ hk), h.es, h.ez, fun i hi hS hc => ?_⟩
  ·have hw := h.wat i hi hS
   refine ⟨hw.1, hw.2.1, hw.2.2.1, hw.2.2.2.1, ?_, ?_⟩
   ·rw [g0, if_neg (by omega)]
    exact hw.2.2.2.2.1
   ·rw [g0, if_neg (by omega)]
    exact hw.2.2.2.2.2
  ·have hb := h.bd
   have := sumR_le (n := 48) (f := wf { P with A := P.A.set 0 (still P) } 0) (g := wf P 0) (fun p hp => by
    have e := g0 (1 + p)
    rw [if_neg (by omega)] at e
    unfold wf
    rw [e]
    exact Nat.le_refl _)
   have := filter_len P
   unfold wgt at hb ⊢
   rw [g0, if_pos rfl]
   simp only [List.length_nil] at hb ⊢
   omega
  ·refine Nat.le_trans (sumR_le (fun p hp => ?_)) h.tt
   rw [g0, if_neg (by omega)]
   exact Nat.le_refl _
  ·rw [g0, if_neg (by omega)]
   exact h.sg i hi hS e
  ·rw [g0, if_neg (by omega)]
   exact h.sn
  ·rcases h.st i hi hS hc with ⟨a1, a2⟩ | b | c | ⟨d1, d2⟩
   ·exact .inl ⟨keep i hi hc a1, a2⟩
   ·exact .inr (.inl b)
   ·exact .inr (.inr (.inl c))
   ·exact .inr (.inr (.inr ⟨keep i hi hc d1, d2⟩))
end Go.Proofs.YtfhmdpbnnieohaaDoor.wm
