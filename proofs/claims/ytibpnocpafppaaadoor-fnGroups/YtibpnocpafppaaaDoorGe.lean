/- A formula of the call's own that is written in place, literal by literal; a copy of one; no condition but on sizes. -/
import Derived.Test.YtibpnocpafppaaaDoorJn
import Derived.Test.YtibpnocpafppaaaDoorOk
import Derived.Deep.RegionHeld3
namespace Go.Proofs.YtibpnocpafppaaaDoor.ge
open Go.ChangeShapes Go.WideShapes Go.ChangeAt Go.RowKit
open Go.Proofs.YtibpnocpafppaaaDoor.cf (Box)
open Go.Proofs.YtibpnocpafppaaaDoor.ok (cnfB)
open Go.Proofs.YtibpnocpafppaaaDoor.css (Sls OwnS tot Apart own_ne own_ne' own_kind own_mono)
open Go.Proofs.YtibpnocpafppaaaDoor.sl (Sl Own ints hide unhide ret_int ret_bool grown_refl grown_trans)
set_option linter.unusedVariables false
set_option maxRecDepth 100000 in
set_option maxHeartbeats 4000000 in
theorem copyCnf (v : Value) (n : Int) (LL : List (List Int)) (lo hi : Nat) (w : World) (hn : tot LL ≤ 1048576) (hv : OwnS lo hi w v LL) :
    Calls Tryd.prog 57 #[.agg #[.int .i64 n, v]] w fun e w' => ∃ u, e = .returned (.agg #[.int .i64 n, u]) ∧ OwnS w.heap.size w'.heap.size w' u LL ∧ w.grownBy w' none := by
  obtain ⟨va, vc, rfl⟩ := hv.len
  have g0 : w.grownBy ((w.alloc (.cells #[.int .i64 n, .slice va LL.length vc] 26)).alloc (.cells #[.int .i64 0, .slice none 0 0] 26)) none := grown_trans (World.grownBy_alloc _ _ _) (World.grownBy_alloc _ _ _)
  have b0 := (Box.new 26 w (.int .i64 n) (.slice va LL.length vc)).kept (World.grownBy_alloc _ (.cells #[.int .i64 0, .slice none 0 0] 26) none)
  have b1 := Box.new 26 (w.alloc (.cells #[.int .i64 n, .slice va LL.length vc] 26)) (.int .i64 0) (.slice none 0 0)
  rw [World.size_alloc] at b1
  have hsz : ((w.alloc (.cells #[.int .i64 n, .slice va LL.length vc] 26)).alloc (.cells #[.int .i64 0, .slice none 0 0] 26)).heap.size = w.heap.size + 2 := by simp only [World.size_alloc]
  go_enter Tryd.func57, Tryd.ntmps57
  go_wp2_with fail
  generalize hW0 : (w.alloc (.cells #[.int .i64 n, .slice va LL.length vc] 26)).alloc (.cells #[.int .i64 0, .slice none 0 0] 26) = W0 at *
  have CL := hide (app.copyLists (.slice va LL.length vc) LL lo hi W0.drew hn ((hv.kept g0).kept (cf.grown_drew W0 none)))
  have x0 := b0.c0
  have x1 := b0.c1
  have y0 := b1.c0
  have y1 := b1.c1
  have B0 := hide b0
  have B1 := hide b1
  have G0 := hide g0
  have HS := hide hsz
  clear hv g0 b0 b1 hW0 hsz
  go_region_held3 (fun w' => w'.cell? ⟨w.heap.size, 0, none⟩ = some (.int .i64 n) ∧ w'.cell? ⟨w.heap.size, 1, none⟩ = some (.slice va LL.length vc)) (go_keep) (first
    | (go_at_call 96; refine (unhide CL).mono ?_; rintro e w1 ⟨u, rfl, o1, g1⟩; obtain ⟨ua, uc, rfl⟩ := o1.len; have G1 := hide (grown_trans (r := none) (cf.grown_drew W0 none) g1); have z0 := ((unhide B0).kept (unhide G1)).c0; have z1 := ((unhide B0).kept (unhide G1)).c1; have k0 := ((unhide B1).kept (unhide G1)).c0; have k1 := ((unhide B1).kept (unhide G1)).c1; have k2 := ((unhide B1).kept (unhide G1)).f 0; have k3 := ((unhide B1).kept (unhide G1)).f 1; have O1 := hide o1; clear o1 g1))
  go_wp2_with fail
  (try simp only [Exit.inBlock, Exit.then])
  have hs := unhide HS
  have h1 := (unhide G1).size
  refine bodyPost_ret (cf.ret_box rfl rfl ((((unhide B1).kept (unhide G1)).set0 _).set1 _)) rfl ⟨_, rfl, ?_, ?_⟩
  · rw [cf.size_set, cf.size_set]
    have o := unhide O1
    have e : W0.drew.heap.size = W0.heap.size := rfl
    rw [e] at o
    exact (cf.ownS_set (cf.ownS_set o (by omega)) (by omega)).sub (by omega) (Nat.le_refl _)
  · exact cf.grown_set (cf.grown_set (grown_trans (unhide G0) (unhide G1)) (by omega)) (by omega)

/-- lists of one's own, with the values that hold them -/
def OwnD (lo hi : Nat) (w : World) (v : Value) (D : List (Value × List Int)) : Prop :=
  w.ownsRow lo 31 1 v D.length (D.map (·.1)) ∧ (∀ k, v.ownBlock = some k → k < hi) ∧ (∀ p ∈ D, Own lo hi w p.1 p.2) ∧ D.Pairwise Apart
theorem OwnD.of {lo hi : Nat} {w : World} {v : Value} {LL : List (List Int)} (h : OwnS lo hi w v LL) : ∃ D, D.map (·.2) = LL ∧ OwnD lo hi w v D := by
  obtain ⟨D, e, h1, h2, h3, h4⟩ := h
  exact ⟨D, e, h1, h2, h3, h4⟩
theorem OwnD.to {lo hi : Nat} {w : World} {v : Value} {D : List (Value × List Int)} (h : OwnD lo hi w v D) : OwnS lo hi w v (D.map (·.2)) := by
  obtain ⟨h1, h2, h3, h4⟩ := h
  exact ⟨D, rfl, h1, h2, h3, h4⟩
theorem ints_set (L : List Int) (j : Nat) (y : Int) : (ints L).set j (.int .i64 y) = ints (L.set j y) := by
  unfold ints
  rw [List.map_set]
theorem map_set1 (D : List (Value × List Int)) (k : Nat) (h : k < D.length) (L : List Int) : (D.set k (D[k].1, L)).map (fun p : Value × List Int => p.1) = D.map (fun p : Value × List Int => p.1) := by
  rw [List.map_set]
  apply List.ext_getElem
  · simp
  · intro i h1 h2
    rw [List.getElem_set]
    split
    · rename_i e
      subst e
      simp
    · rfl
theorem map_set2 (D : List (Value × List Int)) (k : Nat) (p : Value × List Int) : (D.set k p).map (fun p : Value × List Int => p.2) = (D.map (fun p : Value × List Int => p.2)).set k p.2 := by
  rw [List.map_set]
theorem pair_set {D : List (Value × List Int)} {k : Nat} (h : k < D.length) (L : List Int) (hp : D.Pairwise Apart) : (D.set k (D[k].1, L)).Pairwise Apart := by
  rw [List.pairwise_iff_getElem] at hp ⊢
  intro i j hi hj hij
  simp only [List.length_set] at hi hj
  have e : ∀ (i : Nat) (hi : i < D.length), ((D.set k (D[k].1, L))[i]'(by simpa using hi)).1 = D[i].1 := by
    intro i hi
    rw [List.getElem_set]
    split
    · rename_i e
      subst e
      rfl
    · rfl
  intro g
  rw [e i hi, e j hj]
  exact hp i j hi hj hij g
/-- one number is written -/
theorem OwnD.put {lo hi g cap : Nat} {w : World} {v : Value} {D : List (Value × List Int)} {k j : Nat} (h : OwnD lo hi w v D) (hk : k < D.length) (hu : D[k].1 = .slice (some ⟨g, 0, none⟩) D[k].2.length cap) (hj : j < D[k].2.length) (y : Int) :
    (w.cell? ⟨g, j, none⟩ = some (.int .i64 (D[k].2.getD j 0)) ∧ w.frozen? ⟨g, j, none⟩ = false ∧ lo ≤ g ∧ g < hi ∧ (∃ c fz, w.heap[g]? = some (.cells c 3 fz))) ∧ OwnD lo hi (w.setCell ⟨g, j, none⟩ (.int .i64 y)) v (D.set k (D[k].1, D[k].2.set j y)) := by
  obtain ⟨h1, h2, h3, h4⟩ := h
  have hm := h3 _ (List.getElem_mem hk)
  have ho := hm.1
  have hb : D[k].1.ownBlock = some g := by rw [hu]; rfl
  have gl := ho.lt g hb
  have gset := sl.grown_setCell w g j (.int .i64 y)
  have ho2 := ho
  rw [hu] at ho2
  have hc := ho2.cellAt j (by omega)
  have hf := ho2.frozenAt j
  have st := (ho2.stored j (.int .i64 y)).1
  refine ⟨⟨?_, hf, gl.1, hm.2 g hb, own_kind ho g hb⟩, ?_, h2, ?_, pair_set hk _ h4⟩
  · rw [hc]
    simp [ints, hj]
  · rw [map_set1 D k hk, List.length_set]
    refine h1.kept gset ?_
    cases e : v.ownBlock with
    | none => exact .inl rfl
    | some q => exact .inr (fun e' => own_ne h1 ho g hb (e.trans e'))
  · intro p hp
    obtain ⟨i, hi', e⟩ := List.getElem_of_mem hp
    simp only [List.length_set] at hi'
    rw [List.getElem_set] at e
    split at e
    · subst e
      refine ⟨?_, hm.2⟩
      show World.ownsRow _ lo 3 1 D[k].1 (D[k].2.set j y).length (ints (D[k].2.set j y))
      rw [← ints_set, List.length_set, hu]
      exact st
    · rename_i hne
      subst e
      have hp2 := h3 _ (List.getElem_mem hi')
      refine ⟨hp2.1.kept gset ?_, hp2.2⟩
      cases e : D[i].1.ownBlock with
      | none => exact .inl rfl
      | some q =>
        refine .inr (fun e' => ?_)
        cases e'
        rw [List.pairwise_iff_getElem] at h4
        rcases Nat.lt_or_gt_of_ne hne with hlt | hlt
        · exact h4 k i hk hi' hlt g hb e
        · exact h4 i k hi' hk hlt g e hb

/-- a copy in a struct variable c, its answer's variable r beside it -/
structure Ex (W wr : World) (c r : Nat) (n : Int) (v : Value) (U : List Value) (MM : List (List Int)) : Prop where
  g : W.grownBy wr none
  lc : W.heap.size ≤ c
  lr : W.heap.size ≤ r
  ne : r ≠ c
  b : Box 26 wr c (.int .i64 n) v
  br : Box 26 wr r (.int .i64 0) (.slice none 0 0)
  o : ∃ D : List (Value × List Int), D.map (·.1) = U ∧ D.map (·.2) = MM ∧ OwnD W.heap.size wr.heap.size wr v D
theorem Ex.row {W wr : World} {c r : Nat} {n : Int} {v : Value} {U : List Value} {MM : List (List Int)} (h : Ex W wr c r n v U MM) (k : Nat) (hk : k < MM.length) :
    ∃ b cap u, v = .slice (some ⟨b, 0, none⟩) MM.length cap ∧ wr.cell? ⟨b, k, none⟩ = some u ∧ U[k]? = some u ∧ ∃ a ca, u = .slice a (MM.getD k []).length ca := by
  obtain ⟨D, rfl, rfl, h1, h2, h3, h4⟩ := h.o
  rw [List.length_map] at hk
  have h1' := h1
  obtain ⟨_, h5⟩ := h1
  rcases h5 with ⟨rfl, h0⟩ | ⟨b, cap, cur, rfl, hg, hh, _⟩
  · omega
  · refine ⟨b, cap, D[k].1, by rw [List.length_map], ?_, by simp [hk], ?_⟩
    · rw [h1'.cellAt k (by omega)]
      simp [hk]
    · rw [css.map2_getD hk]
      obtain ⟨a, ca, e, _⟩ := (h3 _ (List.getElem_mem hk)).sl
      exact ⟨a, ca, e⟩
theorem Ex.put {W wr : World} {c r : Nat} {n : Int} {v : Value} {U : List Value} {MM : List (List Int)} (h : Ex W wr c r n v U MM) (k j : Nat) (hk : k < MM.length) (hj : j < (MM.getD k []).length) (u : Value) (hu : U[k]? = some u) :
    ∃ g cap, u = .slice (some ⟨g, 0, none⟩) (MM.getD k []).length cap ∧ wr.cell? ⟨g, j, none⟩ = some (.int .i64 ((MM.getD k []).getD j 0)) ∧ wr.frozen? ⟨g, j, none⟩ = false ∧ ∀ y : Int, Ex W (wr.setCell ⟨g, j, none⟩ (.int .i64 y)) c r n v U (MM.set k ((MM.getD k []).set j y)) := by
  obtain ⟨D, rfl, rfl, hD⟩ := h.o
  have hD0 := hD
  obtain ⟨h1, h2, h3, h4⟩ := hD
  rw [List.length_map] at hk
  rw [css.map2_getD hk] at hj ⊢
  have hu' : D[k].1 = u := by simpa [hk] using hu
  have ho := (h3 _ (List.getElem_mem hk)).1
  have ho' := ho
  obtain ⟨_, h5⟩ := ho
  rcases h5 with ⟨_, h0⟩ | ⟨g, cap, cur, e, _⟩
  · omega
  · have P := fun y => hD0.put hk e hj y
    obtain ⟨⟨c1, f1, l1, l2, ⟨cs, fz, hc⟩⟩, _⟩ := P 0
    have nb : ∀ c x y, Box 26 wr c x y → g ≠ c := by
      rintro c x y hb rfl
      unfold Box at hb
      rw [hb] at hc
      simp only [Option.some.injEq, Obj.cells.injEq] at hc
      exact gr.ty2 hc.2.1
    refine ⟨g, cap, by rw [← hu', e], c1, f1, fun y => ⟨cf.grown_set h.g l1, h.lc, h.lr, h.ne, h.b.setO (nb _ _ _ h.b), h.br.setO (nb _ _ _ h.br), D.set k (D[k].1, D[k].2.set j y), map_set1 D k hk _, map_set2 .., ?_⟩⟩
    rw [cf.size_set]
    exact (P y).2

/-- the first k lists are turned, and of the next one the first j numbers -/
def midK (f : Int → Int) (LL : List (List Int)) (k : Nat) : List (List Int) := (LL.take k).map (List.map f) ++ LL.drop k
def midC (f : Int → Int) (C : List Int) (j : Nat) : List Int := (C.take j).map f ++ C.drop j
def midJ (f : Int → Int) (LL : List (List Int)) (k j : Nat) : List (List Int) := (midK f LL k).set k (midC f (LL.getD k []) j)
theorem midK_len (f : Int → Int) (LL : List (List Int)) (k : Nat) : (midK f LL k).length = LL.length := by simp [midK]; omega
theorem midC_len (f : Int → Int) (C : List Int) (j : Nat) : (midC f C j).length = C.length := by simp [midC]; omega
theorem midJ_len (f : Int → Int) (LL : List (List Int)) (k j : Nat) : (midJ f LL k j).length = LL.length := by simp [midJ, midK_len]
theorem midK_at (f : Int → Int) (LL : List (List Int)) (k : Nat) (h : k < LL.length) : (midK f LL k).getD k [] = LL.getD k [] := by
  have hl : ((LL.take k).map (List.map f)).length = k := by simp; omega
  unfold midK
  rw [List.getD_eq_getElem?_getD, List.getElem?_append_right (by omega), hl]
  simp
theorem midJ_zero (f : Int → Int) (LL : List (List Int)) (k : Nat) (h : k < LL.length) : midJ f LL k 0 = midK f LL k := by
  unfold midJ
  rw [show midC f (LL.getD k []) 0 = LL.getD k [] by simp [midC], ← midK_at f LL k h]
  have hk : k < (midK f LL k).length := by rw [midK_len]; exact h
  rw [show (midK f LL k).getD k [] = (midK f LL k)[k] by simp [hk]]
  exact List.set_getElem_self hk
theorem midJ_at (f : Int → Int) (LL : List (List Int)) (k j : Nat) (h : k < LL.length) : (midJ f LL k j).getD k [] = midC f (LL.getD k []) j := by
  unfold midJ
  simp [midK_len, h]
theorem midC_at (f : Int → Int) (C : List Int) (j : Nat) (h : j < C.length) : (midC f C j).getD j 0 = C.getD j 0 := by
  have hl : ((C.take j).map f).length = j := by simp; omega
  unfold midC
  rw [List.getD_eq_getElem?_getD, List.getElem?_append_right (by omega), hl]
  simp
theorem midC_set (f : Int → Int) (C : List Int) (j : Nat) (h : j < C.length) : (midC f C j).set j (f (C.getD j 0)) = midC f C (j + 1) := by
  have hl : ((C.take j).map f).length = j := by simp; omega
  unfold midC
  rw [List.set_append_right _ _ (by omega), hl, List.take_succ_eq_append_getElem h, show C.getD j 0 = C[j] by simp [h], List.drop_eq_getElem_cons h, Nat.sub_self, List.set_cons_zero, List.map_append, List.map_cons, List.map_nil, List.append_assoc, List.singleton_append]
theorem midJ_set (f : Int → Int) (LL : List (List Int)) (k j : Nat) (h : k < LL.length) (hj : j < (LL.getD k []).length) : (midJ f LL k j).set k ((midC f (LL.getD k []) j).set j (f ((LL.getD k []).getD j 0))) = midJ f LL k (j + 1) := by
  rw [midC_set f _ j hj]
  unfold midJ
  rw [List.set_set]
theorem midJ_end (f : Int → Int) (LL : List (List Int)) (k j : Nat) (h : k < LL.length) (hj : ¬ j < (LL.getD k []).length) : midJ f LL k j = midK f LL (k + 1) := by
  have hl : ((LL.take k).map (List.map f)).length = k := by simp; omega
  have e : midC f (LL.getD k []) j = (LL.getD k []).map f := by
    unfold midC
    rw [List.take_of_length_le (by omega), List.drop_of_length_le (by omega), List.append_nil]
  unfold midJ midK
  rw [e, List.set_append_right _ _ (by omega), hl, List.take_succ_eq_append_getElem h, show LL.getD k [] = LL[k] by simp [h], List.drop_eq_getElem_cons h, Nat.sub_self, List.set_cons_zero, List.map_append, List.map_cons, List.map_nil, List.append_assoc, List.singleton_append]
theorem midK_end (f : Int → Int) (LL : List (List Int)) (k : Nat) (h : ¬ k < LL.length) : midK f LL k = LL.map (List.map f) := by
  unfold midK
  rw [List.take_of_length_le (by omega), List.drop_of_length_le (by omega), List.append_nil]
theorem midK_zero (f : Int → Int) (LL : List (List Int)) : midK f LL 0 = LL := by simp [midK]
end Go.Proofs.YtibpnocpafppaaaDoor.ge
