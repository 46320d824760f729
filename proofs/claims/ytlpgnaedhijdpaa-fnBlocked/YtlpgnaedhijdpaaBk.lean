/- What Blocked (of the program and of its model) answers at every formula of the call's own that holds at most 2^20 values and every list of at most 2^20 numbers. -/
import Derived.Test.YtlpgnaedhijdpaaJn
import Derived.Test.YtlpgnaedhijdpaaTl
import Derived.Test.YtlpgnaedhijdpaaOg
import Derived.Test.YtlpgnaedhijdpaaTr
import Derived.Test.YtlpgnaedhijdpaaQc
namespace Go.Proofs.Ytlpgnaedhijdpaa.bk
open Go.ChangeShapes Go.WideShapes Go.ChangeAt Go.RowKit
open Go.Proofs.Ytlpgnaedhijdpaa.sl (Sl Own ints marks hide unhide ret_int ret_bool grown_refl grown_trans grown_drewN below_of of_below)
open Go.Proofs.Ytlpgnaedhijdpaa.css (Sls OwnS Outs tot sumLen marksS Apart own_ne own_ne' own_kind own_mono infoSl)
open Go.Proofs.Ytlpgnaedhijdpaa.cf (Box)
open Go.Proofs.Ytlpgnaedhijdpaa.ok (cnfB)
open Go.Proofs.Ytlpgnaedhijdpaa.lits (okB okB_iff)
open Go.Proofs.Ytlpgnaedhijdpaa.tr (assignB bitB)
open Go.Proofs.Ytlpgnaedhijdpaa.wo (Made)
open Go.Proofs.Ytlpgnaedhijdpaa.as_ (tl litAt)
open Go.Proofs.Ytlpgnaedhijdpaa.sp (negL)
open Go.Proofs.Ytlpgnaedhijdpaa.app (copyLists)
set_option linter.unusedVariables false
attribute [local go_sem ↓] Go.wp_at_zero Go.wp_at_succ

def blkB (n : Int) (LL : List (List Int)) (A : List Int) : Bool := assignB n LL A && decide (LL.length < 120)
def blkN (n : Int) (LL : List (List Int)) (A : List Int) : Int := if blkB n LL A then n else 0
def blkR (n : Int) (LL : List (List Int)) (A : List Int) : List (List Int) := if blkB n LL A then LL ++ [negL (tl 0 A)] else []
theorem blk_no {n : Int} {LL : List (List Int)} {A : List Int} (h : blkB n LL A = false) : blkN n LL A = 0 ∧ blkR n LL A = [] := by
  unfold blkN blkR
  rw [h]
  exact ⟨rfl, rfl⟩
theorem blk_yes {n : Int} {LL : List (List Int)} {A : List Int} (h : blkB n LL A = true) : blkN n LL A = n ∧ blkR n LL A = LL ++ [negL (tl 0 A)] := by
  unfold blkN blkR
  rw [h]
  exact ⟨rfl, rfl⟩
theorem assign_parts {n : Int} {LL : List (List Int)} {A : List Int} (h : assignB n LL A = true) : LL.length ≤ 120 ∧ A.length ≤ 24 := by
  unfold tr.assignB ok.cnfB at h
  simp only [Bool.and_eq_true, decide_eq_true_iff] at h
  exact ⟨h.1.1.1.2, by omega⟩
theorem tl_ok (A : List Int) : ∀ k, k + A.length ≤ 24 → ∀ x ∈ tl k A, okB x = true := by
  induction A with
  | nil => intro k _ x hx; cases hx
  | cons y A ih =>
    intro k hk x hx
    rw [List.length_cons] at hk
    rcases List.mem_cons.1 hx with rfl | hx
    · rw [okB_iff]
      unfold as_.litAt
      split <;> omega
    · exact ih (k + 1) (by omega) x hx
theorem negL_len (L : List Int) : (negL L).length = L.length := by unfold sp.negL; rw [List.length_map]
theorem sum_bd (LL : List (List Int)) (h : ∀ L ∈ LL, L.length ≤ 48) : (LL.map List.length).sum ≤ 48 * LL.length := by
  induction LL with
  | nil => exact Nat.le_refl _
  | cons L r ih =>
    have h1 := h L List.mem_cons_self
    have h2 := ih (fun x hx => h x (List.mem_cons_of_mem _ hx))
    rw [List.map_cons, List.sum_cons, List.length_cons]
    omega
theorem cnf_tot {n : Int} {LL : List (List Int)} (h : cnfB n LL = true) : tot LL ≤ 5880 := by
  unfold ok.cnfB at h
  rw [Bool.and_eq_true, Bool.and_eq_true, decide_eq_true_iff, decide_eq_true_iff, List.all_eq_true] at h
  have h4 := sum_bd LL (fun L hL => by
    have := h.2 L hL
    unfold ok.clB at this
    rw [Bool.and_eq_true, decide_eq_true_iff] at this
    exact this.2)
  unfold css.tot
  omega
theorem blk_tot {n : Int} {LL : List (List Int)} {A : List Int} (h : blkB n LL A = true) : tot (blkR n LL A) ≤ 5905 := by
  rw [(blk_yes h).2]
  have h1 : assignB n LL A = true := by unfold blkB at h; rw [Bool.and_eq_true] at h; exact h.1
  have h2 := (assign_parts h1).2
  have h3 : tot LL ≤ 5880 := cnf_tot (by unfold tr.assignB at h1; rw [Bool.and_eq_true, Bool.and_eq_true] at h1; exact h1.1.1)
  unfold css.tot at *
  rw [List.length_append, List.map_append, List.sum_append]
  simp [negL_len, as_.tl_len]
  omega

/-- one slice more, that lay there ahead of the list -/
theorem growA {lo mid hi : Nat} {wr w1 : World} {v v' u : Value} {D : List (Value × List Int)} {L : List Int} (ho : wr.ownsRow mid 28 1 v D.length (D.map (·.1))) (hin : ∀ p ∈ D, Own mid hi wr p.1 p.2) (hp : D.Pairwise Apart)
    (hu : Own lo mid wr u L) (hlo : lo ≤ mid) (hhi : hi ≤ wr.heap.size) (hmid : mid ≤ wr.heap.size) (h1 : w1.ownsRow mid 28 1 v' (D.length + 1) (D.map (·.1) ++ [u])) (hg : wr.grownBy w1 v.ownBlock) :
    OwnS lo w1.heap.size w1 v' (D.map (·.2) ++ [L]) := by
  have sz := hg.size
  have kp : ∀ (lo : Nat) (p : Value) (n : Nat) (xs : List Value), wr.ownsRow lo 3 1 p n xs → w1.ownsRow lo 3 1 p n xs := fun lo p n xs h => h.kept hg (own_ne' ho h)
  refine ⟨D ++ [(u, L)], by simp, ?_, fun k e => (h1.lt k e).2, ?_, ?_⟩
  · have e1 : (D ++ [(u, L)]).length = D.length + 1 := by simp
    have e2 : (D ++ [(u, L)]).map (fun p : Value × List Int => p.1) = D.map (fun p : Value × List Int => p.1) ++ [u] := by simp
    rw [e1, e2]
    exact own_mono h1 hlo
  · intro p hp'
    rw [List.mem_append, List.mem_singleton] at hp'
    rcases hp' with hp' | rfl
    · exact ⟨own_mono (kp _ _ _ _ (hin p hp').1) hlo, fun k e => by have := (hin p hp').2 k e; omega⟩
    · exact ⟨kp _ _ _ _ hu.1, fun k e => by have := hu.2 k e; omega⟩
  · rw [List.pairwise_append]
    refine ⟨hp, List.pairwise_singleton _ _, fun a ha b hb => ?_⟩
    rw [List.mem_singleton] at hb
    subst hb
    intro k e e'
    have h1 := ((hin a ha).1.lt k e).1
    have h2 := hu.2 k e'
    omega
theorem stepA {ops : Array Oper} {o : Oper} {a : Act} {K : Act → World → Prop} {Q : Exit → Act → World → Prop} {E : Prop} {lo mid hi xb : Nat} {wr : World} {v u : Value} {M : List (List Int)} {L : List Int}
    (h : OwnS mid hi wr v M) (hu : Own lo mid wr u L) (hlo : lo ≤ mid) (hhi : hi ≤ wr.heap.size) (hmid : mid ≤ wr.heap.size) (hM : M.length ≤ 1048576) (hc : wr.cell? ⟨xb, 0, none⟩ = some u) (hgd : o.guard = none) (s x : Operand)
    (ho : o.op = .call { callee := .builtin .append, args := #[s, x], argTypes := #[24, 24] }) (hs : a.eval s = v) (hx : a.eval x = .slice (some ⟨xb, 0, none⟩) 1 1)
    (hK : ∀ g cap w1, OwnS lo w1.heap.size w1 (.slice (some ⟨g, 0, none⟩) (M.length + 1) cap) (M ++ [L]) → wr.grownBy w1 v.ownBlock → K (a.put o.dst (.slice (some ⟨g, 0, none⟩) (M.length + 1) cap)) w1) :
    if Region.wanted o (yielded ops a.tmps) = true then Oper.wp Try.prog o a wr K Q else E := by
  obtain ⟨i0, hi', hz0, hz1, hz2⟩ := info_parts infoSl
  obtain ⟨D, rfl, hw, hb, hin, hp⟩ := h
  rw [List.length_map] at *
  refine step_append_lies _ hgd s x 24 ho mid 28 i0 (.slice none 0 0) 1 24 Try.underlying24 hi' hz0 hz1 hz2 rfl (by decide) v D.length (D.map (·.1)) hs hw ⟨xb, 0, none⟩ 1 1 [u] hx rfl ?_ ?_ (by decide) ?_ ?_ ?_ wr.heap.size rfl ?_
  · intro j y hj
    match j, hj with
    | 0, hj => simp at hj; subst hj; exact hc
  · intro y hy
    simp at hy
    subst hy
    exact gr.own_one hu
  · unfold maxLen; omega
  · omega
  · omega
  · intro g cap w1 h1 hg _ _
    exact hK g cap w1 (growA hw hin hp hu hlo hhi hmid h1 hg) hg
/-- a struct variable beside an append -/
theorem box_app {lo hi c : Nat} {w1 w2 : World} {v x y : Value} {LL : List (List Int)} (h : OwnS lo hi w1 v LL) (g : w1.grownBy w2 v.ownBlock) (hb : Box 26 w1 c x y) : Box 26 w2 c x y := by
  obtain ⟨D, e, hw, _⟩ := h
  exact hb.by g (gr.box_ne hw gr.ty1 hb)
theorem grown_app {lo hi : Nat} {w w1 w2 : World} {v : Value} {LL : List (List Int)} (hg : w.grownBy w1 none) (h : OwnS lo hi w1 v LL) (hlo : w.heap.size ≤ lo) (g : w1.grownBy w2 v.ownBlock) : w.grownBy w2 none := by
  obtain ⟨D, e, hw, _⟩ := h
  exact ⟨g.os.trans hg.os, g.tape.trans hg.tape, g.output.trans hg.output, Nat.le_trans hg.size g.size, fun k hk _ => by
    rw [g.block k (Nat.lt_of_lt_of_le hk hg.size) (fun e => by have := (hw.lt k e.symm).1; omega)]
    exact hg.block k hk (fun e => by cases e)⟩
theorem cell_one (w : World) (u : Value) (t : TypeId) : (w.alloc (.cells #[u] t)).cell? ⟨w.heap.size, 0, none⟩ = some u := by
  simp
/-- the blocks that both begin with: the formula, the answer's -/
def ini2 (w : World) (n : Int) (v : Value) : World := (w.alloc (.cells #[.int .i64 n, v] 26)).alloc (.cells #[.int .i64 0, .slice none 0 0] 26)
theorem ini2_all (w : World) (n : Int) (v : Value) : w.grownBy (ini2 w n v) none ∧ Box 26 (ini2 w n v) w.heap.size (.int .i64 n) v ∧ Box 26 (ini2 w n v) (w.heap.size + 1) (.int .i64 0) (.slice none 0 0) := by
  refine ⟨grown_trans (World.grownBy_alloc _ _ _) (World.grownBy_alloc _ _ _), (Box.new 26 w (.int .i64 n) v).kept (World.grownBy_alloc _ _ _), ?_⟩
  have := Box.new 26 (w.alloc (.cells #[.int .i64 n, v] 26)) (.int .i64 0) (.slice none 0 0)
  rw [World.size_alloc] at this
  exact this
theorem ret_no {fn : Func} {p u : Tmp} {a : Act} {w w1 : World} {n : Int} {LL : List (List Int)} {A : List Int} (hb : Box 26 w1 (w.heap.size + 1) (.int .i64 0) (.slice none 0 0)) (g : w.grownBy w1 none) (h : blkB n LL A = false)
    (hr : fn.results = #[.cell p 26, .tmp u]) (hp : a.tmps.getD p undef = .pointer (some ⟨w.heap.size + 1, 0, none⟩)) (hu : a.tmps.getD u undef = .bool false) (hd : a.defers = []) :
    bodyPost Try.prog fn (fun e w' => ∃ q, e = .returned (.tuple #[.agg #[.int .i64 (blkN n LL A), q], .bool (blkB n LL A)]) ∧ OwnS w.heap.size w'.heap.size w' q (blkR n LL A) ∧ w.grownBy w' none) Exit.ret a ((w1.setCell ⟨w.heap.size + 1, 0, none⟩ (.int .i64 0)).setCell ⟨w.heap.size + 1, 1, none⟩ (.slice none 0 0)) := by
  refine bodyPost_ret (cf.ret_box2 hr hp ((hb.set0 (.int .i64 0)).set1 (.slice none 0 0))) hd ⟨.slice none 0 0, ?_, ?_, cf.grown_set (cf.grown_set g (by omega)) (by omega)⟩
  · rw [hu, (blk_no h).1, h]
  · rw [(blk_no h).2]
    exact fx.ownS_nil _ _ _
theorem ret_yes {fn : Func} {p q : Tmp} {a : Act} {w w1 : World} {n : Int} {LL : List (List Int)} {A : List Int} {x : Value} {x0 y0 : Value} (hb : Box 26 w1 (w.heap.size + 1) x0 y0) (g : w.grownBy w1 none) (h : blkB n LL A = true) (ho : OwnS w.heap.size w1.heap.size w1 x (LL ++ [negL (tl 0 A)]))
    (hr : fn.results = #[.cell p 26, .tmp q]) (hp : a.tmps.getD p undef = .pointer (some ⟨w.heap.size + 1, 0, none⟩)) (hu : a.tmps.getD q undef = .bool true) (hd : a.defers = []) :
    bodyPost Try.prog fn (fun e w' => ∃ q, e = .returned (.tuple #[.agg #[.int .i64 (blkN n LL A), q], .bool (blkB n LL A)]) ∧ OwnS w.heap.size w'.heap.size w' q (blkR n LL A) ∧ w.grownBy w' none) Exit.ret a ((w1.setCell ⟨w.heap.size + 1, 0, none⟩ (.int .i64 n)).setCell ⟨w.heap.size + 1, 1, none⟩ x) := by
  refine bodyPost_ret (cf.ret_box2 hr hp ((hb.set0 (.int .i64 n)).set1 x)) hd ⟨x, ?_, ?_, cf.grown_set (cf.grown_set g (by omega)) (by omega)⟩
  · rw [hu, (blk_yes h).1, h]
  · rw [(blk_yes h).2, cf.size_set, cf.size_set]
    exact gr.ownS_set (gr.ownS_set ho hb) (hb.set0 _)

theorem mid_copy {w w1 w2 : World} {n : Int} {f x y : Value} {a : Option Addr} {cap : Nat} {LL : List (List Int)} (g1 : w.grownBy w1 none) (b0 : Box 26 w1 w.heap.size (.int .i64 n) f) (b1 : Box 26 w1 (w.heap.size + 1) x y) (g2 : w1.grownBy w2 none) (ho : OwnS w1.heap.size w2.heap.size w2 (.slice a LL.length cap) LL) :
    gr.MidF w (w2.alloc (.cells #[.int .i64 n, .slice a LL.length cap] 26)) w2.heap.size n LL [(w.heap.size, .int .i64 n, f), (w.heap.size + 1, x, y)] := by
  have ga := World.grownBy_alloc w2 (.cells #[.int .i64 n, .slice a LL.length cap] 26) none
  have s1 := (b1.kept g2).lt
  refine ⟨by have := (grown_trans (r := none) g1 g2).size; exact this, grown_trans (grown_trans (r := none) g1 g2) ga, ?_, a, cap, Box.new _ _ _ _, ?_⟩
  · intro b hb
    simp only [List.mem_cons, List.not_mem_nil, or_false] at hb
    rcases hb with rfl | rfl
    · exact ⟨by show w.heap.size ≠ w2.heap.size; omega, (b0.kept g2).kept ga⟩
    · exact ⟨by show w.heap.size + 1 ≠ w2.heap.size; omega, (b1.kept g2).kept ga⟩
  · exact (ho.kept ga).sub g1.size (by rw [World.size_alloc]; omega)
set_option maxRecDepth 100000 in
set_option maxHeartbeats 4000000 in
theorem implBlocked (v u : Value) (n : Int) (LL : List (List Int)) (A : List Int) (lo hi : Nat) (w : World) (hn : tot LL ≤ 1048576) (hA : A.length ≤ 1048576) (hv : OwnS lo hi w v LL) (hu : Sl w u A) :
    Calls Try.prog 13 #[.agg #[.int .i64 n, v], u] w fun e w' => ∃ q, e = .returned (.tuple #[.agg #[.int .i64 (blkN n LL A), q], .bool (blkB n LL A)]) ∧ OwnS w.heap.size w'.heap.size w' q (blkR n LL A) ∧ w.grownBy w' none := by
  obtain ⟨va, vc, rfl⟩ := hv.len
  obtain ⟨g0, bf, br⟩ := ini2_all w n (.slice va LL.length vc)
  have C1 := tr.implAssignOk _ u n LL A _ hn hA (hv.kept g0).sls (hu.kept g0 (.inl rfl))
  have OV := hide (hv.kept g0)
  have SU := hide (hu.kept g0 (.inl rfl))
  have GW := hide g0
  have BF := hide bf
  have BR := hide br
  have hLL := Nat.le_trans (css.tot_len LL) hn
  clear hv hu g0
  have x0 := bf.c0
  have x1 := bf.c1
  have r0 := br.c0
  have r1 := br.c1
  have rf0 := br.f 0
  have rf1 := br.f 1
  clear bf br
  unfold ini2 at *
  cases hb : assignB n LL A
  · rw [hb] at C1
    have CC := hide C1
    have NB := hide (show blkB n LL A = false by unfold blkB; rw [hb]; rfl)
    clear C1 hb
    go_enter Try.func13, Try.ntmps13
    go_wp2_with fail
    refine (unhide CC).mono ?_; rintro e w1 ⟨rfl, g1⟩
    have b1 := (unhide BR).kept g1
    have y0 := b1.c0
    have y1 := b1.c1
    have yf0 := b1.f 0
    have yf1 := b1.f 1
    have B1 := hide b1
    have G1 := hide (grown_trans (r := none) (unhide GW) g1)
    clear g1 b1 x0 x1 r0 r1 rf0 rf1 CC
    go_wp2_with fail
    exact ret_no (unhide B1) (unhide G1) (unhide NB) rfl rfl rfl rfl
  · rw [hb] at C1
    have CC := hide C1
    obtain ⟨h120, h24⟩ := assign_parts hb
    clear C1
    by_cases hfull : LL.length = 120
    · have NB := hide (show blkB n LL A = false by unfold blkB; rw [decide_eq_false (by omega), Bool.and_false])
      have hl : ((LL.length : Int) == 120) = true := by rw [beq_iff_eq]; omega
      clear hb hfull
      go_enter Try.func13, Try.ntmps13
      go_wp2_with fail
      refine (unhide CC).mono ?_; rintro e w1 ⟨rfl, g1⟩
      have b1 := (unhide BR).kept g1
      have y0 := b1.c0
      have y1 := b1.c1
      have yf0 := b1.f 0
      have yf1 := b1.f 1
      have q1 := ((unhide BF).kept g1).c1
      have B1 := hide b1
      have G1 := hide (grown_trans (r := none) (unhide GW) g1)
      clear g1 b1 x0 x1 r0 r1 rf0 rf1 CC
      go_wp2_with fail
      exact ret_no (unhide B1) (unhide G1) (unhide NB) rfl rfl rfl rfl
    · have YB := hide (show blkB n LL A = true by unfold blkB; rw [hb, decide_eq_true (by omega)]; rfl)
      have hl : ((LL.length : Int) == 120) = false := by rw [beq_eq_false_iff_ne]; omega
      clear hb hfull
      go_enter Try.func13, Try.ntmps13
      go_wp2_with fail
      refine (unhide CC).mono ?_; rintro e w1 ⟨rfl, g1⟩
      have q0 := ((unhide BF).kept g1).c0
      have q1 := ((unhide BF).kept g1).c1
      have F1 := hide ((unhide BF).kept g1)
      have R1 := hide ((unhide BR).kept g1)
      have O1 := hide ((unhide OV).kept g1)
      have G1 := hide (grown_trans (r := none) (unhide GW) g1)
      have S1 := hide ((unhide SU).kept g1 (.inl rfl))
      have hh := (unhide G1).size
      clear g1 x0 x1 r0 r1 rf0 rf1 CC OV SU BF BR GW
      go_wp2_with fail
      refine (qc.copyCnf _ n LL lo hi _ hn (unhide O1)).mono ?_; rintro e w2 ⟨c, rfl, o2, g2⟩
      obtain ⟨ca, cc, rfl⟩ := o2.len
      have MD := hide (mid_copy (unhide G1) (unhide F1) (unhide R1) g2 o2)
      have S2 := hide ((unhide S1).kept (grown_trans (r := none) g2 (World.grownBy_alloc w2 (.cells #[.int .i64 n, .slice ca LL.length cc] 26) none)) (.inl rfl))
      clear g2 o2 S1 q0 q1 F1 R1 O1 G1 hh
      go_wp2_with fail
      obtain ⟨W2, hW2⟩ : ∃ W2, W2 = w2.alloc (.cells #[.int .i64 n, .slice ca LL.length cc] 26) := ⟨_, rfl⟩
      rw [← hW2] at MD S2 ⊢
      clear hW2
      generalize w2.heap.size = c at *
      obtain ⟨q0, q1, q2, oa, ocap, q3, q4⟩ := unhide MD
      have o0 := q3.c0
      have o1 := q3.c1
      have of1 := q3.f 1
      have Q0 := hide q0
      have Q1 := hide q1
      have Q2 := hide q2
      have Q3 := hide q3
      have Q4 := hide q4
      clear q0 q1 q2 q3 q4 MD
      have CL := hide (as_.trueLiterals u A W2.drew hA ((unhide S2).kept (cf.grown_drew W2 none) (.inl rfl)))
      generalize hNL : negL (tl 0 A) = NL at *
      have HNL := hide hNL
      have CO := hide (fun t w' (m : Made W2.drew w' t (tl 0 A)) => sp.oppositesOf t (tl 0 A) w' (by rw [as_.tl_len]; exact hA) (tl_ok A 0 (by omega)) (Sl.of_own m.1))
      rw [hNL] at CO
      clear hNL
      go_region_law
        (first
          | (go_simp; go_at_call 44; refine (unhide CL).mono ?_; rintro e w3 ⟨t, rfl, m3⟩; have G3 := hide (grown_trans (r := none) (cf.grown_drew W2 none) m3.2); have C3 := hide (unhide CO t w3 m3); have k31 := ((unhide Q3).kept (unhide G3)).c1; clear m3)
          | (go_simp; go_at_call 43; refine (unhide C3).mono ?_; rintro e w4 ⟨r, rfl, m4⟩; obtain ⟨ua, uc, rfl, _⟩ := Sl.of_own m4.1; have G4 := hide (grown_trans (r := none) (unhide G3) m4.2); have U4 := hide (css.own_sub (Own.of m4.1) (unhide G3).size (Nat.le_refl _)); have k1 := ((unhide Q3).kept (unhide G4)).c1; have k2 := ((unhide Q3).kept (unhide G4)).f 1; have k9 := (((unhide Q3).kept (unhide G4)).kept (World.grownBy_alloc w4 (.cells #[.slice ua NL.length uc] 28) none)).c1; clear m4)
          | (refine gr.stepR ((unhide Q4).kept (unhide G4)) (unhide U4) (unhide Q1).size (unhide G4).size hLL (by rfl) _ _ (by rfl) (by rfl) (by rfl) ?_; intro g5 cap5 w5 h5 g5'; have R5 := hide (gr.MidF.step (unhide Q0) (unhide Q1) (unhide Q2) (unhide Q3) (unhide Q4) (unhide G4) h5 g5'); have k3 := (unhide R5).1.1; have k4 := (unhide R5).1.2.1; clear h5 g5'))
      all_goals
        obtain ⟨W5, hW5⟩ : ∃ W5, W5 = w5.setCell ⟨c, 1, none⟩ (.slice (some ⟨g5, 0, none⟩) (LL.length + 1) cap5) := ⟨_, rfl⟩
        have M5 := hide (unhide R5).2
        rw [← hW5] at M5 ⊢
        have br := (unhide M5).box (w.heap.size + 1) (.int .i64 0) (.slice none 0 0) (by simp)
        obtain ⟨p0, p1, p2, pa, pcap, p3, p4⟩ := unhide M5
        have y0 := br.c0
        have y1 := br.c1
        have yf0 := br.f 0
        have yf1 := br.f 1
        have z0 := p3.c0
        have z1 := p3.c1
        have B5 := hide br
        have G5 := hide p1
        have O5 := hide p4
        clear br p0 p1 p2 p3 p4 M5 R5 hW5
        go_wp2_with fail
        refine ret_yes (unhide B5) (unhide G5) (unhide YB) ?_ rfl rfl rfl rfl
        rw [unhide HNL]
        have e5 := unhide O5
        rw [List.length_append] at e5
        exact e5
set_option maxRecDepth 100000 in
set_option maxHeartbeats 4000000 in
theorem specBlocked (v u : Value) (n : Int) (LL : List (List Int)) (A : List Int) (lo hi : Nat) (w : World) (hn : tot LL ≤ 1048576) (hA : A.length ≤ 1048576) (hv : OwnS lo hi w v LL) (hhi : hi ≤ w.heap.size) (hu : Sl w u A) :
    Calls Try.prog 14 #[.agg #[.int .i64 n, v], u] w fun e w' => ∃ q, e = .returned (.tuple #[.agg #[.int .i64 (blkN n LL A), q], .bool (blkB n LL A)]) ∧ OwnS w.heap.size w'.heap.size w' q (blkR n LL A) ∧ w.grownBy w' none := by
  obtain ⟨va, vc, rfl⟩ := hv.len
  obtain ⟨g0, bf, br⟩ := ini2_all w n (.slice va LL.length vc)
  have C1 := tr.specAssignOk _ u n LL A _ hn hA (hv.kept g0).sls (hu.kept g0 (.inl rfl))
  have OV := hide (hv.kept g0)
  have SU := hide (hu.kept g0 (.inl rfl))
  have GW := hide g0
  have BF := hide bf
  have BR := hide br
  have hLL := Nat.le_trans (css.tot_len LL) hn
  clear hv hu g0
  have x0 := bf.c0
  have x1 := bf.c1
  have r0 := br.c0
  have r1 := br.c1
  have rf0 := br.f 0
  have rf1 := br.f 1
  clear bf br
  unfold ini2 at *
  cases hb : assignB n LL A
  · rw [hb] at C1
    have CC := hide C1
    have NB := hide (show blkB n LL A = false by unfold blkB; rw [hb]; rfl)
    clear C1 hb
    go_enter Try.func14, Try.ntmps14
    go_wp2_with fail
    refine (unhide CC).mono ?_; rintro e w1 ⟨rfl, g1⟩
    have b1 := (unhide BR).kept g1
    have y0 := b1.c0
    have y1 := b1.c1
    have yf0 := b1.f 0
    have yf1 := b1.f 1
    have B1 := hide b1
    have G1 := hide (grown_trans (r := none) (unhide GW) g1)
    clear g1 b1 x0 x1 r0 r1 rf0 rf1 CC
    go_wp2_with fail
    exact ret_no (unhide B1) (unhide G1) (unhide NB) rfl rfl rfl rfl
  · rw [hb] at C1
    have CC := hide C1
    obtain ⟨h120, h24⟩ := assign_parts hb
    clear C1
    by_cases hfull : LL.length = 120
    · have NB := hide (show blkB n LL A = false by unfold blkB; rw [decide_eq_false (by omega), Bool.and_false])
      have hl : (120 : Int) ≤ (LL.length : Int) := by omega
      clear hb hfull
      go_enter Try.func14, Try.ntmps14
      go_wp2_with fail
      refine (unhide CC).mono ?_; rintro e w1 ⟨rfl, g1⟩
      have b1 := (unhide BR).kept g1
      have y0 := b1.c0
      have y1 := b1.c1
      have yf0 := b1.f 0
      have yf1 := b1.f 1
      have q1 := ((unhide BF).kept g1).c1
      have B1 := hide b1
      have G1 := hide (grown_trans (r := none) (unhide GW) g1)
      clear g1 b1 x0 x1 r0 r1 rf0 rf1 CC
      go_wp2_with fail
      exact ret_no (unhide B1) (unhide G1) (unhide NB) rfl rfl rfl rfl
    · have YB := hide (show blkB n LL A = true by unfold blkB; rw [hb, decide_eq_true (by omega)]; rfl)
      have hl : ¬ (120 : Int) ≤ (LL.length : Int) := by omega
      clear hb hfull
      go_enter Try.func14, Try.ntmps14
      go_wp2_with fail
      refine (unhide CC).mono ?_; rintro e w1 ⟨rfl, g1⟩
      have q0 := ((unhide BF).kept g1).c0
      have q1 := ((unhide BF).kept g1).c1
      have F1 := hide ((unhide BF).kept g1)
      have R1 := hide ((unhide BR).kept g1)
      have O1 := hide ((unhide OV).kept g1)
      have G1 := hide (grown_trans (r := none) (unhide GW) g1)
      have S1 := hide ((unhide SU).kept g1 (.inl rfl))
      have hh := (unhide G1).size
      clear g1 x0 x1 r0 r1 rf0 rf1 CC OV SU BF BR GW
      go_wp2_with fail
      refine (jn.l02Copy _ n LL lo hi _ hn (unhide O1) (by omega)).mono ?_; rintro e w2 ⟨c, rfl, o2, g2⟩
      obtain ⟨ca, cc, rfl⟩ := o2.len
      have MD := hide (mid_copy (unhide G1) (unhide F1) (unhide R1) g2 o2)
      have S2 := hide ((unhide S1).kept (grown_trans (r := none) g2 (World.grownBy_alloc w2 (.cells #[.int .i64 n, .slice ca LL.length cc] 26) none)) (.inl rfl))
      clear g2 o2 S1 q0 q1 F1 R1 O1 G1 hh
      go_wp2_with fail
      obtain ⟨W2, hW2⟩ : ∃ W2, W2 = w2.alloc (.cells #[.int .i64 n, .slice ca LL.length cc] 26) := ⟨_, rfl⟩
      rw [← hW2] at MD S2 ⊢
      clear hW2
      generalize w2.heap.size = c at *
      obtain ⟨q0, q1, q2, oa, ocap, q3, q4⟩ := unhide MD
      have o0 := q3.c0
      have o1 := q3.c1
      have of1 := q3.f 1
      have Q0 := hide q0
      have Q1 := hide q1
      have Q2 := hide q2
      have Q3 := hide q3
      have Q4 := hide q4
      clear q0 q1 q2 q3 q4 MD
      have CL := hide (as_.l03Lits u A W2.drew hA ((unhide S2).kept (cf.grown_drew W2 none) (.inl rfl)))
      generalize hNL : negL (tl 0 A) = NL at *
      have HNL := hide hNL
      have CO := hide (fun t w' (m : Made W2.drew w' t (tl 0 A)) => sp.l04Opposite t (tl 0 A) w' (by rw [as_.tl_len]; exact hA) (tl_ok A 0 (by omega)) (Sl.of_own m.1))
      rw [hNL] at CO
      clear hNL
      go_region_law
        (first
          | (go_simp; go_at_call 48; refine (unhide CL).mono ?_; rintro e w3 ⟨t, rfl, m3⟩; have G3 := hide (grown_trans (r := none) (cf.grown_drew W2 none) m3.2); have C3 := hide (unhide CO t w3 m3); have k31 := ((unhide Q3).kept (unhide G3)).c1; clear m3)
          | (go_simp; go_at_call 47; refine (unhide C3).mono ?_; rintro e w4 ⟨r, rfl, m4⟩; obtain ⟨ua, uc, rfl, _⟩ := Sl.of_own m4.1; have G4 := hide (grown_trans (r := none) (unhide G3) m4.2); have U4 := hide (css.own_sub (Own.of m4.1) (unhide G3).size (Nat.le_refl _)); have k1 := ((unhide Q3).kept (unhide G4)).c1; have k2 := ((unhide Q3).kept (unhide G4)).f 1; have k9 := (((unhide Q3).kept (unhide G4)).kept (World.grownBy_alloc w4 (.cells #[.slice ua NL.length uc] 28) none)).c1; clear m4)
          | (refine gr.stepR ((unhide Q4).kept (unhide G4)) (unhide U4) (unhide Q1).size (unhide G4).size hLL (by rfl) _ _ (by rfl) (by rfl) (by rfl) ?_; intro g5 cap5 w5 h5 g5'; have R5 := hide (gr.MidF.step (unhide Q0) (unhide Q1) (unhide Q2) (unhide Q3) (unhide Q4) (unhide G4) h5 g5'); have k3 := (unhide R5).1.1; have k4 := (unhide R5).1.2.1; clear h5 g5'))
      all_goals
        obtain ⟨W5, hW5⟩ : ∃ W5, W5 = w5.setCell ⟨c, 1, none⟩ (.slice (some ⟨g5, 0, none⟩) (LL.length + 1) cap5) := ⟨_, rfl⟩
        have M5 := hide (unhide R5).2
        rw [← hW5] at M5 ⊢
        have br := (unhide M5).box (w.heap.size + 1) (.int .i64 0) (.slice none 0 0) (by simp)
        obtain ⟨p0, p1, p2, pa, pcap, p3, p4⟩ := unhide M5
        have y0 := br.c0
        have y1 := br.c1
        have yf0 := br.f 0
        have yf1 := br.f 1
        have z0 := p3.c0
        have z1 := p3.c1
        have B5 := hide br
        have G5 := hide p1
        have O5 := hide p4
        clear br p0 p1 p2 p3 p4 M5 R5 hW5
        go_wp2_with fail
        refine ret_yes (unhide B5) (unhide G5) (unhide YB) ?_ rfl rfl rfl rfl
        rw [unhide HNL]
        have e5 := unhide O5
        rw [List.length_append] at e5
        exact e5
/-- both at once -/
theorem both (n : Int) (LL : List (List Int)) (A : List Int) (hn : tot LL ≤ 1048576) (hA : A.length ≤ 1048576) : ∃ (N : Int) (b : Bool) (R : List (List Int)), tot R ≤ 1048576 ∧
    (∀ v u lo hi w, OwnS lo hi w v LL → hi ≤ w.heap.size → Sl w u A → Calls Try.prog 14 #[.agg #[.int .i64 n, v], u] w fun e w' => ∃ q, e = .returned (.tuple #[.agg #[.int .i64 N, q], .bool b]) ∧ OwnS w.heap.size w'.heap.size w' q R ∧ w.grownBy w' none) ∧
    (∀ v u lo hi w, OwnS lo hi w v LL → Sl w u A → Calls Try.prog 13 #[.agg #[.int .i64 n, v], u] w fun e w' => ∃ q, e = .returned (.tuple #[.agg #[.int .i64 N, q], .bool b]) ∧ OwnS w.heap.size w'.heap.size w' q R ∧ w.grownBy w' none) := by
  refine ⟨blkN n LL A, blkB n LL A, blkR n LL A, ?_, fun v u lo hi w h1 h2 h3 => specBlocked v u n LL A lo hi w hn hA h1 h2 h3, fun v u lo hi w h1 h2 => implBlocked v u n LL A lo hi w hn hA h1 h2⟩
  cases h : blkB n LL A
  · rw [(blk_no h).2]
    decide
  · have := blk_tot h
    omega
end Go.Proofs.Ytlpgnaedhijdpaa.bk
