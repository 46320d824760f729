/- What spec.CnfSort (the model's) answers at every formula that holds at most 2^20 values: its clauses in order, in memory of their own. -/
import Derived.Test.YtibpnocpafppaaaDoorIp
import Derived.Test.YtibpnocpafppaaaDoorSrtS
import Derived.Test.YtibpnocpafppaaaDoorApp
namespace Go.Proofs.YtibpnocpafppaaaDoor.cso
open Go.ChangeShapes Go.WideShapes Go.ChangeAt Go.RowKit
open Go.Proofs.YtibpnocpafppaaaDoor.sl (Sl Own ints hide unhide grown_refl grown_trans grown_drewN below_of of_below)
open Go.Proofs.YtibpnocpafppaaaDoor.css (Sls OwnS tot own_ne' own_mono Apart)
open Go.Proofs.YtibpnocpafppaaaDoor.cf (Box)
open Go.Proofs.YtibpnocpafppaaaDoor.gr (MidF box_ne ty1)
open Go.Proofs.YtibpnocpafppaaaDoor.ok (cnfB)
open Go.Proofs.YtibpnocpafppaaaDoor.cs (ins insAll at_ at_le at_go good good_yes good_no cnfS cnfS_step insAll_len good_len)
open Go.Proofs.YtibpnocpafppaaaDoor.le (lessL)
open Go.Proofs.YtibpnocpafppaaaDoor.bset (setOf)
open Go.Proofs.YtibpnocpafppaaaDoor.srt (srt okTo)
open Go.Proofs.YtibpnocpafppaaaDoor.pio (grown_wide)
set_option linter.unusedVariables false
attribute [local go_sem ↓] Go.wp_at_zero Go.wp_at_succ

theorem apart_symm {a b : Value × List Int} (h : Apart a b) : Apart b a := fun g e e' => h g e' e
/-- the outer row of lists of the call's own, and what becomes of it with one list more at a place -/
theorem outer {lo mid : Nat} {W : World} {v : Value} {M : List (List Int)} (h : OwnS lo mid W v M) : ∃ xs : List Value, xs.length = M.length ∧ W.ownsRow lo 31 1 v M.length xs ∧ (∀ x ∈ xs, x.oneCell' = true) ∧
    (∀ j, j < M.length → ∃ y, xs[j]? = some y ∧ Sl W y (M.getD j [])) ∧
    ∀ (at0 : Nat) (u : Value) (L : List Int) (w9 : World) (v9 : Value), Own mid W.heap.size W u L → lo ≤ mid → mid ≤ W.heap.size → w9.ownsRow lo 31 1 v9 (M.length + 1) (xs.take at0 ++ u :: xs.drop at0) → W.grownBy w9 v.ownBlock →
      OwnS lo w9.heap.size w9 v9 (M.take at0 ++ L :: M.drop at0) := by
  obtain ⟨D, rfl, hw, hb, hin, hp⟩ := h
  refine ⟨D.map (·.1), by simp, by rw [List.length_map]; exact hw, fun x hx => ?_, fun j hj => ?_, fun at0 u L w9 v9 hu hlo hmid h9 hg => ?_⟩
  · obtain ⟨p, hp1, rfl⟩ := List.mem_map.1 hx
    exact gr.own_one (hin p hp1)
  · rw [List.length_map] at hj
    refine ⟨D[j].1, by simp [hj], ?_⟩
    rw [css.map2_getD hj]
    exact (hin D[j] (List.getElem_mem hj)).sl
  · have sz := hg.size
    have kp : ∀ (p : Value) (n : Nat) (xs : List Value), W.ownsRow lo 3 1 p n xs → w9.ownsRow lo 3 1 p n xs := fun p n xs h => h.kept hg (own_ne' hw h)
    refine ⟨D.take at0 ++ (u, L) :: D.drop at0, by simp, ?_, fun k e => (h9.lt k e).2, ?_, ?_⟩
    · have e1 : (D.take at0 ++ (u, L) :: D.drop at0).length = D.length + 1 := by
        simp only [List.length_append, List.length_take, List.length_cons, List.length_drop]
        omega
      rw [e1]
      rw [List.length_map] at h9
      simpa using h9
    · intro p hp'
      have hcase : p ∈ D ∨ p = (u, L) := by
        rcases List.mem_append.1 hp' with q | q
        · exact .inl (List.mem_of_mem_take q)
        · rcases List.mem_cons.1 q with q | q
          · exact .inr q
          · exact .inl (List.mem_of_mem_drop q)
      rcases hcase with q | rfl
      · exact ⟨kp _ _ _ (hin p q).1, fun k e => by have := (hin p q).2 k e; omega⟩
      · exact ⟨kp _ _ _ (own_mono hu.1 hlo), fun k e => by have := hu.2 k e; omega⟩
    · have hap : ∀ p ∈ D, Apart p (u, L) := fun p hp1 k e e' => by
        have h1 := (hin p hp1).2 k e
        have h2 := (hu.1.lt k e').1
        omega
      have hs : (D.take at0 ++ D.drop at0).Pairwise Apart := by rw [List.take_append_drop]; exact hp
      obtain ⟨p1, p2, p3⟩ := List.pairwise_append.1 hs
      refine List.pairwise_append.2 ⟨p1, List.pairwise_cons.2 ⟨fun p hp1 => apart_symm (hap p (List.mem_of_mem_drop hp1)), p2⟩, fun p hp1 q hq => ?_⟩
      rcases List.mem_cons.1 hq with rfl | hq
      · exact hap p (List.mem_of_mem_take hp1)
      · exact p3 p hp1 q hq
theorem own_take {w : World} {lo g n cap k : Nat} {t : TypeId} {xs : List Value} (h : w.ownsRow lo t 1 (.slice (some ⟨g, 0, none⟩) n cap) n xs) (hk : k ≤ n) : w.ownsRow lo t 1 (.slice (some ⟨g, 0, none⟩) k cap) k (xs.take k) := by
  obtain ⟨hl, h2⟩ := h
  refine ⟨by rw [List.length_take]; omega, ?_⟩
  rcases h2 with ⟨e, _⟩ | ⟨g', cap', cur, e, hb, hg, hn, hm, hc, ht⟩
  · cases e
  · injection e with e1 e2 e3
    injection e1 with e1
    injection e1 with e1
    subst e1
    subst e3
    refine .inr ⟨g, cap, cur, rfl, hb, hg, by omega, hm, hc, ?_⟩
    rw [← ht, List.take_take]
    congr 1
    omega

theorem grown_skip {a b c : World} {r : Nat} {g : Option Nat} (h : a.grownBy b g) (k : b.grownBy c (some r)) (hr : g = some r ∨ a.heap.size ≤ r) : a.grownBy c g :=
  ⟨k.os.trans h.os, k.tape.trans h.tape, k.output.trans h.output, Nat.le_trans h.size k.size, fun j hj hne => by
    rw [k.block j (Nat.lt_of_lt_of_le hj h.size) (fun e => by
      injection e with e
      rcases hr with q | q
      · exact hne (by rw [q, e])
      · omega)]
    exact h.block j hj hne⟩
/-- the lists behind a place, copied -/
theorem tailA {ops : Array Oper} {rest : List Oper} {o : Oper} {a : Act} {Q : Exit → Act → World → Prop} {W : World} {lo g n cap k cc : Nat} {ad : Addr} {xs : List Value}
    (hrow : W.ownsRow lo 31 1 (.slice (some ⟨g, 0, none⟩) n cap) n xs) (hone : ∀ x ∈ xs, x.oneCell' = true) (hk : k ≤ n) (hn : n ≤ 1048576) (had : ad = ⟨g, k, none⟩ ∨ n ≤ k) (hgd : o.guard = none) (s x : Operand)
    (ho : o.op = .call { callee := .builtin .append, args := #[s, x], argTypes := #[24, 24] }) (hs : a.eval s = .slice (some ⟨W.heap.size, 0, none⟩) 0 0) (hx : a.eval x = .slice (some ad) (n - k) cc)
    (h : ∀ t ct w', w'.ownsRow W.heap.size 31 1 (.slice (some ⟨t, 0, none⟩) (n - k) ct) (n - k) (xs.drop k) → W.grownBy w' none → wpList Tryd.prog ops Q rest (a.put o.dst (.slice (some ⟨t, 0, none⟩) (n - k) ct)) w') :
    wpList Tryd.prog ops Q (o :: rest) a (W.alloc (.cells #[] 31)) := by
  obtain ⟨i0, hi, hz0, hz1, hz2⟩ := info_parts css.infoSl
  have h0 : (W.alloc (.cells #[] 31)).ownsRow W.heap.size 31 1 (.slice (some ⟨W.heap.size, 0, none⟩) 0 0) 0 [] := World.ownsRow_lit W #[] 0 (Nat.le_refl _) (Nat.zero_le _) rfl
  have hl : xs.length = n := by have := hrow.1; omega
  refine wpList_append_own _ hgd s x 24 ho W.heap.size 31 i0 (.slice none 0 0) 1 24 Tryd.underlying24 hi hz0 hz1 hz2 rfl (by decide) _ 0 [] hs h0 ad (n - k) cc (xs.drop k) hx (by rw [List.length_drop, hl]; omega) ?_ ?_ ?_ ?_ ?_ ?_
  · intro j u hj
    rcases had with e | e
    · subst e
      rw [Addr.add_mid]
      have hjl : k + j < n := by
        have := (List.getElem?_eq_some_iff.1 hj).1
        rw [List.length_drop, hl] at this
        omega
      rw [(hrow.alloc (.cells #[] 31)).cellAt (k + j) (by omega), ← hj, List.getElem?_drop]
    · have := (List.getElem?_eq_some_iff.1 hj).1
      rw [List.length_drop, hl] at this
      omega
  · exact fun u hu => hone u (List.mem_of_mem_drop hu)
  · unfold maxLen
    omega
  · omega
  · simp
  · intro v' w' h1 hg hnil
    rw [Nat.zero_add, List.nil_append] at h1
    rcases h1.2 with ⟨e, _⟩ | ⟨t, ct, cur, e, hr⟩
    · have := (hnil.1 e).1
      cases this
    · subst e
      refine h t ct w' h1 ?_
      have g0 := World.grownBy_alloc W (.cells #[] 31) none
      exact grown_skip g0 hg (.inr (Nat.le_refl _))
theorem tailN {ops : Array Oper} {rest : List Oper} {o : Oper} {a : Act} {Q : Exit → Act → World → Prop} {W : World} (hgd : o.guard = none) (s x : Operand)
    (ho : o.op = .call { callee := .builtin .append, args := #[s, x], argTypes := #[24, 24] }) (hs : a.eval s = .slice (some ⟨W.heap.size, 0, none⟩) 0 0) (hx : a.eval x = .slice none 0 0)
    (h : ∀ w', w'.ownsRow W.heap.size 31 1 (.slice (some ⟨W.heap.size, 0, none⟩) 0 0) 0 [] → W.grownBy w' none → W.heap.size < w'.heap.size → wpList Tryd.prog ops Q rest (a.put o.dst (.slice (some ⟨W.heap.size, 0, none⟩) 0 0)) w') : wpList Tryd.prog ops Q (o :: rest) a (W.alloc (.cells #[] 31)) := by
  obtain ⟨i0, hi, hz0, hz1, hz2⟩ := info_parts css.infoSl
  have h0 : (W.alloc (.cells #[] 31)).ownsRow W.heap.size 31 1 (.slice (some ⟨W.heap.size, 0, none⟩) 0 0) 0 [] := World.ownsRow_lit W #[] 0 (Nat.le_refl _) (Nat.zero_le _) rfl
  exact wpList_plain hgd fun K hK => app.wp_none s x 24 ho W.heap.size 31 i0 1 Tryd.underlying24 hi _ 0 [] hs h0 hx (hK _ _ (h _ h0 (World.grownBy_alloc _ _ _) (by simp)))
theorem tailZ {ops : Array Oper} {rest : List Oper} {o : Oper} {a : Act} {Q : Exit → Act → World → Prop} {W : World} {ad : Addr} {cc : Nat} (hgd : o.guard = none) (s x : Operand)
    (ho : o.op = .call { callee := .builtin .append, args := #[s, x], argTypes := #[24, 24] }) (hs : a.eval s = .slice (some ⟨W.heap.size, 0, none⟩) 0 0) (hx : a.eval x = .slice (some ad) 0 cc)
    (h : ∀ t ct w', w'.ownsRow W.heap.size 31 1 (.slice (some ⟨t, 0, none⟩) 0 ct) 0 [] → W.grownBy w' none → wpList Tryd.prog ops Q rest (a.put o.dst (.slice (some ⟨t, 0, none⟩) 0 ct)) w') : wpList Tryd.prog ops Q (o :: rest) a (W.alloc (.cells #[] 31)) := by
  obtain ⟨i0, hi, hz0, hz1, hz2⟩ := info_parts css.infoSl
  have h0 : (W.alloc (.cells #[] 31)).ownsRow W.heap.size 31 1 (.slice (some ⟨W.heap.size, 0, none⟩) 0 0) 0 [] := World.ownsRow_lit W #[] 0 (Nat.le_refl _) (Nat.zero_le _) rfl
  refine wpList_append_own _ hgd s x 24 ho W.heap.size 31 i0 (.slice none 0 0) 1 24 Tryd.underlying24 hi hz0 hz1 hz2 rfl (by decide) _ 0 [] hs h0 ad 0 cc [] hx rfl (fun j u hj => by simp at hj) (fun u hu => by cases hu) (by unfold maxLen; omega) (by omega) (by simp) ?_
  intro v' w' h1 hg hnil
  rcases h1.2 with ⟨e, _⟩ | ⟨t, ct, cur, e, hr⟩
  · have := (hnil.1 e).1
    cases this
  · subst e
    exact h t ct w' h1 (grown_skip (World.grownBy_alloc W (.cells #[] 31) none) hg (.inr (Nat.le_refl _)))
/-- one list behind a beginning -/
theorem headA {ops : Array Oper} {rest : List Oper} {o : Oper} {a : Act} {Q : Exit → Act → World → Prop} {W : World} {lo k : Nat} {v u : Value} {ys : List Value}
    (hrow : W.ownsRow lo 31 1 v k ys) (hu : u.oneCell' = true) (hk : k ≤ 1048576) (hlo : lo ≤ W.heap.size) (hgd : o.guard = none) (s x : Operand)
    (ho : o.op = .call { callee := .builtin .append, args := #[s, x], argTypes := #[24, 24] }) (hs : a.eval s = v) (hx : a.eval x = .slice (some ⟨W.heap.size, 0, none⟩) 1 1)
    (h : ∀ g cap w', w'.ownsRow lo 31 1 (.slice (some ⟨g, 0, none⟩) (k + 1) cap) (k + 1) (ys ++ [u]) → W.grownBy w' v.ownBlock → (v.ownBlock = some g ∨ W.heap.size ≤ g) → wpList Tryd.prog ops Q rest (a.put o.dst (.slice (some ⟨g, 0, none⟩) (k + 1) cap)) w') :
    wpList Tryd.prog ops Q (o :: rest) a (W.alloc (.cells #[u] 31)) := by
  obtain ⟨i0, hi, hz0, hz1, hz2⟩ := info_parts css.infoSl
  refine wpList_append_lies _ hgd s x 24 ho lo 31 i0 (.slice none 0 0) 1 24 Tryd.underlying24 hi hz0 hz1 hz2 rfl (by decide) v k ys hs (hrow.alloc _) ⟨W.heap.size, 0, none⟩ 1 1 [u] hx rfl ?_ ?_ (by decide) ?_ ?_ ?_ (W.heap.size + 1) (World.size_alloc ..) ?_
  · intro j y hj
    match j, hj with
    | 0, hj => simp at hj; subst hj; simp [Addr.add]
  · intro y hy
    simp at hy
    subst hy
    exact hu
  · unfold maxLen; omega
  · omega
  · simp; omega
  · intro g cap w1 h1 hg hat _
    have g0 := World.grownBy_alloc W (.cells #[u] 31) v.ownBlock
    refine h g cap w1 h1 (sl.grown_trans' g0 hg) ?_
    rcases hat with q | q
    · exact .inl q
    · exact .inr (by omega)
/-- a row's elements behind another -/
theorem joinA {ops : Array Oper} {rest : List Oper} {o : Oper} {a : Act} {Q : Exit → Act → World → Prop} {W : World} {lo lo' g k cap t m ct : Nat} {ys zs : List Value}
    (hrow : W.ownsRow lo 31 1 (.slice (some ⟨g, 0, none⟩) k cap) k ys) (htail : W.ownsRow lo' 31 1 (.slice (some ⟨t, 0, none⟩) m ct) m zs) (hone : ∀ x ∈ zs, x.oneCell' = true) (hk : k + m ≤ 2097152) (hlo : lo ≤ W.heap.size) (hgd : o.guard = none) (s x : Operand)
    (ho : o.op = .call { callee := .builtin .append, args := #[s, x], argTypes := #[24, 24] }) (hs : a.eval s = .slice (some ⟨g, 0, none⟩) k cap) (hx : a.eval x = .slice (some ⟨t, 0, none⟩) m ct)
    (h : ∀ g' cap' w', w'.ownsRow lo 31 1 (.slice (some ⟨g', 0, none⟩) (k + m) cap') (k + m) (ys ++ zs) → W.grownBy w' (some g) → wpList Tryd.prog ops Q rest (a.put o.dst (.slice (some ⟨g', 0, none⟩) (k + m) cap')) w') :
    wpList Tryd.prog ops Q (o :: rest) a W := by
  obtain ⟨i0, hi, hz0, hz1, hz2⟩ := info_parts css.infoSl
  have hl : zs.length = m := by have := htail.1; omega
  refine wpList_append_own _ hgd s x 24 ho lo 31 i0 (.slice none 0 0) 1 24 Tryd.underlying24 hi hz0 hz1 hz2 rfl (by decide) _ k ys hs hrow ⟨t, 0, none⟩ m ct zs hx (by rw [hl]; omega) ?_ hone ?_ ?_ hlo ?_
  · intro j u hj
    rw [Addr.add_lit, Nat.zero_add]
    have hjl : j < m := by
      have := (List.getElem?_eq_some_iff.1 hj).1
      omega
    rw [htail.cellAt j (by omega)]
    exact hj
  · unfold maxLen
    omega
  · omega
  · intro v' w' h1 hg hnil
    rcases h1.2 with ⟨e, _⟩ | ⟨g', cap', cur, e, hr⟩
    · have := (hnil.1 e).1
      cases this
    · subst e
      exact h g' cap' w' h1 hg
/-- the struct variable behind it -/
theorem mid_ins {w W w9 : World} {c : Nat} {n : Int} {M M' : List (List Int)} {Bs : List (Nat × Value × Value)} {a : Option Addr} {cap g cap' m : Nat} {xs : List Value} (hc : w.heap.size ≤ c) (hg : w.grownBy W none) (hB : ∀ b ∈ Bs, b.1 ≠ c ∧ Box 26 W b.1 b.2.1 b.2.2) (hb : Box 26 W c (.int .i64 n) (.slice a M.length cap))
    (hw : W.ownsRow w.heap.size 31 1 (.slice a M.length cap) M.length xs) (h9 : OwnS w.heap.size w9.heap.size w9 (.slice (some ⟨g, 0, none⟩) m cap') M') (hm : m = M'.length) (g1 : W.grownBy w9 (Value.slice a M.length cap).ownBlock) :
    (w9.cell? ⟨c, 1, none⟩ = some (.slice a M.length cap) ∧ w9.frozen? ⟨c, 1, none⟩ = false) ∧ MidF w (w9.setCell ⟨c, 1, none⟩ (.slice (some ⟨g, 0, none⟩) m cap')) c n M' Bs := by
  subst hm
  have hb1 := hb.by g1 (box_ne hw ty1 hb)
  have hg1 : w.grownBy w9 none := grown_own hg hw (Nat.le_refl _) g1
  have hB1 : ∀ b x y, (b, x, y) ∈ Bs → Box 26 w9 b x y := by
    intro b x y hb'
    have hbb := (hB _ hb').2
    exact hbb.by g1 (box_ne hw ty1 hbb)
  refine ⟨⟨hb1.c1, hb1.f 1⟩, hc, cf.grown_set hg1 hc, fun b hb' => ⟨(hB b hb').1, ?_⟩, some ⟨g, 0, none⟩, cap', ?_, ?_⟩
  · exact (hB1 b.1 b.2.1 b.2.2 hb').setO (fun e => (hB b hb').1 e.symm)
  · exact hb1.set1 (.slice (some ⟨g, 0, none⟩) M'.length cap')
  · rw [cf.size_set]
    exact gr.ownS_set h9 hb1

theorem mid_start {w w2 : World} {n : Int} {Bs : List (Nat × Value × Value)} (g : w.grownBy w2 none) (hB : ∀ b ∈ Bs, Box 26 w2 b.1 b.2.1 b.2.2) : MidF w (w2.alloc (.cells #[.int .i64 n, .slice none 0 0] 26)) w2.heap.size n [] Bs := by
  have g1 := World.grownBy_alloc w2 (.cells #[.int .i64 n, .slice none 0 0] 26) none
  refine ⟨g.size, grown_trans g g1, fun b hb => ⟨?_, (hB b hb).kept g1⟩, none, 0, Box.new 26 w2 (.int .i64 n) (.slice none 0 0), ownS_nil _ _ _⟩
  have := (hB b hb).lt
  omega

set_option maxRecDepth 10000 in
set_option maxHeartbeats 4000000 in
theorem specCnfSort (v : Value) (n : Int) (LL : List (List Int)) (w : World) (hn : tot LL ≤ 1048576) (hv : Sls w v LL) :
    Calls Tryd.prog 54 #[.agg #[.int .i64 n, v]] w fun e w' => ∃ u, e = .returned (.tuple #[.agg #[.int .i64 (srtN n LL), u], .bool (srtB n LL)]) ∧ OwnS w.heap.size w'.heap.size w' u (srtR n LL) ∧ w.grownBy w' none := by
  have hl := Nat.le_trans (css.tot_len LL) hn
  have cc := ok.specCnfOk v n LL (ini w n v) hn (hv.kept (ini_grown w n v))
  have I0 := hide (ini_grown w n v)
  have I1 := hide (ini_box0 w n v)
  have I2 := hide (ini_box1 w n v)
  unfold ini at cc I0 I1 I2
  cases hb : cnfB n LL
  · rw [hb] at cc
    have CC := hide cc
    have E := hide hb
    clear cc hb hv
    go_enter Tryd.func54, Tryd.ntmps54
    go_wp2_with fail
    refine (unhide CC).mono ?_; rintro e w2 ⟨rfl, g2⟩
    have b2 := (unhide I2).kept g2
    have r0 := b2.c0
    have r1 := b2.c1
    have f0 := b2.f 0
    have f1 := b2.f 1
    have B2 := hide b2
    have G2 := hide (grown_trans (r := none) (unhide I0) g2)
    clear b2 g2
    go_wp2_with fail
    (try simp only [Exit.inBlock, Exit.then])
    exact ret_no (unhide B2) (unhide G2) (unhide E) rfl (by rfl) (by rfl) (by rfl)
  · rw [hb] at cc
    have CC := hide cc
    have SR := hide (srt_yes hb)
    obtain ⟨a, cap, rfl, ha⟩ := hv
    have HA := hide ha
    clear cc hb ha
    go_enter Tryd.func54, Tryd.ntmps54
    go_wp2_with fail
    refine (unhide CC).mono ?_; rintro e w2 ⟨rfl, g2⟩
    have b1 := (unhide I1).kept g2
    have b2 := (unhide I2).kept g2
    have k0 := b1.c0
    have G2 := hide (grown_trans (r := none) (unhide I0) g2)
    have ST := hide (mid_start (n := n) (Bs := [(w.heap.size, Value.int .i64 n, Value.slice a LL.length cap), (w.heap.size + 1, Value.int .i64 0, Value.slice none 0 0)]) (unhide G2) (by
      intro b hb
      simp only [List.mem_cons, List.not_mem_nil, or_false] at hb
      rcases hb with rfl | rfl
      · exact b1
      · exact b2))
    clear b1 b2 g2 CC I0 I1 I2
    go_wp2_with fail
    generalize w2.heap.size = c at *
    go_loopw [5] (fun i wr => ∃ k : Nat, k ≤ LL.length ∧ i = .int .i64 k ∧ Hid (MidF w wr c n (insAll lessL [] (good (LL.take k))) [(w.heap.size, Value.int .i64 n, Value.slice a LL.length cap), (w.heap.size + 1, Value.int .i64 0, Value.slice none 0 0)])) (fun i _ => LL.length - (intOf i).toNat)
    case atStart => exact ⟨0, Nat.zero_le _, rfl, ST⟩
    case round =>
      obtain ⟨k, hk, rfl, hm⟩ := hrel
      clear ST k0
      have bf := (unhide hm).box w.heap.size (.int .i64 n) (.slice a LL.length cap) (by simp)
      have z0 := bf.c0
      have z1 := bf.c1
      by_cases hlt : k < LL.length
      · rcases unhide HA with h | ⟨b, off, rfl, hb, hcb⟩
        · rw [h] at hlt
          simp at hlt
        · obtain ⟨u, hu, hs⟩ := hcb k hlt
          have hg := (unhide hm).grown
          have c1 : wr.cell? ⟨b, off + k, none⟩ = some u := hg.cell hu (fun e => by cases e)
          have hi' : (k : Int) < (LL.length : Int) := by omega
          have gy := good_yes (LL := LL) hlt
          have gn := good_no (LL := LL) hlt
          have gl : (insAll lessL [] (good (LL.take k))).length ≤ k := by
            have h1 := insAll_len (good (LL.take k)) []
            have h2 := good_len (LL.take k)
            rw [List.length_take] at h2
            simp at h1
            omega
          have hL := Nat.le_trans (css.tot_in LL k) hn
          generalize LL.getD k [] = L at *
          have C := hide (srt.l01Sort u L wr hL (hs.kept hg (.inl rfl)))
          clear hcb HA hs hu hg bf
          cases ho : okTo (setOf L) 24
          · have HG := hide (gn ho)
            rw [ho] at C
            clear gy gn
            go_wp2_with fail
            refine (unhide C).mono ?_; rintro e w3 ⟨u3, rfl, o3, g3⟩
            have M3 := hide ((unhide hm).kept g3)
            clear C o3 g3 hm z0 z1
            go_wp2_with fail
            go_roundw
            case rel => exact ⟨k + 1, by omega, by go_num, by rw [unhide HG]; exact unhide M3⟩
            case measure => simp [intOf]; omega
          · have HG := hide ((congrArg (insAll lessL []) (gy ho)).trans (cnfS_step _ _))
            rw [ho] at C
            have hcl : (srt (setOf L) 48).length ≤ 48 := srt.srt_len _ _
            clear gy gn
            have HML : Hid (∀ x ∈ insAll lessL [] (good (LL.take k)), x.length ≤ 24) := fun x hx => cs.good_24 (((cs.insAll_mem _ _).1 hx).resolve_left (by simp))
            generalize srt (setOf L) 48 = d at *
            generalize insAll lessL [] (good (LL.take k)) = M at *
            go_wp2_with fail
            refine (unhide C).mono ?_; rintro e w3 ⟨u3, rfl, o3, g3⟩
            obtain ⟨ya, yc, rfl⟩ : ∃ xa xc, u3 = .slice xa d.length xc := by
              obtain ⟨xa, xc, e, _⟩ := sl.Sl.of_own o3
              exact ⟨xa, xc, e⟩
            obtain ⟨q0, q1, q2, oa, ocap, q3, q4⟩ := unhide hm
            have Q0 := hide q0
            have Q1 := hide (grown_trans (r := none) q1 g3)
            have Q2 := hide (fun b hb => And.intro (q2 b hb).1 ((q2 b hb).2.kept g3))
            have Q3 := hide (q3.kept g3)
            have Q4 := hide (q4.kept g3)
            have U3 := hide (sl.Own.of o3)
            have hmid : w.heap.size ≤ wr.heap.size := q1.size
            have HMD := hide (And.intro q1.size g3.size)
            have hMl : M.length ≤ 1048576 := by omega
            clear C o3 g3 hm z0 z1 q0 q1 q2 q3 q4 c1 hmid
            generalize wr.heap.size = mid at *
            go_wp2_with fail
            obtain ⟨xs, hxl, hrow, hone, hel, hins⟩ := outer (unhide Q4)
            have HROW := hide hrow
            have HONE := hide hone
            have HEL := hide hel
            have HINS := hide hins
            have HXL := hide hxl
            clear hrow hone hel hins hxl
            have o1 := (unhide Q3).c1
            go_loopw [8] (fun i wq => ∃ j : Nat, j ≤ at_ lessL M d ∧ i = .int .i64 j ∧ Hid (w3.grownBy wq none)) (fun i _ => M.length - (intOf i).toNat)
            case atStart => exact ⟨0, Nat.zero_le _, rfl, grown_refl _⟩
            case round =>
              obtain ⟨j, hj, rfl, hgq⟩ := hrel
              have hal := at_le lessL M d
              have o2 := ((unhide Q3).kept (unhide hgq)).c1
              clear o1
              by_cases hjl : j < M.length
              · have hji : (j : Int) < (M.length : Int) := by omega
                obtain ⟨y, hy, hsy⟩ := unhide HEL j hjl
                have hgo := at_go hj hjl
                rw [show M[j] = M.getD j [] by simp [hjl]] at hgo
                have hdl : d.length ≤ 1048576 := by omega
                have hyl : (M.getD j []).length ≤ 1048576 := Nat.le_trans (unhide HML _ (by rw [show M.getD j [] = M[j] by simp [hjl]]; exact List.getElem_mem hjl)) (by decide)
                have cl := le.l02Less y (.slice ya d.length yc) (M.getD j []) d wr hyl hdl (hsy.kept (unhide hgq) (.inl rfl)) ((unhide U3).kept (unhide hgq)).sl
                have cell : ∃ g, oa = some ⟨g, 0, none⟩ ∧ wr.cell? ⟨g, j, none⟩ = some y := by
                  have hr := unhide HROW
                  rcases hr.2 with ⟨e, h0⟩ | ⟨g, cap', cur, e, _⟩
                  · omega
                  · injection e with e1 e2 e3
                    subst e1
                    refine ⟨g, rfl, (unhide hgq).cell ?_ (fun e => by cases e)⟩
                    rw [(unhide HROW).cellAt j (by omega)]
                    exact hy
                obtain ⟨g, rfl, cy⟩ := cell
                cases hb : lessL (M.getD j []) d
                · rw [hb] at cl hgo
                  have CL := hide cl
                  have hje : j = at_ lessL M d := by
                    have : ¬ (j + 1 ≤ at_ lessL M d) := fun h => by have := hgo.2 h; cases this
                    omega
                  have cs' := fun (w' : World) (gg : wr.grownBy w' none) => le.l02Same y (.slice ya d.length yc) (M.getD j []) d w' hyl hdl ((hsy.kept (unhide hgq) (.inl rfl)).kept gg (.inl rfl)) (((unhide U3).kept (unhide hgq)).kept gg).sl
                  have hget : M[j]? = some (M.getD j []) := by simp [hjl]
                  have hI := show ins lessL M d = if M.getD j [] = d then M else M.take j ++ d :: M.drop j by
                    unfold cs.ins
                    rw [← hje, hget]
                    simp
                  generalize M.getD j [] = z at *
                  by_cases hz : z = d
                  · have HI := hide (show ins lessL M d = M by rw [hI, if_pos hz])
                    simp only [decide_eq_true hz] at cs'
                    subst hz
                    have CS := hide cs'
                    clear cs' cl hgo hb hsy hy hI hget hje
                    go_wp2_with fail
                    refine (unhide CL).mono ?_; rintro e w5 ⟨rfl, g5⟩
                    have G5 := hide (grown_trans (r := none) (unhide hgq) g5)
                    have o5 := ((unhide Q3).kept (unhide G5)).c1
                    have c5 : w5.cell? ⟨g, j, none⟩ = some y := g5.cell cy (fun e => by cases e)
                    have C5 := hide (unhide CS w5 g5)
                    clear g5 CL hgq o2 cy CS
                    go_wp2_with fail
                    refine (unhide C5).mono ?_; rintro e w6 ⟨rfl, g6⟩
                    have G6 := hide (grown_trans (r := none) (unhide G5) g6)
                    clear g6 C5 o5 c5
                    go_wp2_with fail
                    go_roundw
                    case rel => exact ⟨k + 1, by omega, by go_num, by rw [unhide HG, unhide HI]; exact ⟨unhide Q0, grown_trans (unhide Q1) (unhide G6), fun b hb => ⟨(unhide Q2 b hb).1, (unhide Q2 b hb).2.kept (unhide G6)⟩, _, ocap, (unhide Q3).kept (unhide G6), ((unhide Q4).kept (unhide G6)).sub (Nat.le_refl _) (Nat.le_trans (unhide HMD).2 (unhide G6).size)⟩⟩
                    case measure => simp [intOf]; omega
                  · have HI := hide (show ins lessL M d = M.take j ++ d :: M.drop j by rw [hI, if_neg hz])
                    simp only [decide_eq_false hz] at cs'
                    have CS := hide cs'
                    have HZ := hide hz
                    clear cs' cl hgo hb hsy hy hI hget hje hz
                    go_wp2_with fail
                    refine (unhide CL).mono ?_; rintro e w5 ⟨rfl, g5⟩
                    have G5 := hide (grown_trans (r := none) (unhide hgq) g5)
                    have o5 := ((unhide Q3).kept (unhide G5)).c1
                    have c5 : w5.cell? ⟨g, j, none⟩ = some y := g5.cell cy (fun e => by cases e)
                    have C5 := hide (unhide CS w5 g5)
                    clear g5 CL hgq o2 cy CS
                    go_wp2_with fail
                    refine (unhide C5).mono ?_; rintro e w6 ⟨rfl, g6⟩
                    have G6 := hide (grown_trans (r := none) (unhide G5) g6)
                    clear g6 C5 o5 c5 HZ
                    have q0 := unhide Q0
                    have q1 := grown_trans (r := none) (unhide Q1) (unhide G6)
                    have q2 := fun b hb => And.intro (unhide Q2 b hb).1 ((unhide Q2 b hb).2.kept (unhide G6))
                    have q3 := (unhide Q3).kept (unhide G6)
                    have q4 := (unhide Q4).kept (unhide G6)
                    have uu := (unhide U3).kept (unhide G6)
                    have hu1 : (Value.slice ya d.length yc).oneCell' = true := rfl
                    have hmm := unhide HMD
                    have hWs := (unhide G6).size
                    clear HROW HONE HEL HINS HXL
                    obtain ⟨xs, hxl, hrow, hone, hel, hins⟩ := outer q4
                    have o4 := (q3.kept (World.grownBy_alloc w6 (.cells #[] 31) none)).c1
                    have l1 : (0 : Int) ≤ (j : Int) := by omega
                    have l2 : (j : Int) ≤ (M.length : Int) := by omega
                    have hcap : M.length ≤ ocap := by
                      rcases hrow.2 with ⟨e, _⟩ | ⟨g', cap', cur, e, _, _, h3, _⟩
                      · cases e
                      · injection e with e1 e2 e3
                        omega
                    have l3 : (M.length : Int) ≤ (ocap : Int) := by omega
                    have l4 : (j : Int) ≤ (ocap : Int) := by omega
                    have hgb : g < w6.heap.size := (hrow.lt g rfl).2
                    have hglo : w.heap.size ≤ g := (hrow.lt g rfl).1
                    have GT := hide (fun t ct (w' : World) (h1 : w'.ownsRow w6.heap.size 31 1 (.slice (some ⟨t, 0, none⟩) (M.length - j) ct) (M.length - j) (xs.drop j)) (h2 : w6.grownBy w' none) => And.intro h1 h2)
                    have HR := hide hrow
                    have HO := hide hone
                    have HI2 := hide hins
                    have HQ := hide (And.intro q0 (And.intro q1 (And.intro q2 q3)))
                    have UU := hide uu
                    have HX := hide hxl
                    clear q0 q1 q2 q3 q4 uu hrow hone hins hel hxl GT
                    go_upto_region 13 with fail
                    go_wp2_with (at_builtin; refine tailA (W := w6) (k := j) (unhide HR) (unhide HO) (by omega) (by omega) (.inl rfl) (by rfl) (.tmp 65) (.tmp 69) (by rfl) (by rfl) rfl ?_)
                    intro t ct w7 ht7 g7
                    have q3' := (unhide HQ).2.2.2.kept g7
                    have o7 := q3'.c1
                    have HT7 := hide ht7
                    have G7 := hide g7
                    have htb : w6.heap.size ≤ t := (ht7.lt t rfl).1
                    have htb2 : t < w7.heap.size := (ht7.lt t rfl).2
                    have hr7 := hide (own_take (k := j) (rws.row_kept (unhide HR) g7) (by omega))
                    have hs7 := g7.size
                    have lo7 : w.heap.size ≤ w7.heap.size := by omega
                    clear ht7 g7 q3' o4
                    go_wp2_with (at_builtin; refine headA (W := w7) (unhide hr7) (by rfl) (by omega) lo7 rfl _ _ rfl rfl rfl ?_)
                    intro g8 cap8 w8 h8 gr8 at8
                    have H8 := hide h8
                    have ht8 : w8.ownsRow w6.heap.size 31 1 (.slice (some ⟨t, 0, none⟩) (M.length - j) ct) (M.length - j) (xs.drop j) := (unhide HT7).kept gr8 (.inr (fun e => by injection e with e; dsimp only at e; omega))
                    have HT8 := hide ht8
                    have G8 := hide gr8
                    have hg8 : g8 = g ∨ w7.heap.size ≤ g8 := at8.imp (fun e => by injection e with e; exact e.symm) id
                    have hs8 := gr8.size
                    have lo8 : w.heap.size ≤ w8.heap.size := by omega
                    clear h8 ht8 gr8 at8 hr7
                    go_wp2_with (at_builtin; refine joinA (W := w8) (unhide H8) (unhide HT8) (fun x hx => unhide HO x (List.mem_of_mem_drop hx)) (by omega) lo8 rfl _ _ rfl rfl rfl ?_)
                    intro g9 cap9 w9 h9 gr9
                    have e9 : j + 1 + (M.length - j) = M.length + 1 := by omega
                    have gW : w6.grownBy w9 (some g) := grown_skip (grown_skip (grown_wide (unhide G7)) (unhide G8) (.inl rfl)) gr9 (hg8.imp (fun e => by rw [e]) (fun h => by omega))
                    rw [e9] at h9
                    have s9 := unhide HI2 j _ d w9 _ (css.own_sub (unhide UU) (Nat.le_refl _) hWs) hmm.1 (by omega) h9 gW
                    have f9 := mid_ins (unhide HQ).1 (unhide HQ).2.1 (unhide HQ).2.2.1 (unhide HQ).2.2.2 (unhide HR) s9 (by simp; omega) gW
                    rw [← e9] at f9
                    have F9 := hide f9
                    have p1 := f9.1.1
                    have p2 := f9.1.2
                    clear f9 h9 gr9 s9 gW H8 HT8 G8 e9 o7
                    go_wp2_with fail
                    go_roundw
                    case rel => exact ⟨k + 1, by omega, by go_num, by rw [unhide HG, unhide HI]; exact (unhide F9).2⟩
                    case measure => simp [intOf]; omega
                · rw [hb] at cl hgo
                  have CL := hide cl
                  have hj1 := hgo.1 rfl
                  clear cl hgo hb hsy hy
                  go_wp2_with fail
                  refine (unhide CL).mono ?_; rintro e w5 ⟨rfl, g5⟩
                  have G5 := hide (grown_trans (r := none) (unhide hgq) g5)
                  clear g5 CL hgq o2 cy
                  go_wp2_with fail
                  go_roundw
                  case rel => exact ⟨j + 1, hj1, by go_num, G5⟩
                  case measure => simp [intOf]; omega
              · have hji : ¬ (j : Int) < (M.length : Int) := by omega
                have hje : j = at_ lessL M d := by omega
                have hI : ins lessL M d = M.take j ++ d :: M.drop j := by
                  unfold cs.ins
                  rw [← hje, List.getElem?_eq_none (by omega)]
                  simp
                have HI := hide hI
                clear hI hje
                have hway : (oa = none ∧ ocap = 0 ∧ M = []) ∨ ∃ g, oa = some ⟨g, 0, none⟩ := by
                  rcases (unhide HROW).2 with ⟨e, h0⟩ | ⟨g, cap', cur, e, _⟩
                  · injection e with e1 e2 e3
                    exact .inl ⟨e1, e3, List.eq_nil_of_length_eq_zero h0⟩
                  · injection e with e1 e2 e3
                    exact .inr ⟨g, e1⟩
                rcases hway with ⟨rfl, rfl, rfl⟩ | ⟨g, rfl⟩
                · have ej : j = 0 := by
                    have : ([] : List (List Int)).length = 0 := rfl
                    omega
                  subst ej
                  have q0 := unhide Q0
                  have q1 := grown_trans (r := none) (unhide Q1) (unhide hgq)
                  have q2 := fun b hb => And.intro (unhide Q2 b hb).1 ((unhide Q2 b hb).2.kept (unhide hgq))
                  have q3 := (unhide Q3).kept (unhide hgq)
                  have q4 := (unhide Q4).kept (unhide hgq)
                  have uu := (unhide U3).kept (unhide hgq)
                  have hu1 : (Value.slice ya d.length yc).oneCell' = true := rfl
                  have hmm := unhide HMD
                  have hWs := (unhide hgq).size
                  clear HROW HONE HEL HINS HXL
                  obtain ⟨xs, hxl, hrow, hone, hel, hins⟩ := outer q4
                  have o4 := (q3.kept (World.grownBy_alloc wr (.cells #[] 31) none)).c1
                  have ex : xs = [] := List.eq_nil_of_length_eq_zero hxl
                  subst ex
                  have HR := hide hrow
                  have HI2 := hide hins
                  have HQ := hide (And.intro q0 (And.intro q1 (And.intro q2 q3)))
                  have UU := hide uu
                  clear q0 q1 q2 q3 q4 uu hrow hone hins hel hxl
                  go_upto_region 13 with fail
                  go_wp2_with (at_builtin; refine tailN (W := wr) (by rfl) (.tmp 65) (.tmp 69) (by rfl) (by rfl) (by rfl) ?_)
                  intro w7 h7 g7 hs7
                  have o7 := ((unhide HQ).2.2.2.kept g7).c1
                  have H7 := hide h7
                  have G7 := hide g7
                  have hrn := hide (World.ownsRow_nil w7 w.heap.size 31 1)
                  have lo7 : w.heap.size ≤ w7.heap.size := by omega
                  clear h7 g7 o4
                  go_wp2_with (at_builtin; refine headA (W := w7) (unhide hrn) (by rfl) (by decide) lo7 rfl _ _ rfl rfl rfl ?_)
                  intro g8 cap8 w8 h8 gr8 at8
                  have H8 := hide h8
                  have gr8' : w7.grownBy w8 none := gr8
                  have ht8 := rws.row_kept (unhide H7) gr8'
                  have HT8 := hide ht8
                  have G8 := hide gr8'
                  have hg8 : w7.heap.size ≤ g8 := at8.resolve_left (fun e => by cases e)
                  have hs8 := gr8.size
                  have lo8 : w.heap.size ≤ w8.heap.size := by omega
                  clear h8 ht8 gr8 gr8' at8
                  go_wp2_with (at_builtin; refine joinA (W := w8) (unhide H8) (unhide HT8) (fun x hx => by cases hx) (by decide) lo8 rfl _ _ rfl rfl rfl ?_)
                  intro g9 cap9 w9 h9 gr9
                  have gW : wr.grownBy w9 none := grown_skip (grown_trans (r := none) (unhide G7) (unhide G8)) gr9 (.inr (by omega))
                  have s9 := unhide HI2 0 _ d w9 _ (css.own_sub (unhide UU) (Nat.le_refl _) hWs) hmm.1 (by omega) h9 gW
                  have f9 := mid_ins (M := []) (unhide HQ).1 (unhide HQ).2.1 (unhide HQ).2.2.1 (unhide HQ).2.2.2 (unhide HR) s9 rfl gW
                  have F9 := hide f9
                  have p1 := f9.1.1
                  have p2 := f9.1.2
                  clear f9 h9 gr9 s9 gW H8 HT8 G8
                  go_wp2_with fail
                  go_roundw
                  case rel => exact ⟨k + 1, by omega, by go_num, by rw [unhide HG, unhide HI]; exact (unhide F9).2⟩
                  case measure => simp [intOf]; omega
                · by_cases hcj : ocap = j
                  · subst hcj
                    have q0 := unhide Q0
                    have q1 := grown_trans (r := none) (unhide Q1) (unhide hgq)
                    have q2 := fun b hb => And.intro (unhide Q2 b hb).1 ((unhide Q2 b hb).2.kept (unhide hgq))
                    have q3 := (unhide Q3).kept (unhide hgq)
                    have q4 := (unhide Q4).kept (unhide hgq)
                    have uu := (unhide U3).kept (unhide hgq)
                    have hu1 : (Value.slice ya d.length yc).oneCell' = true := rfl
                    have hmm := unhide HMD
                    have hWs := (unhide hgq).size
                    clear HROW HONE HEL HINS HXL
                    obtain ⟨xs, hxl, hrow, hone, hel, hins⟩ := outer q4
                    have o4 := (q3.kept (World.grownBy_alloc wr (.cells #[] 31) none)).c1
                    have l1 : (0 : Int) ≤ (ocap : Int) := by omega
                    have hcap : M.length ≤ ocap := by
                      rcases hrow.2 with ⟨e, _⟩ | ⟨g', cap', cur, e, _, _, h3, _⟩
                      · cases e
                      · injection e with e1 e2 e3
                        omega
                    have l3 : (M.length : Int) ≤ (ocap : Int) := by omega
                    have eM : M.length = ocap := by omega
                    have EM := hide eM
                    clear eM
                    have hgb : g < wr.heap.size := (hrow.lt g rfl).2
                    have hglo : w.heap.size ≤ g := (hrow.lt g rfl).1
                    have HR := hide hrow
                    have HO := hide hone
                    have HI2 := hide hins
                    have HQ := hide (And.intro q0 (And.intro q1 (And.intro q2 q3)))
                    have UU := hide uu
                    have HX := hide hxl
                    clear q0 q1 q2 q3 q4 uu hrow hone hins hel hxl
                    go_upto_region 13 with fail
                    go_wp2_with (at_builtin; refine tailZ (W := wr) (by rfl) (.tmp 65) (.tmp 69) (by rfl) (by rfl) rfl ?_)
                    intro t ct w7 ht7 g7
                    have q3' := (unhide HQ).2.2.2.kept g7
                    have o7 := q3'.c1
                    have HT7 := hide ht7
                    have G7 := hide g7
                    have htb : wr.heap.size ≤ t := (ht7.lt t rfl).1
                    have htb2 : t < w7.heap.size := (ht7.lt t rfl).2
                    have hr7 := hide (own_take (k := ocap) (rws.row_kept (unhide HR) g7) (by rw [unhide EM]; exact Nat.le_refl _))
                    have hs7 := g7.size
                    have lo7 : w.heap.size ≤ w7.heap.size := by omega
                    clear ht7 g7 q3' o4
                    go_wp2_with (at_builtin; refine headA (W := w7) (unhide hr7) (by rfl) (by have := unhide EM; omega) lo7 rfl _ _ rfl rfl rfl ?_)
                    intro g8 cap8 w8 h8 gr8 at8
                    have H8 := hide h8
                    have ht8 : w8.ownsRow wr.heap.size 31 1 (.slice (some ⟨t, 0, none⟩) 0 ct) 0 [] := (unhide HT7).kept gr8 (.inr (fun e => by injection e with e; dsimp only at e; omega))
                    have HT8 := hide ht8
                    have G8 := hide gr8
                    have hg8 : g8 = g ∨ w7.heap.size ≤ g8 := at8.imp (fun e => by injection e with e; exact e.symm) id
                    have hs8 := gr8.size
                    have lo8 : w.heap.size ≤ w8.heap.size := by omega
                    clear h8 ht8 gr8 at8 hr7
                    go_wp2_with (at_builtin; refine joinA (W := w8) (unhide H8) (unhide HT8) (fun x hx => by cases hx) (by have := unhide EM; omega) lo8 rfl _ _ rfl rfl rfl ?_)
                    intro g9 cap9 w9 h9 gr9
                    have gW : wr.grownBy w9 (some g) := grown_skip (grown_skip (grown_wide (unhide G7)) (unhide G8) (.inl rfl)) gr9 (hg8.imp (fun e => by rw [e]) (fun h => by omega))
                    have h9' : w9.ownsRow w.heap.size 31 1 (.slice (some ⟨g9, 0, none⟩) (ocap + 1) cap9) (M.length + 1) (xs.take ocap ++ (Value.slice ya d.length yc) :: xs.drop ocap) := by
                      rw [unhide EM, List.drop_eq_nil_of_le (by rw [unhide HX, unhide EM]; exact Nat.le_refl _)]
                      exact h9
                    have s9 := unhide HI2 ocap _ d w9 _ (css.own_sub (unhide UU) (Nat.le_refl _) hWs) hmm.1 (by omega) h9' gW
                    have f9 := mid_ins (unhide HQ).1 (unhide HQ).2.1 (unhide HQ).2.2.1 (unhide HQ).2.2.2 (unhide HR) s9 (by have := unhide EM; simp; omega) gW
                    have F9 := hide f9
                    have p1 := f9.1.1
                    have p2 := f9.1.2
                    clear f9 h9 h9' gr9 s9 gW H8 HT8 G8 o7
                    go_wp2_with fail
                    go_roundw
                    case rel => exact ⟨k + 1, by omega, by go_num, by rw [unhide HG, unhide HI]; exact (unhide F9).2⟩
                    case measure => simp [intOf]; omega
                  · have q0 := unhide Q0
                    have q1 := grown_trans (r := none) (unhide Q1) (unhide hgq)
                    have q2 := fun b hb => And.intro (unhide Q2 b hb).1 ((unhide Q2 b hb).2.kept (unhide hgq))
                    have q3 := (unhide Q3).kept (unhide hgq)
                    have q4 := (unhide Q4).kept (unhide hgq)
                    have uu := (unhide U3).kept (unhide hgq)
                    have hu1 : (Value.slice ya d.length yc).oneCell' = true := rfl
                    have hmm := unhide HMD
                    have hWs := (unhide hgq).size
                    clear HROW HONE HEL HINS HXL
                    obtain ⟨xs, hxl, hrow, hone, hel, hins⟩ := outer q4
                    have o4 := (q3.kept (World.grownBy_alloc wr (.cells #[] 31) none)).c1
                    have l1 : (0 : Int) ≤ (j : Int) := by omega
                    have l2 : (j : Int) ≤ (M.length : Int) := by omega
                    have hcap : M.length ≤ ocap := by
                      rcases hrow.2 with ⟨e, _⟩ | ⟨g', cap', cur, e, _, _, h3, _⟩
                      · cases e
                      · injection e with e1 e2 e3
                        omega
                    have l3 : (M.length : Int) ≤ (ocap : Int) := by omega
                    have l4 : (j : Int) ≤ (ocap : Int) := by omega
                    have hgb : g < wr.heap.size := (hrow.lt g rfl).2
                    have hglo : w.heap.size ≤ g := (hrow.lt g rfl).1
                    have GT := hide (fun t ct (w' : World) (h1 : w'.ownsRow wr.heap.size 31 1 (.slice (some ⟨t, 0, none⟩) (M.length - j) ct) (M.length - j) (xs.drop j)) (h2 : wr.grownBy w' none) => And.intro h1 h2)
                    have HR := hide hrow
                    have HO := hide hone
                    have HI2 := hide hins
                    have HQ := hide (And.intro q0 (And.intro q1 (And.intro q2 q3)))
                    have UU := hide uu
                    have HX := hide hxl
                    clear q0 q1 q2 q3 q4 uu hrow hone hins hel hxl GT
                    go_upto_region 13 with fail
                    go_wp2_with (at_builtin; refine tailA (W := wr) (k := j) (unhide HR) (unhide HO) (by omega) (by omega) (.inl rfl) (by rfl) (.tmp 65) (.tmp 69) (by rfl) (by rfl) rfl ?_)
                    intro t ct w7 ht7 g7
                    have q3' := (unhide HQ).2.2.2.kept g7
                    have o7 := q3'.c1
                    have HT7 := hide ht7
                    have G7 := hide g7
                    have htb : wr.heap.size ≤ t := (ht7.lt t rfl).1
                    have htb2 : t < w7.heap.size := (ht7.lt t rfl).2
                    have hr7 := hide (own_take (k := j) (rws.row_kept (unhide HR) g7) (by omega))
                    have hs7 := g7.size
                    have lo7 : w.heap.size ≤ w7.heap.size := by omega
                    clear ht7 g7 q3' o4
                    go_wp2_with (at_builtin; refine headA (W := w7) (unhide hr7) (by rfl) (by omega) lo7 rfl _ _ rfl rfl rfl ?_)
                    intro g8 cap8 w8 h8 gr8 at8
                    have H8 := hide h8
                    have ht8 : w8.ownsRow wr.heap.size 31 1 (.slice (some ⟨t, 0, none⟩) (M.length - j) ct) (M.length - j) (xs.drop j) := (unhide HT7).kept gr8 (.inr (fun e => by injection e with e; dsimp only at e; omega))
                    have HT8 := hide ht8
                    have G8 := hide gr8
                    have hg8 : g8 = g ∨ w7.heap.size ≤ g8 := at8.imp (fun e => by injection e with e; exact e.symm) id
                    have hs8 := gr8.size
                    have lo8 : w.heap.size ≤ w8.heap.size := by omega
                    clear h8 ht8 gr8 at8 hr7
                    go_wp2_with (at_builtin; refine joinA (W := w8) (unhide H8) (unhide HT8) (fun x hx => unhide HO x (List.mem_of_mem_drop hx)) (by omega) lo8 rfl _ _ rfl rfl rfl ?_)
                    intro g9 cap9 w9 h9 gr9
                    have e9 : j + 1 + (M.length - j) = M.length + 1 := by omega
                    have gW : wr.grownBy w9 (some g) := grown_skip (grown_skip (grown_wide (unhide G7)) (unhide G8) (.inl rfl)) gr9 (hg8.imp (fun e => by rw [e]) (fun h => by omega))
                    rw [e9] at h9
                    have s9 := unhide HI2 j _ d w9 _ (css.own_sub (unhide UU) (Nat.le_refl _) hWs) hmm.1 (by omega) h9 gW
                    have f9 := mid_ins (unhide HQ).1 (unhide HQ).2.1 (unhide HQ).2.2.1 (unhide HQ).2.2.2 (unhide HR) s9 (by simp; omega) gW
                    rw [← e9] at f9
                    have F9 := hide f9
                    have p1 := f9.1.1
                    have p2 := f9.1.2
                    clear f9 h9 gr9 s9 gW H8 HT8 G8 e9 o7
                    go_wp2_with fail
                    go_roundw
                    case rel => exact ⟨k + 1, by omega, by go_num, by rw [unhide HG, unhide HI]; exact (unhide F9).2⟩
                    case measure => simp [intOf]; omega
      · have hi' : ¬ (k : Int) < (LL.length : Int) := by omega
        have e : LL.take k = LL := List.take_of_length_le (by omega)
        rw [e] at hm
        have br := (unhide hm).box (w.heap.size + 1) (.int .i64 0) (.slice none 0 0) (by simp)
        have hX : insAll lessL [] (good LL) = cnfS LL := rfl
        rw [hX] at hm
        generalize cnfS LL = X at *
        obtain ⟨q0, q1, q2, oa, ocap, q3, q4⟩ := unhide hm
        have r0 := br.c0
        have r1 := br.c1
        have rf0 := br.f 0
        have rf1 := br.f 1
        have o0 := q3.c0
        have o1 := q3.c1
        have BR := hide br
        have Q1 := hide q1
        have Q4 := hide q4
        clear HA hm e q0 q1 q2 q3 q4 br bf hX
        go_wp2
        (try simp only [Exit.inBlock, Exit.then])
        refine bodyPost_ret (cf.ret_box2 rfl rfl (((unhide BR).set0 (.int .i64 n)).set1 (.slice oa X.length ocap))) rfl ⟨.slice oa X.length ocap, ?_, ?_, ?_⟩
        · rw [(unhide SR).1, (unhide SR).2.2]
          rfl
        · rw [(unhide SR).2.1, cf.size_set, cf.size_set]
          exact gr.ownS_set (gr.ownS_set (unhide Q4) (unhide BR)) ((unhide BR).set0 (.int .i64 n))
        · exact cf.grown_set (cf.grown_set (unhide Q1) (by omega)) (by omega)
end Go.Proofs.YtibpnocpafppaaaDoor.cso
