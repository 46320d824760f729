/- Plain mathematics of the watcher: what unit answers is the literal of the first clause that is single; forcing; no condition. -/
import Derived.Test.YtheigbmkldlicaaDoorWk
namespace Go.Proofs.YtheigbmkldlicaaDoor.wm
open Go.RowKit
open Go.Proofs.YtheigbmkldlicaaDoor.lits (okB okB_iff)
open Go.Proofs.YtheigbmkldlicaaDoor.bset (placeN placeN_le placeN_inj setOf setOf_lt withN withN_lt withN_bit)
open Go.Proofs.YtheigbmkldlicaaDoor.srt (woN woN_lt woN_bit fstI oppN oppN_bit oppN_lt swp swp_lt andN andN_bit andN_lt or_lt hi_bit)
set_option linter.unusedVariables false

/-- with nothing left to come each clause that is open has an open literal, unless it is told -/
theorem Jn.open_ {Ss : List Nat} {P : PS} {l : Int} {F : List Int} (h : Jn Ss P 0 l F []) (he : P.em = false) {i : Nat} (hi : i < Ss.length) (hc : clsd (Ss.getD i 0) P.tk = false) : opn (Ss.getD i 0) P.tk ≠ 0 ∧
    (((i : Int) ∈ P.A.getD 0 []) ∨ ∃ a b, (opn (Ss.getD i 0) P.tk).testBit a = true ∧ (opn (Ss.getD i 0) P.tk).testBit b = true ∧ a ≠ b) := by
  have hS : Ss.getD i 0 ≠ 0 := fun e => by
    have := h.ez i hi e
    rw [he] at this
    cases this
  have hw := h.wat i hi hS
  have hwd := h.wd i hi
  have no : ∀ p, ¬ pend P 0 l [] i p := by
    intro p hp
    rcases hp with q | q
    · rw [Nat.zero_testBit] at q
      cases q
    · cases q.2
  rcases h.st i hi hS hc with ⟨a1, y, a2, a3, a4⟩ | ⟨b1, b2⟩ | ⟨c1, c2, c3⟩ | ⟨d1, d2, d3⟩
  · exact ⟨fun e => (by rw [e, Nat.zero_testBit] at a3; cases a3), .inl a1⟩
  · rw [he] at b1
    cases b1
  · have ob : ∀ p, okB p = true → (Ss.getD i 0).testBit (placeN p) = true → (lost P p → pend P 0 l [] i p) → (opn (Ss.getD i 0) P.tk).testBit (placeN p) = true := by
      intro p hp hs hl
      rw [opn_bit _ _ _ hwd, hs, swp_place hp]
      cases hq : P.tk.testBit (placeN (-p))
      · rfl
      · exact absurd (hl hq) (no p)
    have o1 := ob _ hw.1 hw.2.2.1 c2
    have o2 := ob _ hw.2.1 hw.2.2.2.1 c3
    exact ⟨fun e => (by rw [e, Nat.zero_testBit] at o1; cases o1), .inr ⟨_, _, o1, o2, fun e => c1 (placeN_inj hw.1 hw.2.1 e)⟩⟩
  · rcases d3 with z | z
    · exact absurd z.2 (no _)
    · exact absurd z.2 (no _)
theorem Jn.unit {Ss : List Nat} {P : PS} {l : Int} {F : List Int} (h : Jn Ss P 0 l F []) : (P.uniX, !P.em) = unitN Ss P.tk := by
  unfold unitN
  cases he : P.em
  · have na : (Ss.map (clauseN · P.tk)).any (· == -100) = false := by
      rw [List.any_eq_false]
      intro x hx e
      rw [List.mem_map] at hx
      obtain ⟨S, hS, rfl⟩ := hx
      obtain ⟨i, hi, rfl⟩ := List.mem_iff_getElem.1 hS
      have ei : Ss.getD i 0 = Ss[i] := by simp [hi]
      have e' : clauseN (Ss.getD i 0) P.tk = -100 := by rw [ei]; simpa using e
      cases hc : clsd (Ss.getD i 0) P.tk
      · have ho := (h.open_ he hi hc).1
        by_cases hr : woN (opn (Ss.getD i 0) P.tk) (fstI (opn (Ss.getD i 0) P.tk)) = 0
        · rw [clauseN_one hc ho hr] at e'
          exact (ok_ne (fst_spec (Nat.pos_of_ne_zero ho) (andN_lt _ _ (h.wd i hi))).1).2 e'
        · rw [clauseN_two hc ho hr] at e'
          omega
      · rw [clauseN_closed hc] at e'
        omega
    rw [if_neg (by rw [na]; simp)]
    have eX : P.uniX = if least P (still P) = P.K.length then 0 else fstI (opn (P.K.getD (least P (still P)) zk).1 P.tk) := by
      unfold PS.uniX
      rw [if_neg (by rw [he]; simp)]
    have inst : ∀ i, i < Ss.length → clauseN (Ss.getD i 0) P.tk ≠ 0 → (i : Int) ∈ still P := by
      intro i hi hn
      cases hc : clsd (Ss.getD i 0) P.tk
      · have ho := h.open_ he hi hc
        have hr : woN (opn (Ss.getD i 0) P.tk) (fstI (opn (Ss.getD i 0) P.tk)) = 0 := by
          apply Classical.byContradiction
          intro hr
          exact hn (clauseN_two hc ho.1 hr)
        have one := (one_iff (andN_lt _ _ (h.wd i hi)) ho.1).1 hr
        rcases ho.2 with q | ⟨a, b, ha, hb, hab⟩
        · unfold still
          rw [List.mem_filter]
          refine ⟨q, ?_⟩
          unfold live
          rw [Int.toNat_natCast, h.sets i hi, hc]
          rfl
        · exact absurd (one a b ha hb) hab
      · exact absurd (clauseN_closed hc) hn
    rw [eX]
    congr 1
    by_cases hl : least P (still P) = P.K.length
    · rw [if_pos hl, firstN_none]
      intro x hx
      rw [List.mem_map] at hx
      obtain ⟨S, hS, rfl⟩ := hx
      obtain ⟨i, hi, rfl⟩ := List.mem_iff_getElem.1 hS
      have ei : Ss.getD i 0 = Ss[i] := by simp [hi]
      apply Classical.byContradiction
      intro hn
      rw [← ei] at hn
      have := least_all P (still P) _ (inst i hi hn)
      rw [Int.toNat_natCast, hl, h.len] at this
      omega
    · rw [if_neg hl]
      have hlt : least P (still P) < Ss.length := by
        have := least_le P (still P)
        rw [h.len] at this hl
        omega
      have hm : ((least P (still P) : Nat) : Int) ∈ still P := by
        rcases least_mem P (still P) with q | ⟨x, hx, q⟩
        · exact absurd q hl
        · have hx0 := (List.mem_filter.1 hx).1
          obtain ⟨k, rfl, _⟩ := h.idx 0 x hx0
          rw [Int.toNat_natCast] at q
          rw [← q]
          exact hx
      have hm' := List.mem_filter.1 hm
      have hcl : clsd (Ss.getD (least P (still P)) 0) P.tk = false := by
        have := hm'.2
        unfold live at this
        rw [Int.toNat_natCast, h.sets _ hlt, Bool.not_eq_true'] at this
        exact this
      have ho := (h.open_ he hlt hcl).1
      have hr := (one_iff (andN_lt _ _ (h.wd _ hlt)) ho).2 (h.wt _ hm'.1 hcl)
      have e1 := clauseN_one hcl ho hr
      rw [h.sets _ hlt, ← e1]
      have hne : clauseN (Ss.getD (least P (still P)) 0) P.tk ≠ 0 := by
        rw [e1]
        exact (ok_ne (fst_spec (Nat.pos_of_ne_zero ho) (andN_lt _ _ (h.wd _ hlt))).1).1
      rw [firstN_at (i := least P (still P)) (by rw [List.length_map]; exact hlt) (by rw [map_at hlt]; exact hne) (fun j hj => ?_), map_at hlt]
      rw [map_at (by omega)]
      apply Classical.byContradiction
      intro hn
      have := least_all P (still P) _ (inst j (by omega) hn)
      rw [Int.toNat_natCast] at this
      omega
  · obtain ⟨i, hi, hc, ho⟩ := h.es he
    have : (Ss.map (clauseN · P.tk)).any (· == -100) = true := by
      rw [List.any_eq_true]
      refine ⟨clauseN (Ss.getD i 0) P.tk, ?_, by rw [clauseN_empty hc ho]; rfl⟩
      rw [List.mem_map]
      exact ⟨Ss.getD i 0, by rw [show Ss.getD i 0 = Ss[i] by simp [hi]]; exact List.getElem_mem hi, rfl⟩
    rw [if_pos this]
    unfold PS.uniX
    rw [if_pos he]
    rfl
theorem filter_len (P : PS) : (still P).length ≤ (P.A.getD 0 []).length := List.length_filter_le _ _
theorem Jn.uni {Ss : List Nat} {P : PS} {l : Int} {F : List Int} (h : Jn Ss P 0 l F []) : Jn Ss P.uni 0 l F [] := by
  unfold PS.uni
  split
  · exact h
  · rename_i he
    have g0 : ∀ k, (({ P with A := P.A.set 0 (still P) } : PS).A.getD k []) = if k = 0 then still P else P.A.getD k [] := by
      intro k
      show (P.A.set 0 (still P)).getD k [] = _
      rw [getD_set]
      by_cases e : k = 0
      · rw [if_pos ⟨e, by rw [h.al]; decide⟩, if_pos e]
      · rw [if_neg (fun q => e q.1), if_neg e]
    have sub : ∀ k x, x ∈ (({ P with A := P.A.set 0 (still P) } : PS).A.getD k []) → x ∈ P.A.getD k [] := by
      intro k x hx
      rw [g0] at hx
      split at hx
      · rename_i e
        subst e
        exact (List.mem_filter.1 hx).1
      · exact hx
    have keep : ∀ i : Nat, i < Ss.length → clsd (Ss.getD i 0) P.tk = false → (i : Int) ∈ P.A.getD 0 [] → (i : Int) ∈ (({ P with A := P.A.set 0 (still P) } : PS).A.getD 0 []) := by
      intro i hi hc hm
      rw [g0, if_pos rfl]
      unfold still
      rw [List.mem_filter]
      refine ⟨hm, ?_⟩
      unfold live
      rw [Int.toNat_natCast, h.sets i hi, hc]
      rfl
    refine ⟨h.len, h.sets, h.wd, h.tk, h.rk, by show (P.A.set 0 _).length = 50; rw [List.length_set]; exact h.al, h.rin, fun i hi hS => ?_, fun k x hx => h.idx k x (sub k x hx), h.cin, h.lo, fun q => absurd rfl q, ?_, h.nl, ?_, h.fl, fun i hi hS e => ?_, fun k hk => h.so k (sub 49 _ hk), ?_, h.hz, fun k hk => h.wt k (sub 0 _ hk), h.es, h.ez, fun i hi hS hc => ?_⟩
    · have hw := h.wat i hi hS
      refine ⟨hw.1, hw.2.1, hw.2.2.1, hw.2.2.2.1, ?_, ?_⟩
      · rw [g0, if_neg (by omega)]
        exact hw.2.2.2.2.1
      · rw [g0, if_neg (by omega)]
        exact hw.2.2.2.2.2
    · have hb := h.bd
      have := sumR_le (n := 48) (f := wf { P with A := P.A.set 0 (still P) } 0) (g := wf P 0) (fun p hp => by
        have e := g0 (1 + p)
        rw [if_neg (by omega)] at e
        unfold wf
        rw [e]
        exact Nat.le_refl _)
      have := filter_len P
      unfold wgt at hb ⊢
      rw [g0, if_pos rfl]
      simp only [List.length_nil] at hb ⊢
      omega
    · refine Nat.le_trans (sumR_le (fun p hp => ?_)) h.tt
      rw [g0, if_neg (by omega)]
      exact Nat.le_refl _
    · rw [g0, if_neg (by omega)]
      exact h.sg i hi hS e
    · rw [g0, if_neg (by omega)]
      exact h.sn
    · rcases h.st i hi hS hc with ⟨a1, a2⟩ | b | c | ⟨d1, d2⟩
      · exact .inl ⟨keep i hi hc a1, a2⟩
      · exact .inr (.inl b)
      · exact .inr (.inr (.inl c))
      · exact .inr (.inr (.inr ⟨keep i hi hc d1, d2⟩))
end Go.Proofs.YtheigbmkldlicaaDoor.wm
