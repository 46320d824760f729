/- What watcherOf makes of clauses: a watcher that has taken nothing; no condition but on the sizes. -/
import Derived.Test.YtloenjaonkdlaaaDoorWa
namespace Go.Proofs.YtloenjaonkdlaaaDoor.wm
open Go.ChangeShapes Go.WideShapes Go.ChangeAt Go.RowKit
open Go.Proofs.YtloenjaonkdlaaaDoor.wm0 (end0 ret0 stepW listW listB)
open Go.Proofs.YtloenjaonkdlaaaDoor.lits (okB okB_iff)
open Go.Proofs.YtloenjaonkdlaaaDoor.bset (placeN placeN_le placeC placeN_inj setOf setOf_lt)
open Go.Proofs.YtloenjaonkdlaaaDoor.srt (Tab woN woN_lt woN_bit fstI swp)
open Go.Proofs.YtloenjaonkdlaaaDoor.css (Sls)
open Go.Proofs.YtloenjaonkdlaaaDoor.sl (Sl Own ints hide unhide ret_int ret_bool grown_refl grown_trans grown_drewN)
set_option linter.unusedVariables false

theorem opn0 {S : Nat} (hS : S < 2 ^ 48) (b : Nat) : (opn S 0).testBit b = S.testBit b := by
  rw [opn_bit _ _ _ hS, Nat.zero_testBit]
  simp
theorem clsd0 (S : Nat) : clsd S 0 = false := by
  unfold clsd
  rw [Nat.and_zero]
  rfl
theorem opn00 {S : Nat} (hS : S < 2 ^ 48) : opn S 0 = S := Nat.eq_of_testBit_eq fun b => opn0 hS b
theorem K_snoc_old {K : List (Nat × Int × Int)} {k : Nat × Int × Int} {j : Nat} (h : j < K.length) : (K ++ [k]).getD j zk = K.getD j zk := by
  rw [List.getD, List.getD, List.getElem?_append_left h]
theorem K_snoc_new {K : List (Nat × Int × Int)} {k : Nat × Int × Int} : (K ++ [k]).getD K.length zk = k := by
  rw [List.getD, List.getElem?_append_right (Nat.le_refl _)]
  simp
theorem S_snoc_old {Ss : List Nat} {S j : Nat} (h : j < Ss.length) : (Ss ++ [S]).getD j 0 = Ss.getD j 0 := by
  rw [List.getD, List.getD, List.getElem?_append_left h]
theorem S_snoc_new {Ss : List Nat} {S : Nat} : (Ss ++ [S]).getD Ss.length 0 = S := by
  rw [List.getD, List.getElem?_append_right (Nat.le_refl _)]
  simp
/-- a watcher that has taken nothing: one clause more -/
theorem Jn.grow {Ss : List Nat} {P P' : PS} {S : Nat} {k : Nat × Int × Int} (h : Jn Ss P 0 0 [] []) (h0 : P.tk = 0) (hS : S < 2 ^ 48) (hN : Ss.length < 1048576) (htk : P'.tk = 0) (hK : P'.K = P.K ++ [k]) (hk : k.1 = S) (hal : P'.A.length = 50)
    (hA : ∀ j x, x ∈ P.A.getD j [] → x ∈ P'.A.getD j []) (hidx : ∀ j x, x ∈ P'.A.getD j [] → x ∈ P.A.getD j [] ∨ (x = (Ss.length : Int) ∧ S ≠ 0)) (hbd : wgt P' 0 ≤ 4194304) (htt : tot P' ≤ tot P + 2) (h49 : S ≠ 0 → k.2.1 = k.2.2 → (Ss.length : Int) ∈ P'.A.getD 49 []) (h49o : (Ss.length : Int) ∈ P'.A.getD 49 [] → ∀ a b, S.testBit a = true → S.testBit b = true → a = b) (h49n : (P'.A.getD 49 []).length ≤ (P.A.getD 49 []).length + 1) (hho : P'.ho = true ↔ P.ho = true ∨ S = 0) (hem : P.em = true → P'.em = true)
    (hez : S = 0 → P'.em = true) (hes : P'.em = true → P.em = true ∨ S = 0)
    (hwat : S ≠ 0 → okB k.2.1 = true ∧ okB k.2.2 = true ∧ S.testBit (placeN k.2.1) = true ∧ S.testBit (placeN k.2.2) = true ∧ (Ss.length : Int) ∈ P'.A.getD (1 + placeN k.2.1) [] ∧ (Ss.length : Int) ∈ P'.A.getD (1 + placeN k.2.2) [])
    (hwt : (Ss.length : Int) ∈ P'.A.getD 0 [] → ∀ a b, S.testBit a = true → S.testBit b = true → a = b)
    (hst : S ≠ 0 → ((Ss.length : Int) ∈ P'.A.getD 0 [] ∧ ∀ b, S.testBit b = true → b = placeN k.2.1) ∨ k.2.1 ≠ k.2.2) : Jn (Ss ++ [S]) P' 0 0 [] [] := by
  have hlen : P.K.length = Ss.length := h.len
  have cs : ∀ {i}, i < (Ss ++ [S]).length → i < Ss.length ∨ i = Ss.length := fun {i} hi => by rw [List.length_append] at hi; simp at hi; omega
  have ko : ∀ i, i < Ss.length → P'.K.getD i zk = P.K.getD i zk := fun i hi => by rw [hK]; exact K_snoc_old (by omega)
  have kn : P'.K.getD Ss.length zk = k := by rw [hK, ← hlen]; exact K_snoc_new
  refine ⟨(by rw [hK]; simp [hlen]), fun i hi => ?_, fun i hi => ?_, (by rw [htk]; decide), (by decide), hal, fun b hb => (by rw [Nat.zero_testBit] at hb; cases hb), fun i hi hSi => ?_, fun j x hx => ?_, fun x hx => (by cases hx), fun q => absurd rfl q, fun q => absurd rfl q, (by simpa using hbd), (by simp; omega), ?_, Nat.zero_le _, fun i hi hSi => ?_, fun q hq => ?_, ?_, ?_, fun q hq _ => ?_, fun he => ?_, fun i hi hz => ?_, fun i hi hSi _ => ?_⟩
  · rcases cs hi with q | q
    · rw [ko i q, S_snoc_old q]
      exact h.sets i q
    · subst q
      rw [kn, S_snoc_new]
      exact hk
  · rcases cs hi with q | q
    · rw [S_snoc_old q]
      exact h.wd i q
    · subst q
      rw [S_snoc_new]
      exact hS
  · rcases cs hi with q | q
    · rw [S_snoc_old q] at hSi ⊢
      rw [ko i q]
      have := h.wat i q hSi
      exact ⟨this.1, this.2.1, this.2.2.1, this.2.2.2.1, hA _ _ this.2.2.2.2.1, hA _ _ this.2.2.2.2.2⟩
    · subst q
      rw [S_snoc_new] at hSi ⊢
      rw [kn]
      exact hwat hSi
  · rcases hidx j x hx with q | ⟨q1, q2⟩
    · obtain ⟨k', e1, e2, e3⟩ := h.idx j x q
      exact ⟨k', e1, by rw [List.length_append]; omega, by rw [S_snoc_old e2]; exact e3⟩
    · exact ⟨Ss.length, q1, by simp, by rw [S_snoc_new]; exact q2⟩
  · have := h.tt
    rw [List.length_append, List.length_singleton]
    omega
  · rcases cs hi with q | q
    · rw [S_snoc_old q] at hSi
      rw [ko i q]
      exact fun e => hA _ _ (h.sg i q hSi e)
    · subst q
      rw [S_snoc_new] at hSi
      rw [kn]
      exact h49 hSi
  · rcases hidx 49 _ hq with z | ⟨z1, z2⟩
    · obtain ⟨k', e1, e2, e3⟩ := h.idx 49 _ z
      have : k' = q := by omega
      subst this
      rw [S_snoc_old e2]
      exact h.so k' z
    · have : q = Ss.length := by omega
      subst this
      rw [S_snoc_new]
      exact h49o hq
  · have := h.sn
    rw [List.length_append, List.length_singleton]
    omega
  · rw [hho, h.hz]
    constructor
    · rintro (⟨i, hi, e⟩ | e)
      · exact ⟨i, by rw [List.length_append]; omega, by rw [S_snoc_old hi]; exact e⟩
      · exact ⟨Ss.length, by simp, by rw [S_snoc_new]; exact e⟩
    · rintro ⟨i, hi, e⟩
      rcases cs hi with q | q
      · rw [S_snoc_old q] at e
        exact .inl ⟨i, q, e⟩
      · subst q
        rw [S_snoc_new] at e
        exact .inr e
  · rw [htk]
    rcases hidx 0 _ hq with z | ⟨z1, z2⟩
    · obtain ⟨k', e1, e2, e3⟩ := h.idx 0 _ z
      have : k' = q := by omega
      subst this
      rw [S_snoc_old e2]
      have := h.wt k' z (by rw [h0]; exact clsd0 _)
      rw [h0] at this
      exact this
    · have : q = Ss.length := by omega
      subst this
      rw [S_snoc_new, opn00 hS]
      exact hwt hq
  · rw [htk]
    rcases hes he with z | z
    · obtain ⟨i, hi, hc, ho⟩ := h.es z
      rw [h0] at hc ho
      exact ⟨i, by rw [List.length_append]; omega, by rw [S_snoc_old hi]; exact hc, by rw [S_snoc_old hi]; exact ho⟩
    · exact ⟨Ss.length, by simp, clsd0 _, by rw [S_snoc_new, opn00 hS]; exact z⟩
  · rcases cs hi with q | q
    · rw [S_snoc_old q] at hz
      exact hem (h.ez i q hz)
    · subst q
      rw [S_snoc_new] at hz
      exact hez hz
  · have nl : ∀ p, ¬ lost P' p := fun p z => by
      have : P'.tk.testBit (placeN (-p)) = true := z
      rw [htk, Nat.zero_testBit] at this
      cases this
    rcases cs hi with q | q
    · rw [S_snoc_old q] at hSi ⊢
      rw [ko i q]
      rcases h.st i q hSi (by rw [h0]; exact clsd0 _) with ⟨a1, y, a2, a3, a4⟩ | ⟨b1, b2⟩ | ⟨c1, c2, c3⟩ | ⟨d1, d2, d3⟩
      · rw [h0] at a3 a4
        exact .inl ⟨hA _ _ a1, y, a2, by rw [htk]; exact a3, by rw [htk]; exact a4⟩
      · rw [h0] at b2
        exact .inr (.inl ⟨hem b1, by rw [htk]; exact b2⟩)
      · exact .inr (.inr (.inl ⟨c1, fun z => absurd z (nl _), fun z => absurd z (nl _)⟩))
      · exfalso
        have nl0 : ∀ p, ¬ lost P p := fun p z => by
          have : P.tk.testBit (placeN (-p)) = true := z
          rw [h0, Nat.zero_testBit] at this
          cases this
        rcases d3 with z | z
        · exact nl0 _ z.1
        · exact nl0 _ z.1
    · subst q
      rw [S_snoc_new] at hSi ⊢
      rw [kn]
      rcases hst hSi with ⟨z1, z2⟩ | z
      · refine .inl ⟨z1, k.2.1, .inl rfl, ?_, fun b hb => ?_⟩
        · rw [htk, opn00 hS]
          exact (hwat hSi).2.2.1
        · rw [htk, opn00 hS] at hb
          exact z2 b hb
      · exact .inr (.inr (.inl ⟨z, fun z => absurd z (nl _), fun z => absurd z (nl _)⟩))
theorem wgt_same {P : PS} {K : List (Nat × Int × Int)} {R : Nat} : wgt { P with K := K } R = wgt P R := rfl
theorem Jn.add {Ss : List Nat} {P : PS} {S : Nat} (h : Jn Ss P 0 0 [] []) (h0 : P.tk = 0) (hS : S < 2 ^ 48) (hb : wgt P 0 ≤ 3 * Ss.length) (hN : Ss.length < 1048576) : Jn (Ss ++ [S]) (P.add S) 0 0 [] [] ∧ (P.add S).tk = 0 ∧ wgt (P.add S) 0 ≤ 3 * (Ss ++ [S]).length := by
  have hlen : P.K.length = Ss.length := h.len
  have l1 : (Ss ++ [S]).length = Ss.length + 1 := by simp
  unfold PS.add
  by_cases hz : S = 0
  · rw [if_pos hz]
    have no49 : (Ss.length : Int) ∉ P.A.getD 49 [] := fun q => by
      obtain ⟨k', e1, e2, e3⟩ := h.idx 49 _ q
      omega
    refine ⟨h.grow (k := (0, 0, 0)) h0 hS hN h0 rfl hz.symm h.al (fun _ _ q => q) (fun _ _ q => .inl q) ?_ (Nat.le_add_right _ _) (fun q => absurd hz q) (fun q => absurd q no49) (Nat.le_add_right _ _) ⟨fun _ => .inr hz, fun _ => rfl⟩ (fun _ => rfl) (fun _ => rfl) (fun _ => .inr hz) (fun q => absurd hz q) (fun q => ?_) (fun q => absurd hz q), h0, ?_⟩
    · show wgt P 0 ≤ _
      omega
    · obtain ⟨k', e1, e2, e3⟩ := h.idx 0 _ q
      omega
    · rw [l1]
      show wgt P 0 ≤ _
      omega
  · rw [if_neg hz]
    have hSp : 0 < S := by omega
    have fs := fst_spec hSp hS
    have hfl := placeN_le fs.1
    by_cases hr : woN S (fstI S) = 0
    · rw [if_pos hr]
      have one := (one_iff hS hz).1 hr
      generalize fstI S = y at *
      obtain ⟨P1, hP1⟩ : ∃ P1, P1 = P.more 0 (P.K.length : Int) := ⟨_, rfl⟩
      obtain ⟨P2, hP2⟩ : ∃ P2, P2 = P1.more 49 (P.K.length : Int) := ⟨_, rfl⟩
      have w1 : wgt P1 0 ≤ wgt P 0 + 1 := by rw [hP1]; exact wgt_more
      have w2 : wgt P2 0 ≤ wgt P1 0 := by
        rw [hP2]
        unfold wgt
        have e0 : (P1.more 49 (P.K.length : Int)).A.getD 0 [] = P1.A.getD 0 [] := by rw [more_get, if_neg (fun e => by omega)]
        rw [e0]
        have := sumR_le (n := 48) (f := wf (P1.more 49 (P.K.length : Int)) 0) (g := wf P1 0) (fun p hp => by
          have e : (P1.more 49 (P.K.length : Int)).A.getD (1 + p) [] = P1.A.getD (1 + p) [] := by rw [more_get, if_neg (fun e => by omega)]
          unfold wf
          rw [e]
          exact Nat.le_refl _)
        omega
      have w3 := wgt_more (P := P2) (R := 0) (j := 1 + placeN y) (y := (P.K.length : Int))
      have t1 : tot P1 ≤ tot P := by rw [hP1]; exact tot_more0
      have t2 : tot P2 ≤ tot P1 := by
        rw [hP2]
        refine sumR_le (fun p hp => ?_)
        rw [more_get, if_neg (fun e => by omega)]
        exact Nat.le_refl _
      have t3 := tot_more (P := P2) (q := placeN y) (y := (P.K.length : Int)) (by omega)
      have l0 : P1.A.length = 50 := by rw [hP1]; show (P.A.set 0 _).length = 50; rw [List.length_set]; exact h.al
      have la : P2.A.length = 50 := by rw [hP2]; show (P1.A.set 49 _).length = 50; rw [List.length_set]; exact l0
      have m0 : ∀ {j x}, x ∈ P.A.getD j [] → x ∈ P1.A.getD j [] := fun q => by rw [hP1]; exact more_mem q
      have m1 : ∀ {j x}, x ∈ P1.A.getD j [] → x ∈ P2.A.getD j [] := fun q => by rw [hP2]; exact more_mem q
      have n1 : (P.K.length : Int) ∈ P1.A.getD 0 [] := by rw [hP1]; exact more_new (by rw [h.al]; decide)
      have n2 : (P.K.length : Int) ∈ P2.A.getD 49 [] := by rw [hP2]; exact more_new (by rw [l0]; decide)
      have e49 : (P2.more (1 + placeN y) (P.K.length : Int)).A.getD 49 [] = P.A.getD 49 [] ++ [(P.K.length : Int)] := by
        rw [more_get, if_neg (fun e => by omega), hP2, more_get, if_pos ⟨rfl, by rw [l0]; decide⟩, hP1, more_get, if_neg (fun e => by omega)]
      have ho2 : P2.ho = P.ho := by rw [hP2, hP1]; rfl
      have em2 : P2.em = P.em := by rw [hP2, hP1]; rfl
      have tk2 : P2.tk = P.tk := by rw [hP2, hP1]; rfl
      rw [← hP1, ← hP2]
      refine ⟨h.grow (k := (S, y, y)) h0 hS hN (tk2.trans h0) rfl rfl (by show (P2.A.set _ _).length = 50; rw [List.length_set]; exact la) (fun j x q => more_mem (P := P2) (m1 (m0 q))) (fun j x q => ?_) ?_ ?_ (fun _ _ => ?_) (fun _ => one) ?_ ?_ (fun q => em2.trans q) (fun q => absurd q hz) (fun q => .inl (em2.symm.trans q)) (fun _ => ?_) (fun _ => one) (fun _ => .inl ⟨?_, fun b hb => one b _ hb fs.2⟩), tk2.trans h0, ?_⟩
      · rcases more_of (P := P2) q with z | z
        · rw [hP2] at z
          rcases more_of z with z | z
          · rw [hP1] at z
            rcases more_of z with z | z
            · exact .inl z
            · exact .inr ⟨by rw [z.2, hlen], hz⟩
          · exact .inr ⟨by rw [z.2, hlen], hz⟩
        · exact .inr ⟨by rw [z.2, hlen], hz⟩
      · show wgt (P2.more (1 + placeN y) (P.K.length : Int)) 0 ≤ _
        omega
      · show tot (P2.more (1 + placeN y) (P.K.length : Int)) ≤ _
        omega
      · show (Ss.length : Int) ∈ (P2.more (1 + placeN y) (P.K.length : Int)).A.getD 49 []
        rw [e49, hlen]
        simp
      · show ((P2.more (1 + placeN y) (P.K.length : Int)).A.getD 49 []).length ≤ _
        rw [e49]
        simp
      · show P2.ho = true ↔ _
        rw [ho2]
        exact ⟨fun q => .inl q, fun q => q.resolve_right hz⟩
      · have := more_new (P := P2) (j := 1 + placeN y) (y := (P.K.length : Int)) (by rw [la]; omega)
        rw [hlen] at this
        rw [hlen]
        exact ⟨fs.1, fs.1, fs.2, fs.2, this, this⟩
      · have := more_mem (P := P2) (j := 1 + placeN y) (y := (P.K.length : Int)) (m1 n1)
        rw [hlen] at this
        rw [hlen]
        exact this
      · rw [l1]
        show wgt (P2.more (1 + placeN y) (P.K.length : Int)) 0 ≤ _
        omega
    · rw [if_neg hr]
      have fz := fst_spec (Nat.pos_of_ne_zero hr) (woN_lt hS)
      have fzb := fz.2
      rw [woN_bit _ _ _ hS fs.1, Bool.and_eq_true, Bool.not_eq_true', decide_eq_false_iff_not] at fzb
      have hzl := placeN_le fz.1
      generalize fstI (woN S (fstI S)) = z at *
      generalize fstI S = y at *
      have w1 := wgt_more (P := P) (R := 0) (j := 1 + placeN z) (y := (P.K.length : Int))
      have w2 := wgt_more (P := P.more (1 + placeN z) (P.K.length : Int)) (R := 0) (j := 1 + placeN y) (y := (P.K.length : Int))
      have la : (P.more (1 + placeN z) (P.K.length : Int)).A.length = 50 := by show (P.A.set _ _).length = 50; rw [List.length_set]; exact h.al
      have t1 := tot_more (P := P) (q := placeN z) (y := (P.K.length : Int)) (by omega)
      have t2 := tot_more (P := P.more (1 + placeN z) (P.K.length : Int)) (q := placeN y) (y := (P.K.length : Int)) (by omega)
      have e49 : ((P.more (1 + placeN z) (P.K.length : Int)).more (1 + placeN y) (P.K.length : Int)).A.getD 49 [] = P.A.getD 49 [] := by
        rw [more_get, if_neg (fun e => by omega), more_get, if_neg (fun e => by omega)]
      have no49 : (Ss.length : Int) ∉ P.A.getD 49 [] := fun q => by
        obtain ⟨k', e1, e2, e3⟩ := h.idx 49 _ q
        omega
      have hyz : y ≠ z := fun e => fzb.2 (by rw [e])
      refine ⟨h.grow (k := (S, y, z)) h0 hS hN h0 rfl rfl (by show ((P.more (1 + placeN z) (P.K.length : Int)).A.set _ _).length = 50; rw [List.length_set]; exact la) (fun j x q => more_mem (P := P.more (1 + placeN z) (P.K.length : Int)) (more_mem q)) (fun j x q => ?_) ?_ ?_ (fun _ e => absurd e hyz) (fun q => absurd (show (Ss.length : Int) ∈ P.A.getD 49 [] by rw [← e49]; exact q) no49) ?_ ⟨fun q => .inl q, fun q => q.resolve_right hz⟩ (fun q => q) (fun q => absurd q hz) (fun q => .inl q) (fun _ => ?_) (fun q => ?_) (fun _ => .inr (fun e => fzb.2 (by show placeN y = placeN z; rw [show y = z from e]))), h0, ?_⟩
      · rcases more_of (P := P.more (1 + placeN z) (P.K.length : Int)) q with q | q
        · rcases more_of q with q | q
          · exact .inl q
          · exact .inr ⟨by rw [q.2, hlen], hz⟩
        · exact .inr ⟨by rw [q.2, hlen], hz⟩
      · show wgt ((P.more (1 + placeN z) (P.K.length : Int)).more (1 + placeN y) (P.K.length : Int)) 0 ≤ _
        omega
      · show tot ((P.more (1 + placeN z) (P.K.length : Int)).more (1 + placeN y) (P.K.length : Int)) ≤ _
        omega
      · show (((P.more (1 + placeN z) (P.K.length : Int)).more (1 + placeN y) (P.K.length : Int)).A.getD 49 []).length ≤ _
        rw [e49]
        exact Nat.le_add_right _ _
      · have m1 := more_new (P := P.more (1 + placeN z) (P.K.length : Int)) (j := 1 + placeN y) (y := (P.K.length : Int)) (by rw [la]; omega)
        have m2 := more_mem (P := P.more (1 + placeN z) (P.K.length : Int)) (j := 1 + placeN y) (y := (P.K.length : Int)) (more_new (P := P) (j := 1 + placeN z) (y := (P.K.length : Int)) (by rw [h.al]; omega))
        rw [hlen] at m1 m2
        rw [hlen]
        exact ⟨fs.1, fz.1, fs.2, fzb.1, m1, m2⟩
      · exfalso
        rcases more_of (P := P.more (1 + placeN z) (P.K.length : Int)) q with q | q
        · rcases more_of q with q | q
          · obtain ⟨k', e1, e2, e3⟩ := h.idx 0 _ q
            omega
          · omega
        · omega
      · rw [l1]
        show wgt ((P.more (1 + placeN z) (P.K.length : Int)).more (1 + placeN y) (P.K.length : Int)) 0 ≤ _
        omega
/-- a watcher of no clauses -/
def WS.zero (v : Value) : WS := ⟨v, [], List.replicate 50 nil_, 0, false, false⟩
theorem zero_cells (v : Value) : (WS.zero v).cells.toArray = #[v, .slice none 0 0, .slice none 0 0, .slice none 0 0, .slice none 0 0, .slice none 0 0, .slice none 0 0, .slice none 0 0, .slice none 0 0, .slice none 0 0, .slice none 0 0, .slice none 0 0, .slice none 0 0, .slice none 0 0, .slice none 0 0, .slice none 0 0, .slice none 0 0, .slice none 0 0, .slice none 0 0, .slice none 0 0, .slice none 0 0, .slice none 0 0, .slice none 0 0, .slice none 0 0, .slice none 0 0, .slice none 0 0, .slice none 0 0, .slice none 0 0, .slice none 0 0, .slice none 0 0, .slice none 0 0, .slice none 0 0, .slice none 0 0, .slice none 0 0, .slice none 0 0, .slice none 0 0, .slice none 0 0, .slice none 0 0, .slice none 0 0, .slice none 0 0, .slice none 0 0, .slice none 0 0, .slice none 0 0, .slice none 0 0, .slice none 0 0, .slice none 0 0, .slice none 0 0, .slice none 0 0, .slice none 0 0, .int .u64 0, .slice none 0 0, .bool false, .slice none 0 0, .bool false] := by rfl
theorem Wat.zero {w w1 : World} {v : Value} (ho : w1.ownsRow w.heap.size 160 3 v 0 []) : Wat (w1.alloc (.cells (WS.zero v).cells.toArray 130)) w1.heap.size (WS.zero v) := by
  refine ⟨new_block _ _, by simp [WS.zero], ?_, fun p hp => ?_, ?_⟩
  · exact (css.own_mono ho (Nat.zero_le _)).alloc _
  · have : p = nil_ := List.eq_of_mem_replicate hp
    subst this
    exact World.ownsRow_nil _ _ _ _
  · show (List.replicate 50 nil_).Pairwise css.Apart
    rw [List.pairwise_replicate]
    right
    intro g e
    cases e
theorem rep_get (j : Nat) : ((List.replicate 50 nil_).map (·.2)).getD j [] = ([] : List Int) := by
  rw [List.map_replicate, List.getD, List.getElem?_replicate]
  split <;> rfl
theorem wgt_zero (v : Value) : wgt (WS.zero v).ps 0 = 0 := by
  have g0 : ∀ j, (WS.zero v).ps.A.getD j [] = [] := rep_get
  unfold wgt
  rw [g0]
  have : ∀ n, sumR n (wf (WS.zero v).ps 0) = 0 := by
    intro n
    induction n with
    | zero => rfl
    | succ n ih =>
      show sumR n _ + wf _ _ n = 0
      rw [ih]
      unfold wf
      rw [g0]
      split <;> rfl
  rw [this]
  rfl
theorem tot_zero (v : Value) : tot (WS.zero v).ps = 0 := by
  have g0 : ∀ j, (WS.zero v).ps.A.getD j [] = [] := rep_get
  have : ∀ n, sumR n (fun p => ((WS.zero v).ps.A.getD (1 + p) []).length) = 0 := by
    intro n
    induction n with
    | zero => rfl
    | succ n ih =>
      show sumR n _ + ((WS.zero v).ps.A.getD (1 + n) []).length = 0
      rw [ih, g0]
      rfl
  exact this 48
theorem Jn.zero (v : Value) : Jn [] (WS.zero v).ps 0 0 [] [] := by
  have g0 : ∀ j, (WS.zero v).ps.A.getD j [] = [] := rep_get
  have w0 := wgt_zero v
  refine ⟨rfl, fun i hi => (by cases hi), fun i hi => (by cases hi), (by show (0 : Nat) < _; decide), (by decide), (by show ((List.replicate 50 nil_).map (·.2)).length = 50; simp), fun b hb => (by rw [Nat.zero_testBit] at hb; cases hb), fun i hi => (by cases hi), fun j x hx => (by rw [g0] at hx; cases hx), fun x hx => (by cases hx), fun q => absurd rfl q, fun q => absurd rfl q, (by rw [w0]; decide), (by decide), (by rw [tot_zero]; decide), Nat.zero_le _, fun i hi => (by cases hi), fun k hk => (by rw [g0] at hk; cases hk), (by rw [g0]; exact Nat.zero_le _), ⟨fun q => (by cases q), fun ⟨i, hi, _⟩ => (by cases hi)⟩, fun k hk => (by rw [g0] at hk; cases hk), fun q => (by cases q), fun i hi => (by cases hi), fun i hi => (by cases hi)⟩
/-- a watcher of some clauses that has taken nothing -/
structure Wof (Ss : List Nat) (wB w : World) (c : Nat) (s : WS) : Prop where
  wat : Wat w c s
  g : wB.grownBy w none
  far : Far wB.heap.size c s
  jn : Jn Ss s.ps 0 0 [] []
  tk : s.tk = 0
  bd : wgt s.ps 0 ≤ 3 * Ss.length

set_option maxRecDepth 100000 in
set_option maxHeartbeats 8000000 in
theorem watcherOf (v : Value) (LL : List (List Int)) (w : World) (hT : Tab w) (hn : css.tot LL ≤ 1048576) (hv : Sls w v LL) :
    Calls Tryd.prog 124 #[v] w fun e w' => ∃ c s, e = .returned (.pointer (some ⟨c, 0, none⟩)) ∧ Wof (LL.map setOf) w w' c s := by
  have hl := Nat.le_trans (css.tot_len LL) hn
  obtain ⟨i0, hi, hz0, hz1, hz2⟩ := info_parts infoK
  have HV := hide hv
  obtain ⟨a, cap, rfl, ha⟩ := hv
  have HA := hide ha
  have HT := hide hT
  clear ha hT
  go_enter Tryd.func124, Tryd.ntmps124
  go_wp2_with (first | (at_make; refine wpList_make_own _ rfl _ _ 127 rfl w.heap.size 160 i0 _ 3 Tryd.underlying127 hi hz0 hz1 _ _ _ LL.length rfl rfl (by rfl) ?b1 ?b2 ?b3 ?_) | go_in)
  case b1 => rw [hz2]; omega
  case b2 => unfold maxLen; omega
  case b3 => exact Nat.le_refl _
  intro w1 hown hgrow
  have hz := Wat.zero hown
  have st : Hid (Wof [] w (w1.alloc (.cells (WS.zero (.slice (some ⟨w.heap.size, 0, none⟩) 0 LL.length)).cells.toArray 130)) w1.heap.size (WS.zero (.slice (some ⟨w.heap.size, 0, none⟩) 0 LL.length))) := by
    refine ⟨hz, grown_trans hgrow (World.grownBy_alloc _ _ _), fun k f => ?_, Jn.zero _, rfl, ?_⟩
    · rcases f with f | f | ⟨p, hp, f⟩
      · rw [f]
        exact hgrow.size
      · have : (Value.slice (some ⟨w.heap.size, 0, none⟩) 0 LL.length).ownBlock = some k := f
        have e : w.heap.size = k := by simpa [Value.ownBlock] using this
        omega
      · have : p = nil_ := List.eq_of_mem_replicate hp
        subst this
        cases f
    · have := (Jn.zero (.slice (some ⟨w.heap.size, 0, none⟩) 0 LL.length)).bd
      have z : wgt (WS.zero (.slice (some ⟨w.heap.size, 0, none⟩) 0 LL.length)).ps 0 = 0 := wgt_zero _
      rw [z]
      exact Nat.zero_le _
  rw [zero_cells] at st
  clear hz hown hgrow
  go_wp2_with fail
  go_loopw [13] (fun iv wr => ∃ (k : Nat) (s : WS), k ≤ LL.length ∧ iv = .int .i64 (k : Int) ∧ Hid (Wof ((LL.take k).map setOf) w wr w1.heap.size s)) (fun iv _ => LL.length - (intOf iv).toNat)
  case atStart => exact ⟨0, _, Nat.zero_le _, rfl, st⟩
  case round =>
    obtain ⟨k, s, hk, rfl, hw⟩ := hrel
    clear st
    by_cases hlt : k < LL.length
    · rcases unhide HA with h | ⟨b, off, rfl, hb, hcb⟩
      · rw [h] at hlt
        simp at hlt
      · obtain ⟨u, hu, hs⟩ := hcb k hlt
        have hg := (unhide hw).g
        have c1 : wr.cell? ⟨b, off + k, none⟩ = some u := hg.cell hu (fun e => by cases e)
        have hi' : (k : Int) < (LL.length : Int) := by omega
        have hL := Nat.le_trans (css.tot_in LL k) hn
        have hts := css.take_snoc LL k hlt
        have hlk : ((LL.take k).map setOf).length = k := by rw [List.length_map, List.length_take]; omega
        generalize LL.getD k [] = L at *
        have CL := hide (bset.litsOf u L wr hL (hs.kept hg (.inl rfl)))
        have EM : (LL.take (k + 1)).map setOf = (LL.take k).map setOf ++ [setOf L] := by rw [hts]; simp
        have ww := unhide hw
        have tf : TabF w1.heap.size s wr := ⟨(unhide HT).kept ww.g, fun f => by have := ww.far _ f; have := tab_lt (unhide HT); omega⟩
        have bds : ∀ j, (s.A.getD j nil_).2.length ≤ 4194000 := by
          intro j
          have hbd := ww.bd
          rw [hlk] at hbd
          rw [← ps_getD]
          by_cases j0 : j = 0
          · subst j0
            unfold wgt at hbd
            omega
          · by_cases j48 : j ≤ 48
            · have := wgt_at (P := s.ps) (R := 0) (q := j - 1) (by omega) (by rw [show s.ps.tk = 0 from ww.tk, Nat.zero_testBit]; rfl)
              rw [show 1 + (j - 1) = j by omega] at this
              omega
            · by_cases j49 : j = 49
              · subst j49
                have := ww.jn.sn
                rw [hlk] at this
                omega
              · rw [List.getD, List.getElem?_eq_none (by rw [ww.jn.al]; omega)]
                exact Nat.zero_le _
        have CA := hide (add (S := setOf L) ww.wat tf (setOf_lt L) (by rw [show s.K.length = _ from ww.jn.len, hlk]; omega) bds)
        have NX : Hid (∀ s' w', Wat w' w1.heap.size s' → Stp w1.heap.size s s' wr w' → s'.ps = s.ps.add (setOf L) → Wof ((LL.take (k + 1)).map setOf) w w' w1.heap.size s') := by
          intro s' w' q1 q2 q3
          have ja := ww.jn.add (S := setOf L) ww.tk (setOf_lt L) ww.bd (by rw [hlk]; omega)
          rw [EM]
          refine ⟨q1, grown_stp ww.g ww.far q2, ww.far.stp q2 ww.g.size, by rw [q3]; exact ja.1, ?_, by rw [q3]; exact ja.2.2⟩
          have : s'.ps.tk = 0 := by rw [q3]; exact ja.2.1
          exact this
        clear hcb hs hu hg hts ww tf bds hw EM
        go_wp2_with fail
        refine (unhide CL).mono ?_; rintro e w2 ⟨rfl, hww⟩; have hw' := hww.symm; clear hww; subst hw'
        go_wp2_with fail
        refine (unhide CA).mono ?_; rintro e w2 ⟨s2, rfl, q1, q2, q3⟩
        have R2 := hide (unhide NX s2 w2 q1 q2 q3)
        clear CL CA NX q1 q2 q3
        go_wp2_with fail
        go_roundw
        case rel => exact ⟨k + 1, s2, by omega, by go_num, R2⟩
        case measure => simp [intOf]; omega
    · have hi' : ¬ (k : Int) < (LL.length : Int) := by omega
      have e : LL.take k = LL := List.take_of_length_le (by omega)
      rw [e] at hw
      clear HA e
      go_wp2_with fail
      go_ret
      first
        | exact ⟨_, s, rfl, unhide hw⟩
        | exact ⟨_, rfl, s, unhide hw⟩
        | exact ⟨rfl, s, unhide hw⟩
end Go.Proofs.YtloenjaonkdlaaaDoor.wm
