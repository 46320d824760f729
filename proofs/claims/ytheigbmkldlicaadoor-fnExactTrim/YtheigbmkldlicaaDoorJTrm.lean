/- What watcherOf makes of clauses: a watcher that has taken nothing; no condition but on the sizes. What the program's Unit and Force answer at every formula that holds at most 2^20 values and every list of at most 2^20 numbers, where the library's table of places lies as its text lays it. The watcher's forget: nothing is taken any more, and what waits is what waits with nothing taken; no condition but on sizes. The checker's fails: whether forcing fails from some literals on, and what it leaves free; it has forgotten it then. No condition but on sizes. The program's checkerOf: a watcher and a number of variables in one struct, with more clauses behind those of the formula; no condition but on sizes. The checker's firstBad: the number of the first clause that is none of the formula's variables or does not follow at once; no condition but on sizes. What Leaves (of the program and of its model) answers at every formula that holds at most 2^20 values and every list of at most 2^20 numbers, where the library's table of places lies as its text lays it. Plain mathematics of the walk that refutes a formula, and of clauses that follow at once; no condition. What the model's l06Bad and FirstBad answer; no condition but on the sizes. What FirstBad and Check (of the program and of its model) answer; no condition but on the sizes and that the library's table of places lies as its text lays it. Plain mathematics of trimming a proof; no condition. What the model's Trim answers; no condition but on the sizes. What Trim of the program answers, and that it is what its model answers; no condition but on the sizes and that the library's table of places lies as its text lays it. -/
import Derived.Test.YtheigbmkldlicaaDoorWa
import Derived.Test.YtheigbmkldlicaaDoorCk
import Derived.Defers
import Derived.Test.YtheigbmkldlicaaDoorVt
import Derived.BigQuiet
import Derived.Test.YtheigbmkldlicaaDoorSu
import Derived.Deep.MidRow
import Derived.Deep.RegionHeld3
import Derived.Laws.Tables
import Derived.Test.YtheigbmkldlicaaDoorSt
import Derived.Test.YtheigbmkldlicaaDoorOg
import Derived.Test.YtheigbmkldlicaaDoorXw
import Derived.Test.YtheigbmkldlicaaDoorJn
import Derived.Test.YtheigbmkldlicaaDoorNs
import Derived.Test.YtheigbmkldlicaaDoorCz
namespace Go.Proofs.YtheigbmkldlicaaDoor.wm
open Go.ChangeShapes Go.WideShapes Go.ChangeAt Go.RowKit
open Go.Proofs.YtheigbmkldlicaaDoor.wm0 (end0 ret0 stepW listW listB)
open Go.Proofs.YtheigbmkldlicaaDoor.lits (okB okB_iff)
open Go.Proofs.YtheigbmkldlicaaDoor.bset (placeN placeN_le placeC placeN_inj setOf setOf_lt)
open Go.Proofs.YtheigbmkldlicaaDoor.srt (Tab woN woN_lt woN_bit fstI swp)
open Go.Proofs.YtheigbmkldlicaaDoor.css (Sls)
open Go.Proofs.YtheigbmkldlicaaDoor.sl (Sl Own ints hide unhide ret_int ret_bool grown_refl grown_trans grown_drewN)
set_option linter.unusedVariables false

theorem opn0 {S : Nat} (hS : S < 2 ^ 48) (b : Nat) : (opn S 0).testBit b = S.testBit b := by
  rw [opn_bit _ _ _ hS, Nat.zero_testBit]
  simp
theorem clsd0 (S : Nat) : clsd S 0 = false := by
  unfold clsd
  rw [Nat.and_zero]
  rfl
theorem opn00 {S : Nat} (hS : S < 2 ^ 48) : opn S 0 = S := Nat.eq_of_testBit_eq fun b => opn0 hS b
theorem K_snoc_old {K : List (Nat × Int × Int)} {k : Nat × Int × Int} {j : Nat} (h : j < K.length) : (K ++ [k]).getD j zk = K.getD j zk := by
  rw [List.getD, List.getD, List.getElem?_append_left h]
theorem K_snoc_new {K : List (Nat × Int × Int)} {k : Nat × Int × Int} : (K ++ [k]).getD K.length zk = k := by
  rw [List.getD, List.getElem?_append_right (Nat.le_refl _)]
  simp
theorem S_snoc_old {Ss : List Nat} {S j : Nat} (h : j < Ss.length) : (Ss ++ [S]).getD j 0 = Ss.getD j 0 := by
  rw [List.getD, List.getD, List.getElem?_append_left h]
theorem S_snoc_new {Ss : List Nat} {S : Nat} : (Ss ++ [S]).getD Ss.length 0 = S := by
  rw [List.getD, List.getElem?_append_right (Nat.le_refl _)]
  simp
/-- a watcher that has taken nothing: one clause more -/
theorem Jn.grow {Ss : List Nat} {P P' : PS} {S : Nat} {k : Nat × Int × Int} (h : Jn Ss P 0 0 [] []) (h0 : P.tk = 0) (hS : S < 2 ^ 48) (hN : Ss.length < 1048576) (htk : P'.tk = 0) (hK : P'.K = P.K ++ [k]) (hk : k.1 = S) (hal : P'.A.length = 50)
    (hA : ∀ j x, x ∈ P.A.getD j [] → x ∈ P'.A.getD j []) (hidx : ∀ j x, x ∈ P'.A.getD j [] → x ∈ P.A.getD j [] ∨ (x = (Ss.length : Int) ∧ S ≠ 0)) (hbd : wgt P' 0 ≤ 4194304) (htt : tot P' ≤ tot P + 2) (h49 : S ≠ 0 → k.2.1 = k.2.2 → (Ss.length : Int) ∈ P'.A.getD 49 []) (h49o : (Ss.length : Int) ∈ P'.A.getD 49 [] → ∀ a b, S.testBit a = true → S.testBit b = true → a = b) (h49n : (P'.A.getD 49 []).length ≤ (P.A.getD 49 []).length + 1) (hho : P'.ho = true ↔ P.ho = true ∨ S = 0) (hem : P.em = true → P'.em = true)
    (hez : S = 0 → P'.em = true) (hes : P'.em = true → P.em = true ∨ S = 0)
    (hwat : S ≠ 0 → okB k.2.1 = true ∧ okB k.2.2 = true ∧ S.testBit (placeN k.2.1) = true ∧ S.testBit (placeN k.2.2) = true ∧ (Ss.length : Int) ∈ P'.A.getD (1 + placeN k.2.1) [] ∧ (Ss.length : Int) ∈ P'.A.getD (1 + placeN k.2.2) [])
    (hwt : (Ss.length : Int) ∈ P'.A.getD 0 [] → ∀ a b, S.testBit a = true → S.testBit b = true → a = b)
    (hst : S ≠ 0 → ((Ss.length : Int) ∈ P'.A.getD 0 [] ∧ ∀ b, S.testBit b = true → b = placeN k.2.1) ∨ k.2.1 ≠ k.2.2) : Jn (Ss ++ [S]) P' 0 0 [] [] := by
  have hlen : P.K.length = Ss.length := h.len
  have cs : ∀ {i}, i < (Ss ++ [S]).length → i < Ss.length ∨ i = Ss.length := fun {i} hi => by rw [List.length_append] at hi; simp at hi; omega
  have ko : ∀ i, i < Ss.length → P'.K.getD i zk = P.K.getD i zk := fun i hi => by rw [hK]; exact K_snoc_old (by omega)
  have kn : P'.K.getD Ss.length zk = k := by rw [hK, ← hlen]; exact K_snoc_new
  refine ⟨(by rw [hK]; simp [hlen]), fun i hi => ?_, fun i hi => ?_, (by rw [htk]; decide), (by decide), hal, fun b hb => (by rw [Nat.zero_testBit] at hb; cases hb), fun i hi hSi => ?_, fun j x hx => ?_, fun x hx => (by cases hx), fun q => absurd rfl q, fun q => absurd rfl q, (by simpa using hbd), (by simp; omega), ?_, Nat.zero_le _, fun i hi hSi => ?_, fun q hq => ?_, ?_, ?_, fun q hq _ => ?_, fun he => ?_, fun i hi hz => ?_, fun i hi hSi _ => ?_⟩
  · rcases cs hi with q | q
    · rw [ko i q, S_snoc_old q]
      exact h.sets i q
    · subst q
      rw [kn, S_snoc_new]
      exact hk
  · rcases cs hi with q | q
    · rw [S_snoc_old q]
      exact h.wd i q
    · subst q
      rw [S_snoc_new]
      exact hS
  · rcases cs hi with q | q
    · rw [S_snoc_old q] at hSi ⊢
      rw [ko i q]
      have := h.wat i q hSi
      exact ⟨this.1, this.2.1, this.2.2.1, this.2.2.2.1, hA _ _ this.2.2.2.2.1, hA _ _ this.2.2.2.2.2⟩
    · subst q
      rw [S_snoc_new] at hSi ⊢
      rw [kn]
      exact hwat hSi
  · rcases hidx j x hx with q | ⟨q1, q2⟩
    · obtain ⟨k', e1, e2, e3⟩ := h.idx j x q
      exact ⟨k', e1, by rw [List.length_append]; omega, by rw [S_snoc_old e2]; exact e3⟩
    · exact ⟨Ss.length, q1, by simp, by rw [S_snoc_new]; exact q2⟩
  · have := h.tt
    rw [List.length_append, List.length_singleton]
    omega
  · rcases cs hi with q | q
    · rw [S_snoc_old q] at hSi
      rw [ko i q]
      exact fun e => hA _ _ (h.sg i q hSi e)
    · subst q
      rw [S_snoc_new] at hSi
      rw [kn]
      exact h49 hSi
  · rcases hidx 49 _ hq with z | ⟨z1, z2⟩
    · obtain ⟨k', e1, e2, e3⟩ := h.idx 49 _ z
      have : k' = q := by omega
      subst this
      rw [S_snoc_old e2]
      exact h.so k' z
    · have : q = Ss.length := by omega
      subst this
      rw [S_snoc_new]
      exact h49o hq
  · have := h.sn
    rw [List.length_append, List.length_singleton]
    omega
  · rw [hho, h.hz]
    constructor
    · rintro (⟨i, hi, e⟩ | e)
      · exact ⟨i, by rw [List.length_append]; omega, by rw [S_snoc_old hi]; exact e⟩
      · exact ⟨Ss.length, by simp, by rw [S_snoc_new]; exact e⟩
    · rintro ⟨i, hi, e⟩
      rcases cs hi with q | q
      · rw [S_snoc_old q] at e
        exact .inl ⟨i, q, e⟩
      · subst q
        rw [S_snoc_new] at e
        exact .inr e
  · rw [htk]
    rcases hidx 0 _ hq with z | ⟨z1, z2⟩
    · obtain ⟨k', e1, e2, e3⟩ := h.idx 0 _ z
      have : k' = q := by omega
      subst this
      rw [S_snoc_old e2]
      have := h.wt k' z (by rw [h0]; exact clsd0 _)
      rw [h0] at this
      exact this
    · have : q = Ss.length := by omega
      subst this
      rw [S_snoc_new, opn00 hS]
      exact hwt hq
  · rw [htk]
    rcases hes he with z | z
    · obtain ⟨i, hi, hc, ho⟩ := h.es z
      rw [h0] at hc ho
      exact ⟨i, by rw [List.length_append]; omega, by rw [S_snoc_old hi]; exact hc, by rw [S_snoc_old hi]; exact ho⟩
    · exact ⟨Ss.length, by simp, clsd0 _, by rw [S_snoc_new, opn00 hS]; exact z⟩
  · rcases cs hi with q | q
    · rw [S_snoc_old q] at hz
      exact hem (h.ez i q hz)
    · subst q
      rw [S_snoc_new] at hz
      exact hez hz
  · have nl : ∀ p, ¬ lost P' p := fun p z => by
      have : P'.tk.testBit (placeN (-p)) = true := z
      rw [htk, Nat.zero_testBit] at this
      cases this
    rcases cs hi with q | q
    · rw [S_snoc_old q] at hSi ⊢
      rw [ko i q]
      rcases h.st i q hSi (by rw [h0]; exact clsd0 _) with ⟨a1, y, a2, a3, a4⟩ | ⟨b1, b2⟩ | ⟨c1, c2, c3⟩ | ⟨d1, d2, d3⟩
      · rw [h0] at a3 a4
        exact .inl ⟨hA _ _ a1, y, a2, by rw [htk]; exact a3, by rw [htk]; exact a4⟩
      · rw [h0] at b2
        exact .inr (.inl ⟨hem b1, by rw [htk]; exact b2⟩)
      · exact .inr (.inr (.inl ⟨c1, fun z => absurd z (nl _), fun z => absurd z (nl _)⟩))
      · exfalso
        have nl0 : ∀ p, ¬ lost P p := fun p z => by
          have : P.tk.testBit (placeN (-p)) = true := z
          rw [h0, Nat.zero_testBit] at this
          cases this
        rcases d3 with z | z
        · exact nl0 _ z.1
        · exact nl0 _ z.1
    · subst q
      rw [S_snoc_new] at hSi ⊢
      rw [kn]
      rcases hst hSi with ⟨z1, z2⟩ | z
      · refine .inl ⟨z1, k.2.1, .inl rfl, ?_, fun b hb => ?_⟩
        · rw [htk, opn00 hS]
          exact (hwat hSi).2.2.1
        · rw [htk, opn00 hS] at hb
          exact z2 b hb
      · exact .inr (.inr (.inl ⟨z, fun z => absurd z (nl _), fun z => absurd z (nl _)⟩))
theorem wgt_same {P : PS} {K : List (Nat × Int × Int)} {R : Nat} : wgt { P with K := K } R = wgt P R := rfl
theorem Jn.add {Ss : List Nat} {P : PS} {S : Nat} (h : Jn Ss P 0 0 [] []) (h0 : P.tk = 0) (hS : S < 2 ^ 48) (hb : wgt P 0 ≤ 3 * Ss.length) (hN : Ss.length < 1048576) : Jn (Ss ++ [S]) (P.add S) 0 0 [] [] ∧ (P.add S).tk = 0 ∧ wgt (P.add S) 0 ≤ 3 * (Ss ++ [S]).length := by
  have hlen : P.K.length = Ss.length := h.len
  have l1 : (Ss ++ [S]).length = Ss.length + 1 := by simp
  unfold PS.add
  by_cases hz : S = 0
  · rw [if_pos hz]
    have no49 : (Ss.length : Int) ∉ P.A.getD 49 [] := fun q => by
      obtain ⟨k', e1, e2, e3⟩ := h.idx 49 _ q
      omega
    refine ⟨h.grow (k := (0, 0, 0)) h0 hS hN h0 rfl hz.symm h.al (fun _ _ q => q) (fun _ _ q => .inl q) ?_ (Nat.le_add_right _ _) (fun q => absurd hz q) (fun q => absurd q no49) (Nat.le_add_right _ _) ⟨fun _ => .inr hz, fun _ => rfl⟩ (fun _ => rfl) (fun _ => rfl) (fun _ => .inr hz) (fun q => absurd hz q) (fun q => ?_) (fun q => absurd hz q), h0, ?_⟩
    · show wgt P 0 ≤ _
      omega
    · obtain ⟨k', e1, e2, e3⟩ := h.idx 0 _ q
      omega
    · rw [l1]
      show wgt P 0 ≤ _
      omega
  · rw [if_neg hz]
    have hSp : 0 < S := by omega
    have fs := fst_spec hSp hS
    have hfl := placeN_le fs.1
    by_cases hr : woN S (fstI S) = 0
    · rw [if_pos hr]
      have one := (one_iff hS hz).1 hr
      generalize fstI S = y at *
      obtain ⟨P1, hP1⟩ : ∃ P1, P1 = P.more 0 (P.K.length : Int) := ⟨_, rfl⟩
      obtain ⟨P2, hP2⟩ : ∃ P2, P2 = P1.more 49 (P.K.length : Int) := ⟨_, rfl⟩
      have w1 : wgt P1 0 ≤ wgt P 0 + 1 := by rw [hP1]; exact wgt_more
      have w2 : wgt P2 0 ≤ wgt P1 0 := by
        rw [hP2]
        unfold wgt
        have e0 : (P1.more 49 (P.K.length : Int)).A.getD 0 [] = P1.A.getD 0 [] := by rw [more_get, if_neg (fun e => by omega)]
        rw [e0]
        have := sumR_le (n := 48) (f := wf (P1.more 49 (P.K.length : Int)) 0) (g := wf P1 0) (fun p hp => by
          have e : (P1.more 49 (P.K.length : Int)).A.getD (1 + p) [] = P1.A.getD (1 + p) [] := by rw [more_get, if_neg (fun e => by omega)]
          unfold wf
          rw [e]
          exact Nat.le_refl _)
        omega
      have w3 := wgt_more (P := P2) (R := 0) (j := 1 + placeN y) (y := (P.K.length : Int))
      have t1 : tot P1 ≤ tot P := by rw [hP1]; exact tot_more0
      have t2 : tot P2 ≤ tot P1 := by
        rw [hP2]
        refine sumR_le (fun p hp => ?_)
        rw [more_get, if_neg (fun e => by omega)]
        exact Nat.le_refl _
      have t3 := tot_more (P := P2) (q := placeN y) (y := (P.K.length : Int)) (by omega)
      have l0 : P1.A.length = 50 := by rw [hP1]; show (P.A.set 0 _).length = 50; rw [List.length_set]; exact h.al
      have la : P2.A.length = 50 := by rw [hP2]; show (P1.A.set 49 _).length = 50; rw [List.length_set]; exact l0
      have m0 : ∀ {j x}, x ∈ P.A.getD j [] → x ∈ P1.A.getD j [] := fun q => by rw [hP1]; exact more_mem q
      have m1 : ∀ {j x}, x ∈ P1.A.getD j [] → x ∈ P2.A.getD j [] := fun q => by rw [hP2]; exact more_mem q
      have n1 : (P.K.length : Int) ∈ P1.A.getD 0 [] := by rw [hP1]; exact more_new (by rw [h.al]; decide)
      have n2 : (P.K.length : Int) ∈ P2.A.getD 49 [] := by rw [hP2]; exact more_new (by rw [l0]; decide)
      have e49 : (P2.more (1 + placeN y) (P.K.length : Int)).A.getD 49 [] = P.A.getD 49 [] ++ [(P.K.length : Int)] := by
        rw [more_get, if_neg (fun e => by omega), hP2, more_get, if_pos ⟨rfl, by rw [l0]; decide⟩, hP1, more_get, if_neg (fun e => by omega)]
      have ho2 : P2.ho = P.ho := by rw [hP2, hP1]; rfl
      have em2 : P2.em = P.em := by rw [hP2, hP1]; rfl
      have tk2 : P2.tk = P.tk := by rw [hP2, hP1]; rfl
      rw [← hP1, ← hP2]
      refine ⟨h.grow (k := (S, y, y)) h0 hS hN (tk2.trans h0) rfl rfl (by show (P2.A.set _ _).length = 50; rw [List.length_set]; exact la) (fun j x q => more_mem (P := P2) (m1 (m0 q))) (fun j x q => ?_) ?_ ?_ (fun _ _ => ?_) (fun _ => one) ?_ ?_ (fun q => em2.trans q) (fun q => absurd q hz) (fun q => .inl (em2.symm.trans q)) (fun _ => ?_) (fun _ => one) (fun _ => .inl ⟨?_, fun b hb => one b _ hb fs.2⟩), tk2.trans h0, ?_⟩
      · rcases more_of (P := P2) q with z | z
        · rw [hP2] at z
          rcases more_of z with z | z
          · rw [hP1] at z
            rcases more_of z with z | z
            · exact .inl z
            · exact .inr ⟨by rw [z.2, hlen], hz⟩
          · exact .inr ⟨by rw [z.2, hlen], hz⟩
        · exact .inr ⟨by rw [z.2, hlen], hz⟩
      · show wgt (P2.more (1 + placeN y) (P.K.length : Int)) 0 ≤ _
        omega
      · show tot (P2.more (1 + placeN y) (P.K.length : Int)) ≤ _
        omega
      · show (Ss.length : Int) ∈ (P2.more (1 + placeN y) (P.K.length : Int)).A.getD 49 []
        rw [e49, hlen]
        simp
      · show ((P2.more (1 + placeN y) (P.K.length : Int)).A.getD 49 []).length ≤ _
        rw [e49]
        simp
      · show P2.ho = true ↔ _
        rw [ho2]
        exact ⟨fun q => .inl q, fun q => q.resolve_right hz⟩
      · have := more_new (P := P2) (j := 1 + placeN y) (y := (P.K.length : Int)) (by rw [la]; omega)
        rw [hlen] at this
        rw [hlen]
        exact ⟨fs.1, fs.1, fs.2, fs.2, this, this⟩
      · have := more_mem (P := P2) (j := 1 + placeN y) (y := (P.K.length : Int)) (m1 n1)
        rw [hlen] at this
        rw [hlen]
        exact this
      · rw [l1]
        show wgt (P2.more (1 + placeN y) (P.K.length : Int)) 0 ≤ _
        omega
    · rw [if_neg hr]
      have fz := fst_spec (Nat.pos_of_ne_zero hr) (woN_lt hS)
      have fzb := fz.2
      rw [woN_bit _ _ _ hS fs.1, Bool.and_eq_true, Bool.not_eq_true', decide_eq_false_iff_not] at fzb
      have hzl := placeN_le fz.1
      generalize fstI (woN S (fstI S)) = z at *
      generalize fstI S = y at *
      have w1 := wgt_more (P := P) (R := 0) (j := 1 + placeN z) (y := (P.K.length : Int))
      have w2 := wgt_more (P := P.more (1 + placeN z) (P.K.length : Int)) (R := 0) (j := 1 + placeN y) (y := (P.K.length : Int))
      have la : (P.more (1 + placeN z) (P.K.length : Int)).A.length = 50 := by show (P.A.set _ _).length = 50; rw [List.length_set]; exact h.al
      have t1 := tot_more (P := P) (q := placeN z) (y := (P.K.length : Int)) (by omega)
      have t2 := tot_more (P := P.more (1 + placeN z) (P.K.length : Int)) (q := placeN y) (y := (P.K.length : Int)) (by omega)
      have e49 : ((P.more (1 + placeN z) (P.K.length : Int)).more (1 + placeN y) (P.K.length : Int)).A.getD 49 [] = P.A.getD 49 [] := by
        rw [more_get, if_neg (fun e => by omega), more_get, if_neg (fun e => by omega)]
      have no49 : (Ss.length : Int) ∉ P.A.getD 49 [] := fun q => by
        obtain ⟨k', e1, e2, e3⟩ := h.idx 49 _ q
        omega
      have hyz : y ≠ z := fun e => fzb.2 (by rw [e])
      refine ⟨h.grow (k := (S, y, z)) h0 hS hN h0 rfl rfl (by show ((P.more (1 + placeN z) (P.K.length : Int)).A.set _ _).length = 50; rw [List.length_set]; exact la) (fun j x q => more_mem (P := P.more (1 + placeN z) (P.K.length : Int)) (more_mem q)) (fun j x q => ?_) ?_ ?_ (fun _ e => absurd e hyz) (fun q => absurd (show (Ss.length : Int) ∈ P.A.getD 49 [] by rw [← e49]; exact q) no49) ?_ ⟨fun q => .inl q, fun q => q.resolve_right hz⟩ (fun q => q) (fun q => absurd q hz) (fun q => .inl q) (fun _ => ?_) (fun q => ?_) (fun _ => .inr (fun e => fzb.2 (by show placeN y = placeN z; rw [show y = z from e]))), h0, ?_⟩
      · rcases more_of (P := P.more (1 + placeN z) (P.K.length : Int)) q with q | q
        · rcases more_of q with q | q
          · exact .inl q
          · exact .inr ⟨by rw [q.2, hlen], hz⟩
        · exact .inr ⟨by rw [q.2, hlen], hz⟩
      · show wgt ((P.more (1 + placeN z) (P.K.length : Int)).more (1 + placeN y) (P.K.length : Int)) 0 ≤ _
        omega
      · show tot ((P.more (1 + placeN z) (P.K.length : Int)).more (1 + placeN y) (P.K.length : Int)) ≤ _
        omega
      · show (((P.more (1 + placeN z) (P.K.length : Int)).more (1 + placeN y) (P.K.length : Int)).A.getD 49 []).length ≤ _
        rw [e49]
        exact Nat.le_add_right _ _
      · have m1 := more_new (P := P.more (1 + placeN z) (P.K.length : Int)) (j := 1 + placeN y) (y := (P.K.length : Int)) (by rw [la]; omega)
        have m2 := more_mem (P := P.more (1 + placeN z) (P.K.length : Int)) (j := 1 + placeN y) (y := (P.K.length : Int)) (more_new (P := P) (j := 1 + placeN z) (y := (P.K.length : Int)) (by rw [h.al]; omega))
        rw [hlen] at m1 m2
        rw [hlen]
        exact ⟨fs.1, fz.1, fs.2, fzb.1, m1, m2⟩
      · exfalso
        rcases more_of (P := P.more (1 + placeN z) (P.K.length : Int)) q with q | q
        · rcases more_of q with q | q
          · obtain ⟨k', e1, e2, e3⟩ := h.idx 0 _ q
            omega
          · omega
        · omega
      · rw [l1]
        show wgt ((P.more (1 + placeN z) (P.K.length : Int)).more (1 + placeN y) (P.K.length : Int)) 0 ≤ _
        omega
/-- a watcher of no clauses -/
def WS.zero (v : Value) : WS := ⟨v, [], List.replicate 50 nil_, 0, false, false, 106, []⟩
theorem zero_cells (v : Value) : (WS.zero v).cells.toArray = #[v, .slice none 0 0, .slice none 0 0, .slice none 0 0, .slice none 0 0, .slice none 0 0, .slice none 0 0, .slice none 0 0, .slice none 0 0, .slice none 0 0, .slice none 0 0, .slice none 0 0, .slice none 0 0, .slice none 0 0, .slice none 0 0, .slice none 0 0, .slice none 0 0, .slice none 0 0, .slice none 0 0, .slice none 0 0, .slice none 0 0, .slice none 0 0, .slice none 0 0, .slice none 0 0, .slice none 0 0, .slice none 0 0, .slice none 0 0, .slice none 0 0, .slice none 0 0, .slice none 0 0, .slice none 0 0, .slice none 0 0, .slice none 0 0, .slice none 0 0, .slice none 0 0, .slice none 0 0, .slice none 0 0, .slice none 0 0, .slice none 0 0, .slice none 0 0, .slice none 0 0, .slice none 0 0, .slice none 0 0, .slice none 0 0, .slice none 0 0, .slice none 0 0, .slice none 0 0, .slice none 0 0, .slice none 0 0, .int .u64 0, .slice none 0 0, .bool false, .slice none 0 0, .bool false] := by rfl
theorem Wat.zero {w w1 : World} {v : Value} (ho : w1.ownsRow w.heap.size 164 3 v 0 []) : Wat (w1.alloc (.cells (WS.zero v).cells.toArray 106)) w1.heap.size (WS.zero v) := by
  refine ⟨new_block _ _, by simp [WS.zero], ?_, fun p hp => ?_, ?_, types0⟩
  · exact (css.own_mono ho (Nat.zero_le _)).alloc _
  · have : p = nil_ := List.eq_of_mem_replicate hp
    subst this
    exact World.ownsRow_nil _ _ _ _
  · show (List.replicate 50 nil_).Pairwise css.Apart
    rw [List.pairwise_replicate]
    right
    intro g e
    cases e
theorem rep_get (j : Nat) : ((List.replicate 50 nil_).map (·.2)).getD j [] = ([] : List Int) := by
  rw [List.map_replicate, List.getD, List.getElem?_replicate]
  split <;> rfl
theorem wgt_zero (v : Value) : wgt (WS.zero v).ps 0 = 0 := by
  have g0 : ∀ j, (WS.zero v).ps.A.getD j [] = [] := rep_get
  unfold wgt
  rw [g0]
  have : ∀ n, sumR n (wf (WS.zero v).ps 0) = 0 := by
    intro n
    induction n with
    | zero => rfl
    | succ n ih =>
      show sumR n _ + wf _ _ n = 0
      rw [ih]
      unfold wf
      rw [g0]
      split <;> rfl
  rw [this]
  rfl
theorem tot_zero (v : Value) : tot (WS.zero v).ps = 0 := by
  have g0 : ∀ j, (WS.zero v).ps.A.getD j [] = [] := rep_get
  have : ∀ n, sumR n (fun p => ((WS.zero v).ps.A.getD (1 + p) []).length) = 0 := by
    intro n
    induction n with
    | zero => rfl
    | succ n ih =>
      show sumR n _ + ((WS.zero v).ps.A.getD (1 + n) []).length = 0
      rw [ih, g0]
      rfl
  exact this 48
theorem Jn.zero (v : Value) : Jn [] (WS.zero v).ps 0 0 [] [] := by
  have g0 : ∀ j, (WS.zero v).ps.A.getD j [] = [] := rep_get
  have w0 := wgt_zero v
  refine ⟨rfl, fun i hi => (by cases hi), fun i hi => (by cases hi), (by show (0 : Nat) < _; decide), (by decide), (by show ((List.replicate 50 nil_).map (·.2)).length = 50; simp), fun b hb => (by rw [Nat.zero_testBit] at hb; cases hb), fun i hi => (by cases hi), fun j x hx => (by rw [g0] at hx; cases hx), fun x hx => (by cases hx), fun q => absurd rfl q, fun q => absurd rfl q, (by rw [w0]; decide), (by decide), (by rw [tot_zero]; decide), Nat.zero_le _, fun i hi => (by cases hi), fun k hk => (by rw [g0] at hk; cases hk), (by rw [g0]; exact Nat.zero_le _), ⟨fun q => (by cases q), fun ⟨i, hi, _⟩ => (by cases hi)⟩, fun k hk => (by rw [g0] at hk; cases hk), fun q => (by cases q), fun i hi => (by cases hi), fun i hi => (by cases hi)⟩
/-- a watcher of some clauses that has taken nothing -/
structure Wof (Ss : List Nat) (t : TypeId) (x : List Value) (wB w : World) (c : Nat) (s : WS) : Prop where
  wat : Wat w c s
  g : wB.grownBy w none
  far : Far wB.heap.size c s
  jn : Jn Ss s.ps 0 0 [] []
  tk : s.tk = 0
  bd : wgt s.ps 0 ≤ 3 * Ss.length
  tx : s.ty = t ∧ s.ex = x
theorem Wof.tab {Ss : List Nat} {t : TypeId} {x : List Value} {wB w : World} {c : Nat} {s : WS} (h : Wof Ss t x wB w c s) (hT : Tab wB) : TabF c s w :=
  ⟨hT.kept h.g, fun f => by have := h.far _ f; have := tab_lt hT; omega⟩
/-- no list is too long for one number more -/
theorem Wof.bds {Ss : List Nat} {t : TypeId} {x : List Value} {wB w : World} {c : Nat} {s : WS} (h : Wof Ss t x wB w c s) (hN : Ss.length ≤ 1048576) : ∀ j, (s.A.getD j nil_).2.length ≤ 4194000 := by
  intro j
  have hbd := h.bd
  rw [← ps_getD]
  by_cases j0 : j = 0
  · subst j0
    unfold wgt at hbd
    omega
  · by_cases j48 : j ≤ 48
    · have := wgt_at (P := s.ps) (R := 0) (q := j - 1) (by omega) (by rw [show s.ps.tk = 0 from h.tk, Nat.zero_testBit]; rfl)
      rw [show 1 + (j - 1) = j by omega] at this
      omega
    · by_cases j49 : j = 49
      · subst j49
        have := h.jn.sn
        omega
      · rw [List.getD, List.getElem?_eq_none (by rw [h.jn.al]; omega)]
        exact Nat.zero_le _
theorem Wof.more {Ss : List Nat} {t : TypeId} {x : List Value} {wB w w' : World} {c S : Nat} {s s' : WS} (h : Wof Ss t x wB w c s) (hN : Ss.length < 1048576) (hS : S < 2 ^ 48) (q1 : Wat w' c s') (q2 : Stp c s s' w w') (q3 : s'.ps = s.ps.add S) : Wof (Ss ++ [S]) t x wB w' c s' := by
  have ja := h.jn.add (S := S) h.tk hS h.bd hN
  refine ⟨q1, grown_stp h.g h.far q2, h.far.stp q2 h.g.size, by rw [q3]; exact ja.1, ?_, by rw [q3]; exact ja.2.2, q2.same.1.trans h.tx.1, q2.same.2.trans h.tx.2⟩
  have : s'.ps.tk = 0 := by rw [q3]; exact ja.2.1
  exact this
/-- add, of a watcher that has taken nothing -/
theorem Wof.add {Ss : List Nat} {t : TypeId} {x : List Value} {wB w : World} {c S : Nat} {s : WS} (h : Wof Ss t x wB w c s) (hT : Tab wB) (hN : Ss.length < 1048576) (hS : S < 2 ^ 48) :
    Calls Tryd.prog 89 #[.pointer (some ⟨c, 0, none⟩), .int .u64 (S : Int)] w fun e w' => ∃ s', e = .returned (.tuple #[]) ∧ Wof (Ss ++ [S]) t x wB w' c s' := by
  refine (wm.add (S := S) h.wat (h.tab hT) hS (by rw [show s.K.length = _ from h.jn.len]; omega) (h.bds (by omega))).mono ?_
  rintro e w' ⟨s', rfl, q1, q2, q3⟩
  exact ⟨s', rfl, h.more hN hS q1 q2 q3⟩

set_option maxRecDepth 100000 in
set_option maxHeartbeats 8000000 in
theorem watcherOf (v : Value) (LL : List (List Int)) (w : World) (hT : Tab w) (hn : css.tot LL ≤ 1048576) (hv : Sls w v LL) :
    Calls Tryd.prog 88 #[v] w fun e w' => ∃ c s, e = .returned (.pointer (some ⟨c, 0, none⟩)) ∧ Wof (LL.map setOf) 106 [] w w' c s := by
  have hl := Nat.le_trans (css.tot_len LL) hn
  obtain ⟨i0, hi, hz0, hz1, hz2⟩ := info_parts infoK
  have HV := hide hv
  obtain ⟨a, cap, rfl, ha⟩ := hv
  have HA := hide ha
  have HT := hide hT
  clear ha hT
  go_enter Tryd.func88, Tryd.ntmps88
  go_wp2_with (first | (at_make; refine wpList_make_own _ rfl _ _ 103 rfl w.heap.size 164 i0 _ 3 Tryd.underlying103 hi hz0 hz1 _ _ _ LL.length rfl rfl (by rfl) ?b1 ?b2 ?b3 ?_) | go_in)
  case b1 => rw [hz2]; omega
  case b2 => unfold maxLen; omega
  case b3 => exact Nat.le_refl _
  intro w1 hown hgrow
  have hz := Wat.zero hown
  have st : Hid (Wof [] 106 [] w (w1.alloc (.cells (WS.zero (.slice (some ⟨w.heap.size, 0, none⟩) 0 LL.length)).cells.toArray 106)) w1.heap.size (WS.zero (.slice (some ⟨w.heap.size, 0, none⟩) 0 LL.length))) := by
    refine ⟨hz, grown_trans hgrow (World.grownBy_alloc _ _ _), fun k f => ?_, Jn.zero _, rfl, ?_, rfl, rfl⟩
    · rcases f with f | f | ⟨p, hp, f⟩
      · rw [f]
        exact hgrow.size
      · have : (Value.slice (some ⟨w.heap.size, 0, none⟩) 0 LL.length).ownBlock = some k := f
        have e : w.heap.size = k := by simpa [Value.ownBlock] using this
        omega
      · have : p = nil_ := List.eq_of_mem_replicate hp
        subst this
        cases f
    · have := (Jn.zero (.slice (some ⟨w.heap.size, 0, none⟩) 0 LL.length)).bd
      have z : wgt (WS.zero (.slice (some ⟨w.heap.size, 0, none⟩) 0 LL.length)).ps 0 = 0 := wgt_zero _
      rw [z]
      exact Nat.zero_le _
  rw [zero_cells] at st
  clear hz hown hgrow
  go_wp2_with fail
  go_loopw [13] (fun iv wr => ∃ (k : Nat) (s : WS), k ≤ LL.length ∧ iv = .int .i64 (k : Int) ∧ Hid (Wof ((LL.take k).map setOf) 106 [] w wr w1.heap.size s)) (fun iv _ => LL.length - (intOf iv).toNat)
  case atStart => exact ⟨0, _, Nat.zero_le _, rfl, st⟩
  case round =>
    obtain ⟨k, s, hk, rfl, hw⟩ := hrel
    clear st
    by_cases hlt : k < LL.length
    · rcases unhide HA with h | ⟨b, off, rfl, hb, hcb⟩
      · rw [h] at hlt
        simp at hlt
      · obtain ⟨u, hu, hs⟩ := hcb k hlt
        have hg := (unhide hw).g
        have c1 : wr.cell? ⟨b, off + k, none⟩ = some u := hg.cell hu (fun e => by cases e)
        have hi' : (k : Int) < (LL.length : Int) := by omega
        have hL := Nat.le_trans (css.tot_in LL k) hn
        have hts := css.take_snoc LL k hlt
        have hlk : ((LL.take k).map setOf).length = k := by rw [List.length_map, List.length_take]; omega
        generalize LL.getD k [] = L at *
        have CL := hide (bset.litsOf u L wr hL (hs.kept hg (.inl rfl)))
        have EM : (LL.take (k + 1)).map setOf = (LL.take k).map setOf ++ [setOf L] := by rw [hts]; simp
        have ww := unhide hw
        have CA := hide (ww.add (S := setOf L) (unhide HT) (by rw [hlk]; omega) (setOf_lt L))
        rw [← EM] at CA
        clear hcb hs hu hg hts ww hw EM
        go_wp2_with fail
        refine (unhide CL).mono ?_; rintro e w2 ⟨rfl, hww⟩; have hw' := hww.symm; clear hww; subst hw'
        go_wp2_with fail
        refine (unhide CA).mono ?_; rintro e w2 ⟨s2, rfl, r2⟩
        have R2 := hide r2
        clear CL CA r2
        go_wp2_with fail
        go_roundw
        case rel => exact ⟨k + 1, s2, by omega, by go_num, R2⟩
        case measure => simp [intOf]; omega
    · have hi' : ¬ (k : Int) < (LL.length : Int) := by omega
      have e : LL.take k = LL := List.take_of_length_le (by omega)
      rw [e] at hw
      clear HA e
      go_wp2_with fail
      go_ret
      first
        | exact ⟨_, s, rfl, unhide hw⟩
        | exact ⟨_, rfl, s, unhide hw⟩
        | exact ⟨rfl, s, unhide hw⟩
end Go.Proofs.YtheigbmkldlicaaDoor.wm
namespace Go.Proofs.YtheigbmkldlicaaDoor.wm
open Go.ChangeShapes Go.WideShapes Go.ChangeAt Go.RowKit
open Go.Proofs.YtheigbmkldlicaaDoor.wm0 (end0 ret0 stepW listW listB)
open Go.Proofs.YtheigbmkldlicaaDoor.lits (okB okB_iff)
open Go.Proofs.YtheigbmkldlicaaDoor.bset (placeN placeN_le placeC placeN_inj setOf setOf_lt)
open Go.Proofs.YtheigbmkldlicaaDoor.srt (Tab)
open Go.Proofs.YtheigbmkldlicaaDoor.css (Sls)
open Go.Proofs.YtheigbmkldlicaaDoor.cf (Box)
open Go.Proofs.YtheigbmkldlicaaDoor.ok (cnfB litIn)
open Go.Proofs.YtheigbmkldlicaaDoor.wo (Made)
open Go.Proofs.YtheigbmkldlicaaDoor.sl (Sl Own ints hide unhide ret_int ret_bool grown_refl grown_trans grown_drewN)
set_option linter.unusedVariables false

/-- a watcher that has taken T -/
structure Wta (Ss : List Nat) (T : Nat) (wB w : World) (c : Nat) (s : WS) : Prop where
  wat : Wat w c s
  g : wB.grownBy w none
  far : Far wB.heap.size c s
  jn : ∃ l F, Jn Ss s.ps 0 l F []
  tk : s.tk = T
theorem Wta.tab {Ss : List Nat} {T c : Nat} {wB w : World} {s : WS} (h : Wta Ss T wB w c s) (ht : Tab wB) : TabF c s w :=
  ⟨ht.kept h.g, fun f => by have := h.far _ f; have := tab_lt ht; omega⟩
theorem Wta.low {Ss : List Nat} {T c : Nat} {wA wB w : World} {s : WS} (h : Wta Ss T wB w c s) (g : wA.grownBy wB none) : Wta Ss T wA w c s :=
  ⟨h.wat, grown_trans g h.g, fun k f => Nat.le_trans g.size (h.far k f), h.jn, h.tk⟩

theorem foot_lt {w : World} {c k : Nat} {s : WS} (h : Wat w c s) (f : Foot c s k) : k < w.heap.size := by
  rcases f with f | f | ⟨p, hp, f⟩
  · subst f
    exact h.lt
  · exact (h.cl.lt k f).2
  · exact ((h.ls p hp).lt k f).2
theorem Wta.frc {Ss : List Nat} {T c : Nat} {wB w w1 : World} {s : WS} {pv : Value} {p : List Int} (h : Wta Ss T wB w c s) (ht : Tab wB) (m : Made w w1 pv p) : Frc Ss wB c s w1 pv p :=
  ⟨h.wat.kept m.2, ht, h.jn, grown_trans h.g m.2, h.far, css.own_mono m.1 h.g.size, fun q e f => by
    have h1 := (m.1.lt q e).1
    have h2 := foot_lt h.wat f
    omega⟩
end Go.Proofs.YtheigbmkldlicaaDoor.wm
namespace Go.Proofs.YtheigbmkldlicaaDoor.wm
open Go.ChangeShapes Go.WideShapes Go.ChangeAt Go.RowKit
open Go.Proofs.YtheigbmkldlicaaDoor.wm0 (end0 ret0 stepW listW listB)
open Go.Proofs.YtheigbmkldlicaaDoor.lits (okB okB_iff)
open Go.Proofs.YtheigbmkldlicaaDoor.bset (placeN placeN_le placeN_inj setOf setOf_lt)
open Go.Proofs.YtheigbmkldlicaaDoor.srt (Tab)
open Go.Proofs.YtheigbmkldlicaaDoor.sl (Sl Own ints hide unhide ret_int ret_bool grown_refl grown_trans grown_drewN)
set_option linter.unusedVariables false
def PS.forget (P : PS) : PS := { P with tk := 0, A := P.A.set 0 (P.A.getD 49 []), em := P.ho }
theorem Jn.forget {Ss : List Nat} {P : PS} {R : Nat} {l : Int} {F C : List Int} (h : Jn Ss P R l F C) : Jn Ss P.forget 0 0 [] [] ∧ wgt P.forget 0 ≤ 3 * Ss.length := by
  have al := h.al
  have g0 : P.forget.A.getD 0 [] = P.A.getD 49 [] := by
    show (P.A.set 0 _).getD 0 [] = _
    rw [getD_set, if_pos ⟨rfl, by omega⟩]
  have gj : ∀ j, j ≠ 0 → P.forget.A.getD j [] = P.A.getD j [] := fun j hj => by
    show (P.A.set 0 _).getD j [] = _
    rw [getD_set, if_neg (fun q => hj q.1)]
  have ht : tot P.forget = tot P := by
    unfold tot
    congr 1
    funext p
    rw [gj _ (by omega)]
  have hw : wgt P.forget 0 ≤ 3 * Ss.length := by
    unfold wgt
    rw [g0]
    have h1 : sumR 48 (wf P.forget 0) ≤ tot P.forget := sumR_le (fun p hp => by
      unfold wf
      split
      · exact Nat.zero_le _
      · exact Nat.le_refl _)
    have := h.tt
    have := h.sn
    omega
  refine ⟨⟨h.len, h.sets, h.wd, (by show (0 : Nat) < 2 ^ 48; decide), (by decide), (by show (P.A.set 0 _).length = 50; rw [List.length_set]; exact al), fun b hb => (by rw [Nat.zero_testBit] at hb; cases hb), fun i hi h0 => ?_, fun j x hx => ?_, fun x hx => (by cases hx), fun q => absurd rfl q, fun q => absurd rfl q, (by have := h.nl; show _ + 0 ≤ _; omega), h.nl, by rw [ht]; exact h.tt, Nat.zero_le _, fun i hi h0 e => ?_, fun k hk => ?_, ?_, h.hz, fun k hk _ a b ha hb => ?_, fun he => ?_, fun i hi h0 => ?_, fun i hi h0 _ => ?_⟩, hw⟩
  · have := h.wat i hi h0
    rw [gj _ (by omega), gj _ (by omega)]
    exact this
  · by_cases j0 : j = 0
    · subst j0
      rw [g0] at hx
      exact h.idx 49 x hx
    · rw [gj j j0] at hx
      exact h.idx j x hx
  · rw [gj _ (by omega)]
    exact h.sg i hi h0 e
  · rw [gj _ (by omega)] at hk
    exact h.so k hk
  · rw [gj _ (by omega)]
    exact h.sn
  · rw [g0] at hk
    obtain ⟨k', e, hk', _⟩ := h.idx 49 (k : Int) hk
    have : k' = k := by omega
    subst this
    have hS := h.wd k' hk'
    rw [show P.forget.tk = 0 from rfl, opn0 hS] at ha hb
    exact h.so k' hk a b ha hb
  · obtain ⟨i, hi, h0⟩ := h.hz.1 he
    refine ⟨i, hi, clsd0 _, ?_⟩
    rw [h0]
    exact opn00 (by decide)
  · exact h.hz.2 ⟨i, hi, h0⟩
  · have hS := h.wd i hi
    have hw' := h.wat i hi h0
    have no : ∀ p, ¬ lost P.forget p := fun p q => by
      unfold lost at q
      rw [show P.forget.tk = 0 from rfl, Nat.zero_testBit] at q
      cases q
    by_cases e : (P.K.getD i zk).2.1 = (P.K.getD i zk).2.2
    · refine .inl ⟨?_, (P.K.getD i zk).2.1, .inl rfl, ?_, fun b hb => ?_⟩
      · rw [g0]
        exact h.sg i hi h0 e
      · rw [show P.forget.tk = 0 from rfl, opn0 hS]
        exact hw'.2.2.1
      · rw [show P.forget.tk = 0 from rfl, opn0 hS] at hb
        exact h.so i (h.sg i hi h0 e) b _ hb hw'.2.2.1
    · exact .inr (.inr (.inl ⟨e, fun q => absurd q (no _), fun q => absurd q (no _)⟩))
/-- 'append(v, u...)' behind a row that was cut to nothing, in a region that draws its order -/
theorem stepF {ops : Array Oper} {E : Prop} {o : Oper} {a : Act} {K : Act → World → Prop} {Q : Exit → Act → World → Prop} {wr : World} {va u : Value} {C : List Int}
    (hA : wr.ownsRow 0 3 1 va 0 []) (hu : wr.ownsRow 0 3 1 u C.length (ints C)) (hl : C.length ≤ 4194304) (hgd : o.guard = none) (s x : Operand)
    (ho : o.op = .call { callee := .builtin .append, args := #[s, x], argTypes := #[31, 31] }) (hs : a.eval s = va) (hx : a.eval x = u)
    (h : ∀ ad cap w1, w1.ownsRow 0 3 1 (.slice ad C.length cap) C.length (ints C) → wr.grownBy w1 va.ownBlock → ((Value.slice ad C.length cap).ownBlock = va.ownBlock ∨ (Value.slice ad C.length cap).ownBlock = some wr.heap.size) → K (a.put o.dst (.slice ad C.length cap)) w1) :
    if Region.wanted o (yielded ops a.tmps) = true then Oper.wp Tryd.prog o a wr K Q else E := by
  rw [if_pos (by simp [Region.wanted, hgd])]
  obtain ⟨i0, hi, hz0, hz1, hz2⟩ := info_parts sl.info3
  have hu' := hu
  rcases hu'.2 with ⟨e, h0⟩ | ⟨g, cap, cur, e, hgb, hh, hn, hm, hsc, ht⟩
  · have eC : C = [] := List.eq_nil_of_length_eq_zero h0
    subst eC
    obtain ⟨ad, cp, ev⟩ : ∃ ad cp, va = .slice ad 0 cp := by
      rcases hA.2 with ⟨hv, _⟩ | ⟨g, cap, cur, hv, _⟩
      · exact ⟨none, 0, hv⟩
      · exact ⟨_, cap, hv⟩
    refine app.wp_none s x 31 ho 0 3 i0 1 Tryd.underlying31 hi va 0 [] hs hA (hx.trans e) ?_
    subst ev
    exact h ad cp wr hA ⟨rfl, rfl, rfl, Nat.le_refl _, fun _ _ _ => rfl⟩ (.inl rfl)
  · subst e
    obtain ⟨v', w', hr, h2, h3, _, h5⟩ := run_append_own_at (P := Tryd.prog) wr 0 31 o.type 3 i0 (.int .i64 0) 1 8 Tryd.underlying31 hi hz0 hz1 hz2 rfl (by decide) va 0 [] hA ⟨g, 0, none⟩ C.length cap (ints C) (by rw [sl.ints_length]; omega) (by
      intro j y hj
      have hjl : j < C.length := by
        have := (List.getElem?_eq_some_iff.1 hj).1
        rwa [sl.ints_length] at this
      rw [Addr.add_lit, Nat.zero_add, hu.cellAt j (by omega)]
      exact hj) (ints_oneCell .i64 C) (by unfold maxLen; omega) (by omega) (Nat.zero_le _)
    rw [Nat.zero_add, List.nil_append] at h2
    obtain ⟨ad, cp, ev⟩ : ∃ ad cp, v' = .slice ad C.length cp := by
      rcases h2.2 with ⟨hv, h0⟩ | ⟨g, cap, cur, hv, _⟩
      · exact ⟨none, 0, by rw [hv, h0]⟩
      · exact ⟨_, cap, hv⟩
    subst ev
    unfold Oper.wp execOp
    simp only [ho, resolve, invoke, builtin, Sem.run_bind, Sem.run_pure, Result.andThen_ok, List.map_toArray, List.map_cons, List.map_nil, hs, hx, hr]
    exact h ad cp w' h2 h3 h5
/-- a watcher's list, cut to nothing -/
theorem cut_own {w : World} {a : Option Addr} {n cap : Nat} {xs : List Value} (h : w.ownsRow 0 3 1 (.slice a n cap) n xs) : w.ownsRow 0 3 1 (.slice a 0 cap) 0 [] := by
  rcases h.2 with ⟨hv, h0⟩ | ⟨g, cp, cur, hv, hr⟩
  · rw [Value.slice.injEq] at hv
    obtain ⟨rfl, _, rfl⟩ := hv
    exact World.ownsRow_nil _ _ _ _
  · rw [Value.slice.injEq] at hv
    obtain ⟨rfl, _, rfl⟩ := hv
    have := own_cut h (Nat.zero_le n)
    rw [List.take_zero] at this
    exact this
/-- what forget leaves -/
def Fgt (c : Nat) (s : WS) (w w' : World) : Prop := ∃ s', Wat w' c s' ∧ Stp c s s' w w' ∧ s'.ps = s.ps.forget
set_option maxRecDepth 100000 in
set_option maxHeartbeats 8000000 in
theorem forget {w : World} {c : Nat} {s : WS} (u : FrameMode) (h : Wat w c s) (hb : (s.A.getD 49 nil_).2.length ≤ 4194304) :
    CallsD Tryd.prog 142 #[.pointer (some ⟨c, 0, none⟩)] u w fun e u' w' => u' = u ∧ e = .returned (.tuple #[]) ∧ Fgt c s w w' := by
  have x49 := h.cell (k := 49) (by decide)
  rw [at49] at x49
  have f49 := h.fz 49
  have k0 := h.setTk 0
  obtain ⟨w1, hw1⟩ : ∃ w1, w1 = w.setCell ⟨c, 49, none⟩ (.int .u64 0) := ⟨_, rfl⟩
  rw [show ((0 : Nat) : Int) = 0 from rfl, ← hw1] at k0
  obtain ⟨s1, es1⟩ : ∃ s1 : WS, s1 = { s with tk := 0 } := ⟨_, rfl⟩
  rw [← es1] at k0
  have hl0 : 0 < s1.A.length := by rw [k0.1.len]; decide
  have hl49 : 49 < s1.A.length := by rw [k0.1.len]; decide
  obtain ⟨v0, C0, e0⟩ : ∃ v C, s1.A.getD 0 nil_ = (v, C) := ⟨_, _, rfl⟩
  obtain ⟨v9, C, e9⟩ : ∃ v C, s1.A.getD 49 nil_ = (v, C) := ⟨_, _, rfl⟩
  have own0 := k0.1.ls _ (mem_getD hl0)
  have own9 := k0.1.ls _ (mem_getD hl49)
  rw [e0] at own0
  rw [e9] at own9
  obtain ⟨a0, c0, ev0, _⟩ := Sl.of_own own0
  obtain ⟨a9, c9, ev9, _⟩ := Sl.of_own own9
  replace ev0 : v0 = .slice a0 C0.length c0 := ev0
  replace ev9 : v9 = .slice a9 C.length c9 := ev9
  subst ev0 ev9
  have hC : C.length ≤ 4194304 := by
    have : (s1.A.getD 49 nil_).2.length ≤ 4194304 := by rw [es1]; exact hb
    rw [e9] at this
    exact this
  have x50 := k0.1.cell (k := 50) (by decide)
  have x52 := k0.1.cell (k := 52) (by decide)
  have f50 := k0.1.fz 50
  rw [at50, e0] at x50
  rw [at52, e9] at x52
  replace x50 : w1.cell? ⟨c, 50, none⟩ = some (.slice a0 C0.length c0) := x50
  replace x52 : w1.cell? ⟨c, 52, none⟩ = some (.slice a9 C.length c9) := x52
  have OA := hide ((cut_own own0).kept (cf.grown_drew w1 none) (ne_none _))
  have OU := hide (own9.kept (cf.grown_drew w1 none) (ne_none _))
  have NX : Hid (∀ ad cap w2, w2.ownsRow 0 3 1 (.slice ad C.length cap) C.length (ints C) → w1.drew.grownBy w2 (Value.slice a0 0 c0).ownBlock → ((Value.slice ad C.length cap).ownBlock = (Value.slice a0 0 c0).ownBlock ∨ (Value.slice ad C.length cap).ownBlock = some w1.drew.heap.size) →
      (w2.cell? ⟨c, 50, none⟩ = some (.slice a0 C0.length c0) ∧ w2.frozen? ⟨c, 50, none⟩ = false) ∧ ∃ s2, Wat (w2.setCell ⟨c, 50, none⟩ (.slice ad C.length cap)) c s2 ∧ Stp c s s2 w (w2.setCell ⟨c, 50, none⟩ (.slice ad C.length cap)) ∧ s2 = { s1 with A := s1.A.set 0 (.slice ad C.length cap, C) }) := by
    intro ad cap w2 o g hl
    have hob : (s1.A.getD 0 nil_).1.ownBlock = (Value.slice a0 0 c0).ownBlock := by rw [e0]; cases a0 <;> rfl
    have lv := k0.1.listv (j := 0) (v := .slice ad C.length cap) (M := C) (by decide) (cf.grown_drew w1 none) o (by rw [hob]; exact g) (fun g' q => by
      rw [hob]
      rcases hl with z | z
      · exact .inl (z ▸ q)
      · rw [z] at q
        cases q
        exact .inr (Nat.le_refl _))
    have hd := k0.1.kept (cf.grown_drew w1 none)
    have hnc := row_nec (unhide OA) hd.blk hd.ty.2
    have eb : w2.heap[c]? = w1.drew.heap[c]? := g.block c hd.lt (fun e => by
      rcases hnc with q | q
      · rw [q] at e; cases e
      · exact q e.symm)
    refine ⟨⟨(World.cell?_of_block (a := ⟨c, 50, none⟩) eb).trans x50, (World.frozen?_of_block (a := ⟨c, 50, none⟩) eb).trans f50⟩, _, lv.1, k0.2.trans lv.2, rfl⟩
  have EP : Hid (∀ ad cap, ({ s1 with A := s1.A.set 0 (.slice ad C.length cap, C), em := s1.ho } : WS).ps = s.ps.forget) := by
    intro ad cap
    show (⟨s1.K, (s1.A.set 0 _).map (·.2), s1.tk, s1.ho, s1.ho⟩ : PS) = _
    have e : s.ps.A.getD 49 [] = C := by
      rw [ps_getD]
      have : s1.A.getD 49 nil_ = s.A.getD 49 nil_ := by rw [es1]
      rw [← this, e9]
    unfold PS.forget
    rw [e, List.map_set, es1]
    rfl
  have HH := hide (And.intro h k0)
  clear own0 own9 hl0 hl49 e0 e9 h k0 hb
  go_enter_d Tryd.func142, Tryd.ntmps142
  go_wp2_with fail
  rw [← hw1]
  clear hw1 es1 x49 f49
  go_region_law (first
    | (refine stepF (unhide OA) (unhide OU) hC rfl _ _ rfl rfl rfl ?_; intro ad cap w2 o2 g2 l2; obtain ⟨⟨y0, y1⟩, s2, q1, q2, q3⟩ := unhide NX ad cap w2 o2 g2 l2; have R2 := hide (And.intro q1 (And.intro q2 q3)); clear o2 g2 l2 q1 q2 q3))
  all_goals
    have q1 := (unhide R2).1
    have x53 := q1.cell (k := 53) (by decide)
    rw [at53] at x53
    have x51 := q1.cell (k := 51) (by decide)
    rw [at51] at x51
    have f51 := q1.fz 51
    have k3 := q1.setEm s2.ho
    have R3 : Hid (Fgt c s w ((w2.setCell ⟨c, 50, none⟩ (.slice ad C.length cap)).setCell ⟨c, 51, none⟩ (.bool s2.ho))) := ⟨_, k3.1, (unhide R2).2.1.trans k3.2, by
      rw [← unhide EP ad cap, (unhide R2).2.2]⟩
    clear q1 k3 R2
    go_wp2_with fail
    exact end0 rfl rfl ⟨rfl, unhide R3⟩
end Go.Proofs.YtheigbmkldlicaaDoor.wm
namespace Go.Proofs.YtheigbmkldlicaaDoor.wm
open Go.ChangeShapes Go.WideShapes Go.ChangeAt Go.RowKit
open Go.Proofs.YtheigbmkldlicaaDoor.wm0 (end0 ret0 stepW listW listB)
open Go.Proofs.YtheigbmkldlicaaDoor.lits (okB okB_iff)
open Go.Proofs.YtheigbmkldlicaaDoor.bset (placeN placeN_le placeC placeN_inj setOf setOf_lt withN withN_lt)
open Go.Proofs.YtheigbmkldlicaaDoor.srt (Tab oppN oppN_lt andN andN_lt orN_eq andN_eq or_lt)
open Go.Proofs.YtheigbmkldlicaaDoor.cnt (ev)
open Go.Proofs.YtheigbmkldlicaaDoor.sl (Sl Own ints hide unhide ret_int ret_bool grown_refl grown_trans grown_drewN)
set_option linter.unusedVariables false
/-- a watcher that has taken nothing takes some literals -/
theorem Wof.take {Ss : List Nat} {t : TypeId} {x : List Value} {wB w : World} {c L : Nat} {s : WS} (h : Wof Ss t x wB w c s) (hT : Tab wB) (hN : Ss.length ≤ 1048576) (hL : L < 2 ^ 48) :
    Calls Tryd.prog 143 #[.pointer (some ⟨c, 0, none⟩), .int .u64 (L : Int)] w fun e w' => ∃ s', e = .returned (.tuple #[]) ∧ Wta Ss L wB w' c s' ∧ Stp c s s' w w' := by
  have js := h.jn.start (l' := 0) hL (fun b _ => by rw [show s.ps.tk = 0 from h.tk, Nat.zero_testBit]) (fun z => by
    obtain ⟨i, hi, _, ho⟩ := h.jn.es z
    rw [show s.ps.tk = 0 from h.tk, opn00 (h.jn.wd i hi)] at ho
    exact ⟨i, hi, ho⟩)
  refine (wm.take (l0 := 0) (F0 := []) (fitT Ss (s.tk ||| L)) hN h.wat (h.tab hT) hL (by rw [h.tk]; decide) ⟨js, rfl⟩).mono ?_
  rintro e w' ⟨s', l', F', rfl, t1, t2, t3⟩
  refine ⟨s', rfl, ⟨t1, grown_stp h.g h.far t2, h.far.stp t2 h.g.size, ⟨l', F', t3.1⟩, ?_⟩, t2⟩
  have : s'.tk = s.tk ||| L := t3.2
  rw [this, h.tk, Nat.zero_or]
theorem Wta.nil {Ss : List Nat} {T c : Nat} {wB w : World} {s : WS} (h : Wta Ss T wB w c s) (hT : Tab wB) : Frc Ss wB c s w (.slice none 0 0) [] :=
  ⟨h.wat, hT, h.jn, h.g, h.far, World.ownsRow_nil _ _ _ _, fun q e => by cases e⟩
/-- what is forgotten -/
theorem Wof.forgot {Ss : List Nat} {t : TypeId} {x : List Value} {wB w w' : World} {c : Nat} {s s' : WS} (h : Wat w c s) (hj : ∃ l F, Jn Ss s.ps 0 l F []) (hg : wB.grownBy w none) (hf : Far wB.heap.size c s) (hx : s.ty = t ∧ s.ex = x) (k : Wat w' c s') (st : Stp c s s' w w') (e : s'.ps = s.ps.forget) : Wof Ss t x wB w' c s' := by
  obtain ⟨l, F, j⟩ := hj
  refine ⟨k, grown_stp hg hf st, hf.stp st hg.size, by rw [e]; exact j.forget.1, ?_, by rw [e]; exact j.forget.2, st.same.1.trans hx.1, st.same.2.trans hx.2⟩
  have : s'.ps.tk = 0 := by rw [e]; rfl
  exact this
def failB (Ss : List Nat) (L : Nat) : Bool := !(frc Ss 49 L []).2
/-- the variables that nothing was taken of -/
def leftN (n : Nat) (T : Nat) : Nat := andN (ev n) (T ||| oppN T)
def failN (n : Nat) (Ss : List Nat) (L : Nat) : Nat := if failB Ss L then 0 else leftN n (frt Ss 49 L)
/-- what fails answers and leaves -/
def FailE (Ss : List Nat) (t : TypeId) (n : Nat) (wB : World) (c : Nat) (s : WS) (L : Nat) (w : World) (e : Ending) (w' : World) : Prop :=
  ∃ s', e = .returned (.tuple #[.int .u64 (failN n Ss L : Int), .bool (failB Ss L)]) ∧ Wof Ss t [.int .i64 (n : Int)] wB w' c s' ∧ Stp c s s' w w'
theorem ex_cell {w : World} {c : Nat} {s : WS} {v : Value} (h : Wat w c s) (hx : s.ex = [v]) : w.cell? ⟨c, 54, none⟩ = some v := by
  simp only [World.cell?, h.blk, List.getElem?_toArray, cells_ex s (k := 54) (by decide), hx]
  rfl
theorem jn49 {Ss : List Nat} {w : World} {c : Nat} {s : WS} (h : Wat w c s) (hj : ∃ l F, Jn Ss s.ps 0 l F []) (hN : Ss.length ≤ 1048576) : (s.A.getD 49 nil_).2.length ≤ 4194304 := by
  obtain ⟨l, F, j⟩ := hj
  have := j.sn
  rw [ps_getD] at this
  omega
set_option maxRecDepth 100000 in
set_option maxHeartbeats 8000000 in
theorem fails {Ss : List Nat} {t : TypeId} {wB w : World} {c n L : Nat} {s : WS} (h : Wof Ss t [.int .i64 (n : Int)] wB w c s) (hT : Tab wB) (hN : Ss.length ≤ 1048576) (hS : ∀ S ∈ Ss, S < 2 ^ 48) (hn : n ≤ 24) (hL : L < 2 ^ 48) :
    Calls Tryd.prog 90 #[.pointer (some ⟨c, 0, none⟩), .int .u64 (L : Int)] w fun e w' => FailE Ss t n wB c s L w e w' := by
  have CT := hide (h.take hT hN hL)
  have HX := hide h.tx
  have HT := hide hT
  have HS := hide hS
  have HN := hide hN
  clear h hT hS hN
  go_enter_defers Tryd.func90, Tryd.ntmps90
  go_wp2_with fail
  refine (unhide CT).mono ?_; rintro e w1 ⟨s1, rfl, wt, st⟩
  have cf := force (wt.nil (unhide HT)) (unhide HN) (Nat.zero_le _) (unhide HS)
  rw [wt.tk] at cf
  have CF := hide cf
  have ST := hide st
  clear wt st CT cf
  cases hb : (frc Ss 49 L []).2
  · have hfb : failB Ss L = true := by unfold failB; rw [hb]; rfl
    have hfn : failN n Ss L = 0 := by unfold failN; rw [hfb]; rfl
    rw [hb] at CF
    go_wp2_with fail
    refine (unhide CF).mono ?_; rintro e w2 ⟨u, s2, rfl, f2, e2, r2⟩
    obtain ⟨pa, pcap, ep⟩ := pv_form f2.own
    have CG := hide (fun m => forget m f2.wat (jn49 f2.wat f2.jn (unhide HN)))
    have S2 := (unhide ST).trans (r2.done rfl e2.2)
    have NX : Hid (∀ w', Fgt c s2 w2 w' → FailE Ss t n wB c s L w (.returned (.tuple #[.int .u64 0, .bool true])) w') := by
      rintro w' ⟨s', q1, q2, q3⟩
      refine ⟨s', by rw [hfn, hfb]; rfl, Wof.forgot f2.wat f2.jn f2.g f2.far ⟨S2.same.1.trans (unhide HX).1, S2.same.2.trans (unhide HX).2⟩ q1 q2 q3, S2.trans q2⟩
    subst ep
    clear f2 e2 r2 S2 CF ST hfb hfn hb
    go_wp2_with fail
    refine leaves_cons (f := 142) (args := #[.pointer (some ⟨c, 0, none⟩)]) (by simp) (by simp [go_sem]) ?_
    refine (unhide CG _).mono ?_
    rintro e u' w'' ⟨rfl, rfl, r⟩
    simp [Leaves, settle]
    refine ⟨_, results_tmp2 rfl _ _ _, ?_⟩
    exact unhide NX _ r
  · have hfb : failB Ss L = false := by unfold failB; rw [hb]; rfl
    have hfn : failN n Ss L = leftN n (frt Ss 49 L) := by unfold failN; rw [hfb]; rfl
    rw [hb] at CF
    go_wp2_with fail
    refine (unhide CF).mono ?_; rintro e w2 ⟨u, s2, rfl, f2, e2, r2⟩
    obtain ⟨pa, pcap, ep⟩ := pv_form f2.own
    have CG := hide (fun m k => forget m (f2.wat.kept (grown_drewN w2 k)) (jn49 f2.wat f2.jn (unhide HN)))
    have S2 := (unhide ST).trans (r2.done rfl e2.2)
    have hx2 : s2.ty = t ∧ s2.ex = [.int .i64 (n : Int)] := ⟨S2.same.1.trans (unhide HX).1, S2.same.2.trans (unhide HX).2⟩
    have x49 := f2.wat.cell (k := 49) (by decide)
    rw [at49] at x49
    have x54 := ex_cell f2.wat hx2.2
    have htk : s2.tk < 2 ^ 48 := by
      obtain ⟨l, F, j⟩ := f2.jn
      exact j.tk
    have NX : Hid (∀ k w', Fgt c s2 (w2.drewN k) w' → FailE Ss t n wB c s L w (.returned (.tuple #[.int .u64 (leftN n s2.tk : Int), .bool false])) w') := by
      rintro k w' ⟨s', q1, q2, q3⟩
      have gk := grown_drewN w2 k
      refine ⟨s', by rw [hfn, hfb, e2.1], Wof.forgot (f2.wat.kept gk) f2.jn (grown_trans f2.g gk) f2.far hx2 q1 q2 q3, (S2.trans (Stp.of_grown gk)).trans q2⟩
    have c2 := hide (fun w => vt.variablesTo n w hn)
    have c3 := hide (fun w => srt.opposites s2.tk w htk)
    have e5 : Hid (((leftN n s2.tk : Nat) : Int) = bits .andNot .u64 (ev n : Int) (bits .or .u64 (s2.tk : Int) (oppN s2.tk : Int))) := by
      show _ = _
      rw [orN_eq s2.tk (oppN s2.tk) htk (oppN_lt _), andN_eq (ev n) (s2.tk ||| oppN s2.tk) (fm.ev_lt48 n hn) (or_lt htk (oppN_lt _))]
      rfl
    subst ep
    clear f2 e2 r2 S2 CF ST hfb hfn hb hx2 htk
    rw [unhide e5] at NX
    clear e5
    generalize s2.tk = tk at *
    generalize oppN tk = ok at *
    generalize ev n = en at *
    go_wp2_with fail
    go_quiet (first | (go_at_call 145; exact Calls.quiet_of_same (unhide c2 _)) | (go_at_call 101; exact Calls.quiet_of_same (unhide c3 _)))
    go_wp2_with fail
    refine leaves_cons (f := 142) (args := #[.pointer (some ⟨c, 0, none⟩)]) (by simp) (by simp [go_sem]) ?_
    refine (unhide CG _ _).mono ?_
    rintro e u' w'' ⟨rfl, rfl, r⟩
    simp [Leaves, settle]
    refine ⟨_, results_tmp2 rfl _ _ _, ?_⟩
    exact unhide NX _ _ r
end Go.Proofs.YtheigbmkldlicaaDoor.wm
namespace Go.Proofs.YtheigbmkldlicaaDoor.wm
open Go.ChangeShapes Go.WideShapes Go.ChangeAt Go.RowKit
open Go.Proofs.YtheigbmkldlicaaDoor.wm0 (end0 ret0 stepW listW listB)
open Go.Proofs.YtheigbmkldlicaaDoor.lits (okB okB_iff)
open Go.Proofs.YtheigbmkldlicaaDoor.bset (placeN placeN_le placeC placeN_inj setOf setOf_lt withN withN_lt)
open Go.Proofs.YtheigbmkldlicaaDoor.srt (Tab oppN oppN_lt andN andN_lt orN_eq andN_eq or_lt)
open Go.Proofs.YtheigbmkldlicaaDoor.css (Sls)
open Go.Proofs.YtheigbmkldlicaaDoor.cf (Box)
open Go.Proofs.YtheigbmkldlicaaDoor.su (words)
open Go.Proofs.YtheigbmkldlicaaDoor.sl (Sl Own ints hide unhide ret_int ret_bool grown_refl grown_trans grown_drewN)
set_option linter.unusedVariables false
theorem built_checker (s : WS) (n : Int) : Tryd.prog.built 110 [(0, .agg ((List.range 54).map s.at).toArray), (1, .int .i64 n)] = some ((List.range 54).map s.at ++ [Value.int .i64 n]).toArray := by kernel_rfl
theorem sizeW : (Tryd.prog.info? 106).map (·.size) = some 54 := by kernel_rfl
theorem types9 : (164 : Nat) ≠ 110 ∧ (3 : Nat) ≠ 110 := by decide
theorem wp_buildC {o : Oper} {a : Act} {w : World} {K : Act → World → Prop} {Q : Exit → Act → World → Prop} (t : TypeId) (parts : Array (Nat × Operand)) (ho : o.op = .build t parts) (cells : Array Value)
    (hc : Tryd.prog.built t (parts.map fun (i, x) => (i, a.eval x)).toList = some cells) (h : K (a.put o.dst (.agg cells)) w) : o.wp Tryd.prog a w K Q := by
  unfold Oper.wp execOp
  simp only [ho, Sem.run_bind, run_build w t _ cells hc, Result.andThen_ok]
  exact h
/-- a watcher of its own copied into a struct with a number behind it -/
theorem Wof.copy {Ss : List Nat} {wB w : World} {c : Nat} {s : WS} {n : Int} (h : Wof Ss 106 [] wB w c s) :
    Wof Ss 110 [.int .i64 n] wB (w.alloc (.cells ((List.range 54).map s.at ++ [Value.int .i64 n]).toArray 110)) w.heap.size { s with ty := 110, ex := [.int .i64 n] } := by
  have ga := World.grownBy_alloc w (.cells ((List.range 54).map s.at ++ [Value.int .i64 n]).toArray 110) none
  refine ⟨⟨new_block _ _, h.wat.len, h.wat.cl.kept ga (ne_none _), fun p hp => (h.wat.ls p hp).kept ga (ne_none _), h.wat.ap, types9⟩, grown_trans h.g ga, fun k f => ?_, h.jn, h.tk, h.bd, rfl, rfl⟩
  rcases f with f | f | ⟨p, hp, f⟩
  · rw [f]
    exact h.g.size
  · exact h.far k (.inr (.inl f))
  · exact h.far k (.inr (.inr ⟨p, hp, f⟩))
theorem watcher_row {Ss : List Nat} {wB w : World} {c : Nat} {s : WS} (h : Wof Ss 106 [] wB w c s) : w.heap[c]? = some (.cells ((List.range 54).map s.at).toArray 106 (0, 0)) := by
  have e : s.cells = (List.range 54).map s.at := by unfold WS.cells; rw [h.tx.2, List.append_nil]
  have := h.wat.blk
  rw [e, h.tx.1] at this
  exact this
/-- what checkerOf answers -/
def ChkE (Ss : List Nat) (n : Int) (w : World) (e : Ending) (w' : World) : Prop := ∃ c s, e = .returned (.pointer (some ⟨c, 0, none⟩)) ∧ Wof Ss 110 [.int .i64 n] w w' c s
set_option maxRecDepth 100000 in
set_option maxHeartbeats 8000000 in
theorem checkerOf (v u : Value) (n : Int) (LL : List (List Int)) (AU : List Nat) (b : Nat) (w : World) (hT : Tab w) (hn : css.tot LL ≤ 1048576) (hv : Sls w v LL) (hu : w.ownsRow b 80 1 u AU.length (words AU)) (hA : ∀ S ∈ AU, S < 2 ^ 48) (hl : LL.length + AU.length ≤ 1048576) :
    Calls Tryd.prog 49 #[.agg #[.int .i64 n, v], u] w fun e w' => ChkE (LL.map setOf ++ AU) n w e w' := by
  have g0 := World.grownBy_alloc w (.cells #[.int .i64 n, v] 26) none
  have B0 := hide (Box.new 26 w (.int .i64 n) v)
  have CW := hide (fun (w1 : World) (g : w.grownBy w1 none) => watcherOf v LL w1 (hT.kept g) hn (hv.kept g))
  have x0 := (unhide B0).c0
  have x1 := (unhide B0).c1
  have G0 := hide g0
  have HU := hide hu
  have HT := hide hT
  have HA := hide hA
  obtain ⟨ua, uc, eu⟩ : ∃ a c, u = .slice a AU.length c := by
    rcases hu.2 with ⟨hv, h0⟩ | ⟨g, cap, cur, hv, _⟩
    · exact ⟨none, 0, by rw [hv, h0]⟩
    · exact ⟨_, cap, hv⟩
  obtain ⟨va, vc, ev, _⟩ := id hv
  subst eu ev
  clear g0 hv hu hT hA
  go_enter Tryd.func49, Tryd.ntmps49
  go_wp2_with fail
  generalize hW0 : w.alloc (.cells #[.int .i64 n, .slice va LL.length vc] 26) = W0 at *
  have GD := hide (grown_trans (r := none) (unhide G0) (cf.grown_drew W0 none))
  refine wp_region_noPanic ?_
  refine wp_region_held_drew (S := fun w' => w'.cell? ⟨w.heap.size, 0, none⟩ = some (.int .i64 n) ∧ w'.cell? ⟨w.heap.size, 1, none⟩ = some (.slice va LL.length vc)) (by kernel_rfl) ⟨x0, x1⟩ (fun hHeld => ?_)
  refine wpAnyH_take (i := 0) (v := ?vx1) rfl (by kernel_rfl) (by kernel_rfl) (by kernel_rfl) (fun _ _ _ h => h) (Or.inl ⟨by rfl, ?yx1⟩) (by assumption) ?rx1
  case yx1 => first | (intro w hSw; go_simp; done) | (intro w hSw; go_simp; with_reducible rfl)
  try simp only [Act.put, List.getElem_toArray, List.getElem_cons_zero, List.setIfInBounds_toArray, List.set_cons_zero, List.set_cons_succ]
  refine wpAnyH_take (i := 1) (v := ?vx2) rfl (by kernel_rfl) (by kernel_rfl) (by kernel_rfl) (fun _ _ _ h => h) (Or.inl ⟨by rfl, ?yx2⟩) (by assumption) ?rx2
  case yx2 => first | (intro w hSw; have h1 := hSw.1; have h2 := hSw.2; go_simp; done) | (intro w hSw; have h1 := hSw.1; have h2 := hSw.2; go_simp; with_reducible rfl)
  try simp only [Act.put, List.getElem_toArray, List.getElem_cons_succ, List.getElem_cons_zero, List.setIfInBounds_toArray, List.set_cons_zero, List.set_cons_succ]
  refine wpAnyH_take (i := 5) (v := ?vx3) rfl (by kernel_rfl) (by kernel_rfl) (by kernel_rfl) (fun _ _ _ h => h) (Or.inl ⟨by rfl, ?yx3⟩) (by assumption) ?rx3
  case yx3 => first | (intro w hSw; go_simp; done) | (intro w hSw; go_simp; with_reducible rfl)
  try simp only [Act.put, List.getElem_toArray, List.getElem_cons_succ, List.getElem_cons_zero, List.setIfInBounds_toArray, List.set_cons_zero, List.set_cons_succ]
  refine wpAnyH_take (i := 6) (v := ?vx4) rfl (by kernel_rfl) (by kernel_rfl) (by kernel_rfl) (fun _ _ _ h => h) (Or.inl ⟨by rfl, ?yx4⟩) (by assumption) ?rx4
  case yx4 => first | (intro w hSw; have h1 := hSw.1; have h2 := hSw.2; go_simp; done) | (intro w hSw; have h1 := hSw.1; have h2 := hSw.2; go_simp; with_reducible rfl)
  try simp only [Act.put, List.getElem_toArray, List.getElem_cons_succ, List.getElem_cons_zero, List.setIfInBounds_toArray, List.set_cons_zero, List.set_cons_succ]
  refine wpAnyH_ready (rs := [2]) (by kernel_rfl) (by simp) ?_
  refine AllReadyH.cons rfl (fun K hK => ?_) AllReadyH.nil
  rw [if_pos (by rfl)]
  simp only [List.getElem_toArray, List.getElem_cons_succ, List.getElem_cons_zero]
  go_simp
  refine (unhide CW _ (unhide GD)).mono ?_
  rintro e w1 ⟨c, s, rfl, m1⟩
  have gz := grown_trans (r := none) (unhide GD) m1.g
  have b1 := (unhide B0).kept (grown_trans (r := none) (cf.grown_drew W0 none) m1.g)
  have ROW := watcher_row m1
  have CP := hide (m1.copy (n := n))
  have hsz : Hid ((Tryd.prog.info? 106).map (·.size) = some ((List.range 54).map s.at).toArray.size) := by show _ = _; rw [sizeW]; rfl
  have BC := built_checker s n
  have GC := hide (fun (e : Unit) => grown_trans (r := none) gz (World.grownBy_alloc w1 (.cells ((List.range 54).map s.at ++ [Value.int .i64 n]).toArray 110) none))
  refine hK.out _ _ ⟨b1.c0, b1.c1⟩ (fun hHeld2 => ?_)
  clear hK K
  try simp only [Act.put, List.getElem_toArray, List.getElem_cons_succ, List.getElem_cons_zero, List.setIfInBounds_toArray, List.set_cons_zero, List.set_cons_succ]
  refine wpAnyH_take (i := 3) (v := ?vx5) rfl (by kernel_rfl) (by kernel_rfl) (by kernel_rfl) (fun _ _ _ h => h) (Or.inl ⟨by rfl, ?yx5⟩) (by assumption) ?rx5
  case yx5 => first | (intro w hSw; go_simp; done) | (intro w hSw; go_simp; with_reducible rfl)
  try simp only [Act.put, List.getElem_toArray, List.getElem_cons_succ, List.getElem_cons_zero, List.setIfInBounds_toArray, List.set_cons_zero, List.set_cons_succ]
  refine wpAnyH_ready (rs := [4]) (by kernel_rfl) (by simp) ?_
  refine AllReadyH.cons rfl (fun K hK => ?_) AllReadyH.nil
  rw [if_pos (by rfl)]
  simp only [List.getElem_toArray, List.getElem_cons_succ, List.getElem_cons_zero]
  refine wp_load_row 106 (.tmp 11) rfl c rfl _ _ _ _ ROW Tryd.underlying106 rfl (unhide hsz) ?_
  refine hK.out _ _ ⟨b1.c0, b1.c1⟩ (fun hHeld3 => ?_)
  clear hK K
  generalize hC : ((List.range 54).map s.at).toArray = C at *
  simp only [Act.put, List.setIfInBounds_toArray, List.set_cons_zero, List.set_cons_succ]
  refine wpAnyH_ready (rs := [7]) (by kernel_rfl) (by simp) ?_
  refine AllReadyH.cons rfl (fun K hK => ?_) AllReadyH.nil
  rw [if_pos (by rfl)]
  simp only [List.getElem_toArray, List.getElem_cons_succ, List.getElem_cons_zero]
  refine wp_buildC _ _ rfl ((List.range 54).map s.at ++ [Value.int .i64 n]).toArray (by simp only [List.map_toArray, List.map_cons, List.map_nil]; exact BC) ?_
  refine hK.out _ _ ⟨b1.c0, b1.c1⟩ (fun hHeld4 => ?_)
  clear hK K
  generalize hD : ((List.range 54).map s.at ++ [Value.int .i64 n]).toArray = D at *
  simp only [Act.put, List.setIfInBounds_toArray, List.set_cons_zero, List.set_cons_succ]
  refine wpAnyH_ready (rs := [8]) (by kernel_rfl) (by simp) ?_
  refine AllReadyH.cons rfl (fun K hK => ?_) AllReadyH.nil
  rw [if_pos (by rfl)]
  simp only [List.getElem_toArray, List.getElem_cons_succ, List.getElem_cons_zero]
  go_simp
  have b2 := b1.kept (World.grownBy_alloc w1 (.cells D 110) none)
  refine hK.out _ _ ⟨b2.c0, b2.c1⟩ (fun hHeld5 => ?_)
  clear hK K
  try simp only [Act.put, List.getElem_toArray, List.getElem_cons_succ, List.getElem_cons_zero, List.setIfInBounds_toArray, List.set_cons_zero, List.set_cons_succ]
  refine wpAnyH_take (i := 9) (v := ?vx6) rfl (by kernel_rfl) (by kernel_rfl) (by kernel_rfl) (fun _ _ _ h => h) (Or.inl ⟨by rfl, ?yx6⟩) (by assumption) ?rx6
  case yx6 => first | (intro w hSw; go_simp; done) | (intro w hSw; go_simp; with_reducible rfl)
  try simp only [Act.put, List.getElem_toArray, List.getElem_cons_succ, List.getElem_cons_zero, List.setIfInBounds_toArray, List.set_cons_zero, List.set_cons_succ]
  refine wpAnyH_done (by kernel_rfl) ?_ _
  refine NoPanic.normal ?_
  have ST : Hid (∃ s', Wof (LL.map setOf ++ AU.take 0) 110 [.int .i64 n] w (w1.alloc (.cells D 110)) w1.heap.size s') := by
    have q := unhide CP
    rw [List.take_zero, List.append_nil]
    exact ⟨_, q.wat, unhide GC (), fun k f => Nat.le_trans (unhide GD).size (q.far k f), q.jn, q.tk, q.bd, q.tx⟩
  have hl' : AU.length ≤ 1048576 := by omega
  clear m1 gz b1 b2 ROW CP hsz BC GC hHeld hHeld2 hHeld3 hHeld4 hHeld5 hC hD x0 x1 CW B0 GD hW0 G0
  generalize w1.heap.size = c' at *
  generalize w1.alloc (.cells D 110) = W1 at *
  go_wp2_with fail
  go_loopw [19] (fun iv wr => ∃ (k : Nat) (s : WS), k ≤ AU.length ∧ iv = .int .i64 (k : Int) ∧ Hid (Wof (LL.map setOf ++ AU.take k) 110 [.int .i64 n] w wr c' s)) (fun iv _ => AU.length - (intOf iv).toNat)
  case atStart =>
    obtain ⟨s', q⟩ := unhide ST
    exact ⟨0, s', Nat.zero_le _, rfl, q⟩
  case round =>
    obtain ⟨k, s, hk, rfl, hw⟩ := hrel
    clear ST
    by_cases hlt : k < AU.length
    · have ww := unhide hw
      have hu := (unhide HU).kept ww.g (ne_none _)
      obtain ⟨ug, ucap, e, _⟩ := hu.form (by omega)
      rw [Value.slice.injEq] at e
      obtain ⟨rfl, _, rfl⟩ := e
      have c1 : wr.cell? ⟨ug, k, none⟩ = some (.int .u64 ((AU.getD k 0 : Nat) : Int)) := by
        rw [hu.cellAt k (by omega)]
        simp [su.words, hlt]
      have hi' : (k : Int) < (AU.length : Int) := by omega
      have hS : AU.getD k 0 < 2 ^ 48 := unhide HA _ (by simp [hlt])
      have hts : AU.take (k + 1) = AU.take k ++ [AU.getD k 0] := by
        rw [List.take_succ_eq_append_getElem hlt]
        simp [hlt]
      have CA := hide (ww.add (S := AU.getD k 0) (unhide HT) (by rw [List.length_append, List.length_map, List.length_take]; omega) hS)
      rw [List.append_assoc, ← hts] at CA
      clear ww hu hts hw
      generalize AU.getD k 0 = S at *
      go_wp2_with fail
      refine (unhide CA).mono ?_; rintro e w2 ⟨s2, rfl, r2⟩
      have R2 := hide r2
      clear CA r2
      go_wp2_with fail
      go_roundw
      case rel => exact ⟨k + 1, s2, by omega, by go_num, R2⟩
      case measure => simp [intOf]; omega
    · have hi' : ¬ (k : Int) < (AU.length : Int) := by omega
      have e : AU.take k = AU := List.take_of_length_le (by omega)
      rw [e] at hw
      clear e
      go_wp2_with fail
      go_ret
      exact ⟨_, s, rfl, unhide hw⟩
end Go.Proofs.YtheigbmkldlicaaDoor.wm
namespace Go.Proofs.YtheigbmkldlicaaDoor.wm
open Go.ChangeShapes Go.WideShapes Go.ChangeAt Go.RowKit
open Go.Proofs.YtheigbmkldlicaaDoor.lits (okB okB_iff)
open Go.Proofs.YtheigbmkldlicaaDoor.bset (setOf setOf_lt)
open Go.Proofs.YtheigbmkldlicaaDoor.srt (Tab oppN oppN_lt)
open Go.Proofs.YtheigbmkldlicaaDoor.css (Sls)
open Go.Proofs.YtheigbmkldlicaaDoor.ok (clB)
open Go.Proofs.YtheigbmkldlicaaDoor.sl (Sl Own ints hide unhide ret_int ret_bool grown_refl grown_trans grown_drewN)
set_option linter.unusedVariables false
/-- the number of the first clause that is none, or does not follow at once from those ahead of it -/
def badN (n : Int) : List Nat → List (List Int) → Nat
  | _, [] => 0
  | Ss, L :: LL => if clB n L && failB Ss (oppN (setOf L)) then badN n (Ss ++ [setOf L]) LL + 1 else 0
theorem bad_le (n : Int) (LL : List (List Int)) : ∀ Ss, badN n Ss LL ≤ LL.length := by
  induction LL with
  | nil => exact fun _ => Nat.le_refl _
  | cons L LL ih =>
    intro Ss
    unfold badN
    split
    · exact Nat.succ_le_succ (ih _)
    · exact Nat.zero_le _
/-- the place of a loop over the clauses -/
def BadAt (n : Int) (Ss : List Nat) (LL : List (List Int)) (R k : Nat) : Prop := R = k + badN n (Ss ++ (LL.take k).map setOf) (LL.drop k)
theorem BadAt.start (n : Int) (Ss : List Nat) (LL : List (List Int)) : BadAt n Ss LL (badN n Ss LL) 0 := by
  unfold BadAt
  simp
theorem BadAt.cons {n : Int} {Ss : List Nat} {LL : List (List Int)} {R k : Nat} (h : BadAt n Ss LL R k) (hk : k < LL.length) : R = k + badN n (Ss ++ (LL.take k).map setOf) (LL.getD k [] :: LL.drop (k + 1)) := by
  unfold BadAt at h
  rw [List.drop_eq_getElem_cons hk] at h
  rw [show LL.getD k [] = LL[k] by simp [hk]]
  exact h
theorem BadAt.stop {n : Int} {Ss : List Nat} {LL : List (List Int)} {R k : Nat} (h : BadAt n Ss LL R k) (hk : k < LL.length) (hb : (clB n (LL.getD k []) && failB (Ss ++ (LL.take k).map setOf) (oppN (setOf (LL.getD k [])))) = false) : R = k := by
  have := h.cons hk
  unfold badN at this
  rw [hb] at this
  simpa using this
theorem BadAt.next {n : Int} {Ss : List Nat} {LL : List (List Int)} {R k : Nat} (h : BadAt n Ss LL R k) (hk : k < LL.length) (hb : (clB n (LL.getD k []) && failB (Ss ++ (LL.take k).map setOf) (oppN (setOf (LL.getD k [])))) = true) : BadAt n Ss LL R (k + 1) := by
  have := h.cons hk
  unfold badN at this
  rw [hb, if_pos rfl] at this
  unfold BadAt
  rw [css.take_snoc LL k hk, List.map_append, ← List.append_assoc]
  show R = k + 1 + badN n (Ss ++ (LL.take k).map setOf ++ [setOf (LL.getD k [])]) (LL.drop (k + 1))
  omega
theorem BadAt.fin {n : Int} {Ss : List Nat} {LL : List (List Int)} {R k : Nat} (h : BadAt n Ss LL R k) (hk : ¬ k < LL.length) (hk' : k ≤ LL.length) : R = LL.length := by
  unfold BadAt at h
  rw [List.drop_of_length_le (by omega)] at h
  unfold badN at h
  omega
set_option maxRecDepth 100000 in
set_option maxHeartbeats 8000000 in
theorem firstBad {Ss : List Nat} {t : TypeId} {wB w : World} {c n : Nat} {s : WS} (v : Value) (LL : List (List Int)) (h : Wof Ss t [.int .i64 (n : Int)] wB w c s) (hT : Tab wB) (hn : n ≤ 24) (hN : Ss.length + LL.length ≤ 1048576) (hS : ∀ S ∈ Ss, S < 2 ^ 48) (htt : css.tot LL ≤ 1048576) (hv : Sls wB v LL) :
    Calls Tryd.prog 56 #[.pointer (some ⟨c, 0, none⟩), v] w fun e w' => e = .returned (.int .i64 (badN (n : Int) Ss LL : Int)) ∧ wB.grownBy w' none := by
  have B0 := hide (BadAt.start (n : Int) Ss LL)
  generalize badN (n : Int) Ss LL = R at *
  have H0 := hide h
  have HT := hide hT
  have HS := hide hS
  have hl := Nat.le_trans (css.tot_len LL) htt
  obtain ⟨a, cap, rfl, ha⟩ := hv
  have HA := hide ha
  clear ha h hT hS
  go_enter Tryd.func56, Tryd.ntmps56
  go_wp2_with fail
  go_loopw [12] (fun iv wr => ∃ (k : Nat) (s : WS), k ≤ LL.length ∧ iv = .int .i64 (k : Int) ∧ Hid (Wof (Ss ++ (LL.take k).map setOf) t [.int .i64 (n : Int)] wB wr c s) ∧ Hid (BadAt (n : Int) Ss LL R k)) (fun iv _ => LL.length - (intOf iv).toNat)
  case atStart => exact ⟨0, s, Nat.zero_le _, rfl, by rw [List.take_zero, List.map_nil, List.append_nil]; exact H0, B0⟩
  case round =>
    obtain ⟨k, s1, hk, rfl, hw, hb⟩ := hrel
    clear H0 B0
    by_cases hlt : k < LL.length
    · rcases unhide HA with h | ⟨b, off, rfl, hbb, hcb⟩
      · rw [h] at hlt
        simp at hlt
      · obtain ⟨u, hu, hs⟩ := hcb k hlt
        have ww := unhide hw
        have c1 : wr.cell? ⟨b, off + k, none⟩ = some u := ww.g.cell hu (fun e => by cases e)
        have x54 := ex_cell ww.wat ww.tx.2
        have hi' : (k : Int) < (LL.length : Int) := by omega
        have hL := Nat.le_trans (css.tot_in LL k) htt
        have hsr : Sl wr u (LL.getD k []) := hs.kept ww.g (.inl rfl)
        have CC := ok.clauseOf u (LL.getD k []) (n : Int) wr hL hsr
        have CL := hide (bset.litsOf u (LL.getD k []) wr hL hsr)
        have hlen : (Ss ++ (LL.take k).map setOf).length < 1048576 := by rw [List.length_append, List.length_map, List.length_take]; omega
        have hSS : ∀ S ∈ Ss ++ (LL.take k).map setOf, S < 2 ^ 48 := by
          intro S hS
          rcases List.mem_append.1 hS with q | q
          · exact unhide HS S q
          · exact set_bd _ S q
        have CO := hide (srt.opposites (setOf (LL.getD k [])) wr (setOf_lt _))
        have cf := fails ww (unhide HT) (Nat.le_of_lt hlen) hSS hn (oppN_lt (setOf (LL.getD k [])))
        have NX : Hid (∀ s2 w2, Wof (Ss ++ (LL.take k).map setOf) t [.int .i64 (n : Int)] wB w2 c s2 → Calls Tryd.prog 89 #[.pointer (some ⟨c, 0, none⟩), .int .u64 (setOf (LL.getD k []) : Int)] w2 fun e w' => ∃ s', e = .returned (.tuple #[]) ∧ Wof (Ss ++ (LL.take (k + 1)).map setOf) t [.int .i64 (n : Int)] wB w' c s') := by
          intro s2 w2 q
          have := q.add (S := setOf (LL.getD k [])) (unhide HT) hlen (setOf_lt _)
          rw [css.take_snoc LL k hlt, List.map_append, ← List.append_assoc]
          exact this
        have ST := hide (fun hx => (unhide hb).stop hlt hx)
        have NB := hide (fun hx => (unhide hb).next hlt hx)
        have GW := hide ww.g
        clear hcb hs hu ww hsr hSS hlen hw hb
        cases hcl : clB (n : Int) (LL.getD k [])
        · rw [hcl] at CC
          have R1 := hide (unhide ST (by rw [hcl]; rfl))
          have CC' := hide CC
          clear CC cf NX ST NB CL CO hcl
          go_wp2_with fail
          refine (unhide CC').mono ?_; rintro e w2 ⟨rfl, hww⟩; have hw' := hww.symm; clear hww; subst hw'
          go_wp2_with fail
          go_ret
          exact ⟨by rw [unhide R1]; rfl, unhide GW⟩
        · rw [hcl] at CC
          rw [hcl] at ST NB
          have CC' := hide CC
          have CF := hide cf
          clear CC hcl cf
          generalize setOf (LL.getD k []) = S at *
          generalize oppN S = O at *
          generalize hfb : failB (Ss ++ (LL.take k).map setOf) O = fb at *
          go_wp2_with fail
          refine (unhide CC').mono ?_; rintro e w2 ⟨rfl, hww⟩; have hw' := hww.symm; clear hww; subst hw'
          go_wp2_with fail
          refine (unhide CL).mono ?_; rintro e w2 ⟨rfl, hww⟩; have hw' := hww.symm; clear hww; subst hw'
          go_wp2_with fail
          refine (unhide CO).mono ?_; rintro e w2 ⟨rfl, hww⟩; have hw' := hww.symm; clear hww; subst hw'
          go_wp2_with fail
          refine (unhide CF).mono ?_; rintro e w2 ⟨s2, rfl, r2, _⟩
          rw [hfb]
          have CA := hide (unhide NX s2 w2 r2)
          have G2 := hide r2.g
          clear r2 CC' CL CO CF NX hfb
          cases fb
          · have R1 := hide (unhide ST rfl)
            clear ST NB CA
            go_wp2_with fail
            go_ret
            exact ⟨by rw [unhide R1]; rfl, unhide G2⟩
          · have R1 := hide (unhide NB rfl)
            clear ST NB
            go_wp2_with fail
            refine (unhide CA).mono ?_; rintro e w3 ⟨s3, rfl, r3⟩
            have R3 := hide r3
            clear CA r3
            go_wp2_with fail
            go_roundw
            case rel => exact ⟨k + 1, s3, by omega, by go_num, R3, R1⟩
            case measure => simp [intOf]; omega
    · have hi' : ¬ (k : Int) < (LL.length : Int) := by omega
      have R1 := hide ((unhide hb).fin hlt hk)
      have GW := hide (unhide hw).g
      clear hb hw
      go_wp2_with fail
      go_ret
      exact ⟨by rw [unhide R1]; rfl, unhide GW⟩
end Go.Proofs.YtheigbmkldlicaaDoor.wm
namespace Go.Proofs.YtheigbmkldlicaaDoor.sp
open Go.ChangeShapes Go.WideShapes Go.ChangeAt Go.RowKit
open Go.Proofs.YtheigbmkldlicaaDoor.lits (okB varI okB_iff)
open Go.Proofs.YtheigbmkldlicaaDoor.bset (setOf setOf_lt)
open Go.Proofs.YtheigbmkldlicaaDoor.srt (Tab)
open Go.Proofs.YtheigbmkldlicaaDoor.css (Sls tot)
open Go.Proofs.YtheigbmkldlicaaDoor.cf (Box)
open Go.Proofs.YtheigbmkldlicaaDoor.ok (cnfB litIn clB)
open Go.Proofs.YtheigbmkldlicaaDoor.wo (Made)
open Go.Proofs.YtheigbmkldlicaaDoor.wm
open Go.Proofs.YtheigbmkldlicaaDoor.sl (Sl Own ints hide unhide ret_int ret_bool grown_refl grown_trans grown_drewN)
set_option linter.unusedVariables false

/-- whether a clause follows at once -/
def leavesB (n : Int) (LL : List (List Int)) (L : List Int) : Bool := cnfB n LL && clB n L && !(frc (LL.map setOf) 49 (setOf (negL L)) (negL L)).2
theorem cl_ok {n : Int} {L : List Int} (h : clB n L = true) : ∀ x ∈ L, okB x = true := by
  unfold ok.clB at h
  rw [Bool.and_eq_true, List.all_eq_true] at h
  intro x hx
  have := h.1 x hx
  unfold ok.litIn at this
  rw [Bool.and_eq_true] at this
  exact this.1
theorem neg_in {n : Int} {L : List Int} (h : clB n L = true) : (negL L).all (litIn n) = true := by
  unfold ok.clB at h
  rw [Bool.and_eq_true, List.all_eq_true] at h
  rw [List.all_eq_true]
  intro y hy
  unfold negL at hy
  rw [List.mem_map] at hy
  obtain ⟨x, hx, rfl⟩ := hy
  have := h.1 x hx
  unfold ok.litIn at this ⊢
  rw [Bool.and_eq_true, decide_eq_true_iff] at this
  have a := okB_iff.1 this.1
  have b := okB_iff.1 (opp_ok this.1)
  have v := this.2
  rw [lits.varI_yes a] at v
  rw [opp_ok this.1, lits.varI_yes b, Bool.true_and, decide_eq_true_iff]
  split at v <;> split <;> omega
theorem force_neg {n : Int} {LL : List (List Int)} {L : List Int} (hc : cnfB n LL = true) (hb : clB n L = true) : forceB n LL (negL L) = frc (LL.map setOf) 49 (setOf (negL L)) (negL L) := by
  unfold wm.forceB wm.okU
  rw [hc, neg_in hb]
  rfl

end Go.Proofs.YtheigbmkldlicaaDoor.sp
namespace Go.Proofs.YtheigbmkldlicaaDoor.xw
open Go.RowKit
open Go.Proofs.YtheigbmkldlicaaDoor.lits (okB okB_iff)
open Go.Proofs.YtheigbmkldlicaaDoor.bset (placeN placeN_le placeN_inj setOf setOf_lt setOf_has setOf_snoc withN withN_bit)
open Go.Proofs.YtheigbmkldlicaaDoor.srt (fstI oppN oppN_bit oppN_lt swp hi_bit litI)
open Go.Proofs.YtheigbmkldlicaaDoor.cls (hasB)
open Go.Proofs.YtheigbmkldlicaaDoor.css (tot)
open Go.Proofs.YtheigbmkldlicaaDoor.ok (cnfB clB litIn)
open Go.Proofs.YtheigbmkldlicaaDoor.fm (freeL freeN)
open Go.Proofs.YtheigbmkldlicaaDoor.wm (frc frt unitN unit_new failB leftN failN pc pc_le pc_with litI_spec swp_place opp_ok set_bd)
open Go.Proofs.YtheigbmkldlicaaDoor.sp (negL)
set_option linter.unusedVariables false
theorem bits_eq {S T : Nat} (hS : S < 2 ^ 48) (hT : T < 2 ^ 48) (h : ∀ x, okB x = true → S.testBit (placeN x) = T.testBit (placeN x)) : S = T := by
  apply Nat.eq_of_testBit_eq
  intro b
  by_cases hb : b < 48
  · have k := litI_spec hb
    have := h (litI b) k.1
    rw [k.2] at this
    exact this
  · rw [hi_bit hS (by omega), hi_bit hT (by omega)]
theorem set_neg (L : List Int) : setOf (negL L) = oppN (setOf L) := by
  refine bits_eq (setOf_lt _) (oppN_lt _) fun x hx => ?_
  have hp := placeN_le hx
  rw [setOf_has _ x hx, oppN_bit, decide_eq_true (show placeN x < 48 by omega), Bool.true_and, swp_place hx, setOf_has L (-x) (opp_ok hx)]
  unfold cls.hasB
  congr 1
  apply propext
  unfold sp.negL
  rw [List.mem_map]
  constructor
  · rintro ⟨y, hy, rfl⟩
    rwa [Int.neg_neg]
  · intro h
    exact ⟨-x, h, Int.neg_neg x⟩
theorem frc_snd (Ss : List Nat) : ∀ (n T : Nat) (p q : List Int), (frc Ss n T p).2 = (frc Ss n T q).2 := by
  intro n
  induction n with
  | zero => intro T p q; rfl
  | succ n ih =>
    intro T p q
    cases h : (unitN Ss T).2
    · rw [wm.frc_stop h, wm.frc_stop h]
    · by_cases h0 : (unitN Ss T).1 = 0
      · rw [wm.frc_end h h0, wm.frc_end h h0]
      · rw [wm.frc_more h h0, wm.frc_more h h0]
        exact ih _ _ _
theorem frc_set {Ss : List Nat} (hS : ∀ S ∈ Ss, S < 2 ^ 48) : ∀ (n : Nat) (p : List Int), setOf (frc Ss n (setOf p) p).1 = frt Ss n (setOf p) := by
  intro n
  induction n with
  | zero => intro p; rfl
  | succ n ih =>
    intro p
    cases h : (unitN Ss (setOf p)).2
    · rw [wm.frc_stop h, wm.frt_stop h]
    · by_cases h0 : (unitN Ss (setOf p)).1 = 0
      · rw [wm.frc_end h h0, wm.frt_end h0]
      · have hx := (unit_new hS h h0).1
        have e : withN (setOf p) (unitN Ss (setOf p)).1 = setOf (p ++ [(unitN Ss (setOf p)).1]) := by rw [setOf_snoc, if_pos hx]
        rw [wm.frc_more h h0, wm.frt_more h h0, e]
        exact ih _
theorem frc_sub (Ss : List Nat) : ∀ (n T : Nat) (p : List Int), ∃ r, (frc Ss n T p).1 = p ++ r := by
  intro n
  induction n with
  | zero => intro T p; exact ⟨[], (List.append_nil p).symm⟩
  | succ n ih =>
    intro T p
    cases h : (unitN Ss T).2
    · rw [wm.frc_stop h]; exact ⟨[], (List.append_nil p).symm⟩
    · by_cases h0 : (unitN Ss T).1 = 0
      · rw [wm.frc_end h h0]; exact ⟨[], (List.append_nil p).symm⟩
      · rw [wm.frc_more h h0]
        obtain ⟨r, e⟩ := ih (withN T (unitN Ss T).1) (p ++ [(unitN Ss T).1])
        exact ⟨(unitN Ss T).1 :: r, by rw [e, List.append_assoc]; rfl⟩
/-- the first of a sorted set -/
theorem srt_head {S : Nat} (h0 : 0 < S) (h : S < 2 ^ 48) : ∃ r, srt.srt S 48 = fstI S :: r := by
  obtain ⟨t, m, et, ht, es⟩ := srt.low h0 h
  have lo : ∀ i, 0 ≤ i → i < t → S.testBit i = false := fun i _ hi => by
    rw [es, srt.low_bit, if_pos (by omega), decide_eq_false (by omega)]
  have hit : S.testBit t = true := by rw [es, srt.low_bit, if_pos (by omega), decide_eq_true rfl]
  have e1 : srt.srt S (t + 1) = [litI t] := by
    rw [srt.srt_yes hit, srt.srt_skip (Nat.zero_le t) lo]
    rfl
  have more : ∀ k, ∃ r, srt.srt S (t + 1 + k) = litI t :: r := by
    intro k
    induction k with
    | zero => exact ⟨[], e1⟩
    | succ k ih =>
      obtain ⟨r, e⟩ := ih
      rw [show t + 1 + (k + 1) = t + 1 + k + 1 by omega]
      cases hb : S.testBit (t + 1 + k)
      · rw [srt.srt_no hb]; exact ⟨r, e⟩
      · rw [srt.srt_yes hb, e]; exact ⟨r ++ [litI (t + 1 + k)], rfl⟩
  have := more (48 - (t + 1))
  rw [show t + 1 + (48 - (t + 1)) = 48 by omega] at this
  unfold srt.fstI
  rw [← et]
  exact this
theorem srt_none (S : Nat) (h : S = 0) : srt.srt S 48 = [] := by
  subst h
  rw [srt.srt_skip (p := 0) (Nat.zero_le 48) (fun i _ _ => Nat.zero_testBit i)]
  rfl
/-- the walk, with nothing counted: k is enough of rounds -/
def full (n : Int) (LL : List (List Int)) : Nat → List Int → Option (List (List Int))
  | 0, _ => none
  | k + 1, d =>
    if (frc (LL.map setOf) 49 (setOf d) d).2 = false then some [negL d]
    else match freeL n LL (frc (LL.map setOf) 49 (setOf d) d).1 with
      | [] => none
      | x :: _ => (full n LL k (d ++ [-x])).bind fun A => (full n LL k (d ++ [x])).map fun B => A ++ B ++ [negL d]
theorem full_stop {n : Int} {LL : List (List Int)} {k : Nat} {d : List Int} (h : (frc (LL.map setOf) 49 (setOf d) d).2 = false) : full n LL (k + 1) d = some [negL d] := by
  rw [full, if_pos h]
theorem full_end {n : Int} {LL : List (List Int)} {k : Nat} {d : List Int} (h : (frc (LL.map setOf) 49 (setOf d) d).2 = true) (h0 : freeL n LL (frc (LL.map setOf) 49 (setOf d) d).1 = []) : full n LL (k + 1) d = none := by
  rw [full, if_neg (by rw [h]; simp), h0]
theorem full_more {n : Int} {LL : List (List Int)} {k : Nat} {d : List Int} {x : Int} {r : List Int} (h : (frc (LL.map setOf) 49 (setOf d) d).2 = true) (h0 : freeL n LL (frc (LL.map setOf) 49 (setOf d) d).1 = x :: r) :
    full n LL (k + 1) d = (full n LL k (d ++ [-x])).bind fun A => (full n LL k (d ++ [x])).map fun B => A ++ B ++ [negL d] := by
  rw [full, if_neg (by rw [h]; simp), h0]
theorem full_pos {n : Int} {LL : List (List Int)} {k : Nat} {d : List Int} {C : List (List Int)} (h : full n LL k d = some C) : 0 < C.length := by
  cases k with
  | zero => cases h
  | succ k =>
    cases hf : (frc (LL.map setOf) 49 (setOf d) d).2
    · rw [full_stop hf] at h
      cases h
      exact Nat.one_pos
    · cases h0 : freeL n LL (frc (LL.map setOf) 49 (setOf d) d).1 with
      | nil => rw [full_end hf h0] at h; cases h
      | cons x r =>
        rw [full_more hf h0] at h
        cases ha : full n LL k (d ++ [-x]) with
        | none => rw [ha] at h; cases h
        | some A =>
          cases hb : full n LL k (d ++ [x]) with
          | none => rw [ha, hb] at h; cases h
          | some B =>
            rw [ha, hb] at h
            cases h
            simp
            omega
/-- a free literal was not taken, nor its opposite -/
theorem free_new {n : Int} {LL : List (List Int)} {Ss : List Nat} {d r : List Int} {x : Int} (h : freeL n LL (frc Ss 49 (setOf d) d).1 = x :: r) : (setOf d).testBit (placeN x) = false ∧ (setOf d).testBit (placeN (-x)) = false := by
  obtain ⟨q, eq⟩ := frc_sub Ss 49 (setOf d) d
  have hx : x ∈ freeL n LL (frc Ss 49 (setOf d) d).1 := by rw [h]; exact List.mem_cons_self ..
  have hc : cnfB n LL = true := by
    cases hb : cnfB n LL
    · unfold fm.freeL at hx
      rw [hb] at hx
      cases hx
    · rfl
  have hf := fm.cnf_facts hc
  unfold fm.freeL at hx
  rw [hc, if_pos rfl] at hx
  unfold srt.srt at hx
  rw [List.mem_map] at hx
  obtain ⟨i, hi, rfl⟩ := hx
  rw [List.mem_filter, List.mem_range] at hi
  have k := litI_spec hi.1
  have hb := hi.2
  rw [fm.freeN_bit _ _ _ (by omega), Bool.and_eq_true, Bool.not_eq_true', Bool.or_eq_false_iff, eq, fm.setOf_append, Nat.testBit_or, Nat.testBit_or, Bool.or_eq_false_iff, Bool.or_eq_false_iff] at hb
  rw [← swp_place k.1, k.2]
  exact ⟨hb.2.1.1, hb.2.2.1⟩
theorem free_pc {n : Int} {LL : List (List Int)} {Ss : List Nat} {d r : List Int} {x : Int} (h : freeL n LL (frc Ss 49 (setOf d) d).1 = x :: r) : pc (setOf d) + 1 ≤ pc (setOf (d ++ [-x])) ∧ pc (setOf d) + 1 ≤ pc (setOf (d ++ [x])) := by
  have ok := free_ok h
  have nw := free_new h
  rw [setOf_snoc, if_pos ok.2, setOf_snoc, if_pos ok.1]
  exact ⟨pc_with ok.2 nw.2, pc_with ok.1 nw.1⟩
/-- what the counted walk tells -/
def cnt (O : Option (List (List Int))) (m : Nat) : List (List Int) × Bool := match O with
  | some C => if C.length ≤ m then (C, true) else ([], false)
  | none => ([], false)
theorem wlk_full (n : Int) (LL : List (List Int)) : ∀ (k m : Nat) (d : List Int), 49 ≤ k + pc (setOf d) → wlk n LL m d = cnt (full n LL k d) m := by
  intro k
  induction k with
  | zero =>
    intro m d h
    have := pc_le (setOf d)
    omega
  | succ k ih =>
    intro m d h
    cases m with
    | zero =>
      rw [wlk_zero]
      cases hf : full n LL (k + 1) d with
      | none => rfl
      | some C =>
        have := full_pos hf
        show _ = (if C.length ≤ 0 then (C, true) else ([], false))
        rw [if_neg (by omega)]
    | succ m =>
      cases hf : (frc (LL.map setOf) 49 (setOf d) d).2
      · rw [wlk_stop hf, full_stop hf]
        show _ = (if ([negL d]).length ≤ m + 1 then ([negL d], true) else ([], false))
        rw [if_pos (by simp)]
      · cases h0 : freeL n LL (frc (LL.map setOf) 49 (setOf d) d).1 with
        | nil => rw [wlk_end hf h0, full_end hf h0]; rfl
        | cons x r =>
          have hp := free_pc h0
          rw [wlk_more hf h0, full_more hf h0, ih m (d ++ [-x]) (by omega)]
          cases ha : full n LL k (d ++ [-x]) with
          | none => rfl
          | some A =>
            show (if (if A.length ≤ m then (A, true) else (([] : List (List Int)), false)).2 = false then _ else _) = cnt ((full n LL k (d ++ [x])).map fun B => A ++ B ++ [negL d]) (m + 1)
            have e1 : cnt (some A) m = if A.length ≤ m then (A, true) else ([], false) := rfl
            rw [e1]
            by_cases hA : A.length ≤ m
            · rw [if_pos hA, if_neg (by simp), ih (m - A.length) (d ++ [x]) (by omega)]
              cases hb : full n LL k (d ++ [x]) with
              | none => rfl
              | some B =>
                have e2 : cnt (some B) (m - A.length) = if B.length ≤ m - A.length then (B, true) else ([], false) := rfl
                have e3 : cnt (some (A ++ B ++ [negL d])) (m + 1) = if (A ++ B ++ [negL d]).length ≤ m + 1 then (A ++ B ++ [negL d], true) else ([], false) := rfl
                show _ = cnt (some (A ++ B ++ [negL d])) (m + 1)
                rw [e2, e3]
                by_cases hB : B.length ≤ m - A.length
                · rw [if_pos hB, if_neg (by simp), if_pos (by simp; omega)]
                · rw [if_neg hB, if_pos rfl, if_neg (by simp; omega)]
            · rw [if_neg hA, if_pos rfl]
              cases hb : full n LL k (d ++ [x]) with
              | none => rfl
              | some B =>
                show _ = (if (A ++ B ++ [negL d]).length ≤ m + 1 then (A ++ B ++ [negL d], true) else ([], false))
                rw [if_neg (by simp; omega)]
/-- what fails tells of decisions -/
theorem fail_set (LL : List (List Int)) (d : List Int) : failB (LL.map setOf) (setOf d) = !(frc (LL.map setOf) 49 (setOf d) d).2 := by
  unfold wm.failB
  rw [frc_snd _ _ _ [] d]
theorem left_set {n : Nat} {LL : List (List Int)} {d : List Int} (h : (frc (LL.map setOf) 49 (setOf d) d).2 = true) : failN n (LL.map setOf) (setOf d) = freeN n (frc (LL.map setOf) 49 (setOf d) d).1 := by
  unfold wm.failN
  rw [fail_set, h]
  show leftN n (frt (LL.map setOf) 49 (setOf d)) = _
  rw [← frc_set (set_bd LL)]
  rfl
theorem free_fst {n : Nat} {LL : List (List Int)} {L : List Int} (hc : cnfB (n : Int) LL = true) : (freeN n L = 0 → freeL (n : Int) LL L = []) ∧ (freeN n L ≠ 0 → ∃ r, freeL (n : Int) LL L = fstI (freeN n L) :: r) := by
  have hf := fm.cnf_facts hc
  have e : freeL (n : Int) LL L = srt.srt (freeN n L) 48 := by unfold fm.freeL; rw [hc]; rfl
  rw [e]
  exact ⟨fun h => srt_none _ h, fun h => srt_head (Nat.pos_of_ne_zero h) (fm.freeN_lt L (by omega))⟩
/-- a clause follows at once: as the model asks, and as the program does -/
theorem fail_neg (M : List (List Int)) (L : List Int) : failB (M.map setOf) (oppN (setOf L)) = !(frc (M.map setOf) 49 (setOf (negL L)) (negL L)).2 := by
  rw [← set_neg]
  exact fail_set M (negL L)
theorem tot_small {M : List (List Int)} (h : ∀ L ∈ M, L.length ≤ 48) : tot M ≤ 49 * M.length := by
  have := fm.flat_len h
  unfold css.tot
  rw [List.length_flatten] at this
  omega
end Go.Proofs.YtheigbmkldlicaaDoor.xw
namespace Go.Proofs.YtheigbmkldlicaaDoor.xd
open Go.ChangeShapes Go.WideShapes Go.ChangeAt Go.RowKit
open Go.Proofs.YtheigbmkldlicaaDoor.lits (okB okB_iff)
open Go.Proofs.YtheigbmkldlicaaDoor.bset (setOf setOf_lt)
open Go.Proofs.YtheigbmkldlicaaDoor.srt (Tab oppN)
open Go.Proofs.YtheigbmkldlicaaDoor.css (tot Sls OwnS)
open Go.Proofs.YtheigbmkldlicaaDoor.cf (Box)
open Go.Proofs.YtheigbmkldlicaaDoor.ok (cnfB clB)
open Go.Proofs.YtheigbmkldlicaaDoor.gr (MidF)
open Go.Proofs.YtheigbmkldlicaaDoor.wo (Made)
open Go.Proofs.YtheigbmkldlicaaDoor.sp (negL)
open Go.Proofs.YtheigbmkldlicaaDoor.wm (frc failB badN BadAt)
open Go.Proofs.YtheigbmkldlicaaDoor.app (stepI stepJ own_at made_nil)
open Go.Proofs.YtheigbmkldlicaaDoor.sl (Sl Own ints hide unhide grown_refl grown_trans grown_drewN)
set_option linter.unusedVariables false
attribute [local go_sem ↓] Go.wp_at_zero Go.wp_at_succ
/-- the clauses ahead are clauses -/
structure Ahd (n : Int) (LL PP : List (List Int)) (k : Nat) : Prop where
  ok : ∀ c ∈ LL ++ PP.take k, ∀ x ∈ c, okB x = true
  l48 : ∀ c ∈ LL ++ PP.take k, c.length ≤ 48
theorem Ahd.start {n : Int} {LL PP : List (List Int)} (h : cnfB n LL = true) : Ahd n LL PP 0 := by
  have hf := fm.cnf_facts h
  refine ⟨?_, ?_⟩
  · rw [List.take_zero, List.append_nil]
    exact sp.okU_facts h
  · rw [List.take_zero, List.append_nil]
    exact fun c hc => (hf.2.2.2 c hc).1
theorem Ahd.next {n : Int} {LL PP : List (List Int)} {k : Nat} (h : Ahd n LL PP k) (hk : k < PP.length) (hb : clB n (PP.getD k []) = true) : Ahd n LL PP (k + 1) := by
  have e : LL ++ PP.take (k + 1) = (LL ++ PP.take k) ++ [PP.getD k []] := by rw [css.take_snoc PP k hk, List.append_assoc]
  have h48 : (PP.getD k []).length ≤ 48 := by
    unfold ok.clB at hb
    rw [Bool.and_eq_true, decide_eq_true_iff] at hb
    exact hb.2
  refine ⟨fun c hc => ?_, fun c hc => ?_⟩
  · rw [e] at hc
    rcases List.mem_append.1 hc with q | q
    · exact h.ok c q
    · rw [List.mem_singleton] at q
      rw [q]
      exact sp.cl_ok hb
  · rw [e] at hc
    rcases List.mem_append.1 hc with q | q
    · exact h.l48 c q
    · rw [List.mem_singleton] at q
      rw [q]
      exact h48
theorem Ahd.tot {n : Int} {LL PP : List (List Int)} {k : Nat} (h : Ahd n LL PP k) (hl : LL.length ≤ 120) (hp : PP.length ≤ 700) : tot (LL ++ PP.take k) ≤ 1048576 := by
  have := xw.tot_small h.l48
  rw [List.length_append, List.length_take] at this
  omega
set_option maxRecDepth 100000 in
set_option maxHeartbeats 8000000 in
theorem l06Bad (v u : Value) (n : Int) (LL PP : List (List Int)) (lo hi lo2 hi2 : Nat) (w : World) (hc : cnfB n LL = true) (hn : tot LL ≤ 1048576) (hp : PP.length ≤ 700) (ht : tot PP ≤ 1048576) (hv : OwnS lo hi w v LL) (hhi : hi ≤ w.heap.size) (hu : OwnS lo2 hi2 w u PP) :
    Calls Tryd.prog 58 #[.agg #[.int .i64 n, v], u] w fun e w' => e = .returned (.int .i64 (badN n (LL.map setOf) PP : Int)) ∧ w.grownBy w' none := by
  have B0 := hide (BadAt.start n (LL.map setOf) PP)
  generalize badN n (LL.map setOf) PP = R at *
  have hf := fm.cnf_facts hc
  have hll : LL.length ≤ 120 := hf.2.2.1
  have A0 := hide (Ahd.start (PP := PP) hc)
  have g0 := World.grownBy_alloc w (.cells #[.int .i64 n, v] 26) none
  have F0 := hide (Box.new 26 w (.int .i64 n) v)
  have CC := hide (jn.l02Copy v n LL lo hi _ hn (hv.kept g0) (Nat.le_trans hhi g0.size))
  have x0 := (unhide F0).c0
  have x1 := (unhide F0).c1
  have G0 := hide g0
  have HU := hide hu
  obtain ⟨ua, uc, rfl⟩ := hu.len
  clear hv hu g0 hf
  go_enter Tryd.func58, Tryd.ntmps58
  go_wp2_with fail
  refine (unhide CC).mono ?_; rintro e w1 ⟨u1, rfl, o1, g1⟩
  obtain ⟨a1, c1, rfl⟩ := o1.len
  have st : Hid (MidF w (w1.alloc (.cells #[.int .i64 n, .slice a1 LL.length c1] 26)) w1.heap.size n (LL ++ PP.take 0) [(w.heap.size, .int .i64 n, v)]) := by
    have ga := World.grownBy_alloc w1 (.cells #[.int .i64 n, .slice a1 LL.length c1] 26) none
    have gg := grown_trans (r := none) (unhide G0) g1
    rw [List.take_zero, List.append_nil]
    refine ⟨gg.size, grown_trans gg ga, ?_, a1, c1, Box.new 26 w1 _ _, ((o1.kept ga).sub (by rw [World.size_alloc]; omega) ga.size)⟩
    intro b hb
    simp only [List.mem_singleton] at hb
    subst hb
    exact ⟨by have := ((unhide F0).kept g1).lt; show w.heap.size ≠ w1.heap.size; omega, ((unhide F0).kept g1).kept ga⟩
  clear o1 g1 x0 x1 CC F0
  go_wp2_with fail
  generalize w1.alloc (.cells #[.int .i64 n, .slice a1 LL.length c1] 26) = W1 at *
  generalize w1.heap.size = c at *
  go_loopw [6] (fun i wr => ∃ k : Nat, k ≤ PP.length ∧ i = .int .i64 (k : Int) ∧ Hid (MidF w wr c n (LL ++ PP.take k) [(w.heap.size, .int .i64 n, v)]) ∧ Hid (Ahd n LL PP k) ∧ Hid (BadAt n (LL.map setOf) PP R k)) (fun i _ => PP.length - (intOf i).toNat)
  case atStart => exact ⟨0, Nat.zero_le _, rfl, st, A0, B0⟩
  case round =>
    obtain ⟨k, hk, rfl, hm, hA, hB⟩ := hrel
    clear st A0 B0
    by_cases hlt : k < PP.length
    · have hi' : (k : Int) < (PP.length : Int) := by omega
      have hgw := (unhide hm).grown
      obtain ⟨g, cap', u', e, hgl, y1, hu0⟩ := own_at ((unhide HU).kept hgw) k hlt
      simp only [Value.slice.injEq] at e
      obtain ⟨rfl, _, rfl⟩ := e
      have bf := (unhide hm).box w.heap.size (.int .i64 n) v (by simp)
      have f0 := bf.c0
      have hL := Nat.le_trans (css.tot_in PP k) ht
      have CL := hide (fun nq => ok.specClause u' (PP.getD k []) n (wr.drewN nq) hL (hu0.kept (grown_drewN wr nq)).sl)
      have htt := (unhide hA).tot hll hp
      have ST := hide (fun hx => (unhide hB).stop hlt hx)
      have NB := hide (fun hx => (unhide hB).next hlt hx)
      have NA := hide (fun hx => (unhide hA).next hlt hx)
      have hts := css.take_snoc PP k hlt
      have hML : (LL ++ PP.take k).length ≤ 1048576 := by rw [List.length_append, List.length_take]; omega
      have HTS : Hid (LL ++ PP.take (k + 1) = (LL ++ PP.take k) ++ [PP.getD k []]) := by show _ = _; rw [hts, List.append_assoc]
      have EFB := hide (xw.fail_neg (LL ++ PP.take k) (PP.getD k []))
      rw [List.map_append] at EFB
      have GW := hide hgw
      obtain ⟨ea, ec, ee, _⟩ := hu0.sl
      have U0 := hide hu0
      subst ee
      have HML := hide hML
      have HTT := hide htt
      clear hgw bf hu0 hts hB hML htt
      generalize PP.getD k [] = L at *
      cases hcl : clB n L
      · rw [hcl] at CL
        have R1 := hide (unhide ST (by rw [hcl]; rfl))
        clear ST NB NA EFB hcl
        go_wp2_with fail
        go_quiet (first | (go_at_call 95; exact Calls.quiet_of_same (unhide CL _)))
        go_wp2_with fail
        go_ret
        exact ⟨by rw [unhide R1]; rfl, grown_trans (unhide GW) (grown_drewN _ _)⟩
      · rw [hcl] at CL ST NB
        have hok := sp.cl_ok hcl
        have NA' := hide (unhide NA hcl)
        clear NA hcl
        go_wp2_with fail
        go_quiet (first | (go_at_call 95; exact Calls.quiet_of_same (unhide CL _)))
        have EB : Hid (failB (LL.map setOf ++ (PP.take k).map setOf) (oppN (setOf L)) = !(frc ((LL ++ PP.take k).map setOf) 49 (setOf (negL L)) (negL L)).2) := by
          show _ = _
          rw [← List.map_append]
          exact xw.fail_neg (LL ++ PP.take k) L
        have hokA := (unhide hA).ok
        obtain ⟨q0, q1, q2, oa, ocap, q3, q4⟩ := unhide hm
        have GQ := hide (fun m => grown_trans (r := none) (grown_drewN wr m) (cf.grown_drew (wr.drewN m) none))
        have CO := hide (fun wz (gz : wr.grownBy wz none) => sp.l04Opposite _ L wz hL hok ((unhide U0).kept gz).sl)
        have hnl : (negL L).length ≤ 1048576 := by unfold sp.negL; rw [List.length_map]; exact hL
        have CF := hide (fun wz (gz : wr.grownBy wz none) r lo' hi' (o : Own lo' hi' wz r (negL L)) => sp.l04Force _ r n (LL ++ PP.take k) (negL L) lo' hi' wz (unhide HTT) hnl hokA (q4.kept gz).sls o)
        have SK : Hid (∀ wz, wr.grownBy wz none → wz.cell? ⟨c, 0, none⟩ = some (.int .i64 n) ∧ wz.cell? ⟨c, 1, none⟩ = some (.slice oa (LL ++ PP.take k).length ocap) ∧ wz.cell? ⟨g, k, none⟩ = some (.slice ea L.length ec)) := fun wz gz => ⟨(q3.kept gz).c0, (q3.kept gz).c1, gz.cell y1 (fun e => by cases e)⟩
        have HM := hide (fun w3 (g3 : wr.grownBy w3 none) => And.intro q0 (And.intro (grown_trans (r := none) q1 g3) (And.intro (fun b hb => And.intro (q2 b hb).1 ((q2 b hb).2.kept g3)) (And.intro (q3.kept g3) ((q4.kept g3).sub (Nat.le_refl _) g3.size)))))
        clear hm hA q0 q1 q2 q3 q4 hokA hok EFB CL
        generalize hfb : (frc ((LL ++ PP.take k).map setOf) 49 (setOf (negL L)) (negL L)).2 = fb at *
        generalize hfl : (frc ((LL ++ PP.take k).map setOf) 49 (setOf (negL L)) (negL L)).1 = fl at *
        generalize hMM : LL ++ PP.take k = M at *
        clear hfb hfl
        go_wp2_with fail
        go_region_held3 (fun w' => w'.cell? ⟨c, 0, none⟩ = some (.int .i64 n) ∧ w'.cell? ⟨c, 1, none⟩ = some (.slice oa M.length ocap) ∧ w'.cell? ⟨g, k, none⟩ = some (.slice ea L.length ec)) (first | exact unhide SK _ (unhide G3) | exact unhide SK _ (unhide G2) | exact unhide SK _ (unhide GQ _) | go_keep) (first
          | (go_at_call 85; refine (unhide CO _ (unhide GQ _)).mono ?_; rintro e w2 ⟨r2, rfl, m2⟩; obtain ⟨ra, rc, er, _⟩ := Sl.of_own m2.1; subst er; have G2 := hide (grown_trans (r := none) (unhide GQ _) m2.2); have CF2 := hide (unhide CF w2 (unhide G2) _ _ _ (Own.of m2.1)); clear m2)
          | (go_at_call 96; refine (unhide CF2).mono ?_; rintro e w3 ⟨r3, rfl, m3⟩; have G3 := hide (grown_trans (r := none) (unhide G2) m3.2); clear m3))
        have GW3 := hide (grown_trans (r := none) (unhide GW) (unhide G3))
        cases fb
        · have RB := hide (unhide NB (by rw [unhide EB]; rfl))
          have m3 := unhide HM w3 (unhide G3)
          have y3 := (unhide G3).cell y1 (fun e => by cases e)
          have u3 := (unhide U0).kept (unhide G3)
          have hM := unhide HML
          clear ST NB EB SK CO CF CF2 G2 GQ HM U0 y1 f0
          obtain ⟨q0, q1, q2, q3, q4⟩ := m3
          have mn := made_nil w3
          have c2 := mn.2.cell y3 (fun e => by cases e)
          have o1 := q3.c1
          have of1 := q3.f 1
          have o2 := (q3.kept mn.2).c1
          have U0 := hide ((u3.kept mn.2).kept (cf.grown_drew _ none))
          have MN := hide (And.intro (mn.1.drew) (grown_trans (r := none) mn.2 (cf.grown_drew _ none)))
          have Q0 := hide q0
          have Q1 := hide q1
          have Q2 := hide q2
          have Q3 := hide q3
          have Q4 := hide q4
          clear u3 mn q0 q1 q2 q3 q4 hMM
          go_wp2_with fail
          go_region_law
            (first
              | (refine stepI (A := []) (unhide MN).2 (unhide MN).1 (unhide U0) (by show 0 + L.length ≤ 4194304; omega) (by rfl) _ _ (by rfl) (by rfl) (by rfl) ?_; intro y w1 m1 g1; have m1' : Made w3 w1 y L := m1; obtain ⟨ya, yc, e3, _⟩ := sl.Sl.of_own m1'.1; subst e3; have Y1 := hide (Own.of m1'.1); have G1 := hide m1'.2; have k1 := ((unhide Q3).kept (unhide G1)).c1; have k2 := ((unhide Q3).kept (unhide G1)).f 1; have k9 := (((unhide Q3).kept (unhide G1)).kept (World.grownBy_alloc w1 (.cells #[.slice ya L.length yc] 31) none)).c1; clear m1 m1' g1)
              | (refine gr.stepR ((unhide Q4).kept (unhide G1)) (unhide Y1) (unhide Q1).size (unhide G1).size hM (by rfl) _ _ (by rfl) (by rfl) (by rfl) ?_; intro g3 cap3 w3 h3 g3'; have R3 := hide (gr.MidF.step (unhide Q0) (unhide Q1) (unhide Q2) (unhide Q3) (unhide Q4) (unhide G1) h3 g3'); have k3 := (unhide R3).1.1; have k4 := (unhide R3).1.2.1; clear h3 g3'))
          all_goals
            go_wp2_with fail
            go_roundw
            case rel => exact ⟨k + 1, by omega, by go_num, by rw [unhide HTS]; exact (unhide R3).2, unhide NA', unhide RB⟩
            case measure => simp [intOf]; omega
        · have R1 := hide (unhide ST (by rw [unhide EB]; rfl))
          clear ST NB EB SK CO CF CF2 G2 GQ HM U0
          go_wp2_with fail
          go_ret
          exact ⟨by rw [unhide R1]; rfl, unhide GW3⟩
    · have hi' : ¬ (k : Int) < (PP.length : Int) := by omega
      have R1 := hide ((unhide hB).fin hlt hk)
      have GW := hide (unhide hm).grown
      clear hB hm hA
      go_wp2_with fail
      go_ret
      exact ⟨by rw [unhide R1]; rfl, unhide GW⟩
end Go.Proofs.YtheigbmkldlicaaDoor.xd
namespace Go.Proofs.YtheigbmkldlicaaDoor.xe
open Go.ChangeShapes Go.WideShapes Go.ChangeAt Go.RowKit
open Go.Proofs.YtheigbmkldlicaaDoor.bset (setOf setOf_lt)
open Go.Proofs.YtheigbmkldlicaaDoor.srt (Tab)
open Go.Proofs.YtheigbmkldlicaaDoor.css (tot Sls OwnS)
open Go.Proofs.YtheigbmkldlicaaDoor.cf (Box)
open Go.Proofs.YtheigbmkldlicaaDoor.ok (cnfB)
open Go.Proofs.YtheigbmkldlicaaDoor.wm (badN bad_le set_bd)
open Go.Proofs.YtheigbmkldlicaaDoor.sl (Sl Own ints hide unhide grown_refl grown_trans grown_drewN)
set_option linter.unusedVariables false
def badB (n : Int) (LL PP : List (List Int)) : Int := if cnfB n LL && decide (PP.length ≤ 700) then (badN n (LL.map setOf) PP : Int) else -1
theorem bad_no {n : Int} {LL PP : List (List Int)} (h : cnfB n LL = false) : badB n LL PP = -1 := by unfold badB; rw [h]; rfl
theorem bad_long {n : Int} {LL PP : List (List Int)} (h : ¬ PP.length ≤ 700) : badB n LL PP = -1 := by unfold badB; rw [decide_eq_false h, Bool.and_false]; rfl
theorem bad_yes {n : Int} {LL PP : List (List Int)} (h : cnfB n LL = true) (hl : PP.length ≤ 700) : badB n LL PP = (badN n (LL.map setOf) PP : Int) := by unfold badB; rw [h, decide_eq_true hl]; rfl
theorem bad_bd (n : Int) (LL PP : List (List Int)) : -1 ≤ badB n LL PP ∧ badB n LL PP ≤ PP.length := by
  unfold badB
  split
  · have := bad_le n PP (LL.map setOf)
    omega
  · omega
set_option maxRecDepth 100000 in
set_option maxHeartbeats 4000000 in
theorem specFirstBad (v u : Value) (n : Int) (LL PP : List (List Int)) (lo hi lo2 hi2 : Nat) (w : World) (hn : tot LL ≤ 1048576) (ht : tot PP ≤ 1048576) (hv : OwnS lo hi w v LL) (hhi : hi ≤ w.heap.size) (hu : OwnS lo2 hi2 w u PP) :
    Calls Tryd.prog 23 #[.agg #[.int .i64 n, v], u] w fun e w' => e = .returned (.int .i64 (badB n LL PP)) ∧ w.grownBy w' none := by
  have g0 := World.grownBy_alloc w (.cells #[.int .i64 n, v] 26) none
  have cc := ok.specCnfOk v n LL _ hn (hv.kept g0).sls
  have F0 := hide (Box.new 26 w (.int .i64 n) v)
  have CB := hide (fun hc hp w1 (g : w.grownBy w1 none) => xd.l06Bad v u n LL PP lo hi lo2 hi2 w1 hc hn hp ht (hv.kept g) (Nat.le_trans hhi g.size) (hu.kept g))
  have G0 := hide g0
  have x0 := (unhide F0).c0
  have x1 := (unhide F0).c1
  obtain ⟨ua, uc, rfl⟩ := hu.len
  clear hv hu g0
  cases hb : cnfB n LL
  · rw [hb] at cc
    have CC := hide cc
    rw [bad_no hb]
    clear cc hb CB
    go_enter Tryd.func23, Tryd.ntmps23
    go_wp2_with fail
    refine (unhide CC).mono ?_; rintro e w2 ⟨rfl, g2⟩
    have G2 := hide (grown_trans (r := none) (unhide G0) g2)
    clear g2
    go_wp2_with fail
    go_ret
    exact ⟨rfl, unhide G2⟩
  · rw [hb] at cc
    have CC := hide cc
    by_cases hl : PP.length ≤ 700
    · have hi' : ¬ (700 : Int) < (PP.length : Int) := by omega
      have CB1 := hide (unhide CB hb hl)
      rw [bad_yes hb hl]
      generalize badN n (LL.map setOf) PP = R at *
      clear cc hb CB hl
      go_enter Tryd.func23, Tryd.ntmps23
      go_wp2_with fail
      refine (unhide CC).mono ?_; rintro e w2 ⟨rfl, g2⟩
      have G2 := hide (grown_trans (r := none) (unhide G0) g2)
      have b2 := (unhide F0).kept g2
      have y0 := b2.c0
      have y1 := b2.c1
      clear g2 b2 x0 x1
      go_wp2_with fail
      refine (unhide CB1 w2 (unhide G2)).mono ?_; rintro e w3 ⟨rfl, g3⟩
      have G3 := hide (grown_trans (r := none) (unhide G2) g3)
      clear g3
      go_wp2_with fail
      go_ret
      exact ⟨rfl, unhide G3⟩
    · have hi' : (700 : Int) < (PP.length : Int) := by omega
      rw [bad_long hl]
      clear cc hb CB hl
      go_enter Tryd.func23, Tryd.ntmps23
      go_wp2_with fail
      refine (unhide CC).mono ?_; rintro e w2 ⟨rfl, g2⟩
      have G2 := hide (grown_trans (r := none) (unhide G0) g2)
      clear g2
      go_wp2_with fail
      go_ret
      exact ⟨rfl, unhide G2⟩
set_option maxRecDepth 100000 in
set_option maxHeartbeats 4000000 in
theorem implFirstBad (v u : Value) (n : Int) (LL PP : List (List Int)) (w : World) (hT : Tab w) (hn : tot LL ≤ 1048576) (ht : tot PP ≤ 1048576) (hv : Sls w v LL) (hu : Sls w u PP) :
    Calls Tryd.prog 19 #[.agg #[.int .i64 n, v], u] w fun e w' => e = .returned (.int .i64 (badB n LL PP)) ∧ w.grownBy w' none := by
  have g0 := World.grownBy_alloc w (.cells #[.int .i64 n, v] 26) none
  have cc := ok.implCnfOk v n LL _ hn (hv.kept g0)
  have F0 := hide (Box.new 26 w (.int .i64 n) v)
  have CK := hide (fun (hl : LL.length + ([] : List Nat).length ≤ 1048576) w2 (g : w.grownBy w2 none) => wm.checkerOf v (.slice none 0 0) n LL [] 0 w2 (hT.kept g) hn (hv.kept g) (World.ownsRow_nil _ _ _ _) (fun S h => by cases h) hl)
  rw [List.append_nil] at CK
  have CB := hide (fun (m : Nat) (hm : m ≤ 24) (hN : (LL.map setOf).length + PP.length ≤ 1048576) w2 (g : w.grownBy w2 none) w3 c s (h : wm.Wof (LL.map setOf) 110 [.int .i64 (m : Int)] w2 w3 c s) => wm.firstBad u PP h (hT.kept g) hm hN (set_bd LL) ht (hu.kept g))
  have G0 := hide g0
  have x0 := (unhide F0).c0
  have x1 := (unhide F0).c1
  obtain ⟨ua, uc, rfl, _⟩ := id hu
  clear hv hu g0 hT
  cases hb : cnfB n LL
  · rw [hb] at cc
    have CC := hide cc
    rw [bad_no hb]
    clear cc hb CB CK
    go_enter Tryd.func19, Tryd.ntmps19
    go_wp2_with fail
    refine (unhide CC).mono ?_; rintro e w2 ⟨rfl, g2⟩
    have G2 := hide (grown_trans (r := none) (unhide G0) g2)
    clear g2
    go_wp2_with fail
    go_ret
    exact ⟨rfl, unhide G2⟩
  · have hf := fm.cnf_facts hb
    obtain ⟨m, rfl⟩ := Int.eq_ofNat_of_zero_le hf.1
    rw [hb] at cc
    have CC := hide cc
    by_cases hl : PP.length ≤ 700
    · have hi' : ¬ (700 : Int) < (PP.length : Int) := by omega
      have CK1 := hide (unhide CK (by simp; omega))
      have CB1 := hide (unhide CB m (by omega) (by rw [List.length_map]; omega))
      rw [bad_yes hb hl]
      generalize badN (m : Int) (LL.map setOf) PP = R at *
      clear cc hb CB CK hl hf
      go_enter Tryd.func19, Tryd.ntmps19
      go_wp2_with fail
      refine (unhide CC).mono ?_; rintro e w2 ⟨rfl, g2⟩
      have G2 := hide (grown_trans (r := none) (unhide G0) g2)
      have b2 := (unhide F0).kept g2
      have y0 := b2.c0
      have y1 := b2.c1
      clear g2 b2 x0 x1
      go_wp2_with fail
      refine (unhide CK1 w2 (unhide G2)).mono ?_; rintro e w3 ⟨c, s, rfl, h3⟩
      have CB3 := hide (unhide CB1 w2 (unhide G2) w3 c s h3)
      clear h3 CB1 CK1
      go_wp2_with fail
      refine (unhide CB3).mono ?_; rintro e w4 ⟨rfl, g4⟩
      have G4 := hide (grown_trans (r := none) (unhide G2) g4)
      clear g4
      go_wp2_with fail
      go_ret
      exact ⟨rfl, unhide G4⟩
    · have hi' : (700 : Int) < (PP.length : Int) := by omega
      rw [bad_long hl]
      clear cc hb CB CK hl hf
      go_enter Tryd.func19, Tryd.ntmps19
      go_wp2_with fail
      refine (unhide CC).mono ?_; rintro e w2 ⟨rfl, g2⟩
      have G2 := hide (grown_trans (r := none) (unhide G0) g2)
      clear g2
      go_wp2_with fail
      go_ret
      exact ⟨rfl, unhide G2⟩
/-- whether it is a proof -/
def checkB (n : Int) (LL PP : List (List Int)) : Bool := decide (badB n LL PP = (PP.length : Int)) && decide (0 < PP.length) && decide ((PP.getD (PP.length - 1) []).length = 0)
theorem check_nil {n : Int} {LL PP : List (List Int)} (h : PP.length = 0) : checkB n LL PP = false := by unfold checkB; rw [h]; simp
set_option maxRecDepth 100000 in
set_option maxHeartbeats 4000000 in
theorem specCheck (v u : Value) (n : Int) (LL PP : List (List Int)) (lo hi lo2 hi2 : Nat) (w : World) (hn : tot LL ≤ 1048576) (ht : tot PP ≤ 1048576) (hv : OwnS lo hi w v LL) (hhi : hi ≤ w.heap.size) (hu : OwnS lo2 hi2 w u PP) :
    Calls Tryd.prog 22 #[.agg #[.int .i64 n, v], u] w fun e w' => e = .returned (.bool (checkB n LL PP)) ∧ w.grownBy w' none := by
  have g0 := World.grownBy_alloc w (.cells #[.int .i64 n, v] 26) none
  have F0 := hide (Box.new 26 w (.int .i64 n) v)
  have CB := hide (specFirstBad v u n LL PP lo hi lo2 hi2 _ hn ht (hv.kept g0) (Nat.le_trans hhi g0.size) (hu.kept g0))
  have G0 := hide g0
  have x0 := (unhide F0).c0
  have x1 := (unhide F0).c1
  by_cases h0 : PP.length = 0
  · rw [check_nil h0]
    obtain ⟨ua, uc, rfl⟩ := hu.len
    have hlz : ((PP.length : Int)) = 0 := by omega
    clear hv hu g0 CB
    generalize PP.length = N at *
    subst h0
    go_enter Tryd.func22, Tryd.ntmps22
    go_wp2_with fail
    go_ret
    exact ⟨rfl, unhide G0⟩
  · obtain ⟨g, cap, u', e, hgl, c1, hu0⟩ := app.own_at hu (PP.length - 1) (by omega)
    subst e
    obtain ⟨ea, ec, ee, _⟩ := hu0.sl
    subst ee
    have EC : Hid (checkB n LL PP = (decide (badB n LL PP = (PP.length : Int)) && decide ((PP.getD (PP.length - 1) []).length = 0))) := by
      show _ = _
      unfold checkB
      rw [decide_eq_true (show 0 < PP.length by omega), Bool.and_true]
    have hbd := bad_bd n LL PP
    have C1 := hide c1
    have hlt := Nat.le_trans (css.tot_in PP (PP.length - 1)) ht
    have hpl := Nat.le_trans (css.tot_len PP) ht
    clear hv hu g0 hu0 c1
    generalize PP.getD (PP.length - 1) [] = L at *
    generalize badB n LL PP = B at *
    generalize PP.length = N at *
    obtain ⟨K, rfl⟩ : ∃ K, N = K + 1 := ⟨N - 1, by omega⟩
    rw [show K + 1 - 1 = K by omega] at C1
    have c1 := unhide C1
    have q1 : (0 : Int) ≤ (K : Int) := by omega
    have q2 : (K : Int) < ((K + 1 : Nat) : Int) := by omega
    generalize L.length = l at *
    go_enter Tryd.func22, Tryd.ntmps22
    go_wp2_with fail
    refine (unhide CB).mono ?_; rintro e w2 ⟨rfl, g2⟩
    have G2 := hide (grown_trans (r := none) (unhide G0) g2)
    have y1 := g2.cell ((World.grownBy_alloc w (.cells #[.int .i64 n, v] 26) none).cell c1 (fun e => by cases e)) (fun e => by cases e)
    clear g2 CB c1 C1 x0 x1 F0
    by_cases hB : B = ((K + 1 : Nat) : Int)
    · have EC2 : Hid (checkB n LL PP = decide (l = 0)) := by show _ = _; rw [unhide EC, decide_eq_true hB, Bool.true_and]
      have hB' : (B == (K : Int) + 1) = true := by rw [beq_iff_eq]; omega
      have hlz : ((l : Int) == 0) = decide (l = 0) := by
        rw [Bool.eq_iff_iff, beq_iff_eq, decide_eq_true_iff]
        omega
      clear hB EC hbd
      go_wp2_with fail
      go_ret
      exact ⟨by rw [unhide EC2]; rfl, unhide G2⟩
    · have EC2 : Hid (checkB n LL PP = false) := by show _ = _; rw [unhide EC, decide_eq_false hB, Bool.false_and]
      have hB' : (B == (K : Int) + 1) = false := by rw [beq_eq_false_iff_ne]; omega
      clear hB EC hbd
      go_wp2_with fail
      go_ret
      exact ⟨by rw [unhide EC2]; rfl, unhide G2⟩
set_option maxRecDepth 100000 in
set_option maxHeartbeats 4000000 in
theorem implCheck (v u : Value) (n : Int) (LL PP : List (List Int)) (w : World) (hT : Tab w) (hn : tot LL ≤ 1048576) (ht : tot PP ≤ 1048576) (hv : Sls w v LL) (hu : Sls w u PP) :
    Calls Tryd.prog 18 #[.agg #[.int .i64 n, v], u] w fun e w' => e = .returned (.bool (checkB n LL PP)) ∧ w.grownBy w' none := by
  have g0 := World.grownBy_alloc w (.cells #[.int .i64 n, v] 26) none
  have F0 := hide (Box.new 26 w (.int .i64 n) v)
  have CB := hide (implFirstBad v u n LL PP _ (hT.kept g0) hn ht (hv.kept g0) (hu.kept g0))
  have G0 := hide g0
  have x0 := (unhide F0).c0
  have x1 := (unhide F0).c1
  obtain ⟨ua, uc, rfl, ha⟩ := hu
  by_cases h0 : PP.length = 0
  · rw [check_nil h0]
    clear hv ha g0 CB hT
    generalize PP.length = N at *
    subst h0
    go_enter Tryd.func18, Tryd.ntmps18
    go_wp2_with fail
    go_ret
    exact ⟨rfl, unhide G0⟩
  · rcases ha with h | ⟨b, off, rfl, hbb, hcb⟩
    · rw [h] at h0
      simp at h0
    obtain ⟨u', c1, hs⟩ := hcb (PP.length - 1) (by omega)
    obtain ⟨ea, ec, ee, _⟩ := hs
    subst ee
    have EC : Hid (checkB n LL PP = (decide (badB n LL PP = (PP.length : Int)) && decide ((PP.getD (PP.length - 1) []).length = 0))) := by
      show _ = _
      unfold checkB
      rw [decide_eq_true (show 0 < PP.length by omega), Bool.and_true]
    have hbd := bad_bd n LL PP
    have C1 := hide (g0.cell c1 (fun e => by cases e))
    have hlt := Nat.le_trans (css.tot_in PP (PP.length - 1)) ht
    have hpl := Nat.le_trans (css.tot_len PP) ht
    clear hv g0 c1 hcb hbb hT
    generalize PP.getD (PP.length - 1) [] = L at *
    generalize badB n LL PP = B at *
    generalize PP.length = N at *
    obtain ⟨K, rfl⟩ : ∃ K, N = K + 1 := ⟨N - 1, by omega⟩
    rw [show K + 1 - 1 = K by omega] at C1
    have c1 := unhide C1
    have q1 : (0 : Int) ≤ (K : Int) := by omega
    have q2 : (K : Int) < ((K + 1 : Nat) : Int) := by omega
    by_cases hL : L.length = 0
    · have EC2 : Hid (checkB n LL PP = decide (B = ((K + 1 : Nat) : Int))) := by show _ = _; rw [unhide EC, decide_eq_true hL, Bool.and_true]
      have hB' : (B == (K : Int) + 1) = decide (B = ((K + 1 : Nat) : Int)) := by
        rw [Bool.eq_iff_iff, beq_iff_eq, decide_eq_true_iff]
        omega
      have hlz : ((L.length : Int) == 0) = true := by rw [beq_iff_eq]; omega
      clear EC hbd hL
      go_enter Tryd.func18, Tryd.ntmps18
      go_wp2_with fail
      refine (unhide CB).mono ?_; rintro e w2 ⟨rfl, g2⟩
      have G2 := hide (grown_trans (r := none) (unhide G0) g2)
      clear g2 CB c1 C1 x0 x1 F0
      go_wp2_with fail
      go_ret
      exact ⟨by rw [unhide EC2]; rfl, unhide G2⟩
    · have EC2 : Hid (checkB n LL PP = false) := by show _ = _; rw [unhide EC, decide_eq_false hL, Bool.and_false]
      have hlz : ((L.length : Int) == 0) = false := by rw [beq_eq_false_iff_ne]; omega
      clear EC hbd hL CB
      go_enter Tryd.func18, Tryd.ntmps18
      go_wp2_with fail
      go_ret
      exact ⟨by rw [unhide EC2]; rfl, unhide G0⟩
theorem bothF (n : Int) (LL PP : List (List Int)) (hn : tot LL ≤ 1048576) (ht : tot PP ≤ 1048576) : ∃ b : Int,
    (∀ v u lo hi lo2 hi2 w, OwnS lo hi w v LL → hi ≤ w.heap.size → OwnS lo2 hi2 w u PP → Calls Tryd.prog 23 #[.agg #[.int .i64 n, v], u] w fun e w' => e = .returned (.int .i64 b) ∧ w.grownBy w' none) ∧
    (∀ v u w, Tab w → Sls w v LL → Sls w u PP → Calls Tryd.prog 19 #[.agg #[.int .i64 n, v], u] w fun e w' => e = .returned (.int .i64 b) ∧ w.grownBy w' none) :=
  ⟨_, fun v u lo hi lo2 hi2 w h k q => specFirstBad v u n LL PP lo hi lo2 hi2 w hn ht h k q, fun v u w t h q => implFirstBad v u n LL PP w t hn ht h q⟩
theorem bothC (n : Int) (LL PP : List (List Int)) (hn : tot LL ≤ 1048576) (ht : tot PP ≤ 1048576) : ∃ b : Bool,
    (∀ v u lo hi lo2 hi2 w, OwnS lo hi w v LL → hi ≤ w.heap.size → OwnS lo2 hi2 w u PP → Calls Tryd.prog 22 #[.agg #[.int .i64 n, v], u] w fun e w' => e = .returned (.bool b) ∧ w.grownBy w' none) ∧
    (∀ v u w, Tab w → Sls w v LL → Sls w u PP → Calls Tryd.prog 18 #[.agg #[.int .i64 n, v], u] w fun e w' => e = .returned (.bool b) ∧ w.grownBy w' none) :=
  ⟨_, fun v u lo hi lo2 hi2 w h k q => specCheck v u n LL PP lo hi lo2 hi2 w hn ht h k q, fun v u w t h q => implCheck v u n LL PP w t hn ht h q⟩
end Go.Proofs.YtheigbmkldlicaaDoor.xe
namespace Go.Proofs.YtheigbmkldlicaaDoor.xt
open Go.RowKit
open Go.Proofs.YtheigbmkldlicaaDoor.bset (setOf)
open Go.Proofs.YtheigbmkldlicaaDoor.css (tot)
open Go.Proofs.YtheigbmkldlicaaDoor.ok (cnfB clB)
open Go.Proofs.YtheigbmkldlicaaDoor.wm (badN bad_le failB)
open Go.Proofs.YtheigbmkldlicaaDoor.xe (badB checkB)
set_option linter.unusedVariables false
theorem bad_cons (n : Int) (Ss : List Nat) (L : List Int) (LL : List (List Int)) : badN n Ss (L :: LL) = if clB n L && failB Ss (srt.oppN (setOf L)) then badN n (Ss ++ [setOf L]) LL + 1 else 0 := rfl
theorem bad_app (n : Int) (A B : List (List Int)) : ∀ Ss, badN n Ss (A ++ B) = if badN n Ss A = A.length then A.length + badN n (Ss ++ A.map setOf) B else badN n Ss A := by
  induction A with
  | nil =>
    intro Ss
    have e : badN n Ss [] = 0 := rfl
    rw [List.nil_append, e, if_pos (show (0 : Nat) = ([] : List (List Int)).length from rfl), List.map_nil, List.append_nil, List.length_nil, Nat.zero_add]
  | cons L A ih =>
    intro Ss
    rw [List.cons_append, bad_cons, bad_cons]
    cases hb : clB n L && failB Ss (srt.oppN (setOf L))
    · rw [if_neg (by simp), if_neg (by rw [if_neg (by simp), List.length_cons]; omega), if_neg (by simp)]
    · rw [if_pos rfl, if_pos rfl, ih]
      by_cases h : badN n (Ss ++ [setOf L]) A = A.length
      · rw [if_pos h, if_pos (by rw [List.length_cons, h]), List.length_cons, List.map_cons, List.append_assoc]
        show A.length + badN n (Ss ++ (setOf L :: A.map setOf)) B + 1 = A.length + 1 + badN n (Ss ++ (setOf L :: A.map setOf)) B
        omega
      · rw [if_neg h, if_neg (by rw [List.length_cons]; omega)]
theorem bad_pre {n : Int} {Ss : List Nat} {A B : List (List Int)} (h : badN n Ss (A ++ B) = (A ++ B).length) : badN n Ss A = A.length := by
  rw [bad_app, List.length_append] at h
  by_cases h1 : badN n Ss A = A.length
  · exact h1
  · rw [if_neg h1] at h
    have := bad_le n A Ss
    omega
theorem bad_both {n : Int} {Ss : List Nat} {A B : List (List Int)} (h : badN n Ss A = A.length) : badN n Ss (A ++ B) = (A ++ B).length ↔ ¬ badN n (Ss ++ A.map setOf) B < B.length := by
  rw [bad_app, if_pos h, List.length_append]
  have := bad_le n B (Ss ++ A.map setOf)
  omega
/-- what is kept: K so far, of B still to come -/
def trm (n : Int) (Ss : List Nat) : List (List Int) → List (List Int) → List (List Int)
  | K, [] => K
  | K, L :: B => if B.length = 0 ∨ badN n (Ss ++ K.map setOf) B < B.length then trm n Ss (K ++ [L]) B else trm n Ss K B
def trimB (n : Int) (LL PP : List (List Int)) : List (List Int) × Bool := if checkB n LL PP then (trm n (LL.map setOf) [] PP, true) else ([], false)
theorem trm_keep {n : Int} {Ss : List Nat} {K B : List (List Int)} {L : List Int} (h : B.length = 0 ∨ badN n (Ss ++ K.map setOf) B < B.length) : trm n Ss K (L :: B) = trm n Ss (K ++ [L]) B := by
  rw [trm, if_pos h]
theorem trm_drop {n : Int} {Ss : List Nat} {K B : List (List Int)} {L : List Int} (h0 : B.length ≠ 0) (h : ¬ badN n (Ss ++ K.map setOf) B < B.length) : trm n Ss K (L :: B) = trm n Ss K B := by
  rw [trm, if_neg (fun q => q.elim h0 h)]
theorem trm_len (n : Int) (Ss : List Nat) (B : List (List Int)) : ∀ K, (trm n Ss K B).length ≤ K.length + B.length := by
  induction B with
  | nil => exact fun K => Nat.le_refl _
  | cons L B ih =>
    intro K
    unfold trm
    split
    · have := ih (K ++ [L])
      rw [List.length_append, List.length_singleton] at this
      rw [List.length_cons]
      omega
    · have := ih K
      rw [List.length_cons]
      omega
theorem trm_mem (n : Int) (Ss : List Nat) (B : List (List Int)) : ∀ K L, L ∈ trm n Ss K B → L ∈ K ∨ L ∈ B := by
  induction B with
  | nil => exact fun K L h => .inl h
  | cons M B ih =>
    intro K L h
    unfold trm at h
    split at h
    · rcases ih _ _ h with q | q
      · rcases List.mem_append.1 q with z | z
        · exact .inl z
        · rw [List.mem_singleton] at z
          exact .inr (by rw [z]; exact List.mem_cons_self ..)
      · exact .inr (List.mem_cons_of_mem _ q)
    · rcases ih _ _ h with q | q
      · exact .inl q
      · exact .inr (List.mem_cons_of_mem _ q)
theorem trm_sum (n : Int) (Ss : List Nat) (B : List (List Int)) : ∀ K, ((trm n Ss K B).map List.length).sum ≤ (K.map List.length).sum + (B.map List.length).sum := by
  induction B with
  | nil => intro K; exact Nat.le_add_right _ _
  | cons M B ih =>
    intro K
    unfold trm
    rw [List.map_cons, List.sum_cons]
    split
    · have := ih (K ++ [M])
      rw [List.map_append, List.sum_append] at this
      simp only [List.map_cons, List.map_nil, List.sum_cons, List.sum_nil] at this
      omega
    · have := ih K
      omega
theorem trm_tot (n : Int) (Ss : List Nat) (PP : List (List Int)) : tot (trm n Ss [] PP) ≤ tot PP := by
  have h1 := trm_len n Ss PP []
  have h2 := trm_sum n Ss PP []
  unfold css.tot
  simp only [List.length_nil, List.map_nil, List.sum_nil] at h1 h2
  omega
theorem check_facts {n : Int} {LL PP : List (List Int)} (h : checkB n LL PP = true) : cnfB n LL = true ∧ PP.length ≤ 700 ∧ badN n (LL.map setOf) PP = PP.length ∧ 0 < PP.length ∧ (PP.getD (PP.length - 1) []).length = 0 := by
  unfold xe.checkB at h
  rw [Bool.and_eq_true, Bool.and_eq_true, decide_eq_true_iff, decide_eq_true_iff, decide_eq_true_iff] at h
  obtain ⟨⟨h1, h2⟩, h3⟩ := h
  have hc : cnfB n LL = true := by
    cases hb : cnfB n LL
    · rw [xe.bad_no hb] at h1
      omega
    · rfl
  have hl : PP.length ≤ 700 := by
    rcases Nat.lt_or_ge 700 PP.length with q | q
    · rw [xe.bad_long (by omega)] at h1
      omega
    · exact q
  rw [xe.bad_yes hc hl] at h1
  exact ⟨hc, hl, by omega, h2, h3⟩
theorem check_of {n : Int} {LL PP : List (List Int)} (hc : cnfB n LL = true) (hl : PP.length ≤ 700) (hb : badN n (LL.map setOf) PP = PP.length) (h0 : 0 < PP.length) (hz : (PP.getD (PP.length - 1) []).length = 0) : checkB n LL PP = true := by
  unfold xe.checkB
  rw [xe.bad_yes hc hl, hb, decide_eq_true rfl, decide_eq_true h0, decide_eq_true hz]
  rfl
theorem last_app {A B : List (List Int)} (h : 0 < B.length) : (A ++ B).getD ((A ++ B).length - 1) [] = B.getD (B.length - 1) [] := by
  rw [List.length_append, List.getD, List.getD, List.getElem?_append_right (by omega)]
  congr 2
  omega
/-- where the model stands: K is gone through, B is still to come -/
structure Mod (n : Int) (LL : List (List Int)) (R K D : List (List Int)) : Prop where
  ck : checkB n LL (K ++ D) = true
  ne : 0 < D.length
  eq : trm n (LL.map setOf) K D = R
theorem Mod.end_ {n : Int} {LL R K D : List (List Int)} (h : Mod n LL R K D) (h1 : ¬ 1 < D.length) : K ++ D = R := by
  match D, h with
  | [], h => have := h.ne; simp at this
  | [L], h => rw [← h.eq, trm_keep (.inl rfl)]; rfl
  | _ :: _ :: _, _ => simp at h1
theorem Mod.cond {n : Int} {LL R K B : List (List Int)} {L : List Int} (h : Mod n LL R K (L :: B)) (h1 : 0 < B.length) : checkB n LL (K ++ B) = !decide (badN n (LL.map setOf ++ K.map setOf) B < B.length) := by
  obtain ⟨hc, hl, hb, _, hz⟩ := check_facts h.ck
  have hK := bad_pre hb
  have bb := bad_both (B := B) hK
  rw [List.length_append, List.length_cons] at hl
  by_cases q : badN n (LL.map setOf ++ K.map setOf) B < B.length
  · rw [decide_eq_true q]
    cases hx : checkB n LL (K ++ B)
    · rfl
    · exact absurd q (bb.1 (check_facts hx).2.2.1)
  · rw [decide_eq_false q]
    refine check_of hc (by rw [List.length_append]; omega) (bb.2 q) (by rw [List.length_append]; omega) ?_
    rw [last_app h1]
    have e := last_app (A := K ++ [L]) h1
    rw [List.append_assoc, List.singleton_append] at e
    rw [← e]
    exact hz
theorem Mod.drop {n : Int} {LL R K B : List (List Int)} {L : List Int} (h : Mod n LL R K (L :: B)) (h1 : 0 < B.length) (hc : checkB n LL (K ++ B) = true) : Mod n LL R K B := by
  have e := h.cond h1
  rw [hc] at e
  refine ⟨hc, h1, ?_⟩
  rw [← h.eq, trm_drop (by omega) (fun q => by rw [decide_eq_true q] at e; cases e)]
theorem Mod.keep {n : Int} {LL R K B : List (List Int)} {L : List Int} (h : Mod n LL R K (L :: B)) (h1 : 0 < B.length) (hc : checkB n LL (K ++ B) = false) : Mod n LL R (K ++ [L]) B := by
  have e := h.cond h1
  rw [hc] at e
  refine ⟨by rw [List.append_assoc]; exact h.ck, h1, ?_⟩
  rw [← h.eq, trm_keep (.inr ?_)]
  rcases Nat.lt_or_ge (badN n (LL.map setOf ++ K.map setOf) B) B.length with q | q
  · exact q
  · rw [decide_eq_false (by omega)] at e
    cases e
end Go.Proofs.YtheigbmkldlicaaDoor.xt
namespace Go.Proofs.YtheigbmkldlicaaDoor.xt
open Go.ChangeShapes Go.WideShapes Go.ChangeAt Go.RowKit
open Go.Proofs.YtheigbmkldlicaaDoor.bset (setOf)
open Go.Proofs.YtheigbmkldlicaaDoor.css (tot Sls OwnS Apart own_mono infoSl)
open Go.Proofs.YtheigbmkldlicaaDoor.cf (Box)
open Go.Proofs.YtheigbmkldlicaaDoor.wo (Made)
open Go.Proofs.YtheigbmkldlicaaDoor.xe (checkB)
open Go.Proofs.YtheigbmkldlicaaDoor.rq (nilS sub_own)
open Go.Proofs.YtheigbmkldlicaaDoor.app (made_nil own_at)
open Go.Proofs.YtheigbmkldlicaaDoor.sl (Sl Own ints hide unhide grown_refl grown_trans grown_drewN)
set_option linter.unusedVariables false
/-- an outer row that was made since wr, over the lists E -/
def Lss (wr w1 : World) (v : Value) (E : List (Value × List Int)) : Prop := w1.ownsRow wr.heap.size 31 1 v E.length (E.map (·.1)) ∧ wr.grownBy w1 none
theorem Lss.nil (wr : World) : Lss wr ((wr.alloc (.cells #[] 31)).drew) (.slice (some ⟨wr.heap.size, 0, none⟩) 0 0) [] :=
  ⟨(World.ownsRow_lit wr #[] 0 (Nat.le_refl _) (Nat.zero_le _) rfl).drew, grown_trans (World.grownBy_alloc _ _ none) (cf.grown_drew _ none)⟩
theorem stepV {ops : Array Oper} {X : Prop} {o : Oper} {a : Act} {K : Act → World → Prop} {Q : Exit → Act → World → Prop} {wr wx : World} {va : Value} {E F : List (Value × List Int)} {ad : Addr} {n m c : Nat}
    (hA : Lss wr wx va E) (hB : ∀ j p, F[j]? = some p → wx.cell? (ad.add j) = some p.1) (h1 : ∀ p ∈ F, p.1.oneCell' = true) (hn : n = E.length) (hm : m = F.length) (hl : E.length + F.length ≤ 1048576) (hgd : o.guard = none) (s x : Operand)
    (ho : o.op = .call { callee := .builtin .append, args := #[s, x], argTypes := #[24, 24] }) (hs : a.eval s = va) (hx : a.eval x = .slice (some ad) m c)
    (h : ∀ ad' cap' w1, Lss wr w1 (.slice ad' (n + m) cap') (E ++ F) → K (a.put o.dst (.slice ad' (n + m) cap')) w1) :
    if Region.wanted o (yielded ops a.tmps) = true then Oper.wp Tryd.prog o a wx K Q else X := by
  rw [if_pos (by simp [Region.wanted, hgd])]
  obtain ⟨i0, hi, hz0, hz1, hz2⟩ := info_parts infoSl
  subst hn hm
  obtain ⟨v', w', hr, h2, h3, _, _⟩ := run_append_own_at (P := Tryd.prog) wx wr.heap.size 24 o.type 31 i0 (.slice none 0 0) 1 24 Tryd.underlying24 hi hz0 hz1 hz2 rfl (by decide) va E.length (E.map (·.1)) hA.1 ad F.length c (F.map (·.1)) (by rw [List.length_map]; omega) (by
    intro j u hj
    rw [List.getElem?_map] at hj
    cases hq : F[j]? with
    | none => rw [hq] at hj; cases hj
    | some p =>
      rw [hq] at hj
      cases hj
      exact hB j p hq) (by
    intro u hu
    rw [List.mem_map] at hu
    obtain ⟨p, hp, rfl⟩ := hu
    exact h1 p hp) (by unfold maxLen; omega) (by omega) hA.2.size
  obtain ⟨ad', cp, ev⟩ : ∃ ad' cp, v' = .slice ad' (E.length + F.length) cp := by
    rcases h2.2 with ⟨hv, h0⟩ | ⟨g, cap, cur, hv, _⟩
    · exact ⟨none, 0, by rw [hv, h0]⟩
    · exact ⟨_, cap, hv⟩
  subst ev
  unfold Oper.wp execOp
  simp only [ho, resolve, invoke, builtin, Sem.run_bind, Sem.run_pure, Result.andThen_ok, List.map_toArray, List.map_cons, List.map_nil, hs, hx, hr]
  refine h ad' cp w' ⟨?_, ?_⟩
  · rw [List.length_append, List.map_append]
    exact h2
  · exact ⟨h3.os.trans hA.2.os, h3.tape.trans hA.2.tape, h3.output.trans hA.2.output, Nat.le_trans hA.2.size h3.size, fun k hk _ => (h3.block k (Nat.lt_of_lt_of_le hk hA.2.size) (fun e => by have := (hA.1.lt k e.symm).1; omega)).trans (hA.2.block k hk (fun e => by cases e))⟩
theorem lss_own {lo : Nat} {wr w1 : World} {v : Value} {D E : List (Value × List Int)} (h : Lss wr w1 v E) (hs : E.Sublist D) (hin : ∀ p ∈ D, Own lo wr.heap.size wr p.1 p.2) (hp : D.Pairwise Apart) (hlo : lo ≤ wr.heap.size) : OwnS lo w1.heap.size w1 v (E.map (·.2)) :=
  ⟨E, rfl, own_mono h.1 hlo, fun k e => (h.1.lt k e).2, fun p hp' => ⟨((hin p (hs.subset hp')).kept h.2).1, fun k e => Nat.lt_of_lt_of_le ((hin p (hs.subset hp')).2 k e) h.2.size⟩, hp.sublist hs⟩
theorem one_slice {lo hi : Nat} {w : World} {v : Value} {L : List Int} (h : Own lo hi w v L) : v.oneCell' = true := by
  obtain ⟨a, c, e, _⟩ := h.sl
  subst e
  rfl
/-- lists of the call's own, one of which goes -/
structure Gone (lo : Nat) (wr : World) (g cap : Nat) (K B : List (List Int)) (L : List Int) (E F D : List (Value × List Int)) : Prop where
  e1 : ∀ j p, E[j]? = some p → wr.cell? ⟨g, j, none⟩ = some p.1
  e2 : ∀ j p, F[j]? = some p → wr.cell? ⟨g, K.length + 1 + j, none⟩ = some p.1
  l1 : E.length = K.length
  l2 : F.length = B.length
  o1 : ∀ p ∈ E, p.1.oneCell' = true
  o2 : ∀ p ∈ F, p.1.oneCell' = true
  sub : (E ++ F).Sublist D
  inn : ∀ p ∈ D, Own lo wr.heap.size wr p.1 p.2
  ap : D.Pairwise Apart
  eq : (E ++ F).map (·.2) = K ++ B
  cp : K.length + 1 + B.length ≤ cap
theorem gone_of {lo : Nat} {wr : World} {v : Value} {K B : List (List Int)} {L : List Int} (h : OwnS lo wr.heap.size wr v (K ++ L :: B)) : ∃ g cap E F D, v = .slice (some ⟨g, 0, none⟩) (K.length + 1 + B.length) cap ∧ Gone lo wr g cap K B L E F D := by
  obtain ⟨D, e, ho, hb, hin, hp⟩ := h
  have hlen : D.length = K.length + 1 + B.length := by
    have := congrArg List.length e
    simp at this
    omega
  obtain ⟨g, cap, ev, hcap⟩ := ho.form (by omega)
  have hcell : ∀ j p, D[j]? = some p → wr.cell? ⟨g, j, none⟩ = some p.1 := by
    intro j p hj
    have hjl := (List.getElem?_eq_some_iff.1 hj).1
    have ho' := ho
    rw [ev] at ho'
    rw [ho'.cellAt j (by omega), List.getElem?_map, hj]
    rfl
  refine ⟨g, cap, D.take K.length, D.drop (K.length + 1), D, by rw [ev, hlen], ?_⟩
  refine ⟨fun j p hj => ?_, fun j p hj => ?_, by rw [List.length_take]; omega, by rw [List.length_drop]; omega, fun p hp' => one_slice (hin p (List.mem_of_mem_take hp')), fun p hp' => one_slice (hin p (List.mem_of_mem_drop hp')), ?_, hin, hp, ?_, ?_⟩
  · have hjl := (List.getElem?_eq_some_iff.1 hj).1
    rw [List.length_take] at hjl
    rw [List.getElem?_take_of_lt (by omega)] at hj
    exact hcell j p hj
  · rw [List.getElem?_drop] at hj
    exact hcell _ p hj
  · rw [← List.eraseIdx_eq_take_drop_succ]
    exact List.eraseIdx_sublist ..
  · rw [List.map_append, List.map_take, List.map_drop, e, List.take_left, List.drop_append]
    simp
  · have ho' := ho
    rw [ev] at ho'
    rcases ho'.2 with ⟨hz, _⟩ | ⟨g', cap', cur, hv, _, _, hn, _⟩
    · cases hz
    · rw [Value.slice.injEq] at hv
      obtain ⟨_, _, rfl⟩ := hv
      omega
/-- what Trim answers -/
def TrimE (w : World) (P : List (List Int) × Bool) (e : Ending) (w' : World) : Prop := ∃ r, e = .returned (.tuple #[r, .bool P.2]) ∧ OwnS w.heap.size w'.heap.size w' r P.1 ∧ w.grownBy w' none
def slen : Value → Nat
  | .slice _ n _ => n
  | _ => 0
theorem tot_less (K B : List (List Int)) (L : List Int) : tot (K ++ B) ≤ tot (K ++ L :: B) := by
  unfold css.tot
  simp only [List.length_append, List.length_cons, List.map_append, List.map_cons, List.sum_append, List.sum_cons]
  omega
theorem more4 {w w3 w4 : World} {v x y : Value} {o : Obj} {M : List (List Int)} {hi : Nat} (h : OwnS w.heap.size hi w3 v M) (G3 : w.grownBy w3 none) (b : Box 26 w3 w.heap.size x y) (g4 : (w3.alloc o).grownBy w4 v.ownBlock) : w.grownBy w4 none ∧ Box 26 w4 w.heap.size x y := by
  have ga := World.grownBy_alloc w3 o none
  obtain ⟨D, e, ho, _⟩ := h.kept ga
  have b4 := b.kept ga
  have gA := grown_trans (r := none) G3 ga
  exact ⟨⟨g4.os.trans gA.os, g4.tape.trans gA.tape, g4.output.trans gA.output, Nat.le_trans gA.size g4.size, fun k hk _ => (g4.block k (Nat.lt_of_lt_of_le hk gA.size) (fun e => by have := (ho.lt k e.symm).1; omega)).trans (gA.block k hk (fun e => by cases e))⟩, b4.by g4 (gr.box_ne ho gr.ty1 b4)⟩
set_option maxRecDepth 100000 in
set_option maxHeartbeats 8000000 in
theorem specTrim (v u : Value) (n : Int) (LL PP : List (List Int)) (lo hi lo2 hi2 : Nat) (w : World) (hn : tot LL ≤ 1048576) (ht : tot PP ≤ 1048576) (hv : OwnS lo hi w v LL) (hhi : hi ≤ w.heap.size) (hu : OwnS lo2 hi2 w u PP) :
    Calls Tryd.prog 25 #[.agg #[.int .i64 n, v], u] w fun e w' => TrimE w (trimB n LL PP) e w' := by
  have g0 := World.grownBy_alloc w (.cells #[.int .i64 n, v] 26) none
  have F0 := hide (Box.new 26 w (.int .i64 n) v)
  have CB := xe.specCheck v u n LL PP lo hi lo2 hi2 _ hn ht (hv.kept g0) (Nat.le_trans hhi g0.size) (hu.kept g0)
  have CK := hide (fun (M : List (List Int)) (hM : tot M ≤ 1048576) u1 lo3 hi3 w1 (g : w.grownBy w1 none) (o : OwnS lo3 hi3 w1 u1 M) => xe.specCheck v u1 n LL M lo hi lo3 hi3 w1 hn hM (hv.kept g) (Nat.le_trans hhi g.size) o)
  have G0 := hide g0
  have HU := hide hu
  have x0 := (unhide F0).c0
  have x1 := (unhide F0).c1
  obtain ⟨ua, uc, eu⟩ := hu.len
  have hpl := Nat.le_trans (css.tot_len PP) ht
  have NO : Hid (∀ w1, w.grownBy w1 none → TrimE w ([], false) (.returned (.tuple #[.slice (some ⟨w1.heap.size, 0, none⟩) 0 0, .bool false])) (w1.alloc (.cells #[] 31))) := fun w1 g => ⟨_, rfl, sub_own g (nilS w1) (World.grownBy_alloc _ _ none)⟩
  subst eu
  clear hv hu g0
  cases hb : checkB n LL PP
  · rw [hb] at CB
    have EQ : trimB n LL PP = ([], false) := by unfold trimB; rw [hb]; rfl
    rw [EQ]
    have CC := hide CB
    clear CB hb CK EQ
    go_enter Tryd.func25, Tryd.ntmps25
    go_wp2_with fail
    refine (unhide CC).mono ?_; rintro e w2 ⟨rfl, g2⟩
    have R2 := hide (unhide NO w2 (grown_trans (r := none) (unhide G0) g2))
    clear g2 F0 x0 x1 NO
    go_wp2_with fail
    go_ret2
    exact unhide R2
  · rw [hb] at CB
    have EQ : trimB n LL PP = (trm n (LL.map setOf) [] PP, true) := by unfold trimB; rw [hb]; rfl
    rw [EQ]
    have M0 : Hid (Mod n LL (trm n (LL.map setOf) [] PP) [] PP) := ⟨hb, (check_facts hb).2.2.2.1, rfl⟩
    have CC := hide CB
    generalize trm n (LL.map setOf) [] PP = R at *
    clear CB hb NO EQ
    go_enter Tryd.func25, Tryd.ntmps25
    go_wp2_with fail
    refine (unhide CC).mono ?_; rintro e w2 ⟨rfl, g2⟩
    have G2 := hide (grown_trans (r := none) (unhide G0) g2)
    have b2 := (unhide F0).kept g2
    have ST : Hid (OwnS w.heap.size (w2.alloc (.cells #[] 31)).heap.size (w2.alloc (.cells #[] 31)) (.slice (some ⟨w2.heap.size, 0, none⟩) 0 0) (PP.take 0) ∧ w.grownBy (w2.alloc (.cells #[] 31)) none ∧ Box 26 (w2.alloc (.cells #[] 31)) w.heap.size (.int .i64 n) v) :=
      ⟨by rw [List.take_zero]; exact (sub_own (unhide G2) (nilS w2) (World.grownBy_alloc _ _ none)).1, grown_trans (unhide G2) (World.grownBy_alloc _ _ none), b2.kept (World.grownBy_alloc _ _ none)⟩
    clear g2 b2 x0 x1 F0 CC
    go_wp2_with fail
    go_loopw [6, 7] (fun lv i wr => ∃ k : Nat, k ≤ PP.length ∧ i = .int .i64 (k : Int) ∧ Hid (OwnS w.heap.size wr.heap.size wr lv (PP.take k) ∧ w.grownBy wr none ∧ Box 26 wr w.heap.size (.int .i64 n) v)) (fun _ i _ => PP.length - (intOf i).toNat)
    case atStart => exact ⟨0, Nat.zero_le _, rfl, ST⟩
    case round =>
      obtain ⟨k, hk, rfl, hm⟩ := hrel
      clear ST
      by_cases hlt : k < PP.length
      · have hi' : (k : Int) < (PP.length : Int) := by omega
        have hgw := (unhide hm).2.1
        obtain ⟨g, cap', u', e, hgl, y1, hu0⟩ := own_at ((unhide HU).kept hgw) k hlt
        simp only [Value.slice.injEq] at e
        obtain ⟨rfl, _, rfl⟩ := e
        have hL := Nat.le_trans (css.tot_in PP k) ht
        have hts := css.take_snoc PP k hlt
        have hML : (PP.take k).length ≤ 1048576 := by rw [List.length_take]; omega
        have HTS := hide hts
        generalize PP.getD k [] = L at *
        generalize PP.take k = M at *
        obtain ⟨ea, ec, ee, _⟩ := hu0.sl
        subst ee
        obtain ⟨la, lc, el⟩ := (unhide hm).1.len
        subst el
        have mn := made_nil wr
        have c2 := mn.2.cell y1 (fun e => by cases e)
        have U1 := hide (hu0.kept mn.2)
        have MN := hide mn
        have HGW := hide hgw
        have HML := hide hML
        clear hgw hu0 hts mn hML
        go_wp2_with (at_builtin; refine app.appendI (A := []) (unhide MN).2 (unhide MN).1 (unhide U1) (by show 0 + L.length ≤ 4194304; omega) rfl _ _ rfl rfl rfl ?_)
        intro y w3 m3 g3
        have m3' : Made wr w3 y L := m3
        obtain ⟨ya, yc, ey, _⟩ := sl.Sl.of_own m3'.1
        subst ey
        have Y3 := hide (Own.of m3'.1)
        have O3 := hide ((unhide hm).1.kept m3'.2)
        have G3 := hide (grown_trans (r := none) (unhide HGW) m3'.2)
        have S3 := hide m3'.2.size
        have B3 := hide ((unhide hm).2.2.kept m3'.2)
        clear m3 m3' g3 MN U1
        go_wp2_with (at_builtin; refine gr.appendR (unhide O3) (unhide Y3) (unhide HGW).size (unhide S3) (unhide HML) rfl _ _ rfl rfl rfl ?_)
        intro g4 cap4 w4 o4 g4'
        have m4 := more4 (unhide O3) (unhide G3) (unhide B3) g4'
        have R4 : Hid (OwnS w.heap.size w4.heap.size w4 (.slice (some ⟨g4, 0, none⟩) (M.length + 1) cap4) (PP.take (k + 1)) ∧ w.grownBy w4 none ∧ Box 26 w4 w.heap.size (.int .i64 n) v) := ⟨by rw [unhide HTS]; exact o4, m4⟩
        clear o4 g4' m4 O3 Y3 G3 S3 B3 hm
        go_wp2_with fail
        go_roundw
        case rel => exact ⟨k + 1, by omega, by go_num, R4⟩
        case measure => simp [intOf]; omega
      · have hi' : ¬ (k : Int) < (PP.length : Int) := by omega
        have e : PP.take k = PP := List.take_of_length_le (by omega)
        rw [e] at hm
        clear e hlt hk HU
        go_wp2_with fail
        go_loopw [6, 8] (fun lv i wr => ∃ K D : List (List Int), i = .int .i64 (K.length : Int) ∧ Hid (OwnS w.heap.size wr.heap.size wr lv (K ++ D) ∧ w.grownBy wr none ∧ Box 26 wr w.heap.size (.int .i64 n) v) ∧ Hid (Mod n LL R K D ∧ tot (K ++ D) ≤ 1048576)) (fun lv i _ => slen lv - (intOf i).toNat)
        case atStart => exact ⟨[], PP, rfl, hm, unhide M0, ht⟩
        case round =>
          obtain ⟨K, D, rfl, hm2, hmod⟩ := hrel
          clear hm M0
          obtain ⟨L, B, rfl⟩ : ∃ L B, D = L :: B := by
            cases D with
            | nil => have := (unhide hmod).1.ne; simp at this
            | cons L B => exact ⟨L, B, rfl⟩
          obtain ⟨g, cap, E, F, D, el, gn⟩ := gone_of (unhide hm2).1
          have htt := (unhide hmod).2
          have hlen := Nat.le_trans (css.tot_len (K ++ L :: B)) htt
          rw [List.length_append, List.length_cons] at hlen
          have hcp := gn.cp
          obtain ⟨kk, hkk⟩ : ∃ kk, kk = K.length := ⟨_, rfl⟩
          obtain ⟨bb, hbb⟩ : ∃ bb, bb = B.length := ⟨_, rfl⟩
          obtain ⟨NN, hNN⟩ : ∃ NN, NN = kk + 1 + bb := ⟨_, rfl⟩
          obtain ⟨k1, hk1⟩ : ∃ k1, k1 = kk + 1 := ⟨_, rfl⟩
          rw [← hkk, ← hbb, ← hNN] at el
          rw [← hkk, ← hbb, ← hNN] at hcp
          rw [← hkk, ← hbb] at hlen
          rw [← hkk]
          subst el
          have b1 : 1 ≤ NN := by omega
          have b2 : NN ≤ 1048576 := by omega
          have HE := hide (And.intro hkk (And.intro hbb (And.intro hNN hk1)))
          by_cases hz : bb = 0
          · have hlt : ¬ (kk : Int) < (NN : Int) - 1 := by omega
            have e := (unhide hmod).1.end_ (by rw [List.length_cons]; omega)
            have R5 : Hid (TrimE w (R, true) (.returned (.tuple #[.slice (some ⟨g, 0, none⟩) NN cap, .bool true])) wr) := ⟨_, rfl, by rw [← e]; exact (unhide hm2).1, (unhide hm2).2.1⟩
            clear e hz hkk hbb hNN hk1 hm2 hmod gn hlen htt CK
            go_wp2_with fail
            go_ret2
            exact unhide R5
          · have hlt : (kk : Int) < (NN : Int) - 1 := by omega
            have q1 : (0 : Int) ≤ (kk : Int) := by omega
            have q2 : (kk : Int) ≤ (cap : Int) := by omega
            have q3 : (k1 : Int) ≤ (NN : Int) := by omega
            have q4 : (NN : Int) ≤ (cap : Int) := by omega
            have q5 : ¬ cap = k1 := by omega
            have q6 : NN - k1 = bb := by omega
            have q7 : (0 : Int) ≤ (k1 : Int) := by omega
            have q8 : IntKind.i64.wrap ((kk : Int) + 1) = (k1 : Int) := by rw [xw.wrap_in (by omega) (by omega)]; omega
            have HZ := hide hz
            have GN := hide gn
            have L0 := hide (Lss.nil wr)
            have y0 := (unhide hm2).2.2.c0
            have y1 := (unhide hm2).2.2.c1
            clear gn hz hkk hbb hNN hk1 hlen htt
            have A1 : Hid (∀ j p, E[j]? = some p → ((wr.alloc (.cells #[] 31)).drew).cell? ((⟨g, 0, none⟩ : Addr).add j) = some p.1) := by
              intro j p hj
              rw [Addr.add_lit, Nat.zero_add]
              exact (unhide L0).2.cell ((unhide GN).e1 j p hj) (fun e => by cases e)
            have A2 : Hid (∀ w1, wr.grownBy w1 none → ∀ j p, F[j]? = some p → w1.cell? ((⟨g, k1, none⟩ : Addr).add j) = some p.1) := by
              intro w1 gw j p hj
              rw [Addr.add_lit]
              have := (unhide GN).e2 j p hj
              rw [← (unhide HE).1, ← (unhide HE).2.2.2] at this
              exact gw.cell this (fun e => by cases e)
            have l1 : Hid (kk = E.length) := (unhide HE).1.trans (unhide GN).l1.symm
            have l2 : Hid (bb = F.length) := (unhide HE).2.1.trans (unhide GN).l2.symm
            have l3 : Hid (([] : List (Value × List Int)).length + E.length ≤ 1048576) := by show 0 + _ ≤ _; rw [← unhide l1]; omega
            have l4 : Hid (([] ++ E).length + F.length ≤ 1048576) := by show _ ≤ _; rw [List.nil_append, ← unhide l1, ← unhide l2]; have := (unhide HE).2.2.1; omega
            have l5 : Hid (kk = ([] ++ E).length) := by show _ = _; rw [List.nil_append, ← unhide l1]
            go_wp2_with fail
            go_region_law (first
              | (refine stepV (ad := ⟨g, 0, none⟩) (m := kk) (n := 0) (F := E) (unhide L0) (unhide A1) (unhide GN).o1 (by rfl) (unhide l1) (unhide l3) (by rfl) (.tmp 36) (.tmp 39) (by rfl) (by rfl) (by rfl) ?_; intro ad5 cap5 w5 h5; rw [Nat.zero_add] at h5; have L5 := hide h5; have A5 := hide (unhide A2 w5 h5.2); clear h5)
              | (refine stepV (ad := ⟨g, k1, none⟩) (m := bb) (n := kk) (F := F) (unhide L5) (unhide A5) (unhide GN).o2 (unhide l5) (unhide l2) (unhide l4) (by rfl) (.tmp 40) (.tmp 44) (by rfl) (by rfl) (by rfl) ?_; intro ad6 cap6 w6 h6; have L6 := hide h6; clear h6))
            all_goals
              have l6 := unhide L6
              rw [List.nil_append] at l6
              have gw := grown_trans (r := none) (unhide hm2).2.1 l6.2
              have o6 := lss_own l6 (unhide GN).sub (unhide GN).inn (unhide GN).ap (unhide hm2).2.1.size
              rw [(unhide GN).eq] at o6
              have b6 := (unhide hm2).2.2.kept l6.2
              have z0 := b6.c0
              have z1 := b6.c1
              have C6 := unhide CK (K ++ B) (Nat.le_trans (tot_less K B L) (unhide hmod).2) _ _ _ w6 gw o6
              have hbp : 0 < B.length := by have := (unhide HE).2.1; have := unhide HZ; omega
              have KP : Hid (∀ w7, w6.grownBy w7 none → (OwnS w.heap.size w7.heap.size w7 (.slice ad6 (kk + bb) cap6) (K ++ B) ∧ w.grownBy w7 none ∧ Box 26 w7 w.heap.size (.int .i64 n) v) ∧ (OwnS w.heap.size w7.heap.size w7 (.slice (some ⟨g, 0, none⟩) NN cap) ((K ++ [L]) ++ B) ∧ w.grownBy w7 none ∧ Box 26 w7 w.heap.size (.int .i64 n) v)) := by
                intro w7 g7
                have g67 := grown_trans (r := none) l6.2 g7
                refine ⟨⟨(o6.kept g7).sub (Nat.le_refl _) g7.size, grown_trans gw g7, b6.kept g7⟩, ⟨?_, grown_trans gw g7, b6.kept g7⟩⟩
                rw [List.append_assoc, List.singleton_append]
                exact ((unhide hm2).1.kept g67).sub (Nat.le_refl _) g67.size
              have MD := hide (fun hx => (unhide hmod).1.drop hbp hx)
              have MK := hide (fun hx => (unhide hmod).1.keep hbp hx)
              have T1 : Hid (tot (K ++ B) ≤ 1048576) := Nat.le_trans (tot_less K B L) (unhide hmod).2
              have T2 : Hid (tot ((K ++ [L]) ++ B) ≤ 1048576) := by show _ ≤ _; rw [List.append_assoc, List.singleton_append]; exact (unhide hmod).2
              clear l6 gw o6 b6 hm2 hmod GN L0 A1 A2 l1 l2 l3 l4 l5 L5 A5 L6 y0 y1
              cases hx : checkB n LL (K ++ B)
              · rw [hx] at C6
                have M7 := hide (unhide MK hx)
                have C7 := hide C6
                clear C6 MD MK hx
                go_wp2_with fail
                refine (unhide C7).mono ?_; rintro e w7 ⟨rfl, g7⟩
                have R7 := hide (unhide KP w7 g7).2
                clear g7 KP C7
                go_wp2_with fail
                go_roundw
                case rel => exact ⟨K ++ [L], B, by rw [List.length_append, List.length_singleton, ← (unhide HE).1, ← (unhide HE).2.2.2], R7, unhide M7, unhide T2⟩
                case measure =>
                  have := (unhide HE).2.2.1
                  have := (unhide HE).2.2.2
                  simp [intOf, slen]
                  omega
              · rw [hx] at C6
                have M7 := hide (unhide MD hx)
                have C7 := hide C6
                clear C6 MD MK hx
                go_wp2_with fail
                refine (unhide C7).mono ?_; rintro e w7 ⟨rfl, g7⟩
                have R7 := hide (unhide KP w7 g7).1
                clear g7 KP C7
                go_wp2_with fail
                go_roundw
                case rel => exact ⟨K, B, by rw [← (unhide HE).1], R7, unhide M7, unhide T1⟩
                case measure =>
                  have := (unhide HE).2.2.1
                  have := (unhide HE).2.2.2
                  simp [intOf, slen]
                  omega
end Go.Proofs.YtheigbmkldlicaaDoor.xt
namespace Go.Proofs.YtheigbmkldlicaaDoor.xt
open Go.ChangeShapes Go.WideShapes Go.ChangeAt Go.RowKit
open Go.Proofs.YtheigbmkldlicaaDoor.bset (setOf setOf_lt)
open Go.Proofs.YtheigbmkldlicaaDoor.srt (Tab)
open Go.Proofs.YtheigbmkldlicaaDoor.css (tot Sls OwnS own_kind own_mono)
open Go.Proofs.YtheigbmkldlicaaDoor.cf (Box)
open Go.Proofs.YtheigbmkldlicaaDoor.ok (cnfB)
open Go.Proofs.YtheigbmkldlicaaDoor.su (words MadeU infoU)
open Go.Proofs.YtheigbmkldlicaaDoor.wm (badN set_bd)
open Go.Proofs.YtheigbmkldlicaaDoor.xe (checkB)
open Go.Proofs.YtheigbmkldlicaaDoor.ck (Cl Bo Mv)
open Go.Proofs.YtheigbmkldlicaaDoor.rq (nilS sub_own)
open Go.Proofs.YtheigbmkldlicaaDoor.app (own_at)
open Go.Proofs.YtheigbmkldlicaaDoor.sl (Sl Own ints hide unhide grown_refl grown_trans grown_drewN)
set_option linter.unusedVariables false
theorem appendU2 {ops : Array Oper} {rest : List Oper} {o : Oper} {a : Act} {Q : Exit → Act → World → Prop} {w wr : World} {v : Value} {S : List Nat} {s : Nat}
    (hm : MadeU w wr v S) (hS : S.length ≤ 4194304) (hgd : o.guard = none) (p x : Operand)
    (ho : o.op = .call { callee := .builtin .append, args := #[p, x], argTypes := #[77, 77] }) (hs : a.eval p = v) (hx : a.eval x = .slice (some ⟨wr.heap.size, 0, none⟩) 1 1)
    (h : ∀ v' w1, MadeU w w1 v' (S ++ [s]) → (wr.alloc (.cells #[.int .u64 (s : Int)] 80)).grownBy w1 v.ownBlock → wpList Tryd.prog ops Q rest (a.put o.dst v') w1) :
    wpList Tryd.prog ops Q (o :: rest) a (wr.alloc (.cells #[.int .u64 (s : Int)] 80)) := by
  obtain ⟨i0, hi, hz0, hz1, hz2⟩ := info_parts infoU
  obtain ⟨hown, hg⟩ := hm
  have hsz := hg.size
  refine wpList_append_own _ hgd p x 77 ho w.heap.size 80 i0 (.int .u64 0) 1 8 Tryd.underlying77 hi hz0 hz1 hz2 rfl (by decide) v S.length (words S) hs (hown.alloc _) ⟨wr.heap.size, 0, none⟩ 1 1 [.int .u64 (s : Int)] hx rfl ?_ ?_ ?_ ?_ ?_ ?_
  · intro j u hj
    match j, hj with
    | 0, hj => simp at hj; subst hj; simp [Addr.add]
  · intro u hu
    simp at hu
    subst hu
    rfl
  · unfold maxLen
    omega
  · omega
  · simp
    omega
  · intro v' w1 hown' hgrow _
    refine h v' w1 ⟨?_, app.grown_app hg hown hgrow⟩ hgrow
    rw [List.length_append]
    have e : words (S ++ [s]) = words S ++ [.int .u64 (s : Int)] := by simp [su.words]
    rw [e]
    exact hown'
theorem tyU : (80 : Nat) ≠ 3 ∧ (80 : Nat) ≠ 68 := by decide
/-- words of the call's own beside a clauseList -/
theorem apart_u {W0 w : World} {c : Nat} {va ve kv : Value} {K : List (List Int)} {b n : Nat} {xs : List Value} (h : Cl 68 [] 0 W0 w c va ve K) (hk : w.ownsRow b 80 1 kv n xs) : ∀ q, kv.ownBlock = some q → q ≠ c ∧ va.ownBlock ≠ some q ∧ ve.ownBlock ≠ some q := by
  intro q e
  obtain ⟨cs, fz, hc⟩ := own_kind hk q e
  refine ⟨fun z => ?_, fun z => ?_, fun z => ?_⟩
  · subst z
    have := h.bx.blk
    rw [hc] at this
    simp only [Option.some.injEq, Obj.cells.injEq] at this
    exact tyU.2 this.2.1
  · obtain ⟨cs', fz', hc'⟩ := own_kind h.l q z
    rw [hc] at hc'
    simp only [Option.some.injEq, Obj.cells.injEq] at hc'
    exact tyU.1 hc'.2.1
  · obtain ⟨cs', fz', hc'⟩ := own_kind h.e q z
    rw [hc] at hc'
    simp only [Option.some.injEq, Obj.cells.injEq] at hc'
    exact tyU.1 hc'.2.1
theorem row_u {w w' : World} {b n : Nat} {v : Value} {xs : List Value} (h : w.ownsRow b 80 1 v n xs) (e : ∀ k, v.ownBlock = some k → w'.heap[k]? = w.heap[k]?) : w'.ownsRow b 80 1 v n xs := by
  refine ⟨h.1, ?_⟩
  rcases h.2 with hz | ⟨g, cap, cur, rfl, hb, hg, rest⟩
  · exact .inl hz
  · exact .inr ⟨g, cap, cur, rfl, hb, by rw [e g rfl]; exact hg, rest⟩
theorem row_i {w w' : World} {b n : Nat} {v : Value} {xs : List Value} (h : w.ownsRow b 3 1 v n xs) (e : ∀ k, v.ownBlock = some k → w'.heap[k]? = w.heap[k]?) : w'.ownsRow b 3 1 v n xs := by
  refine ⟨h.1, ?_⟩
  rcases h.2 with hz | ⟨g, cap, cur, rfl, hb, hg, rest⟩
  · exact .inl hz
  · exact .inr ⟨g, cap, cur, rfl, hb, by rw [e g rfl]; exact hg, rest⟩
/-- where the program stands -/
structure Trp (n : Int) (LL PP : List (List Int)) (R : List (List Int)) (W0 wr : World) (c : Nat) (va ve kv : Value) (K : List (List Int)) (k : Nat) : Prop where
  cl : Cl 68 [] 0 W0 wr c va ve K
  kp : MadeU W0 wr kv (K.map setOf)
  eq : trm n (LL.map setOf) K (PP.drop k) = R
  le : K.length ≤ k
  sm : (K.map List.length).sum + ((PP.drop k).map List.length).sum ≤ tot PP
theorem sum_flat (K : List (List Int)) : K.flatten.length = (K.map List.length).sum := List.length_flatten
/-- a clause is put, and its word -/
theorem Trp.put {n : Int} {LL PP R : List (List Int)} {W0 wr w4 w5 w6 : World} {c k : Nat} {va ve va' ve' kv kv' : Value} {K : List (List Int)} (h : Trp n LL PP R W0 wr c va ve kv K k) (hk : k < PP.length) (g4 : wr.grownBy w4 none)
    (hcl : Cl 68 [] 0 W0 w5 c va' ve' (K ++ [PP.getD k []])) (m : Mv c va ve va' ve' w4 w5) (hc : (PP.drop (k + 1)).length = 0 ∨ badN n (LL.map setOf ++ K.map setOf) (PP.drop (k + 1)) < (PP.drop (k + 1)).length) :
    MadeU W0 w5 kv (K.map setOf) ∧ (MadeU W0 w6 kv' (K.map setOf ++ [setOf (PP.getD k [])]) → (w5.alloc (.cells #[.int .u64 (setOf (PP.getD k []) : Int)] 80)).grownBy w6 kv.ownBlock → Trp n LL PP R W0 w6 c va' ve' kv' (K ++ [PP.getD k []]) (k + 1)) := by
  have hk4 := h.kp.1.kept g4 (ck.ne_none _)
  have hcl4 := h.cl.kept g4
  have ap4 := apart_u hcl4 hk4
  have k5 : w5.ownsRow W0.heap.size 80 1 kv (K.map setOf).length (words (K.map setOf)) := row_u hk4 (fun q e => m.block q (hk4.lt q e).2 (ap4 q e).1 (ap4 q e).2.1 (ap4 q e).2.2)
  refine ⟨⟨k5, hcl.g⟩, fun mu g6 => ?_⟩
  have ga := World.grownBy_alloc w5 (.cells #[.int .u64 (setOf (PP.getD k []) : Int)] 80) none
  have hcl5 := hcl.kept ga
  have k5a := k5.kept ga (ck.ne_none _)
  have ap5 := apart_u hcl5 k5a
  have e6 : ∀ q, (q = c ∨ va'.ownBlock = some q ∨ ve'.ownBlock = some q) → q < (w5.alloc (.cells #[.int .u64 (setOf (PP.getD k []) : Int)] 80)).heap.size → w6.heap[q]? = (w5.alloc (.cells #[.int .u64 (setOf (PP.getD k []) : Int)] 80)).heap[q]? := fun q z hq => g6.block q hq (fun e => by
    have := ap5 q e.symm
    rcases z with z | z | z
    · exact this.1 z
    · exact this.2.1 z
    · exact this.2.2 z)
  have ed : PP.drop k = PP.getD k [] :: PP.drop (k + 1) := by
    rw [List.drop_eq_getElem_cons hk]
    simp [hk]
  refine ⟨⟨⟨by rw [e6 c (.inl rfl) hcl5.bx.lt]; exact hcl5.bx.blk, hcl5.bx.ho, hcl5.bx.ty⟩, row_i hcl5.l (fun q e => e6 q (.inr (.inl e)) (hcl5.l.lt q e).2), row_i hcl5.e (fun q e => e6 q (.inr (.inr e)) (hcl5.e.lt q e).2), hcl5.ap, mu.2, hcl5.hc⟩, ?_, ?_, ?_, ?_⟩
  · rw [List.map_append]
    exact mu
  · rw [← h.eq, ed, trm_keep hc]
  · have := h.le
    rw [List.length_append, List.length_singleton]
    omega
  · have := h.sm
    rw [ed, List.map_cons, List.sum_cons] at this
    rw [List.map_append, List.sum_append]
    simp only [List.map_cons, List.map_nil, List.sum_cons, List.sum_nil]
    omega
/-- a clause goes -/
theorem Trp.skip {n : Int} {LL PP R : List (List Int)} {W0 wr w4 : World} {c k : Nat} {va ve kv : Value} {K : List (List Int)} (h : Trp n LL PP R W0 wr c va ve kv K k) (hk : k < PP.length) (g4 : wr.grownBy w4 none) (h0 : (PP.drop (k + 1)).length ≠ 0) (hc : ¬ badN n (LL.map setOf ++ K.map setOf) (PP.drop (k + 1)) < (PP.drop (k + 1)).length) : Trp n LL PP R W0 w4 c va ve kv K (k + 1) := by
  have ed : PP.drop k = PP.getD k [] :: PP.drop (k + 1) := by
    rw [List.drop_eq_getElem_cons hk]
    simp [hk]
  refine ⟨h.cl.kept g4, ⟨h.kp.1.kept g4 (ck.ne_none _), grown_trans h.kp.2 g4⟩, ?_, ?_, ?_⟩
  · rw [← h.eq, ed, trm_drop h0 hc]
  · have := h.le
    omega
  · have := h.sm
    rw [ed, List.map_cons, List.sum_cons] at this
    omega
/-- what lies behind -/
theorem sls_drop {w : World} {b off cap k : Nat} {PP : List (List Int)} (hk : k + 1 ≤ PP.length) (hb : b < w.heap.size) (hcb : ∀ i, i < PP.length → ∃ u, w.cell? ⟨b, off + i, none⟩ = some u ∧ Sl w u (PP.getD i [])) : Sls w (.slice (some ⟨b, off + (k + 1), none⟩) (PP.length - (k + 1)) cap) (PP.drop (k + 1)) := by
  refine ⟨some ⟨b, off + (k + 1), none⟩, cap, by rw [List.length_drop], .inr ⟨b, off + (k + 1), rfl, hb, fun i hi => ?_⟩⟩
  rw [List.length_drop] at hi
  obtain ⟨u, h1, h2⟩ := hcb (k + 1 + i) (by omega)
  refine ⟨u, by rw [Nat.add_assoc off]; exact h1, ?_⟩
  have e : (PP.drop (k + 1)).getD i [] = PP.getD (k + 1 + i) [] := by rw [List.getD, List.getD, List.getElem?_drop]
  rw [e]
  exact h2
theorem ownS_cap {lo hi : Nat} {w : World} {g n cap : Nat} {PP : List (List Int)} (h : OwnS lo hi w (.slice (some ⟨g, 0, none⟩) n cap) PP) : n ≤ cap := by
  obtain ⟨D, _, ho, _⟩ := h
  rcases ho.2 with ⟨hz, _⟩ | ⟨g', cap', cur, hv, _, _, hn, _⟩
  · cases hz
  · rw [Value.slice.injEq] at hv
    obtain ⟨_, rfl, rfl⟩ := hv
    exact hn
theorem tot_drop (PP : List (List Int)) (k : Nat) : tot (PP.drop k) ≤ tot PP := by
  have e : PP = PP.take k ++ PP.drop k := (List.take_append_drop k PP).symm
  have : tot PP = tot (PP.take k) + tot (PP.drop k) := by
    conv => lhs; rw [e]
    unfold css.tot
    rw [List.length_append, List.map_append, List.sum_append]
    omega
  omega
set_option maxRecDepth 100000 in
set_option maxHeartbeats 8000000 in
theorem implTrim (v u : Value) (n : Int) (LL PP : List (List Int)) (lo2 hi2 : Nat) (w : World) (hT : Tab w) (hn : tot LL ≤ 1048576) (ht : tot PP ≤ 1048576) (hv : Sls w v LL) (hu : OwnS lo2 hi2 w u PP) :
    Calls Tryd.prog 24 #[.agg #[.int .i64 n, v], u] w fun e w' => TrimE w (trimB n LL PP) e w' := by
  have g0 := World.grownBy_alloc w (.cells #[.int .i64 n, v] 26) none
  have F0 := hide (Box.new 26 w (.int .i64 n) v)
  have CB := xe.implCheck v u n LL PP _ (hT.kept g0) hn ht (hv.kept g0) (hu.kept g0).sls
  have G0 := hide g0
  have HU := hide hu
  have HT := hide hT
  have HV := hide hv
  have x0 := (unhide F0).c0
  have x1 := (unhide F0).c1
  obtain ⟨ua, uc, eu⟩ := hu.len
  have hpl := Nat.le_trans (css.tot_len PP) ht
  have NO : Hid (∀ w1, w.grownBy w1 none → TrimE w ([], false) (.returned (.tuple #[.slice (some ⟨w1.heap.size, 0, none⟩) 0 0, .bool false])) (w1.alloc (.cells #[] 31))) := fun w1 g => ⟨_, rfl, sub_own g (nilS w1) (World.grownBy_alloc _ _ none)⟩
  subst eu
  clear hv hu g0 hT
  cases hb : checkB n LL PP
  · rw [hb] at CB
    have EQ : trimB n LL PP = ([], false) := by unfold trimB; rw [hb]; rfl
    rw [EQ]
    have CC := hide CB
    clear CB hb EQ
    go_enter Tryd.func24, Tryd.ntmps24
    go_wp2_with fail
    refine (unhide CC).mono ?_; rintro e w2 ⟨rfl, g2⟩
    have R2 := hide (unhide NO w2 (grown_trans (r := none) (unhide G0) g2))
    clear g2 F0 x0 x1 NO
    go_wp2_with fail
    go_ret2
    exact unhide R2
  · rw [hb] at CB
    have EQ : trimB n LL PP = (trm n (LL.map setOf) [] PP, true) := by unfold trimB; rw [hb]; rfl
    rw [EQ]
    have hf := check_facts hb
    have hcf := fm.cnf_facts hf.1
    obtain ⟨m, rfl⟩ := Int.eq_ofNat_of_zero_le hcf.1
    have hm24 : m ≤ 24 := by omega
    have hll : LL.length ≤ 120 := hcf.2.2.1
    have hp7 : PP.length ≤ 700 := hf.2.1
    have CC := hide CB
    have ST := hide (fun w2 => (⟨ck.Cl.start w2, ⟨World.ownsRow_nil _ _ _ _, World.grownBy_alloc _ _ _⟩, rfl, Nat.le_refl _, by rw [List.drop_zero]; exact Nat.le_trans (by simp) (Nat.le_add_left _ _)⟩ : Trp (m : Int) LL PP (trm (m : Int) (LL.map setOf) [] PP) w2 (w2.alloc (.cells #[.slice none 0 0, .slice none 0 0] 68)) w2.heap.size (.slice none 0 0) (.slice none 0 0) (.slice none 0 0) [] 0))
    generalize trm (m : Int) (LL.map setOf) [] PP = R at *
    clear CB hb NO EQ hf hcf
    go_enter Tryd.func24, Tryd.ntmps24
    go_wp2_with fail
    refine (unhide CC).mono ?_; rintro e w2 ⟨rfl, g2⟩
    have G2 := hide (grown_trans (r := none) (unhide G0) g2)
    have B2 := hide ((unhide F0).kept g2)
    have S2 := hide (unhide ST w2)
    clear g2 x0 x1 F0 CC ST
    go_wp2_with fail
    go_loopw [7, 18] (fun kv i wr => ∃ (k : Nat) (va ve : Value) (K : List (List Int)), k ≤ PP.length ∧ i = .int .i64 (k : Int) ∧ Hid (Trp (m : Int) LL PP R w2 wr w2.heap.size va ve kv K k)) (fun _ i _ => PP.length - (intOf i).toNat)
    case atStart => exact ⟨0, _, _, [], Nat.zero_le _, rfl, S2⟩
    case round =>
      obtain ⟨k, va, ve, K, hk, rfl, htp⟩ := hrel
      clear S2
      have gw := (unhide htp).kp.2
      have gww := grown_trans (r := none) (unhide G2) gw
      by_cases hlt : k < PP.length
      · have hi' : (k : Int) < (PP.length : Int) := by omega
        have hur := (unhide HU).kept gww
        obtain ⟨g, cap', u', e, hgl, y1, hu0⟩ := own_at hur k hlt
        simp only [Value.slice.injEq] at e
        obtain ⟨rfl, _, rfl⟩ := e
        obtain ⟨ea, ec, ee, _⟩ := hu0.sl
        subst ee
        obtain ⟨ka, kc, ek⟩ : ∃ a c, u7 = .slice a K.length c := by
          rcases (unhide htp).kp.1.2 with ⟨hv, h0⟩ | ⟨g, cap, cur, hv, _⟩
          · rw [List.length_map] at h0
            exact ⟨none, 0, by rw [hv, h0]⟩
          · rw [List.length_map] at hv
            exact ⟨_, cap, hv⟩
        subst ek
        have hcap := ownS_cap hur
        have hL := Nat.le_trans (css.tot_in PP k) ht
        have HIN : Hid (∀ w5, w2.grownBy w5 none → Sl w5 (.slice ea (PP.getD k []).length ec) (PP.getD k [])) := by
          obtain ⟨g', cap', u'', e, _, z1, hz⟩ := own_at (unhide HU) k hlt
          simp only [Value.slice.injEq, Option.some.injEq, Addr.mk.injEq, and_true, true_and] at e
          obtain ⟨rfl, _⟩ := e
          have := gww.cell z1 (fun e => by cases e)
          rw [y1] at this
          cases this
          exact fun w5 g5 => ((hz.kept (unhide G2)).kept g5).sl
        have p1 : (0 : Int) ≤ (k : Int) := by omega
        have p2 : (k : Int) + 1 ≤ (PP.length : Int) := by omega
        have p3 : (PP.length : Int) ≤ (uc : Int) := by omega
        by_cases hz : PP.length - (k + 1) = 0
        · have HC0 : (PP.drop (k + 1)).length = 0 := by rw [List.length_drop]; exact hz
          have PU := hide (ck.put w2.heap.size wr (by have := (unhide htp).le; omega) (by rw [sum_flat]; have := (unhide htp).sm; have := hL; omega) ((unhide htp).cl.kept (grown_refl wr)) (hu0.kept (grown_refl wr)).1)
          have NX := hide (fun w5 w6 va5 ve5 kv6 hcl mv => (unhide htp).put (w6 := w6) (kv' := kv6) (w5 := w5) (va' := va5) (ve' := ve5) hlt (grown_refl wr) hcl mv (.inl HC0))
          have LI : Hid (∀ w5, w2.grownBy w5 none → Calls Tryd.prog 60 #[.slice ea (PP.getD k []).length ec] w5 fun e w' => e = .returned (.int .u64 (setOf (PP.getD k []) : Int)) ∧ w' = w5) := fun w5 g5 => bset.litsOf _ (PP.getD k []) w5 hL ((unhide HIN) w5 g5)
          have hKl : (K.map setOf).length ≤ 4194304 := by rw [List.length_map]; have := (unhide htp).le; omega
          have HKL := hide hKl
          clear hur hu0 htp HC0
          generalize PP.getD k [] = L at *
          obtain ⟨sb, hif⟩ : ∃ sb : Bool, ∀ a b : Option Addr, (if uc = k + 1 then a else b) = (if sb then a else b) := by
            by_cases huc : uc = k + 1
            · exact ⟨true, fun a b => by rw [if_pos huc]; rfl⟩
            · exact ⟨false, fun a b => by rw [if_neg huc]; rfl⟩
          cases sb
          all_goals
            try simp only [Bool.false_eq_true, if_false] at hif
            try simp only [if_true] at hif
            go_wp2_with fail
            refine (unhide PU).mono ?_; rintro e w5 ⟨rfl, va5, ve5, c5, m5⟩
            obtain ⟨mk5, _⟩ := unhide NX w5 w5 va5 ve5 (.slice none 0 0) c5 m5
            have MK5 := hide mk5
            have NX6 := hide (fun w6 kv6 => (unhide NX w5 w6 va5 ve5 kv6 c5 m5).2)
            have LI5 := hide (unhide LI w5 c5.g)
            clear PU c5 m5 mk5 NX LI
            go_wp2_with fail
            refine (unhide LI5).mono ?_; rintro e w6 ⟨rfl, hw⟩; have hw' := hw.symm; clear hw; subst hw'
            generalize hSL : setOf L = SL at *
            go_wp2_with (at_builtin; refine appendU2 (unhide MK5) (unhide HKL) rfl _ _ rfl rfl rfl ?_)
            intro kv7 w7 mu7 g7
            have R7 := hide (unhide NX6 w7 kv7 mu7 g7)
            clear mu7 g7 NX6 MK5 LI5
            go_wp2_with fail
            go_roundw
            case rel => exact ⟨k + 1, va5, ve5, _, by omega, by go_num, R7⟩
            case measure => simp [intOf]; omega
        · have huc : ¬ uc = k + 1 := by omega
          obtain ⟨bb, hbb⟩ : ∃ bb, PP.length - (k + 1) = bb := ⟨_, rfl⟩
          have hbz : ((bb : Int) == 0) = false := by rw [beq_eq_false_iff_ne]; omega
          have b2 := (unhide B2).kept gw
          have z0 := b2.c0
          have z1 := b2.c1
          have hTr := (unhide HT).kept gww
          have CKO := hide (wm.checkerOf v (.slice ka K.length kc) (m : Int) LL (K.map setOf) w2.heap.size wr hTr hn ((unhide HV).kept gww) (unhide htp).kp.1 (set_bd K) (by rw [List.length_map]; have := (unhide htp).le; omega))
          have hsl : Sls wr (.slice (some ⟨g, k + 1, none⟩) bb (uc - (k + 1))) (PP.drop (k + 1)) := by
            obtain ⟨a', c', e, ha⟩ := hur.sls
            rw [Value.slice.injEq] at e
            obtain ⟨rfl, _, rfl⟩ := e
            rcases ha with h | ⟨b', off', e, hb', hcb⟩
            · rw [h] at hlt
              simp at hlt
            · simp only [Option.some.injEq, Addr.mk.injEq, and_true] at e
              obtain ⟨rfl, rfl⟩ := e
              have := sls_drop (cap := uc - (k + 1)) (k := k) (by omega) hb' hcb
              rw [Nat.zero_add, hbb] at this
              exact this
          have CFB := hide (fun w3 c s (h : wm.Wof (LL.map setOf ++ K.map setOf) 110 [.int .i64 (m : Int)] wr w3 c s) => wm.firstBad _ (PP.drop (k + 1)) h hTr hm24 (by rw [List.length_append, List.length_map, List.length_map, List.length_drop]; have := (unhide htp).le; omega) (fun S hS => by
            rcases List.mem_append.1 hS with q | q
            · exact set_bd LL S q
            · exact set_bd K S q) (Nat.le_trans (tot_drop PP (k + 1)) ht) hsl)
          have hdl : (PP.drop (k + 1)).length = bb := by rw [List.length_drop]; exact hbb
          have HDL := hide hdl
          by_cases hbad : badN (m : Int) (LL.map setOf ++ K.map setOf) (PP.drop (k + 1)) < bb
          · have hbI : ((badN (m : Int) (LL.map setOf ++ K.map setOf) (PP.drop (k + 1)) : Nat) : Int) < (bb : Int) := by omega
            have HCD : Hid ((PP.drop (k + 1)).length = 0 ∨ badN (m : Int) (LL.map setOf ++ K.map setOf) (PP.drop (k + 1)) < (PP.drop (k + 1)).length) := .inr (by rw [hdl]; exact hbad)
            have PUG := hide (fun w4 (g4 : wr.grownBy w4 none) => ck.put w2.heap.size w4 (by have := (unhide htp).le; omega) (by rw [sum_flat]; have := (unhide htp).sm; have := hL; omega) ((unhide htp).cl.kept g4) (hu0.kept g4).1)
            have NXG := hide (fun w4 (g4 : wr.grownBy w4 none) w5 w6 va5 ve5 kv6 hcl mv => (unhide htp).put (w6 := w6) (kv' := kv6) (w5 := w5) (va' := va5) (ve' := ve5) hlt g4 hcl mv (unhide HCD))
            have LI : Hid (∀ w5, w2.grownBy w5 none → Calls Tryd.prog 60 #[.slice ea (PP.getD k []).length ec] w5 fun e w' => e = .returned (.int .u64 (setOf (PP.getD k []) : Int)) ∧ w' = w5) := fun w5 g5 => bset.litsOf _ (PP.getD k []) w5 hL ((unhide HIN) w5 g5)
            have hKl : (K.map setOf).length ≤ 4194304 := by rw [List.length_map]; have := (unhide htp).le; omega
            have HKL := hide hKl
            clear hur hu0 htp hbad HCD hdl hsl hTr b2 hKl
            generalize badN (m : Int) (LL.map setOf ++ K.map setOf) (PP.drop (k + 1)) = BN at *
            generalize PP.getD k [] = L at *
            go_wp2_with fail
            refine (unhide CKO).mono ?_; rintro e w3 ⟨c3, s3, rfl, h3⟩
            have CF3 := hide (unhide CFB w3 c3 s3 h3)
            clear h3 CKO CFB
            go_wp2_with fail
            refine (unhide CF3).mono ?_; rintro e w4 ⟨rfl, g4⟩
            have PU := hide (unhide PUG w4 g4)
            have NX := hide (unhide NXG w4 g4)
            clear g4 CF3 PUG NXG
            go_wp2_with fail
            refine (unhide PU).mono ?_; rintro e w5 ⟨rfl, va5, ve5, c5, m5⟩
            obtain ⟨mk5, _⟩ := unhide NX w5 w5 va5 ve5 (.slice none 0 0) c5 m5
            have MK5 := hide mk5
            have NX6 := hide (fun w6 kv6 => (unhide NX w5 w6 va5 ve5 kv6 c5 m5).2)
            have LI5 := hide (unhide LI w5 c5.g)
            clear PU c5 m5 mk5 NX LI
            go_wp2_with fail
            refine (unhide LI5).mono ?_; rintro e w6 ⟨rfl, hw⟩; have hw' := hw.symm; clear hw; subst hw'
            generalize hSL : setOf L = SL at *
            go_wp2_with (at_builtin; refine appendU2 (unhide MK5) (unhide HKL) rfl _ _ rfl rfl rfl ?_)
            intro kv7 w7 mu7 g7
            have R7 := hide (unhide NX6 w7 kv7 mu7 g7)
            clear mu7 g7 NX6 MK5 LI5
            go_wp2_with fail
            go_roundw
            case rel => exact ⟨k + 1, va5, ve5, _, by omega, by go_num, R7⟩
            case measure => simp [intOf]; omega
          · have hbI : ¬ ((badN (m : Int) (LL.map setOf ++ K.map setOf) (PP.drop (k + 1)) : Nat) : Int) < (bb : Int) := by omega
            have SKP := hide (fun w4 (g4 : wr.grownBy w4 none) => (unhide htp).skip hlt g4 (by rw [hdl]; omega) (by rw [hdl]; exact hbad))
            clear hur hu0 htp hbad hdl hsl hTr b2
            generalize badN (m : Int) (LL.map setOf ++ K.map setOf) (PP.drop (k + 1)) = BN at *
            generalize PP.getD k [] = L at *
            go_wp2_with fail
            refine (unhide CKO).mono ?_; rintro e w3 ⟨c3, s3, rfl, h3⟩
            have CF3 := hide (unhide CFB w3 c3 s3 h3)
            clear h3 CKO CFB
            go_wp2_with fail
            refine (unhide CF3).mono ?_; rintro e w4 ⟨rfl, g4⟩
            have R7 := hide (unhide SKP w4 g4)
            clear g4 CF3 SKP
            go_wp2_with fail
            go_roundw
            case rel => exact ⟨k + 1, va, ve, _, by omega, by go_num, R7⟩
            case measure => simp [intOf]; omega
      · have hi' : ¬ (k : Int) < (PP.length : Int) := by omega
        have hK : K = R := by
          have := (unhide htp).eq
          rw [List.drop_of_length_le (by omega)] at this
          exact this
        have CLI := hide (ck.lists w2.heap.size wr (by have := (unhide htp).le; omega) (by rw [sum_flat]; have := (unhide htp).sm; omega) (unhide htp).cl)
        have HK := hide hK
        have GWW := hide gww
        clear htp hK gw gww
        go_wp2_with fail
        refine (unhide CLI).mono ?_; rintro e w5 ⟨r5, rfl, o5, g5⟩
        have R5 : Hid (TrimE w (R, true) (.returned (.tuple #[r5, .bool true])) w5) := ⟨_, rfl, by rw [← unhide HK]; exact (sub_own (unhide GWW) o5 g5).1, grown_trans (unhide GWW) g5⟩
        clear o5 g5 CLI
        go_wp2_with fail
        go_ret2
        exact unhide R5
theorem bothT (n : Int) (LL PP : List (List Int)) (hn : tot LL ≤ 1048576) (ht : tot PP ≤ 1048576) : ∃ (R : List (List Int)) (b : Bool), tot R ≤ 1048576 ∧
    (∀ v u lo hi lo2 hi2 w, OwnS lo hi w v LL → hi ≤ w.heap.size → OwnS lo2 hi2 w u PP → Calls Tryd.prog 25 #[.agg #[.int .i64 n, v], u] w fun e w' => ∃ r, e = .returned (.tuple #[r, .bool b]) ∧ OwnS w.heap.size w'.heap.size w' r R ∧ w.grownBy w' none) ∧
    (∀ v u lo2 hi2 w, Tab w → Sls w v LL → OwnS lo2 hi2 w u PP → Calls Tryd.prog 24 #[.agg #[.int .i64 n, v], u] w fun e w' => ∃ r, e = .returned (.tuple #[r, .bool b]) ∧ OwnS w.heap.size w'.heap.size w' r R ∧ w.grownBy w' none) := by
  refine ⟨_, _, ?_, fun v u lo hi lo2 hi2 w h k q => specTrim v u n LL PP lo hi lo2 hi2 w hn ht h k q, fun v u lo2 hi2 w t h q => implTrim v u n LL PP lo2 hi2 w t hn ht h q⟩
  unfold trimB
  split
  · exact Nat.le_trans (trm_tot n (LL.map setOf) PP) ht
  · show (0 : Nat) + 0 ≤ _
    decide
end Go.Proofs.YtheigbmkldlicaaDoor.xt
