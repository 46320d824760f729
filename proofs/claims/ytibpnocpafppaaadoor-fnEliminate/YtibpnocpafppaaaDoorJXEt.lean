/- Plain mathematics of FnEliminate: a formula with a variable taken out is true just where the formula can be made true by that variable; counted, it is twice what Project counts. No condition. -/
import Derived.Test.YtibpnocpafppaaaDoorJLg
import Derived.Test.YtibpnocpafppaaaDoorJXEo
import Derived.Test.YtibpnocpafppaaaDoorJXJd
import Derived.Test.YtibpnocpafppaaaDoorJXHb
namespace Go.Proofs.YtibpnocpafppaaaDoor.et
open Go.RowKit
open lits (okB okB_iff varI)
open bset (placeN placeN_le setOf setOf_lt setOf_has setOf_bit)
open srt (swp)
open cls (hasB)
open wo (woL)
open ok (cnfB clB litIn)
open tr (litT clT cnfT)
open cnt (C)
open cs (cnfS good)
open res (canB resB resL)
open el (nthB rowE pairsE elimL elN elB elR)
open hb (wo_mem)
set_option linter.unusedVariables false
structure Ord (c : List Int) : Prop where
 ok : ∀ x ∈ c, okB x = true
 no : ∀ x ∈ c, -x ∉ c
 len : c.length ≤ 24
theorem ord_of {n : Int} {LL : List (List Int)} {c : List Int} (hc : c ∈ cnfS LL) : Ord c := by
 have hg := cs.cnfS_mem.1 hc
 have h24 := cs.good_24 hg
 obtain ⟨d, hd, ho, rfl⟩ := ms.good_mem.1 hg
 refine ⟨fun x hx => (ms.srt_mem.1 hx).1, fun x hx hn => ?_, h24⟩
 have h1 := ms.srt_mem.1 hx
 have h2 := (ms.srt_mem.1 hn).2
 rw [← wm.swp_place h1.1] at h2
 have hp := placeN_le h1.1
 unfold srt.okTo at ho
 rw [List.all_eq_true] at ho
 have h3 := ho (placeN x / 2) (List.mem_range.2 (by omega))
 unfold srt.swp at h2
 rcases (show placeN x % 2 = 0 ∨ placeN x % 2 = 1 by omega) with e | e
 ·rw [if_pos e] at h2
  have e1 : 2 * (placeN x / 2) = placeN x := by omega
  rw [e1, h1.2, h2] at h3
  cases h3
 ·rw [if_neg (by omega)] at h2
  have e1 : 2 * (placeN x / 2) + 1 = placeN x := by omega
  have e2 : 2 * (placeN x / 2) = placeN x - 1 := by omega
  rw [e1, e2, h1.2, h2] at h3
  cases h3
theorem ord_all {c : List Int} (h : Ord c) : cls.okAll c = true := by
 unfold cls.okAll
 rw [Bool.and_eq_true, decide_eq_true_iff, List.all_eq_true]
 have := h.len
 first
  | exact ⟨h.ok, by omega⟩
  | exact ⟨by omega, h.ok⟩
theorem wo_len (c : List Int) (x : Int) : (woL c x).length ≤ c.length := by
 unfold wo.woL
 exact List.length_filter_le _ _
theorem res_true {a b : List Int} {v : Int} (A : List Int) (ha : Ord a) (hb : Ord b) (h0 : 1 ≤ v) (h1 : v ≤ 24) (h2 : hasB a v = true) (h3 : hasB b (-v) = true) :
  (resB a b v = true → clT A (resL a b v) = (clT A (woL a v) || clT A (woL b (-v)))) ∧ (resB a b v = false → (clT A (woL a v) || clT A (woL b (-v))) = true) ∧ (resB a b v = true → ∀ x, x ∈ resL a b v → x ∈ woL a v ∨ x ∈ woL b (-v)) := by
 have oa := ord_all ha
 have ob := ord_all hb
 have hcan : canB a b v = true := by
  unfold res.canB
  rw [oa, ob, decide_eq_true (And.intro h0 h1), h2, h3]
  rfl
 obtain ⟨e1, e2⟩ := res.res_yes hcan
 have hlen : (res.both a b v).length ≤ 48 := by
  unfold res.both
  rw [List.length_append]
  have := wo_len a v
  have := wo_len b (-v)
  have := ha.len
  have := hb.len
  omega
 have hokb : cls.okAll (res.both a b v) = true := by rw [res.both_ok oa ob, decide_eq_true hlen]
 have hin : ∀ x ∈ res.both a b v, okB x = true := by
  intro x hx
  unfold res.both at hx
  rw [List.mem_append] at hx
  rcases hx with hx | hx
  ·exact ha.ok x (wo_mem.1 hx).1
  ·exact hb.ok x (wo_mem.1 hx).1
 have t1 : srt.sortL (res.both a b v) = srt.srt (setOf (res.both a b v)) 48 := by unfold srt.sortL; rw [hokb, if_pos rfl]
 have t2 : srt.sortB (res.both a b v) = srt.okTo (setOf (res.both a b v)) 24 := by unfold srt.sortB; rw [hokb]; rfl
 have hcl : clT A (res.both a b v) = (clT A (woL a v) || clT A (woL b (-v))) := by
  unfold tr.clT res.both
  rw [List.any_append]
 rw [e1, e2, t1, t2]
 refine ⟨fun _ => by rw [ms.clT_srt A hin, hcl], fun h => by rw [← hcl]; exact ms.clT_clash A h, fun _ x hx => ?_⟩
 have := (ms.mem_set hin).1 hx
 unfold res.both at this
 exact List.mem_append.1 this
theorem var_ok {x : Int} (h : okB x = true) : 1 ≤ varI x ∧ varI x ≤ 24 ∧ (varI x = x ∨ varI x = -x) := by
 have := okB_iff.1 h
 unfold lits.varI
 rw [h, if_pos rfl]
 split <;> omega
theorem lit_far {A : List Int} {i : Nat} {z x : Int} (hx : okB x = true) (h1 : x ≠ (i : Int) + 1) (h2 : x ≠ -((i : Int) + 1)) : litT (A.set i z) x = litT A x := by
 obtain ⟨v1, v2, v3⟩ := var_ok hx
 unfold tr.litT
 rw [List.length_set]
 have e : (A.set i z).getD (varI x - 1).toNat 0 = A.getD (varI x - 1).toNat 0 := by
  simp only [List.getD]
  rw [List.getElem?_set_ne (by omega)]
 rw [e]
theorem lit_near {A : List Int} {i : Nat} {z : Int} (hi : i < A.length) (h24 : i < 24) : litT (A.set i z) ((i : Int) + 1) = decide (z = 1) ∧ litT (A.set i z) (-((i : Int) + 1)) = !decide (z = 1) := by
 have o1 : okB ((i : Int) + 1) = true := okB_iff.2 ⟨by omega, by omega, by omega⟩
 have o2 : okB (-((i : Int) + 1)) = true := okB_iff.2 ⟨by omega, by omega, by omega⟩
 have a1 : varI ((i : Int) + 1) = (i : Int) + 1 := by unfold lits.varI; rw [o1, if_pos rfl, if_neg (by omega)]
 have a2 : varI (-((i : Int) + 1)) = (i : Int) + 1 := by unfold lits.varI; rw [o2, if_pos rfl, if_pos (by omega)]; omega
 have e : ((i : Int) + 1 - 1).toNat = i := by omega
 have g : (A.set i z).getD i 0 = z := by simp [hi]
 unfold tr.litT
 rw [a1, a2, if_neg (by omega), if_neg (by omega), List.length_set, decide_eq_true (show (i : Int) + 1 ≤ (A.length : Int) by omega), e, g, decide_eq_true (show 0 < (i : Int) + 1 by omega), decide_eq_false (show ¬ 0 < -((i : Int) + 1) by omega)]
 cases decide (z = 1) <;> exact ⟨rfl, rfl⟩
theorem has_mem {c : List Int} {x : Int} : hasB c x = true ↔ x ∈ c := by
 unfold cls.hasB
 exact decide_eq_true_iff
theorem nth_mem {v : Int} {c : List Int} (h : nthB v c = true) : v ∉ c ∧ -v ∉ c := by
 unfold el.nthB at h
 rw [Bool.and_eq_true] at h
 refine ⟨fun hv => ?_, fun hv => ?_⟩
 ·rw [has_mem.2 hv] at h
  cases h.1
 ·rw [has_mem.2 hv] at h
  cases h.2
theorem cl_far {A : List Int} {i : Nat} {z : Int} {c : List Int} (hok : ∀ x ∈ c, okB x = true) (h1 : (i : Int) + 1 ∉ c) (h2 : -((i : Int) + 1) ∉ c) : clT (A.set i z) c = clT A c := by
 unfold tr.clT
 rw [Bool.eq_iff_iff, List.any_eq_true, List.any_eq_true]
 constructor
 ·rintro ⟨x, hx, e⟩
  rw [lit_far (hok x hx) (fun q => h1 (q ▸ hx)) (fun q => h2 (q ▸ hx))] at e
  exact ⟨x, hx, e⟩
 ·rintro ⟨x, hx, e⟩
  rw [← lit_far (A := A) (i := i) (z := z) (hok x hx) (fun q => h1 (q ▸ hx)) (fun q => h2 (q ▸ hx))] at e
  exact ⟨x, hx, e⟩
theorem cl_pos {A : List Int} {i : Nat} {c : List Int} (hi : i < A.length) (h24 : i < 24) (ho : Ord c) (h : (i : Int) + 1 ∈ c) : clT (A.set i 1) c = true ∧ clT (A.set i 0) c = clT A (woL c ((i : Int) + 1)) := by
 have hn := ho.no _ h
 constructor
 ·unfold tr.clT
  rw [List.any_eq_true]
  exact ⟨_, h, by rw [(lit_near hi h24).1]; rfl⟩
 ·unfold tr.clT
  rw [Bool.eq_iff_iff, List.any_eq_true, List.any_eq_true]
  constructor
  ·rintro ⟨x, hx, e⟩
   by_cases q : x = (i : Int) + 1
   ·rw [q, (lit_near hi h24).1] at e
    cases e
   ·rw [lit_far (ho.ok x hx) q (fun q => hn (q ▸ hx))] at e
    exact ⟨x, wo_mem.2 ⟨hx, q⟩, e⟩
  ·rintro ⟨x, hx, e⟩
   obtain ⟨hx, q⟩ := wo_mem.1 hx
   refine ⟨x, hx, ?_⟩
   rw [lit_far (ho.ok x hx) q (fun q => hn (q ▸ hx))]
   exact e
theorem cl_neg {A : List Int} {i : Nat} {c : List Int} (hi : i < A.length) (h24 : i < 24) (ho : Ord c) (h : -((i : Int) + 1) ∈ c) : clT (A.set i 0) c = true ∧ clT (A.set i 1) c = clT A (woL c (-((i : Int) + 1))) := by
 have hn := ho.no _ h
 rw [Int.neg_neg] at hn
 constructor
 ·unfold tr.clT
  rw [List.any_eq_true]
  exact ⟨_, h, by rw [(lit_near hi h24).2]; rfl⟩
 ·unfold tr.clT
  rw [Bool.eq_iff_iff, List.any_eq_true, List.any_eq_true]
  constructor
  ·rintro ⟨x, hx, e⟩
   by_cases q : x = -((i : Int) + 1)
   ·rw [q, (lit_near hi h24).2] at e
    cases e
   ·rw [lit_far (ho.ok x hx) (fun q => hn (q ▸ hx)) q] at e
    exact ⟨x, wo_mem.2 ⟨hx, q⟩, e⟩
  ·rintro ⟨x, hx, e⟩
   obtain ⟨hx, q⟩ := wo_mem.1 hx
   refine ⟨x, hx, ?_⟩
   rw [lit_far (ho.ok x hx) (fun q => hn (q ▸ hx)) q]
   exact e
theorem elim_true {A : List Int} {i : Nat} {R : List (List Int)} (hi : i < A.length) (h24 : i < 24) (hR : ∀ c ∈ R, Ord c) : cnfT A (elimL ((i : Int) + 1) R) = (cnfT (A.set i 0) R || cnfT (A.set i 1) R) := by
 have key : ∀ {P : Prop} {b : Bool}, (P ↔ b = true) → (P ↔ b = true) := fun h => h
 rw [Bool.eq_iff_iff, Bool.or_eq_true]
 unfold tr.cnfT
 simp only [List.all_eq_true]
 constructor
 ·intro h
  have hn : ∀ c ∈ R, nthB ((i : Int) + 1) c = true → clT A c = true := fun c hc hq => h c (List.mem_append_left _ (List.mem_filter.2 ⟨hc, hq⟩))
  have hp : ∀ a ∈ R, ∀ b ∈ R, (i : Int) + 1 ∈ a → -((i : Int) + 1) ∈ b → (clT A (woL a ((i : Int) + 1)) || clT A (woL b (-((i : Int) + 1)))) = true := by
   intro a ha b hb h1 h2
   have rt := res_true A (hR a ha) (hR b hb) (show 1 ≤ (i : Int) + 1 by omega) (by omega) (has_mem.2 h1) (has_mem.2 h2)
   cases hr : resB a b ((i : Int) + 1)
   ·exact rt.2.1 hr
   ·rw [← rt.1 hr]
    refine h _ (List.mem_append_right _ ?_)
    unfold el.pairsE el.rowE
    rw [List.mem_flatMap]
    exact ⟨a, ha, List.mem_map.2 ⟨b, List.mem_filter.2 ⟨hb, hr⟩, rfl⟩⟩
  by_cases hall : ∀ a ∈ R, (i : Int) + 1 ∈ a → clT A (woL a ((i : Int) + 1)) = true
  ·left
   intro c hc
   by_cases h1 : (i : Int) + 1 ∈ c
   ·rw [(cl_pos hi h24 (hR c hc) h1).2]
    exact hall c hc h1
   ·by_cases h2 : -((i : Int) + 1) ∈ c
    ·exact (cl_neg hi h24 (hR c hc) h2).1
    ·rw [cl_far (hR c hc).ok h1 h2]
     refine hn c hc ?_
     unfold el.nthB cls.hasB
     rw [decide_eq_false h1, decide_eq_false h2]
     rfl
  ·right
   have : ∃ a ∈ R, (i : Int) + 1 ∈ a ∧ clT A (woL a ((i : Int) + 1)) = false := Classical.byContradiction fun hne => hall fun a ha h1 => by
    cases hq : clT A (woL a ((i : Int) + 1))
    ·exact absurd ⟨a, ha, h1, hq⟩ hne
    ·rfl
   obtain ⟨a, ha, h1, hf⟩ := this
   intro c hc
   by_cases h2 : -((i : Int) + 1) ∈ c
   ·rw [(cl_neg hi h24 (hR c hc) h2).2]
    have := hp a ha c hc h1 h2
    rw [hf, Bool.false_or] at this
    exact this
   ·by_cases h3 : (i : Int) + 1 ∈ c
    ·exact (cl_pos hi h24 (hR c hc) h3).1
    ·rw [cl_far (hR c hc).ok h3 h2]
     refine hn c hc ?_
     unfold el.nthB cls.hasB
     rw [decide_eq_false h3, decide_eq_false h2]
     rfl
 ·intro h c hc
  unfold el.elimL at hc
  rw [List.mem_append, List.mem_filter] at hc
  rcases hc with ⟨hc, hq⟩ | hc
  ·obtain ⟨h1, h2⟩ := nth_mem hq
   rcases h with h | h
   ·rw [← cl_far (A := A) (i := i) (z := 0) (hR c hc).ok h1 h2]
    exact h c hc
   ·rw [← cl_far (A := A) (i := i) (z := 1) (hR c hc).ok h1 h2]
    exact h c hc
  ·unfold el.pairsE el.rowE at hc
   rw [List.mem_flatMap] at hc
   obtain ⟨a, ha, hc⟩ := hc
   rw [List.mem_map] at hc
   obtain ⟨b, hb, rfl⟩ := hc
   obtain ⟨hb, hr⟩ := List.mem_filter.1 hb
   obtain ⟨h1, h2⟩ := el.res_has hr
   have rt := res_true A (hR a ha) (hR b hb) (show 1 ≤ (i : Int) + 1 by omega) (by omega) h1 h2
   rw [rt.1 hr, Bool.or_eq_true]
   rcases h with h | h
   ·left
    rw [← (cl_pos hi h24 (hR a ha) (has_mem.1 h1)).2]
    exact h a ha
   ·right
    rw [← (cl_neg hi h24 (hR b hb) (has_mem.1 h2)).2]
    exact h b hb
theorem elim_no {i : Nat} {R : List (List Int)} (h24 : i < 24) (hR : ∀ c ∈ R, Ord c) {c : List Int} (hc : c ∈ cnfS (elimL ((i : Int) + 1) R)) : (i : Int) + 1 ∉ c ∧ -((i : Int) + 1) ∉ c := by
 obtain ⟨d, hd, _, rfl⟩ := ms.good_mem.1 (cs.cnfS_mem.1 hc)
 have o1 : okB ((i : Int) + 1) = true := okB_iff.2 ⟨by omega, by omega, by omega⟩
 have o2 : okB (-((i : Int) + 1)) = true := okB_iff.2 ⟨by omega, by omega, by omega⟩
 have key : (i : Int) + 1 ∉ d ∧ -((i : Int) + 1) ∉ d := by
  unfold el.elimL at hd
  rw [List.mem_append, List.mem_filter] at hd
  rcases hd with ⟨_, hq⟩ | hd
  ·exact nth_mem hq
  ·unfold el.pairsE el.rowE at hd
   rw [List.mem_flatMap] at hd
   obtain ⟨a, ha, hd⟩ := hd
   rw [List.mem_map] at hd
   obtain ⟨b, hb, rfl⟩ := hd
   obtain ⟨hb, hr⟩ := List.mem_filter.1 hb
   obtain ⟨h1, h2⟩ := el.res_has hr
   have rt := (res_true [] (hR a ha) (hR b hb) (show 1 ≤ (i : Int) + 1 by omega) (by omega) h1 h2).2.2 hr
   constructor
   ·intro hx
    rcases rt _ hx with hx | hx
    ·exact (wo_mem.1 hx).2 rfl
    ·have := (hR b hb).no _ (has_mem.1 h2)
     rw [Int.neg_neg] at this
     exact this (wo_mem.1 hx).1
   ·intro hx
    rcases rt _ hx with hx | hx
    ·exact (hR a ha).no _ (has_mem.1 h1) (wo_mem.1 hx).1
    ·exact (wo_mem.1 hx).2 rfl
 refine ⟨fun hx => ?_, fun hx => ?_⟩
 ·have := (ms.srt_mem.1 hx).2
  rw [setOf_has d _ o1] at this
  exact key.1 (has_mem.1 this)
 ·have := (ms.srt_mem.1 hx).2
  rw [setOf_has d _ o2] at this
  exact key.2 (has_mem.1 this)
theorem C_split (n : Nat) : ∀ (p f : List Int → Bool), C n f = C n (fun a => p a && f a) + C n (fun a => !p a && f a) := by
 induction n with
 | zero =>
  intro p f
  show (if f [] then 1 else 0) = (if p [] && f [] then 1 else 0) + (if !p [] && f [] then 1 else 0)
  cases p [] <;> cases f [] <;> rfl
 | succ n ih =>
  intro p f
  show C n _ + C n _ = (C n _ + C n _) + (C n _ + C n _)
  rw [ih (fun l => p (0 :: l)) (fun l => f (0 :: l)), ih (fun l => p (1 :: l)) (fun l => f (1 :: l))]
  exact Nat.add_add_add_comm _ _ _ _
theorem count_twice {m i : Nat} {R : List (List Int)} (hi : i < m) (h24 : i < 24) (hR : ∀ c ∈ R, Ord c) : C m (fun A => cnfT A (elimL ((i : Int) + 1) R)) = 2 * C m (jd.fM i R) := by
 have e1 : C m (fun A => cnfT A (elimL ((i : Int) + 1) R)) = C m (fun A => cnfT (A.set i 0) R || cnfT (A.set i 1) R) := jd.C_congr m _ _ (fun a ha _ => elim_true (by omega) h24 hR)
 have e2 := C_split m (fun a => !decide (a.getD i 0 = 1)) (fun A => cnfT (A.set i 0) R || cnfT (A.set i 1) R)
 have e3 : C m (fun a => !decide (a.getD i 0 = 1) && (cnfT (a.set i 0) R || cnfT (a.set i 1) R)) = C m (jd.fM i R) := by
  refine jd.C_congr m _ _ fun a ha hb => ?_
  have e := jd.set_same a i
  have hz : a.getD i 0 = 0 ∨ a.getD i 0 = 1 := by
   rw [show a.getD i 0 = a[i]'(by omega) by simp [ha, hi]]
   exact hb _ (List.getElem_mem _)
  unfold jd.fM
  rcases hz with z | z
  ·rw [z] at e ⊢
   rw [e]
  ·rw [z]
   rfl
 have e4 : C m (fun a => !(!decide (a.getD i 0 = 1)) && (cnfT (a.set i 0) R || cnfT (a.set i 1) R)) = C m (jd.fP i R) := by
  refine jd.C_congr m _ _ fun a ha hb => ?_
  have e := jd.set_same a i
  have hz : a.getD i 0 = 0 ∨ a.getD i 0 = 1 := by
   rw [show a.getD i 0 = a[i]'(by omega) by simp [ha, hi]]
   exact hb _ (List.getElem_mem _)
  unfold jd.fP
  rcases hz with z | z
  ·rw [z]
   rfl
  ·rw [z] at e ⊢
   rw [e, Bool.or_comm]
   rfl
 have e5 := jd.both_ways m i R hi
 rw [e1, e2, e3, e4, e5]
 omega
theorem fM_srt {n : Int} {LL : List (List Int)} (hc : cnfB n LL = true) (i : Nat) : jd.fM i (cnfS LL) = jd.fM i LL := by
 funext a
 unfold jd.fM
 rw [ms.cnfT_srt a hc, ms.cnfT_srt (a.set i 1) hc]
theorem told {n v : Int} {LL : List (List Int)} (hb : elB n v LL = true) (hn : n ≤ 14) : ct.countI (elN n v LL) (elR n v LL) = 2 * jd.projI n v LL ∧ 0 ≤ jd.projI n v LL ∧ jd.projI n v LL ≤ 16384 := by
 unfold el.elB at hb
 rw [Bool.and_eq_true] at hb
 obtain ⟨hcb, h1, hxn, hn24⟩ := ge.hv_yes hb.1
 obtain ⟨m, rfl⟩ := Int.eq_ofNat_of_zero_le (show 0 ≤ n by omega)
 obtain ⟨u, rfl⟩ := Int.eq_ofNat_of_zero_le (show 0 ≤ v by omega)
 obtain ⟨i, rfl⟩ : ∃ i, u = i + 1 := ⟨u - 1, by omega⟩
 have hsb : cnfB (m : Int) (elimL ((i + 1 : Nat) : Int) (cnfS LL)) = true := hb.2
 obtain ⟨s1, s2, s3⟩ := cso.srt_yes hsb
 have hm : m ≤ 14 := by omega
 have hR : ∀ c ∈ cnfS LL, Ord c := fun c hc => ord_of (n := (m : Int)) hc
 have ev : ((i + 1 : Nat) : Int) = (i : Int) + 1 := by omega
 rw [jd.proj_yes hb.1 hm]
 have hl := jd.proj_le (v := i + 1) LL hm
 refine ⟨?_, by omega, by omega⟩
 unfold el.elN el.elR
 rw [hb.1, if_pos rfl, if_pos rfl, s1, s2]
 unfold ct.countI
 rw [ms.cnfB_srt hsb, decide_eq_true (show (m : Int) ≤ 14 by omega), Int.toNat_natCast]
 have e1 : ct.countN m (cnfS (elimL ((i + 1 : Nat) : Int) (cnfS LL))) = C m (fun A => cnfT A (elimL ((i : Int) + 1) (cnfS LL))) := by
  unfold ct.countN
  rw [cnt.cnt_asg m (fun A => cnfT A (cnfS (elimL ((i + 1 : Nat) : Int) (cnfS LL))))]
  congr 1
  funext A
  rw [ms.cnfT_srt A hsb, ev]
 rw [if_pos (by rfl), e1, count_twice (by omega) (by omega) hR, fM_srt hcb]
 unfold jd.projN
 rw [Nat.add_sub_cancel]
 omega
theorem told_no {n v : Int} {LL : List (List Int)} (hb : elB n v LL = true) {c : List Int} (hc : c ∈ elR n v LL) : v ∉ c ∧ -v ∉ c := by
 unfold el.elB at hb
 rw [Bool.and_eq_true] at hb
 obtain ⟨hcb, h1, hxn, hn24⟩ := ge.hv_yes hb.1
 obtain ⟨u, rfl⟩ := Int.eq_ofNat_of_zero_le (show 0 ≤ v by omega)
 obtain ⟨i, rfl⟩ : ∃ i, u = i + 1 := ⟨u - 1, by omega⟩
 have ev : ((i + 1 : Nat) : Int) = (i : Int) + 1 := by omega
 have hsb : cnfB n (elimL ((i + 1 : Nat) : Int) (cnfS LL)) = true := hb.2
 obtain ⟨s1, s2, s3⟩ := cso.srt_yes hsb
 unfold el.elR at hc
 rw [hb.1, if_pos rfl, s2, ev] at hc
 rw [ev]
 exact elim_no (by omega) (fun c hc => ord_of (n := n) hc) hc
theorem told_zero {n v : Int} {LL : List (List Int)} (hb : elB n v LL = false) : elN n v LL = 0 := by
 unfold el.elB at hb
 unfold el.elN
 cases h : ge.hvB n v LL
 ·rfl
 ·rw [h, Bool.true_and] at hb
  rw [if_pos rfl]
  exact (cso.srt_no hb).1
end Go.Proofs.YtibpnocpafppaaaDoor.et
