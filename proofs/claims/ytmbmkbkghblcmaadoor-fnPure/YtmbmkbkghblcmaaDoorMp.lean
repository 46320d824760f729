/- Plain mathematics of FnPure: a formula can be true just when it can be with all its pure literals taken; a free variable is told by neither of its literals; and the frame of the loop that takes them; no condition. -/
import Derived.Test.YtmbmkbkghblcmaaDoorFp
import Derived.Test.YtmbmkbkghblcmaaDoorMf
namespace Go.Proofs.YtmbmkbkghblcmaaDoor.mp
open Go.RowKit
open Go.Proofs.YtmbmkbkghblcmaaDoor.lits (okB varI okB_iff)
open Go.Proofs.YtmbmkbkghblcmaaDoor.tr (litT clT cnfT)
open Go.Proofs.YtmbmkbkghblcmaaDoor.ok (cnfB clB litIn)
open Go.Proofs.YtmbmkbkghblcmaaDoor.cls (hasB)
open Go.Proofs.YtmbmkbkghblcmaaDoor.wo (woL)
open Go.Proofs.YtmbmkbkghblcmaaDoor.fx (fixL fixB)
open Go.Proofs.YtmbmkbkghblcmaaDoor.cnt (C)
open Go.Proofs.YtmbmkbkghblcmaaDoor.srt (srt litI)
open Go.Proofs.YtmbmkbkghblcmaaDoor.fm (freeL pureL pureN freeN)
open Go.Proofs.YtmbmkbkghblcmaaDoor.mf (pl sg)
open Go.Proofs.YtmbmkbkghblcmaaDoor.sl (Own)
open Go.Proofs.YtmbmkbkghblcmaaDoor.css (OwnS tot)
open Go.Proofs.YtmbmkbkghblcmaaDoor.cf (Box)
set_option linter.unusedVariables false

theorem srt_mem {S j : Nat} {x : Int} : x ∈ srt S j ↔ ∃ i, i < j ∧ S.testBit i = true ∧ litI i = x := by
  unfold srt.srt
  rw [List.mem_map]
  constructor
  · rintro ⟨i, hi, e⟩
    rw [List.mem_filter, List.mem_range] at hi
    exact ⟨i, hi.1, hi.2, e⟩
  · rintro ⟨i, h1, h2, e⟩
    exact ⟨i, by rw [List.mem_filter, List.mem_range]; exact ⟨h1, h2⟩, e⟩
/-- a free variable is told by neither of its literals -/
theorem free_mem {n : Int} {LL : List (List Int)} {L : List Int} {y : Int} (h : y ∈ freeL n LL L) : 1 ≤ y ∧ y ≤ 24 ∧ hasB L y = false ∧ hasB L (-y) = false := by
  unfold fm.freeL at h
  cases hc : cnfB n LL
  · rw [hc] at h
    simp at h
  · rw [hc, if_pos rfl] at h
    have cf := fm.cnf_facts hc
    obtain ⟨m, rfl⟩ := Int.eq_ofNat_of_zero_le cf.1
    have hm : m ≤ 24 := by omega
    rw [Int.toNat_natCast] at h
    obtain ⟨i, hi, hb, e⟩ := srt_mem.1 h
    have hb' := hb
    rw [fm.freeN_bit m L i hm, Bool.and_eq_true, Bool.and_eq_true, decide_eq_true_iff, decide_eq_true_iff] at hb
    obtain ⟨k, rfl⟩ : ∃ k, i = 2 * k := ⟨i / 2, by omega⟩
    have hk : k < m := by omega
    rw [fm.free_even L hm hk, Bool.and_eq_true, Bool.not_eq_true', Bool.not_eq_true'] at hb'
    have : y = (k : Int) + 1 := by
      rw [← e]
      unfold srt.litI
      rw [if_neg (by omega)]
      omega
    subst this
    exact ⟨by omega, by omega, hb'⟩
theorem pure_mem {n : Int} {LL : List (List Int)} {x : Int} (hc : cnfB n LL = true) (h : x ∈ pureL n LL) : litIn n x = true ∧ ∀ L ∈ LL, hasB L (-x) = false := by
  unfold fm.pureL at h
  rw [hc, if_pos rfl] at h
  have cf := fm.cnf_facts hc
  obtain ⟨i, hi, hb, e⟩ := srt_mem.1 h
  have key : hasB LL.flatten x = true ∧ hasB LL.flatten (-x) = false := by
    obtain ⟨k, hk | hk⟩ : ∃ k, i = 2 * k ∨ i = 2 * k + 1 := ⟨i / 2, by omega⟩
    · subst hk
      rw [fm.pure_even _ (by omega), Bool.and_eq_true, Bool.not_eq_true'] at hb
      have : x = (k : Int) + 1 := by
        rw [← e]
        unfold srt.litI
        rw [if_neg (by omega)]
        omega
      subst this
      exact hb
    · subst hk
      rw [fm.pure_odd _ (by omega), Bool.and_eq_true, Bool.not_eq_true'] at hb
      have : x = -((k : Int) + 1) := by
        rw [← e]
        unfold srt.litI
        rw [if_pos (by omega)]
        omega
      subst this
      rw [Int.neg_neg]
      exact hb
  obtain ⟨k1, k2⟩ := key
  unfold cls.hasB at k1 k2 ⊢
  rw [decide_eq_true_iff, List.mem_flatten] at k1
  rw [decide_eq_false_iff_not, List.mem_flatten] at k2
  obtain ⟨L, hL, hx⟩ := k1
  refine ⟨(cf.2.2.2 L hL).2 x hx, fun K hK => ?_⟩
  rw [decide_eq_false_iff_not]
  exact fun hx => k2 ⟨K, hK, hx⟩

theorem C_mono {n : Nat} {f g : List Int → Bool} (h : ∀ l, l.length = n → f l = true → g l = true) : C n f ≤ C n g := by
  induction n generalizing f g with
  | zero =>
    simp only [cnt.C]
    have := h [] rfl
    cases e : f [] <;> simp [e] at this ⊢
    rw [this]
    simp
  | succ n ih =>
    simp only [cnt.C]
    have a := ih (f := fun l => f (0 :: l)) (g := fun l => g (0 :: l)) (fun l hl => h _ (by simp [hl]))
    have b := ih (f := fun l => f (1 :: l)) (g := fun l => g (1 :: l)) (fun l hl => h _ (by simp [hl]))
    omega
theorem count_C {m : Nat} {MM : List (List Int)} (hm : m ≤ 14) (hM : cnfB (m : Int) MM = true) : ct.countI (m : Int) MM = (C m (fun l => cnfT l MM) : Int) := by
  unfold ct.countI ct.countN
  rw [hM, decide_eq_true (show (m : Int) ≤ 14 by omega), Int.toNat_natCast, cnt.cnt_asg m (fun l => cnfT l MM)]
  rfl
/-- one pure literal taken -/
theorem step {m : Nat} {G : List (List Int)} {x : Int} (hm : m ≤ 14) (hc : cnfB (m : Int) G = true) (hx : litIn (m : Int) x = true) (hp : ∀ L ∈ G, hasB L (-x) = false) :
    decide (0 < ct.countI (m : Int) (fixL x G)) = decide (0 < ct.countI (m : Int) G) := by
  have hl := mf.litIn_pl hx
  rw [count_C hm (mf.cnfB_fix hc), count_C hm hc]
  have s1 : C m (fun l => cnfT l (fixL x G)) = C m (fun l => cnfT (l.set (pl x) (sg x)) G) := mf.C_congr (fun l hl' => mf.cnf_set hl.1 (by omega))
  have s2 : C m (fun l => cnfT l G) ≤ C m (fun l => cnfT (l.set (pl x) (sg x)) G) := C_mono (fun l hl' ht => by
    show cnfT (l.set (pl x) (sg x)) G = true
    have ht' : cnfT l G = true := ht
    unfold tr.cnfT at ht' ⊢
    rw [List.all_eq_true] at ht' ⊢
    intro L hL
    have h1 := ht' L hL
    have h2 := hp L hL
    unfold tr.clT at h1 ⊢
    rw [List.any_eq_true] at h1 ⊢
    obtain ⟨y, hy, ty⟩ := h1
    refine ⟨y, hy, ?_⟩
    rw [mf.lit_set hl.1 (by omega)]
    by_cases e1 : y = x
    · rw [if_pos e1]
    · rw [if_neg e1, if_neg (fun e2 => ?_)]
      · exact ty
      · unfold cls.hasB at h2
        rw [decide_eq_false_iff_not] at h2
        exact h2 (e2 ▸ hy))
  have s3 := mf.C_set m (pl x) (fun l => cnfT l G) (by omega)
  rw [s1]
  have : sg x = 0 ∨ sg x = 1 := by unfold mf.sg; split <;> omega
  have s4 : C m (fun l => cnfT (l.set (pl x) (sg x)) G) ≤ 2 * C m (fun l => cnfT l G) := by
    rcases this with h | h
    · rw [h]
      have : C m (fun l => cnfT (l.set (pl x) 0) G) + C m (fun l => cnfT (l.set (pl x) 1) G) = 2 * C m (fun l => cnfT l G) := s3
      omega
    · rw [h]
      have : C m (fun l => cnfT (l.set (pl x) 0) G) + C m (fun l => cnfT (l.set (pl x) 1) G) = 2 * C m (fun l => cnfT l G) := s3
      omega
  by_cases h : 0 < C m (fun l => cnfT l G)
  · rw [decide_eq_true (by omega), decide_eq_true (by omega)]
  · rw [decide_eq_false (by omega), decide_eq_false (by omega)]

theorem getD_mem {P : List Int} {k : Nat} (h : k < P.length) : P.getD k 0 ∈ P := by
  have : P.getD k 0 = P[k] := by simp [h]
  rw [this]
  exact List.getElem_mem h
/-- the formula with the first k of the literals taken -/
def gk (P : List Int) (LL : List (List Int)) (k : Nat) : List (List Int) := (P.take k).foldl (fun M x => fixL x M) LL
theorem gk_zero (P : List Int) (LL : List (List Int)) : gk P LL 0 = LL := rfl
theorem gk_succ (P : List Int) (LL : List (List Int)) {k : Nat} (h : k < P.length) : gk P LL (k + 1) = fixL (P.getD k 0) (gk P LL k) := by
  unfold gk
  rw [List.take_succ_eq_append_getElem h, List.foldl_append]
  simp [h]
theorem fix_has {x y : Int} {G : List (List Int)} (h : ∀ L ∈ G, hasB L y = false) : ∀ L ∈ fixL x G, hasB L y = false := by
  intro K hK
  unfold fx.fixL at hK
  obtain ⟨L, hL, rfl⟩ := List.mem_map.1 hK
  have := h L (List.mem_filter.1 hL).1
  unfold cls.hasB at this ⊢
  rw [decide_eq_false_iff_not] at this ⊢
  unfold wo.woL
  exact fun hm => this (List.mem_filter.1 hm).1
theorem gk_facts {n : Int} {LL : List (List Int)} (hc : cnfB n LL = true) (k : Nat) (hk : k ≤ (pureL n LL).length) :
    cnfB n (gk (pureL n LL) LL k) = true ∧ (∀ x ∈ pureL n LL, ∀ L ∈ gk (pureL n LL) LL k, hasB L (-x) = false) ∧ tot (gk (pureL n LL) LL k) ≤ tot LL := by
  induction k with
  | zero => exact ⟨hc, fun x hx => (pure_mem hc hx).2, Nat.le_refl _⟩
  | succ k ih =>
    have i := ih (by omega)
    rw [gk_succ _ _ (by omega)]
    exact ⟨mf.cnfB_fix i.1, fun x hx => fix_has (i.2.1 x hx), Nat.le_trans (fx.fixL_tot _ _) i.2.2⟩
theorem gk_fix {n : Int} {LL : List (List Int)} (hc : cnfB n LL = true) {k : Nat} (hk : k < (pureL n LL).length) : fixB n (gk (pureL n LL) LL k) ((pureL n LL).getD k 0) = true := by
  have f := gk_facts hc k (by omega)
  have hm : (pureL n LL).getD k 0 ∈ pureL n LL := getD_mem hk
  unfold fx.fixB
  rw [f.1, (pure_mem hc hm).1]
  rfl
theorem gk_end {n : Int} {LL : List (List Int)} (hc : cnfB n LL = true) (hn : n ≤ 14) (k : Nat) (hk : k ≤ (pureL n LL).length) :
    decide (0 < ct.countI n (gk (pureL n LL) LL k)) = decide (0 < ct.countI n LL) := by
  have cf := fm.cnf_facts hc
  obtain ⟨m, rfl⟩ := Int.eq_ofNat_of_zero_le cf.1
  induction k with
  | zero => rfl
  | succ k ih =>
    have f := gk_facts hc k (by omega)
    have hm : (pureL (m : Int) LL).getD k 0 ∈ pureL (m : Int) LL := getD_mem (by omega)
    rw [gk_succ _ _ (by omega), step (by omega) f.1 (pure_mem hc hm).1 (f.2.1 _ hm)]
    exact ih (by omega)

/-- while the pure literals are taken: the formula, its copy in a struct variable, the literals -/
structure Pm (w wr : World) (n : Int) (v pv u : Value) (LL : List (List Int)) (P : List Int) (M : List (List Int)) (c3 c8 : Nat) : Prop where
  g : w.grownBy wr none
  f : Box 35 wr c3 (.int .i64 n) v
  h : Box 35 wr c8 (.int .i64 n) u
  o : ∃ lo hi, OwnS lo hi wr v LL
  q : ∃ lo hi, OwnS lo hi wr u M
  p : ∃ lo hi, Own lo hi wr pv P
  l : w.heap.size ≤ c8
  d : c8 ≠ c3
theorem Pm.kept {w wr w1 : World} {n : Int} {v pv u : Value} {LL : List (List Int)} {P : List Int} {M : List (List Int)} {c3 c8 : Nat} (h : Pm w wr n v pv u LL P M c3 c8) (g : wr.grownBy w1 none) : Pm w w1 n v pv u LL P M c3 c8 := by
  obtain ⟨a, b, c, ⟨_, _, d⟩, ⟨_, _, e⟩, ⟨_, _, f⟩, i, j⟩ := h
  exact ⟨sl.grown_trans (r := none) a g, b.kept g, c.kept g, ⟨_, _, d.kept g⟩, ⟨_, _, e.kept g⟩, ⟨_, _, f.kept g⟩, i, j⟩
/-- the copy set to what Fix told -/
theorem Pm.set {w wr : World} {n : Int} {v pv u u' : Value} {LL : List (List Int)} {P : List Int} {M M' : List (List Int)} {c3 c8 lo hi : Nat} (h : Pm w wr n v pv u LL P M c3 c8) (o' : OwnS lo hi wr u' M') :
    Pm w ((wr.setCell ⟨c8, 0, none⟩ (.int .i64 n)).setCell ⟨c8, 1, none⟩ u') n v pv u' LL P M' c3 c8 := by
  obtain ⟨a, b, c, ⟨_, _, d⟩, ⟨_, _, e⟩, ⟨_, _, f⟩, i, j⟩ := h
  refine ⟨cf.grown_set (cf.grown_set a i) i, (b.setO j).setO j, (c.set0 _).set1 _, ⟨_, _, gr.ownS_set (gr.ownS_set d c) (c.set0 _)⟩, ⟨_, _, gr.ownS_set (gr.ownS_set o' c) (c.set0 _)⟩, ?_, i, j⟩
  have k := gr.own_set (i := 1) (u := u') (gr.own_set (i := 0) (u := .int .i64 n) f.1 gr.ty2 c) gr.ty2 (c.set0 _)
  exact ⟨_, _, sl.Own.of k⟩
/-- behind a call of Fix and its answer in a struct variable -/
def Aft (w W : World) (n : Int) (v pv u u' : Value) (LL : List (List Int)) (P : List Int) (M M' : List (List Int)) (c3 c8 h : Nat) : Prop :=
  Pm w W n v pv u LL P M c3 c8 ∧ Box 35 W h (.int .i64 n) u' ∧ ∃ lo hi, OwnS lo hi W u' M'
theorem aftA {w wr w9 : World} {n : Int} {v pv u u' : Value} {LL : List (List Int)} {P : List Int} {M M' : List (List Int)} {c3 c8 lo hi : Nat} (h : Pm w wr n v pv u LL P M c3 c8) (g : wr.grownBy w9 none) (o : OwnS lo hi w9 u' M') :
    Aft w (w9.alloc (.cells #[.int .i64 n, u'] 35)) n v pv u u' LL P M M' c3 c8 w9.heap.size := by
  have gA := World.grownBy_alloc w9 (.cells #[.int .i64 n, u'] 35) none
  exact ⟨(h.kept g).kept gA, Box.new _ _ _ _, _, _, o.kept gA⟩
theorem aftB {w wr w9 : World} {n : Int} {v pv u u' x y : Value} {LL : List (List Int)} {P : List Int} {M M' : List (List Int)} {c3 c8 lo hi : Nat} (h : Pm w wr n v pv u LL P M c3 c8) (g : wr.grownBy w9 none) (b : Box 35 w9 wr.heap.size x y) (o : OwnS lo hi w9 u' M') :
    Aft w ((w9.setCell ⟨wr.heap.size, 0, none⟩ (.int .i64 n)).setCell ⟨wr.heap.size, 1, none⟩ u') n v pv u u' LL P M M' c3 c8 wr.heap.size := by
  have d3 : wr.heap.size ≠ c3 := fun e => by have := h.f.lt; omega
  have d8 : wr.heap.size ≠ c8 := fun e => by have := h.h.lt; omega
  have hl : w.heap.size ≤ wr.heap.size := h.g.size
  have k := h.kept g
  obtain ⟨a, p, c, ⟨_, _, d⟩, ⟨_, _, e⟩, ⟨_, _, f⟩, i, j⟩ := k
  refine ⟨⟨cf.grown_set (cf.grown_set a hl) hl, (p.setO d3).setO d3, (c.setO d8).setO d8, ⟨_, _, gr.ownS_set (gr.ownS_set d b) (b.set0 _)⟩, ⟨_, _, gr.ownS_set (gr.ownS_set e b) (b.set0 _)⟩, ?_, i, j⟩, (b.set0 _).set1 _, _, _, gr.ownS_set (gr.ownS_set o b) (b.set0 _)⟩
  have k := gr.own_set (i := 1) (u := u') (gr.own_set (i := 0) (u := .int .i64 n) f.1 gr.ty2 b) gr.ty2 (b.set0 _)
  exact ⟨_, _, sl.Own.of k⟩
end Go.Proofs.YtmbmkbkghblcmaaDoor.mp
