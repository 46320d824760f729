/- Groups as plain mathematics: each variable in one group, each clause in one part, the parts true together; no condition. Groups as plain mathematics: the parts can be true together; no condition. What FnGroups draws: any formula, whatever the bytes. What FnGroups asks of the groups; what its loops count; no condition. A part that is stored in a variable of the law's; no condition. -/
import Derived.Test.YtibpnocpafppaaaDoorJUa
import Derived.Test.YtibpnocpafppaaaDoorGj
import Derived.Test.YtibpnocpafppaaaDoorCnt
import Derived.Test.YtibpnocpafppaaaDoorLs5
import Derived.Test.YtibpnocpafppaaaDoorDf
import Derived.Test.YtibpnocpafppaaaDoorGl
namespace Go.Proofs.YtibpnocpafppaaaDoor.fw
open lits (okB varI)
open css (tot sumLen)
open cls (hasB)
open ok (cnfB)
open tr (litT clT cnfT)
open gj (inB)
open fg
open fi
set_option linter.unusedVariables false
theorem cl_split {P Q : Nat → Bool} (h : ∀ u, ¬ (P u = true ∧ Q u = true)) : ∀ n, (cl (fun u => P u || Q u) n).length = (cl P n).length + (cl Q n).length
 | 0 => rfl
 | n + 1 => by
  have ih := cl_split h n
  have hn := h (n + 1)
  cases hp : P (n + 1) <;> cases hq : Q (n + 1)
  ·rw [cl_no (P := P) hp, cl_no (P := Q) hq, cl_no (P := fun u => P u || Q u) (by simp [hp, hq]), ih]
  ·rw [cl_no (P := P) hp, cl_yes (P := Q) hq, cl_yes (P := fun u => P u || Q u) (by simp [hp, hq]), List.length_append, List.length_append, ih]
   simp
   omega
  ·rw [cl_yes (P := P) hp, cl_no (P := Q) hq, cl_yes (P := fun u => P u || Q u) (by simp [hp, hq]), List.length_append, List.length_append, ih]
   simp
   omega
  ·exact absurd ⟨hp, hq⟩ hn
theorem cl_all {P : Nat → Bool} : ∀ n, (∀ u, 1 ≤ u → u ≤ n → P u = true) → (cl P n).length = n
 | 0, _ => rfl
 | n + 1, h => by
  rw [cl_yes (h (n + 1) (by omega) (Nat.le_refl _)), List.length_append, cl_all n (fun u a b => h u a (by omega))]
  rfl
theorem cl_none {P : Nat → Bool} : ∀ n, (∀ u, 1 ≤ u → u ≤ n → P u = false) → cl P n = []
 | 0, _ => rfl
 | n + 1, h => by
  rw [cl_no (h (n + 1) (by omega) (Nat.le_refl _)), cl_none n (fun u a b => h u a (by omega))]
theorem cl_same {P Q : Nat → Bool} : ∀ n, (∀ u, 1 ≤ u → u ≤ n → P u = Q u) → cl P n = cl Q n
 | 0, _ => rfl
 | n + 1, h => by
  have ih := cl_same n (fun u a b => h u a (by omega))
  have e := h (n + 1) (by omega) (Nat.le_refl _)
  cases hp : P (n + 1)
  ·rw [cl_no hp, cl_no (by rw [← e, hp]), ih]
  ·rw [cl_yes hp, cl_yes (by rw [← e, hp]), ih]
theorem sum_outs {o : Nat → Nat} (h : Lab o) (n : Nat) : ∀ m, sumLen (outs o n m) = (cl (fun u => decide (o u ≤ m)) n).length
 | 0 => by
  rw [cl_none n (fun u a _ => decide_eq_false (by have := h.pos u a; omega))]
  rfl
 | m + 1 => by
  have ih := sum_outs h n m
  have e1 : cl (fun u => decide (o u ≤ m + 1)) n = cl (fun u => decide (o u ≤ m) || decide (o u = m + 1)) n := cl_same n fun u _ _ => by
   rw [← Bool.decide_or]
   apply decide_eq_decide.2
   omega
  rw [e1, cl_split (P := fun u => decide (o u ≤ m)) (Q := fun u => decide (o u = m + 1)) (fun u ⟨a, b⟩ => by
   have := of_decide_eq_true a
   have := of_decide_eq_true b
   omega) n]
  by_cases e : o (m + 1) = m + 1
  ·rw [outs_yes e, css.sumLen_snoc, ih]
  ·rw [outs_no e, ih, cl_none (P := fun u => decide (o u = m + 1)) n (fun u _ _ => decide_eq_false (fun q => e (by have := h.same u; rw [q] at this; exact this)))]
   rfl
theorem sum_all {o : Nat → Nat} (h : Lab o) (n : Nat) : sumLen (outs o n n) = n := by
 rw [sum_outs h n n]
 exact cl_all n fun u _ hu => decide_eq_true (by have := h.le u; omega)
def Cl (o : Nat → Nat) (n : Nat) (C : List Int) : Prop := ∀ k, k < C.length → varI (C.getD k 0) = (vn C k : Int) ∧ 1 ≤ vn C k ∧ vn C k ≤ n ∧ o (vn C k) = o (vn C 0)
theorem oT_keep {o : Nat → Nat} {C : List Int} {u w : Nat} (e : o u = o w) (k : Nat) : oT o C k u = oT o C k w := (oT_rel o C u w k).2 (.inl e)
theorem tch_in (o : Nat → Nat) (C : List Int) {j : Nat} : ∀ k, j < k → tch o C k (vn C j) = true
 | 0, h => absurd h (Nat.not_lt_zero _)
 | k + 1, h => by
  by_cases e : j = k
  ·subst e
   show (tch o C j (vn C j) || decide (o (vn C j) = o (vn C j))) = true
   simp
  ·exact tch_mono o C (tch_in o C k (by omega))
theorem lab_closed {LL : List (List Int)} {i k : Nat} (hk : k < (LL.getD i []).length) : ∀ j, i < j → lab LL j (vn (LL.getD i []) k) = lab LL j (vn (LL.getD i []) 0)
 | 0, h => absurd h (Nat.not_lt_zero _)
 | j + 1, h => by
  by_cases e : i = j
  ·subst e
   exact (oT_rel _ _ _ _ _).2 (.inr ⟨tch_in _ _ _ hk, tch_in _ _ _ (by omega)⟩)
  ·exact oT_keep (lab_closed hk j (by omega)) _
theorem closed {n : Nat} {LL : List (List Int)} (h : cnfB n LL = true) {C : List Int} (hC : C ∈ LL) : Cl (lab LL LL.length) n C := by
 obtain ⟨i, hi, e⟩ := List.getElem_of_mem hC
 have e2 : LL.getD i [] = C := by simp [List.getD, List.getElem?_eq_getElem hi, e]
 obtain ⟨_, _, H⟩ := in_bd h
 have H2 := (H i hi).2
 rw [e2] at H2
 intro k hk
 have c := lab_closed (LL := LL) (i := i) (k := k) (by rw [e2]; exact hk) LL.length hi
 rw [e2] at c
 exact ⟨(H2 k hk).2.1, (H2 k hk).2.2.1, (H2 k hk).2.2.2, c⟩
theorem in_cl {o : Nat → Nat} {n m : Nat} {C : List Int} (h : Cl o n C) (h0 : 0 < C.length) : inB (cl (fun u => decide (o u = m)) n) C = decide (o (vn C 0) = m) := by
 rw [Bool.eq_iff_iff, decide_eq_true_eq]
 unfold gj.inB
 rw [List.all_eq_true]
 constructor
 ·intro hx
  have h1 := hx _ (getD_in (d := 0) h0)
  rw [(h 0 h0).1] at h1
  obtain ⟨u, _, _, h3, h4⟩ := (cl_mem _ _ _).1 (of_decide_eq_true h1)
  have e : vn C 0 = u := by exact_mod_cast h4
  rw [e]
  exact of_decide_eq_true h3
 ·intro e x hx
  obtain ⟨k, hk, ek⟩ := List.getElem_of_mem hx
  have e2 : C.getD k 0 = x := by simp [List.getD, List.getElem?_eq_getElem hk, ek]
  obtain ⟨a, b, c, d⟩ := h k hk
  rw [← e2, a]
  exact decide_eq_true ((cl_mem _ _ _).2 ⟨vn C k, b, c, decide_eq_true (by rw [d, e]), rfl⟩)
def full (LL : List (List Int)) : Nat := LL.countP fun C => decide (0 < C.length)
def parts (LL : List (List Int)) (R : List (List Int)) : Nat := (R.map fun V => full (LL.filter (inB V))).sum
theorem parts_snoc (LL R : List (List Int)) (V : List Int) : parts LL (R ++ [V]) = parts LL R + full (LL.filter (inB V)) := by simp [parts]
theorem parts_outs {o : Nat → Nat} (h : Lab o) (n : Nat) {LL : List (List Int)} (hc : ∀ C ∈ LL, Cl o n C) : ∀ m, parts LL (outs o n m) = LL.countP fun C => decide (0 < C.length) && decide (o (vn C 0) ≤ m)
 | 0 => by
  show 0 = _
  symm
  rw [List.countP_eq_zero]
  intro C hC q
  rw [Bool.and_eq_true, decide_eq_true_eq, decide_eq_true_eq] at q
  have := h.pos _ (hc C hC 0 q.1).2.1
  omega
 | m + 1 => by
  have ih := parts_outs h n hc m
  have key : ∀ (L : List (List Int)), (∀ C ∈ L, Cl o n C) → (L.countP fun C => decide (0 < C.length) && decide (o (vn C 0) ≤ m + 1)) = (L.countP fun C => decide (0 < C.length) && decide (o (vn C 0) ≤ m)) + full (L.filter (inB (cl (fun u => decide (o u = m + 1)) n))) := by
   intro L
   induction L with
   | nil => intro _; rfl
   | cons C L ihL =>
    intro hL
    have i2 := ihL (fun D hD => hL D (List.mem_cons_of_mem _ hD))
    have hC := hL C List.mem_cons_self
    unfold full at i2 ⊢
    rw [List.countP_cons, List.countP_cons, i2, List.filter_cons]
    by_cases h0 : 0 < C.length
    ·rw [in_cl hC h0, decide_eq_true h0]
     by_cases e : o (vn C 0) = m + 1
     ·rw [decide_eq_true e, if_pos rfl, List.countP_cons, decide_eq_true h0, decide_eq_true (show o (vn C 0) ≤ m + 1 by omega), decide_eq_false (show ¬ o (vn C 0) ≤ m by omega)]
      simp
      omega
     ·rw [decide_eq_false e, show decide (o (vn C 0) ≤ m + 1) = decide (o (vn C 0) ≤ m) from decide_eq_decide.2 (by omega)]
      simp
      omega
    ·rw [decide_eq_false h0]
     cases q : inB (cl (fun u => decide (o u = m + 1)) n) C
     ·simp
     ·rw [if_pos rfl, List.countP_cons, decide_eq_false h0]
      simp
  rw [key LL hc]
  by_cases e : o (m + 1) = m + 1
  ·rw [outs_yes e, parts_snoc, ih]
  ·rw [outs_no e, ih, cl_none (P := fun u => decide (o u = m + 1)) n (fun u _ _ => decide_eq_false (fun q => e (by have := h.same u; rw [q] at this; exact this)))]
   have z : full (LL.filter (inB [])) = 0 := by
    unfold full
    rw [List.countP_eq_zero]
    intro C hC q
    rw [decide_eq_true_eq] at q
    have h2 := (List.mem_filter.1 hC).2
    unfold gj.inB at h2
    rw [List.all_eq_true] at h2
    have := h2 _ (getD_in (d := 0) q)
    cases this
   rw [z, Nat.add_zero]
theorem parts_all {n : Nat} {LL : List (List Int)} (h : cnfB n LL = true) : parts LL (outs (lab LL LL.length) n n) = full LL := by
 have hl := lab_ok h LL.length (Nat.le_refl _)
 rw [parts_outs hl n (fun C hC => closed h hC) n]
 unfold full
 apply List.countP_congr
 intro C hC
 rw [Bool.and_eq_true, decide_eq_true_eq, decide_eq_true_eq]
 constructor
 ·exact fun q => q.1
 ·intro q
  have a := (closed h hC 0 q).2.2.1
  have b := hl.le (vn C 0)
  exact ⟨q, by omega⟩
end Go.Proofs.YtibpnocpafppaaaDoor.fw
namespace Go.Proofs.YtibpnocpafppaaaDoor.fw
open lits (okB varI)
open css (tot sumLen)
open ok (cnfB)
open tr (litT clT cnfT)
open gj (inB)
open lq (Bits lst lst_some lst_none solveL holds)
open fg
open fi
set_option linter.unusedVariables false
theorem sat_iff {m : Nat} {LL : List (List Int)} (hc : cnfB (m : Int) LL = true) : (solveL (m : Int) LL []).isSome = true ↔ ∃ A, Bits m A ∧ cnfT A LL = true := by
 have hs : solveL (m : Int) LL [] = lst m (holds LL []) := by
  unfold lq.solveL
  rw [hc]
  simp
 have hh2 : ∀ A, holds LL [] A = cnfT A LL := fun A => by unfold lq.holds; simp
 rw [hs]
 cases hl : lst m (holds LL []) with
 | none =>
  constructor
  ·intro h
   cases h
  ·rintro ⟨A, hA, h⟩
   have h1 := lst_none.1 hl A hA
   rw [hh2, h] at h1
   cases h1
 | some l =>
  refine ⟨fun _ => ⟨l, (lst_some hl).1, ?_⟩, fun _ => rfl⟩
  have h1 := (lst_some hl).2
  rw [hh2] at h1
  exact h1
theorem cnfB_filter {n : Int} {LL : List (List Int)} (h : cnfB n LL = true) (B : List Int → Bool) : cnfB n (LL.filter B) = true := by
 unfold ok.cnfB at *
 rw [Bool.and_eq_true, Bool.and_eq_true, decide_eq_true_eq, decide_eq_true_eq, List.all_eq_true] at *
 have := List.length_filter_le B LL
 exact ⟨⟨h.1.1, by omega⟩, fun C hC => h.2 C (List.mem_filter.1 hC).1⟩
theorem outs_mem {o : Nat → Nat} {n : Nat} {V : List Int} : ∀ m, V ∈ outs o n m ↔ ∃ q, q < m ∧ o (q + 1) = q + 1 ∧ V = cl (fun u => decide (o u = q + 1)) n
 | 0 => by
  constructor
  ·intro h
   cases h
  ·rintro ⟨q, h, _⟩
   omega
 | m + 1 => by
  have ih := outs_mem (o := o) (n := n) (V := V) m
  by_cases e : o (m + 1) = m + 1
  ·rw [outs_yes e, List.mem_append, ih, List.mem_singleton]
   constructor
   ·rintro (⟨q, a, b⟩ | h)
    ·exact ⟨q, by omega, b⟩
    ·exact ⟨m, by omega, e, h⟩
   ·rintro ⟨q, a, b, c⟩
    by_cases k : q = m
    ·subst k
     exact .inr c
    ·exact .inl ⟨q, by omega, b, c⟩
  ·rw [outs_no e, ih]
   constructor
   ·rintro ⟨q, a, b⟩
    exact ⟨q, by omega, b⟩
   ·rintro ⟨q, a, b, c⟩
    by_cases k : q = m
    ·subst k
     exact absurd b e
    ·exact ⟨q, by omega, b, c⟩
theorem true_part {A : List Int} {LL : List (List Int)} (h : cnfT A LL = true) (B : List Int → Bool) : cnfT A (LL.filter B) = true := by
 unfold tr.cnfT at *
 rw [List.all_eq_true] at *
 exact fun C hC => h C (List.mem_filter.1 hC).1
def glue (o : Nat → Nat) (n : Nat) (As : Nat → List Int) : List Int := (List.range n).map fun j => (As (o (j + 1))).getD j 0
theorem glue_len (o : Nat → Nat) (n : Nat) (As : Nat → List Int) : (glue o n As).length = n := by simp [glue]
theorem glue_at (o : Nat → Nat) {n : Nat} (As : Nat → List Int) {j : Nat} (h : j < n) : (glue o n As).getD j 0 = (As (o (j + 1))).getD j 0 := by
 simp [glue, List.getD, h]
theorem glue_bits (o : Nat → Nat) (n : Nat) (As : Nat → List Int) (h : ∀ m, Bits n (As m)) : Bits n (glue o n As) := by
 refine ⟨glue_len o n As, fun x hx => ?_⟩
 unfold glue at hx
 rw [List.mem_map] at hx
 obtain ⟨j, hj, rfl⟩ := hx
 rw [List.mem_range] at hj
 have hl := (h (o (j + 1))).1
 exact (h (o (j + 1))).2 _ (getD_in (by omega))
theorem sat_glue {n : Nat} {LL : List (List Int)} (h : cnfB (n : Int) LL = true) (hne : ∀ C ∈ LL, 0 < C.length) (hp : ∀ V ∈ outs (lab LL LL.length) n n, ∃ A, Bits n A ∧ cnfT A (LL.filter (inB V)) = true) : ∃ A, Bits n A ∧ cnfT A LL = true := by
 have hl := lab_ok h LL.length (Nat.le_refl _)
 have hc := fun C hC => closed (C := C) h hC
 generalize lab LL LL.length = o at *
 have zb : Bits n (List.replicate n 0) := ⟨List.length_replicate, fun x hx => .inl (List.eq_of_mem_replicate hx)⟩
 have ex : ∀ m, ∃ A, Bits n A ∧ (1 ≤ m → m ≤ n → o m = m → cnfT A (LL.filter (inB (cl (fun u => decide (o u = m)) n))) = true) := by
  intro m
  by_cases k : 1 ≤ m ∧ m ≤ n ∧ o m = m
  ·obtain ⟨q, rfl⟩ : ∃ q, m = q + 1 := ⟨m - 1, by omega⟩
   obtain ⟨A, h1, h2⟩ := hp _ ((outs_mem n).2 ⟨q, by omega, k.2.2, rfl⟩)
   exact ⟨A, h1, fun _ _ _ => h2⟩
  ·exact ⟨_, zb, fun a b c => absurd ⟨a, b, c⟩ k⟩
 obtain ⟨As, hA⟩ := Classical.axiomOfChoice ex
 refine ⟨glue o n As, glue_bits o n As (fun m => (hA m).1), ?_⟩
 unfold tr.cnfT
 rw [List.all_eq_true]
 intro C hC
 have h0 := hne C hC
 have cC := hc C hC
 have k0 := cC 0 h0
 have t := (hA (o (vn C 0))).2 (hl.pos _ k0.2.1) (Nat.le_trans (hl.le _) k0.2.2.1) (hl.same _)
 unfold tr.cnfT at t
 rw [List.all_eq_true] at t
 have t2 := t C (List.mem_filter.2 ⟨hC, by rw [in_cl cC h0]; exact decide_eq_true rfl⟩)
 unfold tr.clT at t2 ⊢
 rw [List.any_eq_true] at t2 ⊢
 obtain ⟨x, hx, hT⟩ := t2
 refine ⟨x, hx, ?_⟩
 obtain ⟨k, hk, ek⟩ := List.getElem_of_mem hx
 have e2 : C.getD k 0 = x := by simp [List.getD, List.getElem?_eq_getElem hk, ek]
 obtain ⟨a, b, c, d⟩ := cC k hk
 rw [e2] at a
 unfold tr.litT at hT ⊢
 rw [a] at hT ⊢
 have lA := (hA (o (vn C 0))).1.1
 have ev : ((vn C k : Nat) : Int) - 1 = ((vn C k - 1 : Nat) : Int) := by omega
 rw [if_neg (by omega), lA, ev, Int.toNat_natCast] at hT
 rw [if_neg (by omega), glue_len, ev, Int.toNat_natCast, glue_at o As (by omega), show vn C k - 1 + 1 = vn C k from by omega, d]
 exact hT
theorem sat_told {n : Nat} {LL : List (List Int)} (h : cnfB (n : Int) LL = true) : (((outs (lab LL LL.length) n n).all fun V => (solveL (n : Int) (LL.filter (inB V)) []).isSome) = (solveL (n : Int) LL []).isSome) ∨ ((∃ C ∈ LL, C = []) ∧ (solveL (n : Int) LL []).isSome = false) := by
 by_cases hne : ∀ C ∈ LL, 0 < C.length
 ·left
  rw [Bool.eq_iff_iff, sat_iff h, List.all_eq_true]
  constructor
  ·intro hp
   exact sat_glue h hne fun V hV => (sat_iff (cnfB_filter h _)).1 (hp V hV)
  ·rintro ⟨A, hA, hT⟩ V hV
   exact (sat_iff (cnfB_filter h _)).2 ⟨A, hA, true_part hT _⟩
 ·right
  obtain ⟨C, hC⟩ := Classical.not_forall.1 hne
  obtain ⟨h1, h2⟩ := Classical.not_imp.1 hC
  have e : C = [] := List.eq_nil_of_length_eq_zero (by omega)
  refine ⟨⟨C, h1, e⟩, ?_⟩
  cases q : (solveL (n : Int) LL []).isSome
  ·rfl
  ·obtain ⟨A, _, hT⟩ := (sat_iff h).1 q
   unfold tr.cnfT at hT
   rw [List.all_eq_true] at hT
   have := hT C h1
   rw [e] at this
   cases this
end Go.Proofs.YtibpnocpafppaaaDoor.fw
namespace Go.Proofs.YtibpnocpafppaaaDoor.fr
open Go.ChangeShapes Go.WideShapes Go.ChangeAt Go.RowKit
open sl (Sl Own ints hide unhide grown_refl grown_trans grown_trans' below_of of_below grown_drewN)
open css (Sls OwnS tot)
open cf (Box)
open draw (Cur Bs I64 newCur grown_new)
set_option linter.unusedVariables false

def GotA (w : World) (e : Ending) (w' : World) : Prop := ∃ (k : Int) (v : Value) (M : List (List Int)), e = .returned (.agg #[.int .i64 k, v]) ∧ (-1 ≤ k ∧ k ≤ 25) ∧ tot M ≤ 6050 ∧ OwnS w.heap.size w'.heap.size w' v M ∧ w.grownBy w' none
set_option maxRecDepth 10000 in
set_option maxHeartbeats 4000000 in
theorem drawGroups (a : Option Addr) (n cap : Nat) (w : World) (hn : n ≤ 1048576) (hB : Bs w a n) :
  Calls Tryd.prog 28 #[.slice a n cap] w fun e w' => GotA w e w' := by
 have nc := newCur a n cap (w.alloc (.cells #[.int .i64 0, .slice none 0 0] 26)) hn (hB.below (below_of (World.grownBy_alloc w (.cells #[.int .i64 0, .slice none 0 0] 26) none)))
 simp only [World.size_alloc] at nc
 have NC := hide nc
 have R0 := hide (Box.new 26 w (.int .i64 0) (.slice none 0 0))
 clear hB nc
 go_enter Tryd.func28, Tryd.ntmps28
 go_wp2_with fail
 refine (unhide NC).mono ?_; rintro e w1 ⟨rfl, hc1, g1⟩
 have C1 := hide hc1
 have G1 := hide g1
 have R1 := hide ((unhide R0).kept g1)
 clear hc1 g1 NC R0
 go_wp2_with fail
 refine (dcn.any _ _ (unhide C1)).mono ?_; rintro e w2 ⟨k, v, M, rfl, bd, od, gd, cd⟩
 obtain ⟨va, vc, rfl⟩ := od.len
 have GA := hide (grown_trans (r := none) (World.grownBy_alloc w (.cells #[.int .i64 0, .slice none 0 0] 26) none) (unhide G1))
 have r2 := (unhide R1).by gd (fun e => by simp at e)
 have GW := hide (grown_new (unhide GA) gd (Nat.le_succ _))
 have y0 := r2.c0
 have y1 := r2.c1
 have y2 := r2.f 0
 have y3 := r2.f 1
 have TM := hide (df.tot_bd bd (Nat.le_refl _))
 have BK := hide bd.1
 have R2 := hide r2
 have OD := hide (od.sub (unhide GA).size (Nat.le_refl _))
 clear od gd cd bd r2
 go_wp2_with fail
 (try simp only [Exit.inBlock, Exit.then])
 have os := gr.ownS_set (i := 1) (u := .slice va M.length vc) (gr.ownS_set (i := 0) (u := .int .i64 k) (unhide OD) (unhide R2)) ((unhide R2).set0 (.int .i64 k))
 refine bodyPost_ret (cf.ret_box rfl rfl (((unhide R2).set0 (.int .i64 k)).set1 (.slice va M.length vc))) rfl ⟨k, _, M, rfl, unhide BK, unhide TM, ?_, ?_⟩
 ·rw [cf.size_set, cf.size_set]
  exact os
 ·exact cf.grown_set (cf.grown_set (unhide GW) (Nat.le_refl _)) (Nat.le_refl _)
end Go.Proofs.YtibpnocpafppaaaDoor.fr
namespace Go.Proofs.YtibpnocpafppaaaDoor.fw
open css (tot sumLen)
open ok (cnfB)
open gj (inB)
open lq (solveL)
open fg
open fi
set_option linter.unusedVariables false
def satB (n : Int) (LL : List (List Int)) : Bool := (solveL n LL []).isSome
def satR (n : Int) (LL R : List (List Int)) : Bool := R.all fun V => satB n (LL.filter (inB V))
def hasE (LL : List (List Int)) : Bool := LL.any fun C => decide (C.length = 0)
structure Yes (n : Int) (LL R : List (List Int)) : Prop where
 ln : sumLen R = n.toNat
 nn : 0 ≤ n
 pt : parts LL R = full LL
 st : satR n LL R = satB n LL ∨ (hasE LL = true ∧ satB n LL = false)
theorem grp_len (n : Int) (LL : List (List Int)) : (grpL n LL).length ≤ 600 ∧ ∀ i, ((grpL n LL).getD i []).length ≤ 600 := ⟨Nat.le_trans (css.tot_len _) (tot_grp n LL), fun i => Nat.le_trans (css.tot_in _ i) (tot_grp n LL)⟩
theorem grp_no {n : Int} {LL : List (List Int)} (h : cnfB n LL = false) : grpL n LL = [] := by
 unfold grpL
 rw [h]
 rfl
theorem grp_yes {n : Int} {LL : List (List Int)} (h : cnfB n LL = true) : Yes n LL (grpL n LL) := by
 have hN : 0 ≤ n ∧ n ≤ 24 := by
  have h' := h
  unfold ok.cnfB at h'
  rw [Bool.and_eq_true, Bool.and_eq_true, decide_eq_true_eq] at h'
  exact h'.1.1
 obtain ⟨N, rfl⟩ := Int.eq_ofNat_of_zero_le hN.1
 have e : grpL (N : Int) LL = outs (lab LL LL.length) N N := by
  unfold grpL
  rw [h, Int.toNat_natCast]
  rfl
 rw [e]
 refine ⟨?_, hN.1, parts_all h, ?_⟩
 ·rw [Int.toNat_natCast]
  exact sum_all (lab_ok h LL.length (Nat.le_refl _)) N
 ·rcases sat_told h with q | ⟨⟨C, hC, eC⟩, q⟩
  ·exact .inl q
  ·refine .inr ⟨?_, q⟩
   unfold hasE
   rw [List.any_eq_true]
   exact ⟨C, hC, by rw [eC]; rfl⟩
theorem sum_step (R : List (List Int)) (i : Nat) (h : i < R.length) : (sumLen (R.take (i + 1)) : Int) = (sumLen (R.take i) : Int) + ((R.getD i []).length : Int) := by
 rw [css.take_snoc R i h, css.sumLen_snoc]
 omega
theorem parts_step (LL R : List (List Int)) (i : Nat) (h : i < R.length) : parts LL (R.take (i + 1)) = parts LL (R.take i) + full (LL.filter (inB (R.getD i []))) := by
 rw [css.take_snoc R i h, parts_snoc]
theorem sat_step (n : Int) (LL R : List (List Int)) (i : Nat) (h : i < R.length) : satR n LL (R.take (i + 1)) = (satR n LL (R.take i) && satB n (LL.filter (inB (R.getD i [])))) := by
 rw [css.take_snoc R i h]
 unfold satR
 rw [List.all_append]
 simp
theorem full_le (LL : List (List Int)) : full LL ≤ LL.length := List.countP_le_length
theorem full_one (C : List Int) : full [C] = if 0 < C.length then 1 else 0 := by
 unfold full
 rw [List.countP_cons, List.countP_nil, Nat.zero_add]
 by_cases e : 0 < C.length
 ·rw [decide_eq_true e, if_pos e]
  rfl
 ·rw [decide_eq_false e, if_neg e]
  rfl
theorem full_snoc (A : List (List Int)) (C : List Int) : full (A ++ [C]) = full A + full [C] := by
 unfold full
 rw [List.countP_append]
theorem full_yes (LL : List (List Int)) (k : Nat) (h : k < LL.length) (e : 0 < (LL.getD k []).length) : full (LL.take (k + 1)) = full (LL.take k) + 1 := by
 rw [css.take_snoc LL k h, full_snoc, full_one, if_pos e]
theorem full_no (LL : List (List Int)) (k : Nat) (h : k < LL.length) (e : ¬ 0 < (LL.getD k []).length) : full (LL.take (k + 1)) = full (LL.take k) := by
 rw [css.take_snoc LL k h, full_snoc, full_one, if_neg e]
 rfl
theorem hasE_snoc (A : List (List Int)) (C : List Int) : hasE (A ++ [C]) = (hasE A || decide (C.length = 0)) := by
 unfold hasE
 rw [List.any_append, List.any_cons, List.any_nil, Bool.or_false]
theorem hasE_yes (LL : List (List Int)) (k : Nat) (h : k < LL.length) (e : ¬ 0 < (LL.getD k []).length) : hasE (LL.take (k + 1)) = true := by
 rw [css.take_snoc LL k h, hasE_snoc, decide_eq_true (show (LL.getD k []).length = 0 by generalize LL.getD k [] = C at *; omega), Bool.or_true]
theorem hasE_no (LL : List (List Int)) (k : Nat) (h : k < LL.length) (e : 0 < (LL.getD k []).length) : hasE (LL.take (k + 1)) = hasE (LL.take k) := by
 rw [css.take_snoc LL k h, hasE_snoc, decide_eq_false (show ¬ (LL.getD k []).length = 0 by generalize LL.getD k [] = C at *; omega), Bool.or_false]
theorem parts_le (LL R : List (List Int)) : parts LL R ≤ R.length * LL.length := by
 unfold parts
 induction R with
 | nil => simp
 | cons V R ih =>
  rw [List.map_cons, List.sum_cons, List.length_cons, Nat.add_mul, Nat.one_mul]
  have h1 := full_le (LL.filter (inB V))
  have h2 := List.length_filter_le (inB V) LL
  omega
end Go.Proofs.YtibpnocpafppaaaDoor.fw
namespace Go.Proofs.YtibpnocpafppaaaDoor.fw
open Go.ChangeShapes Go.WideShapes Go.ChangeAt Go.RowKit
open sl (Sl Own ints hide unhide grown_refl grown_trans)
open css (Sls OwnS tot)
open cf (Box)
open ok (cnfB)
open gj (inB)
set_option linter.unusedVariables false
def Pv (W w' : World) (c : Nat) (n : Int) (q : Value) (P : List (List Int)) : Prop := W.grownBy w' none ∧ Box 26 w' c (.int .i64 n) q ∧ Sls w' q P
theorem finA {W w6 : World} {c lo hi : Nat} {n : Int} {x y q : Value} {P : List (List Int)} (o6 : OwnS lo hi w6 q P) (bx : Box 26 w6 c x y) (g : W.grownBy w6 none) (hc : W.heap.size ≤ c) : Pv W ((w6.setCell ⟨c, 0, none⟩ (.int .i64 n)).setCell ⟨c, 1, none⟩ q) c n q P :=
 ⟨cf.grown_set (cf.grown_set g hc) hc, (bx.set0 _).set1 _, (gr.ownS_set (i := 1) (u := q) (gr.ownS_set (i := 0) (u := .int .i64 n) o6 bx) (bx.set0 (.int .i64 n))).sls⟩
theorem finB {W w6 : World} {lo hi : Nat} {n : Int} {q : Value} {P : List (List Int)} (o6 : OwnS lo hi w6 q P) (g : W.grownBy w6 none) : Pv W (((w6.alloc (.cells #[.int .i64 0, .slice none 0 0] 26)).setCell ⟨w6.heap.size, 0, none⟩ (.int .i64 n)).setCell ⟨w6.heap.size, 1, none⟩ q) w6.heap.size n q P :=
 finA (o6.kept (World.grownBy_alloc _ _ none)) (Box.new _ _ _ _) (grown_trans g (World.grownBy_alloc _ _ _)) g.size
theorem finC {W w6 : World} {lo hi : Nat} {n : Int} {q : Value} {P : List (List Int)} (o6 : OwnS lo hi w6 q P) (g : W.grownBy w6 none) : Pv W (w6.alloc (.cells #[.int .i64 n, q] 26)) w6.heap.size n q P :=
 ⟨grown_trans g (World.grownBy_alloc _ _ _), Box.new _ _ _ _, (o6.kept (World.grownBy_alloc _ _ none)).sls⟩
theorem Pv.more {W w' w9 : World} {c : Nat} {n : Int} {q : Value} {P : List (List Int)} (h : Pv W w' c n q P) (g : w'.grownBy w9 none) : Pv W w9 c n q P := ⟨grown_trans h.1 g, h.2.1.kept g, h.2.2.kept g⟩
theorem parts_bd {LL R : List (List Int)} (k : Nat) (h1 : R.length ≤ 600) (h2 : tot LL ≤ 6050) : parts LL (R.take k) ≤ 3630000 := by
 have a := parts_le LL (R.take k)
 have b := Nat.le_trans (css.tot_len LL) h2
 have c : (R.take k).length ≤ 600 := by rw [List.length_take]; omega
 exact Nat.le_trans a (Nat.mul_le_mul c b)
theorem part_tot {LL P : List (List Int)} {B : List Int → Bool} (h : LL.filter B = P) (h2 : tot LL ≤ 6050) : tot P ≤ 1048576 ∧ P.length ≤ 6050 := by
 have a := gj.tot_filter B LL
 rw [h] at a
 have b := css.tot_len P
 omega
theorem partC (va : Value) (n : Int) (LL : List (List Int)) (V : List Int) (W : World) (hn : tot LL ≤ 1048576) (hB : cnfB n LL = true) (h : ∃ lo hi, lo ≤ W.heap.size ∧ hi ≤ W.heap.size ∧ OwnS lo hi W va LL) (hV : V.length ≤ 1048576) (u : Value) (w1 : World) (g : W.grownBy w1 none) (hu : Sl w1 u V) :
  Calls Tryd.prog 32 #[.agg #[.int .i64 n, va], u] w1 fun e w' => ∃ q, e = .returned (.tuple #[.agg #[.int .i64 n, q], .bool true]) ∧ OwnS w1.heap.size w'.heap.size w' q (LL.filter (inB V)) ∧ w1.grownBy w' none := by
 obtain ⟨lo, hi, h1, h2, h3⟩ := h
 have := gj.implPart va u n LL V lo hi w1 hn hV (h3.kept g) (Nat.le_trans h1 g.size) (Nat.le_trans h2 g.size) hu
 rw [hB] at this
 exact this
end Go.Proofs.YtibpnocpafppaaaDoor.fw
