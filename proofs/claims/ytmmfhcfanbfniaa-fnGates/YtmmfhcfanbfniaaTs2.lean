/- Gates: what their clauses say, and the calls that the law on gates makes; whether a literal is true. -/
import Derived.Test.YtmmfhcfanbfniaaTq
namespace Go.Proofs.Ytmmfhcfanbfniaa.t2
open Go.ChangeShapes Go.WideShapes Go.ChangeAt Go.RowKit
open Go.Proofs.Ytmmfhcfanbfniaa.lits (okB okB_iff)
open Go.Proofs.Ytmmfhcfanbfniaa.sl (Sl Own ints hide unhide ret_int ret_bool grown_refl grown_trans grown_drewN)
open Go.Proofs.Ytmmfhcfanbfniaa.css (Sls OwnS tot)
open Go.Proofs.Ytmmfhcfanbfniaa.tr (litT clT cnfT implClauseTrue)
open Go.Proofs.Ytmmfhcfanbfniaa.sp (negL)
open Go.Proofs.Ytmmfhcfanbfniaa.t1 (cntL)
set_option linter.unusedVariables false

theorem isTrue (x : Int) (u : Value) (A : List Int) (w : World) (hA : A.length ≤ 1048576) (hu : Sl w u A) :
    Calls Try.prog 36 #[.int .i64 x, u] w fun e w' => e = .returned (.bool (litT A x)) ∧ w.grownBy w' none := by
  have g := World.grownBy_alloc w (.cells #[.int .i64 x] 3) none
  have C := implClauseTrue _ u [x] A _ (by simp) hA (t1.own_lit w x).sl (hu.kept g (.inl rfl))
  have e : clT A [x] = litT A x := by simp [clT]
  rw [e] at C
  have CC := hide C
  have G := hide g
  obtain ⟨ua, uc, rfl, _⟩ := hu
  clear C g e
  go_enter Try.func36, Try.ntmps36
  go_wp2_with fail
  refine (unhide CC).mono ?_; rintro e w' ⟨rfl, hw⟩; have hw' := hw.symm; clear hw; subst hw'
  go_wp2_with fail
  go_ret
  exact ⟨rfl, unhide G⟩
theorem cnf_nil (A : List Int) : cnfT A [] = true := rfl
theorem cnf_cons (A C : List Int) (D : List (List Int)) : cnfT A (C :: D) = (clT A C && cnfT A D) := rfl
theorem cl_two (A : List Int) (x y : Int) : clT A [x, y] = (litT A x || litT A y) := by simp [clT]
theorem cl_three (A : List Int) (x y z : Int) : clT A [x, y, z] = (litT A x || (litT A y || litT A z)) := by simp [clT]
theorem same_true {A : List Int} {x y : Int} (hx : okB x = true) (hy : okB y = true) : cnfT A (sameC x y) = (litT A x == litT A y) := by
  unfold sameC
  rw [cnf_cons, cnf_cons, cnf_nil, cl_two, cl_two, lit_neg hx, lit_neg hy]
  cases litT A x <;> cases litT A y <;> rfl
theorem if_true {A : List Int} {x a b c : Int} (hx : okB x = true) (ha : okB a = true) (hb : okB b = true) (hc : okB c = true) : cnfT A (ifC x a b c) = (litT A x == if litT A a then litT A b else litT A c) := by
  unfold ifC
  simp only [cnf_cons, cnf_nil, cl_three, lit_neg hx, lit_neg ha, lit_neg hb, lit_neg hc]
  cases litT A x <;> cases litT A a <;> cases litT A b <;> cases litT A c <;> rfl
theorem neg_any {A : List Int} : ∀ {L : List Int}, (∀ y ∈ L, okB y = true) → (negL L).any (litT A) = !decide (cntL A L = L.length)
  | [], _ => rfl
  | x :: L, h => by
    have ih := neg_any (A := A) (L := L) (fun y hy => h y (List.mem_cons_of_mem _ hy))
    have hx := lit_neg (A := A) (h x (List.mem_cons_self ..))
    have hc := t1.cnt_le A L
    have e1 : (negL (x :: L)).any (litT A) = (litT A (-x) || (negL L).any (litT A)) := rfl
    have e2 : cntL A (x :: L) = cntL A L + (if litT A x then 1 else 0) := by
      unfold cntL
      rw [List.countP_cons]
    rw [e1, e2, ih, hx]
    cases litT A x
    · rw [decide_eq_false (show ¬ cntL A L + (if false = true then 1 else 0) = (x :: L).length by simp; omega)]
      rfl
    · simp
theorem pairs_true {A : List Int} {nx : Int} : ∀ {L : List Int}, cnfT A (andP nx L) = (litT A nx || decide (cntL A L = L.length))
  | [] => by simp [andP, cnfT, cntL]
  | x :: L => by
    have ih := pairs_true (A := A) (nx := nx) (L := L)
    have hc := t1.cnt_le A L
    have e2 : cntL A (x :: L) = cntL A L + (if litT A x then 1 else 0) := by
      unfold cntL
      rw [List.countP_cons]
    have e1 : andP nx (x :: L) = [nx, x] :: andP nx L := rfl
    rw [e1, cnf_cons, ih, cl_two, e2]
    cases litT A x
    · rw [decide_eq_false (show ¬ cntL A L + (if false = true then 1 else 0) = (x :: L).length by simp; omega)]
      cases litT A nx <;> simp
    · cases litT A nx <;> simp
theorem and_true {A : List Int} {x : Int} {L : List Int} (hx : okB x = true) (hL : ∀ y ∈ L, okB y = true) : cnfT A (andC (-x) x L) = (litT A x == ((cntL A L : Int) == (L.length : Int))) := by
  have e : ((cntL A L : Int) == (L.length : Int)) = decide (cntL A L = L.length) := by
    rw [Bool.eq_iff_iff]
    simp
    omega
  unfold andC
  have h1 := pairs_true (A := A) (nx := -x) (L := L)
  have h2 := neg_any (A := A) hL
  unfold cnfT at *
  rw [List.all_append, h1, lit_neg hx, e]
  show (_ && ((litT A x || (negL L).any (litT A)) && true)) = _
  rw [h2]
  cases litT A x <;> cases decide (cntL A L = L.length) <;> rfl

/-- what both sides of a gate answer -/
def ToldG (fi fs : FuncId) (args : Array Value) (R : List (List Int)) (x : Bool) : Prop :=
  (R.length ≤ 1048576 ∧ ∀ i, (R.getD i []).length ≤ 1048576) ∧ (∀ w, Calls Try.prog fs args w fun e w' => ∃ a c, e = .returned (.tuple #[.slice a R.length c, .bool x]) ∧ OwnS w.heap.size w'.heap.size w' (.slice a R.length c) R ∧ w.grownBy w' none)
    ∧ ∀ w, Calls Try.prog fi args w fun e w' => ∃ a c, e = .returned (.tuple #[.slice a R.length c, .bool x]) ∧ OwnS w.heap.size w'.heap.size w' (.slice a R.length c) R ∧ w.grownBy w' none
theorem ifW (x a b c : Int) : ∃ (o : Bool) (R : List (List Int)), ToldG 29 30 #[.int .i64 x, .int .i64 a, .int .i64 b, .int .i64 c] R o ∧ (o = true → (okB x = true ∧ okB a = true) ∧ ∀ A, cnfT A R = (litT A x == if litT A a then litT A b else litT A c)) := by
  refine ⟨okB x && okB a && okB b && okB c, if (okB x && okB a && okB b && okB c) then ifC x a b c else [], ⟨small ?_, fun w => (specIfGate x a b c w).mono fun e w' h => ans_form h, fun w => (implIfGate x a b c w).mono fun e w' h => ans_form h⟩, fun h => ?_⟩
  · cases okB x <;> cases okB a <;> cases okB b <;> cases okB c <;> simp [tot, ifC]
  · rw [h]
    simp only [Bool.and_eq_true] at h
    exact ⟨⟨h.1.1.1, h.1.1.2⟩, fun A => if_true h.1.1.1 h.1.1.2 h.1.2 h.2⟩
theorem sameW (x y : Int) : ∃ (o : Bool) (R : List (List Int)), ToldG 34 35 #[.int .i64 x, .int .i64 y] R o ∧ (okB x = true ∧ okB y = true → ∀ A, cnfT A R = (litT A x == litT A y)) := by
  refine ⟨okB x && okB y, if (okB x && okB y) then sameC x y else [], ⟨small ?_, fun w => (specSame x y w).mono fun e w' h => ans_form h, fun w => (implSame x y w).mono fun e w' h => ans_form h⟩, fun h => ?_⟩
  · cases okB x <;> cases okB y <;> simp [tot, sameC]
  · rw [h.1, h.2]
    exact fun A => same_true h.1 h.2
theorem andW (x : Int) (L : List Int) (hL : L.length ≤ 1048576) : ∃ (o : Bool) (R : List (List Int)), Told 32 33 (fun u => #[.int .i64 x, u]) L R o ∧ (o = true → ∀ A, cnfT A R = (litT A x == ((cntL A L : Int) == (L.length : Int)))) := by
  refine ⟨okB x && listB L, if (okB x && listB L) then andC (-x) x L else [], ⟨small (ans_tot fun h => ?_), fun w u h => (specAndGate x u L w hL h).mono fun e w' h => ans_form h, fun w u lo hi h hh => (implAndGate x u L lo hi w hL h hh).mono fun e w' h => ans_form h⟩, fun h => ?_⟩
  · simp only [Bool.and_eq_true] at h
    have hl := (list_ok h.2).1
    refine tot_few (by rw [andC_len]; omega) fun C hC => ?_
    unfold andC andP at hC
    rw [List.mem_append, List.mem_map, List.mem_singleton] at hC
    rcases hC with ⟨y, _, rfl⟩ | rfl
    · simp
    · simp [negL]
      omega
  · rw [h]
    simp only [Bool.and_eq_true] at h
    exact fun A => and_true h.1 (list_ok h.2).2
end Go.Proofs.Ytmmfhcfanbfniaa.t2
