/- Mathematics of AtMost, AtLeast and Exactly: their clauses are true just where so many literals are; conditions: literals that are some. -/
import Derived.Test.YtfhmdpbnnieohaaDoorJPt
import Derived.Test.YtfhmdpbnnieohaaDoorJXT1
namespace Go.Proofs.YtfhmdpbnnieohaaDoor.t2
open lits (okB okB_iff varI)
open sp (negL)
open tr (litT clT cnfT)
open t1 (cntL)
set_option linter.unusedVariables false
theorem subs_true (q : Int → Bool) : ∀ (M : List Int) (m : Nat), (subs M m).all (fun C => C.any q) = decide (M.countP (fun x => !q x) < m)
 | M, 0 => by rw [subs_zero]; simp
 | [], m + 1 => by simp [subs]
 | x :: M, m + 1 => by
  have h1 := subs_true q M m
  have h2 := subs_true q M (m + 1)
  rw [subs, List.all_append, List.all_map, h2, List.countP_cons]
  cases hx : q x
  ·have e : ((fun C : List Int => C.any q) ∘ (x :: ·)) = fun C => C.any q := by funext C; simp [hx]
   rw [e, h1, Bool.eq_iff_iff]
   simp only [Bool.and_eq_true, decide_eq_true_eq, Bool.not_false, if_true]
   omega
  ·have e : ((fun C : List Int => C.any q) ∘ (x :: ·)) = fun C => true := by funext C; simp [hx]
   rw [e]
   simp
theorem lit_neg {A : List Int} {x : Int} (h : okB x = true) : litT A (-x) = !litT A x := by
 obtain ⟨h0, h1, h2⟩ := okB_iff.1 h
 have v1 := lits.varI_yes ⟨h0, h1, h2⟩
 have v2 := lits.varI_yes (x := -x) ⟨by omega, by omega, by omega⟩
 have e : varI (-x) = varI x := by rw [v1, v2]; split <;> split <;> omega
 have n0 : varI x ≠ 0 := by rw [v1]; split <;> omega
 unfold litT
 rw [e, if_neg n0, if_neg n0]
 generalize (decide (varI x ≤ (A.length : Int)) && decide (A.getD (varI x - 1).toNat 0 = 1)) = b
 by_cases hp : 0 < x
 ·have hn : ¬ (0 < -x) := by omega
  rw [decide_eq_true hp, decide_eq_false hn]
  cases b <;> rfl
 ·have hn : 0 < -x := by omega
  rw [decide_eq_false hp, decide_eq_true hn]
  cases b <;> rfl
theorem neg_count {A : List Int} : ∀ {L : List Int}, (∀ x ∈ L, okB x = true) → (negL L).countP (fun x => !litT A x) = cntL A L
 | [], _ => rfl
 | x :: L, h => by
  have ih := neg_count (A := A) (L := L) (fun y hy => h y (List.mem_cons_of_mem _ hy))
  have hx := lit_neg (A := A) (h x (List.mem_cons_self ..))
  unfold negL cntL at *
  rw [List.map_cons, List.countP_cons, List.countP_cons, ih, hx, Bool.not_not]
theorem not_count (A L : List Int) : L.countP (fun x => !litT A x) + cntL A L = L.length := by
 unfold cntL
 induction L with
 | nil => rfl
 | cons x L ih =>
  rw [List.countP_cons, List.countP_cons, List.length_cons]
  cases litT A x <;> simp <;> omega
def mostC (L : List Int) (k : Int) : List (List Int) := subs (negL L) ((min k (L.length : Int)).toNat + 1)
def leastC (L : List Int) (k : Int) : List (List Int) := subs L (L.length + 1 - (max 0 (min k ((L.length : Int) + 1))).toNat)
theorem most_true {A L : List Int} {k : Int} (hL : ∀ x ∈ L, okB x = true) (hk : 0 ≤ k) : cnfT A (mostC L k) = decide ((cntL A L : Int) ≤ k) := by
 have h := subs_true (litT A) (negL L) ((min k (L.length : Int)).toNat + 1)
 rw [neg_count hL] at h
 have hc := t1.cnt_le A L
 show (subs (negL L) ((min k (L.length : Int)).toNat + 1)).all (fun C => C.any (litT A)) = _
 rw [h]
 exact decide_eq_decide.2 (by omega)
theorem least_true {A L : List Int} {k : Int} : cnfT A (leastC L k) = decide (k ≤ (cntL A L : Int)) := by
 have h := subs_true (litT A) L (L.length + 1 - (max 0 (min k ((L.length : Int) + 1))).toNat)
 have hc := not_count A L
 show (subs L (L.length + 1 - (max 0 (min k ((L.length : Int) + 1))).toNat)).all (fun C => C.any (litT A)) = _
 rw [h]
 exact decide_eq_decide.2 (by omega)
theorem just_true {A L : List Int} {k : Int} (hL : ∀ x ∈ L, okB x = true) (hk : 0 ≤ k) : cnfT A (leastC L k ++ mostC L k) = decide ((cntL A L : Int) = k) := by
 unfold cnfT
 rw [List.all_append]
 have h1 := most_true (A := A) hL hk
 have h2 := least_true (A := A) (L := L) (k := k)
 unfold cnfT at h1 h2
 rw [h1, h2, Bool.eq_iff_iff]
 simp only [Bool.and_eq_true, decide_eq_true_eq]
 omega
end Go.Proofs.YtfhmdpbnnieohaaDoor.t2
namespace Go.Proofs.YtfhmdpbnnieohaaDoor.t2
open Go.ChangeShapes Go.WideShapes Go.ChangeAt Go.RowKit
open lits (okB okB_iff)
open sl (Sl Own ints hide unhide ret_int ret_bool grown_refl grown_trans grown_drewN)
open css (Sls OwnS tot Apart own_ne own_ne' own_kind own_mono)
open cf (Box)
open wo (Made)
open sp (negL)
set_option linter.unusedVariables false
set_option maxRecDepth 10000 in
set_option maxHeartbeats 4000000 in
theorem atMost (p : Nat) (v u : Value) (r : Bool) (CC : List (List Int)) (k : Int) (L : List Int) (lo hi : Nat) (W0 w : World) (hL : L.length ≤ 24) (hk : 0 ≤ k) (hc : ∀ y ∈ L, okB y = true) (hl : CC.length ≤ 120) (hb : Bld W0 w p v r CC) (hu : Own lo hi w u L) :
  Calls Tryd.prog 18 #[.pointer (some ⟨p, 0, none⟩), .int .i64 k, u] w fun e w' => MetF W0 p v w (addsR r CC (mostC L k)) (addsC r CC (mostC L k)) e w' := by
 have OP := hide (sp.oppositesOf u L w (by omega) hc hu.sl)
 have E := hide (fun (w1 : World) (q : Value) (o : Made w w1 q (negL L)) (x : Int) (hx : x = min k (L.length : Int) + 1) => (show x = (((min k (L.length : Int)).toNat + 1 : Nat) : Int) by omega) ▸ eachSubset p ((min k (L.length : Int)).toNat + 1) v q r CC (negL L) _ _ W0 w1 (by omega) (by unfold negL; rw [List.length_map]; omega) hl (hb.kept o.2) (Own.of o.1))
 have VL := hide (v_lt hb)
 obtain ⟨ua, uc, rfl, _⟩ := hu.sl
 have hk' : ¬ k < 0 := by omega
 clear hb hu hc
 go_enter Tryd.func18, Tryd.ntmps18
 go_wp2_with fail
 refine (unhide OP).mono ?_; rintro e w1 ⟨q, rfl, m1⟩
 have E1 := hide (unhide E w1 q m1)
 have G1 := hide m1.2
 obtain ⟨qa, qc, rfl, _⟩ := (Own.of m1.1).sl
 clear m1 E OP
 go_wp2_with fail
 all_goals
  refine (unhide E1 _ (by omega)).mono ?_; rintro e w2 ⟨rfl, v2, b2, f2⟩
  have R := hide (And.intro b2 (Fr.up (unhide G1) f2 (unhide VL)))
  clear b2 f2 E1 VL G1
  go_wp2_with fail
  exact end0 rfl rfl ⟨rfl, v2, (unhide R).1, (unhide R).2⟩
set_option maxRecDepth 10000 in
set_option maxHeartbeats 4000000 in
theorem atLeast (p : Nat) (v u : Value) (r : Bool) (CC : List (List Int)) (k : Int) (L : List Int) (lo hi : Nat) (W0 w : World) (hL : L.length ≤ 24) (hk0 : -9223372036854775808 ≤ k) (hk1 : k ≤ 9223372036854775807) (hl : CC.length ≤ 120) (hb : Bld W0 w p v r CC) (hu : Own lo hi w u L) :
  Calls Tryd.prog 53 #[.pointer (some ⟨p, 0, none⟩), .int .i64 k, u] w fun e w' => MetF W0 p v w (addsR r CC (leastC L k)) (addsC r CC (leastC L k)) e w' := by
 have E := hide (fun (x : Int) (hx : x = (L.length : Int) + 1 - max 0 (min k ((L.length : Int) + 1))) => (show x = ((L.length + 1 - (max 0 (min k ((L.length : Int) + 1))).toNat : Nat) : Int) by omega) ▸ eachSubset p (L.length + 1 - (max 0 (min k ((L.length : Int) + 1))).toNat) v u r CC L _ _ W0 w (by omega) (by omega) hl hb hu)
 obtain ⟨ua, uc, rfl, _⟩ := hu.sl
 clear hb hu
 go_enter Tryd.func53, Tryd.ntmps53
 go_wp2_with fail
 all_goals
  refine (unhide E _ (by omega)).mono ?_; rintro e w2 ⟨rfl, v2, b2, f2⟩
  have R := hide (And.intro b2 f2)
  clear b2 f2 E
  go_wp2_with fail
  exact end0 rfl rfl ⟨rfl, v2, (unhide R).1, (unhide R).2⟩
set_option maxRecDepth 10000 in
set_option maxHeartbeats 4000000 in
theorem exactly (p : Nat) (v u : Value) (r : Bool) (CC : List (List Int)) (k : Int) (L : List Int) (lo hi : Nat) (W0 w : World) (hL : L.length ≤ 24) (hk0 : 0 ≤ k) (hk1 : k ≤ 9223372036854775807) (hc : ∀ y ∈ L, okB y = true) (hl : CC.length ≤ 120) (hb : Bld W0 w p v r CC) (hu : Own lo hi w u L) (hh : hi ≤ w.heap.size) :
  Calls Tryd.prog 31 #[.pointer (some ⟨p, 0, none⟩), .int .i64 k, u] w fun e w' => MetF W0 p v w (addsR r CC (leastC L k ++ mostC L k)) (addsC r CC (leastC L k ++ mostC L k)) e w' := by
 have A := hide (atLeast p v u r CC k L lo hi W0 w hL (by omega) hk1 hl hb hu)
 have B := hide (fun (w1 : World) (v1 : Value) (b1 : Bld W0 w1 p v1 (addsR r CC (leastC L k)) (addsC r CC (leastC L k))) (f1 : Fr p v v1 w w1) => atMost p v1 u _ _ k L lo hi W0 w1 hL hk0 hc (adds_len _ _ _ hl) b1 (f1.list hb hu hh))
 have E := adds_app (leastC L k) r CC (mostC L k)
 rw [E.1, E.2]
 obtain ⟨ua, uc, rfl, _⟩ := hu.sl
 clear hb hu E hc
 go_enter Tryd.func31, Tryd.ntmps31
 go_wp2_with fail
 refine (unhide A).mono ?_; rintro e w1 ⟨rfl, v1, b1, f1⟩
 have B1 := hide (unhide B w1 v1 b1 f1)
 have F1 := hide f1
 clear b1 f1 A B
 go_wp2_with fail
 refine (unhide B1).mono ?_; rintro e w2 ⟨rfl, v2, b2, f2⟩
 have R := hide (And.intro b2 ((unhide F1).trans f2))
 clear b2 f2 B1 F1
 go_wp2_with fail
 exact end0 rfl rfl ⟨rfl, v2, (unhide R).1, (unhide R).2⟩
end Go.Proofs.YtfhmdpbnnieohaaDoor.t2
namespace Go.Proofs.YtfhmdpbnnieohaaDoor.t2
open Go.ChangeShapes Go.WideShapes Go.ChangeAt Go.RowKit
open lits (okB okB_iff)
open sl (Sl Own ints hide unhide ret_int ret_bool grown_refl grown_trans grown_drewN)
open css (Sls OwnS tot Apart own_ne own_ne' own_kind own_mono)
open cf (Box)
set_option linter.unusedVariables false
def mostB (L : List Int) (k : Int) : Bool := listB L && decide (0 ≤ k) && decide ((mostC L k).length ≤ 120)
def leastB (L : List Int) (k : Int) : Bool := listB L && decide ((leastC L k).length ≤ 120)
def justB (L : List Int) (k : Int) : Bool := listB L && decide (0 ≤ k) && decide ((leastC L k ++ mostC L k).length ≤ 120)
theorem adds_fine {Cs : List (List Int)} : addsR false [] Cs = !decide (Cs.length ≤ 120) := by
 rw [adds_iff Cs [] (by simp), ← decide_not]
 exact decide_eq_decide.2 (by simp)
theorem adds_list {Cs : List (List Int)} (h : Cs.length ≤ 120) : addsC false [] Cs = Cs := by
 have := (adds_no Cs [] (by simpa using h)).2
 simpa using this
end Go.Proofs.YtfhmdpbnnieohaaDoor.t2
namespace Go.Proofs.YtfhmdpbnnieohaaDoor.t2
open Go.ChangeShapes Go.WideShapes Go.ChangeAt Go.RowKit
open lits (okB okB_iff)
open sl (Sl Own ints hide unhide ret_int ret_bool grown_refl grown_trans grown_drewN)
open css (Sls OwnS tot Apart own_ne own_ne' own_kind own_mono)
open cf (Box)
open wo (Made)
set_option linter.unusedVariables false
theorem choiceAt (x y z m : Int) (hm : (x - 1) * z = m) (h0 : 1 ≤ x ∧ x ≤ 1000) (h1 : 0 ≤ y ∧ y ≤ 1000) (h2 : 0 ≤ m ∧ m ≤ 100000) (w : World) :
  Calls Tryd.prog 17 #[.int .i64 x, .int .i64 y, .int .i64 z] w fun e w' => e = .returned (.int .i64 (m + y)) ∧ w' = w := by
 obtain ⟨x0, x1⟩ := h0
 obtain ⟨y0, y1⟩ := h1
 obtain ⟨m0, m1⟩ := h2
 go_enter Tryd.func17, Tryd.ntmps17
 go_wp2_with fail
 go_ret
 exact ⟨rfl, rfl⟩
def rowL (i n : Nat) : List Int := (List.range n).map fun j => ((i * n + (j + 1) : Nat) : Int)
theorem rowL_len (i n : Nat) : (rowL i n).length = n := by simp [rowL]
theorem rowL_step (i n k : Nat) (h : k < n) : (rowL i n).take (k + 1) = (rowL i n).take k ++ [((i * n + (k + 1) : Nat) : Int)] := by
 rw [List.take_succ_eq_append_getElem (by rw [rowL_len]; exact h)]
 simp [rowL]
set_option maxRecDepth 10000 in
set_option maxHeartbeats 4000000 in
theorem choicesOf (i n : Nat) (w : World) (hi : i ≤ 100) (hn : n ≤ 100) :
  Calls Tryd.prog 16 #[.int .i64 ((i : Int) + 1), .int .i64 (n : Int)] w fun e w' => ∃ r, e = .returned r ∧ Made w w' r (rowL i n) := by
 have mk := gc.mkI n (by omega)
 have ST : Hid (Made w (w.alloc (.cells (madeCells #[.int .i64 0] n) 3)) (.slice (some ⟨w.heap.size, 0, none⟩) 0 n) ((rowL i n).take 0)) := gc.madeI w n (by omega)
 have hin : i * n ≤ 10000 := by
  have := Nat.mul_le_mul hi hn
  omega
 have hmul : ((i : Int) + 1 - 1) * (n : Int) = ((i * n : Nat) : Int) := by rw [Int.add_sub_cancel, Int.natCast_mul]
 have CA := hide (fun (k : Nat) (hk : k < n) w => choiceAt ((i : Int) + 1) ((k : Int) + 1) n ((i * n : Nat) : Int) hmul (by omega) (by omega) (by omega) w)
 have RS := hide (rowL_step i n)
 have RL := hide (rowL_len i n)
 clear hmul
 generalize i * n = m at *
 generalize rowL i n = R at *
 go_enter Tryd.func16, Tryd.ntmps16
 go_wp2_with fail
 go_loopw [5, 6] (fun v j wr => ∃ k : Nat, k ≤ n ∧ j = .int .i64 ((k : Int) + 1) ∧ Hid (Made w wr v (R.take k))) (fun _ j _ => n + 1 - (intOf j).toNat)
 case atStart => exact ⟨0, Nat.zero_le _, rfl, ST⟩
 case round =>
  obtain ⟨k, hk, rfl, hm⟩ := hrel
  clear ST mk
  by_cases hlt : k < n
  ·have hi' : (k : Int) + 1 ≤ (n : Int) := by omega
   obtain ⟨va, vc, rfl, _⟩ := (Own.of (unhide hm).1).sl
   have lw : (R.take k).length ≤ 4194304 := by rw [List.length_take]; omega
   have rs := unhide RS k hlt
   obtain ⟨P2, hP2⟩ : ∃ P2, P2 = R.take (k + 1) := ⟨_, rfl⟩
   rw [← hP2, show ((m + (k + 1) : Nat) : Int) = (m : Int) + ((k : Int) + 1) by omega] at rs
   have HP := hide hP2
   have HR := hide rs
   clear hP2 rs
   generalize R.take k = P1 at *
   have hg := hide (unhide hm).2
   have ho := hide (unhide hm).1
   clear hm
   go_wp2_with fail
   refine (unhide CA k hlt _).mono ?_; rintro e w' ⟨rfl, hw⟩; have hw' := hw.symm; clear hw; subst hw'
   go_wp2_with (at_builtin; refine wo.append1 (unhide hg) (unhide ho) lw rfl _ _ rfl rfl rfl ?_)
   intro v' w2 R2
   have R3 : Hid (Made w w2 v' P2) := by
    rw [unhide HR]
    exact R2
   clear R2 HR hg ho
   go_wp2_with fail
   go_roundw
   case rel => exact ⟨k + 1, by omega, by go_num, by rw [← unhide HP]; exact R3⟩
   case measure => simp [intOf]; omega
  ·have hi' : ¬ (k : Int) + 1 ≤ (n : Int) := by omega
   have e : R.take k = R := List.take_of_length_le (by rw [unhide RL]; omega)
   rw [e] at hm
   obtain ⟨va, vc, rfl, _⟩ := (Own.of (unhide hm).1).sl
   clear e
   go_wp2_with fail
   go_ret
   exact ⟨_, rfl, unhide hm⟩
end Go.Proofs.YtfhmdpbnnieohaaDoor.t2
namespace Go.Proofs.YtfhmdpbnnieohaaDoor.t2
open Go.ChangeShapes Go.WideShapes Go.ChangeAt Go.RowKit
open lits (okB okB_iff)
open sl (Sl Own ints hide unhide ret_int ret_bool grown_refl grown_trans grown_drewN)
open css (Sls OwnS tot Apart own_ne own_ne' own_kind own_mono)
open cf (Box)
open wo (Made)
set_option linter.unusedVariables false
def colL (j n : Nat) : List Int := (List.range (n + 1)).map fun i => ((i * n + j : Nat) : Int)
theorem colL_len (j n : Nat) : (colL j n).length = n + 1 := by simp [colL]
theorem colL_step (j n k : Nat) (h : k < n + 1) : (colL j n).take (k + 1) = (colL j n).take k ++ [((k * n + j : Nat) : Int)] := by
 rw [List.take_succ_eq_append_getElem (by rw [colL_len]; exact h)]
 simp [colL]
theorem colL_ok (j n : Nat) (hn : n ≤ 4) (h0 : 1 ≤ j) (h1 : j ≤ n) : ∀ y ∈ colL j n, okB y = true := by
 intro y h
 unfold colL at h
 rw [List.mem_map] at h
 obtain ⟨i, hi, rfl⟩ := h
 rw [List.mem_range] at hi
 have := Nat.mul_le_mul (show i ≤ 4 by omega) hn
 exact okB_iff.2 ⟨by omega, by omega, by omega⟩
def rowsT (n k : Nat) : List (List Int) := (List.range k).map fun i => rowL i n
theorem rowsT_step (n k : Nat) : rowsT n (k + 1) = rowsT n k ++ [rowL k n] := by
 unfold rowsT
 rw [List.range_succ, List.map_append]
 rfl
def colsT (n k : Nat) : List (List Int) := (List.range k).flatMap fun j => mostC (colL (j + 1) n) 1
theorem colsT_step (n k : Nat) : colsT n (k + 1) = colsT n k ++ mostC (colL (k + 1) n) 1 := by
 unfold colsT
 rw [List.range_succ, List.flatMap_append]
 simp
def pigC (n : Nat) : List (List Int) := rowsT n (n + 1) ++ colsT n n
theorem pig_len {n : Nat} (h0 : 1 ≤ n) (h1 : n ≤ 4) : (pigC n).length ≤ 120 := by
 have : n = 1 ∨ n = 2 ∨ n = 3 ∨ n = 4 := by omega
 rcases this with rfl | rfl | rfl | rfl <;> decide +kernel
def CnfE (w : World) (b : Bool) (N : Int) (R : List (List Int)) (e : Ending) (w' : World) : Prop :=
 ∃ a c, e = .returned (.tuple #[.agg #[.int .i64 (if b then N else 0), .slice a (if b then R else []).length c], .bool b]) ∧ OwnS w.heap.size w'.heap.size w' (.slice a (if b then R else []).length c) (if b then R else []) ∧ w.grownBy w' none
theorem cnf_no (w : World) {N : Int} {R : List (List Int)} : CnfE w false N R (.returned (.tuple #[.agg #[.int .i64 0, .slice none 0 0], .bool false])) (w.alloc (.cells #[.int .i64 0, .slice none 0 0] 27)) :=
 ⟨none, 0, rfl, ownS_nil .., World.grownBy_alloc ..⟩
theorem AndI.more {W0 w wr w2 : World} {p : Nat} {v v1 v2 : Value} {r : Bool} {CC P Q PQ : List (List Int)} (f1 : Fr p v v1 w wr) (e : PQ = P ++ Q) (b2 : Bld W0 w2 p v2 (addsR (addsR r CC P) (addsC r CC P) Q) (addsC (addsR r CC P) (addsC r CC P) Q)) (f2 : Fr p v1 v2 wr w2) : AndI W0 p v w r CC PQ w2 := by
 subst e
 have a := adds_app P r CC Q
 refine ⟨v2, ?_, f1.trans f2⟩
 rw [a.1, a.2]
 exact b2
set_option maxRecDepth 10000 in
set_option maxHeartbeats 8000000 in
theorem implPigeon (n : Nat) (w : World) (hn0 : 1 ≤ n) (hn : n ≤ 4) :
  Calls Tryd.prog 6 #[.int .i64 (n : Int)] w fun e w' => CnfE w true ((n + 1 : Int) * n) (pigC n) e w' := by
 have gR := World.grownBy_alloc w (.cells #[.int .i64 0, .slice none 0 0] 27) none
 have bR := Box.new 27 w (.int .i64 0) (.slice none 0 0)
 obtain ⟨W0, hW0⟩ : ∃ W0, W0 = w.alloc (.cells #[.int .i64 0, .slice none 0 0] 27) := ⟨_, rfl⟩
 have hs0 : W0.heap.size = w.heap.size + 1 := by rw [hW0, World.size_alloc]
 rw [← hW0] at gR bR
 have hb := Bld.new W0
 obtain ⟨W1, hW1⟩ : ∃ W1, W1 = W0.alloc (.cells #[.slice none 0 0, .bool false] 44) := ⟨_, rfl⟩
 rw [← hW1] at hb
 have ST : Hid (AndI W0 W0.heap.size (.slice none 0 0) W1 false [] (rowsT n 0) W1) := ⟨_, hb, Fr.refl ..⟩
 have GR := hide gR
 have BR := hide bR
 have E1 := hide hW1
 have E0 := hide hW0
 have hn0' : (1 : Int) ≤ (n : Int) := by omega
 have hn' : (n : Int) ≤ 4 := by omega
 rw [hs0] at ST
 have HS := hide hs0
 clear gR bR hW0 hW1 hb hs0
 go_enter Tryd.func6, Tryd.ntmps6
 go_wp2_with fail
 rw [← unhide E0, ← unhide E1]
 go_loopw [5] (fun j wr => ∃ k : Nat, k ≤ n + 1 ∧ j = .int .i64 ((k : Int) + 1) ∧ Hid (AndI W0 (w.heap.size + 1) (.slice none 0 0) W1 false [] (rowsT n k) wr)) (fun j _ => n + 2 - (intOf j).toNat)
 case atStart => exact ⟨0, Nat.zero_le _, rfl, ST⟩
 case round =>
  obtain ⟨k, hk, rfl, hm⟩ := hrel
  clear ST
  by_cases hlt : k < n + 1
  ·have hi' : (k : Int) + 1 ≤ (n : Int) + 1 := by omega
   obtain ⟨v1, b1, f1⟩ := unhide hm
   have B1 := hide b1
   have F1 := hide f1
   have ln := hide (adds_len (rowsT n k) false [] (by simp))
   have CH := hide (choicesOf k n wr (by omega) (by omega))
   clear b1 f1 hm
   go_wp2_with fail
   refine (unhide CH).mono ?_; rintro e w2 ⟨q, rfl, m2⟩
   have A1 := hide (add (w.heap.size + 1) v1 q _ _ (rowL k n) _ _ W0 w2 (by rw [rowL_len]; omega) (unhide ln) ((unhide B1).kept m2.2) (Own.of m2.1))
   have G2 := hide m2.2
   obtain ⟨qa, qc, rfl, _⟩ := (Own.of m2.1).sl
   clear m2 CH
   go_wp2_with fail
   refine (unhide A1).mono ?_; rintro e w3 ⟨rfl, v3, b3, f3⟩
   have R : Hid (AndI W0 (w.heap.size + 1) (.slice none 0 0) W1 false [] (rowsT n (k + 1)) w3) := AndI.more (unhide F1) (rowsT_step n k) b3 (Fr.up (unhide G2) f3 (v_lt (unhide B1)))
   clear b3 f3 A1 B1 F1 G2 ln
   go_wp2_with fail
   go_roundw
   case rel => exact ⟨k + 1, by omega, by go_num, R⟩
   case measure => simp [intOf]; omega
  ·have hi' : ¬ (k : Int) + 1 ≤ (n : Int) + 1 := by omega
   have e : k = n + 1 := by omega
   subst e
   have ST2 : Hid (AndI W0 (w.heap.size + 1) (.slice none 0 0) W1 false [] (rowsT n (n + 1) ++ colsT n 0) wr) := by
    show AndI W0 (w.heap.size + 1) (.slice none 0 0) W1 false [] (rowsT n (n + 1) ++ []) wr
    rw [List.append_nil]
    exact unhide hm
   clear hm hlt hk
   go_wp2_with fail
   go_loopw [6] (fun j wr => ∃ k : Nat, k ≤ n ∧ j = .int .i64 ((k : Int) + 1) ∧ Hid (AndI W0 (w.heap.size + 1) (.slice none 0 0) W1 false [] (rowsT n (n + 1) ++ colsT n k) wr)) (fun j _ => n + 1 - (intOf j).toNat)
   case atStart => exact ⟨0, Nat.zero_le _, rfl, ST2⟩
   case round =>
    obtain ⟨k, hk, rfl, hm⟩ := hrel
    clear ST2
    by_cases hlt : k < n
    ·have hi' : (k : Int) + 1 ≤ (n : Int) := by omega
     obtain ⟨v1, b1, f1⟩ := unhide hm
     have B1 := hide b1
     have F1 := hide f1
     have ln := hide (adds_len (rowsT n (n + 1) ++ colsT n k) false [] (by simp))
     have CA := hide (fun (i : Nat) (hi : i < n + 1) w => choiceAt ((i : Int) + 1) ((k : Int) + 1) n ((i * n : Nat) : Int) (by rw [Int.add_sub_cancel, Int.natCast_mul]) (by omega) (by omega) (by have := Nat.mul_le_mul (show i ≤ 4 by omega) hn; omega) w)
     have CS := hide (colL_step (k + 1) n)
     have CL := hide (colL_len (k + 1) n)
     have CO := hide (colL_ok (k + 1) n hn (by omega) (by omega))
     have TS := hide (colsT_step n k)
     obtain ⟨wo_, hwo⟩ : ∃ wo_, wo_ = wr := ⟨_, rfl⟩
     have mk := gc.mkI (n + 1) (by omega) wr
     rw [show ((n + 1 : Nat) : Int) = (n : Int) + 1 by omega] at mk
     have ST3 : Hid (Made wr (wr.alloc (.cells (madeCells #[.int .i64 0] (n + 1)) 3)) (.slice (some ⟨wr.heap.size, 0, none⟩) 0 (n + 1)) ((colL (k + 1) n).take 0)) := gc.madeI wr (n + 1) (by omega)
     clear b1 f1 hm
     generalize colL (k + 1) n = C at *
     go_wp2_with fail
     rw [← hwo] at ST3 B1 F1
     go_loopw [7, 8] (fun v i wx => ∃ k2 : Nat, k2 ≤ n + 1 ∧ i = .int .i64 ((k2 : Int) + 1) ∧ Hid (Made wo_ wx v (C.take k2))) (fun _ i _ => n + 2 - (intOf i).toNat)
     case atStart => exact ⟨0, Nat.zero_le _, rfl, by rw [hwo]; rw [hwo] at ST3; exact ST3⟩
     case round =>
      obtain ⟨k2, hk2, rfl, hc⟩ := hrel
      clear ST3 mk hwo
      by_cases hlt2 : k2 < n + 1
      ·have hi2 : (k2 : Int) + 1 ≤ (n : Int) + 1 := by omega
       obtain ⟨va, vc, rfl, _⟩ := (Own.of (unhide hc).1).sl
       have lw : (C.take k2).length ≤ 4194304 := by rw [List.length_take]; omega
       have rs := unhide CS k2 hlt2
       have CA2 := hide (unhide CA k2 hlt2)
       obtain ⟨P2, hP2⟩ : ∃ P2, P2 = C.take (k2 + 1) := ⟨_, rfl⟩
       rw [← hP2, show ((k2 * n + (k + 1) : Nat) : Int) = ((k2 * n : Nat) : Int) + ((k : Int) + 1) by omega] at rs
       have HP := hide hP2
       have HR := hide rs
       clear hP2 rs
       generalize C.take k2 = P1 at *
       generalize k2 * n = mm at *
       have hg := hide (unhide hc).2
       have ho := hide (unhide hc).1
       clear hc
       go_wp2_with fail
       refine (unhide CA2 _).mono ?_; rintro e w' ⟨rfl, hw⟩; have hw' := hw.symm; clear hw; subst hw'
       go_wp2_with (at_builtin; refine wo.append1 (unhide hg) (unhide ho) lw rfl _ _ rfl rfl rfl ?_)
       intro v' w2 R2
       have R3 : Hid (Made wo_ w2 v' P2) := by
        rw [unhide HR]
        exact R2
       clear R2 HR hg ho CA2
       go_wp2_with fail
       go_roundw
       case rel => exact ⟨k2 + 1, by omega, by go_num, by rw [← unhide HP]; exact R3⟩
       case measure => simp [intOf]; omega
      ·have hi2 : ¬ (k2 : Int) + 1 ≤ (n : Int) + 1 := by omega
       have e : C.take k2 = C := List.take_of_length_le (by rw [unhide CL]; omega)
       rw [e] at hc
       have A1 := hide (atMost (w.heap.size + 1) v1 _ _ _ 1 C _ _ W0 wr (by rw [unhide CL]; omega) (by omega) (unhide CO) (unhide ln) ((unhide B1).kept (unhide hc).2) (Own.of (unhide hc).1))
       have G2 := hide (unhide hc).2
       obtain ⟨va, vc, rfl, _⟩ := (Own.of (unhide hc).1).sl
       obtain ⟨P2, hP2⟩ : ∃ P2, P2 = colsT n (k + 1) := ⟨_, rfl⟩
       have ts := unhide TS
       rw [← hP2] at ts
       have HE := hide hP2
       have HT := hide ts
       clear e hc CS CL CO CA TS ts hP2
       go_wp2_with fail
       refine (unhide A1).mono ?_; rintro e w3 ⟨rfl, v3, b3, f3⟩
       have R : Hid (AndI W0 (w.heap.size + 1) (.slice none 0 0) W1 false [] (rowsT n (n + 1) ++ P2) w3) := AndI.more (unhide F1) (by rw [unhide HT, List.append_assoc]) b3 (Fr.up (unhide G2) f3 (v_lt (unhide B1)))
       clear b3 f3 A1 B1 F1 G2 ln HT
       go_wp2_with fail
       go_roundw
       case rel => exact ⟨k + 1, by omega, by go_num, by rw [← unhide HE]; exact R⟩
       case measure => simp [intOf]; omega
    ·have hi' : ¬ (k : Int) + 1 ≤ (n : Int) := by omega
     have e : k = n := by omega
     subst e
     have hlen := pig_len hn0 hn
     have hR : addsR false [] (rowsT k (k + 1) ++ colsT k k) = false := by
      have := adds_fine (Cs := pigC k)
      rw [decide_eq_true hlen] at this
      exact this
     have hC : addsC false [] (rowsT k (k + 1) ++ colsT k k) = pigC k := adds_list hlen
     obtain ⟨v1, b1, f1⟩ := unhide hm
     rw [hR, hC] at b1
     have hmul : ((k : Int) + 1) * (k : Int) = (((k + 1) * k : Nat) : Int) := by rw [Int.natCast_mul]; rfl
     have hms : (k + 1) * k ≤ 100 := by
      have := Nat.mul_le_mul (show k + 1 ≤ 5 by omega) hn
      omega
     have FO := hide (formula _ v1 false (pigC k) (((k + 1) * k : Nat) : Int) W0 wr b1)
     have B1 := hide b1
     have NN := hide hmul
     generalize (k + 1) * k = mm at *
     generalize hRR : pigC k = R at *
     have HRR := hide hRR
     clear hRR
     clear hm b1 f1 hR hC hlen
     go_wp2_with fail
     refine (unhide FO).mono ?_; rintro e w3 ⟨q, rfl, o3, g3⟩
     have o3' : OwnS W0.heap.size w3.heap.size w3 q R := o3
     obtain ⟨qa, qc, rfl⟩ := o3'.len
     have GG := grown_trans (r := none) (unhide B1).g g3
     have BX := (unhide BR).kept GG
     have z0 := BX.c0
     have z1 := BX.c1
     have zf0 := BX.f 0
     have zf1 := BX.f 1
     have O3 := hide o3'
     have G3 := hide GG
     have BXX := hide BX
     clear o3 o3' g3 FO B1 GG BX
     have S0 := hide (unhide HS)
     go_wp2_with fail
     (try simp only [Exit.inBlock, Exit.then])
     refine bodyPost_ret (cf.ret_box2 rfl rfl (((unhide BXX).set0 _).set1 _)) rfl ?_
     rw [unhide HRR, unhide NN]
     have hs := unhide S0
     refine ⟨qa, qc, rfl, ?_, cf.grown_set (cf.grown_set (grown_trans (unhide GR) (unhide G3)) (Nat.le_refl _)) (Nat.le_refl _)⟩
     rw [cf.size_set, cf.size_set]
     exact (cf.ownS_set (cf.ownS_set (unhide O3) (.inl (by omega))) (.inl (by omega))).sub (by omega) (Nat.le_refl _)
end Go.Proofs.YtfhmdpbnnieohaaDoor.t2
