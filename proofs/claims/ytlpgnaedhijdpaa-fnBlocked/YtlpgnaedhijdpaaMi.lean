/- Plain mathematics of implying: a formula implies a clause just when it cannot be true with the clause's opposites, and just when the clause beside it takes nothing away; no condition but that all are of the same variables. -/
import Derived.Test.YtlpgnaedhijdpaaCw
import Derived.Test.YtlpgnaedhijdpaaMf
namespace Go.Proofs.Ytlpgnaedhijdpaa.mi
open Go.RowKit
open Go.Proofs.Ytlpgnaedhijdpaa.lits (okB varI okB_iff)
open Go.Proofs.Ytlpgnaedhijdpaa.tr (litT clT cnfT)
open Go.Proofs.Ytlpgnaedhijdpaa.ok (cnfB clB litIn)
open Go.Proofs.Ytlpgnaedhijdpaa.ct (countI countN impB impN)
open Go.Proofs.Ytlpgnaedhijdpaa.cnt (cntR asg)

/-- the opposites of a clause's literals, a clause each -/
def negs (L : List Int) : List (List Int) := L.map fun x => [-x]
theorem negs_len (L : List Int) : (negs L).length = L.length := List.length_map ..
theorem negs_tot (L : List Int) : css.tot (negs L) = 2 * L.length := by
  unfold css.tot
  rw [negs_len]
  have : ((negs L).map List.length).sum = L.length := by
    induction L with
    | nil => rfl
    | cons x l ih =>
      show 1 + ((negs l).map List.length).sum = l.length + 1
      rw [ih]
      omega
  omega
theorem negs_step (L : List Int) (k : Nat) (h : k < L.length) : negs (L.take (k + 1)) = negs (L.take k) ++ [[-(L.getD k 0)]] := by
  rw [List.take_succ_eq_append_getElem h]
  unfold negs
  rw [List.map_append, show L.getD k 0 = L[k] by simp [h]]
  rfl
theorem cnfT_app (A : List Int) (LL MM : List (List Int)) : cnfT A (LL ++ MM) = (cnfT A LL && cnfT A MM) := by
  unfold tr.cnfT
  rw [List.all_append]
theorem lit_neg {n : Int} {A : List Int} {x : Int} (hA : (A.length : Int) = n) (h : litIn n x = true) : litT A (-x) = !litT A x := by
  have hp := mf.litIn_pl h
  have hv := mf.var_pl hp.1
  have h0 := (okB_iff.1 hp.1).1
  have hl : mf.pl x < A.length := by omega
  rw [tr.litT_near hv.1 hl, tr.litT_near hv.2 hl]
  by_cases hx : 0 < x
  · rw [decide_eq_true hx, decide_eq_false (show ¬ 0 < -x by omega)]
    cases decide (A.getD (mf.pl x) 0 = 1) <;> rfl
  · rw [decide_eq_false hx, decide_eq_true (show 0 < -x by omega)]
    cases decide (A.getD (mf.pl x) 0 = 1) <;> rfl
theorem negs_T {n : Int} {A L : List Int} (hA : (A.length : Int) = n) (h : L.all (litIn n) = true) : cnfT A (negs L) = !clT A L := by
  induction L with
  | nil => rfl
  | cons x l ih =>
    rw [List.all_cons, Bool.and_eq_true] at h
    have i := ih h.2
    have e1 : cnfT A (negs (x :: l)) = (clT A [-x] && cnfT A (negs l)) := rfl
    have e2 : clT A (x :: l) = (litT A x || clT A l) := rfl
    have e3 : clT A [-x] = litT A (-x) := by
      unfold tr.clT
      simp
    rw [e1, e2, e3, i, lit_neg hA h.1]
    cases litT A x <;> cases clT A l <;> rfl
theorem cnfB_parts {n : Int} {LL : List (List Int)} (h : cnfB n LL = true) : (0 ≤ n ∧ n ≤ 24) ∧ LL.length ≤ 120 ∧ LL.all (clB n) = true := by
  unfold ok.cnfB at h
  simp only [Bool.and_eq_true, decide_eq_true_iff] at h
  exact ⟨h.1.1, h.1.2, h.2⟩
theorem cnfB_mk {n : Int} {LL : List (List Int)} (h : (0 ≤ n ∧ n ≤ 24) ∧ LL.length ≤ 120 ∧ LL.all (clB n) = true) : cnfB n LL = true := by
  unfold ok.cnfB
  rw [decide_eq_true h.1, decide_eq_true h.2.1, h.2.2]
  rfl
theorem cnfB_app {n : Int} {LL MM : List (List Int)} (h : cnfB n LL = true) (k : MM.all (clB n) = true) (hl : LL.length + MM.length ≤ 120) : cnfB n (LL ++ MM) = true := by
  have p := cnfB_parts h
  refine cnfB_mk ⟨p.1, by rw [List.length_append]; exact hl, ?_⟩
  rw [List.all_append, p.2.2, k]
  rfl
theorem negs_ok {n : Int} {L : List Int} (h : L.all (litIn n) = true) : (negs L).all (clB n) = true := by
  rw [List.all_eq_true] at *
  intro K hK
  obtain ⟨x, hx, rfl⟩ := List.mem_map.1 hK
  unfold ok.clB
  rw [List.all_cons, mf.litIn_neg (h x hx)]
  rfl
theorem count_eq {m : Nat} {LL : List (List Int)} (hm : m ≤ 14) (h : cnfB (m : Int) LL = true) : countI (m : Int) LL = (cntR (2 ^ m) (fun k => cnfT (asg m k []) LL) : Int) := by
  unfold ct.countI ct.countN
  rw [h, decide_eq_true (show (m : Int) ≤ 14 by omega), Int.toNat_natCast]
  rfl
theorem imp_eq {m : Nat} {LL : List (List Int)} {L : List Int} (hm : m ≤ 14) (h : cnfB (m : Int) LL = true) (hL : clB (m : Int) L = true) : impB (m : Int) LL L = decide (cntR (2 ^ m) (fun k => cnfT (asg m k []) LL && !clT (asg m k []) L) = 0) := by
  unfold ct.impB
  rw [h, hL, decide_eq_true (show (m : Int) ≤ 14 by omega), Int.toNat_natCast]
  unfold ct.impN
  rw [cw.all_cnt]
  have e : (fun k => !(!(cnfT (asg m k []) LL) || clT (asg m k []) L)) = (fun k => cnfT (asg m k []) LL && !clT (asg m k []) L) := by
    funext k
    cases cnfT (asg m k []) LL <;> cases clT (asg m k []) L <;> rfl
  rw [e]
  rfl
theorem imp_count {m : Nat} {LL : List (List Int)} {L : List Int} (hm : m ≤ 14) (h : cnfB (m : Int) LL = true) (hL : clB (m : Int) L = true) (hl : LL.length + L.length ≤ 120) :
    cnfB (m : Int) (LL ++ negs L) = true ∧ impB (m : Int) LL L = (countI (m : Int) (LL ++ negs L) == 0) := by
  have ha := cw.clB_all hL
  have hn : cnfB (m : Int) (LL ++ negs L) = true := cnfB_app h (negs_ok ha) (by rw [negs_len]; exact hl)
  refine ⟨hn, ?_⟩
  rw [imp_eq hm h hL, count_eq hm hn]
  have e : (fun k => cnfT (asg m k []) (LL ++ negs L)) = (fun k => cnfT (asg m k []) LL && !clT (asg m k []) L) := by
    funext k
    rw [cnfT_app, negs_T (n := (m : Int)) (by rw [cnt.asg_len]; simp) ha]
  rw [e, Bool.eq_iff_iff]
  simp
theorem cnt_split (P : Nat) (f g : Nat → Bool) : cntR P (fun k => f k && g k) + cntR P (fun k => f k && !g k) = cntR P f := by
  induction P with
  | zero => rfl
  | succ P ih =>
    rw [cnt.cntR_succ, cnt.cntR_succ, cnt.cntR_succ]
    cases f P <;> cases g P <;> simp <;> omega
theorem one_T (A L : List Int) : cnfT A [L] = clT A L := by
  unfold tr.cnfT
  simp
theorem join_count {m : Nat} {LL : List (List Int)} {L : List Int} (hm : m ≤ 14) (h : cnfB (m : Int) LL = true) (hL : clB (m : Int) L = true) (hl : LL.length + 1 ≤ 120) :
    (countI (m : Int) (LL ++ [L]) == countI (m : Int) LL) = impB (m : Int) LL L ∧ impB (m : Int) (LL ++ [L]) L = true := by
  have hn : cnfB (m : Int) (LL ++ [L]) = true := cnfB_app h (by simp [hL]) (by simpa using hl)
  have e : (fun k => cnfT (asg m k []) (LL ++ [L])) = (fun k => cnfT (asg m k []) LL && clT (asg m k []) L) := by
    funext k
    rw [cnfT_app, one_T]
  constructor
  · rw [imp_eq hm h hL, count_eq hm hn, count_eq hm h, e]
    have s := cnt_split (2 ^ m) (fun k => cnfT (asg m k []) LL) (fun k => clT (asg m k []) L)
    rw [Bool.eq_iff_iff]
    simp only [beq_iff_eq, decide_eq_true_iff]
    omega
  · rw [imp_eq hm hn hL]
    have e2 : (fun k => cnfT (asg m k []) (LL ++ [L]) && !clT (asg m k []) L) = (fun _ => false) := by
      funext k
      rw [cnfT_app, one_T]
      cases cnfT (asg m k []) LL <;> cases clT (asg m k []) L <;> rfl
    rw [e2]
    unfold cnt.cntR
    simp
end Go.Proofs.Ytlpgnaedhijdpaa.mi
